/- does, of Find. -/
import Derived.Test.YtncpohimjmakpaaSm
namespace Go.Proofs.Ytncpohimjmakpaa
open Go.ChangeShapes Go.WideShapes Go.ChangeAt Go.RowKit
set_option linter.unusedVariables false
set_option maxRecDepth 100000

structure Dst (w : World) (p B4 B5 B6 : Nat) (kd : UInt8) (a : Option Addr) (N c : Nat) (cs : List Cel) (k n : Int) (key val : ByteArray) (V : World) : Prop where
  pg : Pg V p (lay kd cs)
  sl : Sl cv 2 V (.slice a N c) cs
  b4 : Blk V B4 29 [.int .i64 (kd.toNat : Int), .slice a N c]
  b5 : Blk V B5 33 [.int .i64 k, .int .i64 n, .string key, .string val]
  b6 : Blk V B6 29 [.int .i64 0, .slice none 0 0]
  kp : Kept (fun _ => False) w V
  h6 : w.heap.size ≤ B6
  n4 : p ≠ B4
  n5 : p ≠ B5
  n6 : p ≠ B6
  n46 : B4 ≠ B6
  n56 : B5 ≠ B6
theorem Dst.step {w : World} {p B4 B5 B6 : Nat} {kd : UInt8} {a : Option Addr} {N c : Nat} {cs : List Cel} {k n : Int} {key val : ByteArray} {V V' : World} (h : Dst w p B4 B5 B6 kd a N c cs k n key val V) (q : Kept (fun _ => False) V V') : Dst w p B4 B5 B6 kd a N c cs k n key val V' :=
  ⟨h.pg.step q, h.sl.step cv_ne q, h.b4.step q, h.b5.step q, h.b6.step q, h.kp.trans q (fun _ z => z.elim), h.h6, h.n4, h.n5, h.n6, h.n46, h.n56⟩
theorem dst_new {w W : World} {p B4 B5 B6 : Nat} (kd : UInt8) (a : Option Addr) (N c : Nat) (cs : List Cel) (k n : Int) (key val : ByteArray) (g : Pg w p (lay kd cs)) (h : Sl cv 2 w (.slice a N c) cs) (hW : ((w.alloc (.cells #[.int .i64 (kd.toNat : Int), .slice a N c] 29)).alloc (.cells #[.int .i64 k, .int .i64 n, .string key, .string val] 33)).alloc (.cells #[.int .i64 0, .slice none 0 0] 29) = W) (hB4 : w.heap.size = B4) (hB5 : w.heap.size + 1 = B5) (hB6 : w.heap.size + 1 + 1 = B6) : Dst w p B4 B5 B6 kd a N c cs k n key val W := by
  have hk0 : Kept (fun _ => False) w W := hW ▸ (((Kept.refl _ w).alloc _).alloc _).alloc _
  have s1 : (w.alloc (.cells #[.int .i64 (kd.toNat : Int), .slice a N c] 29)).heap.size = w.heap.size + 1 := by simp
  have s2 : ((w.alloc (.cells #[.int .i64 (kd.toNat : Int), .slice a N c] 29)).alloc (.cells #[.int .i64 k, .int .i64 n, .string key, .string val] 33)).heap.size = w.heap.size + 1 + 1 := by simp
  have hp := g.lt
  refine ⟨g.step hk0, h.step cv_ne hk0, ?_, ?_, ?_, hk0, by omega, by omega, by omega, by omega, by omega, by omega⟩
  · rw [← hW, ← hB4]
    exact (Blk.new w 29 [.int .i64 (kd.toNat : Int), .slice a N c]).step (((Kept.refl _ _).alloc _).alloc _)
  · have := Blk.new (w.alloc (.cells #[.int .i64 (kd.toNat : Int), .slice a N c] 29)) 33 [.int .i64 k, .int .i64 n, .string key, .string val]
    rw [s1, hB5] at this
    rw [← hW]
    exact this.step ((Kept.refl _ _).alloc _)
  · have := Blk.new ((w.alloc (.cells #[.int .i64 (kd.toNat : Int), .slice a N c] 29)).alloc (.cells #[.int .i64 k, .int .i64 n, .string key, .string val] 33)) 29 [.int .i64 0, .slice none 0 0]
    rw [s2, hB6] at this
    rw [← hW]
    exact this
/-- What does gives. -/
def DoesE (kd : UInt8) (p : Nat) (w : World) (e : Ending) (w' : World) : Prop := ∃ (a2 : Option Addr) (N2 c2 : Nat) (cs2 : List Cel), e = .returned (.tuple #[rpg (kd.toNat : Int) (.slice a2 N2 c2), .bool true]) ∧ Pg w' p (lay kd cs2) ∧ Sl cv 2 w' (.slice a2 N2 c2) cs2 ∧ cs2.length = N2 ∧ okC cs2 ∧ ris cs2 ∧ Kept (fun i => i = p) w w'
theorem does_fin {w V : World} {p B6 : Nat} {kd : UInt8} {a2 : Option Addr} {N2 c2 : Nat} {cs2 : List Cel} (hp : Pg V p (lay kd cs2)) (hs : Sl cv 2 V (.slice a2 N2 c2) cs2) (hb : Blk V B6 29 [.int .i64 0, .slice none 0 0]) (k : Kept (fun i => i = p) w V) (hB : w.heap.size ≤ B6) (hne : p ≠ B6) (V' : World) (kV : Kept (fun _ => False) ((V.setCell ⟨B6, 0, none⟩ (.int .i64 (kd.toNat : Int))).setCell ⟨B6, 1, none⟩ (.slice a2 N2 c2)) V') :
    ((loadVar 29 ⟨B6, 0, none⟩).run Try.prog V' = .ok (rpg (kd.toNat : Int) (.slice a2 N2 c2)) V') ∧ Pg V' p (lay kd cs2) ∧ Sl cv 2 V' (.slice a2 N2 c2) cs2 ∧ Kept (fun i => i = p) w V' := by
  have k2 := Kept.two V B6 (.int .i64 (kd.toNat : Int)) (.slice a2 N2 c2)
  have b := (hb.two (.int .i64 (kd.toNat : Int)) (.slice a2 N2 c2)).step kV
  exact ⟨load29 (b.cell rfl) (b.cell rfl), (hp.kept k2 hne).step kV, (hs.box hb k2).step cv_ne kV, (k.trans k2 (fun i e => .inr (by rw [e]; exact hB))).trans kV (fun _ z => z.elim)⟩
set_option maxHeartbeats 4000000 in
theorem does_find {w : World} {p : Nat} (kd : UInt8) (a : Option Addr) (N c : Nat) (cs : List Cel) (hN : cs.length = N) (g : Pg w p (lay kd cs)) (h : Sl cv 2 w (.slice a N c) cs) (hok : okC cs) (hr : ris cs) (n : Int) (key val : ByteArray) : Calls Try.prog 12 #[.pointer (some ⟨p, 0, none⟩), rpg (kd.toNat : Int) (.slice a N c), .agg #[.int .i64 3, .int .i64 n, .string key, .string val]] w fun e w' => DoesE kd p w e w' := by
  have hN1 : N ≤ 124 := by rw [← hN]; exact (okC_fit hok).1
  obtain ⟨W, hW⟩ : ∃ W, ((w.alloc (.cells #[.int .i64 (kd.toNat : Int), .slice a N c] 29)).alloc (.cells #[.int .i64 3, .int .i64 n, .string key, .string val] 33)).alloc (.cells #[.int .i64 0, .slice none 0 0] 29) = W := ⟨_, rfl⟩
  obtain ⟨B4, hB4⟩ : ∃ B, w.heap.size = B := ⟨_, rfl⟩
  obtain ⟨B5, hB5⟩ : ∃ B, w.heap.size + 1 = B := ⟨_, rfl⟩
  obtain ⟨B6, hB6⟩ : ∃ B, w.heap.size + 1 + 1 = B := ⟨_, rfl⟩
  have HW : Hid (((w.alloc (.cells #[.int .i64 (kd.toNat : Int), .slice a N c] 29)).alloc (.cells #[.int .i64 3, .int .i64 n, .string key, .string val] 33)).alloc (.cells #[.int .i64 0, .slice none 0 0] 29) = W ∧ w.heap.size = B4 ∧ B4 + 1 = B5 ∧ B5 + 1 = B6) := ⟨hW, hB4, by omega, by omega⟩
  have hD : Dst w p B4 B5 B6 kd a N c cs 3 n key val W := dst_new kd a N c cs 3 n key val g h hW hB4 hB5 hB6
  have HD : Hid (Dst w p B4 B5 B6 kd a N c cs 3 n key val W) := hD
  have HPF : Hid (∀ V, Dst w p B4 B5 B6 kd a N c cs 3 n key val V → Calls Try.prog 26 #[.pointer (some ⟨p, 0, none⟩), .string key] V fun e w' => ∃ (i : Nat) (b : Bool), e = .returned (.tuple #[.int .i64 (i : Int), .bool b]) ∧ Hid (FindO cs key.data.toList i b ∧ Dst w p B4 B5 B6 kd a N c cs 3 n key val w')) := fun V q => (find_is q.pg hok hr key).mono fun e w' ⟨i, b, q1, q2, q3⟩ => ⟨i, b, q1, q2, q.step q3⟩
  have HRF : Hid (∀ V, Dst w p B4 B5 B6 kd a N c cs 3 n key val V → Calls Try.prog 33 #[.agg #[.int .i64 (kd.toNat : Int), .slice a N c], .string key] V fun e w' => ∃ (i : Nat) (b : Bool), e = .returned (.tuple #[.int .i64 (i : Int), .bool b]) ∧ Hid (FindO cs key.data.toList i b ∧ Dst w p B4 B5 B6 kd a N c cs 3 n key val w')) := fun V q => (rfind_is (kd.toNat : Int) a N c cs hN q.sl (by omega) hr key).mono fun e w' ⟨i, b, q1, q2, q3⟩ => ⟨i, b, q1, q2, q.step q3⟩
  have HOK : Hid (okC cs ∧ ris cs ∧ cs.length = N) := ⟨hok, hr, hN⟩
  have y0 := hD.b5.cell (i := 0) rfl
  have y2 := hD.b5.cell (i := 2) rfl
  obtain ⟨kn, hkn⟩ : ∃ kn, (kd.toNat : Int) = kn := ⟨_, rfl⟩
  have HKN : Hid ((kd.toNat : Int) = kn) := hkn
  rw [hkn] at HW HRF ⊢
  clear g h hok hr hN hW hB4 hB5 hB6 hD hkn
  go_enter Try.func12, Try.ntmps12
  go_upto_region 1 with fail
  rw [HW.out.1, HW.out.2.1, HW.out.2.2.1, HW.out.2.2.2]
  clear HW
  go_wp2_with fail
  refine Calls.mono (HPF.out _ HD.out) ?_; rintro e w1 ⟨i, b, rfl, HM1⟩
  have z0 := HM1.out.2.b4.cell (i := 0) rfl
  rw [HKN.out] at z0
  have z1 := HM1.out.2.b4.cell (i := 1) rfl
  have z2 := HM1.out.2.b5.cell (i := 2) rfl
  clear HD HPF y0 y2
  go_wp2_with fail
  refine Calls.mono (HRF.out _ HM1.out.2) ?_; rintro e w2 ⟨i', b', rfl, HM2⟩
  obtain ⟨rfl, rfl⟩ := HM1.out.1.uniq HM2.out.1
  have HF := does_fin HM2.out.2.pg HM2.out.2.sl HM2.out.2.b6 (HM2.out.2.kp.mono (fun _ z => z.elim)) HM2.out.2.h6 HM2.out.2.n6 _ (Kept.refl _ _)
  rw [HKN.out] at HF
  have HF2 : Hid _ := HF
  have v0 := HM2.out.2.b4.cell (i := 0) rfl
  rw [HKN.out] at v0
  have v1 := HM2.out.2.b4.cell (i := 1) rfl
  have u0 := HM2.out.2.b6.cell (i := 0) rfl
  have u1 := HM2.out.2.b6.cell (i := 1) rfl
  have uf := HM2.out.2.b6.fz
  clear HM1 HM2 HRF z0 z1 z2 HF
  go_wp2_with fail
  refine bodyPost_ret (end_cell_tmp rfl rfl HF2.out.1) rfl ?_
  exact ⟨_, _, _, cs, by rw [HKN.out]; first | rfl | simp, HF2.out.2.1, HF2.out.2.2.1, HOK.out.2.2, HOK.out.1, HOK.out.2.1, HF2.out.2.2.2⟩
end Go.Proofs.Ytncpohimjmakpaa
