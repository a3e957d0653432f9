/- does, of Put. -/
import Derived.Test.YtncpohimjmakpaaDe
namespace Go.Proofs.Ytncpohimjmakpaa
open Go.ChangeShapes Go.WideShapes Go.ChangeAt Go.RowKit
set_option linter.unusedVariables false
set_option maxRecDepth 100000

set_option maxHeartbeats 8000000 in
theorem does_put {w : World} {p : Nat} (kd : UInt8) (hkd : kd.toNat ≠ 0) (a : Option Addr) (N c : Nat) (cs : List Cel) (hN : cs.length = N) (g : Pg w p (lay kd cs)) (h : Sl cv 2 w (.slice a N c) cs) (hok : okC cs) (hr : ris cs) (k : Int) (hk1 : ¬ k = 1) (hk2 : ¬ k = 2) (hk3 : ¬ k = 3) (n : Int) (key val : ByteArray) (hks : key.size ≤ 1000) (hvs : val.size ≤ 1000) : Calls Try.prog 12 #[.pointer (some ⟨p, 0, none⟩), rpg (kd.toNat : Int) (.slice a N c), .agg #[.int .i64 k, .int .i64 n, .string key, .string val]] w fun e w' => DoesE kd p w e w' := by
  have hN1 : N ≤ 124 := by rw [← hN]; exact (okC_fit hok).1
  obtain ⟨W, hW⟩ : ∃ W, ((w.alloc (.cells #[.int .i64 (kd.toNat : Int), .slice a N c] 29)).alloc (.cells #[.int .i64 k, .int .i64 n, .string key, .string val] 33)).alloc (.cells #[.int .i64 0, .slice none 0 0] 29) = W := ⟨_, rfl⟩
  obtain ⟨B4, hB4⟩ : ∃ B, w.heap.size = B := ⟨_, rfl⟩
  obtain ⟨B5, hB5⟩ : ∃ B, w.heap.size + 1 = B := ⟨_, rfl⟩
  obtain ⟨B6, hB6⟩ : ∃ B, w.heap.size + 1 + 1 = B := ⟨_, rfl⟩
  have HW : Hid (((w.alloc (.cells #[.int .i64 (kd.toNat : Int), .slice a N c] 29)).alloc (.cells #[.int .i64 k, .int .i64 n, .string key, .string val] 33)).alloc (.cells #[.int .i64 0, .slice none 0 0] 29) = W ∧ w.heap.size = B4 ∧ B4 + 1 = B5 ∧ B5 + 1 = B6) := ⟨hW, hB4, by omega, by omega⟩
  have hD : Dst w p B4 B5 B6 kd a N c cs k n key val W := dst_new kd a N c cs k n key val g h hW hB4 hB5 hB6
  have HD : Hid (Dst w p B4 B5 B6 kd a N c cs k n key val W) := hD
  have HRF : Hid (∀ V, Dst w p B4 B5 B6 kd a N c cs k n key val V → Calls Try.prog 34 #[.agg #[.int .i64 (kd.toNat : Int), .slice a N c], .string key, .string val] V fun e w' => ∃ (f N3 : Nat) (a3 : Option Addr) (c3 : Nat), e = .returned (.tuple #[.agg #[.int .i64 (kd.toNat : Int), .slice a3 N3 c3], .int .i64 (f : Int)]) ∧ Hid (∃ cs3, NX cs key val f cs3 ∧ cs3.length = N3 ∧ Sl cv 2 w' (.slice a3 N3 c3) cs3 ∧ Dst w p B4 B5 B6 kd a N c cs k n key val w')) := fun V q => (rputN_is (kd.toNat : Int) a N c cs hN q.sl hok hr key val hks hvs).mono fun e w' ⟨f, cs3, a3, c3, q1, q2, q3, q4⟩ => ⟨f, cs3.length, a3, c3, q1, cs3, q2, rfl, q3, q.step q4⟩
  have HPF : Hid (∀ V, Pg V p (lay kd cs) → Calls Try.prog 24 #[.pointer (some ⟨p, 0, none⟩), .string key, .string val] V fun e w' => ∃ f : Nat, e = .returned (.int .i64 (f : Int)) ∧ Hid (∃ cs3, NX cs key val f cs3 ∧ Pg w' p (lay kd cs3) ∧ Kept (fun i => i = p) V w')) := fun V q => (pputN_is q hok hr hkd key val hks hvs).mono fun e w' ⟨f, cs3, q1, q2, q3, q4⟩ => ⟨f, q1, cs3, q2, q3, q4⟩
  have HOK : Hid (okC cs ∧ ris cs) := ⟨hok, hr⟩
  have y0 := hD.b5.cell (i := 0) rfl
  have y2 := hD.b5.cell (i := 2) rfl
  have y3 := hD.b5.cell (i := 3) rfl
  have x1 := hD.b4.cell (i := 1) rfl
  have x0 := hD.b4.cell (i := 0) rfl
  obtain ⟨kn, hkn⟩ : ∃ kn, (kd.toNat : Int) = kn := ⟨_, rfl⟩
  have HKN : Hid ((kd.toNat : Int) = kn) := hkn
  rw [hkn] at HW HRF x0 ⊢
  clear g h hok hr hN hW hB4 hB5 hB6 hD hkn hkd hks hvs
  go_enter Try.func12, Try.ntmps12
  go_upto_region 1 with fail
  rw [HW.out.1, HW.out.2.1, HW.out.2.2.1, HW.out.2.2.2]
  clear HW
  go_wp2_with fail
  refine Calls.mono (HRF.out _ HD.out) ?_; rintro e w1 ⟨f, N3, a3, c3, rfl, HM1⟩
  obtain ⟨cs3, p1, p2, p3, p4⟩ := HM1.out
  obtain ⟨W3, hW3⟩ : ∃ X, w1.alloc (.cells #[.int .i64 kn, .slice a3 N3 c3] 29) = X := ⟨_, rfl⟩
  obtain ⟨B9, hB9⟩ : ∃ X, w1.heap.size = X := ⟨_, rfl⟩
  have HW3 : Hid (w1.alloc (.cells #[.int .i64 kn, .slice a3 N3 c3] 29) = W3 ∧ w1.heap.size = B9) := ⟨hW3, hB9⟩
  have k3 : Kept (fun _ => False) w1 W3 := hW3 ▸ (Kept.refl _ w1).alloc _
  have b9 : Blk W3 B9 29 [.int .i64 kn, .slice a3 N3 c3] := by
    have := Blk.new w1 29 [.int .i64 kn, .slice a3 N3 c3]
    rw [hB9] at this
    rw [← hW3]; exact this
  have hD3 := p4.step k3
  have n9 : p ≠ B9 ∧ B9 ≠ B6 := by have := p4.pg.lt; have := p4.b6.lt; omega
  have HP : Hid (∀ V, Pg V p (lay kd cs) → Kept (fun _ => False) W3 V → Calls Try.prog 24 #[.pointer (some ⟨p, 0, none⟩), .string key, .string val] V fun e w' => e = .returned (.int .i64 (f : Int)) ∧ (w'.cell? ⟨B9, 0, none⟩ = some (.int .i64 kn) ∧ w'.cell? ⟨B9, 1, none⟩ = some (.slice a3 N3 c3) ∧ w'.cell? ⟨B5, 2, none⟩ = some (.string key) ∧ w'.cell? ⟨B5, 3, none⟩ = some (.string val)) ∧ Hid (Pg w' p (lay kd cs3) ∧ Blk w' B6 29 [.int .i64 0, .slice none 0 0] ∧ Sl cv 2 w' (.slice a3 N3 c3) cs3 ∧ Kept (fun i => i = p) w w')) := fun V q kV => (HPF.out V q).mono fun e w' ⟨f', q1, q2⟩ => by
    obtain ⟨cs4, r1, r2, r3⟩ := q2.out
    obtain ⟨rfl, rfl⟩ := p1.uniq r1
    have kk : Kept (fun i => i = p) W3 w' := (kV.mono (fun _ z => z.elim)).trans r3 (fun i e => .inl e)
    refine ⟨q1, ⟨(b9.kept kk (fun e => n9.1 e.symm)).cell rfl, (b9.kept kk (fun e => n9.1 e.symm)).cell rfl, (hD3.b5.kept kk (fun e => hD3.n5 e.symm)).cell rfl, (hD3.b5.kept kk (fun e => hD3.n5 e.symm)).cell rfl⟩, r2, hD3.b6.kept kk (fun e => hD3.n6 e.symm), (p3.step cv_ne k3).page hD3.pg kk, (hD3.kp.mono (fun _ z => z.elim)).trans kk (fun i e => .inl e)⟩
  have HPC : Hid (Pg W3.drew p (lay kd cs) ∧ Kept (fun _ => False) W3 W3.drew) := ⟨hD3.pg.step ((Kept.refl _ _).drew), (Kept.refl _ _).drew⟩
  have hS : W3.drew.cell? ⟨B9, 0, none⟩ = some (.int .i64 kn) ∧ W3.drew.cell? ⟨B9, 1, none⟩ = some (.slice a3 N3 c3) ∧ W3.drew.cell? ⟨B5, 2, none⟩ = some (.string key) ∧ W3.drew.cell? ⟨B5, 3, none⟩ = some (.string val) := ⟨b9.cell rfl, b9.cell rfl, hD3.b5.cell rfl, hD3.b5.cell rfl⟩
  have HSS : Hid (∀ (V : World) (x y : Value), (V.cell? ⟨B9, 0, none⟩ = some (.int .i64 kn) ∧ V.cell? ⟨B9, 1, none⟩ = some (.slice a3 N3 c3) ∧ V.cell? ⟨B5, 2, none⟩ = some (.string key) ∧ V.cell? ⟨B5, 3, none⟩ = some (.string val)) → ((V.setCell ⟨B6, 0, none⟩ x).setCell ⟨B6, 1, none⟩ y).cell? ⟨B9, 0, none⟩ = some (.int .i64 kn) ∧ ((V.setCell ⟨B6, 0, none⟩ x).setCell ⟨B6, 1, none⟩ y).cell? ⟨B9, 1, none⟩ = some (.slice a3 N3 c3) ∧ ((V.setCell ⟨B6, 0, none⟩ x).setCell ⟨B6, 1, none⟩ y).cell? ⟨B5, 2, none⟩ = some (.string key) ∧ ((V.setCell ⟨B6, 0, none⟩ x).setCell ⟨B6, 1, none⟩ y).cell? ⟨B5, 3, none⟩ = some (.string val)) := fun V x y q => ⟨(Kept.two V B6 x y).cell q.1 n9.2, (Kept.two V B6 x y).cell q.2.1 n9.2, (Kept.two V B6 x y).cell q.2.2.1 hD3.n56, (Kept.two V B6 x y).cell q.2.2.2 hD3.n56⟩
  have HEND : Hid (okC cs3 ∧ ris cs3 ∧ cs3.length = N3 ∧ w.heap.size ≤ B6 ∧ p ≠ B6) := ⟨(p1.ok HOK.out.1 HOK.out.2).1, (p1.ok HOK.out.1 HOK.out.2).2, p2, p4.h6, p4.n6⟩
  clear hW3 hB9 k3 b9 hD3 n9 HM1 p1 p2 p3 p4 HD HRF HPF x0 x1 y0 y2 y3
  go_upto_region 22 with fail
  rw [HW3.out.1, HW3.out.2]
  clear HW3
  go_region_held (fun (w' : World) => w'.cell? ⟨B9, 0, none⟩ = some (.int .i64 kn) ∧ w'.cell? ⟨B9, 1, none⟩ = some (.slice a3 N3 c3) ∧ w'.cell? ⟨B5, 2, none⟩ = some (.string key) ∧ w'.cell? ⟨B5, 3, none⟩ = some (.string val)) (first | (with_reducible assumption) | (with_reducible exact HSS.out _ _ _ (by with_reducible assumption))) (first | ((with_reducible refine Calls.mono (HP.out _ HPC.out.1 HPC.out.2) ?_); rintro e w4 ⟨rfl, hS4, HM4⟩; have u0 := HM4.out.2.1.cell (i := 0) rfl; have u1 := HM4.out.2.1.cell (i := 1) rfl; have uf := HM4.out.2.1.fz))
  clear HP HPC HSS hS hS4 u0 u1 uf
  go_wp2_with fail
  have HF := does_fin HM4.out.1 HM4.out.2.2.1 HM4.out.2.1 HM4.out.2.2.2 HEND.out.2.2.2.1 HEND.out.2.2.2.2 _ (Kept.refl _ _)
  rw [HKN.out] at HF
  refine bodyPost_ret (end_cell_tmp rfl rfl HF.1) rfl ?_
  exact ⟨_, _, _, cs3, by rw [HKN.out]; first | rfl | simp, HF.2.1, HF.2.2.1, HEND.out.2.2.1, HEND.out.1, HEND.out.2.1, HF.2.2.2⟩
end Go.Proofs.Ytncpohimjmakpaa
