/- does, of Split. -/
import Derived.Test.YtncpohimjmakpaaDp
import Derived.Test.YtncpohimjmakpaaDd
import Derived.Test.YtncpohimjmakpaaSw
namespace Go.Proofs.Ytncpohimjmakpaa
open Go.ChangeShapes Go.WideShapes Go.ChangeAt Go.RowKit
set_option linter.unusedVariables false
set_option maxRecDepth 100000

structure Xst (w : World) (p q B4 B5 B6 B12 B13 : Nat) (kd : UInt8) (a : Option Addr) (N c : Nat) (cs : List Cel) (k : Nat) (ua : Option Addr) (UL uc : Nat) (n : Int) (key val : ByteArray) (V : World) : Prop where
  pg : Pg V p (lay kd (cs.take k))
  qg : Pg V q (lay kd (cs.drop k))
  sl : Sl cv 2 V (.slice a N c) cs
  s1 : Sl cv 2 V (.slice a k c) (cs.take k)
  s2 : Sl cv 2 V (.slice ua UL uc) (cs.drop k)
  b4 : Blk V B4 29 [.int .i64 (kd.toNat : Int), .slice a N c]
  b5 : Blk V B5 33 [.int .i64 2, .int .i64 n, .string key, .string val]
  b6 : Blk V B6 29 [.int .i64 0, .slice none 0 0]
  b12 : Blk V B12 29 [.int .i64 (kd.toNat : Int), .slice a k c]
  b13 : Blk V B13 29 [.int .i64 (kd.toNat : Int), .slice ua UL uc]
  kp : Kept (fun i => i = p) w V
  h6 : w.heap.size ≤ B6
  npq : p ≠ q
  n4 : p ≠ B4
  n6 : p ≠ B6
  n13 : p ≠ B13
  n46 : B4 ≠ B6
  n136 : B13 ≠ B6
theorem Xst.step {w : World} {p q B4 B5 B6 B12 B13 : Nat} {kd : UInt8} {a : Option Addr} {N c : Nat} {cs : List Cel} {k : Nat} {ua : Option Addr} {UL uc : Nat} {n : Int} {key val : ByteArray} {V V' : World} (h : Xst w p q B4 B5 B6 B12 B13 kd a N c cs k ua UL uc n key val V) (z : Kept (fun _ => False) V V') : Xst w p q B4 B5 B6 B12 B13 kd a N c cs k ua UL uc n key val V' :=
  ⟨h.pg.step z, h.qg.step z, h.sl.step cv_ne z, h.s1.step cv_ne z, h.s2.step cv_ne z, h.b4.step z, h.b5.step z, h.b6.step z, h.b12.step z, h.b13.step z, h.kp.trans z (fun _ y => y.elim), h.h6, h.npq, h.n4, h.n6, h.n13, h.n46, h.n136⟩
set_option maxHeartbeats 4000000 in
theorem does_nosplit {w : World} {p : Nat} (kd : UInt8) (hkd : kd.toNat ≠ 0) (a : Option Addr) (N c : Nat) (cs : List Cel) (hN : cs.length = N) (g : Pg w p (lay kd cs)) (h : Sl cv 2 w (.slice a N c) cs) (hok : okC cs) (hr : ris cs) (n : Int) (hn : n < 0 ∨ (N : Int) < n) (key val : ByteArray) : Calls Try.prog 12 #[.pointer (some ⟨p, 0, none⟩), rpg (kd.toNat : Int) (.slice a N c), .agg #[.int .i64 2, .int .i64 n, .string key, .string val]] w fun e w' => DoesE kd p w e w' := by
  have hN1 : N ≤ 124 := by rw [← hN]; exact (okC_fit hok).1
  obtain ⟨W, hW⟩ : ∃ W, ((w.alloc (.cells #[.int .i64 (kd.toNat : Int), .slice a N c] 29)).alloc (.cells #[.int .i64 2, .int .i64 n, .string key, .string val] 33)).alloc (.cells #[.int .i64 0, .slice none 0 0] 29) = W := ⟨_, rfl⟩
  obtain ⟨B4, hB4⟩ : ∃ B, w.heap.size = B := ⟨_, rfl⟩
  obtain ⟨B5, hB5⟩ : ∃ B, w.heap.size + 1 = B := ⟨_, rfl⟩
  obtain ⟨B6, hB6⟩ : ∃ B, w.heap.size + 1 + 1 = B := ⟨_, rfl⟩
  have HW : Hid (((w.alloc (.cells #[.int .i64 (kd.toNat : Int), .slice a N c] 29)).alloc (.cells #[.int .i64 2, .int .i64 n, .string key, .string val] 33)).alloc (.cells #[.int .i64 0, .slice none 0 0] 29) = W ∧ w.heap.size = B4 ∧ B4 + 1 = B5 ∧ B5 + 1 = B6) := ⟨hW, hB4, by omega, by omega⟩
  have hD : Dst w p B4 B5 B6 kd a N c cs 2 n key val W := dst_new kd a N c cs 2 n key val g h hW hB4 hB5 hB6
  have HD : Hid (Dst w p B4 B5 B6 kd a N c cs 2 n key val W) := hD
  have HPF : Hid (∀ V, Dst w p B4 B5 B6 kd a N c cs 2 n key val V → Calls Try.prog 21 #[.pointer (some ⟨p, 0, none⟩), .int .i64 n] V fun e w' => e = .returned (.tuple #[.pointer none, .int .i64 1]) ∧ Hid (Dst w p B4 B5 B6 kd a N c cs 2 n key val w')) := fun V q => (split_no q.pg hok hkd n (by rw [hN]; exact hn)).mono fun e w' ⟨q1, q3⟩ => ⟨q1, q.step q3⟩
  have HRF : Hid (∀ V, Dst w p B4 B5 B6 kd a N c cs 2 n key val V → Calls Try.prog 32 #[.agg #[.int .i64 (kd.toNat : Int), .slice a N c], .int .i64 n] V fun e w' => e = .returned (.tuple #[.agg #[.int .i64 (kd.toNat : Int), .slice a N c], .agg #[.int .i64 0, .slice none 0 0], .int .i64 1]) ∧ Hid (Dst w p B4 B5 B6 kd a N c cs 2 n key val w')) := fun V q => (rsplit_no (kd.toNat : Int) a N c n hn).mono fun e w' ⟨q1, q3⟩ => ⟨q1, q.step q3⟩
  have HOK : Hid (okC cs ∧ ris cs ∧ cs.length = N) := ⟨hok, hr, hN⟩
  have y0 := hD.b5.cell (i := 0) rfl
  have y1 := hD.b5.cell (i := 1) rfl
  obtain ⟨kn, hkn⟩ : ∃ kn, (kd.toNat : Int) = kn := ⟨_, rfl⟩
  have HKN : Hid ((kd.toNat : Int) = kn) := hkn
  rw [hkn] at HW HRF ⊢
  clear g h hok hr hN hW hB4 hB5 hB6 hD hkn hn hkd
  go_enter Try.func12, Try.ntmps12
  go_upto_region 1 with fail
  rw [HW.out.1, HW.out.2.1, HW.out.2.2.1, HW.out.2.2.2]
  clear HW
  go_wp2_with fail
  refine Calls.mono (HPF.out _ HD.out) ?_; rintro e w1 ⟨rfl, HM1⟩
  have z0 := HM1.out.b4.cell (i := 0) rfl
  rw [HKN.out] at z0
  have z1 := HM1.out.b4.cell (i := 1) rfl
  have z2 := HM1.out.b5.cell (i := 1) rfl
  clear HD HPF y0 y1
  go_wp2_with fail
  refine Calls.mono (HRF.out _ HM1.out) ?_; rintro e w2 ⟨rfl, HM2⟩
  clear HM1 HRF z0 z1 z2
  obtain ⟨W3, hW3⟩ : ∃ X, (w2.alloc (.cells #[.int .i64 kn, .slice a N c] 29)).alloc (.cells #[.int .i64 0, .slice none 0 0] 29) = X := ⟨_, rfl⟩
  have HW3 : Hid ((w2.alloc (.cells #[.int .i64 kn, .slice a N c] 29)).alloc (.cells #[.int .i64 0, .slice none 0 0] 29) = W3) := hW3
  have k3 : Kept (fun _ => False) w2 W3 := hW3 ▸ ((Kept.refl _ w2).alloc _).alloc _
  have hD3 := HM2.out.step k3
  have HF := does_fin hD3.pg hD3.sl hD3.b6 (hD3.kp.mono (fun _ z => z.elim)) hD3.h6 hD3.n6 _ (Kept.refl _ _)
  rw [HKN.out] at HF
  have HF2 : Hid _ := HF
  have v0 := hD3.b4.cell (i := 0) rfl
  rw [HKN.out] at v0
  have v1 := hD3.b4.cell (i := 1) rfl
  have u0 := hD3.b6.cell (i := 0) rfl
  have u1 := hD3.b6.cell (i := 1) rfl
  have uf := hD3.b6.fz
  clear hW3 k3 hD3 HF HM2
  go_upto_region 8 with fail
  rw [HW3.out]
  clear HW3
  go_wp2_with fail
  refine bodyPost_ret (end_cell_tmp rfl rfl HF2.out.1) rfl ?_
  exact ⟨_, _, _, cs, by rw [HKN.out]; first | rfl | simp, HF2.out.2.1, HF2.out.2.2.1, HOK.out.2.2, HOK.out.1, HOK.out.2.1, HF2.out.2.2.2⟩
set_option maxHeartbeats 8000000 in
theorem does_split {w : World} {p : Nat} (kd : UInt8) (hkd : kd.toNat ≠ 0) (a : Option Addr) (N c : Nat) (cs : List Cel) (hN : cs.length = N) (g : Pg w p (lay kd cs)) (h : Sl cv 2 w (.slice a N c) cs) (hok : okC cs) (hr : ris cs) (k : Nat) (hk : k ≤ N) (n : Int) (hn : n = (k : Int)) (key val : ByteArray) : Calls Try.prog 12 #[.pointer (some ⟨p, 0, none⟩), rpg (kd.toNat : Int) (.slice a N c), .agg #[.int .i64 2, .int .i64 n, .string key, .string val]] w fun e w' => DoesE kd p w e w' := by
  have hN1 : N ≤ 124 := by rw [← hN]; exact (okC_fit hok).1
  obtain ⟨W, hW⟩ : ∃ W, ((w.alloc (.cells #[.int .i64 (kd.toNat : Int), .slice a N c] 29)).alloc (.cells #[.int .i64 2, .int .i64 n, .string key, .string val] 33)).alloc (.cells #[.int .i64 0, .slice none 0 0] 29) = W := ⟨_, rfl⟩
  obtain ⟨B4, hB4⟩ : ∃ B, w.heap.size = B := ⟨_, rfl⟩
  obtain ⟨B5, hB5⟩ : ∃ B, w.heap.size + 1 = B := ⟨_, rfl⟩
  obtain ⟨B6, hB6⟩ : ∃ B, w.heap.size + 1 + 1 = B := ⟨_, rfl⟩
  have HW : Hid (((w.alloc (.cells #[.int .i64 (kd.toNat : Int), .slice a N c] 29)).alloc (.cells #[.int .i64 2, .int .i64 n, .string key, .string val] 33)).alloc (.cells #[.int .i64 0, .slice none 0 0] 29) = W ∧ w.heap.size = B4 ∧ B4 + 1 = B5 ∧ B5 + 1 = B6) := ⟨hW, hB4, by omega, by omega⟩
  have hD : Dst w p B4 B5 B6 kd a N c cs 2 n key val W := dst_new kd a N c cs 2 n key val g h hW hB4 hB5 hB6
  have HD : Hid (Dst w p B4 B5 B6 kd a N c cs 2 n key val W) := hD
  have HPF : Hid (∀ V, Dst w p B4 B5 B6 kd a N c cs 2 n key val V → Calls Try.prog 21 #[.pointer (some ⟨p, 0, none⟩), .int .i64 n] V fun e w' => ∃ q, e = .returned (.tuple #[.pointer (some ⟨q, 0, none⟩), .int .i64 0]) ∧ Hid (Pg w' p (lay kd (cs.take k)) ∧ Pg w' q (lay kd (cs.drop k)) ∧ Kept (fun i => i = p) V w' ∧ V.heap.size ≤ q)) := fun V z => by
    rw [hn]
    exact split_is z.pg hok hkd k (by omega)
  have HRF : Hid (∀ V, Sl cv 2 V (.slice a N c) cs → Calls Try.prog 32 #[.agg #[.int .i64 (kd.toNat : Int), .slice a N c], .int .i64 n] V fun e w' => ∃ (ua : Option Addr) (UL uc : Nat), e = .returned (.tuple #[.agg #[.int .i64 (kd.toNat : Int), .slice a k c], .agg #[.int .i64 (kd.toNat : Int), .slice ua UL uc], .int .i64 0]) ∧ Hid (Sl cv 2 w' (.slice a k c) (cs.take k) ∧ Sl cv 2 w' (.slice ua UL uc) (cs.drop k) ∧ (cs.drop k).length = UL ∧ Kept (fun _ => False) V w')) := fun V z => by
    rw [hn]
    refine (rsplit_is (kd.toNat : Int) a N c cs hN z (by omega) k hk).mono fun e w' ⟨u, q1, q2, q3, q4⟩ => ?_
    obtain ⟨ua, uc, rfl⟩ := q3.shape
    exact ⟨ua, _, uc, q1, q2, q3, rfl, q4⟩
  have HOK : Hid (okC cs ∧ ris cs ∧ cs.length = N ∧ k ≤ N ∧ kd.toNat ≠ 0) := ⟨hok, hr, hN, hk, hkd⟩
  have y0 := hD.b5.cell (i := 0) rfl
  have y1 := hD.b5.cell (i := 1) rfl
  obtain ⟨kn, hkn⟩ : ∃ kn, (kd.toNat : Int) = kn := ⟨_, rfl⟩
  have HKN : Hid ((kd.toNat : Int) = kn) := hkn
  rw [hkn] at HW HRF ⊢
  clear g h hok hr hN hW hB4 hB5 hB6 hD hkn hn hkd hk
  go_enter Try.func12, Try.ntmps12
  go_upto_region 1 with fail
  rw [HW.out.1, HW.out.2.1, HW.out.2.2.1, HW.out.2.2.2]
  clear HW
  go_wp2_with fail
  refine Calls.mono (HPF.out _ HD.out) ?_; rintro e w1 ⟨q, rfl, HM1⟩
  have hd := HD.out
  have kp1 := HM1.out.2.2.1
  have sl1 := hd.sl.page hd.pg kp1
  have z4 := hd.b4.kept kp1 (fun e => hd.n4 e.symm)
  have z5 := hd.b5.kept kp1 (fun e => hd.n5 e.symm)
  have z6 := hd.b6.kept kp1 (fun e => hd.n6 e.symm)
  have HZ : Hid (Sl cv 2 w1 (.slice a N c) cs ∧ Blk w1 B4 29 [.int .i64 (kd.toNat : Int), .slice a N c] ∧ Blk w1 B5 33 [.int .i64 2, .int .i64 n, .string key, .string val] ∧ Blk w1 B6 29 [.int .i64 0, .slice none 0 0] ∧ Kept (fun i => i = p) w w1 ∧ w.heap.size ≤ B6 ∧ p ≠ q ∧ p ≠ B4 ∧ p ≠ B6 ∧ B4 ≠ B6) := ⟨sl1, z4, z5, z6, (hd.kp.mono (fun _ z => z.elim)).trans kp1 (fun i e => .inl e), hd.h6, by have := hd.pg.lt; have := HM1.out.2.2.2; omega, hd.n4, hd.n6, hd.n46⟩
  have x0 := z4.cell (i := 0) rfl
  rw [HKN.out] at x0
  have x1 := z4.cell (i := 1) rfl
  have x2 := z5.cell (i := 1) rfl
  clear hd kp1 sl1 z4 z5 z6 HD HPF y0 y1
  go_wp2_with fail
  refine Calls.mono (HRF.out _ HZ.out.1) ?_; rintro e w2 ⟨ua, UL, uc, rfl, HM2⟩
  obtain ⟨W3, hW3⟩ : ∃ X, (w2.alloc (.cells #[.int .i64 kn, .slice a k c] 29)).alloc (.cells #[.int .i64 kn, .slice ua UL uc] 29) = X := ⟨_, rfl⟩
  obtain ⟨B12, hB12⟩ : ∃ X, w2.heap.size = X := ⟨_, rfl⟩
  obtain ⟨B13, hB13⟩ : ∃ X, w2.heap.size + 1 = X := ⟨_, rfl⟩
  have HW3 : Hid ((w2.alloc (.cells #[.int .i64 kn, .slice a k c] 29)).alloc (.cells #[.int .i64 kn, .slice ua UL uc] 29) = W3 ∧ w2.heap.size = B12 ∧ B12 + 1 = B13) := ⟨hW3, hB12, by omega⟩
  have HX : Hid (Xst w p q B4 B5 B6 B12 B13 kd a N c cs k ua UL uc n key val W3) := by
    have k23 : Kept (fun _ => False) w2 W3 := hW3 ▸ ((Kept.refl _ w2).alloc _).alloc _
    have k12 := HM2.out.2.2.2
    have k13 : Kept (fun _ => False) w1 W3 := k12.trans k23 (fun _ z => z.elim)
    have hz := HZ.out
    have hb12 : Blk W3 B12 29 [.int .i64 (kd.toNat : Int), .slice a k c] := by
      rw [HKN.out, ← hW3, ← hB12]
      exact (Blk.new w2 29 [.int .i64 kn, .slice a k c]).step ((Kept.refl _ _).alloc _)
    have hb13 : Blk W3 B13 29 [.int .i64 (kd.toNat : Int), .slice ua UL uc] := by
      have := Blk.new (w2.alloc (.cells #[.int .i64 kn, .slice a k c] 29)) 29 [.int .i64 kn, .slice ua UL uc]
      rw [show (w2.alloc (.cells #[.int .i64 kn, .slice a k c] 29)).heap.size = w2.heap.size + 1 by simp, hB13] at this
      rw [HKN.out, ← hW3]
      exact this
    have l1 := (HM1.out.1.step k12).lt
    have l6 := (hz.2.2.2.1.step k12).lt
    exact ⟨HM1.out.1.step k13, HM1.out.2.1.step k13, hz.1.step cv_ne k13, HM2.out.1.step cv_ne k23, HM2.out.2.1.step cv_ne k23, hz.2.1.step k13, hz.2.2.1.step k13, hz.2.2.2.1.step k13, hb12, hb13, hz.2.2.2.2.1.trans k13 (fun _ z => z.elim), hz.2.2.2.2.2.1, hz.2.2.2.2.2.2.1, hz.2.2.2.2.2.2.2.1, hz.2.2.2.2.2.2.2.2.1, by omega, hz.2.2.2.2.2.2.2.2.2, by omega⟩
  have HUL : Hid ((cs.drop k).length = UL) := HM2.out.2.2.1
  have HSQ : Hid (∀ V, Xst w p q B4 B5 B6 B12 B13 kd a N c cs k ua UL uc n key val V → Calls Try.prog 13 #[.pointer (some ⟨q, 0, none⟩), .agg #[.int .i64 kn, .slice ua UL uc]] V fun e w' => e = .returned (.bool true) ∧ Hid (Xst w p q B4 B5 B6 B12 B13 kd a N c cs k ua UL uc n key val w')) := fun V z => by
    have := same_is kd HOK.out.2.2.2.2 ua UL uc (cs.drop k) HUL.out z.qg z.s2 (okC_td HOK.out.1 k).2
    rw [HKN.out] at this
    exact this.mono fun e w' ⟨q1, q2⟩ => ⟨q1, z.step q2⟩
  have HSP : Hid (∀ V, Xst w p q B4 B5 B6 B12 B13 kd a N c cs k ua UL uc n key val V → Calls Try.prog 13 #[.pointer (some ⟨p, 0, none⟩), .agg #[.int .i64 kn, .slice a k c]] V fun e w' => e = .returned (.bool true) ∧ Hid (Xst w p q B4 B5 B6 B12 B13 kd a N c cs k ua UL uc n key val w')) := fun V z => by
    have := same_is kd HOK.out.2.2.2.2 a k c (cs.take k) (by rw [List.length_take]; have := HOK.out.2.2.1; have := HOK.out.2.2.2.1; omega) z.pg z.s1 (okC_td HOK.out.1 k).1
    rw [HKN.out] at this
    exact this.mono fun e w' ⟨q1, q2⟩ => ⟨q1, z.step q2⟩
  have HC : Hid (∀ V, Xst w p q B4 B5 B6 B12 B13 kd a N c cs k ua UL uc n key val V → V.cell? ⟨B4, 0, none⟩ = some (.int .i64 kn) ∧ V.cell? ⟨B12, 0, none⟩ = some (.int .i64 kn) ∧ V.cell? ⟨B13, 0, none⟩ = some (.int .i64 kn)) := fun V z => by
    rw [← HKN.out]
    exact ⟨z.b4.cell rfl, z.b12.cell rfl, z.b13.cell rfl⟩
  have s0 := (HC.out _ HX.out).2.2
  have s1 := HX.out.b13.cell (i := 1) rfl
  clear hW3 hB12 hB13 HM1 HM2 HZ HRF x0 x1 x2
  go_upto_region 8 with fail
  rw [HW3.out.1, HW3.out.2.1, HW3.out.2.2]
  clear HW3
  go_wp2_with fail
  refine Calls.mono (HSQ.out _ HX.out) ?_; rintro e w4 ⟨rfl, HX4⟩
  have r0 := (HC.out _ HX4.out).2.1
  have r1 := HX4.out.b12.cell (i := 1) rfl
  clear HX s0 s1
  go_wp2_with fail
  refine Calls.mono (HSP.out _ HX4.out) ?_; rintro e w5 ⟨rfl, HX5⟩
  have v3 := HX5.out.b5.cell (i := 3) rfl
  clear HX4 r0 r1 HSP
  by_cases hv : val.toList = []
  · have hv2 : val = ⟨#[]⟩ := by
      have e : val.data.toList = [] := by rw [← ByteArray.toList_eq]; exact hv
      exact ba_eq e
    have HST : Hid (∀ V, Xst w p q B4 B5 B6 B12 B13 kd a N c cs k ua UL uc n key val V → Hid (Xst w p q B4 B5 B6 B12 B13 kd a N c cs k ua UL uc n key val V) ∧ V.cell? ⟨B4, 0, none⟩ = some (.int .i64 kn) ∧ V.cell? ⟨B4, 1, none⟩ = some (.slice a N c) ∧ V.cell? ⟨B13, 0, none⟩ = some (.int .i64 kn) ∧ V.cell? ⟨B13, 1, none⟩ = some (.slice ua UL uc)) := fun V z => ⟨z, (HC.out _ z).1, z.b4.cell rfl, (HC.out _ z).2.2, z.b13.cell rfl⟩
    have HJN : Hid (∀ V, Xst w p q B4 B5 B6 B12 B13 kd a N c cs k ua UL uc n key val V → Calls Try.prog 22 #[.pointer (some ⟨p, 0, none⟩), .pointer (some ⟨q, 0, none⟩)] V fun e w' => e = .returned (.int .i64 0) ∧ (w'.cell? ⟨B4, 0, none⟩ = some (.int .i64 kn) ∧ w'.cell? ⟨B4, 1, none⟩ = some (.slice a N c) ∧ w'.cell? ⟨B13, 0, none⟩ = some (.int .i64 kn) ∧ w'.cell? ⟨B13, 1, none⟩ = some (.slice ua UL uc)) ∧ Hid (Pg w' p (lay kd cs) ∧ Pg w' q (lay kd (cs.drop k)) ∧ Sl cv 2 w' (.slice a N c) cs ∧ Sl cv 2 w' (.slice ua UL uc) (cs.drop k) ∧ Blk w' B4 29 [.int .i64 (kd.toNat : Int), .slice a N c] ∧ Blk w' B13 29 [.int .i64 (kd.toNat : Int), .slice ua UL uc] ∧ Blk w' B6 29 [.int .i64 0, .slice none 0 0] ∧ Kept (fun i => i = p) w w')) := fun V z => by
      have := join_is z.pg z.qg z.npq (by rw [List.take_append_drop]; exact HOK.out.1) HOK.out.2.2.2.2 (ahd_yes (td_less HOK.out.2.1 k))
      rw [List.take_append_drop] at this
      refine this.mono fun e w' ⟨q1, q2, q3⟩ => ?_
      have t4 := z.b4.kept q3 (fun e => z.n4 e.symm)
      have t13 := z.b13.kept q3 (fun e => z.n13 e.symm)
      refine ⟨q1, by rw [← HKN.out]; exact ⟨t4.cell rfl, t4.cell rfl, t13.cell rfl, t13.cell rfl⟩, q2, z.qg.kept q3 (fun e => z.npq e.symm), z.sl.page z.pg q3, z.s2.page z.pg q3, t4, t13, z.b6.kept q3 (fun e => z.n6 e.symm), z.kp.trans q3 (fun i e => .inl e)⟩
    have HSJ : Hid (∀ V, (Pg V p (lay kd cs) ∧ Pg V q (lay kd (cs.drop k)) ∧ Sl cv 2 V (.slice a N c) cs ∧ Sl cv 2 V (.slice ua UL uc) (cs.drop k) ∧ Blk V B4 29 [.int .i64 (kd.toNat : Int), .slice a N c] ∧ Blk V B13 29 [.int .i64 (kd.toNat : Int), .slice ua UL uc] ∧ Blk V B6 29 [.int .i64 0, .slice none 0 0] ∧ Kept (fun i => i = p) w V) → Calls Try.prog 13 #[.pointer (some ⟨q, 0, none⟩), .agg #[.int .i64 kn, .slice ua UL uc]] V fun e w' => e = .returned (.bool true) ∧ (w'.cell? ⟨B4, 0, none⟩ = some (.int .i64 kn) ∧ w'.cell? ⟨B4, 1, none⟩ = some (.slice a N c) ∧ w'.cell? ⟨B13, 0, none⟩ = some (.int .i64 kn) ∧ w'.cell? ⟨B13, 1, none⟩ = some (.slice ua UL uc)) ∧ Hid (Pg w' p (lay kd cs) ∧ Sl cv 2 w' (.slice a N c) cs ∧ Blk w' B6 29 [.int .i64 0, .slice none 0 0] ∧ Kept (fun i => i = p) w w')) := fun V z => by
      have := same_is kd HOK.out.2.2.2.2 ua UL uc (cs.drop k) HUL.out z.2.1 z.2.2.2.1 (okC_td HOK.out.1 k).2
      rw [HKN.out] at this
      refine this.mono fun e w' ⟨q1, q2⟩ => ?_
      have t4 := z.2.2.2.2.1.step q2
      have t13 := z.2.2.2.2.2.1.step q2
      exact ⟨q1, by rw [← HKN.out]; exact ⟨t4.cell rfl, t4.cell rfl, t13.cell rfl, t13.cell rfl⟩, z.1.step q2, z.2.2.1.step cv_ne q2, z.2.2.2.2.2.2.1.step q2, z.2.2.2.2.2.2.2.trans q2 (fun _ y => y.elim)⟩
    have HXD : Hid (Xst w p q B4 B5 B6 B12 B13 kd a N c cs k ua UL uc n key val w5.drew) := HX5.out.step ((Kept.refl _ _).drew)
    have hS : w5.drew.cell? ⟨B4, 0, none⟩ = some (.int .i64 kn) ∧ w5.drew.cell? ⟨B4, 1, none⟩ = some (.slice a N c) ∧ w5.drew.cell? ⟨B13, 0, none⟩ = some (.int .i64 kn) ∧ w5.drew.cell? ⟨B13, 1, none⟩ = some (.slice ua UL uc) := (HST.out _ HXD.out).2
    have HSS : Hid (∀ (V : World) (x y : Value), (V.cell? ⟨B4, 0, none⟩ = some (.int .i64 kn) ∧ V.cell? ⟨B4, 1, none⟩ = some (.slice a N c) ∧ V.cell? ⟨B13, 0, none⟩ = some (.int .i64 kn) ∧ V.cell? ⟨B13, 1, none⟩ = some (.slice ua UL uc)) → ((V.setCell ⟨B6, 0, none⟩ x).setCell ⟨B6, 1, none⟩ y).cell? ⟨B4, 0, none⟩ = some (.int .i64 kn) ∧ ((V.setCell ⟨B6, 0, none⟩ x).setCell ⟨B6, 1, none⟩ y).cell? ⟨B4, 1, none⟩ = some (.slice a N c) ∧ ((V.setCell ⟨B6, 0, none⟩ x).setCell ⟨B6, 1, none⟩ y).cell? ⟨B13, 0, none⟩ = some (.int .i64 kn) ∧ ((V.setCell ⟨B6, 0, none⟩ x).setCell ⟨B6, 1, none⟩ y).cell? ⟨B13, 1, none⟩ = some (.slice ua UL uc)) := fun V x y z => ⟨(Kept.two V B6 x y).cell z.1 HX5.out.n46, (Kept.two V B6 x y).cell z.2.1 HX5.out.n46, (Kept.two V B6 x y).cell z.2.2.1 HX5.out.n136, (Kept.two V B6 x y).cell z.2.2.2 HX5.out.n136⟩
    have HEND : Hid (w.heap.size ≤ B6 ∧ p ≠ B6) := ⟨HX5.out.h6, HX5.out.n6⟩
    rw [hv2] at v3
    clear hv HST HSQ HX5 HC
    go_upto_region 16 with fail
    clear v3
    go_region_held (fun (w' : World) => w'.cell? ⟨B4, 0, none⟩ = some (.int .i64 kn) ∧ w'.cell? ⟨B4, 1, none⟩ = some (.slice a N c) ∧ w'.cell? ⟨B13, 0, none⟩ = some (.int .i64 kn) ∧ w'.cell? ⟨B13, 1, none⟩ = some (.slice ua UL uc)) (first | (with_reducible assumption) | (with_reducible exact HSS.out _ _ _ (by with_reducible assumption))) (first | ((with_reducible refine Calls.mono (HJN.out _ HXD.out) ?_); rintro e w6 ⟨rfl, hS6, HM6⟩) | ((with_reducible refine Calls.mono (HSJ.out _ HM6.out) ?_); rintro e w7 ⟨rfl, hS7, HM7⟩; have u0 := HM7.out.2.2.1.cell (i := 0) rfl; have u1 := HM7.out.2.2.1.cell (i := 1) rfl; have uf := HM7.out.2.2.1.fz))
    clear HJN HSJ HXD HSS hS hS6 hS7 u0 u1 uf HM6
    go_wp2_with fail
    have HF := does_fin HM7.out.1 HM7.out.2.1 HM7.out.2.2.1 HM7.out.2.2.2 HEND.out.1 HEND.out.2 _ (Kept.refl _ _)
    rw [HKN.out] at HF
    refine bodyPost_ret (end_cell_tmp rfl rfl HF.1) rfl ?_
    exact ⟨_, _, _, cs, by rw [HKN.out]; first | rfl | simp, HF.2.1, HF.2.2.1, HOK.out.2.2.1, HOK.out.1, HOK.out.2.1, HF.2.2.2⟩
  · have HF := does_fin HX5.out.pg HX5.out.s1 HX5.out.b6 HX5.out.kp HX5.out.h6 HX5.out.n6 _ (Kept.refl _ _)
    rw [HKN.out] at HF
    have HF2 : Hid _ := HF
    have v0 := (HC.out _ HX5.out).2.1
    have v1 := HX5.out.b12.cell (i := 1) rfl
    have u0 := HX5.out.b6.cell (i := 0) rfl
    have u1 := HX5.out.b6.cell (i := 1) rfl
    have uf := HX5.out.b6.fz
    have hv0 : val.toList.isEmpty = false := by
      cases e : val.toList with
      | nil => exact absurd e hv
      | cons _ _ => rfl
    clear HF HX5 HSQ HC
    go_wp2_with fail
    refine bodyPost_ret (end_cell_tmp rfl rfl HF2.out.1) rfl ?_
    exact ⟨_, _, _, cs.take k, by rw [HKN.out]; first | rfl | simp, HF2.out.2.1, HF2.out.2.2.1, by rw [List.length_take]; have := HOK.out.2.2.1; have := HOK.out.2.2.2.1; omega, (okC_td HOK.out.1 k).1, (ris_td HOK.out.2.1 k).1, HF2.out.2.2.2⟩
end Go.Proofs.Ytncpohimjmakpaa
