/- awake. -/
import Derived.Test.YthfhjfemcmdmfaaAwake
namespace Go.Proofs.Ythfhjfemcmdmfaa
open Go.ChangeShapes Go.WideShapes Go.ChangeAt Go.RowKit
set_option linter.unusedVariables false
set_option maxRecDepth 100000

set_option maxHeartbeats 2000000 in
theorem awake_is (w : World) : Calls Try.prog 8 #[] w fun e w' => e = .returned (.bool true) ∧ Below w.heap.size w w' := by
  have HN := (show Hid _ from new_is 8 (by omega) (by omega) w)
  go_enter Try.func8, Try.ntmps8
  go_wp2_with fail
  refine Calls.mono HN.out ?_; rintro e w1 ⟨p, F, rfl, d1, b1, f1⟩
  have H1 : Hid (Disk w1 F p (fresh 8) ∧ Below w.heap.size w w1 ∧ ∀ k, F k → w.heap.size ≤ k) := ⟨d1, b1, f1⟩
  have HO1 := (show Hid _ from aw_open d1 rfl rfl 3 (by omega) [] 0 aw_three)
  clear d1 b1 f1 HN
  go_wp2_with fail
  refine Calls.mono HO1.out ?_; rintro e w2 ⟨q, v, rfl, l2, k2, q2, v2⟩
  have H2 : Hid (Disk w2 F p (fresh 8) ∧ LogAt w2 F q p 1 8 3 [] 0 v ∧ Below w.heap.size w w2 ∧ (∀ k, F k → w.heap.size ≤ k) ∧ w.heap.size ≤ q ∧ ∀ k, v.ownBlock = some k → w.heap.size ≤ k) := by
    obtain ⟨d1, b1, f1⟩ := H1.out
    exact ⟨d1.kept k2 (fun _ _ z => z), l2, b1.trans (k2.below b1.size (fun _ z => z.elim)), f1, Nat.le_trans b1.size q2, fun k hk => Nat.le_trans b1.size (v2 k hk)⟩
  have HA := (show Hid _ from aw_add H2.out.1 H2.out.2.1)
  clear l2 k2 q2 v2 HO1 H1
  go_wp2_with fail
  refine Calls.mono HA.out ?_; rintro e w3 ⟨rfl, F', v', k3, g3, d3, l3⟩
  have H3 : Hid (Disk w3 F' p (puts (fresh 8) 1 awL 1) ∧ LogAt w3 F' q p 1 8 3 awG 26 v' ∧ Below w.heap.size w w3 ∧ (∀ k, F' k → w.heap.size ≤ k)) := by
    obtain ⟨d2, l2, b2, f2, hq, hv⟩ := H2.out
    refine ⟨d3, l3, b2.trans (k3.below b2.size (fun k hk => ?_)), fun k hk => (g3 k hk).elim (f2 k) (fun z => Nat.le_trans b2.size z)⟩
    rcases hk with hk | rfl | hk
    · exact f2 k hk
    · exact hq
    · exact hv k hk
  have HS : Hid (Calls Try.prog 22 #[.pointer (some ⟨q, 0, none⟩)] w3 fun e w' => e = .returned (.int .i64 0) ∧ Disk w' F' p awD ∧ LogAt w' F' q p 1 8 3 awG 26 v' ∧ Kept F' w3 w') := by
    have := sync_at l3 d3 (by have := puts_q (fresh 8) 1 awL 1; exact Nat.le_trans this (by show 0 + 1 ≤ 1048576; omega))
    rw [aw_on, if_pos rfl] at this
    exact this
  clear k3 g3 d3 l3 HA H2
  go_wp2_with fail
  refine Calls.mono HS.out ?_; rintro e w4 ⟨rfl, d4, l4, k4⟩
  have H4 : Hid (Disk w4 F' p awD ∧ Below w.heap.size w w4 ∧ (∀ k, F' k → w.heap.size ≤ k)) := by
    obtain ⟨d3, l3, b3, f3⟩ := H3.out
    exact ⟨d4, b3.trans (k4.below b3.size f3), f3⟩
  have HO2 := (show Hid _ from aw_open d4 rfl aw_off 3 (by omega) awG 26 aw_three2)
  clear d4 l4 k4 HS H3
  go_wp2_with fail
  refine Calls.mono HO2.out ?_; rintro e w5 ⟨qa, va, rfl, l5, k5, q5, v5⟩
  have H5 : Hid (Disk w5 F' p awD ∧ LogAt w5 F' qa p 1 8 3 awG 26 va ∧ Below w.heap.size w w5) := by
    obtain ⟨d4, b4, f4⟩ := H4.out
    exact ⟨d4.kept k5 (fun _ _ z => z), l5, b4.trans (k5.below b4.size (fun _ z => z.elim))⟩
  have HO3 := (show Hid _ from aw_open H5.out.1 rfl aw_off 4 (by omega) [] 0 aw_four2)
  clear l5 k5 q5 v5 HO2 H4
  go_wp2_with fail
  refine Calls.mono HO3.out ?_; rintro e w6 ⟨qb, vb, rfl, l6, k6, q6, v6⟩
  have H6 : Hid (LogAt w6 F' qa p 1 8 3 awG 26 va ∧ LogAt w6 F' qb p 1 8 4 [] 0 vb ∧ Below w.heap.size w w6) := by
    obtain ⟨d5, l5, b5⟩ := H5.out
    exact ⟨l5.step k6, l6, b5.trans (k6.below b5.size (fun _ z => z.elim))⟩
  have HRc := (show Hid _ from records_at H6.out.1 (by decide))
  clear l6 k6 q6 v6 HO3 H5
  go_wp2_with fail
  refine Calls.mono HRc.out ?_; rintro e w7 ⟨vr, rfl, o7, k7⟩
  obtain ⟨ra, rc, rfl⟩ := own_form o7
  have k8 : Kept (fun _ => False) w7 (w7.alloc (.cells #[.string ⟨#[111, 110, 101]⟩, .string ⟨#[116, 119, 111]⟩] 9)) := (Kept.refl _ w7).alloc _
  have HSm : Hid (Calls Try.prog 13 #[.slice ra awG.length rc, .slice (some ⟨w7.heap.size, 0, none⟩) 2 2] (w7.alloc (.cells #[.string ⟨#[111, 110, 101]⟩, .string ⟨#[116, 119, 111]⟩] 9)) fun e w' => e = .returned (.bool true) ∧ ∃ n, w' = (w7.alloc (.cells #[.string ⟨#[111, 110, 101]⟩, .string ⟨#[116, 119, 111]⟩] 9)).drewN n) := by
    have t1 := (own_texts o7).kept k8 (fun _ _ _ _ z => z)
    have t2 : Texts (w7.alloc (.cells #[.string ⟨#[111, 110, 101]⟩, .string ⟨#[116, 119, 111]⟩] 9)) (.slice (some ⟨w7.heap.size, 0, none⟩) awG.length 2) awG := by
      refine .inr ⟨w7.heap.size, 0, 2, rfl, fun k hk => ?_⟩
      have : k = 0 ∨ k = 1 := by have : k < 2 := hk; omega
      rcases this with rfl | rfl
      · simp [awG]
      · simp [awG]
    have := same_is ra (some ⟨w7.heap.size, 0, none⟩) rc 2 awG awG _ t1 t2 (by decide) (by decide)
    rw [decide_eq_true rfl] at this
    exact this
  have H7 : Hid (LogAt w7 F' qa p 1 8 3 awG 26 va ∧ LogAt w7 F' qb p 1 8 4 [] 0 vb ∧ Below w.heap.size w w7) := by
    obtain ⟨l6, m6, b6⟩ := H6.out
    exact ⟨l6.step k7, m6.step k7, b6.trans (k7.below b6.size (fun _ z => z.elim))⟩
  clear o7 k7 k8 HRc H6
  replace HSm : Hid (Calls Try.prog 13 #[.slice ra 2 rc, .slice (some ⟨w7.heap.size, 0, none⟩) 2 2] (w7.alloc (.cells #[.string ⟨#[111, 110, 101]⟩, .string ⟨#[116, 119, 111]⟩] 9)) fun e w' => e = .returned (.bool true) ∧ ∃ n, w' = (w7.alloc (.cells #[.string ⟨#[111, 110, 101]⟩, .string ⟨#[116, 119, 111]⟩] 9)).drewN n) := HSm
  show _
  go_wp2_with fail
  refine Calls.mono HSm.out ?_; rintro e w8 ⟨rfl, n8, h8⟩
  have k8 : Kept (fun _ => False) w7 w8 := by rw [h8]; exact ((Kept.refl _ w7).alloc _).trans (kept_drewN _ n8) (fun _ z => .inl z)
  have H8 : Hid (LogAt w8 F' qb p 1 8 4 [] 0 vb ∧ Below w.heap.size w w8) := by
    obtain ⟨l7, m7, b7⟩ := H7.out
    exact ⟨m7.step k8, b7.trans (k8.below b7.size (fun _ z => z.elim))⟩
  have HU := (show Hid _ from used_at (H7.out.1.step k8))
  have HRb := (show Hid _ from records_at H8.out.1 (by decide))
  clear h8 k8 HSm H7
  go_wp2_with fail
  refine Calls.mono HU.out ?_; rintro e w9 ⟨rfl, rfl⟩
  go_wp2_with fail
  refine Calls.mono HRb.out ?_; rintro e w10 ⟨vz, rfl, o10, k10⟩
  obtain ⟨za, zc, rfl⟩ := own_form o10
  have HE : Hid (Below w.heap.size w w10) := H8.out.2.trans (k10.below H8.out.2.size (fun _ z => z.elim))
  clear o10 k10 HRb H8
  go_wp2_with fail
  go_ret
  exact ⟨rfl, HE.out⟩
end Go.Proofs.Ythfhjfemcmdmfaa
