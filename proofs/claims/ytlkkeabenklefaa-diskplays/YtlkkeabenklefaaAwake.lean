/- awake. -/
import Derived.Test.YtlkkeabenklefaaAt
namespace Go.Proofs.Ytlkkeabenklefaa
open Go.ChangeShapes Go.WideShapes Go.ChangeAt Go.RowKit
set_option linter.unusedVariables false

set_option maxHeartbeats 2000000 in
theorem awake_core (w : World) (fa fb : ByteArray) (d0 d1 d2 d3 d4 : Dk) (sa : fa.size = 32) (sb : fb.size = 32)
    (HN : Hid (Calls Try.prog 7 #[.int .i64 2] w fun e w' => ∃ p, e = .returned (.tuple #[.pointer (some ⟨p, 0, none⟩), .int .i64 0]) ∧ At w w' p d0))
    (HA : Hid (∀ w', Calls Try.prog 10 #[.int .u8 97] w' fun e w'' => e = .returned (.string fa) ∧ Kept (fun _ => False) w' w''))
    (HB : Hid (∀ w', Calls Try.prog 10 #[.int .u8 98] w' fun e w'' => e = .returned (.string fb) ∧ Kept (fun _ => False) w' w''))
    (W1 : Hid (∀ w' p, At w w' p d0 → Calls Try.prog 11 #[.pointer (some ⟨p, 0, none⟩), .int .i64 0, .string fa] w' fun e w'' => e = .returned (.int .i64 0) ∧ At w w'' p d1))
    (W2 : Hid (∀ w' p, At w w' p d1 → Calls Try.prog 15 #[.pointer (some ⟨p, 0, none⟩)] w' fun e w'' => e = .returned (.int .i64 0) ∧ At w w'' p d2))
    (W3 : Hid (∀ w' p, At w w' p d2 → Calls Try.prog 11 #[.pointer (some ⟨p, 0, none⟩), .int .i64 0, .string fb] w' fun e w'' => e = .returned (.int .i64 0) ∧ At w w'' p d3))
    (W4 : Hid (∀ w' p, At w w' p d3 → Calls Try.prog 22 #[.pointer (some ⟨p, 0, none⟩)] w' fun e w'' => e = .returned (.int .i64 1) ∧ w'' = w'))
    (W5 : Hid (∀ w' p, At w w' p d3 → Calls Try.prog 13 #[.pointer (some ⟨p, 0, none⟩), .int .i64 0] w' fun e w'' => e = .returned (.tuple #[.string fb, .int .i64 0]) ∧ w'' = w'))
    (W6 : Hid (∀ w' p, At w w' p d3 → Calls Try.prog 19 #[.pointer (some ⟨p, 0, none⟩), .slice (some ⟨w'.heap.size, 0, none⟩) 1 1] (w'.alloc (.cells #[.int .i64 5] 3)) fun e w'' => e = .returned (.int .i64 0) ∧ At w w'' p d4))
    (W7 : Hid (∀ w' p, At w w' p d4 → Calls Try.prog 13 #[.pointer (some ⟨p, 0, none⟩), .int .i64 0] w' fun e w'' => e = .returned (.tuple #[.string (fb.extract 0 5 ++ fa.extract 5 32), .int .i64 0]) ∧ w'' = w'))
    (W8 : Hid (∀ w' p, At w w' p d4 → Calls Try.prog 23 #[.pointer (some ⟨p, 0, none⟩)] w' fun e w'' => e = .returned (.int .i64 2) ∧ w'' = w'))
    (W9 : Hid (∀ w' p, At w w' p d4 → Calls Try.prog 22 #[.pointer (some ⟨p, 0, none⟩)] w' fun e w'' => e = .returned (.int .i64 0) ∧ w'' = w')) :
    Calls Try.prog 9 #[] w fun e w' => e = .returned (.bool true) ∧ Below w.heap.size w w' := by
  go_enter Try.func9, Try.ntmps9
  go_wp2_with fail
  refine Calls.mono HN.out ?_; rintro e w1 ⟨p, rfl, a1⟩
  replace a1 : Hid (At w w1 p (d0)) := a1
  go_wp2_with fail
  refine Calls.mono (HA.out _) ?_; rintro e w2 ⟨rfl, k2⟩
  replace a1 : Hid (At w w2 p (d0)) := a1.out.step k2
  clear k2
  go_wp2_with fail
  refine Calls.mono (W1.out _ p a1.out) ?_; rintro e w3 ⟨rfl, a3⟩
  replace a3 : Hid (At w w3 p d1) := a3
  go_wp2_with fail
  refine Calls.mono (W2.out _ p a3.out) ?_; rintro e w4 ⟨rfl, a4⟩
  replace a4 : Hid (At w w4 p d2) := a4
  go_wp2_with fail
  refine Calls.mono (HB.out _) ?_; rintro e w5 ⟨rfl, k5⟩
  replace a4 : Hid (At w w5 p d2) := a4.out.step k5
  clear k5
  go_wp2_with fail
  refine Calls.mono (W3.out _ p a4.out) ?_; rintro e w6 ⟨rfl, a6⟩
  replace a6 : Hid (At w w6 p d3) := a6
  go_wp2_with fail
  refine Calls.mono (W4.out _ p a6.out) ?_; rintro e w7 ⟨rfl, rfl⟩
  go_wp2_with fail
  refine Calls.mono (W5.out _ p a6.out) ?_; rintro e w8 ⟨rfl, rfl⟩
  go_wp2_with fail
  refine Calls.mono (HB.out _) ?_; rintro e w9 ⟨rfl, k9⟩
  replace a6 : Hid (At w w9 p d3) := a6.out.step k9
  clear k9
  go_wp2_with fail
  refine Calls.mono (W6.out _ p a6.out) ?_; rintro e w10 ⟨rfl, a10⟩
  replace a10 : Hid (At w w10 p d4) := a10
  go_wp2_with fail
  refine Calls.mono (W7.out _ p a10.out) ?_; rintro e w11 ⟨rfl, rfl⟩
  go_wp2_with fail
  have hd : Hid (At w w11.drew p d4) := a10.out.drew
  have hb5 : (5 : Int) ≤ (fb.size : Int) := by omega
  have ha5 : (5 : Int) ≤ (fa.size : Int) := by omega
  refine wp_region_any (by kernel_rfl) ?_
  rw [show ({ w11 with drawn := w11.drawn + 1 } : World) = w11.drew from rfl]
  refine wpAny_take (i := 0) (v := .string (fb.extract 0 5 ++ fa.extract 5 32)) rfl (by kernel_rfl) (by kernel_rfl) (by kernel_rfl) (fun _ _ _ h => h) (Or.inl ⟨by rfl, fun w => by go_simp⟩) ?_
  refine wpAny_ready (rs := [1]) (by kernel_rfl) (by simp) (AllReady.cons rfl (fun K hK => ?_) AllReady.nil)
  go_simp
  refine Calls.mono (HB.out _) ?_; rintro e wf ⟨rfl, kf⟩
  replace hd : Hid (At w wf p d4) := hd.out.step kf
  clear kf
  go_simp
  refine hK _ _ ?_
  clear hK K
  refine wpAny_take (i := 2) (v := .string (fb.extract 0 5)) rfl (by kernel_rfl) (by kernel_rfl) (by kernel_rfl) (fun _ _ _ h => h) (Or.inl ⟨by rfl, fun w => by go_simp⟩) ?_
  refine wpAny_ready (rs := [3]) (by kernel_rfl) (by simp) (AllReady.cons rfl (fun K hK => ?_) AllReady.nil)
  go_simp
  refine Calls.mono (HA.out _) ?_; rintro e wf ⟨rfl, kf⟩
  replace hd : Hid (At w wf p d4) := hd.out.step kf
  clear kf
  go_simp
  refine hK _ _ ?_
  clear hK K
  refine wpAny_take (i := 4) (v := .string (fa.extract 5 32)) rfl (by kernel_rfl) (by kernel_rfl) (by kernel_rfl) (fun _ _ _ h => h) (Or.inl ⟨by rfl, fun w => by go_simp⟩) ?_
  simp only [Act.put, List.getElem_toArray, List.getElem_cons_succ, List.getElem_cons_zero, List.setIfInBounds_toArray, List.set_cons_succ, List.set_cons_zero]
  refine wpAny_take (i := 5) (v := .string (fb.extract 0 5 ++ fa.extract 5 32)) rfl (by kernel_rfl) (by kernel_rfl) (by kernel_rfl) (fun _ _ _ h => h) (Or.inl ⟨by rfl, fun w => by go_simp⟩) ?_
  simp only [Act.put, List.getElem_toArray, List.getElem_cons_succ, List.getElem_cons_zero, List.setIfInBounds_toArray, List.set_cons_succ, List.set_cons_zero]
  refine wpAny_take (i := 6) (v := .bool true) rfl (by kernel_rfl) (by kernel_rfl) (by kernel_rfl) (fun _ _ _ h => h) (Or.inl ⟨by rfl, fun w => by go_simp⟩) ?_
  simp only [Act.put, List.getElem_toArray, List.getElem_cons_succ, List.getElem_cons_zero, List.setIfInBounds_toArray, List.set_cons_succ, List.set_cons_zero]
  refine wpAny_take (i := 7) (v := .bool true) rfl (by kernel_rfl) (by kernel_rfl) (by kernel_rfl) (fun _ _ _ h => h) (Or.inl ⟨by rfl, fun w => by go_simp⟩) ?_
  simp only [Act.put, List.getElem_toArray, List.getElem_cons_succ, List.getElem_cons_zero, List.setIfInBounds_toArray, List.set_cons_succ, List.set_cons_zero]
  refine wpAny_take (i := 8) (v := .int .i64 0) rfl (by kernel_rfl) (by kernel_rfl) (by kernel_rfl) (fun _ _ _ h => h) (Or.inl ⟨by rfl, fun w => by go_simp⟩) ?_
  simp only [Act.put, List.getElem_toArray, List.getElem_cons_succ, List.getElem_cons_zero, List.setIfInBounds_toArray, List.set_cons_succ, List.set_cons_zero]
  refine wpAny_take (i := 9) (v := .bool true) rfl (by kernel_rfl) (by kernel_rfl) (by kernel_rfl) (fun _ _ _ h => h) (Or.inl ⟨by rfl, fun w => by go_simp⟩) ?_
  simp only [Act.put, List.getElem_toArray, List.getElem_cons_succ, List.getElem_cons_zero, List.setIfInBounds_toArray, List.set_cons_succ, List.set_cons_zero]
  refine wpAny_take (i := 10) (v := .bool true) rfl (by kernel_rfl) (by kernel_rfl) (by kernel_rfl) (fun _ _ _ h => h) (Or.inl ⟨by rfl, fun w => by go_simp⟩) ?_
  simp only [Act.put, List.getElem_toArray, List.getElem_cons_succ, List.getElem_cons_zero, List.setIfInBounds_toArray, List.set_cons_succ, List.set_cons_zero]
  refine wpAny_take (i := 11) (v := .bool true) rfl (by kernel_rfl) (by kernel_rfl) (by kernel_rfl) (fun _ _ _ h => h) (Or.inl ⟨by rfl, fun w => by go_simp⟩) ?_
  simp only [Act.put, List.getElem_toArray, List.getElem_cons_succ, List.getElem_cons_zero, List.setIfInBounds_toArray, List.set_cons_succ, List.set_cons_zero]
  refine wpAny_take (i := 12) (v := .pointer (some ⟨p, 0, none⟩)) rfl (by kernel_rfl) (by kernel_rfl) (by kernel_rfl) (fun _ _ _ h => h) (Or.inl ⟨by rfl, fun w => by go_simp⟩) ?_
  simp only [Act.put, List.getElem_toArray, List.getElem_cons_succ, List.getElem_cons_zero, List.setIfInBounds_toArray, List.set_cons_succ, List.set_cons_zero]
  refine wpAny_ready (rs := [13]) (by kernel_rfl) (by simp) (AllReady.cons rfl (fun K hK => ?_) AllReady.nil)
  go_simp
  refine Calls.mono (W8.out _ p hd.out) ?_; rintro e wf ⟨rfl, rfl⟩
  go_simp
  refine hK _ _ ?_
  clear hK K
  refine wpAny_take (i := 14) (v := .bool true) rfl (by kernel_rfl) (by kernel_rfl) (by kernel_rfl) (fun _ _ _ h => h) (Or.inl ⟨by rfl, fun w => by go_simp⟩) ?_
  simp only [Act.put, List.getElem_toArray, List.getElem_cons_succ, List.getElem_cons_zero, List.setIfInBounds_toArray, List.set_cons_succ, List.set_cons_zero]
  refine wpAny_take (i := 15) (v := .bool true) rfl (by kernel_rfl) (by kernel_rfl) (by kernel_rfl) (fun _ _ _ h => h) (Or.inl ⟨by rfl, fun w => by go_simp⟩) ?_
  simp only [Act.put, List.getElem_toArray, List.getElem_cons_succ, List.getElem_cons_zero, List.setIfInBounds_toArray, List.set_cons_succ, List.set_cons_zero]
  refine wpAny_take (i := 16) (v := .bool true) rfl (by kernel_rfl) (by kernel_rfl) (by kernel_rfl) (fun _ _ _ h => h) (Or.inl ⟨by rfl, fun w => by go_simp⟩) ?_
  simp only [Act.put, List.getElem_toArray, List.getElem_cons_succ, List.getElem_cons_zero, List.setIfInBounds_toArray, List.set_cons_succ, List.set_cons_zero]
  refine wpAny_take (i := 17) (v := .pointer (some ⟨p, 0, none⟩)) rfl (by kernel_rfl) (by kernel_rfl) (by kernel_rfl) (fun _ _ _ h => h) (Or.inl ⟨by rfl, fun w => by go_simp⟩) ?_
  simp only [Act.put, List.getElem_toArray, List.getElem_cons_succ, List.getElem_cons_zero, List.setIfInBounds_toArray, List.set_cons_succ, List.set_cons_zero]
  refine wpAny_ready (rs := [18]) (by kernel_rfl) (by simp) (AllReady.cons rfl (fun K hK => ?_) AllReady.nil)
  go_simp
  refine Calls.mono (W9.out _ p hd.out) ?_; rintro e wf ⟨rfl, rfl⟩
  go_simp
  refine hK _ _ ?_
  clear hK K
  refine wpAny_take (i := 19) (v := .bool true) rfl (by kernel_rfl) (by kernel_rfl) (by kernel_rfl) (fun _ _ _ h => h) (Or.inl ⟨by rfl, fun w => by go_simp⟩) ?_
  simp only [Act.put, List.getElem_toArray, List.getElem_cons_succ, List.getElem_cons_zero, List.setIfInBounds_toArray, List.set_cons_succ, List.set_cons_zero]
  refine wpAny_take (i := 20) (v := .bool true) rfl (by kernel_rfl) (by kernel_rfl) (by kernel_rfl) (fun _ _ _ h => h) (Or.inl ⟨by rfl, fun w => by go_simp⟩) ?_
  simp only [Act.put, List.getElem_toArray, List.getElem_cons_succ, List.getElem_cons_zero, List.setIfInBounds_toArray, List.set_cons_succ, List.set_cons_zero]
  refine wpAny_take (i := 21) (v := .bool true) rfl (by kernel_rfl) (by kernel_rfl) (by kernel_rfl) (fun _ _ _ h => h) (Or.inl ⟨by rfl, fun w => by go_simp⟩) ?_
  refine wpAny_done (by kernel_rfl) ?_ _
  go_wp2_with fail
  go_ret
  exact ⟨rfl, hd.out.below⟩

theorem awake_is (w : World) : Calls Try.prog 9 #[] w fun e w' => e = .returned (.bool true) ∧ Below w.heap.size w w' :=
  awake_core w (fill 97) (fill 98) (aw 0) (aw 1) (aw 2) (aw 3) (aw 4) (fill_size 97) (fill_size 98) (new_at 2 (by omega) (by omega) w) (filled_is 97) (filled_is 98)
    (fun w' p h => h.write 0 (by decide) (fill 97) (fill_size 97) (by decide)) (fun w' p h => h.flush (by decide)) (fun w' p h => h.write 0 (by decide) (fill 98) (fill_size 98) (by decide)) (fun w' p h => h.waits)
    (fun w' p h => h.read 0 (by decide)) (fun w' p h => h.crash_one (by decide) 5) (fun w' p h => by
      rw [← aw_last]
      exact h.read 0 (by decide)) (fun w' p h => h.size) (fun w' p h => h.waits)
end Go.Proofs.Ytlkkeabenklefaa
