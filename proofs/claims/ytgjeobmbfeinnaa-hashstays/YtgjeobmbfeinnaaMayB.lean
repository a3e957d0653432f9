/- value: which truths may be. -/
import Derived.Test.YtgjeobmbfeinnaaVals
namespace Go.Proofs.Ytgjeobmbfeinnaa
open Go.ChangeShapes Go.WideShapes Go.RowKit
set_option linter.unusedVariables false
set_option maxRecDepth 100000

theorem truth_is (n : Int) (w : World) : Calls Try.prog 39 #[.int .i64 n] w fun e w' => e = .returned (vv 3 n ⟨#[]⟩) ∧ w' = w.alloc (.cells #[.int .i64 3, .int .i64 n, .string ⟨#[]⟩] 24) := by
  go_enter Try.func39, Try.ntmps39
  go_wp2_with fail
  try simp only [Exit.inBlock, Exit.then]
  refine bodyPost_ret (end_cell rfl rfl (load24 (by simp [go_sem]; rfl) (by simp [go_sem]; rfl) (by simp [go_sem]; rfl))) rfl ?_
  exact ⟨rfl, rfl⟩
/-- May a value be? -/
def mayV (k n : Int) (s : ByteArray) : Prop := (k = 0 ∧ n = 0 ∧ s.size = 0) ∨ (k = 1 ∧ s.size = 0) ∨ (k = 2 ∧ n = 0 ∧ s.size ≤ 64) ∨ (k = 3 ∧ (n = 0 ∨ n = 1) ∧ s.size = 0)
instance (k n : Int) (s : ByteArray) : Decidable (mayV k n s) := by unfold mayV; infer_instance
theorem not_nil {s : ByteArray} (h : ¬ s.size = 0) : ¬ s.toList = [] := fun e => h (by
  rw [ByteArray.toList_eq] at e
  have := congrArg List.length e
  simpa using this)
theorem nil_of {s : ByteArray} (h : s.size = 0) : s.toList = [] := by rw [empty_of h, ByteArray.toList_eq]
theorem size_nil {s : ByteArray} (h : s.toList = []) : s.size = 0 := by
  rw [ByteArray.toList_eq] at h
  have := congrArg List.length h
  simpa using this
set_option maxHeartbeats 4000000 in
theorem may_bool_a  (w : World) : Calls Try.prog 28 #[vv 3 0 ⟨#[]⟩] w fun e w' => e = .returned (.bool (decide (mayV 3 0 ⟨#[]⟩))) ∧ Below w.heap.size w w' := by
  have H1 := (show Hid _ from truth_is)
  have HQ : Hid (decide (mayV 3 0 ⟨#[]⟩) = true) := by show decide (mayV 3 0 ⟨#[]⟩) = true; decide
  go_enter Try.func28, Try.ntmps28
  go_wp2_with fail
  go_region_with (refine Calls.mono (H1.out _ _) ?_; rintro e w1 ⟨rfl, rfl⟩)
  all_goals go_wp2_with fail
  all_goals go_ret
  all_goals refine ⟨congrArg (fun x => Ending.returned (Value.bool x)) HQ.out.symm, ?_⟩
  all_goals repeat (first | exact Below.refl _ _ | apply Below.drew | (refine Below.alloc ?_ (by simp; try omega) _))
set_option maxHeartbeats 4000000 in
theorem may_bool_b  (w : World) : Calls Try.prog 28 #[vv 3 1 ⟨#[]⟩] w fun e w' => e = .returned (.bool (decide (mayV 3 1 ⟨#[]⟩))) ∧ Below w.heap.size w w' := by
  have H1 := (show Hid _ from truth_is)
  have HQ : Hid (decide (mayV 3 1 ⟨#[]⟩) = true) := by show decide (mayV 3 1 ⟨#[]⟩) = true; decide
  go_enter Try.func28, Try.ntmps28
  go_wp2_with fail
  go_region_with (refine Calls.mono (H1.out _ _) ?_; rintro e w1 ⟨rfl, rfl⟩)
  all_goals go_wp2_with fail
  all_goals go_ret
  all_goals refine ⟨congrArg (fun x => Ending.returned (Value.bool x)) HQ.out.symm, ?_⟩
  all_goals repeat (first | exact Below.refl _ _ | apply Below.drew | (refine Below.alloc ?_ (by simp; try omega) _))
set_option maxHeartbeats 4000000 in
theorem may_bool_c (n : Int) (c0 : ¬ n = 0) (c1 : ¬ n = 1) (w : World) : Calls Try.prog 28 #[vv 3 n ⟨#[]⟩] w fun e w' => e = .returned (.bool (decide (mayV 3 n ⟨#[]⟩))) ∧ Below w.heap.size w w' := by
  have H1 := (show Hid _ from truth_is)
  have HQ : Hid (decide (mayV 3 n ⟨#[]⟩) = false) := by show decide (mayV 3 n ⟨#[]⟩) = false; simp [mayV, c0, c1]
  go_enter Try.func28, Try.ntmps28
  go_wp2_with fail
  go_region_with (refine Calls.mono (H1.out _ _) ?_; rintro e w1 ⟨rfl, rfl⟩)
  all_goals go_wp2_with fail
  all_goals go_ret
  all_goals refine ⟨congrArg (fun x => Ending.returned (Value.bool x)) HQ.out.symm, ?_⟩
  all_goals repeat (first | exact Below.refl _ _ | apply Below.drew | (refine Below.alloc ?_ (by simp; try omega) _))
set_option maxHeartbeats 4000000 in
theorem may_bool_d (s : ByteArray) (c2 : ¬ s.size = 0) (hl : ¬ s.toList = []) (w : World) : Calls Try.prog 28 #[vv 3 0 s] w fun e w' => e = .returned (.bool (decide (mayV 3 0 s))) ∧ Below w.heap.size w w' := by
  have H1 := (show Hid _ from truth_is)
  have HQ : Hid (decide (mayV 3 0 s) = false) := by show decide (mayV 3 0 s) = false; simp [mayV, c2]
  go_enter Try.func28, Try.ntmps28
  go_wp2_with fail
  go_region_with (refine Calls.mono (H1.out _ _) ?_; rintro e w1 ⟨rfl, rfl⟩)
  all_goals go_wp2_with fail
  all_goals go_ret
  all_goals refine ⟨congrArg (fun x => Ending.returned (Value.bool x)) HQ.out.symm, ?_⟩
  all_goals repeat (first | exact Below.refl _ _ | apply Below.drew | (refine Below.alloc ?_ (by simp; try omega) _))
set_option maxHeartbeats 4000000 in
theorem may_bool_e (s : ByteArray) (c2 : ¬ s.size = 0) (hl : ¬ s.toList = []) (w : World) : Calls Try.prog 28 #[vv 3 1 s] w fun e w' => e = .returned (.bool (decide (mayV 3 1 s))) ∧ Below w.heap.size w w' := by
  have H1 := (show Hid _ from truth_is)
  have HQ : Hid (decide (mayV 3 1 s) = false) := by show decide (mayV 3 1 s) = false; simp [mayV, c2]
  go_enter Try.func28, Try.ntmps28
  go_wp2_with fail
  go_region_with (refine Calls.mono (H1.out _ _) ?_; rintro e w1 ⟨rfl, rfl⟩)
  all_goals go_wp2_with fail
  all_goals go_ret
  all_goals refine ⟨congrArg (fun x => Ending.returned (Value.bool x)) HQ.out.symm, ?_⟩
  all_goals repeat (first | exact Below.refl _ _ | apply Below.drew | (refine Below.alloc ?_ (by simp; try omega) _))
set_option maxHeartbeats 4000000 in
theorem may_bool_f (n : Int) (s : ByteArray) (c0 : ¬ n = 0) (c1 : ¬ n = 1) (c2 : ¬ s.size = 0) (hl : ¬ s.toList = []) (w : World) : Calls Try.prog 28 #[vv 3 n s] w fun e w' => e = .returned (.bool (decide (mayV 3 n s))) ∧ Below w.heap.size w w' := by
  have H1 := (show Hid _ from truth_is)
  have HQ : Hid (decide (mayV 3 n s) = false) := by show decide (mayV 3 n s) = false; simp [mayV, c2]
  go_enter Try.func28, Try.ntmps28
  go_wp2_with fail
  go_region_with (refine Calls.mono (H1.out _ _) ?_; rintro e w1 ⟨rfl, rfl⟩)
  all_goals go_wp2_with fail
  all_goals go_ret
  all_goals refine ⟨congrArg (fun x => Ending.returned (Value.bool x)) HQ.out.symm, ?_⟩
  all_goals repeat (first | exact Below.refl _ _ | apply Below.drew | (refine Below.alloc ?_ (by simp; try omega) _))
theorem may_bool (n : Int) (s : ByteArray) (w : World) : Calls Try.prog 28 #[vv 3 n s] w fun e w' => e = .returned (.bool (decide (mayV 3 n s))) ∧ Below w.heap.size w w' := by
  by_cases c2 : s.size = 0
  · obtain rfl := empty_of c2
    by_cases c0 : n = 0
    · subst c0
      exact may_bool_a w
    · by_cases c1 : n = 1
      · subst c1
        exact may_bool_b w
      · exact may_bool_c n c0 c1 w
  · have hl := not_nil c2
    by_cases c0 : n = 0
    · subst c0
      exact may_bool_d s c2 hl w
    · by_cases c1 : n = 1
      · subst c1
        exact may_bool_e s c2 hl w
      · exact may_bool_f n s c0 c1 c2 hl w
end Go.Proofs.Ytgjeobmbfeinnaa
