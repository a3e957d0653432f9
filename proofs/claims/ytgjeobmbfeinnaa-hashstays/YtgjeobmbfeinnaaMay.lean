/- value: which values may be. -/
import Derived.Test.YtgjeobmbfeinnaaMayB
namespace Go.Proofs.Ytgjeobmbfeinnaa
open Go.ChangeShapes Go.WideShapes Go.RowKit
set_option linter.unusedVariables false
set_option maxRecDepth 100000

set_option maxHeartbeats 1000000 in
theorem may_is (k n : Int) (s : ByteArray) (hs : s.size ≤ 9223372036854775807) (w : World) : Calls Try.prog 28 #[vv k n s] w fun e w' => e = .returned (.bool (decide (mayV k n s))) ∧ Below w.heap.size w w' := by
  by_cases c3 : k = 3
  · subst c3
    exact may_bool n s w
  · go_enter Try.func28, Try.ntmps28
    go_wp2_with fail
    all_goals go_ret
    all_goals refine ⟨congrArg (fun x => Ending.returned (Value.bool x)) ?_, below1 _ _⟩
    · rename_i h1 h2 h3
      rw [decide_eq_true (show mayV k n s from .inl ⟨by simpa using h1, h2, size_nil h3⟩)]
    · rename_i h1 h2 h3
      rw [decide_eq_false (show ¬ mayV k n s from by unfold mayV; have := beq_iff_eq.1 h1; have : ¬ s.size = 0 := fun e => h3 (nil_of e); omega)]
    · rename_i h1 h2
      rw [decide_eq_false (show ¬ mayV k n s from by unfold mayV; have := beq_iff_eq.1 h1; omega)]
    · rename_i h1 h2 h3
      rw [decide_eq_true (show mayV k n s from .inr (.inl ⟨by simpa using h2, size_nil h3⟩))]
    · rename_i h1 h2 h3
      rw [decide_eq_false (show ¬ mayV k n s from by unfold mayV; have := beq_iff_eq.1 h2; have : ¬ s.size = 0 := fun e => h3 (nil_of e); omega)]
    · rename_i h0 h1 h2 h3
      refine decide_eq_decide.2 ?_
      unfold mayV
      have := beq_iff_eq.1 h2
      omega
    · rename_i h0 h1 h2 h3
      rw [decide_eq_false (show ¬ mayV k n s from by unfold mayV; have := beq_iff_eq.1 h2; omega)]
    · rename_i h0 h1 h2 h3
      rw [decide_eq_false (show ¬ mayV k n s from by unfold mayV; simp at h0 h1 h2 h3; omega)]
theorem check_is (k n : Int) (s : ByteArray) (hs : s.size ≤ 9223372036854775807) (w : World) : Calls Try.prog 20 #[vv k n s] w fun e w' => e = .returned (.int .i64 (if mayV k n s then 0 else 1)) ∧ Below w.heap.size w w' := by
  have H1 := (show Hid _ from may_is k n s hs)
  by_cases c : mayV k n s
  · rw [decide_eq_true c] at H1
    rw [if_pos c]
    go_enter Try.func20, Try.ntmps20
    go_wp2_with fail
    refine Calls.mono (H1.out _) ?_; rintro e w1 ⟨rfl, k1⟩
    go_wp2_with fail
    go_ret
    exact ⟨rfl, Below.next (below1 _ _) k1⟩
  · rw [decide_eq_false c] at H1
    rw [if_neg c]
    go_enter Try.func20, Try.ntmps20
    go_wp2_with fail
    refine Calls.mono (H1.out _) ?_; rintro e w1 ⟨rfl, k1⟩
    go_wp2_with fail
    go_ret
    exact ⟨rfl, Below.next (below1 _ _) k1⟩
set_option maxHeartbeats 1000000 in
theorem refMay_is (k n : Int) (s : ByteArray) (hs : s.size ≤ 9223372036854775807) (w : World) : Calls Try.prog 17 #[vv k n s] w fun e w' => e = .returned (.bool (decide (mayV k n s))) ∧ Below w.heap.size w w' := by
  have H : ∀ b : Bool, (b = true ↔ mayV k n s) → b = decide (mayV k n s) := fun b h => by
    cases b with
    | true => exact (decide_eq_true (h.1 rfl)).symm
    | false => exact (decide_eq_false (fun q => by have := h.2 q; cases this)).symm
  have hq : s.toList.isEmpty = true ↔ s.size = 0 := by
    rw [List.isEmpty_iff]
    exact ⟨size_nil, nil_of⟩
  have HH := (show Hid _ from H)
  have HQ := (show Hid _ from hq)
  clear H hq
  go_enter Try.func17, Try.ntmps17
  go_wp2_with fail
  all_goals go_ret
  all_goals refine ⟨congrArg (fun x => Ending.returned (Value.bool x)) (HH.out _ ?_), below1 _ _⟩
  all_goals (try rw [HQ.out])
  all_goals (try rw [decide_eq_true_iff])
  all_goals unfold mayV
  all_goals simp only [beq_iff_eq, beq_eq_false_iff_ne, ne_eq, Bool.false_eq_true] at *
  all_goals first | omega | (rw [false_iff]; omega)
end Go.Proofs.Ytgjeobmbfeinnaa
