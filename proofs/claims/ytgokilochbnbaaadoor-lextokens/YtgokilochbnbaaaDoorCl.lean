/- What is asked of a rune. -/
import Derived.Test.YtgokilochbnbaaaDoorRn
namespace Go.Proofs.YtgokilochbnbaaaDoor
open Go.ChangeShapes Go.WideShapes Go.ChangeAt Go.RowKit
set_option linter.unusedVariables false
set_option maxRecDepth 100000

theorem beq_eq (r n : Int) : (r == n) = decide (r = n) := by
  rcases Int.decEq r n with h | h
  · rw [decide_eq_false h]; simpa using h
  · rw [decide_eq_true h]; simpa using h
theorem notNl_is (r : Int) (w : World) : Calls Tryd.prog 36 #[.int .i32 r] w fun e w' => e = .returned (.bool (!(r == 10))) ∧ w' = w := by
  go_enter Tryd.func36, Tryd.ntmps36
  go_wp2
  go_ret
  exact ⟨by simp [bne], rfl⟩
theorem blank_is (r : Int) (w : World) : Calls Tryd.prog 39 #[.int .i32 r] w fun e w' => e = .returned (.bool (r == 9 || r == 10 || r == 13 || r == 32)) ∧ w' = w := by
  have t1 : (r == 9) = true ∨ (r == 9) = false := by cases (r == 9) <;> simp
  have t2 : (r == 10) = true ∨ (r == 10) = false := by cases (r == 10) <;> simp
  have t3 : (r == 13) = true ∨ (r == 13) = false := by cases (r == 13) <;> simp
  have t4 : (r == 32) = true ∨ (r == 32) = false := by cases (r == 32) <;> simp
  rcases t1 with t1 | t1 <;> rcases t2 with t2 | t2 <;> rcases t3 with t3 | t3 <;> rcases t4 with t4 | t4 <;> rw [t1, t2, t3, t4] <;>
  · go_enter Tryd.func39, Tryd.ntmps39
    go_wp2
    go_ret
    exact ⟨rfl, rfl⟩
theorem letter_is (r : Int) (w : World) : Calls Tryd.prog 60 #[.int .i32 r] w fun e w' => e = .returned (.bool (decide (97 ≤ r ∧ r ≤ 122 ∨ 65 ≤ r ∧ r ≤ 90))) ∧ w' = w := by
  by_cases c1 : 97 ≤ r <;> by_cases c2 : r ≤ 122 <;> by_cases c3 : 65 ≤ r <;> by_cases c4 : r ≤ 90 <;>
  · first
    | (have hd : decide (97 ≤ r ∧ r ≤ 122 ∨ 65 ≤ r ∧ r ≤ 90) = true := by (rw [decide_eq_true_eq]; omega)
       rw [hd]; clear hd
       go_enter Tryd.func60, Tryd.ntmps60
       go_wp2
       go_ret
       exact ⟨rfl, rfl⟩)
    | (have hd : decide (97 ≤ r ∧ r ≤ 122 ∨ 65 ≤ r ∧ r ≤ 90) = false := by (rw [decide_eq_false_iff_not]; omega)
       rw [hd]; clear hd
       go_enter Tryd.func60, Tryd.ntmps60
       go_wp2
       go_ret
       exact ⟨rfl, rfl⟩)
theorem digit_is (r : Int) (w : World) : Calls Tryd.prog 43 #[.int .i32 r] w fun e w' => e = .returned (.bool (decide (48 ≤ r ∧ r ≤ 57))) ∧ w' = w := by
  by_cases c1 : 48 ≤ r <;> by_cases c2 : r ≤ 57 <;>
  · first
    | (have hd : decide (48 ≤ r ∧ r ≤ 57) = true := by (rw [decide_eq_true_eq]; omega)
       rw [hd]; clear hd
       go_enter Tryd.func43, Tryd.ntmps43
       go_wp2
       go_ret
       exact ⟨rfl, rfl⟩)
    | (have hd : decide (48 ≤ r ∧ r ≤ 57) = false := by (rw [decide_eq_false_iff_not]; omega)
       rw [hd]; clear hd
       go_enter Tryd.func43, Tryd.ntmps43
       go_wp2
       go_ret
       exact ⟨rfl, rfl⟩)

def begV (r : Int) : Bool := decide (97 ≤ r ∧ r ≤ 122 ∨ 65 ≤ r ∧ r ≤ 90) || r == 95
theorem begins_is (r : Int) (w : World) : Calls Tryd.prog 40 #[.int .i32 r] w fun e w' => e = .returned (.bool (begV r)) ∧ w' = w := by
  have H : Hid (∀ w, Calls Tryd.prog 60 #[.int .i32 r] w fun e w' => e = .returned (.bool (decide (97 ≤ r ∧ r ≤ 122 ∨ 65 ≤ r ∧ r ≤ 90))) ∧ w' = w) := fun w => letter_is r w
  unfold begV
  generalize decide (97 ≤ r ∧ r ≤ 122 ∨ 65 ≤ r ∧ r ≤ 90) = b at *
  cases b
  all_goals go_enter Tryd.func40, Tryd.ntmps40
  all_goals go_wp2_with fail
  all_goals (refine (H.out _).mono ?_; rintro e w1 ⟨rfl, rfl⟩)
  all_goals go_wp2_with fail
  all_goals go_ret
  all_goals exact ⟨rfl, rfl⟩
def inV (r : Int) : Bool := begV r || decide (48 ≤ r ∧ r ≤ 57)
theorem inWord_is (r : Int) (w : World) : Calls Tryd.prog 61 #[.int .i32 r] w fun e w' => e = .returned (.bool (inV r)) ∧ w' = w := by
  have H : Hid (∀ w, Calls Tryd.prog 40 #[.int .i32 r] w fun e w' => e = .returned (.bool (begV r)) ∧ w' = w) := fun w => begins_is r w
  have H2 : Hid (∀ w, Calls Tryd.prog 43 #[.int .i32 r] w fun e w' => e = .returned (.bool (decide (48 ≤ r ∧ r ≤ 57))) ∧ w' = w) := fun w => digit_is r w
  unfold inV
  generalize decide (48 ≤ r ∧ r ≤ 57) = c at *
  generalize begV r = b at *
  cases b
  · go_enter Tryd.func61, Tryd.ntmps61
    go_wp2_with fail
    refine (H.out _).mono ?_; rintro e w1 ⟨rfl, rfl⟩
    go_wp2_with fail
    refine (H2.out _).mono ?_; rintro e w1 ⟨rfl, rfl⟩
    go_wp2_with fail
    go_ret
    exact ⟨rfl, rfl⟩
  · go_enter Tryd.func61, Tryd.ntmps61
    go_wp2_with fail
    refine (H.out _).mono ?_; rintro e w1 ⟨rfl, rfl⟩
    go_wp2_with fail
    go_ret
    exact ⟨rfl, rfl⟩
end Go.Proofs.YtgokilochbnbaaaDoor
