/- The document's May of operations. -/
import Derived.Test.YtaoboleifdgonaaEOp
namespace Go.Proofs.Ytaoboleifdgonaa
open Go.ChangeShapes Go.WideShapes Go.RowKit
set_option linter.unusedVariables false
set_option maxRecDepth 100000

theorem refName_is (s : ByteArray) (w : World) : Calls Try.prog 55 #[.string s] w fun e w' => e = .returned (.bool (decide (name s))) ∧ w' = w := by
  by_cases h1 : 1 ≤ s.size
  · have h1i : 1 ≤ (s.size : Int) := by omega
    by_cases h2 : s.size ≤ 64
    · have h2i : (s.size : Int) ≤ 64 := by omega
      have HM : Hid (decide (name s) = true) := decide_eq_true ⟨h1, h2⟩
      go_enter Try.func55, Try.ntmps55
      go_wp2_with fail
      go_ret
      exact ⟨by rw [HM.out]; rfl, rfl⟩
    · have h2i : ¬ (s.size : Int) ≤ 64 := by omega
      have HM : Hid (decide (name s) = false) := decide_eq_false (fun q => h2 q.2)
      go_enter Try.func55, Try.ntmps55
      go_wp2_with fail
      go_ret
      exact ⟨by rw [HM.out]; rfl, rfl⟩
  · have h1i : ¬ 1 ≤ (s.size : Int) := by omega
    have HM : Hid (decide (name s) = false) := decide_eq_false (fun q => h1 q.1)
    go_enter Try.func55, Try.ntmps55
    go_wp2_with fail
    go_ret
    exact ⟨by rw [HM.out]; rfl, rfl⟩
end Go.Proofs.Ytaoboleifdgonaa
