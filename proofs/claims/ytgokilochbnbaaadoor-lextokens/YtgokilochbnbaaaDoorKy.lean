/- The key words. -/
import Derived.Test.YtgokilochbnbaaaDoorBs
namespace Go.Proofs.YtgokilochbnbaaaDoor
open Go.ChangeShapes Go.WideShapes Go.ChangeAt Go.RowKit
set_option linter.unusedVariables false
set_option maxRecDepth 100000

/-- The key words. -/
def keysL : List (List UInt8) := [[65, 76, 76], [65, 78, 68], [65, 83], [65, 83, 67], [66, 69, 84, 87, 69, 69, 78], [66, 89], [67, 65, 83, 69], [68, 69, 83, 67], [68, 73, 83, 84, 73, 78, 67, 84], [69, 76, 83, 69], [69, 78, 68], [69, 88, 67, 69, 80, 84], [69, 88, 73, 83, 84, 83], [70, 65, 76, 83, 69], [70, 82, 79, 77], [71, 82, 79, 85, 80], [72, 65, 86, 73, 78, 71], [73, 78], [73, 78, 78, 69, 82], [73, 78, 84, 69, 82, 83, 69, 67, 84], [73, 83], [74, 79, 73, 78], [76, 69, 70, 84], [76, 73, 75, 69], [76, 73, 77, 73, 84], [78, 79, 84], [78, 85, 76, 76], [79, 70, 70, 83, 69, 84], [79, 78], [79, 82], [79, 82, 68, 69, 82], [83, 69, 76, 69, 67, 84], [84, 72, 69, 78], [84, 82, 85, 69], [85, 78, 73, 79, 78], [87, 72, 69, 78], [87, 72, 69, 82, 69]]
def keyB (l : List UInt8) : Bool := keysL.contains l
theorem key_yes {l : List UInt8} (k : List UInt8) (h : (l == k) = true) (hk : keysL.contains k = true) : keyB l = true := by
  have : l = k := by simpa using h
  rw [this]; exact hk
theorem ret_b {a b : Bool} (h : a = b) : Ending.returned (.bool a) = .returned (.bool b) := by rw [h]
set_option maxHeartbeats 2000000 in
theorem key_is (s : ByteArray) (w : World) : Calls Tryd.prog 14 #[.string s] w fun e w' => e = .returned (.bool (keyB s.toList)) ∧ w' = w := by
  obtain ⟨v, hv⟩ : ∃ v, v = keyB s.toList := ⟨_, rfl⟩
  rw [← hv]
  have HV : Hid (v = keyB s.toList) := hv
  clear hv
  go_enter Tryd.func14, Tryd.ntmps14
  go_wp2
  all_goals go_ret
  all_goals refine ⟨ret_b ?_, rfl⟩
  all_goals rw [HV.out]
  all_goals first | (refine (key_yes _ (by assumption) (by decide)).symm) | (unfold keyB keysL; rw [List.contains_eq_mem]; simp_all; done) | (exfalso; simp_all; done)
end Go.Proofs.YtgokilochbnbaaaDoor
