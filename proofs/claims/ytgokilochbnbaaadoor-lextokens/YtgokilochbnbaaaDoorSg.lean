/- How many bytes a sign has. -/
import Derived.Test.YtgokilochbnbaaaDoorFj
namespace Go.Proofs.YtgokilochbnbaaaDoor
open Go.ChangeShapes Go.WideShapes Go.ChangeAt Go.RowKit
set_option linter.unusedVariables false
set_option maxRecDepth 100000

def shortL : List UInt8 := [40, 41, 44, 46, 42, 43, 45, 47, 37, 61, 60, 62]
/-- How many bytes the longest sign has that a text begins with. -/
def signN (l : List UInt8) : Nat :=
  if l.take 2 = [60, 62] ∨ l.take 2 = [60, 61] ∨ l.take 2 = [62, 61] ∨ l.take 2 = [33, 61] ∨ l.take 2 = [124, 124] then 2
  else if l.take 2 = [47, 42] then 0 else if shortL.contains (l.headD 0) then 1 else 0
theorem index_mem (c : UInt8) : ∀ l : List UInt8, decide (0 ≤ Lib.indexByte l c) = l.contains c
  | [] => rfl
  | b :: l => by
    have ih := index_mem c l
    have hge : -1 ≤ Lib.indexByte l c := Lib.indexByte_ge l c
    have e : (b :: l).contains c = (c == b || l.contains c) := by rw [List.contains_cons]
    rw [e, ← ih]
    by_cases h : b = c
    · subst h
      rw [Lib.indexByte, if_pos (by simp)]
      simp
    · rw [Lib.indexByte, if_neg (by simpa using h)]
      have h2 : (c == b) = false := by simpa using fun e => h e.symm
      rw [h2, Bool.false_or]
      by_cases hm : Lib.indexByte l c = -1
      · rw [if_pos (by simpa using hm), hm]
      · rw [if_neg (by simpa using hm)]
        rw [decide_eq_true (by omega), decide_eq_true (by omega)]
end Go.Proofs.YtgokilochbnbaaaDoor
