/- Bytes of texts. -/
import Derived.Test.YtehaancdadmdkaaRr
import Derived.Laws.DeepStrings4
namespace Go.Proofs.Ytehaancdadmdkaa
open Go.ChangeShapes Go.WideShapes Go.ChangeAt Go.RowKit
set_option linter.unusedVariables false
set_option maxRecDepth 100000

theorem str_index (s : ByteArray) (k : Nat) (hk : k < s.size) (W : World) : (Instr.index 9 (.string s) (.int .i64 (k : Int))).run Try.prog W = .ok (.int .u8 (byteAt s.data.toList k : Int)) W := by
  have h1 : s[k]? = some (s[k]'hk) := by rw [getElem?_pos]
  have h2 : byteAt s.data.toList k = (s[k]'hk).toNat := by
    unfold byteAt
    have : s.data.toList[k]? = some (s[k]'hk) := by
      rw [List.getElem?_eq_getElem (by simpa using hk)]
      rfl
    rw [this]
    rfl
  rw [h2]
  simp [Instr.index, go_sem, h1]
theorem str_slice (s : ByteArray) (lo hi : Nat) (h1 : lo ≤ hi) (h2 : hi ≤ s.size) (W : World) : (Instr.sliceAt 9 (.string s) (some (.int .i64 (lo : Int))) (some (.int .i64 (hi : Int))) none).run Try.prog W = .ok (.string (s.extract lo hi)) W := by
  rw [run_sliceAt_string W 9 _ _ _ _ Try.underlying9]
  have := run_slice_string_if (P := Try.prog) (w := W) 9 s .i64 .i64 (lo : Int) (hi : Int) Try.underlying9
  rw [this, if_pos (by omega), if_pos (by omega)]
  simp
theorem ext_list (s : ByteArray) (lo hi : Nat) : (s.extract lo hi).data.toList = (s.data.toList.drop lo).take (hi - lo) := by
  rw [ByteArray.data_extract, Array.toList_extract, List.extract_eq_take_drop]
end Go.Proofs.Ytehaancdadmdkaa
