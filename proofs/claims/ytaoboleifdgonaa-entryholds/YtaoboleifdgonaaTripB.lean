/- value: rows there and back. -/
import Derived.Test.YtaoboleifdgonaaTrip
namespace Go.Proofs.Ytaoboleifdgonaa
open Go.ChangeShapes Go.WideShapes Go.RowKit
set_option linter.unusedVariables false
set_option maxRecDepth 100000

theorem takeL_back (r : List V) : ∀ (acc : List V) (L : ByteArray) (t : List UInt8), fits r → (∀ x, x ∈ r → -9223372036854775808 ≤ x.n ∧ x.n ≤ 9223372036854775807) → L.data.toList = valsB r ++ t → ∃ L', takeL r.length L false acc = some (acc ++ r, L', false) ∧ L'.data.toList = t := by
  induction r with
  | nil =>
    intro acc L t _ _ h
    exact ⟨L, by rw [List.length_nil, takeL, List.append_nil], h⟩
  | cons x r ih =>
    intro acc L t hf hn h
    have hx := hf x (by simp)
    have h' : L.data.toList = x.bytes ++ (valsB r ++ t) := by
      rw [h]
      show (x.bytes ++ valsB r) ++ t = _
      rw [List.append_assoc]
    obtain ⟨c1, c2, c3⟩ := cut_back x hx (hn x (by simp)) L (valsB r ++ t) h'
    obtain ⟨L', e1, e2⟩ := ih (acc ++ [x]) (cutV L false).left t (fun y hy => hf y (by simp [hy])) (fun y hy => hn y (by simp [hy])) c2
    refine ⟨L', ?_, e2⟩
    rw [List.length_cons, takeL, c1, if_pos hx, c3, e1, List.append_assoc]
    rfl
theorem take_back (r : List V) (hl : r.length ≤ 255) (hf : fits r) (hn : ∀ x, x ∈ r → -9223372036854775808 ≤ x.n ∧ x.n ≤ 9223372036854775807) : takeR ⟨(rowB r).toArray⟩ = some r := by
  have h : (⟨(rowB r).toArray⟩ : ByteArray).data.toList = lowB (r.length : Int) :: valsB r := by
    show (rowB r).toArray.toList = _
    rw [List.toList_toArray]
    rfl
  generalize (⟨(rowB r).toArray⟩ : ByteArray) = S at *
  have e1 : firstN S 1 = (r.length : Int) := by rw [firstN_is, h]; exact num_low r.length (by omega)
  have f1 := fewer_no S 1 (by rw [h]; simp)
  have h1 : (rest S 1).data.toList = valsB r ++ [] := by rw [rest_list, h, List.append_nil]; rfl
  obtain ⟨L', t1, t2⟩ := takeL_back r [] (rest S 1) [] hf hn h1
  have hz : L'.size = 0 := by rw [← len_size, t2]; rfl
  rw [takeR_is, e1, Int.toNat_natCast, f1, t1]
  unfold close
  simp [hz]
end Go.Proofs.Ytaoboleifdgonaa
