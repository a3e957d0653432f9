/- value: what was put is taken as it was. -/
import Derived.Test.YtaoboleifdgonaaBack
import Derived.Test.YtaoboleifdgonaaTake
namespace Go.Proofs.Ytaoboleifdgonaa
open Go.ChangeShapes Go.WideShapes Go.RowKit
set_option linter.unusedVariables false
set_option maxRecDepth 100000

theorem rest_list (L : ByteArray) (n : Nat) : (rest L n).data.toList = L.data.toList.drop n := by
  unfold rest
  rw [ext_list, List.take_of_length_le]
  rw [List.length_drop, len_size]
  exact Nat.le_refl _
theorem first_list (L : ByteArray) (n : Nat) : (L.extract 0 n).data.toList = L.data.toList.take n := by rw [ext_list, List.drop_zero, Nat.sub_zero]
theorem firstN_is (L : ByteArray) (n : Nat) : firstN L n = numF (L.data.toList.take n) := by unfold firstN; rw [first_list]
theorem fewer_no (L : ByteArray) (n : Nat) (h : n ≤ L.data.toList.length) : fewer false L n = false := by
  unfold fewer
  rw [len_size] at h
  rw [decide_eq_false (by omega)]
  rfl
theorem num_low (k : Nat) (h : k < 256) : numF [lowB (k : Int)] = (k : Int) := by
  have e : (lowB (k : Int)).toNat = k := by have := lowB_is (k : Int); omega
  rw [numF_one, stepF, bits_or_zero _ (lowB (k : Int)).toNat_lt, e]
theorem cut_back (x : V) (hm : x.may) (hn : -9223372036854775808 ≤ x.n ∧ x.n ≤ 9223372036854775807) (L : ByteArray) (t : List UInt8) (h : L.data.toList = x.bytes ++ t) :
    (cutV L false).v = x ∧ (cutV L false).left.data.toList = t ∧ (cutV L false).short = false := by
  obtain ⟨k, n, s⟩ := x
  have hb : (V.mk k n s).bytes = lowB k :: tailB k n s := rfl
  rw [hb] at h
  have h1 : (rest L 1).data.toList = tailB k n s ++ t := by rw [rest_list, h]; rfl
  have hlen : 1 ≤ L.data.toList.length := by rw [h]; simp
  have f1 := fewer_no L 1 hlen
  have n1 : firstN L 1 = numF [lowB k] := by rw [firstN_is, h]; rfl
  rcases hm with ⟨rfl, rfl, h0⟩ | ⟨rfl, h0⟩ | ⟨rfl, rfl, h0⟩ | ⟨rfl, hn01, h0⟩
  · have e : firstN L 1 = 0 := n1.trans (num_low 0 (by omega))
    have es : s = ⟨#[]⟩ := empty_of h0
    unfold cutV
    simp only [e, f1]
    rw [if_neg (by omega), if_neg (by omega), if_neg (by omega)]
    exact ⟨by rw [es], h1, rfl⟩
  · have e : firstN L 1 = 1 := n1.trans (num_low 1 (by omega))
    have es : s = ⟨#[]⟩ := empty_of h0
    have h2 : (rest L 1).data.toList = bytesOf (flip n) 8 ++ t := h1
    have l2 : 8 ≤ (rest L 1).data.toList.length := by rw [h2, List.length_append, bytesOf_len]; omega
    have e8 : firstN (rest L 1) 8 = flip n := by
      rw [firstN_is, h2, List.take_append_of_le_length (by rw [bytesOf_len]; exact Nat.le_refl _), List.take_of_length_le (by rw [bytesOf_len]; exact Nat.le_refl _)]
      exact num_back _ (flip_range n).1 (flip_range n).2
    have f8 := fewer_no (rest L 1) 8 l2
    have eb : bits .xor .i64 (flip n) (-9223372036854775808) = n := flip_back n hn.1 hn.2
    unfold cutV
    simp only [e, f1, e8, f8, eb]
    refine ⟨by rw [es]; rfl, ?_, rfl⟩
    show (rest (rest L 1) 8).data.toList = t
    rw [rest_list, h2, List.drop_append_of_le_length (by rw [bytesOf_len]; exact Nat.le_refl _), List.drop_of_length_le (by rw [bytesOf_len]; exact Nat.le_refl _), List.nil_append]
  · have e : firstN L 1 = 2 := n1.trans (num_low 2 (by omega))
    have h0' : s.size ≤ 64 := h0
    have h2 : (rest L 1).data.toList = lowB (s.size : Int) :: (s.data.toList ++ t) := h1
    have l2 : 1 ≤ (rest L 1).data.toList.length := by rw [h2]; simp
    have f2 := fewer_no (rest L 1) 1 l2
    have e2 : firstN (rest L 1) 1 = (s.size : Int) := by rw [firstN_is, h2]; exact num_low s.size (by omega)
    have h3 : (rest (rest L 1) 1).data.toList = s.data.toList ++ t := by rw [rest_list, h2]; rfl
    have ls := len_size s
    have f3 := fewer_no (rest (rest L 1) 1) s.size (by rw [h3, List.length_append]; omega)
    have e3 : (rest (rest L 1) 1).extract 0 s.size = s := by
      apply bytes_ext
      rw [first_list, h3, List.take_append_of_le_length (by omega), List.take_of_length_le (by omega)]
    unfold cutV
    simp only [e, f1, e2, f2, Int.toNat_natCast, f3, e3]
    refine ⟨rfl, ?_, rfl⟩
    show (rest (rest (rest L 1) 1) s.size).data.toList = t
    rw [rest_list, h3, List.drop_append_of_le_length (by omega), List.drop_of_length_le (by omega), List.nil_append]
  · have e : firstN L 1 = 3 := n1.trans (num_low 3 (by omega))
    have es : s = ⟨#[]⟩ := empty_of h0
    have h2 : (rest L 1).data.toList = lowB n :: t := h1
    have l2 : 1 ≤ (rest L 1).data.toList.length := by rw [h2]; simp
    have f2 := fewer_no (rest L 1) 1 l2
    obtain ⟨m, rfl, hm⟩ : ∃ m : Nat, n = (m : Int) ∧ m < 256 := ⟨n.toNat, by have : n = 0 ∨ n = 1 := hn01; omega, by have : n = 0 ∨ n = 1 := hn01; omega⟩
    have e2 : firstN (rest L 1) 1 = (m : Int) := by rw [firstN_is, h2]; exact num_low m hm
    unfold cutV
    simp only [e, f1, e2, f2]
    refine ⟨by rw [es]; rfl, ?_, rfl⟩
    show (rest (rest L 1) 1).data.toList = t
    rw [rest_list, h2]
    rfl
end Go.Proofs.Ytaoboleifdgonaa
