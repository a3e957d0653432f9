/- wal: bytes that begin with records' frames have these records ahead. -/
import Derived.Test.YthfhjfemcmdmfaaByte
import Derived.Test.YthfhjfemcmdmfaaRScan
namespace Go.Proofs.Ythfhjfemcmdmfaa.front
set_option linter.unusedVariables false

theorem ba_list (a b : ByteArray) (h : a.data.toList = b.data.toList) : a = b := ByteArray.ext (Array.toList_inj.1 h)
theorem frame_list (t : Nat) (s : ByteArray) : (frameS t s).data.toList = (putL t ++ (putL s.size).take 2 ++ putL (sumOf (headS t s ++ s).data.toList)) ++ s.data.toList := by
  unfold frameS
  rw [ByteArray.data_append, ByteArray.data_append, Array.toList_append, Array.toList_append]
  congr 2
theorem rec_front (t : Int) (x y : ByteArray) (h : (1 ≤ t ∧ t ≤ 2147483647) ∧ (x.size ≠ 0 ∧ x.size ≤ 1024)) (rest : List UInt8) (hy : y.data.toList = (frameS t.toNat x).data.toList ++ rest) : recOf t y = some x := by
  have hz := frameS_size t.toNat x
  have hyl : y.size = 10 + x.size + rest.length := by
    have := congrArg List.length hy
    rw [List.length_append] at this
    have e1 : y.data.toList.length = y.size := by simp
    have e2 : (frameS t.toNat x).data.toList.length = (frameS t.toNat x).size := by simp
    omega
  have hend : endOf y = 10 + x.size := by
    unfold endOf
    rw [hy, frame_list]
    have e4 : (((putL t.toNat ++ (putL x.size).take 2 ++ putL (sumOf (headS t.toNat x ++ x).data.toList)) ++ x.data.toList) ++ rest).getD 4 0 = UInt8.ofNat x.size := rfl
    have e5 : (((putL t.toNat ++ (putL x.size).take 2 ++ putL (sumOf (headS t.toNat x ++ x).data.toList)) ++ x.data.toList) ++ rest).getD 5 0 = UInt8.ofNat (x.size / 256) := rfl
    rw [e4, e5, UInt8.toNat_ofNat', UInt8.toNat_ofNat']
    omega
  have hx : y.extract 10 (10 + x.size) = x := by
    apply ba_list
    rw [ext_list, hy, frame_list, List.append_assoc, List.drop_left' (by rfl), show 10 + x.size - 10 = x.size by omega, List.take_left' (by simp)]
  have h0 : y.extract 0 (10 + x.size) = frameS t.toNat x := by
    apply ba_list
    rw [ext_list, List.drop_zero, hy, List.take_left' (by rw [show (frameS t.toNat x).data.toList.length = (frameS t.toNat x).size by simp]; omega)]
  rw [rec_by hend, hx, h0, if_pos ⟨by omega, by omega, h, rfl⟩]

theorem scan_front (t : Nat) (ht : 1 ≤ t ∧ t ≤ 2147483647) (s : ByteArray) : ∀ (g : List ByteArray) (f u : Nat) (rest : List UInt8), mayG g → g.length ≤ f → s.data.toList.drop u = frames t g ++ rest → (scanG f (t : Int) s u).1.take g.length = g ∧ g.length ≤ (scanG f (t : Int) s u).1.length
  | [], f, u, rest, _, _, _ => ⟨rfl, Nat.zero_le _⟩
  | x :: r, 0, u, rest, _, hf, _ => absurd hf (Nat.not_succ_le_zero _)
  | x :: r, f + 1, u, rest, hm, hf, hs => by
    have hx := hm x List.mem_cons_self
    have hr : recOf (t : Int) (s.extract u s.size) = some x := by
      refine rec_front (t : Int) x _ ⟨by omega, hx⟩ (frames t r ++ rest) ?_
      rw [ext_list, List.take_of_length_le (by rw [List.length_drop]; simp), hs, Int.toNat_natCast, frames, List.append_assoc]
    have ih := scan_front t ht s r f (u + (10 + x.size)) rest (fun y hy => hm y (List.mem_cons_of_mem _ hy)) (Nat.le_of_succ_le_succ hf) (by
      rw [← List.drop_drop, hs, frames, List.append_assoc]
      exact List.drop_left' (by rw [show (frameS t x).data.toList.length = (frameS t x).size by simp]; exact frameS_size t x))
    rw [scanG, hr]
    simp only [List.length_cons, List.take_succ_cons]
    exact ⟨by rw [ih.1], Nat.succ_le_succ ih.2⟩
end Go.Proofs.Ythfhjfemcmdmfaa.front
