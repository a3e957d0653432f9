/- Bytes that are those of cells. -/
import Derived.Test.YtehaancdadmdkaaSg
import Derived.Test.YtehaancdadmdkaaNx
namespace Go.Proofs.Ytehaancdadmdkaa
open Go.ChangeShapes Go.WideShapes Go.ChangeAt Go.RowKit
set_option linter.unusedVariables false
set_option maxRecDepth 100000

theorem byteAt_eq {B : List UInt8} {i : Nat} (h : i < B.length) : UInt8.ofNat (byteAt B i) = B[i] := by
  unfold byteAt
  rw [List.getElem?_eq_getElem h]
  simp
theorem take_two (B : List UInt8) (i : Nat) (h : i + 1 < B.length) : (B.drop i).take 2 = [UInt8.ofNat (byteAt B i), UInt8.ofNat (byteAt B (i + 1))] := by
  rw [byteAt_eq (by omega), byteAt_eq h, List.drop_eq_getElem_cons (by omega), List.drop_eq_getElem_cons h]
  rfl
/-- The cells of bytes. -/
def dec (B : List UInt8) : Nat → List Cel
  | 0 => []
  | k + 1 => dec B k ++ [(keyB B k, valB B k)]
theorem dec_len (B : List UInt8) (k : Nat) : (dec B k).length = k := by
  induction k with
  | zero => rfl
  | succ k ih => unfold dec; rw [List.length_append, ih]; rfl
theorem end_succ (B : List UInt8) (k : Nat) : endB B (k + 1) = byteAt B (8 + 2 * k) := rfl
/-- What the cells say of the bytes, up to one. -/
theorem dec_is (B : List UInt8) (hB : B.length = 256) : ∀ k, 8 + 2 * k ≤ 256 → (∀ j, j < k → CK B j) → endB B k = 256 - tot (dec B k) ∧ tot (dec B k) ≤ 256 ∧ B.drop (endB B k) = bod (dec B k) ∧ (B.drop 8).take (2 * k) = pl 256 (dec B k) ∧ (∀ c, c ∈ dec B k → 1 ≤ c.1.length ∧ c.1.length ≤ 80 ∧ csz c ≤ 100) ∧ ris (dec B k)
  | 0, _, _ => by
    refine ⟨rfl, (show (0 : Nat) ≤ 256 by omega), ?_, rfl, (fun c hc => by cases hc), ris0⟩
    show B.drop 256 = []
    exact List.drop_of_length_le (by omega)
  | k + 1, hk, hc => by
    obtain ⟨i1, i2, i3, i4, i5, i6⟩ := dec_is B hB k (by omega) (fun j hj => hc j (by omega))
    obtain ⟨c1, c2, c3, c4, c5⟩ := hc k (by omega)
    have hel := endB_le B k
    have lk : (keyB B k).length = byteAt B (9 + 2 * k) := by unfold keyB; rw [List.length_take, List.length_drop, hB]; omega
    have lv : (valB B k).length = endB B k - (byteAt B (8 + 2 * k) + byteAt B (9 + 2 * k)) := by unfold valB; rw [List.length_take, List.length_drop, hB]; omega
    have hcz : csz (keyB B k, valB B k) = endB B k - byteAt B (8 + 2 * k) := by unfold csz; rw [lk, lv]; omega
    have htot : tot (dec B (k + 1)) = tot (dec B k) + (endB B k - byteAt B (8 + 2 * k)) := by
      show tot (dec B k ++ [(keyB B k, valB B k)]) = _
      rw [tot_append]
      show tot (dec B k) + (csz (keyB B k, valB B k) + 0) = _
      rw [hcz]; omega
    have hkv : keyB B k ++ valB B k = (B.drop (byteAt B (8 + 2 * k))).take (endB B k - byteAt B (8 + 2 * k)) := by
      unfold keyB valB
      rw [← List.drop_drop]
      have := List.take_append_drop (byteAt B (9 + 2 * k)) ((B.drop (byteAt B (8 + 2 * k))).take (endB B k - byteAt B (8 + 2 * k)))
      rw [List.take_take, Nat.min_eq_left (by omega), List.drop_take] at this
      rw [← this]
      congr 2
      omega
    refine ⟨by rw [end_succ, htot]; omega, by rw [htot]; omega, ?_, ?_, fun c hcm => ?_, ?_⟩
    · rw [end_succ]
      show _ = bod (dec B k ++ [(keyB B k, valB B k)])
      rw [bod_append]
      show _ = (([] : List UInt8) ++ (keyB B k ++ valB B k)) ++ bod (dec B k)
      rw [List.nil_append, hkv, ← i3]
      have := List.take_append_drop (endB B k - byteAt B (8 + 2 * k)) (B.drop (byteAt B (8 + 2 * k)))
      rw [List.drop_drop, show byteAt B (8 + 2 * k) + (endB B k - byteAt B (8 + 2 * k)) = endB B k by omega] at this
      exact this.symm
    · show _ = pl 256 (dec B k ++ [(keyB B k, valB B k)])
      rw [pl_append, ← i4]
      show _ = _ ++ [UInt8.ofNat (256 - tot (dec B k) - csz (keyB B k, valB B k)), UInt8.ofNat (keyB B k).length]
      rw [hcz, lk, show 256 - tot (dec B k) - (endB B k - byteAt B (8 + 2 * k)) = byteAt B (8 + 2 * k) by omega]
      rw [show 2 * (k + 1) = 2 * k + 2 by omega, List.take_add, List.drop_drop, take_two B (8 + 2 * k) (by omega), show 8 + 2 * k + 1 = 9 + 2 * k by omega]
    · rcases List.mem_append.1 hcm with q | q
      · exact i5 c q
      · rw [List.mem_singleton.1 q, hcz]
        exact ⟨by rw [lk]; exact c1, by rw [lk]; exact c2, by omega⟩
    · rw [ris_pw] at i6 ⊢
      show (dec B k ++ [(keyB B k, valB B k)]).Pairwise _
      rw [List.pairwise_append]
      refine ⟨i6, List.pairwise_singleton _ _, fun x hx y hy => ?_⟩
      rw [List.mem_singleton.1 hy]
      cases k with
      | zero => cases hx
      | succ j =>
        have c5' := c5.resolve_left (by omega)
        rw [Nat.add_sub_cancel] at c5'
        rcases List.mem_append.1 hx with q | q
        · have : (dec B j ++ [(keyB B j, valB B j)]).Pairwise (fun a b => Op.bytesLess a.1 b.1 = true) := i6
          rw [List.pairwise_append] at this
          exact less_trans _ _ _ (this.2.2 x q _ (List.mem_singleton.2 rfl)) c5'
        · rw [List.mem_singleton.1 q]; exact c5'
/-- Bytes that are sound are those of cells. -/
theorem lay_of (B : List UInt8) (hB : B.length = 256) (h0 : (B.drop 4).take 4 = zs 4) (n : Nat) (hn : byteAt B 1 = n) (hn2 : 8 + 2 * n ≤ 256) (hc : ∀ j, j < n → CK B j) (hroom : 8 + 2 * n ≤ endB B n) (hus : byteAt B 2 + byteAt B 3 * 256 = 256 - endB B n) (hz : ∀ i, 8 + 2 * n ≤ i → i < endB B n → byteAt B i = 0) : okC (dec B n) ∧ ris (dec B n) ∧ B = lay (UInt8.ofNat (byteAt B 0)) (dec B n) := by
  obtain ⟨i1, i2, i3, i4, i5, i6⟩ := dec_is B hB n hn2 hc
  have hl := dec_len B n
  refine ⟨⟨i5, by rw [hl]; omega⟩, i6, ?_⟩
  have e1 : B.take 4 = [UInt8.ofNat (byteAt B 0), UInt8.ofNat (byteAt B 1), UInt8.ofNat (byteAt B 2), UInt8.ofNat (byteAt B 3)] := by
    have a := take_two B 0 (by omega)
    have b := take_two B 2 (by omega)
    have := List.take_add (l := B) (i := 2) (j := 2)
    rw [this, b]
    have a' : B.take 2 = [UInt8.ofNat (byteAt B 0), UInt8.ofNat (byteAt B (0 + 1))] := by rw [← a]; rfl
    rw [a']
    rfl
  have b2 : byteAt B 2 = tot (dec B n) % 256 ∧ byteAt B 3 = tot (dec B n) / 256 := by
    have := byteAt_lt B 2
    omega
  have e2 : (B.drop (8 + 2 * n)).take (248 - 2 * n - tot (dec B n)) = zs (248 - 2 * n - tot (dec B n)) := by
    apply List.ext_getElem?
    intro i
    by_cases hi : i < 248 - 2 * n - tot (dec B n)
    · rw [List.getElem?_take_of_lt hi, List.getElem?_drop]
      have hb := hz (8 + 2 * n + i) (by omega) (by omega)
      have hlt : 8 + 2 * n + i < B.length := by omega
      unfold zs
      rw [List.getElem?_replicate, if_pos hi, List.getElem?_eq_getElem hlt, ← byteAt_eq hlt, hb]
      rfl
    · rw [List.getElem?_eq_none (by rw [List.length_take]; omega), List.getElem?_eq_none (by simp [zs]; omega)]
  have e3 : B = B.take 4 ++ ((B.drop 4).take 4 ++ ((B.drop 8).take (2 * n) ++ ((B.drop (8 + 2 * n)).take (248 - 2 * n - tot (dec B n)) ++ B.drop (endB B n)))) := by
    have s1 := List.take_append_drop 4 B
    have s2 := List.take_append_drop 4 (B.drop 4)
    have s3 := List.take_append_drop (2 * n) (B.drop 8)
    have s4 := List.take_append_drop (248 - 2 * n - tot (dec B n)) (B.drop (8 + 2 * n))
    rw [List.drop_drop] at s2 s3 s4
    rw [show 8 + 2 * n + (248 - 2 * n - tot (dec B n)) = endB B n by omega] at s4
    rw [s4, s3, s2, s1]
  have eL : lay (UInt8.ofNat (byteAt B 0)) (dec B n) = B.take 4 ++ ((B.drop 4).take 4 ++ ((B.drop 8).take (2 * n) ++ ((B.drop (8 + 2 * n)).take (248 - 2 * n - tot (dec B n)) ++ B.drop (endB B n)))) := by
    rw [e1, h0, e2, i4, i3]
    unfold lay hd
    rw [hl, ← b2.1, ← b2.2, hn]
    rfl
  exact e3.trans eL.symm
end Go.Proofs.Ytehaancdadmdkaa
