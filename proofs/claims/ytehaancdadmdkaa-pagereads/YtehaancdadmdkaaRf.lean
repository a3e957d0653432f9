/- The document's size of cells. -/
import Derived.Test.YtehaancdadmdkaaSl
namespace Go.Proofs.Ytehaancdadmdkaa
open Go.ChangeShapes Go.WideShapes Go.ChangeAt Go.RowKit
set_option linter.unusedVariables false
set_option maxRecDepth 100000

theorem Sl.cells {w : World} {v : Value} {l : List Cel} (h : Sl cv 2 w v l) (hne : l ≠ []) : ∃ b o c, v = .slice (some ⟨b, o, none⟩) l.length c ∧ l.length ≤ c ∧ b < w.heap.size ∧ ∀ i (hi : i < l.length), w.cell? ⟨b, o + i * 2, none⟩ = some (.string ⟨l[i].1.toArray⟩) ∧ w.cell? ⟨b, o + i * 2 + 1, none⟩ = some (.string ⟨l[i].2.toArray⟩) := by
  obtain ⟨a, c, h1, h2, h3, h4⟩ := h
  obtain ⟨b, o, e, hc⟩ := h2 hne
  exact ⟨b, o, c, by rw [h1, e], h3, h2.lt cv_ne e hne, fun i hi => ⟨hc i _ (List.getElem?_eq_getElem hi) 0 _ rfl, hc i _ (List.getElem?_eq_getElem hi) 1 _ rfl⟩⟩
theorem Sl.shape {α : Type} {f : α → List Value} {k : Nat} {w : World} {v : Value} {l : List α} (h : Sl f k w v l) : ∃ a c, v = .slice a l.length c := by
  obtain ⟨a, c, e, _⟩ := h
  exact ⟨a, c, e⟩
theorem Sl.dr {α : Type} {f : α → List Value} {k : Nat} {w : World} {v : Value} {l : List α} (h : Sl f k w v l) (m : Nat) : Sl f k (w.drewN m) v l := h
theorem mk_size (l : List UInt8) : (⟨l.toArray⟩ : ByteArray).size = l.length := by simp [ByteArray.size]
theorem tot_take (l : List Cel) (i : Nat) (hi : i < l.length) : tot (l.take (i + 1)) = tot (l.take i) + (l[i].1.length + l[i].2.length) := by
  rw [List.take_add_one, List.getElem?_eq_getElem hi, tot_append]
  show _ + (csz l[i] + 0) = _
  unfold csz
  omega
theorem tot_take_le (l : List Cel) (i : Nat) : tot (l.take i) ≤ tot l := by
  have := tot_append (l.take i) (l.drop i)
  rw [List.take_append_drop] at this
  omega
set_option maxHeartbeats 2000000 in
theorem rsize_is {w : World} (a : Option Addr) (N c : Nat) (l : List Cel) (hN : l.length = N) (h : Sl cv 2 w (.slice a N c) l) (h1 : N ≤ 1000) (h2 : tot l ≤ 100000) : Calls Try.prog 53 #[.slice a N c] w fun e w' => e = .returned (.int .i64 ((8 + 2 * N + tot l : Nat) : Int)) ∧ ∃ m, w' = w.drewN m := by
  have HS : Hid (Sl cv 2 w (.slice a N c) l) := h
  have HT : Hid (tot (l.take N) = tot l ∧ l.length = N ∧ tot l ≤ 100000) := ⟨by rw [List.take_of_length_le (by omega)], hN, h2⟩
  clear h h2 hN
  go_enter Try.func53, Try.ntmps53
  go_wp2_with fail
  go_loopw [3, 4] (fun v3 v4 wr => ∃ i m t : Nat, i ≤ N ∧ t ≤ 200000 ∧ v4 = .int .i64 i ∧ v3 = .int .i64 t ∧ Hid (wr = w.drewN m) ∧ Hid (t = 8 + 2 * i + tot (l.take i))) (fun _ v4 _ => N - (intOf v4).toNat)
  case atStart => exact ⟨0, 0, 8, Nat.zero_le _, by omega, rfl, rfl, rfl, rfl⟩
  case round =>
    obtain ⟨i, m, t, hi, ht, rfl, rfl, HW, HE⟩ := hrel
    by_cases hlt : i < N
    · have c1 : (i : Int) < (N : Int) := by omega
      have hl : i < l.length := by rw [HT.out.2.1]; exact hlt
      obtain ⟨b, o, c', hv, hc', hb, hcs⟩ := HS.out.cells (fun e => by rw [e] at hl; exact absurd hl (Nat.not_lt_zero _))
      rw [HT.out.2.1] at hv
      cases hv
      obtain ⟨z0, z1⟩ := hcs i hl
      have y0 : wr.cell? ⟨b, o + i * 2, none⟩ = some (.string ⟨l[i].1.toArray⟩) := by rw [HW.out]; exact z0
      have y1 : wr.cell? ⟨b, o + i * 2 + 1, none⟩ = some (.string ⟨l[i].2.toArray⟩) := by rw [HW.out]; exact z1
      have HTT : Hid (tot (l.take (i + 1)) = tot (l.take i) + (l[i].1.length + l[i].2.length) ∧ tot (l.take (i + 1)) ≤ tot l) := ⟨tot_take l i hl, tot_take_le l _⟩
      obtain ⟨S1, hS1⟩ : ∃ S, (⟨l[i].1.toArray⟩ : ByteArray) = S := ⟨_, rfl⟩
      obtain ⟨S2, hS2⟩ : ∃ S, (⟨l[i].2.toArray⟩ : ByteArray) = S := ⟨_, rfl⟩
      have e1 : S1.size = l[i].1.length := by rw [← hS1]; exact mk_size _
      have e2 : S2.size = l[i].2.length := by rw [← hS2]; exact mk_size _
      rw [hS1] at y0
      rw [hS2] at y1
      rw [← e1, ← e2] at HTT
      have b1 : S1.size ≤ 100000 := by have := HTT.out; have := HT.out; omega
      have b2 : S2.size ≤ 100000 := by have := HTT.out; have := HT.out; omega
      clear z0 z1 hcs hb hS1 hS2 e1 e2 hl
      generalize hs1 : S1.size = s1 at *
      generalize hs2 : S2.size = s2 at *
      go_wp2_with fail
      go_quiet (fail)
      go_wp2_with fail
      go_roundw
      case rel => exact ⟨i + 1, m + nq, t + 2 + s1 + s2, hlt, by have := HE.out; have := HTT.out; have := HT.out; omega, by rw [Int.natCast_add]; rfl, by simp, by show _ = _; rw [HW.out, World.drewN_drewN], by show _ = _; rw [HTT.out.1, HE.out]; omega⟩
      case measure => simp only [intOf]; omega
    · have c1 : ¬ (i : Int) < (N : Int) := by omega
      have hiN : i = N := by omega
      subst hiN
      have HT2 : Hid (t = 8 + 2 * i + tot l) := by show _ = _; rw [HE.out, HT.out.1]
      clear HE HT HS
      go_wp2_with fail
      go_ret
      obtain rfl := HT2.out
      exact ⟨rfl, m, HW.out⟩
end Go.Proofs.Ytehaancdadmdkaa
