/- Slices of cells. -/
import Derived.Test.YtehaancdadmdkaaRq
namespace Go.Proofs.Ytehaancdadmdkaa
open Go.ChangeShapes Go.WideShapes Go.ChangeAt Go.RowKit
set_option linter.unusedVariables false
set_option maxRecDepth 100000

theorem sl27_h (a : Option Addr) (L c k : Nat) (hk : k ≤ c) (W : World) : (Instr.sliceAt 27 (.slice a L c) none (some (.int .i64 (k : Int))) none).run Try.prog W = .ok (.slice a k c) W := by
  rw [run_sliceAt_slice W 27 _ _ _ _ Try.underlying27, run_slice_h W 27 a L c Try.underlying27 .i64 (k : Int) (by omega) (by omega)]
  cases a with
  | none => simp [go_sem]
  | some a => obtain ⟨b, o, q⟩ := a; simp [go_sem, Addr.add]
theorem sl27_l {w : World} {a : Option Addr} {N c : Nat} {cs : List Cel} (h : Sl cv 2 w (.slice a N c) cs) (j : Nat) (hj : j ≤ N) (hN : cs.length = N) : ∃ u, (∀ W : World, (Instr.sliceAt 27 (.slice a N c) (some (.int .i64 (j : Int))) none none).run Try.prog W = .ok u W) ∧ Sl cv 2 w u (cs.drop j) := by
  have hr : ∀ W : World, (Instr.sliceAt 27 (.slice a N c) (some (.int .i64 (j : Int))) none none).run Try.prog W = .ok (sliced a j N c 2) W := fun W => by
    rw [run_sliceAt_slice W 27 _ _ _ _ Try.underlying27, run_slice_l W 27 a N c Try.underlying27 .i64 (j : Int) (by omega) (by omega)]
    simp [go_sem]
  refine ⟨_, hr, ?_⟩
  obtain ⟨a', c', e, h2, h3, h4⟩ := h
  cases e
  unfold sliced
  by_cases hc : c = j
  · subst hc
    have : cs.drop c = [] := List.drop_of_length_le (by omega)
    rw [this, if_pos rfl]
    exact ⟨a, 0, by simp; omega, Rw.nil _ _ _ _, Nat.le_refl _, fun _ => rfl⟩
  · rw [if_neg hc]
    by_cases hne : cs = []
    · subst hne
      refine ⟨a.map (·.add (j * 2)), c - j, by simp, by rw [List.drop_nil]; exact Rw.nil _ _ _ _, by simp, fun e => ?_⟩
      cases a with
      | none => have := h4 rfl; omega
      | some a => cases e
    · obtain ⟨b, o, e, hcc⟩ := h2 hne
      subst e
      refine ⟨some ⟨b, o + j * 2, none⟩, c - j, ?_, h2.drop j, by rw [List.length_drop]; omega, fun e => by cases e⟩
      rw [List.length_drop, hN]
      simp [Go.WideShapes.add_plain]
theorem putC_tot (cs : List Cel) (k r : Nat) (key val : ByteArray) (hk : k ≤ r) : tot (putC cs k r (key.data.toList, val.data.toList)) ≤ tot cs + (key.size + val.size) := by
  have h1 : tot cs = tot (cs.take k) + tot (cs.drop k) := by rw [← tot_append, List.take_append_drop]
  have h2 : tot (cs.drop k) = tot ((cs.drop k).take (r - k)) + tot (cs.drop r) := by
    rw [← tot_append]
    have : cs.drop r = (cs.drop k).drop (r - k) := by rw [List.drop_drop]; congr 1; omega
    rw [this, List.take_append_drop]
  unfold putC
  rw [tot_append, tot_append]
  have h3 : tot [((key.data.toList, val.data.toList) : Cel)] = key.data.toList.length + val.data.toList.length + 0 := rfl
  have lk : key.data.toList.length = key.size := by simp
  have lv : val.data.toList.length = val.size := by simp
  omega
end Go.Proofs.Ytehaancdadmdkaa
