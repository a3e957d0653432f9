/- slices.Grow, slices.Concat, slices.Clone of items. -/
import Derived.Test.YtgjeobmbfeinnaaMm
import Derived.Maps.AppendAt
namespace Go.Proofs.Ytgjeobmbfeinnaa
open Go.ChangeShapes Go.WideShapes Go.RowKit
set_option linter.unusedVariables false
set_option maxRecDepth 100000

theorem appR_is {w : World} {v : Value} {l l' : List Pr} (h : w.ownsRow 0 43 4 v l.length (l.flatMap pv)) (u : Value) (hu : Sl pv 4 w u l') (hs : (l ++ l').length ≤ 1000) :
    ∃ v' w', (Builtin.append_ #[28, 28] 28 #[v, u]).run Try.prog w = .ok v' w' ∧ w'.ownsRow 0 43 4 v' (l ++ l').length ((l ++ l').flatMap pv) ∧ w.grownBy w' v.ownBlock ∧ (v'.ownBlock = v.ownBlock ∨ v'.ownBlock = some w.heap.size) := by
  obtain ⟨inf, hi0, hz0, hzs, hzb⟩ := info_of info43
  obtain ⟨a, c, rfl, hr, hc, hz⟩ := hu
  rw [List.length_append] at hs ⊢
  cases a with
  | none =>
    have hc0 := hz rfl
    have hl0 : l' = [] := List.eq_nil_of_length_eq_zero (by omega)
    subst hl0
    subst hc0
    obtain ⟨o, cc, rfl⟩ := own_form h
    have hr := run_append_owned_none (P := Try.prog) w 0 28 28 43 inf 4 Try.underlying28 hi0 _ _ _ h
    refine ⟨_, w, ?_, by rw [List.append_nil]; exact h, ⟨rfl, rfl, rfl, Nat.le_refl _, fun _ _ _ => rfl⟩, .inl rfl⟩
    exact hr
  | some a =>
    obtain ⟨v', w', r1, r2, r3, r4, r5⟩ := run_append_own_at (P := Try.prog) w 0 28 28 43 inf _ 4 40 Try.underlying28 hi0 hz0 hzs hzb (by simp [Value.cells]) (by omega) v l.length (l.flatMap pv) h a l'.length c (l'.flatMap pv) (flat_len pv_len l') (fun j x hx => by
      have hne : l' ≠ [] := fun e => by rw [e] at hx; simp at hx
      obtain ⟨b, o, e, hcc⟩ := hr hne
      cases e
      rw [Go.WideShapes.add_plain]
      exact rw_cells (f := pv) (k := 4) pv_len hcc j x hx) (pv_one l') (by unfold maxLen; omega) (by omega) (Nat.zero_le _)
    exact ⟨v', w', r1, by rw [List.flatMap_append]; exact r2, r3, r5⟩
end Go.Proofs.Ytgjeobmbfeinnaa
