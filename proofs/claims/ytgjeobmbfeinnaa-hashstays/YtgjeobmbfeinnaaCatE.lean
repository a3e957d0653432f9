/- slices.Grow, slices.Concat, slices.Clone of items. -/
import Derived.Test.YtgjeobmbfeinnaaMm
import Derived.Maps.AppendAt
namespace Go.Proofs.Ytgjeobmbfeinnaa
open Go.ChangeShapes Go.WideShapes Go.RowKit
set_option linter.unusedVariables false
set_option maxRecDepth 100000

theorem appE_is {w : World} {v : Value} {l l' : List Ent} (h : w.ownsRow 0 61 4 v l.length (l.flatMap ev)) (u : Value) (hu : Sl ev 4 w u l') (hs : (l ++ l').length ≤ 1000) :
    ∃ v' w', (Builtin.append_ #[64, 64] 64 #[v, u]).run Try.prog w = .ok v' w' ∧ w'.ownsRow 0 61 4 v' (l ++ l').length ((l ++ l').flatMap ev) ∧ w.grownBy w' v.ownBlock ∧ (v'.ownBlock = v.ownBlock ∨ v'.ownBlock = some w.heap.size) := by
  obtain ⟨inf, hi0, hz0, hzs, hzb⟩ := info_of info61
  obtain ⟨a, c, rfl, hr, hc, hz⟩ := hu
  rw [List.length_append] at hs ⊢
  cases a with
  | none =>
    have hc0 := hz rfl
    have hl0 : l' = [] := List.eq_nil_of_length_eq_zero (by omega)
    subst hl0
    subst hc0
    obtain ⟨o, cc, rfl⟩ := own_form h
    have hr := run_append_owned_none (P := Try.prog) w 0 64 64 61 inf 4 Try.underlying64 hi0 _ _ _ h
    refine ⟨_, w, ?_, by rw [List.append_nil]; exact h, ⟨rfl, rfl, rfl, Nat.le_refl _, fun _ _ _ => rfl⟩, .inl rfl⟩
    exact hr
  | some a =>
    obtain ⟨v', w', r1, r2, r3, r4, r5⟩ := run_append_own_at (P := Try.prog) w 0 64 64 61 inf _ 4 56 Try.underlying64 hi0 hz0 hzs hzb (by simp [Value.cells]) (by omega) v l.length (l.flatMap ev) h a l'.length c (l'.flatMap ev) (flat_len ev_len l') (fun j x hx => by
      have hne : l' ≠ [] := fun e => by rw [e] at hx; simp at hx
      obtain ⟨b, o, e, hcc⟩ := hr hne
      cases e
      rw [Go.WideShapes.add_plain]
      exact rw_cells (f := ev) (k := 4) ev_len hcc j x hx) (ev_one l') (by unfold maxLen; omega) (by omega) (Nat.zero_le _)
    exact ⟨v', w', r1, by rw [List.flatMap_append]; exact r2, r3, r5⟩
set_option maxHeartbeats 1000000 in
theorem cloneE_is (v : Value) (l : List Ent) (hn : l.length ≤ 1000) (w : World) (hs : Sl ev 4 w v l) :
    Calls Try.prog 34 #[v] w fun e w' => ∃ v', e = .returned v' ∧ Fresh 61 4 (l.flatMap ev) l.length w w' v' := by
  have hs' := hs
  obtain ⟨a, c, rfl, hr, hc, hz⟩ := hs
  cases a with
  | none =>
    have hc0 := hz rfl
    have hl0 : l = [] := List.eq_nil_of_length_eq_zero (by omega)
    subst hl0
    subst hc0
    have he : ∀ w : World, (binOp .eql 64 (.slice none 0 0) (.slice none 0 0)).run Try.prog w = .ok (.bool true) w := fun _ => rfl
    go_enter Try.func34, Try.ntmps34
    go_wp2_with fail
    go_ret
    exact ⟨_, rfl, World.ownsRow_nil _ _ _ _, Below.refl _ _, fun g hg => by cases hg⟩
  | some a =>
    obtain ⟨W, hW⟩ : ∃ W, w.alloc (.cells #[] 61) = W := ⟨_, rfl⟩
    have hB : Below w.heap.size w W := hW ▸ below1 _ _
    have hzW : W.heap.size = w.heap.size + 1 := by rw [← hW, size_alloc]
    have hO : W.ownsRow 0 61 4 (.slice (some ⟨w.heap.size, 0, none⟩) 0 0) ([] : List Ent).length (([] : List Ent).flatMap ev) := by rw [← hW]; exact World.ownsRow_made w #[] 0 (Nat.zero_le _) (Nat.zero_le _) rfl
    obtain ⟨v', w', r1, r2, r3, r5⟩ := appE_is hO _ (hs'.next ev_ne hB) (by simpa using hn)
    rw [List.nil_append] at r2
    have HO : Hid (Fresh 61 4 (l.flatMap ev) l.length w w' v') := by
      refine ⟨r2, hB.grown r3 (by omega) (fun q hq => by cases hq; exact Nat.le_refl _), fun g hg => ⟨?_, (World.ownsRow.lt r2 g hg).2⟩⟩
      rcases r5 with e | e
      · rw [e] at hg; cases hg; exact Nat.le_refl _
      · rw [e] at hg; cases hg; omega
    have RA : Hid _ := r1
    clear r1 r2 r3 r5 hO hr hz hB hzW hs'
    obtain ⟨ab, ao, asp⟩ := a
    have HW : Hid _ := hW
    clear hW
    have he : ∀ w : World, (binOp .eql 64 (.slice (some ⟨ab, ao, asp⟩) l.length c) (.slice none 0 0)).run Try.prog w = .ok (.bool false) w := fun _ => rfl
    go_enter Try.func34, Try.ntmps34
    go_wp2_with (first | ((with_reducible apply st_append (x := .tmp 5)); (case ho => rfl); (case hgd => rfl); (case hr => (rw [HW.out]; exact RA.out))))
    go_ret
    exact ⟨_, rfl, HO.out⟩
end Go.Proofs.Ytgjeobmbfeinnaa
