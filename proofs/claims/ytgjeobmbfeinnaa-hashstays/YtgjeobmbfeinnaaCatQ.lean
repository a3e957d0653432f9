/- slices.Grow, slices.Concat, slices.Clone of kids. -/
import Derived.Test.YtgjeobmbfeinnaaMm
import Derived.Maps.AppendAt
namespace Go.Proofs.Ytgjeobmbfeinnaa
open Go.ChangeShapes Go.WideShapes Go.RowKit
set_option linter.unusedVariables false
set_option maxRecDepth 100000

theorem appQ_is {w : World} {v : Value} {l l' : List Nat} (h : w.ownsRow 0 65 1 v l.length (l.flatMap ptv)) (u : Value) (hu : Sl ptv 1 w u l') (hs : (l ++ l').length ≤ 1000) :
    ∃ v' w', (Builtin.append_ #[49, 49] 49 #[v, u]).run Try.prog w = .ok v' w' ∧ w'.ownsRow 0 65 1 v' (l ++ l').length ((l ++ l').flatMap ptv) ∧ w.grownBy w' v.ownBlock ∧ (v'.ownBlock = v.ownBlock ∨ v'.ownBlock = some w.heap.size) := by
  obtain ⟨inf, hi0, hz0, hzs, hzb⟩ := info_of info65
  obtain ⟨a, c, rfl, hr, hc, hz⟩ := hu
  rw [List.length_append] at hs ⊢
  cases a with
  | none =>
    have hc0 := hz rfl
    have hl0 : l' = [] := List.eq_nil_of_length_eq_zero (by omega)
    subst hl0
    subst hc0
    obtain ⟨o, cc, rfl⟩ := own_form h
    have hr := run_append_owned_none (P := Try.prog) w 0 49 49 65 inf 1 Try.underlying49 hi0 _ _ _ h
    refine ⟨_, w, ?_, by rw [List.append_nil]; exact h, ⟨rfl, rfl, rfl, Nat.le_refl _, fun _ _ _ => rfl⟩, .inl rfl⟩
    exact hr
  | some a =>
    obtain ⟨v', w', r1, r2, r3, r4, r5⟩ := run_append_own_at (P := Try.prog) w 0 49 49 65 inf _ 1 8 Try.underlying49 hi0 hz0 hzs hzb (by simp [Value.cells]) (by omega) v l.length (l.flatMap ptv) h a l'.length c (l'.flatMap ptv) (flat_len ptv_len l') (fun j x hx => by
      have hne : l' ≠ [] := fun e => by rw [e] at hx; simp at hx
      obtain ⟨b, o, e, hcc⟩ := hr hne
      cases e
      rw [Go.WideShapes.add_plain]
      exact rw_cells (f := ptv) (k := 1) ptv_len hcc j x hx) (ptv_one l') (by unfold maxLen; omega) (by omega) (Nat.zero_le _)
    exact ⟨v', w', r1, by rw [List.flatMap_append]; exact r2, r3, r5⟩
set_option maxHeartbeats 1000000 in
theorem cloneQ_is (v : Value) (l : List Nat) (hn : l.length ≤ 1000) (w : World) (hs : Sl ptv 1 w v l) :
    Calls Try.prog 36 #[v] w fun e w' => ∃ v', e = .returned v' ∧ Fresh 65 1 (l.flatMap ptv) l.length w w' v' := by
  have hs' := hs
  obtain ⟨a, c, rfl, hr, hc, hz⟩ := hs
  cases a with
  | none =>
    have hc0 := hz rfl
    have hl0 : l = [] := List.eq_nil_of_length_eq_zero (by omega)
    subst hl0
    subst hc0
    have he : ∀ w : World, (binOp .eql 49 (.slice none 0 0) (.slice none 0 0)).run Try.prog w = .ok (.bool true) w := fun _ => rfl
    go_enter Try.func36, Try.ntmps36
    go_wp2_with fail
    go_ret
    exact ⟨_, rfl, World.ownsRow_nil _ _ _ _, Below.refl _ _, fun g hg => by cases hg⟩
  | some a =>
    obtain ⟨W, hW⟩ : ∃ W, w.alloc (.cells #[] 65) = W := ⟨_, rfl⟩
    have hB : Below w.heap.size w W := hW ▸ below1 _ _
    have hzW : W.heap.size = w.heap.size + 1 := by rw [← hW, size_alloc]
    have hO : W.ownsRow 0 65 1 (.slice (some ⟨w.heap.size, 0, none⟩) 0 0) ([] : List Nat).length (([] : List Nat).flatMap ptv) := by rw [← hW]; exact World.ownsRow_made w #[] 0 (Nat.zero_le _) (Nat.zero_le _) rfl
    obtain ⟨v', w', r1, r2, r3, r5⟩ := appQ_is hO _ (hs'.next ptv_ne hB) (by simpa using hn)
    rw [List.nil_append] at r2
    have HO : Hid (Fresh 65 1 (l.flatMap ptv) l.length w w' v') := by
      refine ⟨r2, hB.grown r3 (by omega) (fun q hq => by cases hq; exact Nat.le_refl _), fun g hg => ⟨?_, (World.ownsRow.lt r2 g hg).2⟩⟩
      rcases r5 with e | e
      · rw [e] at hg; cases hg; exact Nat.le_refl _
      · rw [e] at hg; cases hg; omega
    have RA : Hid _ := r1
    clear r1 r2 r3 r5 hO hr hz hB hzW hs'
    obtain ⟨ab, ao, asp⟩ := a
    have HW : Hid _ := hW
    clear hW
    have he : ∀ w : World, (binOp .eql 49 (.slice (some ⟨ab, ao, asp⟩) l.length c) (.slice none 0 0)).run Try.prog w = .ok (.bool false) w := fun _ => rfl
    go_enter Try.func36, Try.ntmps36
    go_wp2_with (first | ((with_reducible apply st_append (x := .tmp 5)); (case ho => rfl); (case hgd => rfl); (case hr => (rw [HW.out]; exact RA.out))))
    go_ret
    exact ⟨_, rfl, HO.out⟩
end Go.Proofs.Ytgjeobmbfeinnaa
