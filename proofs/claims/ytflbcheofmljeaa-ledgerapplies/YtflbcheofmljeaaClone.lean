/- slices.Clone of a ledger's lists. -/
import Derived.Test.YtflbcheofmljeaaMove
namespace Go.Proofs.Ytflbcheofmljeaa
open Go.ChangeShapes Go.WideShapes Go.RowKit
set_option linter.unusedVariables false
set_option maxRecDepth 100000

/-- A list of the call's own, just made. -/
structure Fresh (e k : Nat) (xs : List Value) (n : Nat) (w w' : World) (v : Value) : Prop where
  own : w'.ownsRow 0 e k v n xs
  bel : Below w.heap.size w w'
  new : ∀ g, v.ownBlock = some g → w.heap.size ≤ g ∧ g < w'.heap.size
theorem rw_cells {α : Type} {f : α → List Value} {k : Nat} (hf : ∀ x, (f x).length = k) {w : World} {b o : Nat} {l : List α} (hc : ∀ i x, l[i]? = some x → ∀ j u, (f x)[j]? = some u → w.cell? ⟨b, o + i * k + j, none⟩ = some u) : ∀ j u, (l.flatMap f)[j]? = some u → w.cell? ⟨b, o + j, none⟩ = some u := by
  induction l generalizing o with
  | nil => intro j u h; simp at h
  | cons x r ih =>
    intro j u h
    rw [List.flatMap_cons] at h
    by_cases hj : j < (f x).length
    · rw [List.getElem?_append_left hj] at h
      have := hc 0 x rfl j u h
      rwa [Nat.zero_mul, Nat.add_zero] at this
    · rw [List.getElem?_append_right (by omega)] at h
      have := ih (o := o + k) (fun i y hy j u hu => by
        have := hc (i + 1) y hy j u hu
        rwa [show o + (i + 1) * k + j = o + k + i * k + j by rw [Nat.succ_mul]; omega] at this) _ u h
      rw [hf x] at this hj
      rwa [show o + k + (j - k) = o + j by omega] at this
set_option maxHeartbeats 1000000 in
theorem cloneS_is (a : Option Addr) (n c : Nat) (l : List Stk) (hn : l.length = n) (hm : n ≤ 100000) (hz : a = none → n = 0 ∧ c = 0) (w : World) (hr : Rw stv 4 w a l) :
    Calls Try.prog 45 #[.slice a n c] w fun e w' => ∃ a' c', e = .returned (.slice a' n c') ∧ Fresh 50 4 (l.flatMap stv) n w w' (.slice a' n c') := by
  cases a with
  | none =>
    obtain ⟨rfl, rfl⟩ := hz rfl
    have hl : l = [] := List.eq_nil_of_length_eq_zero hn
    subst hl
    have he : ∀ w : World, (binOp .eql 22 (.slice none 0 0) (.slice none 0 0)).run Try.prog w = .ok (.bool true) w := fun _ => rfl
    go_enter Try.func45, Try.ntmps45
    go_wp2_with fail
    go_ret
    exact ⟨none, 0, rfl, World.ownsRow_nil _ _ _ _, Below.refl _ _, fun g hg => by cases hg⟩
  | some a =>
    obtain ⟨i, hi, hzz, h1, h2⟩ := info_of info50
    obtain ⟨W, hW⟩ : ∃ W, w.alloc (.cells #[] 50) = W := ⟨_, rfl⟩
    have hB : Below w.heap.size w W := hW ▸ below1 _ _
    have hzW : W.heap.size = w.heap.size + 1 := by rw [← hW, size_alloc]
    have hO : W.ownsRow 0 50 4 (.slice (some ⟨w.heap.size, 0, none⟩) 0 0) 0 [] := by rw [← hW]; exact World.ownsRow_made w #[] 0 (Nat.zero_le _) (Nat.zero_le _) rfl
    have hnews : ∀ j u, (l.flatMap stv)[j]? = some u → W.cell? (a.add j) = some u := fun j u hu => by
      have hne : l ≠ [] := fun e => by rw [e] at hu; simp at hu
      obtain ⟨b, o, e, hc⟩ := hr.next stv_ne hB hne
      cases e
      rw [Go.WideShapes.add_plain]
      exact rw_cells (f := stv) (k := 4) (fun x => rfl) hc j u hu
    obtain ⟨v', w', r1, r2, r3, r4, r5⟩ := run_append_own_at (P := Try.prog) W 0 22 22 50 i _ 4 48 Try.underlying22 hi hzz h1 h2 (by simp [Value.cells]) (by omega) (.slice (some ⟨w.heap.size, 0, none⟩) 0 0) 0 [] hO a n c (l.flatMap stv) (by rw [stv_flat_len, hn]) hnews (stv_one l) (by unfold maxLen; omega) (by omega) (Nat.zero_le _)
    rw [Nat.zero_add, List.nil_append] at r2
    obtain ⟨a', c', rfl⟩ := own_form r2
    have HO : Hid (Fresh 50 4 (l.flatMap stv) n w w' (.slice a' n c')) := by
      refine ⟨r2, hB.grown r3 (by omega) (fun q hq => by cases hq; exact Nat.le_refl _), fun g hg => ⟨?_, (World.ownsRow.lt r2 g hg).2⟩⟩
      rcases r5 with e | e
      · rw [e] at hg; cases hg; exact Nat.le_refl _
      · rw [e] at hg; cases hg; omega
    have RA : Hid _ := r1
    clear r1 r2 r3 r4 r5 hnews hO hr hz hB hzW
    obtain ⟨ab, ao, asp⟩ := a
    have HW : Hid _ := hW
    clear hW
    have he : ∀ w : World, (binOp .eql 22 (.slice (some ⟨ab, ao, asp⟩) n c) (.slice none 0 0)).run Try.prog w = .ok (.bool false) w := fun _ => rfl
    go_enter Try.func45, Try.ntmps45
    go_wp2_with (first | ((with_reducible apply st_append (x := .tmp 5)); (case ho => rfl); (case hgd => rfl); (case hr => (rw [HW.out]; exact RA.out))))
    go_ret
    exact ⟨a', c', rfl, HO.out⟩
set_option maxHeartbeats 1000000 in
theorem cloneH_is (a : Option Addr) (n c : Nat) (l : List Hld) (hn : l.length = n) (hm : n ≤ 100000) (hz : a = none → n = 0 ∧ c = 0) (w : World) (hr : Rw hlv 6 w a l) :
    Calls Try.prog 46 #[.slice a n c] w fun e w' => ∃ a' c', e = .returned (.slice a' n c') ∧ Fresh 44 6 (l.flatMap hlv) n w w' (.slice a' n c') := by
  cases a with
  | none =>
    obtain ⟨rfl, rfl⟩ := hz rfl
    have hl : l = [] := List.eq_nil_of_length_eq_zero hn
    subst hl
    have he : ∀ w : World, (binOp .eql 23 (.slice none 0 0) (.slice none 0 0)).run Try.prog w = .ok (.bool true) w := fun _ => rfl
    go_enter Try.func46, Try.ntmps46
    go_wp2_with fail
    go_ret
    exact ⟨none, 0, rfl, World.ownsRow_nil _ _ _ _, Below.refl _ _, fun g hg => by cases hg⟩
  | some a =>
    obtain ⟨i, hi, hzz, h1, h2⟩ := info_of info44
    obtain ⟨W, hW⟩ : ∃ W, w.alloc (.cells #[] 44) = W := ⟨_, rfl⟩
    have hB : Below w.heap.size w W := hW ▸ below1 _ _
    have hzW : W.heap.size = w.heap.size + 1 := by rw [← hW, size_alloc]
    have hO : W.ownsRow 0 44 6 (.slice (some ⟨w.heap.size, 0, none⟩) 0 0) 0 [] := by rw [← hW]; exact World.ownsRow_made w #[] 0 (Nat.zero_le _) (Nat.zero_le _) rfl
    have hnews : ∀ j u, (l.flatMap hlv)[j]? = some u → W.cell? (a.add j) = some u := fun j u hu => by
      have hne : l ≠ [] := fun e => by rw [e] at hu; simp at hu
      obtain ⟨b, o, e, hc⟩ := hr.next hlv_ne hB hne
      cases e
      rw [Go.WideShapes.add_plain]
      exact rw_cells (f := hlv) (k := 6) (fun x => rfl) hc j u hu
    obtain ⟨v', w', r1, r2, r3, r4, r5⟩ := run_append_own_at (P := Try.prog) W 0 23 23 44 i _ 6 64 Try.underlying23 hi hzz h1 h2 (by simp [Value.cells]) (by omega) (.slice (some ⟨w.heap.size, 0, none⟩) 0 0) 0 [] hO a n c (l.flatMap hlv) (by rw [hlv_flat_len', hn]) hnews (hlv_one l) (by unfold maxLen; omega) (by omega) (Nat.zero_le _)
    rw [Nat.zero_add, List.nil_append] at r2
    obtain ⟨a', c', rfl⟩ := own_form r2
    have HO : Hid (Fresh 44 6 (l.flatMap hlv) n w w' (.slice a' n c')) := by
      refine ⟨r2, hB.grown r3 (by omega) (fun q hq => by cases hq; exact Nat.le_refl _), fun g hg => ⟨?_, (World.ownsRow.lt r2 g hg).2⟩⟩
      rcases r5 with e | e
      · rw [e] at hg; cases hg; exact Nat.le_refl _
      · rw [e] at hg; cases hg; omega
    have RA : Hid _ := r1
    clear r1 r2 r3 r4 r5 hnews hO hr hz hB hzW
    obtain ⟨ab, ao, asp⟩ := a
    have HW : Hid _ := hW
    clear hW
    have he : ∀ w : World, (binOp .eql 23 (.slice (some ⟨ab, ao, asp⟩) n c) (.slice none 0 0)).run Try.prog w = .ok (.bool false) w := fun _ => rfl
    go_enter Try.func46, Try.ntmps46
    go_wp2_with (first | ((with_reducible apply st_append (x := .tmp 5)); (case ho => rfl); (case hgd => rfl); (case hr => (rw [HW.out]; exact RA.out))))
    go_ret
    exact ⟨a', c', rfl, HO.out⟩
set_option maxHeartbeats 1000000 in
theorem cloneM_is (a : Option Addr) (n c : Nat) (l : List Mov) (hn : l.length = n) (hm : n ≤ 100000) (hz : a = none → n = 0 ∧ c = 0) (w : World) (hr : Rw mvv 6 w a l) :
    Calls Try.prog 47 #[.slice a n c] w fun e w' => ∃ a' c', e = .returned (.slice a' n c') ∧ Fresh 42 6 (l.flatMap mvv) n w w' (.slice a' n c') := by
  cases a with
  | none =>
    obtain ⟨rfl, rfl⟩ := hz rfl
    have hl : l = [] := List.eq_nil_of_length_eq_zero hn
    subst hl
    have he : ∀ w : World, (binOp .eql 24 (.slice none 0 0) (.slice none 0 0)).run Try.prog w = .ok (.bool true) w := fun _ => rfl
    go_enter Try.func47, Try.ntmps47
    go_wp2_with fail
    go_ret
    exact ⟨none, 0, rfl, World.ownsRow_nil _ _ _ _, Below.refl _ _, fun g hg => by cases hg⟩
  | some a =>
    obtain ⟨i, hi, hzz, h1, h2⟩ := info_of info42
    obtain ⟨W, hW⟩ : ∃ W, w.alloc (.cells #[] 42) = W := ⟨_, rfl⟩
    have hB : Below w.heap.size w W := hW ▸ below1 _ _
    have hzW : W.heap.size = w.heap.size + 1 := by rw [← hW, size_alloc]
    have hO : W.ownsRow 0 42 6 (.slice (some ⟨w.heap.size, 0, none⟩) 0 0) 0 [] := by rw [← hW]; exact World.ownsRow_made w #[] 0 (Nat.zero_le _) (Nat.zero_le _) rfl
    have hnews : ∀ j u, (l.flatMap mvv)[j]? = some u → W.cell? (a.add j) = some u := fun j u hu => by
      have hne : l ≠ [] := fun e => by rw [e] at hu; simp at hu
      obtain ⟨b, o, e, hc⟩ := hr.next mvv_ne hB hne
      cases e
      rw [Go.WideShapes.add_plain]
      exact rw_cells (f := mvv) (k := 6) (fun x => rfl) hc j u hu
    obtain ⟨v', w', r1, r2, r3, r4, r5⟩ := run_append_own_at (P := Try.prog) W 0 24 24 42 i _ 6 64 Try.underlying24 hi hzz h1 h2 (by simp [Value.cells]) (by omega) (.slice (some ⟨w.heap.size, 0, none⟩) 0 0) 0 [] hO a n c (l.flatMap mvv) (by rw [mvv_flat_len', hn]) hnews (mvv_one l) (by unfold maxLen; omega) (by omega) (Nat.zero_le _)
    rw [Nat.zero_add, List.nil_append] at r2
    obtain ⟨a', c', rfl⟩ := own_form r2
    have HO : Hid (Fresh 42 6 (l.flatMap mvv) n w w' (.slice a' n c')) := by
      refine ⟨r2, hB.grown r3 (by omega) (fun q hq => by cases hq; exact Nat.le_refl _), fun g hg => ⟨?_, (World.ownsRow.lt r2 g hg).2⟩⟩
      rcases r5 with e | e
      · rw [e] at hg; cases hg; exact Nat.le_refl _
      · rw [e] at hg; cases hg; omega
    have RA : Hid _ := r1
    clear r1 r2 r3 r4 r5 hnews hO hr hz hB hzW
    obtain ⟨ab, ao, asp⟩ := a
    have HW : Hid _ := hW
    clear hW
    have he : ∀ w : World, (binOp .eql 24 (.slice (some ⟨ab, ao, asp⟩) n c) (.slice none 0 0)).run Try.prog w = .ok (.bool false) w := fun _ => rfl
    go_enter Try.func47, Try.ntmps47
    go_wp2_with (first | ((with_reducible apply st_append (x := .tmp 5)); (case ho => rfl); (case hgd => rfl); (case hr => (rw [HW.out]; exact RA.out))))
    go_ret
    exact ⟨a', c', rfl, HO.out⟩
end Go.Proofs.Ytflbcheofmljeaa
