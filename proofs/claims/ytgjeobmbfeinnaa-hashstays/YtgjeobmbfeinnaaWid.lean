/- The wider index, while it is made. -/
import Derived.Test.YtgjeobmbfeinnaaPuts
namespace Go.Proofs.Ytgjeobmbfeinnaa
open Go.ChangeShapes Go.WideShapes Go.RowKit
set_option linter.unusedVariables false
set_option maxRecDepth 100000

/-- A block of cells of a type. -/
def Blk (w : World) (g : Nat) (t : TypeId) (C : List Value) : Prop := w.heap[g]? = some (.cells C.toArray t (0, 0))
theorem Blk.cell {w : World} {g : Nat} {t : TypeId} {C : List Value} (h : Blk w g t C) {i : Nat} {u : Value} (hu : C[i]? = some u) : w.cell? ⟨g, i, none⟩ = some u := by
  have h' : w.heap[g]? = some (.cells C.toArray t (0, 0)) := h
  simp [World.cell?, h', hu]
theorem Blk.fz {w : World} {g : Nat} {t : TypeId} {C : List Value} (h : Blk w g t C) (j : Nat) : w.frozen? ⟨g, j, none⟩ = false := frozen_of_row w g j C.toArray t h
theorem Blk.lt {w : World} {g : Nat} {t : TypeId} {C : List Value} (h : Blk w g t C) : g < w.heap.size := (Array.getElem?_eq_some_iff.1 h).1
theorem Blk.far {w w' : World} {g : Nat} {t : TypeId} {C : List Value} (h : Blk w g t C) (e : w'.heap[g]? = w.heap[g]?) : Blk w' g t C := by unfold Blk at *; rw [e]; exact h
theorem Blk.next {w w' : World} {g : Nat} {t : TypeId} {C : List Value} (h : Blk w g t C) (b : Below w.heap.size w w') : Blk w' g t C := h.far (b.block g h.lt)
theorem Blk.new (w : World) (t : TypeId) (C : List Value) : Blk (w.alloc (.cells C.toArray t)) w.heap.size t C := by
  show (w.heap.push _)[w.heap.size]? = _
  rw [Array.getElem?_push_size]
theorem Blk.set {w : World} {g : Nat} {t : TypeId} {C : List Value} (h : Blk w g t C) (i : Nat) (u : Value) : Blk (w.setCell ⟨g, i, none⟩ u) g t (C.set i u) := by
  have := heap_setCell_same w g i C.toArray t u h
  unfold Blk
  rw [this]
  simp
theorem Blk.ne {w : World} {g g' : Nat} {t t' : TypeId} {C C' : List Value} (h : Blk w g t C) (h' : Blk w g' t' C') (ht : t ≠ t') : g ≠ g' := by
  rintro rfl
  unfold Blk at *
  rw [h] at h'
  cases h'
  exact ht rfl
theorem Blk.ne_row {w : World} {g g' : Nat} {t : TypeId} {C : List Value} {v : Value} {n : Nat} {xs : List Value} (h : Blk w g t C) (h' : w.ownsRow 0 61 4 v n xs) (hg : v.ownBlock = some g') (ht : t ≠ 61) : g ≠ g' := by
  rintro rfl
  rcases h'.2 with ⟨e, _⟩ | ⟨g2, cap, cur, e, _, hh, _⟩
  · rw [e] at hg; cases hg
  · rw [e] at hg; cases hg
    unfold Blk at h
    rw [h] at hh
    cases hh
    exact ht rfl
/-- The wider index: a cell with its address, its list of blocks, the blocks, and rows of their own. -/
structure Wd (w : World) (B tb pw gl cl nb : Nat) (ads : List Nat) (us : List Value) (ess : List (List Ent)) : Prop where
  t : Blk w tb 25 [.pointer (some ⟨pw, 0, none⟩)]
  p : Blk w pw 51 [.slice (some ⟨gl, 0, none⟩) nb cl]
  l : Blk w gl 65 (ads.flatMap ptv)
  nads : ads.length = nb
  ncl : nb ≤ cl
  nus : us.length = 8 * nb
  ness : ess.length = 8 * nb
  blk : ∀ (a g : Nat), ads[a]? = some g → Blk w g 71 ((us.drop (8 * a)).take 8)
  row : ∀ (q : Nat) u (es : List Ent), us[q]? = some u → ess[q]? = some es → w.ownsRow 0 61 4 u es.length (es.flatMap ev)
  apart : ∀ (q q' : Nat) u u' g, us[q]? = some u → us[q']? = some u' → u.ownBlock = some g → u'.ownBlock = some g → q = q'
  nodup : ∀ (a a' g : Nat), ads[a]? = some g → ads[a']? = some g → a = a'
  bt : B ≤ tb
  bp : B ≤ pw
  bl : B ≤ gl
  bads : ∀ (a g : Nat), ads[a]? = some g → B ≤ g
  brow : ∀ (q : Nat) u g, us[q]? = some u → u.ownBlock = some g → B ≤ g
theorem Wd.next {w w' : World} {B tb pw gl cl nb : Nat} {ads : List Nat} {us : List Value} {ess : List (List Ent)} (h : Wd w B tb pw gl cl nb ads us ess) (b : Below w.heap.size w w') : Wd w' B tb pw gl cl nb ads us ess :=
  { h with
    t := h.t.next b, p := h.p.next b, l := h.l.next b
    blk := fun a g hg => (h.blk a g hg).next b
    row := fun q u es h1 h2 => ownsRow_kept (h.row q u es h1 h2) (fun g hg => b.block g (World.ownsRow.lt (h.row q u es h1 h2) g hg).2) }
theorem take8_at {us : List Value} {a i : Nat} (hi : i < 8) : ((us.drop (8 * a)).take 8)[i]? = us[8 * a + i]? := by
  rw [List.getElem?_take_of_lt hi, List.getElem?_drop]
theorem take8_set {us : List Value} {a q : Nat} {u : Value} (h : 8 * a ≤ q) : (((us.set q u).drop (8 * a)).take 8) = ((us.drop (8 * a)).take 8).set (q - 8 * a) u := by
  rw [List.drop_set, if_neg (by omega), List.take_set]
theorem take8_far {us : List Value} {a q : Nat} {u : Value} (h : q < 8 * a ∨ 8 * a + 8 ≤ q) : (((us.set q u).drop (8 * a)).take 8) = ((us.drop (8 * a)).take 8) := by
  rcases h with h | h
  · rw [List.drop_set, if_pos h]
  · refine List.ext_getElem? (fun i => ?_)
    by_cases hi : i < 8
    · rw [take8_at hi, take8_at hi, List.getElem?_set_ne (by omega)]
    · rw [List.getElem?_eq_none (by rw [List.length_take]; omega), List.getElem?_eq_none (by rw [List.length_take]; omega)]
/-- One entry more. -/
theorem Wd.more {w w1 w' : World} {B tb pw gl cl nb : Nat} {ads : List Nat} {us : List Value} {ess : List (List Ent)} (h : Wd w B tb pw gl cl nb ads us ess) {q qa qi g : Nat} {u u' : Value} {es : List Ent} {e : Ent} (hq : q = 8 * qa + qi) (hqi : qi < 8) (hg : ads[qa]? = some g) (hu : us[q]? = some u) (hes : ess[q]? = some es)
    (hgr : w.grownBy w1 u.ownBlock) (hrow : w1.ownsRow 0 61 4 u' (es ++ [e]).length ((es ++ [e]).flatMap ev)) (hob : u'.ownBlock = u.ownBlock ∨ ∃ k, u'.ownBlock = some k ∧ w.heap.size ≤ k) (hB : B ≤ w.heap.size) (hw' : w1.setCell ⟨g, qi, none⟩ u' = w') : Wd w' B tb pw gl cl nb ads (us.set q u') (ess.set q (es ++ [e])) := by
  have hql : q < us.length := getD_lt hu
  have hqe : q < ess.length := getD_lt hes
  have hrow0 := h.row q u es hu hes
  have hbg := h.blk qa g hg
  have hgl := hbg.lt
  have hne : ∀ k, k < w.heap.size → u.ownBlock ≠ some k → k ≠ g → w'.heap[k]? = w.heap[k]? := fun k hk h1 h2 => by
    rw [← hw']
    exact (heap_set _ _ _ h2).trans (hgr.block k hk (fun e => h1 e.symm))
  have hfar : ∀ {k t C}, Blk w k t C → t ≠ 61 → k ≠ g → Blk w' k t C := fun {k t C} hb ht hk => hb.far (hne k hb.lt (fun e => hb.ne_row hrow0 e ht rfl) hk)
  have hgo : u'.ownBlock ≠ some g := fun e' => by
    rcases hob with e2 | ⟨k, e2, hk⟩
    · rw [e2] at e'; exact hbg.ne_row hrow0 e' (by decide) rfl
    · rw [e2] at e'; cases e'; omega
  refine ⟨hfar h.t (by decide) (h.t.ne hbg (by decide)), hfar h.p (by decide) (h.p.ne hbg (by decide)), hfar h.l (by decide) (h.l.ne hbg (by decide)), h.nads, h.ncl, by rw [List.length_set]; exact h.nus, by rw [List.length_set]; exact h.ness, ?_, ?_, ?_, h.nodup, h.bt, h.bp, h.bl, h.bads, ?_⟩
  · intro a g' hg'
    by_cases c : a = qa
    · subst c
      rw [hg] at hg'; cases hg'
      rw [take8_set (by omega), show q - 8 * a = qi by omega, ← hw']
      exact (hbg.far (hgr.block g hgl (fun e => hbg.ne_row hrow0 e.symm (by decide) rfl))).set qi u'
    · rw [take8_far (by omega)]
      exact hfar (h.blk a g' hg') (by decide) (fun e2 => c (h.nodup a qa g (e2 ▸ hg') hg))
  · intro q' v fs hv hfs
    by_cases c : q = q'
    · subst c
      rw [List.getElem?_set_self hql] at hv
      rw [List.getElem?_set_self hqe] at hfs
      cases hv; cases hfs
      exact ownsRow_kept hrow (fun k hk => by rw [← hw']; exact heap_set _ _ _ (fun e2 => hgo (by rw [hk, e2])))
    · rw [List.getElem?_set_ne c] at hv hfs
      have hr := h.row q' v fs hv hfs
      refine ownsRow_kept hr (fun k hk => hne k (World.ownsRow.lt hr k hk).2 (fun e2 => c (h.apart q q' u v k hu hv e2 hk)) (fun e2 => ?_))
      exact hbg.ne_row hr hk (by decide) e2.symm
  · intro q1 q2 v1 v2 k h1 h2 k1 k2
    by_cases c1 : q = q1 <;> by_cases c2 : q = q2
    · omega
    · subst c1
      rw [List.getElem?_set_self hql] at h1
      rw [List.getElem?_set_ne c2] at h2
      cases h1
      rcases hob with e2 | ⟨k', e2, hk⟩
      · rw [e2] at k1; exact h.apart q q2 u v2 k hu h2 k1 k2
      · rw [e2] at k1; cases k1
        have hl : q2 < ess.length := by rw [h.ness, ← h.nus]; exact getD_lt h2
        have := (World.ownsRow.lt (h.row q2 v2 _ h2 (List.getElem?_eq_getElem hl)) _ k2).2
        omega
    · subst c2
      rw [List.getElem?_set_ne c1] at h1
      rw [List.getElem?_set_self hql] at h2
      cases h2
      rcases hob with e2 | ⟨k', e2, hk⟩
      · rw [e2] at k2; exact h.apart q1 q v1 u k h1 hu k1 k2
      · rw [e2] at k2; cases k2
        have hl : q1 < ess.length := by rw [h.ness, ← h.nus]; exact getD_lt h1
        have := (World.ownsRow.lt (h.row q1 v1 _ h1 (List.getElem?_eq_getElem hl)) _ k1).2
        omega
    · rw [List.getElem?_set_ne c1] at h1
      rw [List.getElem?_set_ne c2] at h2
      exact h.apart q1 q2 v1 v2 k h1 h2 k1 k2
  · intro q' v k hv hk
    by_cases c : q = q'
    · subst c
      rw [List.getElem?_set_self hql] at hv
      cases hv
      rcases hob with e2 | ⟨k', e2, hk'⟩
      · rw [e2] at hk; exact h.brow q u k hu hk
      · rw [e2] at hk; cases hk; omega
    · rw [List.getElem?_set_ne c] at hv
      exact h.brow q' v k hv hk
end Go.Proofs.Ytgjeobmbfeinnaa
