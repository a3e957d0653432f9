/- Ledgers without memory: stocks with one of them another one. -/
import Derived.Test.YtflbcheofmljeaaMove
namespace Go.Proofs.Ytflbcheofmljeaa
open Go.ChangeShapes Go.WideShapes Go.RowKit
set_option linter.unusedVariables false
set_option maxRecDepth 100000

/-- Stocks with one of them another one. -/
def upd (l : List Stk) (y : Stk) : List Stk := (ens l y.sku y.loc).set (posK l y.sku y.loc) y
theorem addOn_upd (l : List Stk) (sku loc : ByteArray) (d : Int) : addOn l sku loc d = upd l { findK l sku loc with on := (findK l sku loc).on + d } := by
  have := findK_key l sku loc
  unfold addOn upd
  dsimp only
  rw [this.1, this.2]
theorem addHeld_upd (l : List Stk) (sku loc : ByteArray) (d : Int) : addHeld l sku loc d = upd l { findK l sku loc with held := (findK l sku loc).held + d } := by
  have := findK_key l sku loc
  unfold addHeld upd
  dsimp only
  rw [this.1, this.2]
theorem upd_no {l : List Stk} {y : Stk} (h : hasK l y.sku y.loc = false) : upd l y = insAt l (posK l y.sku y.loc) y := by
  unfold upd ens
  rw [h]
  simp only [Bool.false_eq_true, if_false]
  unfold insAt
  have hk : posK l y.sku y.loc = (l.take (posK l y.sku y.loc)).length := by rw [List.length_take, Nat.min_eq_left (posK_le _ _ _)]
  rw [List.set_append, if_neg (by omega), show posK l y.sku y.loc - (l.take (posK l y.sku y.loc)).length = 0 by omega]
  rfl
theorem upd_yes {l : List Stk} {y : Stk} (h : hasK l y.sku y.loc = true) : upd l y = l.set (posK l y.sku y.loc) y := by
  unfold upd ens
  rw [h]
  rfl
theorem hasK_mem {l : List Stk} {sku loc : ByteArray} : hasK l sku loc = true ↔ ∃ x, x ∈ l ∧ x.sku = sku ∧ x.loc = loc := by
  unfold hasK
  rw [List.any_eq_true]
  exact ⟨fun ⟨x, hx, e⟩ => ⟨x, hx, of_decide_eq_true e⟩, fun ⟨x, hx, e⟩ => ⟨x, hx, decide_eq_true e⟩⟩
theorem upd_mem {l : List Stk} (hs : Rises l) {y x : Stk} : x ∈ upd l y ↔ x = y ∨ (x ∈ l ∧ ¬ (x.sku = y.sku ∧ x.loc = y.loc)) := by
  cases hk : hasK l y.sku y.loc with
  | false =>
    rw [upd_no hk]
    unfold insAt
    rw [List.mem_append, List.mem_cons]
    constructor
    · rintro (h | h | h)
      · exact .inr ⟨List.mem_of_mem_take h, fun e => by rw [hasK_mem.2 ⟨x, List.mem_of_mem_take h, e⟩] at hk; cases hk⟩
      · exact .inl h
      · exact .inr ⟨List.mem_of_mem_drop h, fun e => by rw [hasK_mem.2 ⟨x, List.mem_of_mem_drop h, e⟩] at hk; cases hk⟩
    · rintro (h | ⟨h, _⟩)
      · exact .inr (.inl h)
      · rw [← List.take_append_drop (posK l y.sku y.loc) l, List.mem_append] at h
        exact h.imp id .inr
  | true =>
    rw [upd_yes hk]
    obtain ⟨hp, e⟩ := (hasK_iff hs y.sku y.loc).1 hk
    constructor
    · intro h
      obtain ⟨i, hi, rfl⟩ := List.getElem_of_mem h
      rw [List.getElem_set]
      split
      · exact .inl rfl
      · rename_i hne
        rw [List.length_set] at hi
        exact .inr ⟨List.getElem_mem hi, fun q => hne (posK_of hs hi q)⟩
    · rintro (rfl | ⟨h, hne⟩)
      · exact List.mem_set hp _
      · obtain ⟨i, hi, rfl⟩ := List.getElem_of_mem h
        have hik : posK l y.sku y.loc ≠ i := fun q => hne (by subst q; exact e)
        have : (l.set (posK l y.sku y.loc) y)[i]'(by rw [List.length_set]; exact hi) = l[i] := by rw [List.getElem_set, if_neg hik]
        rw [← this]
        exact List.getElem_mem _
theorem rises_keys {l l' : List Stk} (h : l.map (fun x => (x.sku, x.loc)) = l'.map (fun x => (x.sku, x.loc))) (hs : Rises l) : Rises l' := by
  unfold Rises at *
  have e : ∀ l : List Stk, l.Pairwise (fun a b => cmpK a.sku a.loc b.sku b.loc = -1) ↔ (l.map (fun x => (x.sku, x.loc))).Pairwise (fun a b => cmpK a.1 a.2 b.1 b.2 = -1) := fun l => by
    rw [List.pairwise_map]
  rw [e, ← h, ← e]
  exact hs
theorem upd_rises {l : List Stk} (hs : Rises l) (y : Stk) : Rises (upd l y) := by
  cases hk : hasK l y.sku y.loc with
  | true =>
    rw [upd_yes hk]
    obtain ⟨hp, e⟩ := (hasK_iff hs y.sku y.loc).1 hk
    refine rises_keys ?_ hs
    rw [List.map_set]
    apply List.ext_getElem
    · simp
    · intro i h1 h2
      rw [List.getElem_set]
      split
      · rename_i q
        subst q
        simp [e.1, e.2]
      · rfl
  | false =>
    rw [upd_no hk]
    unfold insAt Rises
    have hno : ∀ i (h : i < l.length), ¬ cmpK l[i].sku l[i].loc y.sku y.loc = 0 := fun i h q => by
      rw [hasK_mem.2 ⟨_, List.getElem_mem h, cmpK_zero.1 q⟩] at hk
      cases hk
    have hsp := List.pairwise_iff_getElem.1 hs
    have hlt : ∀ a, a ∈ l.take (posK l y.sku y.loc) → cmpK a.sku a.loc y.sku y.loc = -1 := fun a ha => by
      obtain ⟨i, hi, rfl⟩ := List.getElem_of_mem ha
      rw [List.length_take] at hi
      rw [List.getElem_take]
      exact posK_lt l y.sku y.loc i (by omega) (by omega)
    have hgt : ∀ a, a ∈ l.drop (posK l y.sku y.loc) → cmpK y.sku y.loc a.sku a.loc = -1 := fun a ha => by
      obtain ⟨i, hi, rfl⟩ := List.getElem_of_mem ha
      rw [List.length_drop] at hi
      rw [List.getElem_drop]
      have h1 := posK_ge l hs y.sku y.loc (posK l y.sku y.loc + i) (by omega) (by omega)
      have h2 := hno (posK l y.sku y.loc + i) (by omega)
      have h3 := cmpK_turn y.sku y.loc l[posK l y.sku y.loc + i].sku l[posK l y.sku y.loc + i].loc
      rcases cmpK_range l[posK l y.sku y.loc + i].sku l[posK l y.sku y.loc + i].loc y.sku y.loc with q | q | q
      · exact absurd q h1
      · exact absurd q h2
      · omega
    rw [List.pairwise_append]
    refine ⟨List.Pairwise.sublist (List.take_sublist _ _) hs, List.pairwise_cons.2 ⟨hgt, List.Pairwise.sublist (List.drop_sublist _ _) hs⟩, fun a ha b hb => ?_⟩
    rcases List.mem_cons.1 hb with rfl | hb
    · exact hlt a ha
    · exact cmpK_through (hlt a ha) (hgt b hb)
theorem find_of {l : List Stk} (hs : Rises l) {x : Stk} (hx : x ∈ l) : findK l x.sku x.loc = x := by
  obtain ⟨hp, e⟩ := findK_yes hs (hasK_mem.2 ⟨x, hx, rfl, rfl⟩)
  obtain ⟨i, hi, rfl⟩ := List.getElem_of_mem hx
  have := posK_of hs hi (sku := l[i].sku) (loc := l[i].loc) ⟨rfl, rfl⟩
  rw [e]
  simp only [this]
theorem find_upd_same {l : List Stk} (hs : Rises l) (y : Stk) : findK (upd l y) y.sku y.loc = y := find_of (upd_rises hs y) ((upd_mem hs).2 (.inl rfl))
theorem has_upd {l : List Stk} (hs : Rises l) (y : Stk) (s t : ByteArray) : hasK (upd l y) s t = true ↔ hasK l s t = true ∨ (y.sku = s ∧ y.loc = t) := by
  rw [hasK_mem, hasK_mem]
  constructor
  · rintro ⟨x, hx, e⟩
    rcases (upd_mem hs).1 hx with rfl | ⟨h, _⟩
    · exact .inr e
    · exact .inl ⟨x, h, e⟩
  · rintro (⟨x, hx, e⟩ | e)
    · by_cases c : x.sku = y.sku ∧ x.loc = y.loc
      · exact ⟨y, (upd_mem hs).2 (.inl rfl), c.1 ▸ e.1, c.2 ▸ e.2⟩
      · exact ⟨x, (upd_mem hs).2 (.inr ⟨hx, c⟩), e⟩
    · exact ⟨y, (upd_mem hs).2 (.inl rfl), e⟩
theorem find_upd_other {l : List Stk} (hs : Rises l) (y : Stk) {s t : ByteArray} (h : ¬ (y.sku = s ∧ y.loc = t)) : findK (upd l y) s t = findK l s t := by
  cases hk : hasK l s t with
  | true =>
    have hm := findK_mem hk
    have hkey := findK_key l s t
    have := find_of (upd_rises hs y) ((upd_mem hs).2 (.inr ⟨hm, fun q => h ⟨by rw [← q.1, hkey.1], by rw [← q.2, hkey.2]⟩⟩))
    rw [hkey.1, hkey.2] at this
    exact this
  | false =>
    rw [findK_no hk]
    have : hasK (upd l y) s t = false := by
      cases q : hasK (upd l y) s t with
      | false => rfl
      | true =>
        rcases (has_upd hs y s t).1 q with q | q
        · rw [hk] at q; cases q
        · exact absurd q h
    exact findK_no this
theorem upd_len {l : List Stk} (y : Stk) : (upd l y).length = l.length + (if hasK l y.sku y.loc then 0 else 1) := by
  unfold upd
  rw [List.length_set]
  exact ens_len _ _ _

theorem movedOf_app (M : List Mov) (m : Mov) (s t : ByteArray) : movedOf (M ++ [m]) s t = movedOf M s t ++ (if m.sku = s ∧ m.loc = t then [m.delta] else []) := by
  unfold movedOf
  rw [List.filter_append, List.map_append]
  congr 1
  by_cases c : m.sku = s ∧ m.loc = t
  · rw [if_pos c]; simp [c]
  · rw [if_neg c, List.filter_cons_of_neg (by simpa using c)]; rfl
theorem heldOf_app (H : List Hld) (m : Hld) (s t : ByteArray) : heldOf (H ++ [m]) s t = heldOf H s t ++ (if m.st = 0 ∧ m.sku = s ∧ m.loc = t then [m.qty] else []) := by
  unfold heldOf
  rw [List.filter_append, List.map_append]
  congr 1
  by_cases c : m.st = 0 ∧ m.sku = s ∧ m.loc = t
  · rw [if_pos c]; simp [c]
  · rw [if_neg c, List.filter_cons_of_neg (by simpa using c)]; rfl
theorem heldOf_cons (m : Hld) (H : List Hld) (s t : ByteArray) : (heldOf (m :: H) s t).sum = (if m.st = 0 ∧ m.sku = s ∧ m.loc = t then m.qty else 0) + (heldOf H s t).sum := by
  unfold heldOf
  by_cases c : m.st = 0 ∧ m.sku = s ∧ m.loc = t
  · rw [if_pos c, List.filter_cons_of_pos (by simpa using c)]; simp
  · rw [if_neg c, List.filter_cons_of_neg (by simpa using c)]; simp
theorem heldOf_set (H : List Hld) (i : Nat) (x : Hld) (hx : H[i]? = some x) (h0 : x.st = 0) (st : Int) (hst : ¬ st = 0) (s t : ByteArray) : (heldOf (H.set i { x with st := st }) s t).sum = (heldOf H s t).sum - (if x.sku = s ∧ x.loc = t then x.qty else 0) := by
  induction H generalizing i with
  | nil => cases hx
  | cons m r ih =>
    cases i with
    | zero =>
      cases hx
      rw [List.set_cons_zero, heldOf_cons, heldOf_cons, if_neg (fun q => hst q.1)]
      by_cases c : x.sku = s ∧ x.loc = t
      · rw [if_pos ⟨h0, c⟩, if_pos c]; omega
      · rw [if_neg (fun q => c q.2), if_neg c]; omega
    | succ i =>
      rw [List.set_cons_succ, heldOf_cons, heldOf_cons, ih i hx]
      omega
end Go.Proofs.Ytflbcheofmljeaa
