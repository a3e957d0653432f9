/- What transfers and holds leave as it was, without memory. -/
import Derived.Test.YtbclddgicnaamaaLate
namespace Go.Proofs.Ytbclddgicnaamaa
open Go.ChangeShapes Go.WideShapes Go.RowKit
set_option linter.unusedVariables false
set_option maxRecDepth 100000

/-- All on hand of a sku. -/
def totOf (S : List Stk) (s : ByteArray) : List Int := (S.filter (fun x => decide (x.sku = s))).map (fun x => x.on)
theorem totOf_snoc (S : List Stk) (i : Nat) (hi : i < S.length) (s : ByteArray) : totOf (S.take (i + 1)) s = totOf (S.take i) s ++ (if S[i].sku = s then [S[i].on] else []) := by
  unfold totOf
  rw [List.take_succ_eq_append_getElem hi, List.filter_append, List.map_append]
  congr 1
  by_cases c : S[i].sku = s
  · rw [if_pos c]; simp [c]
  · rw [if_neg c, List.filter_cons_of_neg (by simpa using c)]; rfl
theorem totOf_le (S : List Stk) (s : ByteArray) : (totOf S s).length ≤ S.length := by unfold totOf; rw [List.length_map]; exact List.length_filter_le _ _
theorem totOf_fit {S : List Stk} (h : ∀ x, x ∈ S → x.fit) (s : ByteArray) : ∀ x, x ∈ totOf S s → i64b x := fun x hx => by
  unfold totOf at hx
  obtain ⟨y, hy, rfl⟩ := List.mem_map.1 hx
  exact (h y (List.mem_filter.1 hy).1).on
def tot (S : List Stk) (s : ByteArray) : Int := (totOf S s).sum
theorem tot_app (A B : List Stk) (s : ByteArray) : tot (A ++ B) s = tot A s + tot B s := by
  unfold tot totOf; rw [List.filter_append, List.map_append, List.sum_append]
theorem tot_cons (y : Stk) (B : List Stk) (s : ByteArray) : tot (y :: B) s = (if y.sku = s then y.on else 0) + tot B s := by
  unfold tot totOf
  by_cases c : y.sku = s
  · rw [if_pos c, List.filter_cons_of_pos (by simpa using c)]; simp
  · rw [if_neg c, List.filter_cons_of_neg (by simpa using c)]; simp
theorem tot_ins (l : List Stk) (p : Nat) (y : Stk) (s : ByteArray) : tot (insAt l p y) s = tot l s + (if y.sku = s then y.on else 0) := by
  unfold insAt
  rw [tot_app, tot_cons]
  have h : tot l s = tot (l.take p) s + tot (l.drop p) s := by rw [← tot_app, List.take_append_drop]
  omega
theorem tot_set (l : List Stk) (p : Nat) (hp : p < l.length) (y : Stk) (hk : y.sku = l[p].sku) (s : ByteArray) : tot (l.set p y) s = tot l s + (if y.sku = s then y.on - l[p].on else 0) := by
  rw [List.set_eq_take_append_cons_drop, if_pos hp, tot_app, tot_cons]
  have h : tot l s = tot (l.take p) s + ((if l[p].sku = s then l[p].on else 0) + tot (l.drop (p + 1)) s) := by
    rw [← tot_cons, ← tot_app, ← List.drop_eq_getElem_cons hp, List.take_append_drop]
  rw [h, ← hk]
  by_cases c : y.sku = s
  · rw [if_pos c, if_pos c, if_pos c]; omega
  · rw [if_neg c, if_neg c, if_neg c]; omega
theorem tot_upd {l : List Stk} (hs : Rises l) (y : Stk) (s : ByteArray) : tot (upd l y) s = tot l s + (if y.sku = s then y.on - (findK l y.sku y.loc).on else 0) := by
  by_cases h : hasK l y.sku y.loc = true
  · obtain ⟨hp, e⟩ := findK_yes hs h
    have hk := (findK_key l y.sku y.loc).1
    rw [e] at hk
    rw [upd_yes h, tot_set l _ hp y hk.symm s, e]
  · have h' : hasK l y.sku y.loc = false := by simpa using h
    rw [upd_no h', tot_ins, findK_no h']
    by_cases c : y.sku = s
    · rw [if_pos c, if_pos c]; simp
    · rw [if_neg c, if_neg c]
theorem tot_mv {L : Led} (hs : Rises L.S) (k : Int) (s t : ByteArray) (d h : Int) (u : ByteArray) : tot (mvL L k s t d h).S u = tot L.S u + (if s = u then d else 0) := by
  have hk := findK_key L.S s t
  rw [mvL_S, tot_upd hs]
  dsimp only
  rw [hk.1, hk.2]
  by_cases c : s = u
  · rw [if_pos c, if_pos c]; omega
  · rw [if_neg c, if_neg c]
theorem rises_mv {L : Led} (hs : Rises L.S) (k : Int) (s t : ByteArray) (d h : Int) : Rises (mvL L k s t d h).S := by
  rw [mvL_S]; exact upd_rises hs _
/-- A transfer leaves the sum of a sku as it was. -/
theorem tot_transfer {L : Led} (hm : mayL L) {o : Opn} (hk : o.k = 6) (s : ByteArray) : tot (doL L o).S s = tot L.S s := by
  have e1 : (doL L o).S = (chL L o).S := rfl
  have e2 : chL L o = mvL (mvL L o.k o.sku o.loc (-o.qty) 0) o.k o.sku o.to o.qty 0 := by unfold chL; rw [hk]; rfl
  rw [e1, e2, tot_mv (rises_mv hm.S.2 _ _ _ _ _), tot_mv hm.S.2]
  by_cases c : o.sku = s
  · rw [if_pos c, if_pos c]; omega
  · rw [if_neg c, if_neg c]; omega
/-- Stocks with the same keys and the same on hand. -/
def SameOn (l l' : List Stk) : Prop := l'.map (fun x => (x.sku, x.loc, x.on)) = l.map (fun x => (x.sku, x.loc, x.on))
theorem SameOn.refl (l : List Stk) : SameOn l l := rfl
theorem SameOn.trans {a b c : List Stk} (h : SameOn a b) (k : SameOn b c) : SameOn a c := Eq.trans k h
theorem SameOn.len {l l' : List Stk} (h : SameOn l l') : l'.length = l.length := by have := congrArg List.length h; simpa using this
theorem SameOn.on {l l' : List Stk} (h : SameOn l l') (i : Nat) (h1 : i < l.length) (h2 : i < l'.length) : l'[i].on = l[i].on := by
  have := congrArg (fun q => q[i]?) h
  simp only [List.getElem?_map, List.getElem?_eq_getElem h1, List.getElem?_eq_getElem h2, Option.map_some, Option.some.injEq, Prod.mk.injEq] at this
  exact this.2.2
theorem held_same {l : List Stk} (hs : Rises l) {s t : ByteArray} (h : hasK l s t = true) (d : Int) : SameOn l (addHeld l s t d) := by
  obtain ⟨hp, e⟩ := findK_yes hs h
  have hk := findK_key l s t
  rw [addHeld_upd, upd_yes (by dsimp only; rw [hk.1, hk.2]; exact h)]
  dsimp only
  rw [hk.1, hk.2]
  unfold SameOn
  rw [List.map_set]
  refine List.ext_getElem? (fun i => ?_)
  by_cases c : posK l s t = i
  · subst c
    rw [List.getElem?_set_self (by simpa using hp), List.getElem?_map, List.getElem?_eq_getElem hp, Option.map_some, ← e, hk.1, hk.2]
  · rw [List.getElem?_set_ne c]
theorem end_same {L : Led} (hm : mayL L) {i : Nat} {x : Hld} (hx : L.H[i]? = some x) (h0 : x.st = 0) (st : Int) : SameOn L.S (endL L i x st).S :=
  held_same hm.S.2 (hm.ag.1 x (List.mem_of_getElem? hx) h0) _
theorem exp_same {L : Led} (hm : mayL L) (due : Int) (i : Nat) : SameOn L.S (expL L due i).S := by
  induction i with
  | zero => exact SameOn.refl _
  | succ i ih =>
    unfold expL
    split
    · rename_i x hx
      split
      · rename_i hd
        exact ih.trans (end_same (expL_may hm due i) hx hd.1 2)
      · exact ih
    · exact ih
theorem hold_same {L : Led} (hm : mayL L) (hf : L.fit) {o : Opn} (h : doE L o = 0) (hk : o.k = 2 ∨ o.k = 4 ∨ o.k = 5) : SameOn L.S (doL L o).S ∧ (doL L o).M = L.M := by
  obtain ⟨h1, he, h3⟩ := do_zero h
  have e0 : (doL L o).S = (chL L o).S := rfl
  have e0' : (doL L o).M = (chL L o).M := rfl
  rw [e0, e0']
  rcases hk with k | k | k
  · have e1 : errOf L o = errH L o := by unfold errOf; rw [k]; rfl
    rw [e1] at he
    have h4 := errH_zero hm hf he
    have h5 := may2 h1 k
    have e2 : chL L o = holdL L o.sku o.loc o.qty o.due := by unfold chL; rw [k]; rfl
    rw [e2]
    exact ⟨held_same hm.S.2 (has_of_free h5.2.2.1 h4.1) _, rfl⟩
  · have e1 : errOf L o = errU L o := by unfold errOf; rw [k]; rfl
    rw [e1] at he
    obtain ⟨x, hx, h0⟩ := errU_zero he
    have e2 : chL L o = endL L (o.id - 1).toNat x 2 := by unfold chL; rw [k, hx]; rfl
    rw [e2]
    exact ⟨end_same hm hx h0 2, rfl⟩
  · have e2 : chL L o = expL L o.due L.H.length := by unfold chL; rw [k]; rfl
    rw [e2]
    exact ⟨exp_same hm _ _, (expL_kept L _ _).2⟩
end Go.Proofs.Ytbclddgicnaamaa
