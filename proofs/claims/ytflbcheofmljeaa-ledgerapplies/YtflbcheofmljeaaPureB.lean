/- Ledgers without memory: one that may be is one that may be behind each change. -/
import Derived.Test.YtflbcheofmljeaaPureA
namespace Go.Proofs.Ytflbcheofmljeaa
open Go.ChangeShapes Go.WideShapes Go.RowKit
set_option linter.unusedVariables false
set_option maxRecDepth 100000

theorem sum_held {L : Led} (h : mayL L) (s t : ByteArray) : (heldOf L.H s t).sum = (findK L.S s t).held := by
  cases hk : hasK L.S s t with
  | true =>
    have := (h.ag.2.2 _ (findK_mem hk)).1
    rw [(findK_key L.S s t).1, (findK_key L.S s t).2] at this
    exact this
  | false =>
    rw [findK_no hk]
    have : heldOf L.H s t = [] := by
      unfold heldOf
      rw [List.map_eq_nil_iff, List.filter_eq_nil_iff]
      intro x hx q
      have q' := of_decide_eq_true q
      have := h.ag.1 x hx q'.1
      rw [q'.2.1, q'.2.2, hk] at this
      cases this
    rw [this]
    rfl
theorem sum_moved {L : Led} (h : mayL L) (s t : ByteArray) : (movedOf L.M s t).sum = (findK L.S s t).on := by
  cases hk : hasK L.S s t with
  | true =>
    have := (h.ag.2.2 _ (findK_mem hk)).2
    rw [(findK_key L.S s t).1, (findK_key L.S s t).2] at this
    exact this
  | false =>
    rw [findK_no hk]
    have : movedOf L.M s t = [] := by
      unfold movedOf
      rw [List.map_eq_nil_iff, List.filter_eq_nil_iff]
      intro x hx q
      have q' := of_decide_eq_true q
      have := h.ag.2.1 x hx
      rw [q'.1, q'.2, hk] at this
      cases this
    rw [this]
    rfl
theorem find_ok {L : Led} (h : mayL L) (s t : ByteArray) : 0 ≤ (findK L.S s t).held ∧ (findK L.S s t).held ≤ (findK L.S s t).on := by
  cases hk : hasK L.S s t with
  | true => exact (h.S.1 _ (findK_mem hk)).2.2
  | false => rw [findK_no hk]; exact ⟨Int.le_refl _, Int.le_refl _⟩
/-- Stocks behind a change of one of them. -/
theorem mayS_upd {l : List Stk} (h : mayS l) {y : Stk} (hy : okS y) : mayS (upd l y) := by
  refine ⟨fun x hx => ?_, upd_rises h.2 y⟩
  rcases (upd_mem h.2).1 hx with q | ⟨q, _⟩
  · rw [q]; exact hy
  · exact h.1 x q
theorem mayL_mv {L : Led} (h : mayL L) {kind : Int} {sku loc : ByteArray} {d hold : Int} (hn : name sku ∧ name loc) (hd : ¬ d = 0) (hc : cause kind hold) (h1 : (findK L.S sku loc).held ≤ (findK L.S sku loc).on + d) (hr : room (mvL L kind sku loc d hold) 0 0 0) : mayL (mvL L kind sku loc d hold) := by
  have hkey := findK_key L.S sku loc
  have hy : okS { findK L.S sku loc with on := (findK L.S sku loc).on + d } := ⟨by show name (findK L.S sku loc).sku; rw [hkey.1]; exact hn.1, by show name (findK L.S sku loc).loc; rw [hkey.2]; exact hn.2, (find_ok h sku loc).1, h1⟩
  have hu : (mvL L kind sku loc d hold).S = upd L.S { findK L.S sku loc with on := (findK L.S sku loc).on + d } := addOn_upd _ _ _ _
  have hM : (mvL L kind sku loc d hold).M = L.M ++ [⟨(L.M.length : Int) + 1, sku, loc, d, kind, hold⟩] := rfl
  refine ⟨h.ops, hr, by rw [hu]; exact mayS_upd h.S hy, h.H, ?_, ?_, ?_, ?_⟩
  · rw [hM]
    intro i hi
    rw [List.getElem_append]
    split
    · rename_i q; exact h.M i q
    · rename_i q
      rw [List.length_append, List.length_singleton] at hi
      have : i = L.M.length := by omega
      subst this
      simp only [Nat.sub_self, List.getElem_cons_zero]
      exact ⟨rfl, hn.1, hn.2, hd, hc⟩
  · intro x hx h0
    rw [hu, has_upd h.S.2]
    exact .inl (h.ag.1 x hx h0)
  · intro m hm
    rw [hu, has_upd h.S.2]
    rw [hM, List.mem_append, List.mem_singleton] at hm
    rcases hm with hm | rfl
    · exact .inl (h.ag.2.1 m hm)
    · exact .inr hkey
  · intro x hx
    rw [hu] at hx
    rw [hM, movedOf_app]
    rcases (upd_mem h.S.2).1 hx with rfl | ⟨q, hne⟩
    · dsimp only
      rw [hkey.1, hkey.2, if_pos ⟨rfl, rfl⟩]
      refine ⟨sum_held h sku loc, ?_⟩
      rw [List.sum_append, sum_moved h sku loc]
      simp
    · dsimp only at hne
      rw [hkey.1, hkey.2] at hne
      rw [if_neg (fun e => hne ⟨e.1.symm, e.2.symm⟩), List.append_nil]
      exact h.ag.2.2 x q
/-- A hold in another state. -/
theorem mayL_end {L : Led} (h : mayL L) {i : Nat} {x : Hld} (hx : L.H[i]? = some x) (h0 : x.st = 0) {st : Int} (hst : st = 1 ∨ st = 2) : mayL { L with S := addHeld L.S x.sku x.loc (-x.qty), H := L.H.set i { x with st := st } } ∧ 0 ≤ (findK L.S x.sku x.loc).held - x.qty := by
  have hil : i < L.H.length := (List.getElem?_eq_some_iff.1 hx).1
  have hxe : L.H[i] = x := (List.getElem?_eq_some_iff.1 hx).2
  have hxm : x ∈ L.H := hxe ▸ List.getElem_mem hil
  have hkey := findK_key L.S x.sku x.loc
  have hhas := h.ag.1 x hxm h0
  have hnn : ∀ (H : List Hld) (s t : ByteArray), (∀ y, y ∈ H → 1 ≤ y.qty) → 0 ≤ (heldOf H s t).sum := fun H s t => by
    induction H with
    | nil => intro _; exact Int.le_refl _
    | cons m r ih =>
      intro q
      have := ih (fun y hy => q y (List.mem_cons_of_mem _ hy))
      have := q m (List.mem_cons_self ..)
      rw [heldOf_cons]
      split <;> omega
  have hqty : ∀ y, y ∈ L.H.set i { x with st := st } → 1 ≤ y.qty := fun y hy => by
    obtain ⟨j, hj, rfl⟩ := List.getElem_of_mem hy
    rw [List.length_set] at hj
    rw [List.getElem_set]
    split
    · exact hxe ▸ (h.H i hil).2.2.2.1
    · exact (h.H j hj).2.2.2.1
  have hset := heldOf_set L.H i x hx h0 st (by omega)
  have hge : 0 ≤ (findK L.S x.sku x.loc).held - x.qty := by
    have h1 := hnn (L.H.set i { x with st := st }) x.sku x.loc hqty
    rw [hset, sum_held h, if_pos ⟨rfl, rfl⟩] at h1
    exact h1
  have hq1 : 1 ≤ x.qty := hxe ▸ (h.H i hil).2.2.2.1
  have hok := find_ok h x.sku x.loc
  have hu : addHeld L.S x.sku x.loc (-x.qty) = upd L.S { findK L.S x.sku x.loc with held := (findK L.S x.sku x.loc).held + -x.qty } := addHeld_upd _ _ _ _
  have hfo := h.S.1 _ (findK_mem hhas)
  have hy : okS { findK L.S x.sku x.loc with held := (findK L.S x.sku x.loc).held + -x.qty } := ⟨hfo.1, hfo.2.1, by show 0 ≤ _ + -x.qty; omega, by show _ + -x.qty ≤ (findK L.S x.sku x.loc).on; omega⟩
  refine ⟨⟨h.ops, ?_, by rw [hu]; exact mayS_upd h.S hy, ?_, h.M, ?_, ?_, ?_⟩, hge⟩
  · have hrm := h.room
    unfold room at *
    dsimp only
    rw [hu, upd_len, List.length_set]
    dsimp only
    rw [hkey.1, hkey.2, hhas]
    simpa using hrm
  · intro j hj
    dsimp only at hj ⊢
    rw [List.length_set] at hj
    rw [List.getElem_set]
    split
    · rename_i e
      subst e
      have := h.H i hil
      rw [hxe] at this
      exact ⟨this.1, this.2.1, this.2.2.1, this.2.2.2.1, this.2.2.2.2.1, by show 0 ≤ st; omega, by show st ≤ 2; omega⟩
    · exact h.H j hj
  · intro y hy' hy0
    show hasK (addHeld L.S x.sku x.loc (-x.qty)) y.sku y.loc = true
    rw [hu, has_upd h.S.2]
    obtain ⟨j, hj, rfl⟩ := List.getElem_of_mem hy'
    rw [List.length_set] at hj
    rw [List.getElem_set] at hy0 ⊢
    split at hy0
    · exact absurd hy0 (by show ¬ st = 0; omega)
    · rename_i q
      rw [if_neg q]
      exact .inl (h.ag.1 _ (List.getElem_mem hj) hy0)
  · intro m hm
    show hasK (addHeld L.S x.sku x.loc (-x.qty)) m.sku m.loc = true
    rw [hu, has_upd h.S.2]
    exact .inl (h.ag.2.1 m hm)
  · intro y hy'
    have hy2 : y ∈ upd L.S { findK L.S x.sku x.loc with held := (findK L.S x.sku x.loc).held + -x.qty } := hu ▸ hy'
    show (heldOf (L.H.set i { x with st := st }) y.sku y.loc).sum = y.held ∧ (movedOf L.M y.sku y.loc).sum = y.on
    rw [hset]
    rcases (upd_mem h.S.2).1 hy2 with rfl | ⟨q, hne⟩
    · dsimp only
      rw [hkey.1, hkey.2, if_pos ⟨rfl, rfl⟩, sum_held h]
      exact ⟨by omega, sum_moved h _ _⟩
    · dsimp only at hne
      rw [hkey.1, hkey.2] at hne
      rw [if_neg (fun e => hne ⟨e.1.symm, e.2.symm⟩)]
      have := h.ag.2.2 y q
      exact ⟨by omega, this.2⟩
/-- A hold more. -/
def holdL (L : Led) (sku loc : ByteArray) (qty due : Int) : Led := { L with S := addHeld L.S sku loc qty, H := L.H ++ [⟨(L.H.length : Int) + 1, sku, loc, qty, 0, due⟩] }
theorem mayL_hold {L : Led} (h : mayL L) {sku loc : ByteArray} {qty due : Int} (hn : name sku ∧ name loc) (hq : 1 ≤ qty) (hd : 0 ≤ due) (hf : qty ≤ (findK L.S sku loc).on - (findK L.S sku loc).held) (hr : (L.H.length : Int) + 1 ≤ 4096) : mayL (holdL L sku loc qty due) := by
  have hkey := findK_key L.S sku loc
  have hok := find_ok h sku loc
  have hhas : hasK L.S sku loc = true := by
    cases hk : hasK L.S sku loc with
    | true => rfl
    | false => rw [findK_no hk] at hf; simp at hf; omega
  have hu : (holdL L sku loc qty due).S = upd L.S { findK L.S sku loc with held := (findK L.S sku loc).held + qty } := addHeld_upd _ _ _ _
  have hH : (holdL L sku loc qty due).H = L.H ++ [⟨(L.H.length : Int) + 1, sku, loc, qty, 0, due⟩] := rfl
  have hy : okS { findK L.S sku loc with held := (findK L.S sku loc).held + qty } := ⟨by show name (findK L.S sku loc).sku; rw [hkey.1]; exact hn.1, by show name (findK L.S sku loc).loc; rw [hkey.2]; exact hn.2, by show 0 ≤ (findK L.S sku loc).held + qty; omega, by show (findK L.S sku loc).held + qty ≤ (findK L.S sku loc).on; omega⟩
  refine ⟨h.ops, ?_, by rw [hu]; exact mayS_upd h.S hy, ?_, h.M, ?_, ?_, ?_⟩
  · have hrm := h.room
    unfold room at *
    rw [hu, hH, upd_len, List.length_append]
    dsimp only
    rw [hkey.1, hkey.2, hhas]
    refine ⟨by simpa using hrm.1, by simpa using hr, hrm.2.2⟩
  · rw [hH]
    intro i hi
    rw [List.getElem_append]
    split
    · rename_i q; exact h.H i q
    · rename_i q
      rw [List.length_append, List.length_singleton] at hi
      have : i = L.H.length := by omega
      subst this
      simp only [Nat.sub_self, List.getElem_cons_zero]
      exact ⟨rfl, hn.1, hn.2, hq, hd, by show (0 : Int) ≤ 0; omega, by show (0 : Int) ≤ 2; omega⟩
  · intro y hy' h0
    rw [hu, has_upd h.S.2]
    rw [hH, List.mem_append, List.mem_singleton] at hy'
    rcases hy' with hy' | rfl
    · exact .inl (h.ag.1 y hy' h0)
    · exact .inl hhas
  · intro m hm
    rw [hu, has_upd h.S.2]
    exact .inl (h.ag.2.1 m hm)
  · intro y hy'
    rw [hu] at hy'
    rw [hH, heldOf_app]
    rcases (upd_mem h.S.2).1 hy' with rfl | ⟨q, hne⟩
    · dsimp only
      rw [hkey.1, hkey.2, if_pos ⟨rfl, rfl, rfl⟩]
      refine ⟨?_, sum_moved h sku loc⟩
      rw [List.sum_append, sum_held h sku loc]
      simp
    · dsimp only at hne
      rw [hkey.1, hkey.2] at hne
      rw [if_neg (fun e => hne ⟨e.2.1.symm, e.2.2.symm⟩), List.append_nil]
      exact h.ag.2.2 y q
end Go.Proofs.Ytflbcheofmljeaa
