/- Ledgers without memory: what is behind an operation may be. -/
import Derived.Test.YtflbcheofmljeaaPureC
namespace Go.Proofs.Ytflbcheofmljeaa
open Go.ChangeShapes Go.WideShapes Go.RowKit
set_option linter.unusedVariables false
set_option maxRecDepth 100000

theorem lens {L : Led} (hm : mayL L) : L.S.length ≤ 4096 ∧ L.H.length ≤ 4096 ∧ L.M.length ≤ 4096 := by
  have := hm.room; unfold room at this; omega
theorem mayH_at {L : Led} (hm : mayL L) {i : Nat} {x : Hld} (hx : L.H[i]? = some x) : okH i x ∧ x ∈ L.H := by
  obtain ⟨hi, e⟩ := List.getElem?_eq_some_iff.1 hx
  subst e
  exact ⟨hm.H i hi, List.getElem_mem hi⟩
/-- What is known of an operation of one movement. -/
structure One (L : Led) (o : Opn) : Prop where
  may : mayL (mvL L o.k o.sku o.loc o.qty 0)
  fit : (mvL L o.k o.sku o.loc o.qty 0).fit
  i : i64b ((findK L.S o.sku o.loc).on + o.qty)
theorem one_of {L : Led} (hm : mayL L) (hf : L.fit) {o : Opn} (ho : o.fit) (hn : name o.sku ∧ name o.loc) (hq : ¬ o.qty = 0) (hk : o.k = 1 ∨ o.k = 7) (h1 : i64b ((findK L.S o.sku o.loc).on + o.qty)) (h2 : (findK L.S o.sku o.loc).held ≤ (findK L.S o.sku o.loc).on + o.qty) (hr : room L (if hasK L.S o.sku o.loc then 0 else 1) 0 1) : One L o := by
  have hl := lens hm
  refine ⟨mayL_mv hm hn hq ?_ h2 ?_, mv_fit hf hm.S.2 h1 (by omega) ho.k ho.qty (by unfold i64b; omega), h1⟩
  · unfold cause; omega
  · rw [room_mv]
    unfold room at hr
    omega
theorem one_receive {L : Led} (hm : mayL L) (hf : L.fit) {o : Opn} (ho : o.fit) (h : o.may) (hk : o.k = 1) (he : errR L o = 0) : One L o := by
  obtain ⟨n1, n2, q⟩ := may1 h hk
  obtain ⟨h1, h2⟩ := errR_zero he
  have := find_ok hm o.sku o.loc
  exact one_of hm hf ho ⟨n1, n2⟩ (by omega) (.inl hk) h1 (by omega) h2
theorem one_adjust {L : Led} (hm : mayL L) (hf : L.fit) {o : Opn} (ho : o.fit) (h : o.may) (hk : o.k = 7) (he : errA L o = 0) : One L o := by
  obtain ⟨n1, n2, q⟩ := may7 h hk
  obtain ⟨h1, h2, h3⟩ := errA_zero he
  exact one_of hm hf ho ⟨n1, n2⟩ q (.inr hk) h1 h2 h3
structure HoldF (L : Led) (o : Opn) : Prop where
  may : mayL (holdL L o.sku o.loc o.qty o.due)
  fit : (holdL L o.sku o.loc o.qty o.due).fit
  i : i64b ((findK L.S o.sku o.loc).held + o.qty)
theorem hold_of {L : Led} (hm : mayL L) (hf : L.fit) {o : Opn} (ho : o.fit) (h : o.may) (hk : o.k = 2) (he : errH L o = 0) : HoldF L o := by
  obtain ⟨n1, n2, q, d⟩ := may2 h hk
  obtain ⟨h1, h2⟩ := errH_zero hm hf he
  have h3 := find_ok hm o.sku o.loc
  have h4 := (findK_fit hf.S o.sku o.loc).on
  have h5 : i64b ((findK L.S o.sku o.loc).held + o.qty) := by unfold i64b at *; omega
  have hl := lens hm
  exact ⟨mayL_hold hm ⟨n1, n2⟩ q d h1 h2, hold_fit hf hm.S.2 h5 (by omega) ho.qty ho.due, h5⟩
structure UpF (L : Led) (o : Opn) (st : Int) (x : Hld) : Prop where
  may : mayL (endL L (o.id - 1).toNat x st)
  fit : (endL L (o.id - 1).toNat x st).fit
  i : i64b ((findK L.S x.sku x.loc).held - x.qty)
  at' : L.H[(o.id - 1).toNat]? = some x
  id : o.id = ((o.id - 1).toNat : Int) + 1
  ok : okH (o.id - 1).toNat x
  xf : x.fit
  st0 : x.st = 0
theorem up_of {L : Led} (hm : mayL L) (hf : L.fit) {o : Opn} (hid : 1 ≤ o.id) {st : Int} (hst : st = 1 ∨ st = 2) {x : Hld} (hx : L.H[(o.id - 1).toNat]? = some x) (h0 : x.st = 0) : UpF L o st x := by
  obtain ⟨q1, q2⟩ := endL_may hm hx h0 hst
  obtain ⟨q3, q4⟩ := mayH_at hm hx
  have q5 := (findK_fit hf.S x.sku x.loc).held
  have q6 : 1 ≤ x.qty := q3.2.2.2.1
  refine ⟨q1, endL_fit hf hx q2 q6 hst hm.S.2, ?_, hx, by omega, q3, hf.H x q4, h0⟩
  unfold i64b at *; omega
structure OutF (L : Led) (o : Opn) (x : Hld) : Prop where
  up : UpF L o 1 x
  may : mayL (mvL (endL L (o.id - 1).toNat x 1) o.k x.sku x.loc (-x.qty) x.id)
  fit : (mvL (endL L (o.id - 1).toNat x 1) o.k x.sku x.loc (-x.qty) x.id).fit
  i : i64b ((findK (endL L (o.id - 1).toNat x 1).S x.sku x.loc).on + -x.qty)
theorem endL_find {L : Led} (hs : Rises L.S) (i : Nat) (x : Hld) (st : Int) : findK (endL L i x st).S x.sku x.loc = { findK L.S x.sku x.loc with held := (findK L.S x.sku x.loc).held + -x.qty } ∧ hasK (endL L i x st).S x.sku x.loc = true := by
  have hu : (endL L i x st).S = upd L.S { findK L.S x.sku x.loc with held := (findK L.S x.sku x.loc).held + -x.qty } := addHeld_upd _ _ _ _
  rw [hu]
  exact ⟨find_upd_same' hs _ _ _ (findK_key L.S x.sku x.loc).1 (findK_key L.S x.sku x.loc).2, (has_upd hs _ _ _).2 (.inr ⟨(findK_key L.S x.sku x.loc).1, (findK_key L.S x.sku x.loc).2⟩)⟩
theorem out_of {L : Led} (hm : mayL L) (hf : L.fit) {o : Opn} (ho : o.fit) (hid : 1 ≤ o.id) (hk : o.k = 3) {x : Hld} (hx : L.H[(o.id - 1).toNat]? = some x) (h0 : x.st = 0) (hr : room L 0 0 1) : OutF L o x := by
  have hu := up_of hm hf hid (.inl rfl) hx h0
  obtain ⟨f1, f2⟩ := endL_find hm.S.2 (o.id - 1).toNat x 1
  have hq := hu.ok.2.2.2.1
  have hl := lens hu.may
  have hl0 := lens hm
  have hok := find_ok hm x.sku x.loc
  have hi := (findK_fit hf.S x.sku x.loc).on
  have hxq := hu.xf.qty
  have h5 : i64b ((findK (endL L (o.id - 1).toNat x 1).S x.sku x.loc).on + -x.qty) := by
    rw [f1]; dsimp only
    have := hu.i
    unfold i64b at *; omega
  refine ⟨hu, mayL_mv hu.may ⟨hu.ok.2.1, hu.ok.2.2.1⟩ (by omega) ?_ ?_ ?_, mv_fit hu.fit hu.may.S.2 h5 (by omega) ho.k ?_ hu.xf.id, h5⟩
  · unfold cause; right; exact ⟨hk, by have := hu.ok.1; omega⟩
  · rw [f1]; dsimp only; omega
  · rw [room_mv, f2]
    unfold room at hr
    have e1 : (endL L (o.id - 1).toNat x 1).M = L.M := rfl
    rw [e1]
    simp only [if_true]
    omega
  · unfold i64b at *; omega
structure TraF (L : Led) (o : Opn) : Prop where
  may1 : mayL (mvL L o.k o.sku o.loc (-o.qty) 0)
  i1 : i64b ((findK L.S o.sku o.loc).on + -o.qty)
  i2 : i64b ((findK (mvL L o.k o.sku o.loc (-o.qty) 0).S o.sku o.to).on + o.qty)
  may : mayL (mvL (mvL L o.k o.sku o.loc (-o.qty) 0) o.k o.sku o.to o.qty 0)
  fit : (mvL (mvL L o.k o.sku o.loc (-o.qty) 0) o.k o.sku o.to o.qty 0).fit
  q : 1 ≤ o.qty
theorem tra_of {L : Led} (hm : mayL L) (hf : L.fit) {o : Opn} (ho : o.fit) (h : o.may) (hk : o.k = 6) (he : errT L o = 0) : TraF L o := by
  obtain ⟨n1, n2, n3, hne, q⟩ := may6 h hk
  obtain ⟨h1, h2, h3⟩ := errT_zero hm hf he
  have hh := has_of_free q h1
  have hok := find_ok hm o.sku o.loc
  have hok2 := find_ok hm o.sku o.to
  have hi := (findK_fit hf.S o.sku o.loc).on
  have hq := ho.qty
  have hl := lens hm
  have i1 : i64b ((findK L.S o.sku o.loc).on + -o.qty) := by unfold i64b at *; omega
  have hr1 : room (mvL L o.k o.sku o.loc (-o.qty) 0) 0 0 0 := by
    rw [room_mv, hh]; unfold room at h3; simp only [if_true]; omega
  have m1 : mayL (mvL L o.k o.sku o.loc (-o.qty) 0) := mayL_mv hm ⟨n1, n2⟩ (by omega) (by unfold cause; omega) (by omega) hr1
  have f1 : findK (mvL L o.k o.sku o.loc (-o.qty) 0).S o.sku o.to = findK L.S o.sku o.to := find_mv_other hm.S.2 _ _ _ _ _ (fun e => hne e.2)
  have b1 : hasK (mvL L o.k o.sku o.loc (-o.qty) 0).S o.sku o.to = hasK L.S o.sku o.to := by
    rw [mvL_S, Bool.eq_iff_iff, has_upd hm.S.2]
    dsimp only
    rw [(findK_key L.S o.sku o.loc).1, (findK_key L.S o.sku o.loc).2]
    exact ⟨fun e => e.elim id (fun e => absurd e.2 hne), .inl⟩
  have hl1 : (mvL L o.k o.sku o.loc (-o.qty) 0).S.length = L.S.length := by
    rw [mvL_S, upd_len]
    dsimp only
    rw [(findK_key L.S o.sku o.loc).1, (findK_key L.S o.sku o.loc).2, hh]
    simp
  have hl2 : (mvL L o.k o.sku o.loc (-o.qty) 0).M.length = L.M.length + 1 := by unfold mvL; simp
  have hl3 : (mvL L o.k o.sku o.loc (-o.qty) 0).H.length = L.H.length := rfl
  have ft : (mvL L o.k o.sku o.loc (-o.qty) 0).fit := mv_fit hf hm.S.2 i1 (by omega) ho.k (by unfold i64b at *; omega) (by unfold i64b; omega)
  have i2 : i64b ((findK (mvL L o.k o.sku o.loc (-o.qty) 0).S o.sku o.to).on + o.qty) := by rw [f1]; exact h2
  refine ⟨m1, i1, i2, mayL_mv m1 ⟨n1, n3⟩ (by omega) (by unfold cause; omega) (by rw [f1]; omega) ?_, mv_fit ft m1.S.2 i2 (by omega) ho.k ho.qty (by unfold i64b; omega), q⟩
  rw [room_mv, b1, hl1, hl2, hl3]
  unfold room at h3
  omega
end Go.Proofs.Ytflbcheofmljeaa
