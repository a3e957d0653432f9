/- The document's ledger: does, full; what Step says, without memory. The document's ledger: lists that are too long, without memory. The document's ledger: Step, what is refused. The document's ledger: Step. The document's ledger: Step, of a ledger that may be. The document's ledger: Replay, from nothing. The document's ledger: Same, of ledgers that are the same. LedgerReplays: the walk. -/
import Derived.Test.YtflbcheofmljeaaG3
import Derived.Test.YtflbcheofmljeaaG5
import Derived.Test.YtflbcheofmljeaaG6
import Derived.Deep.DeepCutAuto
import Derived.Test.YtflbcheofmljeaaLate
namespace Go.Proofs.Ytflbcheofmljeaa
open Go.ChangeShapes Go.WideShapes Go.RowKit
set_option linter.unusedVariables false
set_option maxRecDepth 100000

theorem rdoes_is {w : World} {a0 : Option Addr} {n0 c0 : Nat} {a1 : Option Addr} {n1 c1 : Nat} {a2 : Option Addr} {n2 c2 : Nat} {L : Led} (h : RArgs w a0 n0 c0 a1 n1 c1 a2 n2 c2 L) (hm : mayL L) (hf : L.fit) (o : Opn) (ho : o.fit) (hom : o.may) :
    Calls Try.prog 28 #[.agg #[.slice a0 n0 c0, .slice a1 n1 c1, .slice a2 n2 c2, .int .i64 L.ops], oval o] w fun e w' => LeP a0 a1 a2 L w w' (rL L o) (rE L o) e := by
  have hq := ho.qty
  rcases kinds hom with k | k | k | k | k | k | k
  · obtain ⟨ok, s, l, t, q, i, d⟩ := o
    subst k
    exact rdoes_k1 h hm hf s l t q i d hq
  · have h1 := may2 hom k
    obtain ⟨ok, s, l, t, q, i, d⟩ := o
    subst k
    exact rdoes_k2 h hm hf s l t q i d hq h1.2.2.1
  · have h1 := may34 hom (.inl k)
    obtain ⟨ok, s, l, t, q, i, d⟩ := o
    subst k
    exact rdoes_k3 h hm hf s l t q i d h1
  · have h1 := may34 hom (.inr k)
    obtain ⟨ok, s, l, t, q, i, d⟩ := o
    subst k
    exact rdoes_k4 h hm hf s l t q i d h1
  · obtain ⟨ok, s, l, t, q, i, d⟩ := o
    subst k
    exact rdoes_k5 h hm hf s l t q i d
  · have h1 := may6 hom k
    obtain ⟨ok, s, l, t, q, i, d⟩ := o
    subst k
    exact rdoes_k6 h hm hf s l t q i d hq h1.2.2.2.2 h1.2.2.2.1
  · obtain ⟨ok, s, l, t, q, i, d⟩ := o
    subst k
    exact rdoes_k7 h hm hf s l t q i d hq
theorem rfull_is (a0 : Option Addr) (n0 c0 : Nat) (a1 : Option Addr) (n1 c1 : Nat) (a2 : Option Addr) (n2 c2 : Nat) (ops : Int) (w : World) :
    Calls Try.prog 29 #[.agg #[.slice a0 n0 c0, .slice a1 n1 c1, .slice a2 n2 c2, .int .i64 ops]] w fun e w' => e = .returned (.bool (decide (¬ room3 n0 n1 n2 0 0 0))) ∧ Below w.heap.size w w' := by
  obtain ⟨z, hz⟩ : ∃ z, decide (¬ room3 n0 n1 n2 0 0 0) = z := ⟨_, rfl⟩
  rw [hz]
  by_cases q0 : 4096 < n0
  · have q0i : (4096 : Int) < (n0 : Int) := by omega
    have HE : Hid (z = true) := hz.symm.trans <| decide_eq_true (by unfold room3; omega)
    clear hz
    go_enter Try.func29, Try.ntmps29
    go_wp2_with fail
    go_ret
    exact ⟨by rw [HE.out]; rfl, below1 _ _⟩
  · have q0i : ¬ (4096 : Int) < (n0 : Int) := by omega
    by_cases q1 : 4096 < n1
    · have q1i : (4096 : Int) < (n1 : Int) := by omega
      have HE : Hid (z = true) := hz.symm.trans <| decide_eq_true (by unfold room3; omega)
      clear hz
      go_enter Try.func29, Try.ntmps29
      go_wp2_with fail
      go_ret
      exact ⟨by rw [HE.out]; rfl, below1 _ _⟩
    · have q1i : ¬ (4096 : Int) < (n1 : Int) := by omega
      by_cases q2 : 4096 < n2
      · have q2i : (4096 : Int) < (n2 : Int) := by omega
        have HE : Hid (z = true) := hz.symm.trans <| decide_eq_true (by unfold room3; omega)
        clear hz
        go_enter Try.func29, Try.ntmps29
        go_wp2_with fail
        go_ret
        exact ⟨by rw [HE.out]; rfl, below1 _ _⟩
      · have q2i : ¬ (4096 : Int) < (n2 : Int) := by omega
        have HE : Hid (z = false) := hz.symm.trans <| decide_eq_false (fun e => e (by unfold room3; omega))
        clear hz
        go_enter Try.func29, Try.ntmps29
        go_wp2_with fail
        go_ret
        exact ⟨by rw [HE.out]; rfl, below1 _ _⟩
/-- Why: the document's answer, and the program's. -/
theorem err_no {L : Led} {o : Opn} (hm : mayL L) (hf : L.fit) (hom : o.may) (h : ¬ rE L o = 0) : errOf L o = rE L o := by
  rcases kinds hom with k | k | k | k | k | k | k
  · have e1 : errOf L o = errR L o := by unfold errOf; rw [k]; rfl
    have e2 : rE L o = er ((findK L.S o.sku o.loc).on + o.qty) := by unfold rE; rw [if_pos k]
    rw [e2] at h
    rw [e1, e2]; unfold errR; rw [if_pos h]
  · have e1 : errOf L o = errH L o := by unfold errOf; rw [k]; rfl
    have e2 : rE L o = (if vl ((findK L.S o.sku o.loc).on - (findK L.S o.sku o.loc).held) < o.qty then 70 else 0) := by unfold rE; rw [if_neg (by omega), if_pos k]
    rw [e2] at h
    rw [e1, e2]; unfold errH
    by_cases c : vl ((findK L.S o.sku o.loc).on - (findK L.S o.sku o.loc).held) < o.qty
    · rw [if_pos c, if_pos c]
    · rw [if_neg c] at h; exact absurd rfl h
  · have e1 : errOf L o = errC L o := by unfold errOf; rw [k]; rfl
    have e2 : rE L o = (if actL L.H o.id then 0 else 71) := by unfold rE; rw [if_neg (by omega), if_neg (by omega), if_pos (.inl k)]
    rw [e2] at h
    rw [e1, e2]; unfold errC
    by_cases c : actL L.H o.id = true
    · rw [if_pos c] at h; exact absurd rfl h
    · rw [if_neg c, if_neg c]
  · have e1 : errOf L o = errU L o := by unfold errOf; rw [k]; rfl
    have e2 : rE L o = (if actL L.H o.id then 0 else 71) := by unfold rE; rw [if_neg (by omega), if_neg (by omega), if_pos (.inr k)]
    rw [e1, e2]; rfl
  · have e2 : rE L o = 0 := by unfold rE; rw [if_neg (by omega), if_neg (by omega), if_neg (by omega), if_pos k]
    exact absurd e2 h
  · have e1 : errOf L o = errT L o := by unfold errOf; rw [k]; rfl
    have e2 : rE L o = (if vl ((findK L.S o.sku o.loc).on - (findK L.S o.sku o.loc).held) < o.qty then 70 else er ((findK L.S o.sku (Opn.to o)).on + o.qty)) := by unfold rE; rw [if_neg (by omega), if_neg (by omega), if_neg (by omega), if_neg (by omega), if_pos k]
    rw [e2] at h
    rw [e1, e2]; unfold errT
    by_cases c : vl ((findK L.S o.sku o.loc).on - (findK L.S o.sku o.loc).held) < o.qty
    · rw [if_pos c, if_pos c]
    · rw [if_neg c] at h
      rw [if_neg c, if_neg c, if_pos h]
  · have e1 : errOf L o = errA L o := by unfold errOf; rw [k]; rfl
    have e2 : rE L o = (if er ((findK L.S o.sku o.loc).on + o.qty) = 0 then (if vl ((findK L.S o.sku o.loc).on + o.qty) < (findK L.S o.sku o.loc).held then 70 else 0) else er ((findK L.S o.sku o.loc).on + o.qty)) := by unfold rE; rw [if_neg (by omega), if_neg (by omega), if_neg (by omega), if_neg (by omega), if_neg (by omega)]
    rw [e2] at h
    rw [e1, e2]; unfold errA
    by_cases c : er ((findK L.S o.sku o.loc).on + o.qty) = 0
    · rw [if_pos c] at h
      have hv : vl ((findK L.S o.sku o.loc).on + o.qty) = (findK L.S o.sku o.loc).on + o.qty := (vl_in (er_zero c)).1
      rw [hv] at h ⊢
      rw [if_neg (fun e => e c), if_pos c]
      by_cases c2 : (findK L.S o.sku o.loc).on + o.qty < (findK L.S o.sku o.loc).held
      · rw [if_pos c2, if_pos c2]
      · rw [if_neg c2] at h; exact absurd rfl h
    · rw [if_pos c, if_neg c]
end Go.Proofs.Ytflbcheofmljeaa

namespace Go.Proofs.Ytflbcheofmljeaa
open Go.ChangeShapes Go.WideShapes Go.RowKit
set_option linter.unusedVariables false
set_option maxRecDepth 100000

theorem if_iff {p q : Prop} [Decidable p] [Decidable q] (h : p ↔ q) : (if p then (0 : Int) else 2) = if q then 0 else 2 := by
  by_cases c : p
  · rw [if_pos c, if_pos (h.1 c)]
  · rw [if_neg c, if_neg (fun e => c (h.2 e))]
theorem held_len {l : List Stk} (s t : ByteArray) (d : Int) (h : hasK l s t = true) : (addHeld l s t d).length = l.length := by
  rw [addHeld_upd, upd_len]
  dsimp only
  rw [(findK_key l s t).1, (findK_key l s t).2, h]
  simp
theorem on_len (l : List Stk) (s t : ByteArray) (d : Int) : (addOn l s t d).length = l.length + (if hasK l s t then 0 else 1) := by
  rw [addOn_upd, upd_len]
  dsimp only
  rw [(findK_key l s t).1, (findK_key l s t).2]
theorem err_yes {L : Led} {o : Opn} (hm : mayL L) (hf : L.fit) (hom : o.may) (h : rE L o = 0) : errOf L o = if room (chL L o) 0 0 0 then 0 else 2 := by
  have hl := lens hm
  rcases kinds hom with k | k | k | k | k | k | k
  · have e1 : errOf L o = errR L o := by unfold errOf; rw [k]; rfl
    have e2 : rE L o = er ((findK L.S o.sku o.loc).on + o.qty) := by unfold rE; rw [if_pos k]
    have e3 : chL L o = mvL L o.k o.sku o.loc o.qty 0 := by unfold chL; rw [k]; rfl
    rw [e2] at h
    rw [e1, e3]; unfold errR; rw [if_neg (fun e => e h)]
    refine if_iff ?_
    rw [room_mv]; unfold room
    omega
  · have e1 : errOf L o = errH L o := by unfold errOf; rw [k]; rfl
    have e2 : rE L o = (if vl ((findK L.S o.sku o.loc).on - (findK L.S o.sku o.loc).held) < o.qty then 70 else 0) := by unfold rE; rw [if_neg (by omega), if_pos k]
    have e3 : chL L o = holdL L o.sku o.loc o.qty o.due := by unfold chL; rw [k]; rfl
    rw [e2] at h
    have c : ¬ vl ((findK L.S o.sku o.loc).on - (findK L.S o.sku o.loc).held) < o.qty := fun c => by rw [if_pos c] at h; cases h
    rw [e1, e3]; unfold errH; rw [if_neg c]
    refine if_iff ?_
    have hh : hasK L.S o.sku o.loc = true := has_of_free (may2 hom k).2.2.1 (by rw [free_is' hm hf] at c; omega)
    have q1 : (holdL L o.sku o.loc o.qty o.due).S.length = L.S.length := held_len _ _ _ hh
    have q2 : (holdL L o.sku o.loc o.qty o.due).H.length = L.H.length + 1 := by unfold holdL; simp
    have q3 : (holdL L o.sku o.loc o.qty o.due).M.length = L.M.length := rfl
    unfold room
    rw [q1, q2, q3]
    omega
  · have e1 : errOf L o = errC L o := by unfold errOf; rw [k]; rfl
    have e2 : rE L o = (if actL L.H o.id then 0 else 71) := by unfold rE; rw [if_neg (by omega), if_neg (by omega), if_pos (.inl k)]
    rw [e2] at h
    have c : actL L.H o.id = true := by
      cases hc : actL L.H o.id with
      | true => rfl
      | false => rw [hc] at h; simp at h
    obtain ⟨x, hx, h0⟩ := act_some c
    have e3 : chL L o = mvL (endL L (o.id - 1).toNat x 1) o.k x.sku x.loc (-x.qty) x.id := by unfold chL; rw [k, hx]; rfl
    rw [e1, e3]; unfold errC; rw [if_pos c]
    refine if_iff ?_
    have hh : hasK L.S x.sku x.loc = true := hm.ag.1 x (List.mem_of_getElem? hx) h0
    have hh2 := (endL_find hm.S.2 (o.id - 1).toNat x 1).2
    have q1 : (endL L (o.id - 1).toNat x 1).S.length = L.S.length := held_len _ _ _ hh
    have q2 : (endL L (o.id - 1).toNat x 1).H.length = L.H.length := by show (List.set _ _ _).length = _; rw [List.length_set]
    have q3 : (endL L (o.id - 1).toNat x 1).M.length = L.M.length := rfl
    rw [room_mv, hh2, q1, q2, q3]; unfold room
    simp
  · have e1 : errOf L o = errU L o := by unfold errOf; rw [k]; rfl
    have e2 : rE L o = (if actL L.H o.id then 0 else 71) := by unfold rE; rw [if_neg (by omega), if_neg (by omega), if_pos (.inr k)]
    rw [e2] at h
    have c : actL L.H o.id = true := by
      cases hc : actL L.H o.id with
      | true => rfl
      | false => rw [hc] at h; simp at h
    obtain ⟨x, hx, h0⟩ := act_some c
    have e3 : chL L o = endL L (o.id - 1).toNat x 2 := by unfold chL; rw [k, hx]; rfl
    rw [e1, e3]; unfold errU; rw [if_pos c, if_pos (endL_may hm hx h0 (.inr rfl)).1.room]
  · have e1 : errOf L o = 0 := by unfold errOf; rw [k]; rfl
    have e3 : chL L o = expL L o.due L.H.length := by unfold chL; rw [k]; rfl
    rw [e1, e3, if_pos (expL_may hm _ _).room]
  · have e1 : errOf L o = errT L o := by unfold errOf; rw [k]; rfl
    have e2 : rE L o = (if vl ((findK L.S o.sku o.loc).on - (findK L.S o.sku o.loc).held) < o.qty then 70 else er ((findK L.S o.sku (Opn.to o)).on + o.qty)) := by unfold rE; rw [if_neg (by omega), if_neg (by omega), if_neg (by omega), if_neg (by omega), if_pos k]
    have e3 : chL L o = mvL (mvL L o.k o.sku o.loc (-o.qty) 0) o.k o.sku (Opn.to o) o.qty 0 := by unfold chL; rw [k]; rfl
    rw [e2] at h
    have c : ¬ vl ((findK L.S o.sku o.loc).on - (findK L.S o.sku o.loc).held) < o.qty := fun c => by rw [if_pos c] at h; cases h
    rw [if_neg c] at h
    have h6 := may6 hom k
    have hh : hasK L.S o.sku o.loc = true := has_of_free h6.2.2.2.2 (by rw [free_is' hm hf] at c; omega)
    rw [e1, e3]; unfold errT; rw [if_neg c, if_neg (fun e => e h)]
    refine if_iff ?_
    have q1 : (mvL L o.k o.sku o.loc (-o.qty) 0).S.length = L.S.length := by show (addOn _ _ _ _).length = _; rw [on_len, hh]; simp
    have q2 : (mvL L o.k o.sku o.loc (-o.qty) 0).H.length = L.H.length := rfl
    have q3 : (mvL L o.k o.sku o.loc (-o.qty) 0).M.length = L.M.length + 1 := by unfold mvL; simp
    have q4 : hasK (mvL L o.k o.sku o.loc (-o.qty) 0).S o.sku (Opn.to o) = hasK L.S o.sku (Opn.to o) := by
      rw [mvL_S]
      have h7 := has_upd hm.S.2 { findK L.S o.sku o.loc with on := (findK L.S o.sku o.loc).on + -o.qty } o.sku (Opn.to o)
      have h8 : ¬ ((findK L.S o.sku o.loc).sku = o.sku ∧ (findK L.S o.sku o.loc).loc = Opn.to o) := fun e => h6.2.2.2.1 ((findK_key L.S o.sku o.loc).2.symm.trans e.2)
      cases hc : hasK L.S o.sku (Opn.to o) with
      | true => exact h7.2 (.inl hc)
      | false =>
        cases hd : hasK (upd L.S { findK L.S o.sku o.loc with on := (findK L.S o.sku o.loc).on + -o.qty }) o.sku (Opn.to o) with
        | false => rfl
        | true =>
          rcases h7.1 hd with q | q
          · rw [hc] at q; cases q
          · exact absurd q h8
    rw [room_mv, q1, q2, q3, q4]; unfold room
    omega
  · have e1 : errOf L o = errA L o := by unfold errOf; rw [k]; rfl
    have e2 : rE L o = (if er ((findK L.S o.sku o.loc).on + o.qty) = 0 then (if vl ((findK L.S o.sku o.loc).on + o.qty) < (findK L.S o.sku o.loc).held then 70 else 0) else er ((findK L.S o.sku o.loc).on + o.qty)) := by unfold rE; rw [if_neg (by omega), if_neg (by omega), if_neg (by omega), if_neg (by omega), if_neg (by omega)]
    have e3 : chL L o = mvL L o.k o.sku o.loc o.qty 0 := by unfold chL; rw [k]; rfl
    rw [e2] at h
    have c : er ((findK L.S o.sku o.loc).on + o.qty) = 0 := by
      by_cases c : er ((findK L.S o.sku o.loc).on + o.qty) = 0
      · exact c
      · rw [if_neg c] at h; exact h
    have hv : vl ((findK L.S o.sku o.loc).on + o.qty) = (findK L.S o.sku o.loc).on + o.qty := (vl_in (er_zero c)).1
    rw [if_pos c, hv] at h
    have c2 : ¬ (findK L.S o.sku o.loc).on + o.qty < (findK L.S o.sku o.loc).held := fun c2 => by rw [if_pos c2] at h; cases h
    rw [e1, e3]; unfold errA; rw [if_neg (fun e => e c), if_neg c2]
    refine if_iff ?_
    rw [room_mv]; unfold room
    omega
end Go.Proofs.Ytflbcheofmljeaa

namespace Go.Proofs.Ytflbcheofmljeaa
open Go.ChangeShapes Go.WideShapes Go.RowKit
set_option linter.unusedVariables false
set_option maxRecDepth 100000

set_option maxHeartbeats 4000000 in
theorem rstep_arg (a0 : Option Addr) (n0 c0 : Nat) (a1 : Option Addr) (n1 c1 : Nat) (a2 : Option Addr) (n2 c2 : Nat) (ops : Int) (L : Led) (ok : Int) (osk ol ot : ByteArray) (oq id od : Int) (w : World) (hma : ∀ w', Calls Try.prog 27 #[.agg #[.int .i64 ok, .string osk, .string ol, .string ot, .int .i64 oq, .int .i64 id, .int .i64 od]] w' fun e w'' => e = .returned (.bool false) ∧ Below w'.heap.size w' w'') (hr : Lies w a0 a1 a2 L) (hops : L.ops = ops) (h0 : L.S.length = n0) (h1 : L.H.length = n1) (h2 : L.M.length = n2) (hcap : n1 ≤ c1) :
    Calls Try.prog 30 #[.agg #[.slice a0 n0 c0, .slice a1 n1 c1, .slice a2 n2 c2, .int .i64 ops], .agg #[.int .i64 ok, .string osk, .string ol, .string ot, .int .i64 oq, .int .i64 id, .int .i64 od]] w fun e w' => LeP a0 a1 a2 L w w' L 1 e := by
  have HMA : Hid _ := hma
  obtain ⟨W, hW⟩ : ∃ W, ((w.alloc (.cells #[.slice a0 n0 c0, .slice a1 n1 c1, .slice a2 n2 c2, .int .i64 ops] 26)).alloc (.cells #[.int .i64 ok, .string osk, .string ol, .string ot, .int .i64 oq, .int .i64 id, .int .i64 od] 28)).alloc (.cells #[.slice none 0 0, .slice none 0 0, .slice none 0 0, .int .i64 0] 26) = W := ⟨_, rfl⟩
  have HC : Hid (CellsF W w.heap.size [.slice a0 n0 c0, .slice a1 n1 c1, .slice a2 n2 c2, .int .i64 ops] ∧ CellsF W (w.heap.size + 1) [.int .i64 ok, .string osk, .string ol, .string ot, .int .i64 oq, .int .i64 id, .int .i64 od] ∧ CellsF W (w.heap.size + 1 + 1) [.slice none 0 0, .slice none 0 0, .slice none 0 0, .int .i64 0] ∧ Below w.heap.size w W) := by
    show _ ∧ _
    rw [← hW]
    exact ⟨((CellsF.at _ 26 (by simp) rfl).next (below1 _ _)).next (below1 _ _), (CellsF.at _ 28 (by simp) (by rw [size_alloc])).next (below1 _ _), CellsF.at _ 26 (by simp) (by rw [size_alloc, size_alloc]), below3 _ _ _ _⟩
  have HL : Hid (L.ops = ops ∧ L.S.length = n0 ∧ L.H.length = n1 ∧ L.M.length = n2 ∧ n1 ≤ c1) := ⟨hops, h0, h1, h2, hcap⟩
  have HNA : Hid (NotAt (w.heap.size + 1 + 1) a0 a1 a2 L) := notAt_of hr (by omega)
  have HR : Hid (Lies w a0 a1 a2 L) := hr
  have l0 := (HC.out.1).cs 0 _ rfl
  have l1 := (HC.out.1).cs 1 _ rfl
  have l2 := (HC.out.1).cs 2 _ rfl
  have l3 := (HC.out.1).cs 3 _ rfl
  have o0 := (HC.out.2.1).cs 0 _ rfl
  have o1 := (HC.out.2.1).cs 1 _ rfl
  have o2 := (HC.out.2.1).cs 2 _ rfl
  have o3 := (HC.out.2.1).cs 3 _ rfl
  have o4 := (HC.out.2.1).cs 4 _ rfl
  have o5 := (HC.out.2.1).cs 5 _ rfl
  have o6 := (HC.out.2.1).cs 6 _ rfl
  clear hr hma hops h0 h1 h2 hcap
  go_enter Try.func30, Try.ntmps30
  go_wp2_with fail
  try rw [hW]
  go_wp2_with fail
  refine Calls.mono (HMA.out _) ?_; rintro e w3 ⟨rfl, k3⟩
  have HK3 : Hid (Below W.heap.size W w3) := k3
  clear k3 hW l0 l1 l2 l3 o0 o1 o2 o3 o4 o5 o6
  have hq1 := HC.out.1.next HK3.out
  have hq2 := HC.out.2.1.next HK3.out
  have l0 := (hq1).cs 0 _ rfl
  have l1 := (hq1).cs 1 _ rfl
  have l2 := (hq1).cs 2 _ rfl
  have l3 := (hq1).cs 3 _ rfl
  have o0 := (hq2).cs 0 _ rfl
  have o1 := (hq2).cs 1 _ rfl
  have o2 := (hq2).cs 2 _ rfl
  have o3 := (hq2).cs 3 _ rfl
  have o4 := (hq2).cs 4 _ rfl
  have o5 := (hq2).cs 5 _ rfl
  have o6 := (hq2).cs 6 _ rfl
  clear hq1 hq2
  have hz4 := HC.out.2.2.1.next HK3.out
  have HCZ : Hid (CellsF w3 (w.heap.size + 1 + 1) [.slice none 0 0, .slice none 0 0, .slice none 0 0, .int .i64 0]) := hz4
  have HFIN : Hid (∀ u0 u1 u2 u3, Lies ((((w3.setCell ⟨(w.heap.size + 1 + 1), 0, none⟩ u0).setCell ⟨(w.heap.size + 1 + 1), 1, none⟩ u1).setCell ⟨(w.heap.size + 1 + 1), 2, none⟩ u2).setCell ⟨(w.heap.size + 1 + 1), 3, none⟩ u3) a0 a1 a2 L ∧ Below w.heap.size w ((((w3.setCell ⟨(w.heap.size + 1 + 1), 0, none⟩ u0).setCell ⟨(w.heap.size + 1 + 1), 1, none⟩ u1).setCell ⟨(w.heap.size + 1 + 1), 2, none⟩ u2).setCell ⟨(w.heap.size + 1 + 1), 3, none⟩ u3)) := fun u0 u1 u2 u3 => ⟨(HR.out.next (Below.next HC.out.2.2.2 HK3.out)).four HNA.out _ _ _ _, below_four (Below.next HC.out.2.2.2 HK3.out) _ (by omega) _ _ _ _⟩
  have z0 := (hz4).cs 0 _ rfl
  have z1 := (hz4).cs 1 _ rfl
  have z2 := (hz4).cs 2 _ rfl
  have z3 := (hz4).cs 3 _ rfl
  have g0 := (hz4).fz 0
  have g1 := (hz4).fz 1
  have g2 := (hz4).fz 2
  have g3 := (hz4).fz 3
  clear hz4
  go_wp2_with fail
  try simp only [Exit.inBlock, Exit.then]
  refine bodyPost_ret (end_cell_tmp rfl rfl (loadLed _ (HCZ.out.four rfl _ _ _ _) rfl)) rfl ?_
  exact ⟨_, _, _, _, _, _, _, _, _, by rw [HL.out.1]; rfl, HL.out.2.1, HL.out.2.2.1, HL.out.2.2.2.1, (HFIN.out _ _ _ _).1, HL.out.2.2.2.2, (HFIN.out _ _ _ _).2, SrcL.refl _ _ _ _ _⟩
set_option maxHeartbeats 4000000 in
theorem rstep_no (a0 : Option Addr) (n0 c0 : Nat) (a1 : Option Addr) (n1 c1 : Nat) (a2 : Option Addr) (n2 c2 : Nat) (ops : Int) (L : Led) (ok : Int) (osk ol ot : ByteArray) (oq id od : Int) (w : World) (hma : ∀ w', Calls Try.prog 27 #[.agg #[.int .i64 ok, .string osk, .string ol, .string ot, .int .i64 oq, .int .i64 id, .int .i64 od]] w' fun e w'' => e = .returned (.bool true) ∧ Below w'.heap.size w' w'') (M : Led) (err : Int) (herr : ¬ err = 0) (hdo : ∀ w', Below w.heap.size w w' → Calls Try.prog 28 #[.agg #[.slice a0 n0 c0, .slice a1 n1 c1, .slice a2 n2 c2, .int .i64 ops], .agg #[.int .i64 ok, .string osk, .string ol, .string ot, .int .i64 oq, .int .i64 id, .int .i64 od]] w' fun e w'' => LeP a0 a1 a2 L w' w'' M err e) (hr : Lies w a0 a1 a2 L) (hops : L.ops = ops) (h0 : L.S.length = n0) (h1 : L.H.length = n1) (h2 : L.M.length = n2) (hcap : n1 ≤ c1) :
    Calls Try.prog 30 #[.agg #[.slice a0 n0 c0, .slice a1 n1 c1, .slice a2 n2 c2, .int .i64 ops], .agg #[.int .i64 ok, .string osk, .string ol, .string ot, .int .i64 oq, .int .i64 id, .int .i64 od]] w fun e w' => LeP a0 a1 a2 L w w' L err e := by
  have HMA : Hid _ := hma
  have HDO : Hid _ := hdo
  have heb : (err != 0) = true := by simpa using herr
  obtain ⟨W, hW⟩ : ∃ W, ((w.alloc (.cells #[.slice a0 n0 c0, .slice a1 n1 c1, .slice a2 n2 c2, .int .i64 ops] 26)).alloc (.cells #[.int .i64 ok, .string osk, .string ol, .string ot, .int .i64 oq, .int .i64 id, .int .i64 od] 28)).alloc (.cells #[.slice none 0 0, .slice none 0 0, .slice none 0 0, .int .i64 0] 26) = W := ⟨_, rfl⟩
  have HC : Hid (CellsF W w.heap.size [.slice a0 n0 c0, .slice a1 n1 c1, .slice a2 n2 c2, .int .i64 ops] ∧ CellsF W (w.heap.size + 1) [.int .i64 ok, .string osk, .string ol, .string ot, .int .i64 oq, .int .i64 id, .int .i64 od] ∧ CellsF W (w.heap.size + 1 + 1) [.slice none 0 0, .slice none 0 0, .slice none 0 0, .int .i64 0] ∧ Below w.heap.size w W) := by
    show _ ∧ _
    rw [← hW]
    exact ⟨((CellsF.at _ 26 (by simp) rfl).next (below1 _ _)).next (below1 _ _), (CellsF.at _ 28 (by simp) (by rw [size_alloc])).next (below1 _ _), CellsF.at _ 26 (by simp) (by rw [size_alloc, size_alloc]), below3 _ _ _ _⟩
  have HL : Hid (L.ops = ops ∧ L.S.length = n0 ∧ L.H.length = n1 ∧ L.M.length = n2 ∧ n1 ≤ c1) := ⟨hops, h0, h1, h2, hcap⟩
  have HNA : Hid (NotAt (w.heap.size + 1 + 1) a0 a1 a2 L) := notAt_of hr (by omega)
  have HR : Hid (Lies w a0 a1 a2 L) := hr
  have l0 := (HC.out.1).cs 0 _ rfl
  have l1 := (HC.out.1).cs 1 _ rfl
  have l2 := (HC.out.1).cs 2 _ rfl
  have l3 := (HC.out.1).cs 3 _ rfl
  have o0 := (HC.out.2.1).cs 0 _ rfl
  have o1 := (HC.out.2.1).cs 1 _ rfl
  have o2 := (HC.out.2.1).cs 2 _ rfl
  have o3 := (HC.out.2.1).cs 3 _ rfl
  have o4 := (HC.out.2.1).cs 4 _ rfl
  have o5 := (HC.out.2.1).cs 5 _ rfl
  have o6 := (HC.out.2.1).cs 6 _ rfl
  clear hr hma hdo hops h0 h1 h2 hcap herr
  go_enter Try.func30, Try.ntmps30
  go_wp2_with fail
  try rw [hW]
  go_wp2_with fail
  refine Calls.mono (HMA.out _) ?_; rintro e w3 ⟨rfl, k3⟩
  have HK3 : Hid (Below W.heap.size W w3) := k3
  clear k3 hW l0 l1 l2 l3 o0 o1 o2 o3 o4 o5 o6
  have hq1 := HC.out.1.next HK3.out
  have hq2 := HC.out.2.1.next HK3.out
  have l0 := (hq1).cs 0 _ rfl
  have l1 := (hq1).cs 1 _ rfl
  have l2 := (hq1).cs 2 _ rfl
  have l3 := (hq1).cs 3 _ rfl
  have o0 := (hq2).cs 0 _ rfl
  have o1 := (hq2).cs 1 _ rfl
  have o2 := (hq2).cs 2 _ rfl
  have o3 := (hq2).cs 3 _ rfl
  have o4 := (hq2).cs 4 _ rfl
  have o5 := (hq2).cs 5 _ rfl
  have o6 := (hq2).cs 6 _ rfl
  clear hq1 hq2
  go_wp2_with fail
  refine Calls.mono (HDO.out _ (Below.next HC.out.2.2.2 HK3.out)) ?_; rintro e w5 ⟨b0, m0, d0, b1, m1, d1, b2, m2, d2, rfl, hl0, hl1, hl2, hli, hcp, k5, hsr⟩
  obtain ⟨W6, hW6⟩ : ∃ W6, w5.alloc (.cells #[.slice b0 m0 d0, .slice b1 m1 d1, .slice b2 m2 d2, .int .i64 M.ops] 26) = W6 := ⟨_, rfl⟩
  obtain ⟨Bn, hBn⟩ : ∃ Bn, w5.heap.size = Bn := ⟨_, rfl⟩
  have hk6 : Below W.heap.size W W6 := by rw [← hW6]; exact Below.next (Below.next HK3.out k5) (below1 _ _)
  have HK6 : Hid (Below W.heap.size W W6) := hk6
  clear hl0 hl1 hl2 hli hcp k5 hsr hk6 l0 l1 l2 l3 o0 o1 o2 o3 o4 o5 o6
  have hq1 := HC.out.1.next HK6.out
  have hq2 := HC.out.2.1.next HK6.out
  have l0 := (hq1).cs 0 _ rfl
  have l1 := (hq1).cs 1 _ rfl
  have l2 := (hq1).cs 2 _ rfl
  have l3 := (hq1).cs 3 _ rfl
  have o0 := (hq2).cs 0 _ rfl
  have o1 := (hq2).cs 1 _ rfl
  have o2 := (hq2).cs 2 _ rfl
  have o3 := (hq2).cs 3 _ rfl
  have o4 := (hq2).cs 4 _ rfl
  have o5 := (hq2).cs 5 _ rfl
  have o6 := (hq2).cs 6 _ rfl
  clear hq1 hq2
  have hz4 := HC.out.2.2.1.next HK6.out
  have HCZ : Hid (CellsF W6 (w.heap.size + 1 + 1) [.slice none 0 0, .slice none 0 0, .slice none 0 0, .int .i64 0]) := hz4
  have HFIN : Hid (∀ u0 u1 u2 u3, Lies ((((W6.setCell ⟨(w.heap.size + 1 + 1), 0, none⟩ u0).setCell ⟨(w.heap.size + 1 + 1), 1, none⟩ u1).setCell ⟨(w.heap.size + 1 + 1), 2, none⟩ u2).setCell ⟨(w.heap.size + 1 + 1), 3, none⟩ u3) a0 a1 a2 L ∧ Below w.heap.size w ((((W6.setCell ⟨(w.heap.size + 1 + 1), 0, none⟩ u0).setCell ⟨(w.heap.size + 1 + 1), 1, none⟩ u1).setCell ⟨(w.heap.size + 1 + 1), 2, none⟩ u2).setCell ⟨(w.heap.size + 1 + 1), 3, none⟩ u3)) := fun u0 u1 u2 u3 => ⟨(HR.out.next (Below.next HC.out.2.2.2 HK6.out)).four HNA.out _ _ _ _, below_four (Below.next HC.out.2.2.2 HK6.out) _ (by omega) _ _ _ _⟩
  have z0 := (hz4).cs 0 _ rfl
  have z1 := (hz4).cs 1 _ rfl
  have z2 := (hz4).cs 2 _ rfl
  have z3 := (hz4).cs 3 _ rfl
  have g0 := (hz4).fz 0
  have g1 := (hz4).fz 1
  have g2 := (hz4).fz 2
  have g3 := (hz4).fz 3
  clear hz4
  go_wp2_with fail
  try simp only [Exit.inBlock, Exit.then]
  refine bodyPost_ret (end_cell_tmp rfl rfl (loadLed _ (HCZ.out.four rfl _ _ _ _) rfl)) rfl ?_
  exact ⟨_, _, _, _, _, _, _, _, _, by rw [HL.out.1]; rfl, HL.out.2.1, HL.out.2.2.1, HL.out.2.2.2.1, (HFIN.out _ _ _ _).1, HL.out.2.2.2.2, (HFIN.out _ _ _ _).2, SrcL.refl _ _ _ _ _⟩
end Go.Proofs.Ytflbcheofmljeaa

namespace Go.Proofs.Ytflbcheofmljeaa
open Go.ChangeShapes Go.WideShapes Go.RowKit
set_option linter.unusedVariables false
set_option maxRecDepth 100000

set_option maxHeartbeats 4000000 in
theorem rstep_full (a0 : Option Addr) (n0 c0 : Nat) (a1 : Option Addr) (n1 c1 : Nat) (a2 : Option Addr) (n2 c2 : Nat) (ops : Int) (L : Led) (ok : Int) (osk ol ot : ByteArray) (oq id od : Int) (w : World) (hma : ∀ w', Calls Try.prog 27 #[.agg #[.int .i64 ok, .string osk, .string ol, .string ot, .int .i64 oq, .int .i64 id, .int .i64 od]] w' fun e w'' => e = .returned (.bool true) ∧ Below w'.heap.size w' w'') (M : Led) (hdo : ∀ w', Below w.heap.size w w' → Calls Try.prog 28 #[.agg #[.slice a0 n0 c0, .slice a1 n1 c1, .slice a2 n2 c2, .int .i64 ops], .agg #[.int .i64 ok, .string osk, .string ol, .string ot, .int .i64 oq, .int .i64 id, .int .i64 od]] w' fun e w'' => LeP a0 a1 a2 L w' w'' M 0 e) (hfu : ∀ w' b0 m0 d0 b1 m1 d1 b2 m2 d2 ops', M.S.length = m0 → M.H.length = m1 → M.M.length = m2 → Calls Try.prog 29 #[.agg #[.slice b0 m0 d0, .slice b1 m1 d1, .slice b2 m2 d2, .int .i64 ops']] w' fun e w'' => e = .returned (.bool true) ∧ Below w'.heap.size w' w'')  (hr : Lies w a0 a1 a2 L) (hops : L.ops = ops) (h0 : L.S.length = n0) (h1 : L.H.length = n1) (h2 : L.M.length = n2) (hcap : n1 ≤ c1) :
    Calls Try.prog 30 #[.agg #[.slice a0 n0 c0, .slice a1 n1 c1, .slice a2 n2 c2, .int .i64 ops], .agg #[.int .i64 ok, .string osk, .string ol, .string ot, .int .i64 oq, .int .i64 id, .int .i64 od]] w fun e w' => LeP a0 a1 a2 L w w' L 2 e := by
  have HMA : Hid _ := hma
  have HDO : Hid _ := hdo
  have HFU : Hid _ := hfu
  obtain ⟨W, hW⟩ : ∃ W, ((w.alloc (.cells #[.slice a0 n0 c0, .slice a1 n1 c1, .slice a2 n2 c2, .int .i64 ops] 26)).alloc (.cells #[.int .i64 ok, .string osk, .string ol, .string ot, .int .i64 oq, .int .i64 id, .int .i64 od] 28)).alloc (.cells #[.slice none 0 0, .slice none 0 0, .slice none 0 0, .int .i64 0] 26) = W := ⟨_, rfl⟩
  have HC : Hid (CellsF W w.heap.size [.slice a0 n0 c0, .slice a1 n1 c1, .slice a2 n2 c2, .int .i64 ops] ∧ CellsF W (w.heap.size + 1) [.int .i64 ok, .string osk, .string ol, .string ot, .int .i64 oq, .int .i64 id, .int .i64 od] ∧ CellsF W (w.heap.size + 1 + 1) [.slice none 0 0, .slice none 0 0, .slice none 0 0, .int .i64 0] ∧ Below w.heap.size w W) := by
    show _ ∧ _
    rw [← hW]
    exact ⟨((CellsF.at _ 26 (by simp) rfl).next (below1 _ _)).next (below1 _ _), (CellsF.at _ 28 (by simp) (by rw [size_alloc])).next (below1 _ _), CellsF.at _ 26 (by simp) (by rw [size_alloc, size_alloc]), below3 _ _ _ _⟩
  have HL : Hid (L.ops = ops ∧ L.S.length = n0 ∧ L.H.length = n1 ∧ L.M.length = n2 ∧ n1 ≤ c1) := ⟨hops, h0, h1, h2, hcap⟩
  have HNA : Hid (NotAt (w.heap.size + 1 + 1) a0 a1 a2 L) := notAt_of hr (by omega)
  have HR : Hid (Lies w a0 a1 a2 L) := hr
  have l0 := (HC.out.1).cs 0 _ rfl
  have l1 := (HC.out.1).cs 1 _ rfl
  have l2 := (HC.out.1).cs 2 _ rfl
  have l3 := (HC.out.1).cs 3 _ rfl
  have o0 := (HC.out.2.1).cs 0 _ rfl
  have o1 := (HC.out.2.1).cs 1 _ rfl
  have o2 := (HC.out.2.1).cs 2 _ rfl
  have o3 := (HC.out.2.1).cs 3 _ rfl
  have o4 := (HC.out.2.1).cs 4 _ rfl
  have o5 := (HC.out.2.1).cs 5 _ rfl
  have o6 := (HC.out.2.1).cs 6 _ rfl
  clear hr hma hdo hfu hops h0 h1 h2 hcap
  go_enter Try.func30, Try.ntmps30
  go_wp2_with fail
  try rw [hW]
  go_wp2_with fail
  refine Calls.mono (HMA.out _) ?_; rintro e w3 ⟨rfl, k3⟩
  have HK3 : Hid (Below W.heap.size W w3) := k3
  clear k3 hW l0 l1 l2 l3 o0 o1 o2 o3 o4 o5 o6
  have hq1 := HC.out.1.next HK3.out
  have hq2 := HC.out.2.1.next HK3.out
  have l0 := (hq1).cs 0 _ rfl
  have l1 := (hq1).cs 1 _ rfl
  have l2 := (hq1).cs 2 _ rfl
  have l3 := (hq1).cs 3 _ rfl
  have o0 := (hq2).cs 0 _ rfl
  have o1 := (hq2).cs 1 _ rfl
  have o2 := (hq2).cs 2 _ rfl
  have o3 := (hq2).cs 3 _ rfl
  have o4 := (hq2).cs 4 _ rfl
  have o5 := (hq2).cs 5 _ rfl
  have o6 := (hq2).cs 6 _ rfl
  clear hq1 hq2
  go_wp2_with fail
  refine Calls.mono (HDO.out _ (Below.next HC.out.2.2.2 HK3.out)) ?_; rintro e w5 ⟨b0, m0, d0, b1, m1, d1, b2, m2, d2, rfl, hl0, hl1, hl2, hli, hcp, k5, hsr⟩
  obtain ⟨W6, hW6⟩ : ∃ W6, w5.alloc (.cells #[.slice b0 m0 d0, .slice b1 m1 d1, .slice b2 m2 d2, .int .i64 M.ops] 26) = W6 := ⟨_, rfl⟩
  obtain ⟨Bn, hBn⟩ : ∃ Bn, w5.heap.size = Bn := ⟨_, rfl⟩
  have hk6 : Below W.heap.size W W6 := by rw [← hW6]; exact Below.next (Below.next HK3.out k5) (below1 _ _)
  have HK6 : Hid (Below W.heap.size W W6) := hk6
  have hnb : CellsF W6 Bn [.slice b0 m0 d0, .slice b1 m1 d1, .slice b2 m2 d2, .int .i64 M.ops] := by rw [← hW6, ← hBn]; exact CellsF.at _ 26 (by simp) rfl
  have HLI : Hid (M.S.length = m0 ∧ M.H.length = m1 ∧ M.M.length = m2 ∧ Lies W6 b0 b1 b2 M ∧ m1 ≤ d1 ∧ SrcL w a0 a1 a2 L b0 b1 b2 M ∧ NotAt (w.heap.size + 1 + 1) b0 b1 b2 M ∧ NotAt Bn b0 b1 b2 M ∧ (w.heap.size + 1 + 1) < Bn ∧ CellsF W6 Bn [.slice b0 m0 d0, .slice b1 m1 d1, .slice b2 m2 d2, .int .i64 M.ops]) := by
    have hsz : (w.heap.size + 1 + 1) < w3.heap.size := Nat.lt_of_lt_of_le HC.out.2.2.1.lt HK3.out.size
    refine ⟨hl0, hl1, hl2, ?_, hcp, hsr.mono (Nat.le_trans HC.out.2.2.2.size HK3.out.size), hsr.not hsz HNA.out, ?_, ?_, hnb⟩
    · rw [← hW6]; exact hli.next (below1 _ _)
    · exact notAt_of hli (by omega)
    · have := k5.size; omega
  have q0 := (hnb).cs 0 _ rfl
  have q1 := (hnb).cs 1 _ rfl
  have q2 := (hnb).cs 2 _ rfl
  have q3 := (hnb).cs 3 _ rfl
  have f0 := (hnb).fz 0
  have f1 := (hnb).fz 1
  have f2 := (hnb).fz 2
  have f3 := (hnb).fz 3
  clear hl0 hl1 hl2 hli hcp k5 hsr hk6 hnb l0 l1 l2 l3 o0 o1 o2 o3 o4 o5 o6
  have hq1 := HC.out.1.next HK6.out
  have hq2 := HC.out.2.1.next HK6.out
  have l0 := (hq1).cs 0 _ rfl
  have l1 := (hq1).cs 1 _ rfl
  have l2 := (hq1).cs 2 _ rfl
  have l3 := (hq1).cs 3 _ rfl
  have o0 := (hq2).cs 0 _ rfl
  have o1 := (hq2).cs 1 _ rfl
  have o2 := (hq2).cs 2 _ rfl
  have o3 := (hq2).cs 3 _ rfl
  have o4 := (hq2).cs 4 _ rfl
  have o5 := (hq2).cs 5 _ rfl
  have o6 := (hq2).cs 6 _ rfl
  clear hq1 hq2
  go_wp2_with fail
  refine Calls.mono (HFU.out _ _ _ _ _ _ _ _ _ _ _ HLI.out.1 HLI.out.2.1 HLI.out.2.2.1) ?_; rintro e w7 ⟨rfl, k7⟩
  have HK7 : Hid (Below W.heap.size W w7) := Below.next HK6.out k7
  have HN7 : Hid (CellsF w7 Bn [.slice b0 m0 d0, .slice b1 m1 d1, .slice b2 m2 d2, .int .i64 M.ops] ∧ Lies w7 b0 b1 b2 M) := ⟨HLI.out.2.2.2.2.2.2.2.2.2.next k7, HLI.out.2.2.2.1.next k7⟩
  clear k7 l0 l1 l2 l3 o0 o1 o2 o3 o4 o5 o6 q0 q1 q2 q3 f0 f1 f2 f3 hW6 hBn
  have hq1 := HC.out.1.next HK7.out
  have hq2 := HC.out.2.1.next HK7.out
  have l0 := (hq1).cs 0 _ rfl
  have l1 := (hq1).cs 1 _ rfl
  have l2 := (hq1).cs 2 _ rfl
  have l3 := (hq1).cs 3 _ rfl
  have o0 := (hq2).cs 0 _ rfl
  have o1 := (hq2).cs 1 _ rfl
  have o2 := (hq2).cs 2 _ rfl
  have o3 := (hq2).cs 3 _ rfl
  have o4 := (hq2).cs 4 _ rfl
  have o5 := (hq2).cs 5 _ rfl
  have o6 := (hq2).cs 6 _ rfl
  clear hq1 hq2
  have hz4 := HC.out.2.2.1.next HK7.out
  have HCZ : Hid (CellsF w7 (w.heap.size + 1 + 1) [.slice none 0 0, .slice none 0 0, .slice none 0 0, .int .i64 0]) := hz4
  have HFIN : Hid (∀ u0 u1 u2 u3, Lies ((((w7.setCell ⟨(w.heap.size + 1 + 1), 0, none⟩ u0).setCell ⟨(w.heap.size + 1 + 1), 1, none⟩ u1).setCell ⟨(w.heap.size + 1 + 1), 2, none⟩ u2).setCell ⟨(w.heap.size + 1 + 1), 3, none⟩ u3) a0 a1 a2 L ∧ Below w.heap.size w ((((w7.setCell ⟨(w.heap.size + 1 + 1), 0, none⟩ u0).setCell ⟨(w.heap.size + 1 + 1), 1, none⟩ u1).setCell ⟨(w.heap.size + 1 + 1), 2, none⟩ u2).setCell ⟨(w.heap.size + 1 + 1), 3, none⟩ u3)) := fun u0 u1 u2 u3 => ⟨(HR.out.next (Below.next HC.out.2.2.2 HK7.out)).four HNA.out _ _ _ _, below_four (Below.next HC.out.2.2.2 HK7.out) _ (by omega) _ _ _ _⟩
  have z0 := (hz4).cs 0 _ rfl
  have z1 := (hz4).cs 1 _ rfl
  have z2 := (hz4).cs 2 _ rfl
  have z3 := (hz4).cs 3 _ rfl
  have g0 := (hz4).fz 0
  have g1 := (hz4).fz 1
  have g2 := (hz4).fz 2
  have g3 := (hz4).fz 3
  clear hz4
  go_wp2_with fail
  try simp only [Exit.inBlock, Exit.then]
  refine bodyPost_ret (end_cell_tmp rfl rfl (loadLed _ (HCZ.out.four rfl _ _ _ _) rfl)) rfl ?_
  exact ⟨_, _, _, _, _, _, _, _, _, by rw [HL.out.1]; rfl, HL.out.2.1, HL.out.2.2.1, HL.out.2.2.2.1, (HFIN.out _ _ _ _).1, HL.out.2.2.2.2, (HFIN.out _ _ _ _).2, SrcL.refl _ _ _ _ _⟩
set_option maxHeartbeats 4000000 in
theorem rstep_many (a0 : Option Addr) (n0 c0 : Nat) (a1 : Option Addr) (n1 c1 : Nat) (a2 : Option Addr) (n2 c2 : Nat) (ops : Int) (L : Led) (ok : Int) (osk ol ot : ByteArray) (oq id od : Int) (w : World) (hma : ∀ w', Calls Try.prog 27 #[.agg #[.int .i64 ok, .string osk, .string ol, .string ot, .int .i64 oq, .int .i64 id, .int .i64 od]] w' fun e w'' => e = .returned (.bool true) ∧ Below w'.heap.size w' w'') (M : Led) (hdo : ∀ w', Below w.heap.size w w' → Calls Try.prog 28 #[.agg #[.slice a0 n0 c0, .slice a1 n1 c1, .slice a2 n2 c2, .int .i64 ops], .agg #[.int .i64 ok, .string osk, .string ol, .string ot, .int .i64 oq, .int .i64 id, .int .i64 od]] w' fun e w'' => LeP a0 a1 a2 L w' w'' M 0 e) (hfu : ∀ w' b0 m0 d0 b1 m1 d1 b2 m2 d2 ops', M.S.length = m0 → M.H.length = m1 → M.M.length = m2 → Calls Try.prog 29 #[.agg #[.slice b0 m0 d0, .slice b1 m1 d1, .slice b2 m2 d2, .int .i64 ops']] w' fun e w'' => e = .returned (.bool false) ∧ Below w'.heap.size w' w'') (hmany : 4611686018427387904 ≤ ops) (hr : Lies w a0 a1 a2 L) (hops : L.ops = ops) (h0 : L.S.length = n0) (h1 : L.H.length = n1) (h2 : L.M.length = n2) (hcap : n1 ≤ c1) :
    Calls Try.prog 30 #[.agg #[.slice a0 n0 c0, .slice a1 n1 c1, .slice a2 n2 c2, .int .i64 ops], .agg #[.int .i64 ok, .string osk, .string ol, .string ot, .int .i64 oq, .int .i64 id, .int .i64 od]] w fun e w' => LeP a0 a1 a2 L w w' L 2 e := by
  have HMA : Hid _ := hma
  have HDO : Hid _ := hdo
  have HFU : Hid _ := hfu
  obtain ⟨W, hW⟩ : ∃ W, ((w.alloc (.cells #[.slice a0 n0 c0, .slice a1 n1 c1, .slice a2 n2 c2, .int .i64 ops] 26)).alloc (.cells #[.int .i64 ok, .string osk, .string ol, .string ot, .int .i64 oq, .int .i64 id, .int .i64 od] 28)).alloc (.cells #[.slice none 0 0, .slice none 0 0, .slice none 0 0, .int .i64 0] 26) = W := ⟨_, rfl⟩
  have HC : Hid (CellsF W w.heap.size [.slice a0 n0 c0, .slice a1 n1 c1, .slice a2 n2 c2, .int .i64 ops] ∧ CellsF W (w.heap.size + 1) [.int .i64 ok, .string osk, .string ol, .string ot, .int .i64 oq, .int .i64 id, .int .i64 od] ∧ CellsF W (w.heap.size + 1 + 1) [.slice none 0 0, .slice none 0 0, .slice none 0 0, .int .i64 0] ∧ Below w.heap.size w W) := by
    show _ ∧ _
    rw [← hW]
    exact ⟨((CellsF.at _ 26 (by simp) rfl).next (below1 _ _)).next (below1 _ _), (CellsF.at _ 28 (by simp) (by rw [size_alloc])).next (below1 _ _), CellsF.at _ 26 (by simp) (by rw [size_alloc, size_alloc]), below3 _ _ _ _⟩
  have HL : Hid (L.ops = ops ∧ L.S.length = n0 ∧ L.H.length = n1 ∧ L.M.length = n2 ∧ n1 ≤ c1) := ⟨hops, h0, h1, h2, hcap⟩
  have HNA : Hid (NotAt (w.heap.size + 1 + 1) a0 a1 a2 L) := notAt_of hr (by omega)
  have HR : Hid (Lies w a0 a1 a2 L) := hr
  have l0 := (HC.out.1).cs 0 _ rfl
  have l1 := (HC.out.1).cs 1 _ rfl
  have l2 := (HC.out.1).cs 2 _ rfl
  have l3 := (HC.out.1).cs 3 _ rfl
  have o0 := (HC.out.2.1).cs 0 _ rfl
  have o1 := (HC.out.2.1).cs 1 _ rfl
  have o2 := (HC.out.2.1).cs 2 _ rfl
  have o3 := (HC.out.2.1).cs 3 _ rfl
  have o4 := (HC.out.2.1).cs 4 _ rfl
  have o5 := (HC.out.2.1).cs 5 _ rfl
  have o6 := (HC.out.2.1).cs 6 _ rfl
  clear hr hma hdo hfu hops h0 h1 h2 hcap
  go_enter Try.func30, Try.ntmps30
  go_wp2_with fail
  try rw [hW]
  go_wp2_with fail
  refine Calls.mono (HMA.out _) ?_; rintro e w3 ⟨rfl, k3⟩
  have HK3 : Hid (Below W.heap.size W w3) := k3
  clear k3 hW l0 l1 l2 l3 o0 o1 o2 o3 o4 o5 o6
  have hq1 := HC.out.1.next HK3.out
  have hq2 := HC.out.2.1.next HK3.out
  have l0 := (hq1).cs 0 _ rfl
  have l1 := (hq1).cs 1 _ rfl
  have l2 := (hq1).cs 2 _ rfl
  have l3 := (hq1).cs 3 _ rfl
  have o0 := (hq2).cs 0 _ rfl
  have o1 := (hq2).cs 1 _ rfl
  have o2 := (hq2).cs 2 _ rfl
  have o3 := (hq2).cs 3 _ rfl
  have o4 := (hq2).cs 4 _ rfl
  have o5 := (hq2).cs 5 _ rfl
  have o6 := (hq2).cs 6 _ rfl
  clear hq1 hq2
  go_wp2_with fail
  refine Calls.mono (HDO.out _ (Below.next HC.out.2.2.2 HK3.out)) ?_; rintro e w5 ⟨b0, m0, d0, b1, m1, d1, b2, m2, d2, rfl, hl0, hl1, hl2, hli, hcp, k5, hsr⟩
  obtain ⟨W6, hW6⟩ : ∃ W6, w5.alloc (.cells #[.slice b0 m0 d0, .slice b1 m1 d1, .slice b2 m2 d2, .int .i64 M.ops] 26) = W6 := ⟨_, rfl⟩
  obtain ⟨Bn, hBn⟩ : ∃ Bn, w5.heap.size = Bn := ⟨_, rfl⟩
  have hk6 : Below W.heap.size W W6 := by rw [← hW6]; exact Below.next (Below.next HK3.out k5) (below1 _ _)
  have HK6 : Hid (Below W.heap.size W W6) := hk6
  have hnb : CellsF W6 Bn [.slice b0 m0 d0, .slice b1 m1 d1, .slice b2 m2 d2, .int .i64 M.ops] := by rw [← hW6, ← hBn]; exact CellsF.at _ 26 (by simp) rfl
  have HLI : Hid (M.S.length = m0 ∧ M.H.length = m1 ∧ M.M.length = m2 ∧ Lies W6 b0 b1 b2 M ∧ m1 ≤ d1 ∧ SrcL w a0 a1 a2 L b0 b1 b2 M ∧ NotAt (w.heap.size + 1 + 1) b0 b1 b2 M ∧ NotAt Bn b0 b1 b2 M ∧ (w.heap.size + 1 + 1) < Bn ∧ CellsF W6 Bn [.slice b0 m0 d0, .slice b1 m1 d1, .slice b2 m2 d2, .int .i64 M.ops]) := by
    have hsz : (w.heap.size + 1 + 1) < w3.heap.size := Nat.lt_of_lt_of_le HC.out.2.2.1.lt HK3.out.size
    refine ⟨hl0, hl1, hl2, ?_, hcp, hsr.mono (Nat.le_trans HC.out.2.2.2.size HK3.out.size), hsr.not hsz HNA.out, ?_, ?_, hnb⟩
    · rw [← hW6]; exact hli.next (below1 _ _)
    · exact notAt_of hli (by omega)
    · have := k5.size; omega
  have q0 := (hnb).cs 0 _ rfl
  have q1 := (hnb).cs 1 _ rfl
  have q2 := (hnb).cs 2 _ rfl
  have q3 := (hnb).cs 3 _ rfl
  have f0 := (hnb).fz 0
  have f1 := (hnb).fz 1
  have f2 := (hnb).fz 2
  have f3 := (hnb).fz 3
  clear hl0 hl1 hl2 hli hcp k5 hsr hk6 hnb l0 l1 l2 l3 o0 o1 o2 o3 o4 o5 o6
  have hq1 := HC.out.1.next HK6.out
  have hq2 := HC.out.2.1.next HK6.out
  have l0 := (hq1).cs 0 _ rfl
  have l1 := (hq1).cs 1 _ rfl
  have l2 := (hq1).cs 2 _ rfl
  have l3 := (hq1).cs 3 _ rfl
  have o0 := (hq2).cs 0 _ rfl
  have o1 := (hq2).cs 1 _ rfl
  have o2 := (hq2).cs 2 _ rfl
  have o3 := (hq2).cs 3 _ rfl
  have o4 := (hq2).cs 4 _ rfl
  have o5 := (hq2).cs 5 _ rfl
  have o6 := (hq2).cs 6 _ rfl
  clear hq1 hq2
  go_wp2_with fail
  refine Calls.mono (HFU.out _ _ _ _ _ _ _ _ _ _ _ HLI.out.1 HLI.out.2.1 HLI.out.2.2.1) ?_; rintro e w7 ⟨rfl, k7⟩
  have HK7 : Hid (Below W.heap.size W w7) := Below.next HK6.out k7
  have HN7 : Hid (CellsF w7 Bn [.slice b0 m0 d0, .slice b1 m1 d1, .slice b2 m2 d2, .int .i64 M.ops] ∧ Lies w7 b0 b1 b2 M) := ⟨HLI.out.2.2.2.2.2.2.2.2.2.next k7, HLI.out.2.2.2.1.next k7⟩
  clear k7 l0 l1 l2 l3 o0 o1 o2 o3 o4 o5 o6 q0 q1 q2 q3 f0 f1 f2 f3 hW6 hBn
  have hq1 := HC.out.1.next HK7.out
  have hq2 := HC.out.2.1.next HK7.out
  have l0 := (hq1).cs 0 _ rfl
  have l1 := (hq1).cs 1 _ rfl
  have l2 := (hq1).cs 2 _ rfl
  have l3 := (hq1).cs 3 _ rfl
  have o0 := (hq2).cs 0 _ rfl
  have o1 := (hq2).cs 1 _ rfl
  have o2 := (hq2).cs 2 _ rfl
  have o3 := (hq2).cs 3 _ rfl
  have o4 := (hq2).cs 4 _ rfl
  have o5 := (hq2).cs 5 _ rfl
  have o6 := (hq2).cs 6 _ rfl
  clear hq1 hq2
  have hz4 := HC.out.2.2.1.next HK7.out
  have HCZ : Hid (CellsF w7 (w.heap.size + 1 + 1) [.slice none 0 0, .slice none 0 0, .slice none 0 0, .int .i64 0]) := hz4
  have HFIN : Hid (∀ u0 u1 u2 u3, Lies ((((w7.setCell ⟨(w.heap.size + 1 + 1), 0, none⟩ u0).setCell ⟨(w.heap.size + 1 + 1), 1, none⟩ u1).setCell ⟨(w.heap.size + 1 + 1), 2, none⟩ u2).setCell ⟨(w.heap.size + 1 + 1), 3, none⟩ u3) a0 a1 a2 L ∧ Below w.heap.size w ((((w7.setCell ⟨(w.heap.size + 1 + 1), 0, none⟩ u0).setCell ⟨(w.heap.size + 1 + 1), 1, none⟩ u1).setCell ⟨(w.heap.size + 1 + 1), 2, none⟩ u2).setCell ⟨(w.heap.size + 1 + 1), 3, none⟩ u3)) := fun u0 u1 u2 u3 => ⟨(HR.out.next (Below.next HC.out.2.2.2 HK7.out)).four HNA.out _ _ _ _, below_four (Below.next HC.out.2.2.2 HK7.out) _ (by omega) _ _ _ _⟩
  have z0 := (hz4).cs 0 _ rfl
  have z1 := (hz4).cs 1 _ rfl
  have z2 := (hz4).cs 2 _ rfl
  have z3 := (hz4).cs 3 _ rfl
  have g0 := (hz4).fz 0
  have g1 := (hz4).fz 1
  have g2 := (hz4).fz 2
  have g3 := (hz4).fz 3
  clear hz4
  go_wp2_with fail
  try simp only [Exit.inBlock, Exit.then]
  refine bodyPost_ret (end_cell_tmp rfl rfl (loadLed _ (HCZ.out.four rfl _ _ _ _) rfl)) rfl ?_
  exact ⟨_, _, _, _, _, _, _, _, _, by rw [HL.out.1]; rfl, HL.out.2.1, HL.out.2.2.1, HL.out.2.2.2.1, (HFIN.out _ _ _ _).1, HL.out.2.2.2.2, (HFIN.out _ _ _ _).2, SrcL.refl _ _ _ _ _⟩
set_option maxHeartbeats 4000000 in
theorem rstep_yes (a0 : Option Addr) (n0 c0 : Nat) (a1 : Option Addr) (n1 c1 : Nat) (a2 : Option Addr) (n2 c2 : Nat) (ops : Int) (L : Led) (ok : Int) (osk ol ot : ByteArray) (oq id od : Int) (w : World) (hma : ∀ w', Calls Try.prog 27 #[.agg #[.int .i64 ok, .string osk, .string ol, .string ot, .int .i64 oq, .int .i64 id, .int .i64 od]] w' fun e w'' => e = .returned (.bool true) ∧ Below w'.heap.size w' w'') (M : Led) (hdo : ∀ w', Below w.heap.size w w' → Calls Try.prog 28 #[.agg #[.slice a0 n0 c0, .slice a1 n1 c1, .slice a2 n2 c2, .int .i64 ops], .agg #[.int .i64 ok, .string osk, .string ol, .string ot, .int .i64 oq, .int .i64 id, .int .i64 od]] w' fun e w'' => LeP a0 a1 a2 L w' w'' M 0 e) (hfu : ∀ w' b0 m0 d0 b1 m1 d1 b2 m2 d2 ops', M.S.length = m0 → M.H.length = m1 → M.M.length = m2 → Calls Try.prog 29 #[.agg #[.slice b0 m0 d0, .slice b1 m1 d1, .slice b2 m2 d2, .int .i64 ops']] w' fun e w'' => e = .returned (.bool false) ∧ Below w'.heap.size w' w'') (hmany : ¬ 4611686018427387904 ≤ ops) (hpos : 0 ≤ ops) (hr : Lies w a0 a1 a2 L) (hops : L.ops = ops) (h0 : L.S.length = n0) (h1 : L.H.length = n1) (h2 : L.M.length = n2) (hcap : n1 ≤ c1) :
    Calls Try.prog 30 #[.agg #[.slice a0 n0 c0, .slice a1 n1 c1, .slice a2 n2 c2, .int .i64 ops], .agg #[.int .i64 ok, .string osk, .string ol, .string ot, .int .i64 oq, .int .i64 id, .int .i64 od]] w fun e w' => LeP a0 a1 a2 L w w' { M with ops := ops + 1 } 0 e := by
  have HMA : Hid _ := hma
  have HDO : Hid _ := hdo
  have HFU : Hid _ := hfu
  obtain ⟨W, hW⟩ : ∃ W, ((w.alloc (.cells #[.slice a0 n0 c0, .slice a1 n1 c1, .slice a2 n2 c2, .int .i64 ops] 26)).alloc (.cells #[.int .i64 ok, .string osk, .string ol, .string ot, .int .i64 oq, .int .i64 id, .int .i64 od] 28)).alloc (.cells #[.slice none 0 0, .slice none 0 0, .slice none 0 0, .int .i64 0] 26) = W := ⟨_, rfl⟩
  have HC : Hid (CellsF W w.heap.size [.slice a0 n0 c0, .slice a1 n1 c1, .slice a2 n2 c2, .int .i64 ops] ∧ CellsF W (w.heap.size + 1) [.int .i64 ok, .string osk, .string ol, .string ot, .int .i64 oq, .int .i64 id, .int .i64 od] ∧ CellsF W (w.heap.size + 1 + 1) [.slice none 0 0, .slice none 0 0, .slice none 0 0, .int .i64 0] ∧ Below w.heap.size w W) := by
    show _ ∧ _
    rw [← hW]
    exact ⟨((CellsF.at _ 26 (by simp) rfl).next (below1 _ _)).next (below1 _ _), (CellsF.at _ 28 (by simp) (by rw [size_alloc])).next (below1 _ _), CellsF.at _ 26 (by simp) (by rw [size_alloc, size_alloc]), below3 _ _ _ _⟩
  have HL : Hid (L.ops = ops ∧ L.S.length = n0 ∧ L.H.length = n1 ∧ L.M.length = n2 ∧ n1 ≤ c1) := ⟨hops, h0, h1, h2, hcap⟩
  have HNA : Hid (NotAt (w.heap.size + 1 + 1) a0 a1 a2 L) := notAt_of hr (by omega)
  have HR : Hid (Lies w a0 a1 a2 L) := hr
  have l0 := (HC.out.1).cs 0 _ rfl
  have l1 := (HC.out.1).cs 1 _ rfl
  have l2 := (HC.out.1).cs 2 _ rfl
  have l3 := (HC.out.1).cs 3 _ rfl
  have o0 := (HC.out.2.1).cs 0 _ rfl
  have o1 := (HC.out.2.1).cs 1 _ rfl
  have o2 := (HC.out.2.1).cs 2 _ rfl
  have o3 := (HC.out.2.1).cs 3 _ rfl
  have o4 := (HC.out.2.1).cs 4 _ rfl
  have o5 := (HC.out.2.1).cs 5 _ rfl
  have o6 := (HC.out.2.1).cs 6 _ rfl
  clear hr hma hdo hfu hops h0 h1 h2 hcap
  go_enter Try.func30, Try.ntmps30
  go_wp2_with fail
  try rw [hW]
  go_wp2_with fail
  refine Calls.mono (HMA.out _) ?_; rintro e w3 ⟨rfl, k3⟩
  have HK3 : Hid (Below W.heap.size W w3) := k3
  clear k3 hW l0 l1 l2 l3 o0 o1 o2 o3 o4 o5 o6
  have hq1 := HC.out.1.next HK3.out
  have hq2 := HC.out.2.1.next HK3.out
  have l0 := (hq1).cs 0 _ rfl
  have l1 := (hq1).cs 1 _ rfl
  have l2 := (hq1).cs 2 _ rfl
  have l3 := (hq1).cs 3 _ rfl
  have o0 := (hq2).cs 0 _ rfl
  have o1 := (hq2).cs 1 _ rfl
  have o2 := (hq2).cs 2 _ rfl
  have o3 := (hq2).cs 3 _ rfl
  have o4 := (hq2).cs 4 _ rfl
  have o5 := (hq2).cs 5 _ rfl
  have o6 := (hq2).cs 6 _ rfl
  clear hq1 hq2
  go_wp2_with fail
  refine Calls.mono (HDO.out _ (Below.next HC.out.2.2.2 HK3.out)) ?_; rintro e w5 ⟨b0, m0, d0, b1, m1, d1, b2, m2, d2, rfl, hl0, hl1, hl2, hli, hcp, k5, hsr⟩
  obtain ⟨W6, hW6⟩ : ∃ W6, w5.alloc (.cells #[.slice b0 m0 d0, .slice b1 m1 d1, .slice b2 m2 d2, .int .i64 M.ops] 26) = W6 := ⟨_, rfl⟩
  obtain ⟨Bn, hBn⟩ : ∃ Bn, w5.heap.size = Bn := ⟨_, rfl⟩
  have hk6 : Below W.heap.size W W6 := by rw [← hW6]; exact Below.next (Below.next HK3.out k5) (below1 _ _)
  have HK6 : Hid (Below W.heap.size W W6) := hk6
  have hnb : CellsF W6 Bn [.slice b0 m0 d0, .slice b1 m1 d1, .slice b2 m2 d2, .int .i64 M.ops] := by rw [← hW6, ← hBn]; exact CellsF.at _ 26 (by simp) rfl
  have HLI : Hid (M.S.length = m0 ∧ M.H.length = m1 ∧ M.M.length = m2 ∧ Lies W6 b0 b1 b2 M ∧ m1 ≤ d1 ∧ SrcL w a0 a1 a2 L b0 b1 b2 M ∧ NotAt (w.heap.size + 1 + 1) b0 b1 b2 M ∧ NotAt Bn b0 b1 b2 M ∧ (w.heap.size + 1 + 1) < Bn ∧ CellsF W6 Bn [.slice b0 m0 d0, .slice b1 m1 d1, .slice b2 m2 d2, .int .i64 M.ops]) := by
    have hsz : (w.heap.size + 1 + 1) < w3.heap.size := Nat.lt_of_lt_of_le HC.out.2.2.1.lt HK3.out.size
    refine ⟨hl0, hl1, hl2, ?_, hcp, hsr.mono (Nat.le_trans HC.out.2.2.2.size HK3.out.size), hsr.not hsz HNA.out, ?_, ?_, hnb⟩
    · rw [← hW6]; exact hli.next (below1 _ _)
    · exact notAt_of hli (by omega)
    · have := k5.size; omega
  have q0 := (hnb).cs 0 _ rfl
  have q1 := (hnb).cs 1 _ rfl
  have q2 := (hnb).cs 2 _ rfl
  have q3 := (hnb).cs 3 _ rfl
  have f0 := (hnb).fz 0
  have f1 := (hnb).fz 1
  have f2 := (hnb).fz 2
  have f3 := (hnb).fz 3
  clear hl0 hl1 hl2 hli hcp k5 hsr hk6 hnb l0 l1 l2 l3 o0 o1 o2 o3 o4 o5 o6
  have hq1 := HC.out.1.next HK6.out
  have hq2 := HC.out.2.1.next HK6.out
  have l0 := (hq1).cs 0 _ rfl
  have l1 := (hq1).cs 1 _ rfl
  have l2 := (hq1).cs 2 _ rfl
  have l3 := (hq1).cs 3 _ rfl
  have o0 := (hq2).cs 0 _ rfl
  have o1 := (hq2).cs 1 _ rfl
  have o2 := (hq2).cs 2 _ rfl
  have o3 := (hq2).cs 3 _ rfl
  have o4 := (hq2).cs 4 _ rfl
  have o5 := (hq2).cs 5 _ rfl
  have o6 := (hq2).cs 6 _ rfl
  clear hq1 hq2
  go_wp2_with fail
  refine Calls.mono (HFU.out _ _ _ _ _ _ _ _ _ _ _ HLI.out.1 HLI.out.2.1 HLI.out.2.2.1) ?_; rintro e w7 ⟨rfl, k7⟩
  have HK7 : Hid (Below W.heap.size W w7) := Below.next HK6.out k7
  have HN7 : Hid (CellsF w7 Bn [.slice b0 m0 d0, .slice b1 m1 d1, .slice b2 m2 d2, .int .i64 M.ops] ∧ Lies w7 b0 b1 b2 M) := ⟨HLI.out.2.2.2.2.2.2.2.2.2.next k7, HLI.out.2.2.2.1.next k7⟩
  clear k7 l0 l1 l2 l3 o0 o1 o2 o3 o4 o5 o6 q0 q1 q2 q3 f0 f1 f2 f3 hW6 hBn
  have hq1 := HC.out.1.next HK7.out
  have hq2 := HC.out.2.1.next HK7.out
  have l0 := (hq1).cs 0 _ rfl
  have l1 := (hq1).cs 1 _ rfl
  have l2 := (hq1).cs 2 _ rfl
  have l3 := (hq1).cs 3 _ rfl
  have o0 := (hq2).cs 0 _ rfl
  have o1 := (hq2).cs 1 _ rfl
  have o2 := (hq2).cs 2 _ rfl
  have o3 := (hq2).cs 3 _ rfl
  have o4 := (hq2).cs 4 _ rfl
  have o5 := (hq2).cs 5 _ rfl
  have o6 := (hq2).cs 6 _ rfl
  clear hq1 hq2
  have hn7 := HN7.out.1
  have hc7 := HC.out.2.2.1.next HK7.out
  obtain ⟨Y, hY⟩ : ∃ Y, w7.setCell ⟨Bn, 3, none⟩ (.int .i64 (ops + 1)) = Y := ⟨_, rfl⟩
  have hlt := HLI.out.2.2.2.2.2.2.2.2.1
  have HY : Hid (CellsF Y Bn [.slice b0 m0 d0, .slice b1 m1 d1, .slice b2 m2 d2, .int .i64 (ops + 1)] ∧ CellsF Y (w.heap.size + 1 + 1) [.slice none 0 0, .slice none 0 0, .slice none 0 0, .int .i64 0] ∧ Lies Y b0 b1 b2 M ∧ Below w.heap.size w Y) := by
    show _ ∧ _
    rw [← hY]
    have hnn := HLI.out.2.2.2.2.2.2.2.1
    have hfar : ∀ {g : Nat}, g ≠ Bn → (w7.setCell ⟨Bn, 3, none⟩ (.int .i64 (ops + 1))).heap[g]? = w7.heap[g]? := fun hg => Below.heap_setCell _ _ _ _ hg
    refine ⟨hn7.set 3 _ (by simp), hc7.far (hfar (by omega)), ⟨HN7.out.2.S.far (fun b' o' e hne => hfar (hnn.S hne b' o' e)), HN7.out.2.H.far (fun b' o' e hne => hfar (hnn.H hne b' o' e)), HN7.out.2.M.far (fun b' o' e hne => hfar (hnn.M hne b' o' e))⟩, below_set (Below.next HC.out.2.2.2 HK7.out) _ _ _ (by omega)⟩
  have HFIN : Hid (∀ u0 u1 u2 u3, Lies ((((Y.setCell ⟨(w.heap.size + 1 + 1), 0, none⟩ u0).setCell ⟨(w.heap.size + 1 + 1), 1, none⟩ u1).setCell ⟨(w.heap.size + 1 + 1), 2, none⟩ u2).setCell ⟨(w.heap.size + 1 + 1), 3, none⟩ u3) b0 b1 b2 { M with ops := ops + 1 } ∧ Below w.heap.size w ((((Y.setCell ⟨(w.heap.size + 1 + 1), 0, none⟩ u0).setCell ⟨(w.heap.size + 1 + 1), 1, none⟩ u1).setCell ⟨(w.heap.size + 1 + 1), 2, none⟩ u2).setCell ⟨(w.heap.size + 1 + 1), 3, none⟩ u3)) := fun u0 u1 u2 u3 => by
    have h9 := HY.out.2.2.1.four HLI.out.2.2.2.2.2.2.1 u0 u1 u2 u3
    exact ⟨⟨h9.S, h9.H, h9.M⟩, below_four HY.out.2.2.2 _ (by omega) _ _ _ _⟩
  have HSR : Hid (SrcL w a0 a1 a2 L b0 b1 b2 { M with ops := ops + 1 }) := ⟨HLI.out.2.2.2.2.2.1.S, HLI.out.2.2.2.2.2.1.H, HLI.out.2.2.2.2.2.1.M⟩
  have HCZ : Hid (CellsF Y (w.heap.size + 1 + 1) [.slice none 0 0, .slice none 0 0, .slice none 0 0, .int .i64 0]) := HY.out.2.1
  have n0 := (hn7).cs 0 _ rfl
  have n1 := (hn7).cs 1 _ rfl
  have n2 := (hn7).cs 2 _ rfl
  have n3 := (hn7).cs 3 _ rfl
  have nf0 := (hn7).fz 0
  have nf1 := (hn7).fz 1
  have nf2 := (hn7).fz 2
  have nf3 := (hn7).fz 3
  have y0 := (HY.out.1).cs 0 _ rfl
  have y1 := (HY.out.1).cs 1 _ rfl
  have y2 := (HY.out.1).cs 2 _ rfl
  have y3 := (HY.out.1).cs 3 _ rfl
  have z0 := (HY.out.2.1).cs 0 _ rfl
  have z1 := (HY.out.2.1).cs 1 _ rfl
  have z2 := (HY.out.2.1).cs 2 _ rfl
  have z3 := (HY.out.2.1).cs 3 _ rfl
  have g0 := (HY.out.2.1).fz 0
  have g1 := (HY.out.2.1).fz 1
  have g2 := (HY.out.2.1).fz 2
  have g3 := (HY.out.2.1).fz 3
  clear hn7 hc7 hlt
  go_wp2_with fail
  try simp only [Exit.inBlock, Exit.then]
  refine bodyPost_ret (end_cell_tmp rfl rfl (loadLed _ (HCZ.out.four rfl _ _ _ _) rfl)) rfl ?_
  exact ⟨_, _, _, _, _, _, _, _, _, rfl, HLI.out.1, HLI.out.2.1, HLI.out.2.2.1, (HFIN.out _ _ _ _).1, HLI.out.2.2.2.2.1, (HFIN.out _ _ _ _).2, HSR.out⟩
end Go.Proofs.Ytflbcheofmljeaa

namespace Go.Proofs.Ytflbcheofmljeaa
open Go.ChangeShapes Go.WideShapes Go.RowKit
set_option linter.unusedVariables false
set_option maxRecDepth 100000

theorem RArgs.next {w w' : World} {a0 : Option Addr} {n0 c0 : Nat} {a1 : Option Addr} {n1 c1 : Nat} {a2 : Option Addr} {n2 c2 : Nat} {L : Led} (h : RArgs w a0 n0 c0 a1 n1 c1 a2 n2 c2 L) (b : Below w.heap.size w w') : RArgs w' a0 n0 c0 a1 n1 c1 a2 n2 c2 L := ⟨h.h0, h.h1, h.h2, h.cap, h.li.next b⟩
theorem full_of {M : Led} {b : Bool} (h : decide (¬ room M 0 0 0) = b) : ∀ (w' : World) (b0 : Option Addr) (m0 d0 : Nat) (b1 : Option Addr) (m1 d1 : Nat) (b2 : Option Addr) (m2 d2 : Nat) (ops' : Int), M.S.length = m0 → M.H.length = m1 → M.M.length = m2 → Calls Try.prog 29 #[.agg #[.slice b0 m0 d0, .slice b1 m1 d1, .slice b2 m2 d2, .int .i64 ops']] w' fun e w'' => e = .returned (.bool b) ∧ Below w'.heap.size w' w'' := by
  intro w' b0 m0 d0 b1 m1 d1 b2 m2 d2 ops' e0 e1 e2
  have := rfull_is b0 m0 d0 b1 m1 d1 b2 m2 d2 ops' w'
  have e3 : decide (¬ room3 m0 m1 m2 0 0 0) = b := by
    rw [← h]
    subst e0; subst e1; subst e2
    rfl
  rw [e3] at this
  exact this
/-- A ledger behind an operation, or as it was. -/
def stL (L : Led) (o : Opn) : Led := if doE L o = 0 then doL L o else L
theorem rstep_is {w : World} {a0 : Option Addr} {n0 c0 : Nat} {a1 : Option Addr} {n1 c1 : Nat} {a2 : Option Addr} {n2 c2 : Nat} {L : Led} (h : RArgs w a0 n0 c0 a1 n1 c1 a2 n2 c2 L) (hm : mayL L) (hf : L.fit) (o : Opn) (ho : o.fit) :
    Calls Try.prog 30 #[.agg #[.slice a0 n0 c0, .slice a1 n1 c1, .slice a2 n2 c2, .int .i64 L.ops], oval o] w fun e w' => LeP a0 a1 a2 L w w' (stL L o) (doE L o) e := by
  have hma : ∀ w', Calls Try.prog 27 #[oval o] w' fun e w'' => e = .returned (.bool (decide o.may)) ∧ Below w'.heap.size w' w'' := fun w' => refMayO_is o.k o.sku o.loc (Opn.to o) o.qty o.id o.due w'
  by_cases hom : o.may
  · rw [decide_eq_true hom] at hma
    have hdo : ∀ w', Below w.heap.size w w' → Calls Try.prog 28 #[.agg #[.slice a0 n0 c0, .slice a1 n1 c1, .slice a2 n2 c2, .int .i64 L.ops], oval o] w' fun e w'' => LeP a0 a1 a2 L w' w'' (rL L o) (rE L o) e := fun w' b => rdoes_is (h.next b) hm hf o ho hom
    by_cases hz : rE L o = 0
    · rw [rL_yes hz, hz] at hdo
      have he := err_yes hm hf hom hz
      by_cases hr : room (chL L o) 0 0 0
      · rw [if_pos hr] at he
        have hfu := full_of (M := chL L o) (b := false) (decide_eq_false (fun e => e hr))
        by_cases hmany : 4611686018427387904 ≤ L.ops
        · have e1 : doE L o = 2 := by unfold doE; rw [if_pos hom, if_pos he, if_pos hmany]
          have e2 : stL L o = L := by unfold stL; rw [e1, if_neg (by decide)]
          rw [e1, e2]
          exact rstep_many a0 n0 c0 a1 n1 c1 a2 n2 c2 L.ops L o.k o.sku o.loc (Opn.to o) o.qty o.id o.due w hma _ hdo hfu hmany h.li rfl h.h0 h.h1 h.h2 h.cap
        · have e1 : doE L o = 0 := by unfold doE; rw [if_pos hom, if_pos he, if_neg hmany]
          have e2 : stL L o = { chL L o with ops := L.ops + 1 } := by unfold stL; rw [e1, if_pos rfl]; rfl
          rw [e1, e2]
          exact rstep_yes a0 n0 c0 a1 n1 c1 a2 n2 c2 L.ops L o.k o.sku o.loc (Opn.to o) o.qty o.id o.due w hma _ hdo hfu hmany hm.ops h.li rfl h.h0 h.h1 h.h2 h.cap
      · rw [if_neg hr] at he
        have hfu := full_of (M := chL L o) (b := true) (decide_eq_true hr)
        have e1 : doE L o = 2 := by unfold doE; rw [if_pos hom, he, if_neg (by decide)]
        have e2 : stL L o = L := by unfold stL; rw [e1, if_neg (by decide)]
        rw [e1, e2]
        exact rstep_full a0 n0 c0 a1 n1 c1 a2 n2 c2 L.ops L o.k o.sku o.loc (Opn.to o) o.qty o.id o.due w hma _ hdo hfu h.li rfl h.h0 h.h1 h.h2 h.cap
    · have he := err_no hm hf hom hz
      have e1 : doE L o = rE L o := by unfold doE; rw [if_pos hom, he, if_neg hz]
      have e2 : stL L o = L := by unfold stL; rw [e1, if_neg hz]
      rw [e1, e2]
      exact rstep_no a0 n0 c0 a1 n1 c1 a2 n2 c2 L.ops L o.k o.sku o.loc (Opn.to o) o.qty o.id o.due w hma _ _ hz hdo h.li rfl h.h0 h.h1 h.h2 h.cap
  · rw [decide_eq_false hom] at hma
    have e1 : doE L o = 1 := by unfold doE; rw [if_neg hom]
    have e2 : stL L o = L := by unfold stL; rw [e1, if_neg (by decide)]
    rw [e1, e2]
    exact rstep_arg a0 n0 c0 a1 n1 c1 a2 n2 c2 L.ops L o.k o.sku o.loc (Opn.to o) o.qty o.id o.due w hma h.li rfl h.h0 h.h1 h.h2 h.cap
end Go.Proofs.Ytflbcheofmljeaa

namespace Go.Proofs.Ytflbcheofmljeaa
open Go.ChangeShapes Go.WideShapes Go.RowKit
set_option linter.unusedVariables false
set_option maxRecDepth 100000

theorem RArgs.four {w' : World} {a0 : Option Addr} {an0 ac0 : Nat} {a1 : Option Addr} {an1 ac1 : Nat} {a2 : Option Addr} {an2 ac2 : Nat} {L : Led} (h : RArgs w' a0 an0 ac0 a1 an1 ac1 a2 an2 ac2 L) {N : Nat} (hn : NotAt N a0 a1 a2 L) (u0 u1 u2 u3 : Value) : RArgs ((((w'.setCell ⟨N, 0, none⟩ u0).setCell ⟨N, 1, none⟩ u1).setCell ⟨N, 2, none⟩ u2).setCell ⟨N, 3, none⟩ u3) a0 an0 ac0 a1 an1 ac1 a2 an2 ac2 L := ⟨h.h0, h.h1, h.h2, h.cap, h.li.four hn _ _ _ _⟩
theorem RArgs.no (w : World) : RArgs w none 0 0 none 0 0 none 0 0 noL := ⟨rfl, rfl, rfl, Nat.le_refl _, ⟨Rw.nil _ _ _ _, Rw.nil _ _ _ _, Rw.nil _ _ _ _⟩⟩
theorem NotAt.no (N : Nat) : NotAt N none none none noL := ⟨fun h => absurd rfl h, fun h => absurd rfl h, fun h => absurd rfl h⟩
/-- What the document's Replay answers. -/
def RqP (w w' : World) (r : Led × Int × Int) (e : Ending) : Prop :=
  ∃ a0 an0 ac0 a1 an1 ac1 a2 an2 ac2, e = .returned (.tuple #[.agg #[.slice a0 an0 ac0, .slice a1 an1 ac1, .slice a2 an2 ac2, .int .i64 r.1.ops], .int .i64 r.2.1, .int .i64 r.2.2]) ∧ RArgs w' a0 an0 ac0 a1 an1 ac1 a2 an2 ac2 r.1 ∧ Below w.heap.size w w'
set_option maxHeartbeats 8000000 in
theorem rreplay_is (ap : Option Addr) (n cp : Nat) (l : List Opn) (hl : l.length = n) (hn : n ≤ 40) (hlf : ∀ o, o ∈ l → o.fit) (w : World) (hro : Rw opv 7 w ap l) :
    Calls Try.prog 17 #[.agg #[.slice none 0 0, .slice none 0 0, .slice none 0 0, .int .i64 0], .slice ap n cp] w fun e w' => RqP w w' (rpL noL l) e := by
  obtain ⟨r, hrp⟩ : ∃ r, rpL noL l = r := ⟨_, rfl⟩
  rw [hrp]
  have HM : Hid (l.length = n ∧ (∀ o, o ∈ l → o.fit) ∧ Rw opv 7 w ap l ∧ rpL noL l = r) := ⟨hl, hlf, hro, hrp⟩
  have HMA : Hid (∀ w', Calls Try.prog 18 #[.agg #[.slice none 0 0, .slice none 0 0, .slice none 0 0, .int .i64 0]] w' fun e w'' => e = .returned (.bool true) ∧ Below w'.heap.size w' w'') := fun w' => refMay_yes none 0 0 none 0 0 none 0 0 noL rfl rfl rfl (by omega) (by omega) (by omega) no_fit no_may w' (RArgs.no w').li
  have HI0 : Hid (∀ t s, Below w.heap.size w ((w.alloc (.cells #[.slice none 0 0, .slice none 0 0, .slice none 0 0, .int .i64 0] t)).alloc (.cells #[.slice none 0 0, .slice none 0 0, .slice none 0 0, .int .i64 0] s)) ∧ CellsF ((w.alloc (.cells #[.slice none 0 0, .slice none 0 0, .slice none 0 0, .int .i64 0] t)).alloc (.cells #[.slice none 0 0, .slice none 0 0, .slice none 0 0, .int .i64 0] s)) w.heap.size [.slice none 0 0, .slice none 0 0, .slice none 0 0, .int .i64 0] ∧ CellsF ((w.alloc (.cells #[.slice none 0 0, .slice none 0 0, .slice none 0 0, .int .i64 0] t)).alloc (.cells #[.slice none 0 0, .slice none 0 0, .slice none 0 0, .int .i64 0] s)) (w.heap.size + 1) [.slice none 0 0, .slice none 0 0, .slice none 0 0, .int .i64 0]) := fun t s => ⟨below2 _ _ _, (CellsF.at _ t (by simp) rfl).next (below1 _ _), CellsF.at _ s (by simp) (by rw [size_alloc])⟩
  clear hl hlf hro hrp
  go_enter Try.func17, Try.ntmps17
  go_wp2_with fail
  refine Calls.mono (HMA.out _) ?_; rintro e w1 ⟨rfl, k1⟩
  have HJ : Hid (Below w.heap.size w w1 ∧ CellsF w1 w.heap.size [.slice none 0 0, .slice none 0 0, .slice none 0 0, .int .i64 0] ∧ CellsF w1 (w.heap.size + 1) [.slice none 0 0, .slice none 0 0, .slice none 0 0, .int .i64 0]) := ⟨Below.next (HI0.out _ _).1 k1, (HI0.out _ _).2.1.next k1, (HI0.out _ _).2.2.next k1⟩
  clear k1 HI0
  go_wp2_with fail
  go_loopw [7] (fun vi wr => ∃ (k : Nat) (a0 : Option Addr) (an0 ac0 : Nat) (a1 : Option Addr) (an1 ac1 : Nat) (a2 : Option Addr) (an2 ac2 : Nat) (L : Led), k ≤ n ∧ vi = .int .i64 k ∧ Hid (Below w.heap.size w wr) ∧ Hid (CellsF wr w.heap.size [.slice a0 an0 ac0, .slice a1 an1 ac1, .slice a2 an2 ac2, .int .i64 L.ops]) ∧ Hid (CellsF wr (w.heap.size + 1) [.slice none 0 0, .slice none 0 0, .slice none 0 0, .int .i64 0] ∧ NotAt w.heap.size a0 a1 a2 L ∧ NotAt (w.heap.size + 1) a0 a1 a2 L) ∧ Hid (RArgs wr a0 an0 ac0 a1 an1 ac1 a2 an2 ac2 L) ∧ Hid (mayL L ∧ L.fit) ∧ Hid (r = ((rpL L (l.drop k)).1, (rpL L (l.drop k)).2.1 + k, (rpL L (l.drop k)).2.2)))
    (fun vi _ => n - (intOf vi).toNat)
  case atStart => exact ⟨0, none, 0, 0, none, 0, 0, none, 0, 0, noL, Nat.zero_le _, rfl, HJ.out.1, HJ.out.2.1, ⟨HJ.out.2.2, NotAt.no _, NotAt.no _⟩, RArgs.no _, ⟨no_may, no_fit⟩, by show r = _; rw [List.drop_zero, HM.out.2.2.2]; simp⟩
  case round =>
    obtain ⟨k, a0, an0, ac0, a1, an1, ac1, a2, an2, ac2, L, hk, rfl, HB, HCL, HNA, HVL, HMY, HR⟩ := hrel
    by_cases hlt : k < n
    · have hlti : (k : Int) < (n : Int) := by omega
      have hkl : k < l.length := by have := HM.out.1; omega
      obtain ⟨b, o, hap, hb, hc⟩ := HM.out.2.2.1.opn (fun e => by rw [e] at hkl; simp at hkl)
      have hx := (hc k hkl).next (HB.out.block b hb)
      obtain ⟨x, hxk⟩ : ∃ x, l[k] = x := ⟨_, rfl⟩
      rw [hxk] at hx
      have HOF : Hid (x.fit) := by show x.fit; rw [← hxk]; exact HM.out.2.1 _ (List.getElem_mem hkl)
      have HOP : Hid (b < wr.heap.size ∧ OpnAt wr b (o + k * 7) x) := ⟨Nat.lt_of_lt_of_le hb HB.out.size, hx⟩
      have HDR : Hid (l.drop k = x :: l.drop (k + 1)) := by show _ = _; rw [← hxk]; exact List.drop_eq_getElem_cons hkl
      subst hap
      clear hc hb hxk hx
      obtain ⟨xk, xs, xl, xt, xq, xi, xd⟩ := x
      obtain ⟨err, herr⟩ : ∃ err, doE L ⟨xk, xs, xl, xt, xq, xi, xd⟩ = err := ⟨_, rfl⟩
      obtain ⟨N, hN⟩ : ∃ N, stL L ⟨xk, xs, xl, xt, xq, xi, xd⟩ = N := ⟨_, rfl⟩
      have HER : Hid (doE L ⟨xk, xs, xl, xt, xq, xi, xd⟩ = err) := herr
      have HNL : Hid (stL L ⟨xk, xs, xl, xt, xq, xi, xd⟩ = N) := hN
      clear herr hN
      have HS : Hid (∀ w' : World, Below wr.heap.size wr w' → (Below wr.heap.size wr w' ∧ w'.cell? ⟨w.heap.size, 0, none⟩ = some (.slice a0 an0 ac0) ∧ w'.cell? ⟨w.heap.size, 1, none⟩ = some (.slice a1 an1 ac1) ∧ w'.cell? ⟨w.heap.size, 2, none⟩ = some (.slice a2 an2 ac2) ∧ w'.cell? ⟨w.heap.size, 3, none⟩ = some (.int .i64 L.ops) ∧ w'.cell? ⟨b, o + k * 7, none⟩ = some (.int .i64 xk) ∧ w'.cell? ⟨b, o + k * 7 + 1, none⟩ = some (.string xs) ∧ w'.cell? ⟨b, o + k * 7 + 2, none⟩ = some (.string xl) ∧ w'.cell? ⟨b, o + k * 7 + 3, none⟩ = some (.string xt) ∧ w'.cell? ⟨b, o + k * 7 + 4, none⟩ = some (.int .i64 xq) ∧ w'.cell? ⟨b, o + k * 7 + 5, none⟩ = some (.int .i64 xi) ∧ w'.cell? ⟨b, o + k * 7 + 6, none⟩ = some (.int .i64 xd))) := fun w' kk => by
        have q := HCL.out.next kk
        have p := HOP.out.2.next (kk.block b HOP.out.1)
        exact ⟨kk, q.cs 0 _ rfl, q.cs 1 _ rfl, q.cs 2 _ rfl, q.cs 3 _ rfl, p.c0, p.c1, p.c2, p.c3, p.c4, p.c5, p.c6⟩
      have HSN : Hid (∀ w' w'' : World, (Below wr.heap.size wr w' ∧ w'.cell? ⟨w.heap.size, 0, none⟩ = some (.slice a0 an0 ac0) ∧ w'.cell? ⟨w.heap.size, 1, none⟩ = some (.slice a1 an1 ac1) ∧ w'.cell? ⟨w.heap.size, 2, none⟩ = some (.slice a2 an2 ac2) ∧ w'.cell? ⟨w.heap.size, 3, none⟩ = some (.int .i64 L.ops) ∧ w'.cell? ⟨b, o + k * 7, none⟩ = some (.int .i64 xk) ∧ w'.cell? ⟨b, o + k * 7 + 1, none⟩ = some (.string xs) ∧ w'.cell? ⟨b, o + k * 7 + 2, none⟩ = some (.string xl) ∧ w'.cell? ⟨b, o + k * 7 + 3, none⟩ = some (.string xt) ∧ w'.cell? ⟨b, o + k * 7 + 4, none⟩ = some (.int .i64 xq) ∧ w'.cell? ⟨b, o + k * 7 + 5, none⟩ = some (.int .i64 xi) ∧ w'.cell? ⟨b, o + k * 7 + 6, none⟩ = some (.int .i64 xd)) → Below w'.heap.size w' w'' → (Below wr.heap.size wr w'' ∧ w''.cell? ⟨w.heap.size, 0, none⟩ = some (.slice a0 an0 ac0) ∧ w''.cell? ⟨w.heap.size, 1, none⟩ = some (.slice a1 an1 ac1) ∧ w''.cell? ⟨w.heap.size, 2, none⟩ = some (.slice a2 an2 ac2) ∧ w''.cell? ⟨w.heap.size, 3, none⟩ = some (.int .i64 L.ops) ∧ w''.cell? ⟨b, o + k * 7, none⟩ = some (.int .i64 xk) ∧ w''.cell? ⟨b, o + k * 7 + 1, none⟩ = some (.string xs) ∧ w''.cell? ⟨b, o + k * 7 + 2, none⟩ = some (.string xl) ∧ w''.cell? ⟨b, o + k * 7 + 3, none⟩ = some (.string xt) ∧ w''.cell? ⟨b, o + k * 7 + 4, none⟩ = some (.int .i64 xq) ∧ w''.cell? ⟨b, o + k * 7 + 5, none⟩ = some (.int .i64 xi) ∧ w''.cell? ⟨b, o + k * 7 + 6, none⟩ = some (.int .i64 xd))) := fun w' w'' h kk => HS.out w'' (Below.next h.1 kk)
      have HSD : Hid (∀ w' : World, (Below wr.heap.size wr w' ∧ w'.cell? ⟨w.heap.size, 0, none⟩ = some (.slice a0 an0 ac0) ∧ w'.cell? ⟨w.heap.size, 1, none⟩ = some (.slice a1 an1 ac1) ∧ w'.cell? ⟨w.heap.size, 2, none⟩ = some (.slice a2 an2 ac2) ∧ w'.cell? ⟨w.heap.size, 3, none⟩ = some (.int .i64 L.ops) ∧ w'.cell? ⟨b, o + k * 7, none⟩ = some (.int .i64 xk) ∧ w'.cell? ⟨b, o + k * 7 + 1, none⟩ = some (.string xs) ∧ w'.cell? ⟨b, o + k * 7 + 2, none⟩ = some (.string xl) ∧ w'.cell? ⟨b, o + k * 7 + 3, none⟩ = some (.string xt) ∧ w'.cell? ⟨b, o + k * 7 + 4, none⟩ = some (.int .i64 xq) ∧ w'.cell? ⟨b, o + k * 7 + 5, none⟩ = some (.int .i64 xi) ∧ w'.cell? ⟨b, o + k * 7 + 6, none⟩ = some (.int .i64 xd)) → (Below wr.heap.size wr w'.drew ∧ w'.drew.cell? ⟨w.heap.size, 0, none⟩ = some (.slice a0 an0 ac0) ∧ w'.drew.cell? ⟨w.heap.size, 1, none⟩ = some (.slice a1 an1 ac1) ∧ w'.drew.cell? ⟨w.heap.size, 2, none⟩ = some (.slice a2 an2 ac2) ∧ w'.drew.cell? ⟨w.heap.size, 3, none⟩ = some (.int .i64 L.ops) ∧ w'.drew.cell? ⟨b, o + k * 7, none⟩ = some (.int .i64 xk) ∧ w'.drew.cell? ⟨b, o + k * 7 + 1, none⟩ = some (.string xs) ∧ w'.drew.cell? ⟨b, o + k * 7 + 2, none⟩ = some (.string xl) ∧ w'.drew.cell? ⟨b, o + k * 7 + 3, none⟩ = some (.string xt) ∧ w'.drew.cell? ⟨b, o + k * 7 + 4, none⟩ = some (.int .i64 xq) ∧ w'.drew.cell? ⟨b, o + k * 7 + 5, none⟩ = some (.int .i64 xi) ∧ w'.drew.cell? ⟨b, o + k * 7 + 6, none⟩ = some (.int .i64 xd))) := fun w' h => HSN.out w' _ h (Below.refl _ _).drew
      have HSA : Hid (∀ (w' : World) (z : Obj), (Below wr.heap.size wr w' ∧ w'.cell? ⟨w.heap.size, 0, none⟩ = some (.slice a0 an0 ac0) ∧ w'.cell? ⟨w.heap.size, 1, none⟩ = some (.slice a1 an1 ac1) ∧ w'.cell? ⟨w.heap.size, 2, none⟩ = some (.slice a2 an2 ac2) ∧ w'.cell? ⟨w.heap.size, 3, none⟩ = some (.int .i64 L.ops) ∧ w'.cell? ⟨b, o + k * 7, none⟩ = some (.int .i64 xk) ∧ w'.cell? ⟨b, o + k * 7 + 1, none⟩ = some (.string xs) ∧ w'.cell? ⟨b, o + k * 7 + 2, none⟩ = some (.string xl) ∧ w'.cell? ⟨b, o + k * 7 + 3, none⟩ = some (.string xt) ∧ w'.cell? ⟨b, o + k * 7 + 4, none⟩ = some (.int .i64 xq) ∧ w'.cell? ⟨b, o + k * 7 + 5, none⟩ = some (.int .i64 xi) ∧ w'.cell? ⟨b, o + k * 7 + 6, none⟩ = some (.int .i64 xd)) → (Below wr.heap.size wr (w'.alloc z) ∧ (w'.alloc z).cell? ⟨w.heap.size, 0, none⟩ = some (.slice a0 an0 ac0) ∧ (w'.alloc z).cell? ⟨w.heap.size, 1, none⟩ = some (.slice a1 an1 ac1) ∧ (w'.alloc z).cell? ⟨w.heap.size, 2, none⟩ = some (.slice a2 an2 ac2) ∧ (w'.alloc z).cell? ⟨w.heap.size, 3, none⟩ = some (.int .i64 L.ops) ∧ (w'.alloc z).cell? ⟨b, o + k * 7, none⟩ = some (.int .i64 xk) ∧ (w'.alloc z).cell? ⟨b, o + k * 7 + 1, none⟩ = some (.string xs) ∧ (w'.alloc z).cell? ⟨b, o + k * 7 + 2, none⟩ = some (.string xl) ∧ (w'.alloc z).cell? ⟨b, o + k * 7 + 3, none⟩ = some (.string xt) ∧ (w'.alloc z).cell? ⟨b, o + k * 7 + 4, none⟩ = some (.int .i64 xq) ∧ (w'.alloc z).cell? ⟨b, o + k * 7 + 5, none⟩ = some (.int .i64 xi) ∧ (w'.alloc z).cell? ⟨b, o + k * 7 + 6, none⟩ = some (.int .i64 xd))) := fun w' z h => HSN.out w' _ h (below1 _ _)
      have HSAD : Hid (∀ (w' : World) (z : Obj), (Below wr.heap.size wr w' ∧ w'.cell? ⟨w.heap.size, 0, none⟩ = some (.slice a0 an0 ac0) ∧ w'.cell? ⟨w.heap.size, 1, none⟩ = some (.slice a1 an1 ac1) ∧ w'.cell? ⟨w.heap.size, 2, none⟩ = some (.slice a2 an2 ac2) ∧ w'.cell? ⟨w.heap.size, 3, none⟩ = some (.int .i64 L.ops) ∧ w'.cell? ⟨b, o + k * 7, none⟩ = some (.int .i64 xk) ∧ w'.cell? ⟨b, o + k * 7 + 1, none⟩ = some (.string xs) ∧ w'.cell? ⟨b, o + k * 7 + 2, none⟩ = some (.string xl) ∧ w'.cell? ⟨b, o + k * 7 + 3, none⟩ = some (.string xt) ∧ w'.cell? ⟨b, o + k * 7 + 4, none⟩ = some (.int .i64 xq) ∧ w'.cell? ⟨b, o + k * 7 + 5, none⟩ = some (.int .i64 xi) ∧ w'.cell? ⟨b, o + k * 7 + 6, none⟩ = some (.int .i64 xd)) → (Below wr.heap.size wr (w'.alloc z).drew ∧ (w'.alloc z).drew.cell? ⟨w.heap.size, 0, none⟩ = some (.slice a0 an0 ac0) ∧ (w'.alloc z).drew.cell? ⟨w.heap.size, 1, none⟩ = some (.slice a1 an1 ac1) ∧ (w'.alloc z).drew.cell? ⟨w.heap.size, 2, none⟩ = some (.slice a2 an2 ac2) ∧ (w'.alloc z).drew.cell? ⟨w.heap.size, 3, none⟩ = some (.int .i64 L.ops) ∧ (w'.alloc z).drew.cell? ⟨b, o + k * 7, none⟩ = some (.int .i64 xk) ∧ (w'.alloc z).drew.cell? ⟨b, o + k * 7 + 1, none⟩ = some (.string xs) ∧ (w'.alloc z).drew.cell? ⟨b, o + k * 7 + 2, none⟩ = some (.string xl) ∧ (w'.alloc z).drew.cell? ⟨b, o + k * 7 + 3, none⟩ = some (.string xt) ∧ (w'.alloc z).drew.cell? ⟨b, o + k * 7 + 4, none⟩ = some (.int .i64 xq) ∧ (w'.alloc z).drew.cell? ⟨b, o + k * 7 + 5, none⟩ = some (.int .i64 xi) ∧ (w'.alloc z).drew.cell? ⟨b, o + k * 7 + 6, none⟩ = some (.int .i64 xd))) := fun w' z h => HSN.out w' _ h (below1 _ _).drew
      have HLAST : Hid (∀ (w' : World) (B : Nat) (u0 u1 u2 u3 : Value), wr.heap.size ≤ B → (Below wr.heap.size wr w' ∧ w'.cell? ⟨w.heap.size, 0, none⟩ = some (.slice a0 an0 ac0) ∧ w'.cell? ⟨w.heap.size, 1, none⟩ = some (.slice a1 an1 ac1) ∧ w'.cell? ⟨w.heap.size, 2, none⟩ = some (.slice a2 an2 ac2) ∧ w'.cell? ⟨w.heap.size, 3, none⟩ = some (.int .i64 L.ops) ∧ w'.cell? ⟨b, o + k * 7, none⟩ = some (.int .i64 xk) ∧ w'.cell? ⟨b, o + k * 7 + 1, none⟩ = some (.string xs) ∧ w'.cell? ⟨b, o + k * 7 + 2, none⟩ = some (.string xl) ∧ w'.cell? ⟨b, o + k * 7 + 3, none⟩ = some (.string xt) ∧ w'.cell? ⟨b, o + k * 7 + 4, none⟩ = some (.int .i64 xq) ∧ w'.cell? ⟨b, o + k * 7 + 5, none⟩ = some (.int .i64 xi) ∧ w'.cell? ⟨b, o + k * 7 + 6, none⟩ = some (.int .i64 xd)) → (Below wr.heap.size wr ((((w'.setCell ⟨B, 0, none⟩ u0).setCell ⟨B, 1, none⟩ u1).setCell ⟨B, 2, none⟩ u2).setCell ⟨B, 3, none⟩ u3) ∧ ((((w'.setCell ⟨B, 0, none⟩ u0).setCell ⟨B, 1, none⟩ u1).setCell ⟨B, 2, none⟩ u2).setCell ⟨B, 3, none⟩ u3).cell? ⟨w.heap.size, 0, none⟩ = some (.slice a0 an0 ac0) ∧ ((((w'.setCell ⟨B, 0, none⟩ u0).setCell ⟨B, 1, none⟩ u1).setCell ⟨B, 2, none⟩ u2).setCell ⟨B, 3, none⟩ u3).cell? ⟨w.heap.size, 1, none⟩ = some (.slice a1 an1 ac1) ∧ ((((w'.setCell ⟨B, 0, none⟩ u0).setCell ⟨B, 1, none⟩ u1).setCell ⟨B, 2, none⟩ u2).setCell ⟨B, 3, none⟩ u3).cell? ⟨w.heap.size, 2, none⟩ = some (.slice a2 an2 ac2) ∧ ((((w'.setCell ⟨B, 0, none⟩ u0).setCell ⟨B, 1, none⟩ u1).setCell ⟨B, 2, none⟩ u2).setCell ⟨B, 3, none⟩ u3).cell? ⟨w.heap.size, 3, none⟩ = some (.int .i64 L.ops) ∧ ((((w'.setCell ⟨B, 0, none⟩ u0).setCell ⟨B, 1, none⟩ u1).setCell ⟨B, 2, none⟩ u2).setCell ⟨B, 3, none⟩ u3).cell? ⟨b, o + k * 7, none⟩ = some (.int .i64 xk) ∧ ((((w'.setCell ⟨B, 0, none⟩ u0).setCell ⟨B, 1, none⟩ u1).setCell ⟨B, 2, none⟩ u2).setCell ⟨B, 3, none⟩ u3).cell? ⟨b, o + k * 7 + 1, none⟩ = some (.string xs) ∧ ((((w'.setCell ⟨B, 0, none⟩ u0).setCell ⟨B, 1, none⟩ u1).setCell ⟨B, 2, none⟩ u2).setCell ⟨B, 3, none⟩ u3).cell? ⟨b, o + k * 7 + 2, none⟩ = some (.string xl) ∧ ((((w'.setCell ⟨B, 0, none⟩ u0).setCell ⟨B, 1, none⟩ u1).setCell ⟨B, 2, none⟩ u2).setCell ⟨B, 3, none⟩ u3).cell? ⟨b, o + k * 7 + 3, none⟩ = some (.string xt) ∧ ((((w'.setCell ⟨B, 0, none⟩ u0).setCell ⟨B, 1, none⟩ u1).setCell ⟨B, 2, none⟩ u2).setCell ⟨B, 3, none⟩ u3).cell? ⟨b, o + k * 7 + 4, none⟩ = some (.int .i64 xq) ∧ ((((w'.setCell ⟨B, 0, none⟩ u0).setCell ⟨B, 1, none⟩ u1).setCell ⟨B, 2, none⟩ u2).setCell ⟨B, 3, none⟩ u3).cell? ⟨b, o + k * 7 + 5, none⟩ = some (.int .i64 xi) ∧ ((((w'.setCell ⟨B, 0, none⟩ u0).setCell ⟨B, 1, none⟩ u1).setCell ⟨B, 2, none⟩ u2).setCell ⟨B, 3, none⟩ u3).cell? ⟨b, o + k * 7 + 6, none⟩ = some (.int .i64 xd))) := fun w' B u0 u1 u2 u3 hB h => HS.out _ (below_four h.1 B hB u0 u1 u2 u3)
      have HAP : Hid (∀ w' : World, (Below wr.heap.size wr w' ∧ w'.cell? ⟨w.heap.size, 0, none⟩ = some (.slice a0 an0 ac0) ∧ w'.cell? ⟨w.heap.size, 1, none⟩ = some (.slice a1 an1 ac1) ∧ w'.cell? ⟨w.heap.size, 2, none⟩ = some (.slice a2 an2 ac2) ∧ w'.cell? ⟨w.heap.size, 3, none⟩ = some (.int .i64 L.ops) ∧ w'.cell? ⟨b, o + k * 7, none⟩ = some (.int .i64 xk) ∧ w'.cell? ⟨b, o + k * 7 + 1, none⟩ = some (.string xs) ∧ w'.cell? ⟨b, o + k * 7 + 2, none⟩ = some (.string xl) ∧ w'.cell? ⟨b, o + k * 7 + 3, none⟩ = some (.string xt) ∧ w'.cell? ⟨b, o + k * 7 + 4, none⟩ = some (.int .i64 xq) ∧ w'.cell? ⟨b, o + k * 7 + 5, none⟩ = some (.int .i64 xi) ∧ w'.cell? ⟨b, o + k * 7 + 6, none⟩ = some (.int .i64 xd)) → Calls Try.prog 30 #[.agg #[.slice a0 an0 ac0, .slice a1 an1 ac1, .slice a2 an2 ac2, .int .i64 L.ops], .agg #[.int .i64 xk, .string xs, .string xl, .string xt, .int .i64 xq, .int .i64 xi, .int .i64 xd]] w' fun e w'' => ∃ d0 dn0 dc0 d1 dn1 dc1 d2 dn2 dc2, e = .returned (.tuple #[.agg #[.slice d0 dn0 dc0, .slice d1 dn1 dc1, .slice d2 dn2 dc2, .int .i64 N.ops], .int .i64 err]) ∧ (Below wr.heap.size wr w'' ∧ w''.cell? ⟨w.heap.size, 0, none⟩ = some (.slice a0 an0 ac0) ∧ w''.cell? ⟨w.heap.size, 1, none⟩ = some (.slice a1 an1 ac1) ∧ w''.cell? ⟨w.heap.size, 2, none⟩ = some (.slice a2 an2 ac2) ∧ w''.cell? ⟨w.heap.size, 3, none⟩ = some (.int .i64 L.ops) ∧ w''.cell? ⟨b, o + k * 7, none⟩ = some (.int .i64 xk) ∧ w''.cell? ⟨b, o + k * 7 + 1, none⟩ = some (.string xs) ∧ w''.cell? ⟨b, o + k * 7 + 2, none⟩ = some (.string xl) ∧ w''.cell? ⟨b, o + k * 7 + 3, none⟩ = some (.string xt) ∧ w''.cell? ⟨b, o + k * 7 + 4, none⟩ = some (.int .i64 xq) ∧ w''.cell? ⟨b, o + k * 7 + 5, none⟩ = some (.int .i64 xi) ∧ w''.cell? ⟨b, o + k * 7 + 6, none⟩ = some (.int .i64 xd)) ∧ Hid (RArgs w'' d0 dn0 dc0 d1 dn1 dc1 d2 dn2 dc2 N ∧ SrcL wr a0 a1 a2 L d0 d1 d2 N ∧ ∀ B, wr.heap.size ≤ B → B < w'.heap.size → NotAt B d0 d1 d2 N) ∧ Hid (Below w'.heap.size w' w'')) := fun w' q => by
        have := rstep_is (HVL.out.next q.1) HMY.out.1 HMY.out.2 ⟨xk, xs, xl, xt, xq, xi, xd⟩ HOF.out
        rw [HNL.out, HER.out] at this
        exact this.mono fun e w'' ⟨d0, dn0, dc0, d1, dn1, dc1, d2, dn2, dc2, r1, s0, s1, s2, s3, s4, s5, s6⟩ => ⟨d0, dn0, dc0, d1, dn1, dc1, d2, dn2, dc2, r1, HSN.out _ _ q s5, ⟨⟨s0, s1, s2, s4, s3⟩, s6.mono q.1.size, fun B hB hB' => s6.not hB' (notAt_of HVL.out.li hB)⟩, s5⟩
      have HWB : Hid ((w.heap.size + 1) < wr.heap.size) := HNA.out.1.lt
      have hS0 := HS.out wr (Below.refl _ _)
      go_upto_region 6 with fail
      go_cut [8, 9] (fun sa sb wx => ∃ (B : Nat) (d0 : Option Addr) (dn0 dc0 : Nat) (d1 : Option Addr) (dn1 dc1 : Nat) (d2 : Option Addr) (dn2 dc2 : Nat), sa = .pointer (some ⟨B, 0, none⟩) ∧ sb = .int .i64 err ∧ Hid (Below wr.heap.size wr wx ∧ CellsF wx B [.slice d0 dn0 dc0, .slice d1 dn1 dc1, .slice d2 dn2 dc2, .int .i64 N.ops] ∧ RArgs wx d0 dn0 dc0 d1 dn1 dc1 d2 dn2 dc2 N ∧ SrcL wr a0 a1 a2 L d0 d1 d2 N ∧ wr.heap.size ≤ B))
      case first =>
        go_region_held (fun (w' : World) => (Below wr.heap.size wr w' ∧ w'.cell? ⟨w.heap.size, 0, none⟩ = some (.slice a0 an0 ac0) ∧ w'.cell? ⟨w.heap.size, 1, none⟩ = some (.slice a1 an1 ac1) ∧ w'.cell? ⟨w.heap.size, 2, none⟩ = some (.slice a2 an2 ac2) ∧ w'.cell? ⟨w.heap.size, 3, none⟩ = some (.int .i64 L.ops) ∧ w'.cell? ⟨b, o + k * 7, none⟩ = some (.int .i64 xk) ∧ w'.cell? ⟨b, o + k * 7 + 1, none⟩ = some (.string xs) ∧ w'.cell? ⟨b, o + k * 7 + 2, none⟩ = some (.string xl) ∧ w'.cell? ⟨b, o + k * 7 + 3, none⟩ = some (.string xt) ∧ w'.cell? ⟨b, o + k * 7 + 4, none⟩ = some (.int .i64 xq) ∧ w'.cell? ⟨b, o + k * 7 + 5, none⟩ = some (.int .i64 xi) ∧ w'.cell? ⟨b, o + k * 7 + 6, none⟩ = some (.int .i64 xd))) (first | (with_reducible assumption) | (with_reducible exact HSD.out _ (by with_reducible assumption)) | (with_reducible exact HSA.out _ _ (by with_reducible assumption)) | (with_reducible exact HSAD.out _ _ (by with_reducible assumption)) | (with_reducible exact HLAST.out _ _ _ _ _ _ (Nat.le_refl _) (by with_reducible assumption)))
          (first | ((with_reducible refine Calls.mono (HAP.out _ (by with_reducible assumption)) ?_); rintro e w4 ⟨d0, dn0, dc0, d1, dn1, dc1, d2, dn2, dc2, rfl, hS4, HV4, HB4⟩; have HBW4 : Hid (Below wr.heap.size wr w4) := hS4.1; (first | (have hz4 := (CellsF.at (w := wr) [.slice none 0 0, .slice none 0 0, .slice none 0 0, .int .i64 0] 26 (by simp) rfl).next HB4.out; have HLT4 : Hid _ := (CellsF.at (w := wr) [.slice none 0 0, .slice none 0 0, .slice none 0 0, .int .i64 0] 26 (by simp) rfl).lt; have z0 := hz4.cs 0 _ rfl; have z1 := hz4.cs 1 _ rfl; have z2 := hz4.cs 2 _ rfl; have z3 := hz4.cs 3 _ rfl; have g0 := hz4.fz 0; have g1 := hz4.fz 1; have g2 := hz4.fz 2; have g3 := hz4.fz 3; have HZ4 : Hid _ := hz4; clear hz4) | (have hz4 := ((CellsF.at (w := wr) [.slice none 0 0, .slice none 0 0, .slice none 0 0, .int .i64 0] 26 (by simp) rfl).next (Below.refl _ _).drew).next HB4.out; have HLT4 : Hid _ := ((CellsF.at (w := wr) [.slice none 0 0, .slice none 0 0, .slice none 0 0, .int .i64 0] 26 (by simp) rfl).next (Below.refl _ _).drew).lt; have z0 := hz4.cs 0 _ rfl; have z1 := hz4.cs 1 _ rfl; have z2 := hz4.cs 2 _ rfl; have z3 := hz4.cs 3 _ rfl; have g0 := hz4.fz 0; have g1 := hz4.fz 1; have g2 := hz4.fz 2; have g3 := hz4.fz 3; have HZ4 : Hid _ := hz4; clear hz4) | (have hz4 := (CellsF.at (w := wr.drew) [.slice none 0 0, .slice none 0 0, .slice none 0 0, .int .i64 0] 26 (by simp) rfl).next HB4.out; have HLT4 : Hid _ := (CellsF.at (w := wr.drew) [.slice none 0 0, .slice none 0 0, .slice none 0 0, .int .i64 0] 26 (by simp) rfl).lt; have z0 := hz4.cs 0 _ rfl; have z1 := hz4.cs 1 _ rfl; have z2 := hz4.cs 2 _ rfl; have z3 := hz4.cs 3 _ rfl; have g0 := hz4.fz 0; have g1 := hz4.fz 1; have g2 := hz4.fz 2; have g3 := hz4.fz 3; have HZ4 : Hid _ := hz4; clear hz4) | (have hz4 := ((CellsF.at (w := wr.drew) [.slice none 0 0, .slice none 0 0, .slice none 0 0, .int .i64 0] 26 (by simp) rfl).next (Below.refl _ _).drew).next HB4.out; have HLT4 : Hid _ := ((CellsF.at (w := wr.drew) [.slice none 0 0, .slice none 0 0, .slice none 0 0, .int .i64 0] 26 (by simp) rfl).next (Below.refl _ _).drew).lt; have z0 := hz4.cs 0 _ rfl; have z1 := hz4.cs 1 _ rfl; have z2 := hz4.cs 2 _ rfl; have z3 := hz4.cs 3 _ rfl; have g0 := hz4.fz 0; have g1 := hz4.fz 1; have g2 := hz4.fz 2; have g3 := hz4.fz 3; have HZ4 : Hid _ := hz4; clear hz4)  | skip)))
        all_goals go_wp2_with fail
        all_goals go_meet
        all_goals first | exact ⟨_, _, _, _, _, _, _, _, _, _, rfl, rfl, below_four HBW4.out _ (Nat.le_refl _) _ _ _ _, HZ4.out.four rfl _ _ _ _, HV4.out.1.four (HV4.out.2.2 _ (Nat.le_refl _) HLT4.out) _ _ _ _, HV4.out.2.1, Nat.le_refl _⟩ | exact ⟨_, _, _, _, _, _, _, _, _, _, rfl, rfl, Below.next HBW4.out (below1 _ _), CellsF.at _ 26 (by simp) rfl, HV4.out.1.next (below1 _ _), HV4.out.2.1, HBW4.out.size⟩
      case rest =>
        obtain ⟨B, d0, dn0, dc0, d1, dn1, dc1, d2, dn2, dc2, rfl, rfl, HCU⟩ := hcut
        have HCB : Hid (CellsF wc w.heap.size [.slice a0 an0 ac0, .slice a1 an1 ac1, .slice a2 an2 ac2, .int .i64 L.ops] ∧ CellsF wc (w.heap.size + 1) [.slice none 0 0, .slice none 0 0, .slice none 0 0, .int .i64 0] ∧ RArgs wc a0 an0 ac0 a1 an1 ac1 a2 an2 ac2 L ∧ NotAt (w.heap.size + 1) a0 a1 a2 L ∧ Below w.heap.size w wc) := ⟨HCL.out.next HCU.out.1, HNA.out.1.next HCU.out.1, HVL.out.next HCU.out.1, HNA.out.2.2, Below.next HB.out HCU.out.1⟩
        clear hS0
        by_cases he : err = 0
        · subst he
          have hnn : N = doL L ⟨xk, xs, xl, xt, xq, xi, xd⟩ := by rw [← HNL.out]; unfold stL; rw [HER.out, if_pos rfl]
          have hnm := do_may HMY.out.1 HMY.out.2 HOF.out HER.out
          have hrr : r = ((rpL N (l.drop (k + 1))).1, (rpL N (l.drop (k + 1))).2.1 + (k + 1 : Nat), (rpL N (l.drop (k + 1))).2.2) := by
            rw [HR.out, HDR.out, rpL, HER.out, if_pos rfl, hnn]; simp; omega
          rw [← hnn] at hnm
          have HNM : Hid ((mayL N ∧ N.fit) ∧ r = ((rpL N (l.drop (k + 1))).1, (rpL N (l.drop (k + 1))).2.1 + (k + 1 : Nat), (rpL N (l.drop (k + 1))).2.2)) := ⟨hnm, hrr⟩
          have y0 := HCU.out.2.1.cs 0 _ rfl
          have y1 := HCU.out.2.1.cs 1 _ rfl
          have y2 := HCU.out.2.1.cs 2 _ rfl
          have y3 := HCU.out.2.1.cs 3 _ rfl
          have x0 := HCB.out.1.cs 0 _ rfl
          have x1 := HCB.out.1.cs 1 _ rfl
          have x2 := HCB.out.1.cs 2 _ rfl
          have x3 := HCB.out.1.cs 3 _ rfl
          have g0 := HCB.out.1.fz 0
          have g1 := HCB.out.1.fz 1
          have g2 := HCB.out.1.fz 2
          have g3 := HCB.out.1.fz 3
          have HNB : Hid (NotAt w.heap.size d0 d1 d2 N ∧ NotAt (w.heap.size + 1) d0 d1 d2 N) := ⟨HCU.out.2.2.2.1.not (Nat.lt_of_succ_lt HWB.out) HNA.out.2.1, HCU.out.2.2.2.1.not HWB.out HNA.out.2.2⟩
          have HFIN : Hid (∀ u0 u1 u2 u3, Below w.heap.size w ((((wc.setCell ⟨w.heap.size, 0, none⟩ u0).setCell ⟨w.heap.size, 1, none⟩ u1).setCell ⟨w.heap.size, 2, none⟩ u2).setCell ⟨w.heap.size, 3, none⟩ u3) ∧ CellsF ((((wc.setCell ⟨w.heap.size, 0, none⟩ u0).setCell ⟨w.heap.size, 1, none⟩ u1).setCell ⟨w.heap.size, 2, none⟩ u2).setCell ⟨w.heap.size, 3, none⟩ u3) w.heap.size [u0, u1, u2, u3] ∧ (CellsF ((((wc.setCell ⟨w.heap.size, 0, none⟩ u0).setCell ⟨w.heap.size, 1, none⟩ u1).setCell ⟨w.heap.size, 2, none⟩ u2).setCell ⟨w.heap.size, 3, none⟩ u3) (w.heap.size + 1) [.slice none 0 0, .slice none 0 0, .slice none 0 0, .int .i64 0] ∧ NotAt w.heap.size d0 d1 d2 N ∧ NotAt (w.heap.size + 1) d0 d1 d2 N) ∧ RArgs ((((wc.setCell ⟨w.heap.size, 0, none⟩ u0).setCell ⟨w.heap.size, 1, none⟩ u1).setCell ⟨w.heap.size, 2, none⟩ u2).setCell ⟨w.heap.size, 3, none⟩ u3) d0 dn0 dc0 d1 dn1 dc1 d2 dn2 dc2 N) := fun u0 u1 u2 u3 => ⟨below_four HCB.out.2.2.2.2 _ (Nat.le_refl _) _ _ _ _, HCB.out.1.four rfl _ _ _ _, ⟨HCB.out.2.1.far (four_far _ _ _ _ _ _ (by omega)), HNB.out⟩, HCU.out.2.2.1.four HNB.out.1 _ _ _ _⟩
          clear hnn hnm hrr HS HSN HSD HSA HSAD HLAST HAP HOP HCU HVL HCL HNA HCB HR HNB
          go_wp2_with fail
          go_roundw
          case rel => exact ⟨k + 1, d0, dn0, dc0, d1, dn1, dc1, d2, dn2, dc2, N, by omega, by go_num, (HFIN.out _ _ _ _).1, (HFIN.out _ _ _ _).2.1, (HFIN.out _ _ _ _).2.2.1, (HFIN.out _ _ _ _).2.2.2, HNM.out.1, HNM.out.2⟩
          case measure => simp [intOf]; omega
        · have hrr : r = (L, (k : Int), err) := by
            rw [HR.out, HDR.out, rpL, HER.out, if_neg he]; simp
          have HRR : Hid (r = (L, (k : Int), err)) := hrr
          have HCW : Hid _ := HCB.out
          clear hrr HS HSN HSD HSA HSAD HLAST HAP HOP HCU HVL HCL HNA HCB HR HB HER HNL
          have x0 := HCW.out.1.cs 0 _ rfl
          have x1 := HCW.out.1.cs 1 _ rfl
          have x2 := HCW.out.1.cs 2 _ rfl
          have x3 := HCW.out.1.cs 3 _ rfl
          have y0 := HCW.out.2.1.cs 0 _ rfl
          have y1 := HCW.out.2.1.cs 1 _ rfl
          have y2 := HCW.out.2.1.cs 2 _ rfl
          have y3 := HCW.out.2.1.cs 3 _ rfl
          have g0 := HCW.out.2.1.fz 0
          have g1 := HCW.out.2.1.fz 1
          have g2 := HCW.out.2.1.fz 2
          have g3 := HCW.out.2.1.fz 3
          have HFIN : Hid (∀ u0 u1 u2 u3, RArgs ((((wc.setCell ⟨(w.heap.size + 1), 0, none⟩ u0).setCell ⟨(w.heap.size + 1), 1, none⟩ u1).setCell ⟨(w.heap.size + 1), 2, none⟩ u2).setCell ⟨(w.heap.size + 1), 3, none⟩ u3) a0 an0 ac0 a1 an1 ac1 a2 an2 ac2 L ∧ Below w.heap.size w ((((wc.setCell ⟨(w.heap.size + 1), 0, none⟩ u0).setCell ⟨(w.heap.size + 1), 1, none⟩ u1).setCell ⟨(w.heap.size + 1), 2, none⟩ u2).setCell ⟨(w.heap.size + 1), 3, none⟩ u3)) := fun u0 u1 u2 u3 => ⟨HCW.out.2.2.1.four HCW.out.2.2.2.1 _ _ _ _, below_four HCW.out.2.2.2.2 _ (Nat.le_succ _) _ _ _ _⟩
          have HCF : Hid (CellsF wc (w.heap.size + 1) [.slice none 0 0, .slice none 0 0, .slice none 0 0, .int .i64 0]) := HCW.out.2.1
          clear HCW
          go_wp2_with fail
          try simp only [Exit.inBlock, Exit.then]
          refine bodyPost_ret (end_cell_tmp2 rfl rfl (loadLed _ (HCF.out.four rfl _ _ _ _) rfl)) rfl ?_
          rw [HRR.out]
          exact ⟨_, _, _, _, _, _, _, _, _, rfl, (HFIN.out _ _ _ _).1, (HFIN.out _ _ _ _).2⟩
    · have hkn : k = n := by omega
      subst hkn
      have hrr : r = (L, (k : Int), 0) := by
        rw [HR.out, List.drop_of_length_le (by rw [HM.out.1]; exact Nat.le_refl _), rpL]; simp
      have HRR : Hid (r = (L, (k : Int), 0)) := hrr
      have HCW : Hid (CellsF wr w.heap.size [.slice a0 an0 ac0, .slice a1 an1 ac1, .slice a2 an2 ac2, .int .i64 L.ops] ∧ CellsF wr (w.heap.size + 1) [.slice none 0 0, .slice none 0 0, .slice none 0 0, .int .i64 0] ∧ RArgs wr a0 an0 ac0 a1 an1 ac1 a2 an2 ac2 L ∧ NotAt (w.heap.size + 1) a0 a1 a2 L ∧ Below w.heap.size w wr) := ⟨HCL.out, HNA.out.1, HVL.out, HNA.out.2.2, HB.out⟩
      clear hrr HCL HNA HVL HB HR
      have x0 := HCW.out.1.cs 0 _ rfl
      have x1 := HCW.out.1.cs 1 _ rfl
      have x2 := HCW.out.1.cs 2 _ rfl
      have x3 := HCW.out.1.cs 3 _ rfl
      have y0 := HCW.out.2.1.cs 0 _ rfl
      have y1 := HCW.out.2.1.cs 1 _ rfl
      have y2 := HCW.out.2.1.cs 2 _ rfl
      have y3 := HCW.out.2.1.cs 3 _ rfl
      have g0 := HCW.out.2.1.fz 0
      have g1 := HCW.out.2.1.fz 1
      have g2 := HCW.out.2.1.fz 2
      have g3 := HCW.out.2.1.fz 3
      have HFIN : Hid (∀ u0 u1 u2 u3, RArgs ((((wr.setCell ⟨(w.heap.size + 1), 0, none⟩ u0).setCell ⟨(w.heap.size + 1), 1, none⟩ u1).setCell ⟨(w.heap.size + 1), 2, none⟩ u2).setCell ⟨(w.heap.size + 1), 3, none⟩ u3) a0 an0 ac0 a1 an1 ac1 a2 an2 ac2 L ∧ Below w.heap.size w ((((wr.setCell ⟨(w.heap.size + 1), 0, none⟩ u0).setCell ⟨(w.heap.size + 1), 1, none⟩ u1).setCell ⟨(w.heap.size + 1), 2, none⟩ u2).setCell ⟨(w.heap.size + 1), 3, none⟩ u3)) := fun u0 u1 u2 u3 => ⟨HCW.out.2.2.1.four HCW.out.2.2.2.1 _ _ _ _, below_four HCW.out.2.2.2.2 _ (Nat.le_succ _) _ _ _ _⟩
      have HCF : Hid (CellsF wr (w.heap.size + 1) [.slice none 0 0, .slice none 0 0, .slice none 0 0, .int .i64 0]) := HCW.out.2.1
      clear HCW
      go_wp2_with fail
      try simp only [Exit.inBlock, Exit.then]
      refine bodyPost_ret (end_cell_tmp2 rfl rfl (loadLed _ (HCF.out.four rfl _ _ _ _) rfl)) rfl ?_
      rw [HRR.out]
      exact ⟨_, _, _, _, _, _, _, _, _, rfl, (HFIN.out _ _ _ _).1, (HFIN.out _ _ _ _).2⟩
end Go.Proofs.Ytflbcheofmljeaa

namespace Go.Proofs.Ytflbcheofmljeaa
open Go.ChangeShapes Go.WideShapes Go.RowKit
set_option linter.unusedVariables false
set_option maxRecDepth 100000

set_option maxHeartbeats 8000000 in
theorem rsame_is (a0 : Option Addr) (n0 c0 : Nat) (a1 : Option Addr) (n1 c1 : Nat) (a2 : Option Addr) (n2 c2 : Nat) (b0 : Option Addr) (d0 : Nat) (b1 : Option Addr) (d1 : Nat) (b2 : Option Addr) (d2 : Nat) (ops : Int) (L : Led) (h0 : L.S.length = n0) (h1 : L.H.length = n1) (h2 : L.M.length = n2) (m0 : n0 ≤ 1000000) (m1 : n1 ≤ 1000000) (m2 : n2 ≤ 1000000) (w : World) (ha : Lies w a0 a1 a2 L) (hb : Lies w b0 b1 b2 L) :
    Calls Try.prog 13 #[.agg #[.slice a0 n0 c0, .slice a1 n1 c1, .slice a2 n2 c2, .int .i64 ops], .agg #[.slice b0 n0 d0, .slice b1 n1 d1, .slice b2 n2 d2, .int .i64 ops]] w fun e w' => e = .returned (.bool true) ∧ Below w.heap.size w w' := by
  obtain ⟨W, hW⟩ : ∃ W, (w.alloc (.cells #[.slice a0 n0 c0, .slice a1 n1 c1, .slice a2 n2 c2, .int .i64 ops] 26)).alloc (.cells #[.slice b0 n0 d0, .slice b1 n1 d1, .slice b2 n2 d2, .int .i64 ops] 26) = W := ⟨_, rfl⟩
  have HC : Hid (CellsF W w.heap.size [.slice a0 n0 c0, .slice a1 n1 c1, .slice a2 n2 c2, .int .i64 ops] ∧ CellsF W (w.heap.size + 1) [.slice b0 n0 d0, .slice b1 n1 d1, .slice b2 n2 d2, .int .i64 ops] ∧ Below w.heap.size w W) := by
    show _ ∧ _
    rw [← hW]
    exact ⟨(CellsF.at _ 26 (by simp) rfl).next (below1 _ _), CellsF.at _ 26 (by simp) (by rw [size_alloc]), below2 _ _ _⟩
  have HL : Hid (L.S.length = n0 ∧ L.H.length = n1 ∧ L.M.length = n2) := ⟨h0, h1, h2⟩
  have HR : Hid (Lies w a0 a1 a2 L ∧ Lies w b0 b1 b2 L) := ⟨ha, hb⟩
  have l0 := HC.out.1.cs 0 _ rfl
  have r0 := HC.out.2.1.cs 0 _ rfl
  have l1 := HC.out.1.cs 1 _ rfl
  have r1 := HC.out.2.1.cs 1 _ rfl
  have l2 := HC.out.1.cs 2 _ rfl
  have r2 := HC.out.2.1.cs 2 _ rfl
  have l3 := HC.out.1.cs 3 _ rfl
  have r3 := HC.out.2.1.cs 3 _ rfl
  clear h0 h1 h2 ha hb
  go_enter Try.func13, Try.ntmps13
  go_wp2_with fail
  clear hW l0 l1 l2 l3 r0 r1 r2 r3
  go_loopw [5] (fun vi wr => ∃ k : Nat, k ≤ n0 ∧ vi = .int .i64 k ∧ Hid (Below W.heap.size W wr))
    (fun vi _ => n0 - (intOf vi).toNat)
  case atStart => exact ⟨0, Nat.zero_le _, rfl, Below.refl _ _⟩
  case round =>
    obtain ⟨k, hk, rfl, HI⟩ := hrel
    have l0 := (HC.out.1.next HI.out).cs 0 _ rfl
    have r0 := (HC.out.2.1.next HI.out).cs 0 _ rfl
    by_cases hlt : k < n0
    · have hlti : (k : Int) < (n0 : Int) := by omega
      have hkl : k < L.S.length := by have := HL.out; omega
      obtain ⟨p1, o1, ea, hp1, hc1⟩ := HR.out.1.S.stk (fun e => by rw [e] at hkl; simp at hkl)
      obtain ⟨p2, o2, eb, hp2, hc2⟩ := HR.out.2.S.stk (fun e => by rw [e] at hkl; simp at hkl)
      have hbw : Below w.heap.size w wr := Below.next HC.out.2.2 HI.out
      have hx1 := (hc1 k hkl).next (hbw.block p1 hp1)
      have hx2 := (hc2 k hkl).next (hbw.block p2 hp2)
      rw [ea] at l0
      rw [eb] at r0
      generalize L.S[k] = x at hx1 hx2
      obtain ⟨xs, xl, xo, xh⟩ := x
      obtain ⟨u0, u1, u2, u3⟩ := hx1
      obtain ⟨v0, v1, v2, v3⟩ := hx2
      dsimp only at u0 u1 u2 u3 v0 v1 v2 v3
      have HJD : Hid (∀ n, Below W.heap.size W (wr.drewN n)) := fun n => ⟨HI.out.os, HI.out.tape, HI.out.output, HI.out.size, HI.out.block⟩
      clear hc1 hc2 hp1 hp2 ea eb hbw
      go_wp2_with fail
      go_quiet (fail)
      go_wp2_with fail
      go_roundw
      case rel => exact ⟨k + 1, by omega, by go_num, HJD.out _⟩
      case measure => simp [intOf]; omega
    · have hlti : ¬ (k : Int) < (n0 : Int) := by omega
      go_wp2_with fail
      clear l0 r0 hlti hlt
      go_loopw [6] (fun vi wr => ∃ k : Nat, k ≤ n1 ∧ vi = .int .i64 k ∧ Hid (Below W.heap.size W wr))
        (fun vi _ => n1 - (intOf vi).toNat)
      case atStart => exact ⟨0, Nat.zero_le _, rfl, HI.out⟩
      case round =>
        clear HI
        obtain ⟨k, hk, rfl, HI⟩ := hrel
        have l1 := (HC.out.1.next HI.out).cs 1 _ rfl
        have r1 := (HC.out.2.1.next HI.out).cs 1 _ rfl
        by_cases hlt : k < n1
        · have hlti : (k : Int) < (n1 : Int) := by omega
          have hkl : k < L.H.length := by have := HL.out; omega
          obtain ⟨p1, o1, ea, hp1, hc1⟩ := HR.out.1.H.hld (fun e => by rw [e] at hkl; simp at hkl)
          obtain ⟨p2, o2, eb, hp2, hc2⟩ := HR.out.2.H.hld (fun e => by rw [e] at hkl; simp at hkl)
          have hbw : Below w.heap.size w wr := Below.next HC.out.2.2 HI.out
          have hx1 := (hc1 k hkl).next (hbw.block p1 hp1)
          have hx2 := (hc2 k hkl).next (hbw.block p2 hp2)
          rw [ea] at l1
          rw [eb] at r1
          generalize L.H[k] = x at hx1 hx2
          obtain ⟨xi, xs, xl, xq, xt, xd⟩ := x
          obtain ⟨u0, u1, u2, u3, u4, u5⟩ := hx1
          obtain ⟨v0, v1, v2, v3, v4, v5⟩ := hx2
          dsimp only at u0 u1 u2 u3 u4 u5 v0 v1 v2 v3 v4 v5
          have HJD : Hid (∀ n, Below W.heap.size W (wr.drewN n)) := fun n => ⟨HI.out.os, HI.out.tape, HI.out.output, HI.out.size, HI.out.block⟩
          clear hc1 hc2 hp1 hp2 ea eb hbw
          go_wp2_with fail
          go_quiet (fail)
          go_wp2_with fail
          go_roundw
          case rel => exact ⟨k + 1, by omega, by go_num, HJD.out _⟩
          case measure => simp [intOf]; omega
        · have hlti : ¬ (k : Int) < (n1 : Int) := by omega
          go_wp2_with fail
          clear l1 r1 hlti hlt
          go_loopw [7] (fun vi wr => ∃ k : Nat, k ≤ n2 ∧ vi = .int .i64 k ∧ Hid (Below W.heap.size W wr))
            (fun vi _ => n2 - (intOf vi).toNat)
          case atStart => exact ⟨0, Nat.zero_le _, rfl, HI.out⟩
          case round =>
            clear HI
            obtain ⟨k, hk, rfl, HI⟩ := hrel
            have l2 := (HC.out.1.next HI.out).cs 2 _ rfl
            have r2 := (HC.out.2.1.next HI.out).cs 2 _ rfl
            by_cases hlt : k < n2
            · have hlti : (k : Int) < (n2 : Int) := by omega
              have hkl : k < L.M.length := by have := HL.out; omega
              obtain ⟨p1, o1, ea, hp1, hc1⟩ := HR.out.1.M.mov (fun e => by rw [e] at hkl; simp at hkl)
              obtain ⟨p2, o2, eb, hp2, hc2⟩ := HR.out.2.M.mov (fun e => by rw [e] at hkl; simp at hkl)
              have hbw : Below w.heap.size w wr := Below.next HC.out.2.2 HI.out
              have hx1 := (hc1 k hkl).next (hbw.block p1 hp1)
              have hx2 := (hc2 k hkl).next (hbw.block p2 hp2)
              rw [ea] at l2
              rw [eb] at r2
              generalize L.M[k] = x at hx1 hx2
              obtain ⟨xi, xs, xl, xq, xt, xd⟩ := x
              obtain ⟨u0, u1, u2, u3, u4, u5⟩ := hx1
              obtain ⟨v0, v1, v2, v3, v4, v5⟩ := hx2
              dsimp only at u0 u1 u2 u3 u4 u5 v0 v1 v2 v3 v4 v5
              have HJD : Hid (∀ n, Below W.heap.size W (wr.drewN n)) := fun n => ⟨HI.out.os, HI.out.tape, HI.out.output, HI.out.size, HI.out.block⟩
              clear hc1 hc2 hp1 hp2 ea eb hbw
              go_wp2_with fail
              go_quiet (fail)
              go_wp2_with fail
              go_roundw
              case rel => exact ⟨k + 1, by omega, by go_num, HJD.out _⟩
              case measure => simp [intOf]; omega
            · have hlti : ¬ (k : Int) < (n2 : Int) := by omega
              go_wp2_with fail
              clear l2 r2 hlti hlt
              go_ret
              exact ⟨rfl, Below.next HC.out.2.2 HI.out⟩
end Go.Proofs.Ytflbcheofmljeaa

namespace Go.Proofs.Ytflbcheofmljeaa
open Go.ChangeShapes Go.WideShapes Go.RowKit
set_option linter.unusedVariables false
set_option maxRecDepth 100000

theorem rpL_may : ∀ (l : List Opn) (L : Led), mayL L → L.fit → (∀ o, o ∈ l → o.fit) → mayL (rpL L l).1
  | [], L, hm, hf, hl => hm
  | o :: l, L, hm, hf, hl => by
    unfold rpL
    by_cases h : doE L o = 0
    · rw [if_pos h]
      have := do_may hm hf (hl o (List.mem_cons_self ..)) h
      exact rpL_may l _ this.1 this.2 (fun x hx => hl x (List.mem_cons_of_mem _ hx))
    · rw [if_neg h]; exact hm
set_option maxHeartbeats 4000000 in
theorem replays_is (ap : Option Addr) (n cp : Nat) (l : List Opn) (hl : l.length = n) (hn : n ≤ 9223372036854775807) (hlf : ∀ o, o ∈ l → o.fit) (w : World) (hro : Rw opv 7 w ap l) :
    Calls Try.prog 4 #[.slice ap n cp] w fun e w' => e = .returned (.bool true) ∧ Below w.heap.size w w' := by
  have HAW : Hid (∀ w', Calls Try.prog 10 #[] w' fun e w'' => e = .returned (.bool true) ∧ Below w'.heap.size w' w'') := awake_is
  by_cases hle : n ≤ 40
  · have hgt : ¬ (40 : Int) < (n : Int) := by omega
    have hlens := lens (rpL_may l noL no_may no_fit hlf)
    obtain ⟨r, hrp⟩ : ∃ r, rpL noL l = r := ⟨_, rfl⟩
    rw [hrp] at hlens
    have H1 : Hid (Calls Try.prog 16 #[.agg #[.slice none 0 0, .slice none 0 0, .slice none 0 0, .int .i64 0], .slice ap n cp] w fun e w' => ∃ a0 an0 ac0 a1 an1 ac1 a2 an2 ac2, e = .returned (.tuple #[.agg #[.slice a0 an0 ac0, .slice a1 an1 ac1, .slice a2 an2 ac2, .int .i64 r.1.ops], .int .i64 r.2.1, .int .i64 r.2.2]) ∧ Have w' a0 an0 ac0 a1 an1 ac1 a2 an2 ac2 r.1 ∧ Below w.heap.size w w') := by
      have := replay_is none 0 0 none 0 0 none 0 0 noL rfl rfl rfl (fun _ => ⟨rfl, rfl⟩) (fun _ => ⟨rfl, rfl⟩) (fun _ => ⟨rfl, rfl⟩) no_may no_fit ap cp n l hl (by omega) hlf w (RArgs.no w).li hro
      rw [hrp] at this
      exact this.mono fun e w' ⟨a0, an0, ac0, a1, an1, ac1, a2, an2, ac2, q1, q2⟩ => ⟨a0, an0, ac0, a1, an1, ac1, a2, an2, ac2, q1, Have.of3 q2.S q2.H q2.M, q2.bel⟩
    have H2 : Hid (∀ w', Below w.heap.size w w' → Calls Try.prog 17 #[.agg #[.slice none 0 0, .slice none 0 0, .slice none 0 0, .int .i64 0], .slice ap n cp] w' fun e w'' => ∃ d0 dn0 dc0 d1 dn1 dc1 d2 dn2 dc2, e = .returned (.tuple #[.agg #[.slice d0 dn0 dc0, .slice d1 dn1 dc1, .slice d2 dn2 dc2, .int .i64 r.1.ops], .int .i64 r.2.1, .int .i64 r.2.2]) ∧ RArgs w'' d0 dn0 dc0 d1 dn1 dc1 d2 dn2 dc2 r.1 ∧ Below w'.heap.size w' w'') := fun w' k => by
      have := rreplay_is ap n cp l hl hle hlf w' (hro.next opv_ne k)
      rw [hrp] at this
      exact this
    obtain ⟨L, rn, re⟩ := r
    dsimp only at H1 H2 hlens
    have HL : Hid (L.S.length ≤ 4096 ∧ L.H.length ≤ 4096 ∧ L.M.length ≤ 4096) := hlens
    clear hl hlf hro hrp hlens
    go_enter Try.func4, Try.ntmps4
    go_wp2_with fail
    refine Calls.mono H1.out ?_; rintro e w1 ⟨a0, an0, ac0, a1, an1, ac1, a2, an2, ac2, rfl, hv1, k1⟩
    have HC1 : Hid (∀ t, Below w.heap.size w (w1.alloc (.cells #[.slice a0 an0 ac0, .slice a1 an1 ac1, .slice a2 an2 ac2, .int .i64 L.ops] t)) ∧ CellsF (w1.alloc (.cells #[.slice a0 an0 ac0, .slice a1 an1 ac1, .slice a2 an2 ac2, .int .i64 L.ops] t)) w1.heap.size [.slice a0 an0 ac0, .slice a1 an1 ac1, .slice a2 an2 ac2, .int .i64 L.ops] ∧ Have (w1.alloc (.cells #[.slice a0 an0 ac0, .slice a1 an1 ac1, .slice a2 an2 ac2, .int .i64 L.ops] t)) a0 an0 ac0 a1 an1 ac1 a2 an2 ac2 L) := fun t => ⟨Below.next k1 (below1 _ _), CellsF.at _ t (by simp) rfl, hv1.next (below1 _ _)⟩
    clear hv1 k1
    go_wp2_with fail
    refine Calls.mono (H2.out _ (HC1.out _).1) ?_; rintro e w2 ⟨d0, dn0, dc0, d1, dn1, dc1, d2, dn2, dc2, rfl, hv2, k2⟩
    have HC2 : Hid (∀ t, Below w.heap.size w (w2.alloc (.cells #[.slice d0 dn0 dc0, .slice d1 dn1 dc1, .slice d2 dn2 dc2, .int .i64 L.ops] t)) ∧ CellsF (w2.alloc (.cells #[.slice d0 dn0 dc0, .slice d1 dn1 dc1, .slice d2 dn2 dc2, .int .i64 L.ops] t)) w1.heap.size [.slice a0 an0 ac0, .slice a1 an1 ac1, .slice a2 an2 ac2, .int .i64 L.ops] ∧ CellsF (w2.alloc (.cells #[.slice d0 dn0 dc0, .slice d1 dn1 dc1, .slice d2 dn2 dc2, .int .i64 L.ops] t)) w2.heap.size [.slice d0 dn0 dc0, .slice d1 dn1 dc1, .slice d2 dn2 dc2, .int .i64 L.ops] ∧ Have (w2.alloc (.cells #[.slice d0 dn0 dc0, .slice d1 dn1 dc1, .slice d2 dn2 dc2, .int .i64 L.ops] t)) a0 an0 ac0 a1 an1 ac1 a2 an2 ac2 L ∧ RArgs (w2.alloc (.cells #[.slice d0 dn0 dc0, .slice d1 dn1 dc1, .slice d2 dn2 dc2, .int .i64 L.ops] t)) d0 dn0 dc0 d1 dn1 dc1 d2 dn2 dc2 L) := fun t => by
      have q := HC1.out 26
      exact ⟨Below.next q.1 (Below.next k2 (below1 _ _)), (q.2.1.next k2).next (below1 _ _), CellsF.at _ t (by simp) rfl, (q.2.2.next k2).next (below1 _ _), hv2.next (below1 _ _)⟩
    have HSM : Hid (∀ t, Calls Try.prog 13 #[.agg #[.slice a0 an0 ac0, .slice a1 an1 ac1, .slice a2 an2 ac2, .int .i64 L.ops], .agg #[.slice d0 dn0 dc0, .slice d1 dn1 dc1, .slice d2 dn2 dc2, .int .i64 L.ops]] (w2.alloc (.cells #[.slice d0 dn0 dc0, .slice d1 dn1 dc1, .slice d2 dn2 dc2, .int .i64 L.ops] t)) fun e w' => e = .returned (.bool true) ∧ Below (w2.alloc (.cells #[.slice d0 dn0 dc0, .slice d1 dn1 dc1, .slice d2 dn2 dc2, .int .i64 L.ops] t)).heap.size (w2.alloc (.cells #[.slice d0 dn0 dc0, .slice d1 dn1 dc1, .slice d2 dn2 dc2, .int .i64 L.ops] t)) w') := fun t => by
      have q := HC2.out t
      obtain ⟨e0, e1, e2⟩ : dn0 = an0 ∧ dn1 = an1 ∧ dn2 = an2 := ⟨q.2.2.2.2.h0.symm.trans q.2.2.2.1.h0, q.2.2.2.2.h1.symm.trans q.2.2.2.1.h1, q.2.2.2.2.h2.symm.trans q.2.2.2.1.h2⟩
      have hL := HL.out
      have g0 := q.2.2.2.1.h0
      have g1 := q.2.2.2.1.h1
      have g2 := q.2.2.2.1.h2
      rw [e0, e1, e2] at q ⊢
      exact rsame_is a0 an0 ac0 a1 an1 ac1 a2 an2 ac2 d0 dc0 d1 dc1 d2 dc2 L.ops L g0 g1 g2 (by omega) (by omega) (by omega) _ q.2.2.2.1.li q.2.2.2.2.li
    clear hv2 k2
    have hc2 := HC2.out 26
    have x0 := hc2.2.1.cs 0 _ rfl
    have x1 := hc2.2.1.cs 1 _ rfl
    have x2 := hc2.2.1.cs 2 _ rfl
    have x3 := hc2.2.1.cs 3 _ rfl
    have y0 := hc2.2.2.1.cs 0 _ rfl
    have y1 := hc2.2.2.1.cs 1 _ rfl
    have y2 := hc2.2.2.1.cs 2 _ rfl
    have y3 := hc2.2.2.1.cs 3 _ rfl
    clear hc2
    go_wp2_with fail
    refine Calls.mono (HSM.out _) ?_; rintro e w3 ⟨rfl, k3⟩
    have HB3 : Hid (Below w.heap.size w w3) := Below.next (HC2.out _).1 k3
    clear k3 x0 x1 x2 x3 y0 y1 y2 y3
    go_wp2_with fail
    refine Calls.mono (HAW.out _) ?_; rintro e w4 ⟨rfl, k4⟩
    have HB4 : Hid (Below w.heap.size w w4) := Below.next HB3.out k4
    clear k4
    go_wp2_with fail
    try simp only [Exit.inBlock, Exit.then]
    go_ret
    exact ⟨rfl, HB4.out⟩
  · have hgt : (40 : Int) < (n : Int) := by omega
    clear hl hlf hro
    go_enter Try.func4, Try.ntmps4
    go_wp2_with fail
    refine Calls.mono (HAW.out _) ?_; rintro e w4 ⟨rfl, k4⟩
    have HB4 : Hid (Below w.heap.size w w4) := k4
    clear k4
    go_wp2_with fail
    try simp only [Exit.inBlock, Exit.then]
    go_ret
    exact ⟨rfl, HB4.out⟩
end Go.Proofs.Ytflbcheofmljeaa
