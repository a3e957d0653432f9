/- The document's ledger: does, full; what Step says, without memory. The document's ledger: lists that are too long, without memory. The document's ledger: Step, what is refused. The document's ledger: Step. The document's ledger: Step, of a ledger that may be. The document's ledger: Replay, from nothing. The document's ledger: Same, of ledgers that are the same. LedgerReplays: the walk. The document's ledger: which ledgers may be, and which may not. The document's ledger: Apply. The document's ledger: Apply, Check, Light. A ledger and an operation, as they came in. LedgerApplies. -/
import Derived.Test.YtflbcheofmljeaaG3
import Derived.Test.YtflbcheofmljeaaG5
import Derived.Test.YtflbcheofmljeaaG6
import Derived.Deep.DeepCutAuto
import Derived.Test.YtflbcheofmljeaaLate
import Derived.Deep.Slices
import Derived.Deep.RegionHeld
namespace Go.Proofs.Ytflbcheofmljeaa
open Go.ChangeShapes Go.WideShapes Go.RowKit
set_option linter.unusedVariables false
set_option maxRecDepth 100000

theorem rdoes_is {w : World} {a0 : Option Addr} {n0 c0 : Nat} {a1 : Option Addr} {n1 c1 : Nat} {a2 : Option Addr} {n2 c2 : Nat} {L : Led} (h : RArgs w a0 n0 c0 a1 n1 c1 a2 n2 c2 L) (hm : mayL L) (hf : L.fit) (o : Opn) (ho : o.fit) (hom : o.may) :
    Calls Try.prog 28 #[.agg #[.slice a0 n0 c0, .slice a1 n1 c1, .slice a2 n2 c2, .int .i64 L.ops], oval o] w fun e w' => LeP a0 a1 a2 L w w' (rL L o) (rE L o) e := by
  have hq := ho.qty
  rcases kinds hom with k | k | k | k | k | k | k
  · obtain ⟨ok, s, l, t, q, i, d⟩ := o
    subst k
    exact rdoes_k1 h hm hf s l t q i d hq
  · have h1 := may2 hom k
    obtain ⟨ok, s, l, t, q, i, d⟩ := o
    subst k
    exact rdoes_k2 h hm hf s l t q i d hq h1.2.2.1
  · have h1 := may34 hom (.inl k)
    obtain ⟨ok, s, l, t, q, i, d⟩ := o
    subst k
    exact rdoes_k3 h hm hf s l t q i d h1
  · have h1 := may34 hom (.inr k)
    obtain ⟨ok, s, l, t, q, i, d⟩ := o
    subst k
    exact rdoes_k4 h hm hf s l t q i d h1
  · obtain ⟨ok, s, l, t, q, i, d⟩ := o
    subst k
    exact rdoes_k5 h hm hf s l t q i d
  · have h1 := may6 hom k
    obtain ⟨ok, s, l, t, q, i, d⟩ := o
    subst k
    exact rdoes_k6 h hm hf s l t q i d hq h1.2.2.2.2 h1.2.2.2.1
  · obtain ⟨ok, s, l, t, q, i, d⟩ := o
    subst k
    exact rdoes_k7 h hm hf s l t q i d hq
theorem rfull_is (a0 : Option Addr) (n0 c0 : Nat) (a1 : Option Addr) (n1 c1 : Nat) (a2 : Option Addr) (n2 c2 : Nat) (ops : Int) (w : World) :
    Calls Try.prog 29 #[.agg #[.slice a0 n0 c0, .slice a1 n1 c1, .slice a2 n2 c2, .int .i64 ops]] w fun e w' => e = .returned (.bool (decide (¬ room3 n0 n1 n2 0 0 0))) ∧ Below w.heap.size w w' := by
  obtain ⟨z, hz⟩ : ∃ z, decide (¬ room3 n0 n1 n2 0 0 0) = z := ⟨_, rfl⟩
  rw [hz]
  by_cases q0 : 4096 < n0
  · have q0i : (4096 : Int) < (n0 : Int) := by omega
    have HE : Hid (z = true) := hz.symm.trans <| decide_eq_true (by unfold room3; omega)
    clear hz
    go_enter Try.func29, Try.ntmps29
    go_wp2_with fail
    go_ret
    exact ⟨by rw [HE.out]; rfl, below1 _ _⟩
  · have q0i : ¬ (4096 : Int) < (n0 : Int) := by omega
    by_cases q1 : 4096 < n1
    · have q1i : (4096 : Int) < (n1 : Int) := by omega
      have HE : Hid (z = true) := hz.symm.trans <| decide_eq_true (by unfold room3; omega)
      clear hz
      go_enter Try.func29, Try.ntmps29
      go_wp2_with fail
      go_ret
      exact ⟨by rw [HE.out]; rfl, below1 _ _⟩
    · have q1i : ¬ (4096 : Int) < (n1 : Int) := by omega
      by_cases q2 : 4096 < n2
      · have q2i : (4096 : Int) < (n2 : Int) := by omega
        have HE : Hid (z = true) := hz.symm.trans <| decide_eq_true (by unfold room3; omega)
        clear hz
        go_enter Try.func29, Try.ntmps29
        go_wp2_with fail
        go_ret
        exact ⟨by rw [HE.out]; rfl, below1 _ _⟩
      · have q2i : ¬ (4096 : Int) < (n2 : Int) := by omega
        have HE : Hid (z = false) := hz.symm.trans <| decide_eq_false (fun e => e (by unfold room3; omega))
        clear hz
        go_enter Try.func29, Try.ntmps29
        go_wp2_with fail
        go_ret
        exact ⟨by rw [HE.out]; rfl, below1 _ _⟩
/-- Why: the document's answer, and the program's. -/
theorem err_no {L : Led} {o : Opn} (hm : mayL L) (hf : L.fit) (hom : o.may) (h : ¬ rE L o = 0) : errOf L o = rE L o := by
  rcases kinds hom with k | k | k | k | k | k | k
  · have e1 : errOf L o = errR L o := by unfold errOf; rw [k]; rfl
    have e2 : rE L o = er ((findK L.S o.sku o.loc).on + o.qty) := by unfold rE; rw [if_pos k]
    rw [e2] at h
    rw [e1, e2]; unfold errR; rw [if_pos h]
  · have e1 : errOf L o = errH L o := by unfold errOf; rw [k]; rfl
    have e2 : rE L o = (if vl ((findK L.S o.sku o.loc).on - (findK L.S o.sku o.loc).held) < o.qty then 70 else 0) := by unfold rE; rw [if_neg (by omega), if_pos k]
    rw [e2] at h
    rw [e1, e2]; unfold errH
    by_cases c : vl ((findK L.S o.sku o.loc).on - (findK L.S o.sku o.loc).held) < o.qty
    · rw [if_pos c, if_pos c]
    · rw [if_neg c] at h; exact absurd rfl h
  · have e1 : errOf L o = errC L o := by unfold errOf; rw [k]; rfl
    have e2 : rE L o = (if actL L.H o.id then 0 else 71) := by unfold rE; rw [if_neg (by omega), if_neg (by omega), if_pos (.inl k)]
    rw [e2] at h
    rw [e1, e2]; unfold errC
    by_cases c : actL L.H o.id = true
    · rw [if_pos c] at h; exact absurd rfl h
    · rw [if_neg c, if_neg c]
  · have e1 : errOf L o = errU L o := by unfold errOf; rw [k]; rfl
    have e2 : rE L o = (if actL L.H o.id then 0 else 71) := by unfold rE; rw [if_neg (by omega), if_neg (by omega), if_pos (.inr k)]
    rw [e1, e2]; rfl
  · have e2 : rE L o = 0 := by unfold rE; rw [if_neg (by omega), if_neg (by omega), if_neg (by omega), if_pos k]
    exact absurd e2 h
  · have e1 : errOf L o = errT L o := by unfold errOf; rw [k]; rfl
    have e2 : rE L o = (if vl ((findK L.S o.sku o.loc).on - (findK L.S o.sku o.loc).held) < o.qty then 70 else er ((findK L.S o.sku (Opn.to o)).on + o.qty)) := by unfold rE; rw [if_neg (by omega), if_neg (by omega), if_neg (by omega), if_neg (by omega), if_pos k]
    rw [e2] at h
    rw [e1, e2]; unfold errT
    by_cases c : vl ((findK L.S o.sku o.loc).on - (findK L.S o.sku o.loc).held) < o.qty
    · rw [if_pos c, if_pos c]
    · rw [if_neg c] at h
      rw [if_neg c, if_neg c, if_pos h]
  · have e1 : errOf L o = errA L o := by unfold errOf; rw [k]; rfl
    have e2 : rE L o = (if er ((findK L.S o.sku o.loc).on + o.qty) = 0 then (if vl ((findK L.S o.sku o.loc).on + o.qty) < (findK L.S o.sku o.loc).held then 70 else 0) else er ((findK L.S o.sku o.loc).on + o.qty)) := by unfold rE; rw [if_neg (by omega), if_neg (by omega), if_neg (by omega), if_neg (by omega), if_neg (by omega)]
    rw [e2] at h
    rw [e1, e2]; unfold errA
    by_cases c : er ((findK L.S o.sku o.loc).on + o.qty) = 0
    · rw [if_pos c] at h
      have hv : vl ((findK L.S o.sku o.loc).on + o.qty) = (findK L.S o.sku o.loc).on + o.qty := (vl_in (er_zero c)).1
      rw [hv] at h ⊢
      rw [if_neg (fun e => e c), if_pos c]
      by_cases c2 : (findK L.S o.sku o.loc).on + o.qty < (findK L.S o.sku o.loc).held
      · rw [if_pos c2, if_pos c2]
      · rw [if_neg c2] at h; exact absurd rfl h
    · rw [if_pos c, if_neg c]
end Go.Proofs.Ytflbcheofmljeaa

namespace Go.Proofs.Ytflbcheofmljeaa
open Go.ChangeShapes Go.WideShapes Go.RowKit
set_option linter.unusedVariables false
set_option maxRecDepth 100000

theorem if_iff {p q : Prop} [Decidable p] [Decidable q] (h : p ↔ q) : (if p then (0 : Int) else 2) = if q then 0 else 2 := by
  by_cases c : p
  · rw [if_pos c, if_pos (h.1 c)]
  · rw [if_neg c, if_neg (fun e => c (h.2 e))]
theorem held_len {l : List Stk} (s t : ByteArray) (d : Int) (h : hasK l s t = true) : (addHeld l s t d).length = l.length := by
  rw [addHeld_upd, upd_len]
  dsimp only
  rw [(findK_key l s t).1, (findK_key l s t).2, h]
  simp
theorem on_len (l : List Stk) (s t : ByteArray) (d : Int) : (addOn l s t d).length = l.length + (if hasK l s t then 0 else 1) := by
  rw [addOn_upd, upd_len]
  dsimp only
  rw [(findK_key l s t).1, (findK_key l s t).2]
theorem err_yes {L : Led} {o : Opn} (hm : mayL L) (hf : L.fit) (hom : o.may) (h : rE L o = 0) : errOf L o = if room (chL L o) 0 0 0 then 0 else 2 := by
  have hl := lens hm
  rcases kinds hom with k | k | k | k | k | k | k
  · have e1 : errOf L o = errR L o := by unfold errOf; rw [k]; rfl
    have e2 : rE L o = er ((findK L.S o.sku o.loc).on + o.qty) := by unfold rE; rw [if_pos k]
    have e3 : chL L o = mvL L o.k o.sku o.loc o.qty 0 := by unfold chL; rw [k]; rfl
    rw [e2] at h
    rw [e1, e3]; unfold errR; rw [if_neg (fun e => e h)]
    refine if_iff ?_
    rw [room_mv]; unfold room
    omega
  · have e1 : errOf L o = errH L o := by unfold errOf; rw [k]; rfl
    have e2 : rE L o = (if vl ((findK L.S o.sku o.loc).on - (findK L.S o.sku o.loc).held) < o.qty then 70 else 0) := by unfold rE; rw [if_neg (by omega), if_pos k]
    have e3 : chL L o = holdL L o.sku o.loc o.qty o.due := by unfold chL; rw [k]; rfl
    rw [e2] at h
    have c : ¬ vl ((findK L.S o.sku o.loc).on - (findK L.S o.sku o.loc).held) < o.qty := fun c => by rw [if_pos c] at h; cases h
    rw [e1, e3]; unfold errH; rw [if_neg c]
    refine if_iff ?_
    have hh : hasK L.S o.sku o.loc = true := has_of_free (may2 hom k).2.2.1 (by rw [free_is' hm hf] at c; omega)
    have q1 : (holdL L o.sku o.loc o.qty o.due).S.length = L.S.length := held_len _ _ _ hh
    have q2 : (holdL L o.sku o.loc o.qty o.due).H.length = L.H.length + 1 := by unfold holdL; simp
    have q3 : (holdL L o.sku o.loc o.qty o.due).M.length = L.M.length := rfl
    unfold room
    rw [q1, q2, q3]
    omega
  · have e1 : errOf L o = errC L o := by unfold errOf; rw [k]; rfl
    have e2 : rE L o = (if actL L.H o.id then 0 else 71) := by unfold rE; rw [if_neg (by omega), if_neg (by omega), if_pos (.inl k)]
    rw [e2] at h
    have c : actL L.H o.id = true := by
      cases hc : actL L.H o.id with
      | true => rfl
      | false => rw [hc] at h; simp at h
    obtain ⟨x, hx, h0⟩ := act_some c
    have e3 : chL L o = mvL (endL L (o.id - 1).toNat x 1) o.k x.sku x.loc (-x.qty) x.id := by unfold chL; rw [k, hx]; rfl
    rw [e1, e3]; unfold errC; rw [if_pos c]
    refine if_iff ?_
    have hh : hasK L.S x.sku x.loc = true := hm.ag.1 x (List.mem_of_getElem? hx) h0
    have hh2 := (endL_find hm.S.2 (o.id - 1).toNat x 1).2
    have q1 : (endL L (o.id - 1).toNat x 1).S.length = L.S.length := held_len _ _ _ hh
    have q2 : (endL L (o.id - 1).toNat x 1).H.length = L.H.length := by show (List.set _ _ _).length = _; rw [List.length_set]
    have q3 : (endL L (o.id - 1).toNat x 1).M.length = L.M.length := rfl
    rw [room_mv, hh2, q1, q2, q3]; unfold room
    simp
  · have e1 : errOf L o = errU L o := by unfold errOf; rw [k]; rfl
    have e2 : rE L o = (if actL L.H o.id then 0 else 71) := by unfold rE; rw [if_neg (by omega), if_neg (by omega), if_pos (.inr k)]
    rw [e2] at h
    have c : actL L.H o.id = true := by
      cases hc : actL L.H o.id with
      | true => rfl
      | false => rw [hc] at h; simp at h
    obtain ⟨x, hx, h0⟩ := act_some c
    have e3 : chL L o = endL L (o.id - 1).toNat x 2 := by unfold chL; rw [k, hx]; rfl
    rw [e1, e3]; unfold errU; rw [if_pos c, if_pos (endL_may hm hx h0 (.inr rfl)).1.room]
  · have e1 : errOf L o = 0 := by unfold errOf; rw [k]; rfl
    have e3 : chL L o = expL L o.due L.H.length := by unfold chL; rw [k]; rfl
    rw [e1, e3, if_pos (expL_may hm _ _).room]
  · have e1 : errOf L o = errT L o := by unfold errOf; rw [k]; rfl
    have e2 : rE L o = (if vl ((findK L.S o.sku o.loc).on - (findK L.S o.sku o.loc).held) < o.qty then 70 else er ((findK L.S o.sku (Opn.to o)).on + o.qty)) := by unfold rE; rw [if_neg (by omega), if_neg (by omega), if_neg (by omega), if_neg (by omega), if_pos k]
    have e3 : chL L o = mvL (mvL L o.k o.sku o.loc (-o.qty) 0) o.k o.sku (Opn.to o) o.qty 0 := by unfold chL; rw [k]; rfl
    rw [e2] at h
    have c : ¬ vl ((findK L.S o.sku o.loc).on - (findK L.S o.sku o.loc).held) < o.qty := fun c => by rw [if_pos c] at h; cases h
    rw [if_neg c] at h
    have h6 := may6 hom k
    have hh : hasK L.S o.sku o.loc = true := has_of_free h6.2.2.2.2 (by rw [free_is' hm hf] at c; omega)
    rw [e1, e3]; unfold errT; rw [if_neg c, if_neg (fun e => e h)]
    refine if_iff ?_
    have q1 : (mvL L o.k o.sku o.loc (-o.qty) 0).S.length = L.S.length := by show (addOn _ _ _ _).length = _; rw [on_len, hh]; simp
    have q2 : (mvL L o.k o.sku o.loc (-o.qty) 0).H.length = L.H.length := rfl
    have q3 : (mvL L o.k o.sku o.loc (-o.qty) 0).M.length = L.M.length + 1 := by unfold mvL; simp
    have q4 : hasK (mvL L o.k o.sku o.loc (-o.qty) 0).S o.sku (Opn.to o) = hasK L.S o.sku (Opn.to o) := by
      rw [mvL_S]
      have h7 := has_upd hm.S.2 { findK L.S o.sku o.loc with on := (findK L.S o.sku o.loc).on + -o.qty } o.sku (Opn.to o)
      have h8 : ¬ ((findK L.S o.sku o.loc).sku = o.sku ∧ (findK L.S o.sku o.loc).loc = Opn.to o) := fun e => h6.2.2.2.1 ((findK_key L.S o.sku o.loc).2.symm.trans e.2)
      cases hc : hasK L.S o.sku (Opn.to o) with
      | true => exact h7.2 (.inl hc)
      | false =>
        cases hd : hasK (upd L.S { findK L.S o.sku o.loc with on := (findK L.S o.sku o.loc).on + -o.qty }) o.sku (Opn.to o) with
        | false => rfl
        | true =>
          rcases h7.1 hd with q | q
          · rw [hc] at q; cases q
          · exact absurd q h8
    rw [room_mv, q1, q2, q3, q4]; unfold room
    omega
  · have e1 : errOf L o = errA L o := by unfold errOf; rw [k]; rfl
    have e2 : rE L o = (if er ((findK L.S o.sku o.loc).on + o.qty) = 0 then (if vl ((findK L.S o.sku o.loc).on + o.qty) < (findK L.S o.sku o.loc).held then 70 else 0) else er ((findK L.S o.sku o.loc).on + o.qty)) := by unfold rE; rw [if_neg (by omega), if_neg (by omega), if_neg (by omega), if_neg (by omega), if_neg (by omega)]
    have e3 : chL L o = mvL L o.k o.sku o.loc o.qty 0 := by unfold chL; rw [k]; rfl
    rw [e2] at h
    have c : er ((findK L.S o.sku o.loc).on + o.qty) = 0 := by
      by_cases c : er ((findK L.S o.sku o.loc).on + o.qty) = 0
      · exact c
      · rw [if_neg c] at h; exact h
    have hv : vl ((findK L.S o.sku o.loc).on + o.qty) = (findK L.S o.sku o.loc).on + o.qty := (vl_in (er_zero c)).1
    rw [if_pos c, hv] at h
    have c2 : ¬ (findK L.S o.sku o.loc).on + o.qty < (findK L.S o.sku o.loc).held := fun c2 => by rw [if_pos c2] at h; cases h
    rw [e1, e3]; unfold errA; rw [if_neg (fun e => e c), if_neg c2]
    refine if_iff ?_
    rw [room_mv]; unfold room
    omega
end Go.Proofs.Ytflbcheofmljeaa

namespace Go.Proofs.Ytflbcheofmljeaa
open Go.ChangeShapes Go.WideShapes Go.RowKit
set_option linter.unusedVariables false
set_option maxRecDepth 100000

end Go.Proofs.Ytflbcheofmljeaa

namespace Go.Proofs.Ytflbcheofmljeaa
open Go.ChangeShapes Go.WideShapes Go.RowKit
set_option linter.unusedVariables false
set_option maxRecDepth 100000

end Go.Proofs.Ytflbcheofmljeaa

namespace Go.Proofs.Ytflbcheofmljeaa
open Go.ChangeShapes Go.WideShapes Go.RowKit
set_option linter.unusedVariables false
set_option maxRecDepth 100000

theorem RArgs.next {w w' : World} {a0 : Option Addr} {n0 c0 : Nat} {a1 : Option Addr} {n1 c1 : Nat} {a2 : Option Addr} {n2 c2 : Nat} {L : Led} (h : RArgs w a0 n0 c0 a1 n1 c1 a2 n2 c2 L) (b : Below w.heap.size w w') : RArgs w' a0 n0 c0 a1 n1 c1 a2 n2 c2 L := ⟨h.h0, h.h1, h.h2, h.cap, h.li.next b⟩
theorem full_of {M : Led} {b : Bool} (h : decide (¬ room M 0 0 0) = b) : ∀ (w' : World) (b0 : Option Addr) (m0 d0 : Nat) (b1 : Option Addr) (m1 d1 : Nat) (b2 : Option Addr) (m2 d2 : Nat) (ops' : Int), M.S.length = m0 → M.H.length = m1 → M.M.length = m2 → Calls Try.prog 29 #[.agg #[.slice b0 m0 d0, .slice b1 m1 d1, .slice b2 m2 d2, .int .i64 ops']] w' fun e w'' => e = .returned (.bool b) ∧ Below w'.heap.size w' w'' := by
  intro w' b0 m0 d0 b1 m1 d1 b2 m2 d2 ops' e0 e1 e2
  have := rfull_is b0 m0 d0 b1 m1 d1 b2 m2 d2 ops' w'
  have e3 : decide (¬ room3 m0 m1 m2 0 0 0) = b := by
    rw [← h]
    subst e0; subst e1; subst e2
    rfl
  rw [e3] at this
  exact this
end Go.Proofs.Ytflbcheofmljeaa

namespace Go.Proofs.Ytflbcheofmljeaa
open Go.ChangeShapes Go.WideShapes Go.RowKit
set_option linter.unusedVariables false
set_option maxRecDepth 100000

theorem RArgs.no (w : World) : RArgs w none 0 0 none 0 0 none 0 0 noL := ⟨rfl, rfl, rfl, Nat.le_refl _, ⟨Rw.nil _ _ _ _, Rw.nil _ _ _ _, Rw.nil _ _ _ _⟩⟩
end Go.Proofs.Ytflbcheofmljeaa

namespace Go.Proofs.Ytflbcheofmljeaa
open Go.ChangeShapes Go.WideShapes Go.RowKit
set_option linter.unusedVariables false
set_option maxRecDepth 100000

set_option maxHeartbeats 8000000 in
theorem rsame_is (a0 : Option Addr) (n0 c0 : Nat) (a1 : Option Addr) (n1 c1 : Nat) (a2 : Option Addr) (n2 c2 : Nat) (b0 : Option Addr) (d0 : Nat) (b1 : Option Addr) (d1 : Nat) (b2 : Option Addr) (d2 : Nat) (ops : Int) (L : Led) (h0 : L.S.length = n0) (h1 : L.H.length = n1) (h2 : L.M.length = n2) (m0 : n0 ≤ 1000000) (m1 : n1 ≤ 1000000) (m2 : n2 ≤ 1000000) (w : World) (ha : Lies w a0 a1 a2 L) (hb : Lies w b0 b1 b2 L) :
    Calls Try.prog 13 #[.agg #[.slice a0 n0 c0, .slice a1 n1 c1, .slice a2 n2 c2, .int .i64 ops], .agg #[.slice b0 n0 d0, .slice b1 n1 d1, .slice b2 n2 d2, .int .i64 ops]] w fun e w' => e = .returned (.bool true) ∧ Below w.heap.size w w' := by
  obtain ⟨W, hW⟩ : ∃ W, (w.alloc (.cells #[.slice a0 n0 c0, .slice a1 n1 c1, .slice a2 n2 c2, .int .i64 ops] 26)).alloc (.cells #[.slice b0 n0 d0, .slice b1 n1 d1, .slice b2 n2 d2, .int .i64 ops] 26) = W := ⟨_, rfl⟩
  have HC : Hid (CellsF W w.heap.size [.slice a0 n0 c0, .slice a1 n1 c1, .slice a2 n2 c2, .int .i64 ops] ∧ CellsF W (w.heap.size + 1) [.slice b0 n0 d0, .slice b1 n1 d1, .slice b2 n2 d2, .int .i64 ops] ∧ Below w.heap.size w W) := by
    show _ ∧ _
    rw [← hW]
    exact ⟨(CellsF.at _ 26 (by simp) rfl).next (below1 _ _), CellsF.at _ 26 (by simp) (by rw [size_alloc]), below2 _ _ _⟩
  have HL : Hid (L.S.length = n0 ∧ L.H.length = n1 ∧ L.M.length = n2) := ⟨h0, h1, h2⟩
  have HR : Hid (Lies w a0 a1 a2 L ∧ Lies w b0 b1 b2 L) := ⟨ha, hb⟩
  have l0 := HC.out.1.cs 0 _ rfl
  have r0 := HC.out.2.1.cs 0 _ rfl
  have l1 := HC.out.1.cs 1 _ rfl
  have r1 := HC.out.2.1.cs 1 _ rfl
  have l2 := HC.out.1.cs 2 _ rfl
  have r2 := HC.out.2.1.cs 2 _ rfl
  have l3 := HC.out.1.cs 3 _ rfl
  have r3 := HC.out.2.1.cs 3 _ rfl
  clear h0 h1 h2 ha hb
  go_enter Try.func13, Try.ntmps13
  go_wp2_with fail
  clear hW l0 l1 l2 l3 r0 r1 r2 r3
  go_loopw [5] (fun vi wr => ∃ k : Nat, k ≤ n0 ∧ vi = .int .i64 k ∧ Hid (Below W.heap.size W wr))
    (fun vi _ => n0 - (intOf vi).toNat)
  case atStart => exact ⟨0, Nat.zero_le _, rfl, Below.refl _ _⟩
  case round =>
    obtain ⟨k, hk, rfl, HI⟩ := hrel
    have l0 := (HC.out.1.next HI.out).cs 0 _ rfl
    have r0 := (HC.out.2.1.next HI.out).cs 0 _ rfl
    by_cases hlt : k < n0
    · have hlti : (k : Int) < (n0 : Int) := by omega
      have hkl : k < L.S.length := by have := HL.out; omega
      obtain ⟨p1, o1, ea, hp1, hc1⟩ := HR.out.1.S.stk (fun e => by rw [e] at hkl; simp at hkl)
      obtain ⟨p2, o2, eb, hp2, hc2⟩ := HR.out.2.S.stk (fun e => by rw [e] at hkl; simp at hkl)
      have hbw : Below w.heap.size w wr := Below.next HC.out.2.2 HI.out
      have hx1 := (hc1 k hkl).next (hbw.block p1 hp1)
      have hx2 := (hc2 k hkl).next (hbw.block p2 hp2)
      rw [ea] at l0
      rw [eb] at r0
      generalize L.S[k] = x at hx1 hx2
      obtain ⟨xs, xl, xo, xh⟩ := x
      obtain ⟨u0, u1, u2, u3⟩ := hx1
      obtain ⟨v0, v1, v2, v3⟩ := hx2
      dsimp only at u0 u1 u2 u3 v0 v1 v2 v3
      have HJD : Hid (∀ n, Below W.heap.size W (wr.drewN n)) := fun n => ⟨HI.out.os, HI.out.tape, HI.out.output, HI.out.size, HI.out.block⟩
      clear hc1 hc2 hp1 hp2 ea eb hbw
      go_wp2_with fail
      go_quiet (fail)
      go_wp2_with fail
      go_roundw
      case rel => exact ⟨k + 1, by omega, by go_num, HJD.out _⟩
      case measure => simp [intOf]; omega
    · have hlti : ¬ (k : Int) < (n0 : Int) := by omega
      go_wp2_with fail
      clear l0 r0 hlti hlt
      go_loopw [6] (fun vi wr => ∃ k : Nat, k ≤ n1 ∧ vi = .int .i64 k ∧ Hid (Below W.heap.size W wr))
        (fun vi _ => n1 - (intOf vi).toNat)
      case atStart => exact ⟨0, Nat.zero_le _, rfl, HI.out⟩
      case round =>
        clear HI
        obtain ⟨k, hk, rfl, HI⟩ := hrel
        have l1 := (HC.out.1.next HI.out).cs 1 _ rfl
        have r1 := (HC.out.2.1.next HI.out).cs 1 _ rfl
        by_cases hlt : k < n1
        · have hlti : (k : Int) < (n1 : Int) := by omega
          have hkl : k < L.H.length := by have := HL.out; omega
          obtain ⟨p1, o1, ea, hp1, hc1⟩ := HR.out.1.H.hld (fun e => by rw [e] at hkl; simp at hkl)
          obtain ⟨p2, o2, eb, hp2, hc2⟩ := HR.out.2.H.hld (fun e => by rw [e] at hkl; simp at hkl)
          have hbw : Below w.heap.size w wr := Below.next HC.out.2.2 HI.out
          have hx1 := (hc1 k hkl).next (hbw.block p1 hp1)
          have hx2 := (hc2 k hkl).next (hbw.block p2 hp2)
          rw [ea] at l1
          rw [eb] at r1
          generalize L.H[k] = x at hx1 hx2
          obtain ⟨xi, xs, xl, xq, xt, xd⟩ := x
          obtain ⟨u0, u1, u2, u3, u4, u5⟩ := hx1
          obtain ⟨v0, v1, v2, v3, v4, v5⟩ := hx2
          dsimp only at u0 u1 u2 u3 u4 u5 v0 v1 v2 v3 v4 v5
          have HJD : Hid (∀ n, Below W.heap.size W (wr.drewN n)) := fun n => ⟨HI.out.os, HI.out.tape, HI.out.output, HI.out.size, HI.out.block⟩
          clear hc1 hc2 hp1 hp2 ea eb hbw
          go_wp2_with fail
          go_quiet (fail)
          go_wp2_with fail
          go_roundw
          case rel => exact ⟨k + 1, by omega, by go_num, HJD.out _⟩
          case measure => simp [intOf]; omega
        · have hlti : ¬ (k : Int) < (n1 : Int) := by omega
          go_wp2_with fail
          clear l1 r1 hlti hlt
          go_loopw [7] (fun vi wr => ∃ k : Nat, k ≤ n2 ∧ vi = .int .i64 k ∧ Hid (Below W.heap.size W wr))
            (fun vi _ => n2 - (intOf vi).toNat)
          case atStart => exact ⟨0, Nat.zero_le _, rfl, HI.out⟩
          case round =>
            clear HI
            obtain ⟨k, hk, rfl, HI⟩ := hrel
            have l2 := (HC.out.1.next HI.out).cs 2 _ rfl
            have r2 := (HC.out.2.1.next HI.out).cs 2 _ rfl
            by_cases hlt : k < n2
            · have hlti : (k : Int) < (n2 : Int) := by omega
              have hkl : k < L.M.length := by have := HL.out; omega
              obtain ⟨p1, o1, ea, hp1, hc1⟩ := HR.out.1.M.mov (fun e => by rw [e] at hkl; simp at hkl)
              obtain ⟨p2, o2, eb, hp2, hc2⟩ := HR.out.2.M.mov (fun e => by rw [e] at hkl; simp at hkl)
              have hbw : Below w.heap.size w wr := Below.next HC.out.2.2 HI.out
              have hx1 := (hc1 k hkl).next (hbw.block p1 hp1)
              have hx2 := (hc2 k hkl).next (hbw.block p2 hp2)
              rw [ea] at l2
              rw [eb] at r2
              generalize L.M[k] = x at hx1 hx2
              obtain ⟨xi, xs, xl, xq, xt, xd⟩ := x
              obtain ⟨u0, u1, u2, u3, u4, u5⟩ := hx1
              obtain ⟨v0, v1, v2, v3, v4, v5⟩ := hx2
              dsimp only at u0 u1 u2 u3 u4 u5 v0 v1 v2 v3 v4 v5
              have HJD : Hid (∀ n, Below W.heap.size W (wr.drewN n)) := fun n => ⟨HI.out.os, HI.out.tape, HI.out.output, HI.out.size, HI.out.block⟩
              clear hc1 hc2 hp1 hp2 ea eb hbw
              go_wp2_with fail
              go_quiet (fail)
              go_wp2_with fail
              go_roundw
              case rel => exact ⟨k + 1, by omega, by go_num, HJD.out _⟩
              case measure => simp [intOf]; omega
            · have hlti : ¬ (k : Int) < (n2 : Int) := by omega
              go_wp2_with fail
              clear l2 r2 hlti hlt
              go_ret
              exact ⟨rfl, Below.next HC.out.2.2 HI.out⟩
end Go.Proofs.Ytflbcheofmljeaa

namespace Go.Proofs.Ytflbcheofmljeaa
open Go.ChangeShapes Go.WideShapes Go.RowKit
set_option linter.unusedVariables false
set_option maxRecDepth 100000

end Go.Proofs.Ytflbcheofmljeaa

namespace Go.Proofs.Ytflbcheofmljeaa
open Go.ChangeShapes Go.WideShapes Go.RowKit
set_option linter.unusedVariables false
set_option maxRecDepth 100000

abbrev mo0 : Oper := { dst := some 38, op := Op.fieldAddr 50 (Operand.tmp 4) 0, type := 0, pos := "ref.go:77", after := #[], guard := none }
abbrev mo1 : Oper := { dst := some 39, op := Op.load 9 (Operand.tmp 38), type := 9, pos := "ref.go:77", after := #[{ on := 0, ground := Ground.data }], guard := none }
abbrev mo3 : Oper := { dst := some 41, op := Op.unOp UnOp.not 4 (Operand.tmp 40), type := 4, pos := "ref.go:77", after := #[{ on := 2, ground := Ground.data }], guard := none }
abbrev mo4 : Oper := { dst := some 42, op := Op.move (Operand.tmp 41), type := 4, pos := "ref.go:77", after := #[{ on := 3, ground := Ground.data }, { on := 2, ground := Ground.chain }], guard := none }
abbrev mo5 : Oper := { dst := some 43, op := Op.fieldAddr 50 (Operand.tmp 4) 1, type := 0, pos := "ref.go:77", after := #[{ on := 4, ground := Ground.guard }], guard := some (4, false) }
abbrev mo6 : Oper := { dst := some 44, op := Op.load 9 (Operand.tmp 43), type := 9, pos := "ref.go:77", after := #[{ on := 5, ground := Ground.data }, { on := 4, ground := Ground.guard }], guard := some (4, false) }
abbrev mo8 : Oper := { dst := some 46, op := Op.unOp UnOp.not 4 (Operand.tmp 45), type := 4, pos := "ref.go:77", after := #[{ on := 7, ground := Ground.data }, { on := 4, ground := Ground.guard }], guard := some (4, false) }
abbrev mo9 : Oper := { dst := some 47, op := Op.pick (Operand.tmp 42) (Operand.const (Value.bool true)) (Operand.tmp 46), type := 4, pos := "ref.go:77", after := #[{ on := 4, ground := Ground.data }, { on := 8, ground := Ground.data }], guard := none }
abbrev mo10 : Oper := { dst := some 48, op := Op.move (Operand.tmp 47), type := 4, pos := "ref.go:77", after := #[{ on := 9, ground := Ground.data }, { on := 7, ground := Ground.chain }], guard := none }
abbrev mo11 : Oper := { dst := some 49, op := Op.fieldAddr 50 (Operand.tmp 4) 3, type := 0, pos := "ref.go:77", after := #[{ on := 10, ground := Ground.guard }], guard := some (10, false) }
abbrev mo12 : Oper := { dst := some 50, op := Op.load 3 (Operand.tmp 49), type := 3, pos := "ref.go:77", after := #[{ on := 11, ground := Ground.data }, { on := 10, ground := Ground.guard }], guard := some (10, false) }
abbrev mo13 : Oper := { dst := some 51, op := Op.binOp BinOp.lss 3 (Operand.tmp 50) (Operand.const (Value.int IntKind.i64 0)) 3, type := 4, pos := "ref.go:77", after := #[{ on := 12, ground := Ground.data }, { on := 10, ground := Ground.guard }], guard := some (10, false) }
abbrev mo14 : Oper := { dst := some 52, op := Op.pick (Operand.tmp 48) (Operand.const (Value.bool true)) (Operand.tmp 51), type := 4, pos := "ref.go:77", after := #[{ on := 10, ground := Ground.data }, { on := 13, ground := Ground.data }], guard := none }
abbrev mo15 : Oper := { dst := some 53, op := Op.move (Operand.tmp 52), type := 4, pos := "ref.go:77", after := #[{ on := 14, ground := Ground.data }, { on := 10, ground := Ground.chain }], guard := none }
abbrev mo16 : Oper := { dst := some 54, op := Op.fieldAddr 50 (Operand.tmp 4) 3, type := 0, pos := "ref.go:77", after := #[{ on := 15, ground := Ground.guard }], guard := some (15, false) }
abbrev mo17 : Oper := { dst := some 55, op := Op.load 3 (Operand.tmp 54), type := 3, pos := "ref.go:77", after := #[{ on := 16, ground := Ground.data }, { on := 15, ground := Ground.guard }], guard := some (15, false) }
abbrev mo18 : Oper := { dst := some 56, op := Op.fieldAddr 50 (Operand.tmp 4) 2, type := 0, pos := "ref.go:77", after := #[{ on := 15, ground := Ground.guard }], guard := some (15, false) }
abbrev mo19 : Oper := { dst := some 57, op := Op.load 3 (Operand.tmp 56), type := 3, pos := "ref.go:77", after := #[{ on := 18, ground := Ground.data }, { on := 15, ground := Ground.guard }], guard := some (15, false) }
abbrev mo20 : Oper := { dst := some 58, op := Op.binOp BinOp.gtr 3 (Operand.tmp 55) (Operand.tmp 57) 3, type := 4, pos := "ref.go:77", after := #[{ on := 17, ground := Ground.data }, { on := 19, ground := Ground.data }, { on := 15, ground := Ground.guard }], guard := some (15, false) }
abbrev mo21 : Oper := { dst := some 59, op := Op.pick (Operand.tmp 53) (Operand.const (Value.bool true)) (Operand.tmp 58), type := 4, pos := "ref.go:77", after := #[{ on := 15, ground := Ground.data }, { on := 20, ground := Ground.data }], guard := none }
abbrev mo22 : Oper := { dst := some 60, op := Op.move (Operand.tmp 59), type := 4, pos := "ref.go:77", after := #[{ on := 21, ground := Ground.data }, { on := 15, ground := Ground.chain }], guard := none }
abbrev mo23 : Oper := { dst := some 61, op := Op.move (Operand.tmp 3), type := 3, pos := "ref.go:77", after := #[{ on := 22, ground := Ground.guard }], guard := some (22, false) }
abbrev mo24 : Oper := { dst := some 62, op := Op.binOp BinOp.gtr 3 (Operand.tmp 61) (Operand.const (Value.int IntKind.i64 0)) 3, type := 4, pos := "ref.go:77", after := #[{ on := 23, ground := Ground.data }, { on := 22, ground := Ground.guard }], guard := some (22, false) }
abbrev mo25 : Oper := { dst := some 63, op := Op.move (Operand.tmp 62), type := 4, pos := "ref.go:77", after := #[{ on := 24, ground := Ground.data }, { on := 22, ground := Ground.chain }, { on := 22, ground := Ground.guard }], guard := some (22, false) }
abbrev mo26 : Oper := { dst := some 64, op := Op.fieldAddr 26 (Operand.tmp 1) 0, type := 0, pos := "ref.go:77", after := #[{ on := 25, ground := Ground.guard }], guard := some (25, true) }
abbrev mo27 : Oper := { dst := some 65, op := Op.load 22 (Operand.tmp 64), type := 22, pos := "ref.go:77", after := #[{ on := 26, ground := Ground.data }, { on := 25, ground := Ground.guard }], guard := some (25, true) }
abbrev mo28 : Oper := { dst := some 66, op := Op.move (Operand.tmp 3), type := 3, pos := "ref.go:77", after := #[{ on := 25, ground := Ground.guard }], guard := some (25, true) }
abbrev mo29 : Oper := { dst := some 67, op := Op.binOp BinOp.sub 3 (Operand.tmp 66) (Operand.const (Value.int IntKind.i64 1)) 3, type := 3, pos := "ref.go:77", after := #[{ on := 28, ground := Ground.data }, { on := 25, ground := Ground.guard }], guard := some (25, true) }
abbrev mo30 : Oper := { dst := some 68, op := Op.indexAddr 22 (Operand.tmp 65) (Operand.tmp 67), type := 0, pos := "ref.go:77", after := #[{ on := 27, ground := Ground.data }, { on := 29, ground := Ground.data }, { on := 25, ground := Ground.guard }], guard := some (25, true) }
abbrev mo31 : Oper := { dst := some 69, op := Op.load 50 (Operand.tmp 68), type := 50, pos := "ref.go:77", after := #[{ on := 30, ground := Ground.data }, { on := 25, ground := Ground.guard }], guard := some (25, true) }
abbrev mo32 : Oper := { dst := some 70, op := Op.load 50 (Operand.tmp 4), type := 50, pos := "ref.go:77", after := #[{ on := 25, ground := Ground.guard }], guard := some (25, true) }
abbrev mo34 : Oper := { dst := some 72, op := Op.unOp UnOp.not 4 (Operand.tmp 71), type := 4, pos := "ref.go:77", after := #[{ on := 33, ground := Ground.data }, { on := 25, ground := Ground.guard }], guard := some (25, true) }
abbrev mo35 : Oper := { dst := some 73, op := Op.pick (Operand.tmp 63) (Operand.tmp 72) (Operand.const (Value.bool false)), type := 4, pos := "ref.go:77", after := #[{ on := 25, ground := Ground.data }, { on := 34, ground := Ground.data }, { on := 22, ground := Ground.guard }], guard := some (22, false) }
abbrev mo36 : Oper := { dst := some 74, op := Op.pick (Operand.tmp 60) (Operand.const (Value.bool true)) (Operand.tmp 73), type := 4, pos := "ref.go:77", after := #[{ on := 22, ground := Ground.data }, { on := 35, ground := Ground.data }], guard := none }
abbrev mo37 : Oper := { dst := some 75, op := Op.move (Operand.tmp 74), type := 4, pos := "ref.go:77", after := #[{ on := 36, ground := Ground.data }, { on := 33, ground := Ground.chain }], guard := none }
abbrev mo38 : Oper := { dst := some 76, op := Op.load 26 (Operand.tmp 1), type := 26, pos := "ref.go:77", after := #[{ on := 37, ground := Ground.guard }], guard := some (37, false) }
abbrev mo39 : Oper := { dst := some 77, op := Op.load 50 (Operand.tmp 4), type := 50, pos := "ref.go:77", after := #[{ on := 37, ground := Ground.guard }], guard := some (37, false) }
abbrev mo41 : Oper := { dst := some 79, op := Op.unOp UnOp.not 4 (Operand.tmp 78), type := 4, pos := "ref.go:77", after := #[{ on := 40, ground := Ground.data }, { on := 37, ground := Ground.guard }], guard := some (37, false) }
abbrev mo42 : Oper := { dst := some 80, op := Op.pick (Operand.tmp 75) (Operand.const (Value.bool true)) (Operand.tmp 79), type := 4, pos := "ref.go:77", after := #[{ on := 37, ground := Ground.data }, { on := 41, ground := Ground.data }], guard := none }
theorem pt (l : List Value) (d : List Deferred) (n : Nat) (v : Value) : Act.put { tmps := l.toArray, defers := d } (some n) v = { tmps := (l.set n v).toArray, defers := d } := by simp [Act.put]
section
variable {P : Program} {ops : Array Oper} {Q : Exit → Act → World → Prop} {md : Region.Mode} {S : World → Prop} {fuel : Nat} {listed : Array Bool} {a : Act} {w : World}
theorem tk (i : Nat) (oi : Oper) (v : Value) (hy : ∀ w, S w → (execOp a.eval oi).run P w = .ok (.value v) w) (h : wpAnyH P md ops Q S fuel (listed.setIfInBounds i true) (a.put oi.dst v) w) (hi : ops[i]? = some oi := by rfl) (hs : Region.noSelect ops = true := by kernel_rfl) (hf : Region.free md ops listed i = true := by kernel_rfl) (hr : (Region.ready md ops listed).contains i = true := by kernel_rfl) (hQ : ∀ c a w, Q (.panic c) (a.put oi.dst v) w → Q (.panic c) a w := by exact fun _ _ _ h => h) (hw : Region.wanted oi (yielded ops a.tmps) = true := by rfl) (hS : S w := by with_reducible assumption) : wpAnyH P md ops Q S (fuel + 1) listed a w :=
  wpAnyH_take hi hs hf hr hQ (Or.inl ⟨hw, hy⟩) hS h
theorem sk (i : Nat) (oi : Oper) (h : wpAnyH P md ops Q S fuel (listed.setIfInBounds i true) (a.put oi.dst undef) w) (hi : ops[i]? = some oi := by rfl) (hs : Region.noSelect ops = true := by kernel_rfl) (hf : Region.free md ops listed i = true := by kernel_rfl) (hr : (Region.ready md ops listed).contains i = true := by kernel_rfl) (hQ : ∀ c a w, Q (.panic c) (a.put oi.dst undef) w → Q (.panic c) a w := by exact fun _ _ _ h => h) (hw : Region.wanted oi (yielded ops a.tmps) = false := by rfl) (hS : S w := by with_reducible assumption) : wpAnyH P md ops Q S (fuel + 1) listed a w :=
  wpAnyH_take hi hs hf hr hQ (Or.inr ⟨hw, rfl⟩) hS h
end
abbrev SA (W w wr : World) (b o n0 c0 : Nat) (a1 : Option Addr) (n1 c1 : Nat) (a2 : Option Addr) (n2 c2 : Nat) (ops : Int) (xs xl : ByteArray) (xo xh : Int) (w' : World) : Prop := (Below W.heap.size W w' ∧ w'.cell? ⟨w.heap.size, 0, none⟩ = some (.slice (some ⟨b, o, none⟩) n0 c0) ∧ w'.cell? ⟨w.heap.size, 1, none⟩ = some (.slice a1 n1 c1) ∧ w'.cell? ⟨w.heap.size, 2, none⟩ = some (.slice a2 n2 c2) ∧ w'.cell? ⟨w.heap.size, 3, none⟩ = some (.int .i64 ops) ∧ w'.cell? ⟨wr.heap.size, 0, none⟩ = some (.string xs) ∧ w'.cell? ⟨wr.heap.size, 1, none⟩ = some (.string xl) ∧ w'.cell? ⟨wr.heap.size, 2, none⟩ = some (.int .i64 xo) ∧ w'.cell? ⟨wr.heap.size, 3, none⟩ = some (.int .i64 xh))
theorem SA.go {W w wr : World} {b o n0 c0 : Nat} {a1 : Option Addr} {n1 c1 : Nat} {a2 : Option Addr} {n2 c2 : Nat} {ops : Int} {xs xl : ByteArray} {xo xh : Int} {w' w'' : World} (h : SA W w wr b o n0 c0 a1 n1 c1 a2 n2 c2 ops xs xl xo xh w') (q : Below w'.heap.size w' w'') : SA W w wr b o n0 c0 a1 n1 c1 a2 n2 c2 ops xs xl xo xh w'' := by
  have b0 := (q.cell (p := ⟨w.heap.size, 0, none⟩) (World.block_lt_of_cell? w' _ (h.2.1))).trans (h.2.1)
  have b1 := (q.cell (p := ⟨w.heap.size, 1, none⟩) (World.block_lt_of_cell? w' _ (h.2.2.1))).trans (h.2.2.1)
  have b2 := (q.cell (p := ⟨w.heap.size, 2, none⟩) (World.block_lt_of_cell? w' _ (h.2.2.2.1))).trans (h.2.2.2.1)
  have b3 := (q.cell (p := ⟨w.heap.size, 3, none⟩) (World.block_lt_of_cell? w' _ (h.2.2.2.2.1))).trans (h.2.2.2.2.1)
  have b4 := (q.cell (p := ⟨wr.heap.size, 0, none⟩) (World.block_lt_of_cell? w' _ (h.2.2.2.2.2.1))).trans (h.2.2.2.2.2.1)
  have b5 := (q.cell (p := ⟨wr.heap.size, 1, none⟩) (World.block_lt_of_cell? w' _ (h.2.2.2.2.2.2.1))).trans (h.2.2.2.2.2.2.1)
  have b6 := (q.cell (p := ⟨wr.heap.size, 2, none⟩) (World.block_lt_of_cell? w' _ (h.2.2.2.2.2.2.2.1))).trans (h.2.2.2.2.2.2.2.1)
  have b7 := (q.cell (p := ⟨wr.heap.size, 3, none⟩) (World.block_lt_of_cell? w' _ (h.2.2.2.2.2.2.2.2))).trans (h.2.2.2.2.2.2.2.2)
  exact ⟨Below.next h.1 q, b0, b1, b2, b3, b4, b5, b6, b7⟩
abbrev SB (W w wr : World) (b o n0 c0 : Nat) (a1 : Option Addr) (n1 c1 : Nat) (a2 : Option Addr) (n2 c2 : Nat) (ops : Int) (xs xl : ByteArray) (xo xh : Int) (j : Nat) (ps pl : ByteArray) (po ph : Int) (w' : World) : Prop := (Below W.heap.size W w' ∧ w'.cell? ⟨w.heap.size, 0, none⟩ = some (.slice (some ⟨b, o, none⟩) n0 c0) ∧ w'.cell? ⟨w.heap.size, 1, none⟩ = some (.slice a1 n1 c1) ∧ w'.cell? ⟨w.heap.size, 2, none⟩ = some (.slice a2 n2 c2) ∧ w'.cell? ⟨w.heap.size, 3, none⟩ = some (.int .i64 ops) ∧ w'.cell? ⟨wr.heap.size, 0, none⟩ = some (.string xs) ∧ w'.cell? ⟨wr.heap.size, 1, none⟩ = some (.string xl) ∧ w'.cell? ⟨wr.heap.size, 2, none⟩ = some (.int .i64 xo) ∧ w'.cell? ⟨wr.heap.size, 3, none⟩ = some (.int .i64 xh) ∧ w'.cell? ⟨b, o + j * 4, none⟩ = some (.string ps) ∧ w'.cell? ⟨b, o + j * 4 + 1, none⟩ = some (.string pl) ∧ w'.cell? ⟨b, o + j * 4 + 2, none⟩ = some (.int .i64 po) ∧ w'.cell? ⟨b, o + j * 4 + 3, none⟩ = some (.int .i64 ph))
theorem SB.go {W w wr : World} {b o n0 c0 : Nat} {a1 : Option Addr} {n1 c1 : Nat} {a2 : Option Addr} {n2 c2 : Nat} {ops : Int} {xs xl : ByteArray} {xo xh : Int} {j : Nat} {ps pl : ByteArray} {po ph : Int} {w' w'' : World} (h : SB W w wr b o n0 c0 a1 n1 c1 a2 n2 c2 ops xs xl xo xh j ps pl po ph w') (q : Below w'.heap.size w' w'') : SB W w wr b o n0 c0 a1 n1 c1 a2 n2 c2 ops xs xl xo xh j ps pl po ph w'' := by
  have b0 := (q.cell (p := ⟨w.heap.size, 0, none⟩) (World.block_lt_of_cell? w' _ (h.2.1))).trans (h.2.1)
  have b1 := (q.cell (p := ⟨w.heap.size, 1, none⟩) (World.block_lt_of_cell? w' _ (h.2.2.1))).trans (h.2.2.1)
  have b2 := (q.cell (p := ⟨w.heap.size, 2, none⟩) (World.block_lt_of_cell? w' _ (h.2.2.2.1))).trans (h.2.2.2.1)
  have b3 := (q.cell (p := ⟨w.heap.size, 3, none⟩) (World.block_lt_of_cell? w' _ (h.2.2.2.2.1))).trans (h.2.2.2.2.1)
  have b4 := (q.cell (p := ⟨wr.heap.size, 0, none⟩) (World.block_lt_of_cell? w' _ (h.2.2.2.2.2.1))).trans (h.2.2.2.2.2.1)
  have b5 := (q.cell (p := ⟨wr.heap.size, 1, none⟩) (World.block_lt_of_cell? w' _ (h.2.2.2.2.2.2.1))).trans (h.2.2.2.2.2.2.1)
  have b6 := (q.cell (p := ⟨wr.heap.size, 2, none⟩) (World.block_lt_of_cell? w' _ (h.2.2.2.2.2.2.2.1))).trans (h.2.2.2.2.2.2.2.1)
  have b7 := (q.cell (p := ⟨wr.heap.size, 3, none⟩) (World.block_lt_of_cell? w' _ (h.2.2.2.2.2.2.2.2.1))).trans (h.2.2.2.2.2.2.2.2.1)
  have b8 := (q.cell (p := ⟨b, o + j * 4, none⟩) (World.block_lt_of_cell? w' _ (h.2.2.2.2.2.2.2.2.2.1))).trans (h.2.2.2.2.2.2.2.2.2.1)
  have b9 := (q.cell (p := ⟨b, o + j * 4 + 1, none⟩) (World.block_lt_of_cell? w' _ (h.2.2.2.2.2.2.2.2.2.2.1))).trans (h.2.2.2.2.2.2.2.2.2.2.1)
  have b10 := (q.cell (p := ⟨b, o + j * 4 + 2, none⟩) (World.block_lt_of_cell? w' _ (h.2.2.2.2.2.2.2.2.2.2.2.1))).trans (h.2.2.2.2.2.2.2.2.2.2.2.1)
  have b11 := (q.cell (p := ⟨b, o + j * 4 + 3, none⟩) (World.block_lt_of_cell? w' _ (h.2.2.2.2.2.2.2.2.2.2.2.2))).trans (h.2.2.2.2.2.2.2.2.2.2.2.2)
  exact ⟨Below.next h.1 q, b0, b1, b2, b3, b4, b5, b6, b7, b8, b9, b10, b11⟩
set_option maxHeartbeats 16000000 in
theorem refMay_is (a0 : Option Addr) (n0 c0 : Nat) (a1 : Option Addr) (n1 c1 : Nat) (a2 : Option Addr) (n2 c2 : Nat) (L : Led) (h0 : L.S.length = n0) (h1 : L.H.length = n1) (h2 : L.M.length = n2) (m0 : n0 ≤ 4096) (m1 : n1 ≤ 4096) (m2 : n2 ≤ 4096) (hf : L.fit) (w : World) (hr : Lies w a0 a1 a2 L) :
    Calls Try.prog 18 #[.agg #[.slice a0 n0 c0, .slice a1 n1 c1, .slice a2 n2 c2, .int .i64 L.ops]] w fun e w' => e = .returned (.bool (decide (mayL L))) ∧ Below w.heap.size w w' := by
  obtain ⟨z, hz⟩ : ∃ z, decide (mayL L) = z := ⟨_, rfl⟩
  rw [hz]
  have HNO : Hid (¬ (0 ≤ L.ops ∧ (∀ x, x ∈ L.S → okS x ∧ sumsP L x) ∧ Rises L.S ∧ mayRH L ∧ mayRM L) → z = false) := fun q => by rw [← hz]; exact decide_eq_false (fun h => q (by have h := (rmay_iff L).1 h; exact ⟨h.1, h.2.2⟩))
  have HYES : Hid ((0 ≤ L.ops ∧ (∀ x, x ∈ L.S → okS x ∧ sumsP L x) ∧ Rises L.S ∧ mayRH L ∧ mayRM L) → z = true) := fun h => by rw [← hz]; exact decide_eq_true ((rmay_iff L).2 ⟨h.1, ⟨by omega, by omega, by omega⟩, h.2⟩)
  clear hz
  obtain ⟨W, hW⟩ : ∃ W, w.alloc (.cells #[.slice a0 n0 c0, .slice a1 n1 c1, .slice a2 n2 c2, .int .i64 L.ops] 26) = W := ⟨_, rfl⟩
  have hB : Below w.heap.size w W := hW ▸ below1 _ _
  have hC : CellsF W w.heap.size [.slice a0 n0 c0, .slice a1 n1 c1, .slice a2 n2 c2, .int .i64 L.ops] := by rw [← hW]; exact CellsF.at _ 26 (by simp) rfl
  have HC : Hid (CellsF W w.heap.size [.slice a0 n0 c0, .slice a1 n1 c1, .slice a2 n2 c2, .int .i64 L.ops]) := hC
  have HL : Hid (L.S.length = n0 ∧ L.H.length = n1 ∧ L.M.length = n2 ∧ L.fit) := ⟨h0, h1, h2, hf⟩
  have HR : Hid (Lies w a0 a1 a2 L) := hr
  have HB : Hid (Below w.heap.size w W) := hB
  have l0 := hC.cs 0 _ rfl
  have l1 := hC.cs 1 _ rfl
  have l2 := hC.cs 2 _ rfl
  have l3 := hC.cs 3 _ rfl
  clear hr hB hf hC
  have q1i : ¬ (4096 : Int) < (n0 : Int) := by omega
  have q2i : ¬ (4096 : Int) < (n1 : Int) := by omega
  have q3i : ¬ (4096 : Int) < (n2 : Int) := by omega
  have q1 : ¬ 4096 < n0 := by omega
  have q2 : ¬ 4096 < n1 := by omega
  have q3 : ¬ 4096 < n2 := by omega
  clear h0 h1 h2
  by_cases q0 : L.ops < 0
  · have HE : Hid (z = false) := HNO.out (fun h => by have := h.1; omega)
    go_enter Try.func18, Try.ntmps18
    go_wp2_with fail
    try rw [hW]
    clear hW
    go_wp2_with fail
    go_ret
    exact ⟨by rw [HE.out]; rfl, HB.out⟩
  have HQ0 : Hid (0 ≤ L.ops) := by show _ ≤ _; omega
  go_enter Try.func18, Try.ntmps18
  go_wp2_with fail
  try rw [hW]
  clear hW
  go_wp2_with fail
  clear l0 l1 l2 l3
  go_loopw [3] (fun vi wr => ∃ k : Nat, k ≤ n0 ∧ vi = .int .i64 k ∧ Hid (Below w.heap.size w wr ∧ Below W.heap.size W wr) ∧ Hid ((∀ i (h : i < L.S.length), i < k → okS L.S[i] ∧ sumsP L L.S[i]) ∧ Rises (L.S.take k)))
    (fun vi _ => n0 - (intOf vi).toNat)
  case atStart => exact ⟨0, Nat.zero_le _, rfl, ⟨HB.out, Below.refl _ _⟩, fun i h q => absurd q (Nat.not_lt_zero _), by unfold Rises; simp⟩
  case round =>
    obtain ⟨k, hk, rfl, HI, HV⟩ := hrel
    clear q1 q2 q3 q1i q2i q3i
    have l0 := (HC.out.next HI.out.2).cs 0 _ rfl
    have l1 := (HC.out.next HI.out.2).cs 1 _ rfl
    have l2 := (HC.out.next HI.out.2).cs 2 _ rfl
    have l3 := (HC.out.next HI.out.2).cs 3 _ rfl
    by_cases hlt : k < n0
    · have hlti : (k : Int) < (n0 : Int) := by omega
      have hkl : k < L.S.length := by have := HL.out.1; omega
      obtain ⟨b, o, ha, hb, hc⟩ := HR.out.S.stk (fun e => by rw [e] at hkl; simp at hkl)
      have hx := (hc k hkl).next (HI.out.1.block b hb)
      obtain ⟨x, hxk⟩ : ∃ x, L.S[k] = x := ⟨_, rfl⟩
      rw [hxk] at hx
      have HX : Hid (L.S[k] = x ∧ x ∈ L.S) := ⟨hxk, hxk ▸ List.getElem_mem hkl⟩
      have HXF : Hid (x.fit) := HL.out.2.2.2.S _ HX.out.2
      have HCC : Hid (b < w.heap.size ∧ ∀ i (hi : i < L.S.length), StkAt w b (o + i * 4) L.S[i]) := ⟨hb, hc⟩
      have HRS : Hid (Lies w a0 a1 a2 L) := HR.out
      subst ha
      clear hc hb hxk
      obtain ⟨xs, xl, xo, xh⟩ := x
      obtain ⟨x0, x1, x2, x3⟩ := hx
      dsimp only at x0 x1 x2 x3
      obtain ⟨W2, hW2⟩ : ∃ W2, wr.alloc (.cells #[.string xs, .string xl, .int .i64 xo, .int .i64 xh] 50) = W2 := ⟨_, rfl⟩
      have hB2 : Below wr.heap.size wr W2 := hW2 ▸ below1 _ _
      have hC2 : CellsF W2 wr.heap.size [.string xs, .string xl, .int .i64 xo, .int .i64 xh] := by rw [← hW2]; exact CellsF.at _ 50 (by simp) rfl
      have hC3 := HC.out.next (Below.next HI.out.2 hB2)
      have HBW : Hid (Below w.heap.size w W2 ∧ Below W.heap.size W W2) := ⟨Below.next HI.out.1 hB2, Below.next HI.out.2 hB2⟩
      have HPP : Hid (∀ i (hi : i < L.S.length), StkAt W2 b (o + i * 4) L.S[i]) := fun i hi => (HCC.out.2 i hi).next (HBW.out.1.block b HCC.out.1)
      have HS0' : Hid (SA W w wr b o n0 c0 a1 n1 c1 a2 n2 c2 L.ops xs xl xo xh W2) := ⟨HBW.out.2, hC3.cs 0 _ rfl, hC3.cs 1 _ rfl, hC3.cs 2 _ rfl, hC3.cs 3 _ rfl, hC2.cs 0 _ rfl, hC2.cs 1 _ rfl, hC2.cs 2 _ rfl, hC2.cs 3 _ rfl⟩
      clear hB2 hC2 hC3
      have HSUM : Hid (∀ w', Below w.heap.size w w' → Calls Try.prog 33 #[.agg #[.slice (some ⟨b, o, none⟩) n0 c0, .slice a1 n1 c1, .slice a2 n2 c2, .int .i64 L.ops], .agg #[.string xs, .string xl, .int .i64 xo, .int .i64 xh]] w' fun e w'' => e = .returned (.bool (decide (sumsP L ⟨xs, xl, xo, xh⟩))) ∧ Below w'.heap.size w' w'') := fun w' b' => sums_is (some ⟨b, o, none⟩) n0 c0 a1 n1 c1 a2 n2 c2 L.ops L HL.out.2.1 HL.out.2.2.1 (by omega) (by omega) HL.out.2.2.2 ⟨xs, xl, xo, xh⟩ HXF.out w' (HRS.out.next b')
      by_cases q1 : name xs
      rotate_left
      · have HE : Hid (z = false) := HNO.out (fun h => q1 (h.2.1 _ HX.out.2).1.1)
        have HS0 : Hid (SA W w wr b o n0 c0 a1 n1 c1 a2 n2 c2 L.ops xs xl xo xh W2) := HS0'.out
        have HN : Hid (∀ w' w'' : World, (SA W w wr b o n0 c0 a1 n1 c1 a2 n2 c2 L.ops xs xl xo xh w') → Below w'.heap.size w' w'' → (SA W w wr b o n0 c0 a1 n1 c1 a2 n2 c2 L.ops xs xl xo xh w'')) := fun w' w'' h q => SA.go h q
        have HSD : Hid (∀ w', (SA W w wr b o n0 c0 a1 n1 c1 a2 n2 c2 L.ops xs xl xo xh w') → (SA W w wr b o n0 c0 a1 n1 c1 a2 n2 c2 L.ops xs xl xo xh w'.drew)) := fun w' h => HN.out w' w'.drew h (Below.refl _ _).drew
        have HN1 : Hid (∀ (w' : World), (SA W w wr b o n0 c0 a1 n1 c1 a2 n2 c2 L.ops xs xl xo xh w') → Calls Try.prog 31 #[.string xs] w' fun e w'' => e = .returned (.bool false) ∧ (SA W w wr b o n0 c0 a1 n1 c1 a2 n2 c2 L.ops xs xl xo xh w'')) := fun w' hS => (refName_is xs w').mono (by
          rintro e w'' ⟨he, rfl⟩
          exact ⟨by rw [he, decide_eq_false q1], hS⟩)
        clear l1 l2 l3
        clear HN
        clear q1
        go_wp2_with fail
        have hS0 := HS0.out
        refine wp_region_held_drew (S := (fun (w' : World) => (SA W w wr b o n0 c0 a1 n1 c1 a2 n2 c2 L.ops xs xl xo xh w'))) (by kernel_rfl) (HSD.out _ HS0.out) (fun hHeld => ?_)
        refine tk 0 mo0 (.pointer (some ⟨wr.heap.size, 0, none⟩)) ?_ ?_
        · intro x h; dsimp only [SA] at h; (try dsimp only [mo0]); go_simp; try with_reducible rfl
        try simp only [pt, List.set]
        refine tk 1 mo1 (.string xs) ?_ ?_
        · intro x h; dsimp only [SA] at h; (try dsimp only [mo1]); go_simp; try with_reducible rfl
        try simp only [pt, List.set]
        refine wpAnyH_ready (rs := [2]) (by kernel_rfl) (by simp) ?_
        refine AllReadyH.cons rfl (fun K hK => ?_) AllReadyH.nil
        go_simp
        go_wp2_with (((with_reducible refine Calls.mono (HN1.out _ (by with_reducible assumption)) ?_); rintro e w102 ⟨rfl, hS2⟩))
        refine hK.out _ _ (by with_reducible assumption) (fun hHeld2 => ?_)
        clear hK K
        try simp only [Act.put, List.setIfInBounds_toArray, List.set_cons_zero, List.set_cons_succ]
        refine tk 3 mo3 (.bool true) ?_ ?_
        · intro x h; dsimp only [SA] at h; (try dsimp only [mo3]); go_simp; try with_reducible rfl
        try simp only [pt, List.set]
        refine tk 4 mo4 (.bool true) ?_ ?_
        · intro x h; dsimp only [SA] at h; (try dsimp only [mo4]); go_simp; try with_reducible rfl
        try simp only [pt, List.set]
        refine sk 5 mo5 ?_
        try simp only [pt, List.set]
        refine sk 6 mo6 ?_
        try simp only [pt, List.set]
        refine wpAnyH_ready (rs := [7]) (by kernel_rfl) (by simp) ?_
        refine AllReadyH.cons rfl (fun K hK => ?_) AllReadyH.nil
        go_simp
        refine hK.out _ _ (by with_reducible assumption) (fun hHeld7 => ?_)
        clear hK K
        try simp only [Act.put, List.setIfInBounds_toArray, List.set_cons_zero, List.set_cons_succ]
        refine sk 8 mo8 ?_
        try simp only [pt, List.set]
        refine tk 9 mo9 (.bool true) ?_ ?_
        · intro x h; dsimp only [SA] at h; (try dsimp only [mo9]); go_simp; try with_reducible rfl
        try simp only [pt, List.set]
        refine tk 10 mo10 (.bool true) ?_ ?_
        · intro x h; dsimp only [SA] at h; (try dsimp only [mo10]); go_simp; try with_reducible rfl
        try simp only [pt, List.set]
        refine sk 11 mo11 ?_
        try simp only [pt, List.set]
        refine sk 12 mo12 ?_
        try simp only [pt, List.set]
        refine sk 13 mo13 ?_
        try simp only [pt, List.set]
        refine tk 14 mo14 (.bool true) ?_ ?_
        · intro x h; dsimp only [SA] at h; (try dsimp only [mo14]); go_simp; try with_reducible rfl
        try simp only [pt, List.set]
        refine tk 15 mo15 (.bool true) ?_ ?_
        · intro x h; dsimp only [SA] at h; (try dsimp only [mo15]); go_simp; try with_reducible rfl
        try simp only [pt, List.set]
        refine sk 16 mo16 ?_
        try simp only [pt, List.set]
        refine sk 17 mo17 ?_
        try simp only [pt, List.set]
        refine sk 18 mo18 ?_
        try simp only [pt, List.set]
        refine sk 19 mo19 ?_
        try simp only [pt, List.set]
        refine sk 20 mo20 ?_
        try simp only [pt, List.set]
        refine tk 21 mo21 (.bool true) ?_ ?_
        · intro x h; dsimp only [SA] at h; (try dsimp only [mo21]); go_simp; try with_reducible rfl
        try simp only [pt, List.set]
        refine tk 22 mo22 (.bool true) ?_ ?_
        · intro x h; dsimp only [SA] at h; (try dsimp only [mo22]); go_simp; try with_reducible rfl
        try simp only [pt, List.set]
        refine sk 23 mo23 ?_
        try simp only [pt, List.set]
        refine sk 24 mo24 ?_
        try simp only [pt, List.set]
        refine sk 25 mo25 ?_
        try simp only [pt, List.set]
        refine sk 26 mo26 ?_
        try simp only [pt, List.set]
        refine sk 27 mo27 ?_
        try simp only [pt, List.set]
        refine sk 28 mo28 ?_
        try simp only [pt, List.set]
        refine sk 29 mo29 ?_
        try simp only [pt, List.set]
        refine sk 30 mo30 ?_
        try simp only [pt, List.set]
        refine sk 31 mo31 ?_
        try simp only [pt, List.set]
        refine sk 32 mo32 ?_
        try simp only [pt, List.set]
        refine wpAnyH_ready (rs := [33]) (by kernel_rfl) (by simp) ?_
        refine AllReadyH.cons rfl (fun K hK => ?_) AllReadyH.nil
        go_simp
        refine hK.out _ _ (by with_reducible assumption) (fun hHeld33 => ?_)
        clear hK K
        try simp only [Act.put, List.setIfInBounds_toArray, List.set_cons_zero, List.set_cons_succ]
        refine sk 34 mo34 ?_
        try simp only [pt, List.set]
        refine sk 35 mo35 ?_
        try simp only [pt, List.set]
        refine tk 36 mo36 (.bool true) ?_ ?_
        · intro x h; dsimp only [SA] at h; (try dsimp only [mo36]); go_simp; try with_reducible rfl
        try simp only [pt, List.set]
        refine tk 37 mo37 (.bool true) ?_ ?_
        · intro x h; dsimp only [SA] at h; (try dsimp only [mo37]); go_simp; try with_reducible rfl
        try simp only [pt, List.set]
        refine sk 38 mo38 ?_
        try simp only [pt, List.set]
        refine sk 39 mo39 ?_
        try simp only [pt, List.set]
        refine wpAnyH_ready (rs := [40]) (by kernel_rfl) (by simp) ?_
        refine AllReadyH.cons rfl (fun K hK => ?_) AllReadyH.nil
        go_simp
        refine hK.out _ _ (by with_reducible assumption) (fun hHeld40 => ?_)
        clear hK K
        try simp only [Act.put, List.setIfInBounds_toArray, List.set_cons_zero, List.set_cons_succ]
        refine sk 41 mo41 ?_
        try simp only [pt, List.set]
        refine tk 42 mo42 (.bool true) ?_ ?_
        · intro x h; dsimp only [SA] at h; (try dsimp only [mo42]); go_simp; try with_reducible rfl
        try simp only [pt, List.set]
        refine wpAnyH_done (by kernel_rfl) ?_ _
        (have HB3 : Hid (Below w.heap.size w w102 ∧ Below W.heap.size W w102) := ⟨Below.next HB.out hS2.1, hS2.1⟩)
        go_wp2_with fail
        go_ret
        exact ⟨by rw [HE.out]; rfl, HB3.out.1⟩
      by_cases q2 : name xl
      rotate_left
      · have HE : Hid (z = false) := HNO.out (fun h => q2 (h.2.1 _ HX.out.2).1.2.1)
        have HS0 : Hid (SA W w wr b o n0 c0 a1 n1 c1 a2 n2 c2 L.ops xs xl xo xh W2) := HS0'.out
        have HN : Hid (∀ w' w'' : World, (SA W w wr b o n0 c0 a1 n1 c1 a2 n2 c2 L.ops xs xl xo xh w') → Below w'.heap.size w' w'' → (SA W w wr b o n0 c0 a1 n1 c1 a2 n2 c2 L.ops xs xl xo xh w'')) := fun w' w'' h q => SA.go h q
        have HSD : Hid (∀ w', (SA W w wr b o n0 c0 a1 n1 c1 a2 n2 c2 L.ops xs xl xo xh w') → (SA W w wr b o n0 c0 a1 n1 c1 a2 n2 c2 L.ops xs xl xo xh w'.drew)) := fun w' h => HN.out w' w'.drew h (Below.refl _ _).drew
        have HN1 : Hid (∀ (w' : World), (SA W w wr b o n0 c0 a1 n1 c1 a2 n2 c2 L.ops xs xl xo xh w') → Calls Try.prog 31 #[.string xs] w' fun e w'' => e = .returned (.bool true) ∧ (SA W w wr b o n0 c0 a1 n1 c1 a2 n2 c2 L.ops xs xl xo xh w'')) := fun w' hS => (refName_is xs w').mono (by
          rintro e w'' ⟨he, rfl⟩
          exact ⟨by rw [he, decide_eq_true q1], hS⟩)
        have HN2 : Hid (∀ (w' : World), (SA W w wr b o n0 c0 a1 n1 c1 a2 n2 c2 L.ops xs xl xo xh w') → Calls Try.prog 31 #[.string xl] w' fun e w'' => e = .returned (.bool false) ∧ (SA W w wr b o n0 c0 a1 n1 c1 a2 n2 c2 L.ops xs xl xo xh w'')) := fun w' hS => (refName_is xl w').mono (by
          rintro e w'' ⟨he, rfl⟩
          exact ⟨by rw [he, decide_eq_false q2], hS⟩)
        clear l1 l2 l3
        clear HN
        clear q1 q2
        go_wp2_with fail
        have hS0 := HS0.out
        refine wp_region_held_drew (S := (fun (w' : World) => (SA W w wr b o n0 c0 a1 n1 c1 a2 n2 c2 L.ops xs xl xo xh w'))) (by kernel_rfl) (HSD.out _ HS0.out) (fun hHeld => ?_)
        refine tk 0 mo0 (.pointer (some ⟨wr.heap.size, 0, none⟩)) ?_ ?_
        · intro x h; dsimp only [SA] at h; (try dsimp only [mo0]); go_simp; try with_reducible rfl
        try simp only [pt, List.set]
        refine tk 1 mo1 (.string xs) ?_ ?_
        · intro x h; dsimp only [SA] at h; (try dsimp only [mo1]); go_simp; try with_reducible rfl
        try simp only [pt, List.set]
        refine wpAnyH_ready (rs := [2]) (by kernel_rfl) (by simp) ?_
        refine AllReadyH.cons rfl (fun K hK => ?_) AllReadyH.nil
        go_simp
        go_wp2_with (((with_reducible refine Calls.mono (HN1.out _ (by with_reducible assumption)) ?_); rintro e w102 ⟨rfl, hS2⟩))
        refine hK.out _ _ (by with_reducible assumption) (fun hHeld2 => ?_)
        clear hK K
        try simp only [Act.put, List.setIfInBounds_toArray, List.set_cons_zero, List.set_cons_succ]
        refine tk 3 mo3 (.bool false) ?_ ?_
        · intro x h; dsimp only [SA] at h; (try dsimp only [mo3]); go_simp; try with_reducible rfl
        try simp only [pt, List.set]
        refine tk 4 mo4 (.bool false) ?_ ?_
        · intro x h; dsimp only [SA] at h; (try dsimp only [mo4]); go_simp; try with_reducible rfl
        try simp only [pt, List.set]
        refine tk 5 mo5 (.pointer (some ⟨wr.heap.size, 1, none⟩)) ?_ ?_
        · intro x h; dsimp only [SA] at h; (try dsimp only [mo5]); go_simp; try with_reducible rfl
        try simp only [pt, List.set]
        refine tk 6 mo6 (.string xl) ?_ ?_
        · intro x h; dsimp only [SA] at h; (try dsimp only [mo6]); go_simp; try with_reducible rfl
        try simp only [pt, List.set]
        refine wpAnyH_ready (rs := [7]) (by kernel_rfl) (by simp) ?_
        refine AllReadyH.cons rfl (fun K hK => ?_) AllReadyH.nil
        go_simp
        go_wp2_with (((with_reducible refine Calls.mono (HN2.out _ (by with_reducible assumption)) ?_); rintro e w107 ⟨rfl, hS7⟩))
        refine hK.out _ _ (by with_reducible assumption) (fun hHeld7 => ?_)
        clear hK K
        try simp only [Act.put, List.setIfInBounds_toArray, List.set_cons_zero, List.set_cons_succ]
        refine tk 8 mo8 (.bool true) ?_ ?_
        · intro x h; dsimp only [SA] at h; (try dsimp only [mo8]); go_simp; try with_reducible rfl
        try simp only [pt, List.set]
        refine tk 9 mo9 (.bool true) ?_ ?_
        · intro x h; dsimp only [SA] at h; (try dsimp only [mo9]); go_simp; try with_reducible rfl
        try simp only [pt, List.set]
        refine tk 10 mo10 (.bool true) ?_ ?_
        · intro x h; dsimp only [SA] at h; (try dsimp only [mo10]); go_simp; try with_reducible rfl
        try simp only [pt, List.set]
        refine sk 11 mo11 ?_
        try simp only [pt, List.set]
        refine sk 12 mo12 ?_
        try simp only [pt, List.set]
        refine sk 13 mo13 ?_
        try simp only [pt, List.set]
        refine tk 14 mo14 (.bool true) ?_ ?_
        · intro x h; dsimp only [SA] at h; (try dsimp only [mo14]); go_simp; try with_reducible rfl
        try simp only [pt, List.set]
        refine tk 15 mo15 (.bool true) ?_ ?_
        · intro x h; dsimp only [SA] at h; (try dsimp only [mo15]); go_simp; try with_reducible rfl
        try simp only [pt, List.set]
        refine sk 16 mo16 ?_
        try simp only [pt, List.set]
        refine sk 17 mo17 ?_
        try simp only [pt, List.set]
        refine sk 18 mo18 ?_
        try simp only [pt, List.set]
        refine sk 19 mo19 ?_
        try simp only [pt, List.set]
        refine sk 20 mo20 ?_
        try simp only [pt, List.set]
        refine tk 21 mo21 (.bool true) ?_ ?_
        · intro x h; dsimp only [SA] at h; (try dsimp only [mo21]); go_simp; try with_reducible rfl
        try simp only [pt, List.set]
        refine tk 22 mo22 (.bool true) ?_ ?_
        · intro x h; dsimp only [SA] at h; (try dsimp only [mo22]); go_simp; try with_reducible rfl
        try simp only [pt, List.set]
        refine sk 23 mo23 ?_
        try simp only [pt, List.set]
        refine sk 24 mo24 ?_
        try simp only [pt, List.set]
        refine sk 25 mo25 ?_
        try simp only [pt, List.set]
        refine sk 26 mo26 ?_
        try simp only [pt, List.set]
        refine sk 27 mo27 ?_
        try simp only [pt, List.set]
        refine sk 28 mo28 ?_
        try simp only [pt, List.set]
        refine sk 29 mo29 ?_
        try simp only [pt, List.set]
        refine sk 30 mo30 ?_
        try simp only [pt, List.set]
        refine sk 31 mo31 ?_
        try simp only [pt, List.set]
        refine sk 32 mo32 ?_
        try simp only [pt, List.set]
        refine wpAnyH_ready (rs := [33]) (by kernel_rfl) (by simp) ?_
        refine AllReadyH.cons rfl (fun K hK => ?_) AllReadyH.nil
        go_simp
        refine hK.out _ _ (by with_reducible assumption) (fun hHeld33 => ?_)
        clear hK K
        try simp only [Act.put, List.setIfInBounds_toArray, List.set_cons_zero, List.set_cons_succ]
        refine sk 34 mo34 ?_
        try simp only [pt, List.set]
        refine sk 35 mo35 ?_
        try simp only [pt, List.set]
        refine tk 36 mo36 (.bool true) ?_ ?_
        · intro x h; dsimp only [SA] at h; (try dsimp only [mo36]); go_simp; try with_reducible rfl
        try simp only [pt, List.set]
        refine tk 37 mo37 (.bool true) ?_ ?_
        · intro x h; dsimp only [SA] at h; (try dsimp only [mo37]); go_simp; try with_reducible rfl
        try simp only [pt, List.set]
        refine sk 38 mo38 ?_
        try simp only [pt, List.set]
        refine sk 39 mo39 ?_
        try simp only [pt, List.set]
        refine wpAnyH_ready (rs := [40]) (by kernel_rfl) (by simp) ?_
        refine AllReadyH.cons rfl (fun K hK => ?_) AllReadyH.nil
        go_simp
        refine hK.out _ _ (by with_reducible assumption) (fun hHeld40 => ?_)
        clear hK K
        try simp only [Act.put, List.setIfInBounds_toArray, List.set_cons_zero, List.set_cons_succ]
        refine sk 41 mo41 ?_
        try simp only [pt, List.set]
        refine tk 42 mo42 (.bool true) ?_ ?_
        · intro x h; dsimp only [SA] at h; (try dsimp only [mo42]); go_simp; try with_reducible rfl
        try simp only [pt, List.set]
        refine wpAnyH_done (by kernel_rfl) ?_ _
        (have HB3 : Hid (Below w.heap.size w w107 ∧ Below W.heap.size W w107) := ⟨Below.next HB.out hS7.1, hS7.1⟩)
        go_wp2_with fail
        go_ret
        exact ⟨by rw [HE.out]; rfl, HB3.out.1⟩
      by_cases g3 : xh < 0
      · have HE : Hid (z = false) := HNO.out (fun h => by have := (h.2.1 _ HX.out.2).1.2.2.1; dsimp only at this; omega)
        have HS0 : Hid (SA W w wr b o n0 c0 a1 n1 c1 a2 n2 c2 L.ops xs xl xo xh W2) := HS0'.out
        have HN : Hid (∀ w' w'' : World, (SA W w wr b o n0 c0 a1 n1 c1 a2 n2 c2 L.ops xs xl xo xh w') → Below w'.heap.size w' w'' → (SA W w wr b o n0 c0 a1 n1 c1 a2 n2 c2 L.ops xs xl xo xh w'')) := fun w' w'' h q => SA.go h q
        have HSD : Hid (∀ w', (SA W w wr b o n0 c0 a1 n1 c1 a2 n2 c2 L.ops xs xl xo xh w') → (SA W w wr b o n0 c0 a1 n1 c1 a2 n2 c2 L.ops xs xl xo xh w'.drew)) := fun w' h => HN.out w' w'.drew h (Below.refl _ _).drew
        have HN1 : Hid (∀ (w' : World), (SA W w wr b o n0 c0 a1 n1 c1 a2 n2 c2 L.ops xs xl xo xh w') → Calls Try.prog 31 #[.string xs] w' fun e w'' => e = .returned (.bool true) ∧ (SA W w wr b o n0 c0 a1 n1 c1 a2 n2 c2 L.ops xs xl xo xh w'')) := fun w' hS => (refName_is xs w').mono (by
          rintro e w'' ⟨he, rfl⟩
          exact ⟨by rw [he, decide_eq_true q1], hS⟩)
        have HN2 : Hid (∀ (w' : World), (SA W w wr b o n0 c0 a1 n1 c1 a2 n2 c2 L.ops xs xl xo xh w') → Calls Try.prog 31 #[.string xl] w' fun e w'' => e = .returned (.bool true) ∧ (SA W w wr b o n0 c0 a1 n1 c1 a2 n2 c2 L.ops xs xl xo xh w'')) := fun w' hS => (refName_is xl w').mono (by
          rintro e w'' ⟨he, rfl⟩
          exact ⟨by rw [he, decide_eq_true q2], hS⟩)
        clear l1 l2 l3
        clear HN
        have HF0 : Hid (xh < 0) := g3
        clear q1 q2 g3
        go_wp2_with fail
        have hS0 := HS0.out
        refine wp_region_held_drew (S := (fun (w' : World) => (SA W w wr b o n0 c0 a1 n1 c1 a2 n2 c2 L.ops xs xl xo xh w'))) (by kernel_rfl) (HSD.out _ HS0.out) (fun hHeld => ?_)
        refine tk 0 mo0 (.pointer (some ⟨wr.heap.size, 0, none⟩)) ?_ ?_
        · intro x h; dsimp only [SA] at h; (try dsimp only [mo0]); go_simp; try with_reducible rfl
        try simp only [pt, List.set]
        refine tk 1 mo1 (.string xs) ?_ ?_
        · intro x h; dsimp only [SA] at h; (try dsimp only [mo1]); go_simp; try with_reducible rfl
        try simp only [pt, List.set]
        refine wpAnyH_ready (rs := [2]) (by kernel_rfl) (by simp) ?_
        refine AllReadyH.cons rfl (fun K hK => ?_) AllReadyH.nil
        go_simp
        go_wp2_with (((with_reducible refine Calls.mono (HN1.out _ (by with_reducible assumption)) ?_); rintro e w102 ⟨rfl, hS2⟩))
        refine hK.out _ _ (by with_reducible assumption) (fun hHeld2 => ?_)
        clear hK K
        try simp only [Act.put, List.setIfInBounds_toArray, List.set_cons_zero, List.set_cons_succ]
        refine tk 3 mo3 (.bool false) ?_ ?_
        · intro x h; dsimp only [SA] at h; (try dsimp only [mo3]); go_simp; try with_reducible rfl
        try simp only [pt, List.set]
        refine tk 4 mo4 (.bool false) ?_ ?_
        · intro x h; dsimp only [SA] at h; (try dsimp only [mo4]); go_simp; try with_reducible rfl
        try simp only [pt, List.set]
        refine tk 5 mo5 (.pointer (some ⟨wr.heap.size, 1, none⟩)) ?_ ?_
        · intro x h; dsimp only [SA] at h; (try dsimp only [mo5]); go_simp; try with_reducible rfl
        try simp only [pt, List.set]
        refine tk 6 mo6 (.string xl) ?_ ?_
        · intro x h; dsimp only [SA] at h; (try dsimp only [mo6]); go_simp; try with_reducible rfl
        try simp only [pt, List.set]
        refine wpAnyH_ready (rs := [7]) (by kernel_rfl) (by simp) ?_
        refine AllReadyH.cons rfl (fun K hK => ?_) AllReadyH.nil
        go_simp
        go_wp2_with (((with_reducible refine Calls.mono (HN2.out _ (by with_reducible assumption)) ?_); rintro e w107 ⟨rfl, hS7⟩))
        refine hK.out _ _ (by with_reducible assumption) (fun hHeld7 => ?_)
        clear hK K
        try simp only [Act.put, List.setIfInBounds_toArray, List.set_cons_zero, List.set_cons_succ]
        refine tk 8 mo8 (.bool false) ?_ ?_
        · intro x h; dsimp only [SA] at h; (try dsimp only [mo8]); go_simp; try with_reducible rfl
        try simp only [pt, List.set]
        refine tk 9 mo9 (.bool false) ?_ ?_
        · intro x h; dsimp only [SA] at h; (try dsimp only [mo9]); go_simp; try with_reducible rfl
        try simp only [pt, List.set]
        refine tk 10 mo10 (.bool false) ?_ ?_
        · intro x h; dsimp only [SA] at h; (try dsimp only [mo10]); go_simp; try with_reducible rfl
        try simp only [pt, List.set]
        refine tk 11 mo11 (.pointer (some ⟨wr.heap.size, 3, none⟩)) ?_ ?_
        · intro x h; dsimp only [SA] at h; (try dsimp only [mo11]); go_simp; try with_reducible rfl
        try simp only [pt, List.set]
        refine tk 12 mo12 (.int .i64 xh) ?_ ?_
        · intro x h; dsimp only [SA] at h; (try dsimp only [mo12]); go_simp; try with_reducible rfl
        try simp only [pt, List.set]
        have f0 := HF0.out
        refine tk 13 mo13 (.bool true) ?_ ?_
        · intro x h; dsimp only [SA] at h; (try dsimp only [mo13]); go_simp; try with_reducible rfl
        try simp only [pt, List.set]
        clear f0
        refine tk 14 mo14 (.bool true) ?_ ?_
        · intro x h; dsimp only [SA] at h; (try dsimp only [mo14]); go_simp; try with_reducible rfl
        try simp only [pt, List.set]
        refine tk 15 mo15 (.bool true) ?_ ?_
        · intro x h; dsimp only [SA] at h; (try dsimp only [mo15]); go_simp; try with_reducible rfl
        try simp only [pt, List.set]
        refine sk 16 mo16 ?_
        try simp only [pt, List.set]
        refine sk 17 mo17 ?_
        try simp only [pt, List.set]
        refine sk 18 mo18 ?_
        try simp only [pt, List.set]
        refine sk 19 mo19 ?_
        try simp only [pt, List.set]
        refine sk 20 mo20 ?_
        try simp only [pt, List.set]
        refine tk 21 mo21 (.bool true) ?_ ?_
        · intro x h; dsimp only [SA] at h; (try dsimp only [mo21]); go_simp; try with_reducible rfl
        try simp only [pt, List.set]
        refine tk 22 mo22 (.bool true) ?_ ?_
        · intro x h; dsimp only [SA] at h; (try dsimp only [mo22]); go_simp; try with_reducible rfl
        try simp only [pt, List.set]
        refine sk 23 mo23 ?_
        try simp only [pt, List.set]
        refine sk 24 mo24 ?_
        try simp only [pt, List.set]
        refine sk 25 mo25 ?_
        try simp only [pt, List.set]
        refine sk 26 mo26 ?_
        try simp only [pt, List.set]
        refine sk 27 mo27 ?_
        try simp only [pt, List.set]
        refine sk 28 mo28 ?_
        try simp only [pt, List.set]
        refine sk 29 mo29 ?_
        try simp only [pt, List.set]
        refine sk 30 mo30 ?_
        try simp only [pt, List.set]
        refine sk 31 mo31 ?_
        try simp only [pt, List.set]
        refine sk 32 mo32 ?_
        try simp only [pt, List.set]
        refine wpAnyH_ready (rs := [33]) (by kernel_rfl) (by simp) ?_
        refine AllReadyH.cons rfl (fun K hK => ?_) AllReadyH.nil
        go_simp
        refine hK.out _ _ (by with_reducible assumption) (fun hHeld33 => ?_)
        clear hK K
        try simp only [Act.put, List.setIfInBounds_toArray, List.set_cons_zero, List.set_cons_succ]
        refine sk 34 mo34 ?_
        try simp only [pt, List.set]
        refine sk 35 mo35 ?_
        try simp only [pt, List.set]
        refine tk 36 mo36 (.bool true) ?_ ?_
        · intro x h; dsimp only [SA] at h; (try dsimp only [mo36]); go_simp; try with_reducible rfl
        try simp only [pt, List.set]
        refine tk 37 mo37 (.bool true) ?_ ?_
        · intro x h; dsimp only [SA] at h; (try dsimp only [mo37]); go_simp; try with_reducible rfl
        try simp only [pt, List.set]
        refine sk 38 mo38 ?_
        try simp only [pt, List.set]
        refine sk 39 mo39 ?_
        try simp only [pt, List.set]
        refine wpAnyH_ready (rs := [40]) (by kernel_rfl) (by simp) ?_
        refine AllReadyH.cons rfl (fun K hK => ?_) AllReadyH.nil
        go_simp
        refine hK.out _ _ (by with_reducible assumption) (fun hHeld40 => ?_)
        clear hK K
        try simp only [Act.put, List.setIfInBounds_toArray, List.set_cons_zero, List.set_cons_succ]
        refine sk 41 mo41 ?_
        try simp only [pt, List.set]
        refine tk 42 mo42 (.bool true) ?_ ?_
        · intro x h; dsimp only [SA] at h; (try dsimp only [mo42]); go_simp; try with_reducible rfl
        try simp only [pt, List.set]
        refine wpAnyH_done (by kernel_rfl) ?_ _
        (have HB3 : Hid (Below w.heap.size w w107 ∧ Below W.heap.size W w107) := ⟨Below.next HB.out hS7.1, hS7.1⟩)
        go_wp2_with fail
        go_ret
        exact ⟨by rw [HE.out]; rfl, HB3.out.1⟩
      by_cases g4 : xo < xh
      · have HE : Hid (z = false) := HNO.out (fun h => by have := (h.2.1 _ HX.out.2).1.2.2.2; dsimp only at this; omega)
        have HS0 : Hid (SA W w wr b o n0 c0 a1 n1 c1 a2 n2 c2 L.ops xs xl xo xh W2) := HS0'.out
        have HN : Hid (∀ w' w'' : World, (SA W w wr b o n0 c0 a1 n1 c1 a2 n2 c2 L.ops xs xl xo xh w') → Below w'.heap.size w' w'' → (SA W w wr b o n0 c0 a1 n1 c1 a2 n2 c2 L.ops xs xl xo xh w'')) := fun w' w'' h q => SA.go h q
        have HSD : Hid (∀ w', (SA W w wr b o n0 c0 a1 n1 c1 a2 n2 c2 L.ops xs xl xo xh w') → (SA W w wr b o n0 c0 a1 n1 c1 a2 n2 c2 L.ops xs xl xo xh w'.drew)) := fun w' h => HN.out w' w'.drew h (Below.refl _ _).drew
        have HN1 : Hid (∀ (w' : World), (SA W w wr b o n0 c0 a1 n1 c1 a2 n2 c2 L.ops xs xl xo xh w') → Calls Try.prog 31 #[.string xs] w' fun e w'' => e = .returned (.bool true) ∧ (SA W w wr b o n0 c0 a1 n1 c1 a2 n2 c2 L.ops xs xl xo xh w'')) := fun w' hS => (refName_is xs w').mono (by
          rintro e w'' ⟨he, rfl⟩
          exact ⟨by rw [he, decide_eq_true q1], hS⟩)
        have HN2 : Hid (∀ (w' : World), (SA W w wr b o n0 c0 a1 n1 c1 a2 n2 c2 L.ops xs xl xo xh w') → Calls Try.prog 31 #[.string xl] w' fun e w'' => e = .returned (.bool true) ∧ (SA W w wr b o n0 c0 a1 n1 c1 a2 n2 c2 L.ops xs xl xo xh w'')) := fun w' hS => (refName_is xl w').mono (by
          rintro e w'' ⟨he, rfl⟩
          exact ⟨by rw [he, decide_eq_true q2], hS⟩)
        clear l1 l2 l3
        clear HN
        have HF0 : Hid (¬ xh < 0) := g3
        have HF1 : Hid (xo < xh) := g4
        clear q1 q2 g3 g4
        go_wp2_with fail
        have hS0 := HS0.out
        refine wp_region_held_drew (S := (fun (w' : World) => (SA W w wr b o n0 c0 a1 n1 c1 a2 n2 c2 L.ops xs xl xo xh w'))) (by kernel_rfl) (HSD.out _ HS0.out) (fun hHeld => ?_)
        refine tk 0 mo0 (.pointer (some ⟨wr.heap.size, 0, none⟩)) ?_ ?_
        · intro x h; dsimp only [SA] at h; (try dsimp only [mo0]); go_simp; try with_reducible rfl
        try simp only [pt, List.set]
        refine tk 1 mo1 (.string xs) ?_ ?_
        · intro x h; dsimp only [SA] at h; (try dsimp only [mo1]); go_simp; try with_reducible rfl
        try simp only [pt, List.set]
        refine wpAnyH_ready (rs := [2]) (by kernel_rfl) (by simp) ?_
        refine AllReadyH.cons rfl (fun K hK => ?_) AllReadyH.nil
        go_simp
        go_wp2_with (((with_reducible refine Calls.mono (HN1.out _ (by with_reducible assumption)) ?_); rintro e w102 ⟨rfl, hS2⟩))
        refine hK.out _ _ (by with_reducible assumption) (fun hHeld2 => ?_)
        clear hK K
        try simp only [Act.put, List.setIfInBounds_toArray, List.set_cons_zero, List.set_cons_succ]
        refine tk 3 mo3 (.bool false) ?_ ?_
        · intro x h; dsimp only [SA] at h; (try dsimp only [mo3]); go_simp; try with_reducible rfl
        try simp only [pt, List.set]
        refine tk 4 mo4 (.bool false) ?_ ?_
        · intro x h; dsimp only [SA] at h; (try dsimp only [mo4]); go_simp; try with_reducible rfl
        try simp only [pt, List.set]
        refine tk 5 mo5 (.pointer (some ⟨wr.heap.size, 1, none⟩)) ?_ ?_
        · intro x h; dsimp only [SA] at h; (try dsimp only [mo5]); go_simp; try with_reducible rfl
        try simp only [pt, List.set]
        refine tk 6 mo6 (.string xl) ?_ ?_
        · intro x h; dsimp only [SA] at h; (try dsimp only [mo6]); go_simp; try with_reducible rfl
        try simp only [pt, List.set]
        refine wpAnyH_ready (rs := [7]) (by kernel_rfl) (by simp) ?_
        refine AllReadyH.cons rfl (fun K hK => ?_) AllReadyH.nil
        go_simp
        go_wp2_with (((with_reducible refine Calls.mono (HN2.out _ (by with_reducible assumption)) ?_); rintro e w107 ⟨rfl, hS7⟩))
        refine hK.out _ _ (by with_reducible assumption) (fun hHeld7 => ?_)
        clear hK K
        try simp only [Act.put, List.setIfInBounds_toArray, List.set_cons_zero, List.set_cons_succ]
        refine tk 8 mo8 (.bool false) ?_ ?_
        · intro x h; dsimp only [SA] at h; (try dsimp only [mo8]); go_simp; try with_reducible rfl
        try simp only [pt, List.set]
        refine tk 9 mo9 (.bool false) ?_ ?_
        · intro x h; dsimp only [SA] at h; (try dsimp only [mo9]); go_simp; try with_reducible rfl
        try simp only [pt, List.set]
        refine tk 10 mo10 (.bool false) ?_ ?_
        · intro x h; dsimp only [SA] at h; (try dsimp only [mo10]); go_simp; try with_reducible rfl
        try simp only [pt, List.set]
        refine tk 11 mo11 (.pointer (some ⟨wr.heap.size, 3, none⟩)) ?_ ?_
        · intro x h; dsimp only [SA] at h; (try dsimp only [mo11]); go_simp; try with_reducible rfl
        try simp only [pt, List.set]
        refine tk 12 mo12 (.int .i64 xh) ?_ ?_
        · intro x h; dsimp only [SA] at h; (try dsimp only [mo12]); go_simp; try with_reducible rfl
        try simp only [pt, List.set]
        have f0 := HF0.out
        refine tk 13 mo13 (.bool false) ?_ ?_
        · intro x h; dsimp only [SA] at h; (try dsimp only [mo13]); go_simp; try with_reducible rfl
        try simp only [pt, List.set]
        clear f0
        refine tk 14 mo14 (.bool false) ?_ ?_
        · intro x h; dsimp only [SA] at h; (try dsimp only [mo14]); go_simp; try with_reducible rfl
        try simp only [pt, List.set]
        refine tk 15 mo15 (.bool false) ?_ ?_
        · intro x h; dsimp only [SA] at h; (try dsimp only [mo15]); go_simp; try with_reducible rfl
        try simp only [pt, List.set]
        refine tk 16 mo16 (.pointer (some ⟨wr.heap.size, 3, none⟩)) ?_ ?_
        · intro x h; dsimp only [SA] at h; (try dsimp only [mo16]); go_simp; try with_reducible rfl
        try simp only [pt, List.set]
        refine tk 17 mo17 (.int .i64 xh) ?_ ?_
        · intro x h; dsimp only [SA] at h; (try dsimp only [mo17]); go_simp; try with_reducible rfl
        try simp only [pt, List.set]
        refine tk 18 mo18 (.pointer (some ⟨wr.heap.size, 2, none⟩)) ?_ ?_
        · intro x h; dsimp only [SA] at h; (try dsimp only [mo18]); go_simp; try with_reducible rfl
        try simp only [pt, List.set]
        refine tk 19 mo19 (.int .i64 xo) ?_ ?_
        · intro x h; dsimp only [SA] at h; (try dsimp only [mo19]); go_simp; try with_reducible rfl
        try simp only [pt, List.set]
        have f1 := HF1.out
        refine tk 20 mo20 (.bool true) ?_ ?_
        · intro x h; dsimp only [SA] at h; (try dsimp only [mo20]); go_simp; try with_reducible rfl
        try simp only [pt, List.set]
        clear f1
        refine tk 21 mo21 (.bool true) ?_ ?_
        · intro x h; dsimp only [SA] at h; (try dsimp only [mo21]); go_simp; try with_reducible rfl
        try simp only [pt, List.set]
        refine tk 22 mo22 (.bool true) ?_ ?_
        · intro x h; dsimp only [SA] at h; (try dsimp only [mo22]); go_simp; try with_reducible rfl
        try simp only [pt, List.set]
        refine sk 23 mo23 ?_
        try simp only [pt, List.set]
        refine sk 24 mo24 ?_
        try simp only [pt, List.set]
        refine sk 25 mo25 ?_
        try simp only [pt, List.set]
        refine sk 26 mo26 ?_
        try simp only [pt, List.set]
        refine sk 27 mo27 ?_
        try simp only [pt, List.set]
        refine sk 28 mo28 ?_
        try simp only [pt, List.set]
        refine sk 29 mo29 ?_
        try simp only [pt, List.set]
        refine sk 30 mo30 ?_
        try simp only [pt, List.set]
        refine sk 31 mo31 ?_
        try simp only [pt, List.set]
        refine sk 32 mo32 ?_
        try simp only [pt, List.set]
        refine wpAnyH_ready (rs := [33]) (by kernel_rfl) (by simp) ?_
        refine AllReadyH.cons rfl (fun K hK => ?_) AllReadyH.nil
        go_simp
        refine hK.out _ _ (by with_reducible assumption) (fun hHeld33 => ?_)
        clear hK K
        try simp only [Act.put, List.setIfInBounds_toArray, List.set_cons_zero, List.set_cons_succ]
        refine sk 34 mo34 ?_
        try simp only [pt, List.set]
        refine sk 35 mo35 ?_
        try simp only [pt, List.set]
        refine tk 36 mo36 (.bool true) ?_ ?_
        · intro x h; dsimp only [SA] at h; (try dsimp only [mo36]); go_simp; try with_reducible rfl
        try simp only [pt, List.set]
        refine tk 37 mo37 (.bool true) ?_ ?_
        · intro x h; dsimp only [SA] at h; (try dsimp only [mo37]); go_simp; try with_reducible rfl
        try simp only [pt, List.set]
        refine sk 38 mo38 ?_
        try simp only [pt, List.set]
        refine sk 39 mo39 ?_
        try simp only [pt, List.set]
        refine wpAnyH_ready (rs := [40]) (by kernel_rfl) (by simp) ?_
        refine AllReadyH.cons rfl (fun K hK => ?_) AllReadyH.nil
        go_simp
        refine hK.out _ _ (by with_reducible assumption) (fun hHeld40 => ?_)
        clear hK K
        try simp only [Act.put, List.setIfInBounds_toArray, List.set_cons_zero, List.set_cons_succ]
        refine sk 41 mo41 ?_
        try simp only [pt, List.set]
        refine tk 42 mo42 (.bool true) ?_ ?_
        · intro x h; dsimp only [SA] at h; (try dsimp only [mo42]); go_simp; try with_reducible rfl
        try simp only [pt, List.set]
        refine wpAnyH_done (by kernel_rfl) ?_ _
        (have HB3 : Hid (Below w.heap.size w w107 ∧ Below W.heap.size W w107) := ⟨Below.next HB.out hS7.1, hS7.1⟩)
        go_wp2_with fail
        go_ret
        exact ⟨by rw [HE.out]; rfl, HB3.out.1⟩
      have HOK : Hid (okS ⟨xs, xl, xo, xh⟩) := ⟨q1, q2, by show (0 : Int) ≤ xh; omega, by show xh ≤ xo; omega⟩
      by_cases hk0 : k = 0
      · have HK0 : Hid (k = 0) := hk0
        clear hk0
        by_cases q9 : sumsP L ⟨xs, xl, xo, xh⟩
        rotate_left
        · have HE : Hid (z = false) := HNO.out (fun h => q9 (h.2.1 _ HX.out.2).2)
          have HS0 : Hid (SA W w wr b o n0 c0 a1 n1 c1 a2 n2 c2 L.ops xs xl xo xh W2) := HS0'.out
          have HN : Hid (∀ w' w'' : World, (SA W w wr b o n0 c0 a1 n1 c1 a2 n2 c2 L.ops xs xl xo xh w') → Below w'.heap.size w' w'' → (SA W w wr b o n0 c0 a1 n1 c1 a2 n2 c2 L.ops xs xl xo xh w'')) := fun w' w'' h q => SA.go h q
          have HSD : Hid (∀ w', (SA W w wr b o n0 c0 a1 n1 c1 a2 n2 c2 L.ops xs xl xo xh w') → (SA W w wr b o n0 c0 a1 n1 c1 a2 n2 c2 L.ops xs xl xo xh w'.drew)) := fun w' h => HN.out w' w'.drew h (Below.refl _ _).drew
          have HN1 : Hid (∀ (w' : World), (SA W w wr b o n0 c0 a1 n1 c1 a2 n2 c2 L.ops xs xl xo xh w') → Calls Try.prog 31 #[.string xs] w' fun e w'' => e = .returned (.bool true) ∧ (SA W w wr b o n0 c0 a1 n1 c1 a2 n2 c2 L.ops xs xl xo xh w'')) := fun w' hS => (refName_is xs w').mono (by
            rintro e w'' ⟨he, rfl⟩
            exact ⟨by rw [he, decide_eq_true q1], hS⟩)
          have HN2 : Hid (∀ (w' : World), (SA W w wr b o n0 c0 a1 n1 c1 a2 n2 c2 L.ops xs xl xo xh w') → Calls Try.prog 31 #[.string xl] w' fun e w'' => e = .returned (.bool true) ∧ (SA W w wr b o n0 c0 a1 n1 c1 a2 n2 c2 L.ops xs xl xo xh w'')) := fun w' hS => (refName_is xl w').mono (by
            rintro e w'' ⟨he, rfl⟩
            exact ⟨by rw [he, decide_eq_true q2], hS⟩)
          have HSM : Hid (∀ (w' : World), (SA W w wr b o n0 c0 a1 n1 c1 a2 n2 c2 L.ops xs xl xo xh w') → Calls Try.prog 33 #[.agg #[.slice (some ⟨b, o, none⟩) n0 c0, .slice a1 n1 c1, .slice a2 n2 c2, .int .i64 L.ops], .agg #[.string xs, .string xl, .int .i64 xo, .int .i64 xh]] w' fun e w'' => e = .returned (.bool false) ∧ (SA W w wr b o n0 c0 a1 n1 c1 a2 n2 c2 L.ops xs xl xo xh w'')) := fun w' hS => (HSUM.out w' (Below.next HB.out hS.1)).mono (by
            rintro e w'' ⟨he, hb⟩
            exact ⟨by rw [he]; exact congrArg (fun x => Ending.returned (Value.bool x)) (decide_eq_false q9), HN.out _ _ hS hb⟩)
          clear l1 l2 l3
          clear HN
          have HF0 : Hid (¬ xh < 0) := g3
          have HF1 : Hid (¬ xo < xh) := g4
          clear q1 q2 g3 g4 q9
          go_wp2_with fail
          have hS0 := HS0.out
          refine wp_region_held_drew (S := (fun (w' : World) => (SA W w wr b o n0 c0 a1 n1 c1 a2 n2 c2 L.ops xs xl xo xh w'))) (by kernel_rfl) (HSD.out _ HS0.out) (fun hHeld => ?_)
          refine tk 0 mo0 (.pointer (some ⟨wr.heap.size, 0, none⟩)) ?_ ?_
          · intro x h; dsimp only [SA] at h; (try dsimp only [mo0]); go_simp; try with_reducible rfl
          try simp only [pt, List.set]
          refine tk 1 mo1 (.string xs) ?_ ?_
          · intro x h; dsimp only [SA] at h; (try dsimp only [mo1]); go_simp; try with_reducible rfl
          try simp only [pt, List.set]
          refine wpAnyH_ready (rs := [2]) (by kernel_rfl) (by simp) ?_
          refine AllReadyH.cons rfl (fun K hK => ?_) AllReadyH.nil
          go_simp
          go_wp2_with (((with_reducible refine Calls.mono (HN1.out _ (by with_reducible assumption)) ?_); rintro e w102 ⟨rfl, hS2⟩))
          refine hK.out _ _ (by with_reducible assumption) (fun hHeld2 => ?_)
          clear hK K
          try simp only [Act.put, List.setIfInBounds_toArray, List.set_cons_zero, List.set_cons_succ]
          refine tk 3 mo3 (.bool false) ?_ ?_
          · intro x h; dsimp only [SA] at h; (try dsimp only [mo3]); go_simp; try with_reducible rfl
          try simp only [pt, List.set]
          refine tk 4 mo4 (.bool false) ?_ ?_
          · intro x h; dsimp only [SA] at h; (try dsimp only [mo4]); go_simp; try with_reducible rfl
          try simp only [pt, List.set]
          refine tk 5 mo5 (.pointer (some ⟨wr.heap.size, 1, none⟩)) ?_ ?_
          · intro x h; dsimp only [SA] at h; (try dsimp only [mo5]); go_simp; try with_reducible rfl
          try simp only [pt, List.set]
          refine tk 6 mo6 (.string xl) ?_ ?_
          · intro x h; dsimp only [SA] at h; (try dsimp only [mo6]); go_simp; try with_reducible rfl
          try simp only [pt, List.set]
          refine wpAnyH_ready (rs := [7]) (by kernel_rfl) (by simp) ?_
          refine AllReadyH.cons rfl (fun K hK => ?_) AllReadyH.nil
          go_simp
          go_wp2_with (((with_reducible refine Calls.mono (HN2.out _ (by with_reducible assumption)) ?_); rintro e w107 ⟨rfl, hS7⟩))
          refine hK.out _ _ (by with_reducible assumption) (fun hHeld7 => ?_)
          clear hK K
          try simp only [Act.put, List.setIfInBounds_toArray, List.set_cons_zero, List.set_cons_succ]
          refine tk 8 mo8 (.bool false) ?_ ?_
          · intro x h; dsimp only [SA] at h; (try dsimp only [mo8]); go_simp; try with_reducible rfl
          try simp only [pt, List.set]
          refine tk 9 mo9 (.bool false) ?_ ?_
          · intro x h; dsimp only [SA] at h; (try dsimp only [mo9]); go_simp; try with_reducible rfl
          try simp only [pt, List.set]
          refine tk 10 mo10 (.bool false) ?_ ?_
          · intro x h; dsimp only [SA] at h; (try dsimp only [mo10]); go_simp; try with_reducible rfl
          try simp only [pt, List.set]
          refine tk 11 mo11 (.pointer (some ⟨wr.heap.size, 3, none⟩)) ?_ ?_
          · intro x h; dsimp only [SA] at h; (try dsimp only [mo11]); go_simp; try with_reducible rfl
          try simp only [pt, List.set]
          refine tk 12 mo12 (.int .i64 xh) ?_ ?_
          · intro x h; dsimp only [SA] at h; (try dsimp only [mo12]); go_simp; try with_reducible rfl
          try simp only [pt, List.set]
          have f0 := HF0.out
          refine tk 13 mo13 (.bool false) ?_ ?_
          · intro x h; dsimp only [SA] at h; (try dsimp only [mo13]); go_simp; try with_reducible rfl
          try simp only [pt, List.set]
          clear f0
          refine tk 14 mo14 (.bool false) ?_ ?_
          · intro x h; dsimp only [SA] at h; (try dsimp only [mo14]); go_simp; try with_reducible rfl
          try simp only [pt, List.set]
          refine tk 15 mo15 (.bool false) ?_ ?_
          · intro x h; dsimp only [SA] at h; (try dsimp only [mo15]); go_simp; try with_reducible rfl
          try simp only [pt, List.set]
          refine tk 16 mo16 (.pointer (some ⟨wr.heap.size, 3, none⟩)) ?_ ?_
          · intro x h; dsimp only [SA] at h; (try dsimp only [mo16]); go_simp; try with_reducible rfl
          try simp only [pt, List.set]
          refine tk 17 mo17 (.int .i64 xh) ?_ ?_
          · intro x h; dsimp only [SA] at h; (try dsimp only [mo17]); go_simp; try with_reducible rfl
          try simp only [pt, List.set]
          refine tk 18 mo18 (.pointer (some ⟨wr.heap.size, 2, none⟩)) ?_ ?_
          · intro x h; dsimp only [SA] at h; (try dsimp only [mo18]); go_simp; try with_reducible rfl
          try simp only [pt, List.set]
          refine tk 19 mo19 (.int .i64 xo) ?_ ?_
          · intro x h; dsimp only [SA] at h; (try dsimp only [mo19]); go_simp; try with_reducible rfl
          try simp only [pt, List.set]
          have f1 := HF1.out
          refine tk 20 mo20 (.bool false) ?_ ?_
          · intro x h; dsimp only [SA] at h; (try dsimp only [mo20]); go_simp; try with_reducible rfl
          try simp only [pt, List.set]
          clear f1
          refine tk 21 mo21 (.bool false) ?_ ?_
          · intro x h; dsimp only [SA] at h; (try dsimp only [mo21]); go_simp; try with_reducible rfl
          try simp only [pt, List.set]
          refine tk 22 mo22 (.bool false) ?_ ?_
          · intro x h; dsimp only [SA] at h; (try dsimp only [mo22]); go_simp; try with_reducible rfl
          try simp only [pt, List.set]
          refine tk 23 mo23 (.int .i64 k) ?_ ?_
          · intro x h; dsimp only [SA] at h; (try dsimp only [mo23]); go_simp; try with_reducible rfl
          try simp only [pt, List.set]
          have f2 := HK0.out
          refine tk 24 mo24 (.bool false) ?_ ?_
          · intro x h; dsimp only [SA] at h; (try dsimp only [mo24]); go_simp; try with_reducible rfl
          try simp only [pt, List.set]
          clear f2
          refine tk 25 mo25 (.bool false) ?_ ?_
          · intro x h; dsimp only [SA] at h; (try dsimp only [mo25]); go_simp; try with_reducible rfl
          try simp only [pt, List.set]
          refine sk 26 mo26 ?_
          try simp only [pt, List.set]
          refine sk 27 mo27 ?_
          try simp only [pt, List.set]
          refine sk 28 mo28 ?_
          try simp only [pt, List.set]
          refine sk 29 mo29 ?_
          try simp only [pt, List.set]
          refine sk 30 mo30 ?_
          try simp only [pt, List.set]
          refine sk 31 mo31 ?_
          try simp only [pt, List.set]
          refine sk 32 mo32 ?_
          try simp only [pt, List.set]
          refine wpAnyH_ready (rs := [33]) (by kernel_rfl) (by simp) ?_
          refine AllReadyH.cons rfl (fun K hK => ?_) AllReadyH.nil
          go_simp
          refine hK.out _ _ (by with_reducible assumption) (fun hHeld33 => ?_)
          clear hK K
          try simp only [Act.put, List.setIfInBounds_toArray, List.set_cons_zero, List.set_cons_succ]
          refine sk 34 mo34 ?_
          try simp only [pt, List.set]
          refine tk 35 mo35 (.bool false) ?_ ?_
          · intro x h; dsimp only [SA] at h; (try dsimp only [mo35]); go_simp; try with_reducible rfl
          try simp only [pt, List.set]
          refine tk 36 mo36 (.bool false) ?_ ?_
          · intro x h; dsimp only [SA] at h; (try dsimp only [mo36]); go_simp; try with_reducible rfl
          try simp only [pt, List.set]
          refine tk 37 mo37 (.bool false) ?_ ?_
          · intro x h; dsimp only [SA] at h; (try dsimp only [mo37]); go_simp; try with_reducible rfl
          try simp only [pt, List.set]
          refine tk 38 mo38 (.agg #[.slice (some ⟨b, o, none⟩) n0 c0, .slice a1 n1 c1, .slice a2 n2 c2, .int .i64 L.ops]) ?_ ?_
          · intro x h; dsimp only [SA] at h; (try dsimp only [mo38]); go_simp; try with_reducible rfl
          try simp only [pt, List.set]
          refine tk 39 mo39 (.agg #[.string xs, .string xl, .int .i64 xo, .int .i64 xh]) ?_ ?_
          · intro x h; dsimp only [SA] at h; (try dsimp only [mo39]); go_simp; try with_reducible rfl
          try simp only [pt, List.set]
          refine wpAnyH_ready (rs := [40]) (by kernel_rfl) (by simp) ?_
          refine AllReadyH.cons rfl (fun K hK => ?_) AllReadyH.nil
          go_simp
          go_wp2_with (((with_reducible refine Calls.mono (HSM.out _ (by with_reducible assumption)) ?_); rintro e w140 ⟨rfl, hS40⟩))
          refine hK.out _ _ (by with_reducible assumption) (fun hHeld40 => ?_)
          clear hK K
          try simp only [Act.put, List.setIfInBounds_toArray, List.set_cons_zero, List.set_cons_succ]
          refine tk 41 mo41 (.bool true) ?_ ?_
          · intro x h; dsimp only [SA] at h; (try dsimp only [mo41]); go_simp; try with_reducible rfl
          try simp only [pt, List.set]
          refine tk 42 mo42 (.bool true) ?_ ?_
          · intro x h; dsimp only [SA] at h; (try dsimp only [mo42]); go_simp; try with_reducible rfl
          try simp only [pt, List.set]
          refine wpAnyH_done (by kernel_rfl) ?_ _
          (have HB3 : Hid (Below w.heap.size w w140 ∧ Below W.heap.size W w140) := ⟨Below.next HB.out hS40.1, hS40.1⟩)
          go_wp2_with fail
          go_ret
          exact ⟨by rw [HE.out]; rfl, HB3.out.1⟩
        have HE : Hid ((∀ i (h : i < L.S.length), i < k + 1 → okS L.S[i] ∧ sumsP L L.S[i]) ∧ Rises (L.S.take (k + 1))) := ⟨fun i h q => by
            have : i = k := by have := HK0.out; omega
            subst this
            rw [HX.out.1]; exact ⟨HOK.out, q9⟩, rises_snoc hkl HV.out.2 (fun q => absurd HK0.out (by omega))⟩
        have HS0 : Hid (SA W w wr b o n0 c0 a1 n1 c1 a2 n2 c2 L.ops xs xl xo xh W2) := HS0'.out
        have HN : Hid (∀ w' w'' : World, (SA W w wr b o n0 c0 a1 n1 c1 a2 n2 c2 L.ops xs xl xo xh w') → Below w'.heap.size w' w'' → (SA W w wr b o n0 c0 a1 n1 c1 a2 n2 c2 L.ops xs xl xo xh w'')) := fun w' w'' h q => SA.go h q
        have HSD : Hid (∀ w', (SA W w wr b o n0 c0 a1 n1 c1 a2 n2 c2 L.ops xs xl xo xh w') → (SA W w wr b o n0 c0 a1 n1 c1 a2 n2 c2 L.ops xs xl xo xh w'.drew)) := fun w' h => HN.out w' w'.drew h (Below.refl _ _).drew
        have HN1 : Hid (∀ (w' : World), (SA W w wr b o n0 c0 a1 n1 c1 a2 n2 c2 L.ops xs xl xo xh w') → Calls Try.prog 31 #[.string xs] w' fun e w'' => e = .returned (.bool true) ∧ (SA W w wr b o n0 c0 a1 n1 c1 a2 n2 c2 L.ops xs xl xo xh w'')) := fun w' hS => (refName_is xs w').mono (by
          rintro e w'' ⟨he, rfl⟩
          exact ⟨by rw [he, decide_eq_true q1], hS⟩)
        have HN2 : Hid (∀ (w' : World), (SA W w wr b o n0 c0 a1 n1 c1 a2 n2 c2 L.ops xs xl xo xh w') → Calls Try.prog 31 #[.string xl] w' fun e w'' => e = .returned (.bool true) ∧ (SA W w wr b o n0 c0 a1 n1 c1 a2 n2 c2 L.ops xs xl xo xh w'')) := fun w' hS => (refName_is xl w').mono (by
          rintro e w'' ⟨he, rfl⟩
          exact ⟨by rw [he, decide_eq_true q2], hS⟩)
        have HSM : Hid (∀ (w' : World), (SA W w wr b o n0 c0 a1 n1 c1 a2 n2 c2 L.ops xs xl xo xh w') → Calls Try.prog 33 #[.agg #[.slice (some ⟨b, o, none⟩) n0 c0, .slice a1 n1 c1, .slice a2 n2 c2, .int .i64 L.ops], .agg #[.string xs, .string xl, .int .i64 xo, .int .i64 xh]] w' fun e w'' => e = .returned (.bool true) ∧ (SA W w wr b o n0 c0 a1 n1 c1 a2 n2 c2 L.ops xs xl xo xh w'')) := fun w' hS => (HSUM.out w' (Below.next HB.out hS.1)).mono (by
          rintro e w'' ⟨he, hb⟩
          exact ⟨by rw [he]; exact congrArg (fun x => Ending.returned (Value.bool x)) (decide_eq_true q9), HN.out _ _ hS hb⟩)
        clear l1 l2 l3
        clear HN
        have HF0 : Hid (¬ xh < 0) := g3
        have HF1 : Hid (¬ xo < xh) := g4
        clear q1 q2 g3 g4 q9
        go_wp2_with fail
        have hS0 := HS0.out
        refine wp_region_held_drew (S := (fun (w' : World) => (SA W w wr b o n0 c0 a1 n1 c1 a2 n2 c2 L.ops xs xl xo xh w'))) (by kernel_rfl) (HSD.out _ HS0.out) (fun hHeld => ?_)
        refine tk 0 mo0 (.pointer (some ⟨wr.heap.size, 0, none⟩)) ?_ ?_
        · intro x h; dsimp only [SA] at h; (try dsimp only [mo0]); go_simp; try with_reducible rfl
        try simp only [pt, List.set]
        refine tk 1 mo1 (.string xs) ?_ ?_
        · intro x h; dsimp only [SA] at h; (try dsimp only [mo1]); go_simp; try with_reducible rfl
        try simp only [pt, List.set]
        refine wpAnyH_ready (rs := [2]) (by kernel_rfl) (by simp) ?_
        refine AllReadyH.cons rfl (fun K hK => ?_) AllReadyH.nil
        go_simp
        go_wp2_with (((with_reducible refine Calls.mono (HN1.out _ (by with_reducible assumption)) ?_); rintro e w102 ⟨rfl, hS2⟩))
        refine hK.out _ _ (by with_reducible assumption) (fun hHeld2 => ?_)
        clear hK K
        try simp only [Act.put, List.setIfInBounds_toArray, List.set_cons_zero, List.set_cons_succ]
        refine tk 3 mo3 (.bool false) ?_ ?_
        · intro x h; dsimp only [SA] at h; (try dsimp only [mo3]); go_simp; try with_reducible rfl
        try simp only [pt, List.set]
        refine tk 4 mo4 (.bool false) ?_ ?_
        · intro x h; dsimp only [SA] at h; (try dsimp only [mo4]); go_simp; try with_reducible rfl
        try simp only [pt, List.set]
        refine tk 5 mo5 (.pointer (some ⟨wr.heap.size, 1, none⟩)) ?_ ?_
        · intro x h; dsimp only [SA] at h; (try dsimp only [mo5]); go_simp; try with_reducible rfl
        try simp only [pt, List.set]
        refine tk 6 mo6 (.string xl) ?_ ?_
        · intro x h; dsimp only [SA] at h; (try dsimp only [mo6]); go_simp; try with_reducible rfl
        try simp only [pt, List.set]
        refine wpAnyH_ready (rs := [7]) (by kernel_rfl) (by simp) ?_
        refine AllReadyH.cons rfl (fun K hK => ?_) AllReadyH.nil
        go_simp
        go_wp2_with (((with_reducible refine Calls.mono (HN2.out _ (by with_reducible assumption)) ?_); rintro e w107 ⟨rfl, hS7⟩))
        refine hK.out _ _ (by with_reducible assumption) (fun hHeld7 => ?_)
        clear hK K
        try simp only [Act.put, List.setIfInBounds_toArray, List.set_cons_zero, List.set_cons_succ]
        refine tk 8 mo8 (.bool false) ?_ ?_
        · intro x h; dsimp only [SA] at h; (try dsimp only [mo8]); go_simp; try with_reducible rfl
        try simp only [pt, List.set]
        refine tk 9 mo9 (.bool false) ?_ ?_
        · intro x h; dsimp only [SA] at h; (try dsimp only [mo9]); go_simp; try with_reducible rfl
        try simp only [pt, List.set]
        refine tk 10 mo10 (.bool false) ?_ ?_
        · intro x h; dsimp only [SA] at h; (try dsimp only [mo10]); go_simp; try with_reducible rfl
        try simp only [pt, List.set]
        refine tk 11 mo11 (.pointer (some ⟨wr.heap.size, 3, none⟩)) ?_ ?_
        · intro x h; dsimp only [SA] at h; (try dsimp only [mo11]); go_simp; try with_reducible rfl
        try simp only [pt, List.set]
        refine tk 12 mo12 (.int .i64 xh) ?_ ?_
        · intro x h; dsimp only [SA] at h; (try dsimp only [mo12]); go_simp; try with_reducible rfl
        try simp only [pt, List.set]
        have f0 := HF0.out
        refine tk 13 mo13 (.bool false) ?_ ?_
        · intro x h; dsimp only [SA] at h; (try dsimp only [mo13]); go_simp; try with_reducible rfl
        try simp only [pt, List.set]
        clear f0
        refine tk 14 mo14 (.bool false) ?_ ?_
        · intro x h; dsimp only [SA] at h; (try dsimp only [mo14]); go_simp; try with_reducible rfl
        try simp only [pt, List.set]
        refine tk 15 mo15 (.bool false) ?_ ?_
        · intro x h; dsimp only [SA] at h; (try dsimp only [mo15]); go_simp; try with_reducible rfl
        try simp only [pt, List.set]
        refine tk 16 mo16 (.pointer (some ⟨wr.heap.size, 3, none⟩)) ?_ ?_
        · intro x h; dsimp only [SA] at h; (try dsimp only [mo16]); go_simp; try with_reducible rfl
        try simp only [pt, List.set]
        refine tk 17 mo17 (.int .i64 xh) ?_ ?_
        · intro x h; dsimp only [SA] at h; (try dsimp only [mo17]); go_simp; try with_reducible rfl
        try simp only [pt, List.set]
        refine tk 18 mo18 (.pointer (some ⟨wr.heap.size, 2, none⟩)) ?_ ?_
        · intro x h; dsimp only [SA] at h; (try dsimp only [mo18]); go_simp; try with_reducible rfl
        try simp only [pt, List.set]
        refine tk 19 mo19 (.int .i64 xo) ?_ ?_
        · intro x h; dsimp only [SA] at h; (try dsimp only [mo19]); go_simp; try with_reducible rfl
        try simp only [pt, List.set]
        have f1 := HF1.out
        refine tk 20 mo20 (.bool false) ?_ ?_
        · intro x h; dsimp only [SA] at h; (try dsimp only [mo20]); go_simp; try with_reducible rfl
        try simp only [pt, List.set]
        clear f1
        refine tk 21 mo21 (.bool false) ?_ ?_
        · intro x h; dsimp only [SA] at h; (try dsimp only [mo21]); go_simp; try with_reducible rfl
        try simp only [pt, List.set]
        refine tk 22 mo22 (.bool false) ?_ ?_
        · intro x h; dsimp only [SA] at h; (try dsimp only [mo22]); go_simp; try with_reducible rfl
        try simp only [pt, List.set]
        refine tk 23 mo23 (.int .i64 k) ?_ ?_
        · intro x h; dsimp only [SA] at h; (try dsimp only [mo23]); go_simp; try with_reducible rfl
        try simp only [pt, List.set]
        have f2 := HK0.out
        refine tk 24 mo24 (.bool false) ?_ ?_
        · intro x h; dsimp only [SA] at h; (try dsimp only [mo24]); go_simp; try with_reducible rfl
        try simp only [pt, List.set]
        clear f2
        refine tk 25 mo25 (.bool false) ?_ ?_
        · intro x h; dsimp only [SA] at h; (try dsimp only [mo25]); go_simp; try with_reducible rfl
        try simp only [pt, List.set]
        refine sk 26 mo26 ?_
        try simp only [pt, List.set]
        refine sk 27 mo27 ?_
        try simp only [pt, List.set]
        refine sk 28 mo28 ?_
        try simp only [pt, List.set]
        refine sk 29 mo29 ?_
        try simp only [pt, List.set]
        refine sk 30 mo30 ?_
        try simp only [pt, List.set]
        refine sk 31 mo31 ?_
        try simp only [pt, List.set]
        refine sk 32 mo32 ?_
        try simp only [pt, List.set]
        refine wpAnyH_ready (rs := [33]) (by kernel_rfl) (by simp) ?_
        refine AllReadyH.cons rfl (fun K hK => ?_) AllReadyH.nil
        go_simp
        refine hK.out _ _ (by with_reducible assumption) (fun hHeld33 => ?_)
        clear hK K
        try simp only [Act.put, List.setIfInBounds_toArray, List.set_cons_zero, List.set_cons_succ]
        refine sk 34 mo34 ?_
        try simp only [pt, List.set]
        refine tk 35 mo35 (.bool false) ?_ ?_
        · intro x h; dsimp only [SA] at h; (try dsimp only [mo35]); go_simp; try with_reducible rfl
        try simp only [pt, List.set]
        refine tk 36 mo36 (.bool false) ?_ ?_
        · intro x h; dsimp only [SA] at h; (try dsimp only [mo36]); go_simp; try with_reducible rfl
        try simp only [pt, List.set]
        refine tk 37 mo37 (.bool false) ?_ ?_
        · intro x h; dsimp only [SA] at h; (try dsimp only [mo37]); go_simp; try with_reducible rfl
        try simp only [pt, List.set]
        refine tk 38 mo38 (.agg #[.slice (some ⟨b, o, none⟩) n0 c0, .slice a1 n1 c1, .slice a2 n2 c2, .int .i64 L.ops]) ?_ ?_
        · intro x h; dsimp only [SA] at h; (try dsimp only [mo38]); go_simp; try with_reducible rfl
        try simp only [pt, List.set]
        refine tk 39 mo39 (.agg #[.string xs, .string xl, .int .i64 xo, .int .i64 xh]) ?_ ?_
        · intro x h; dsimp only [SA] at h; (try dsimp only [mo39]); go_simp; try with_reducible rfl
        try simp only [pt, List.set]
        refine wpAnyH_ready (rs := [40]) (by kernel_rfl) (by simp) ?_
        refine AllReadyH.cons rfl (fun K hK => ?_) AllReadyH.nil
        go_simp
        go_wp2_with (((with_reducible refine Calls.mono (HSM.out _ (by with_reducible assumption)) ?_); rintro e w140 ⟨rfl, hS40⟩))
        refine hK.out _ _ (by with_reducible assumption) (fun hHeld40 => ?_)
        clear hK K
        try simp only [Act.put, List.setIfInBounds_toArray, List.set_cons_zero, List.set_cons_succ]
        refine tk 41 mo41 (.bool false) ?_ ?_
        · intro x h; dsimp only [SA] at h; (try dsimp only [mo41]); go_simp; try with_reducible rfl
        try simp only [pt, List.set]
        refine tk 42 mo42 (.bool false) ?_ ?_
        · intro x h; dsimp only [SA] at h; (try dsimp only [mo42]); go_simp; try with_reducible rfl
        try simp only [pt, List.set]
        refine wpAnyH_done (by kernel_rfl) ?_ _
        (have HB3 : Hid (Below w.heap.size w w140 ∧ Below W.heap.size W w140) := ⟨Below.next HB.out hS40.1, hS40.1⟩)
        go_wp2_with fail
        go_roundw
        case rel => exact ⟨k + 1, by omega, by go_num, HB3.out, HE.out⟩
        case measure => simp [intOf]; omega
      · obtain ⟨j, rfl⟩ : ∃ j, k = j + 1 := ⟨k - 1, by omega⟩
        have hjl : j < L.S.length := by omega
        have hp := HPP.out j hjl
        obtain ⟨p, hpj⟩ : ∃ p, L.S[j] = p := ⟨_, rfl⟩
        rw [hpj] at hp
        have HP : Hid (L.S[j] = p) := hpj
        clear hpj
        obtain ⟨ps, pl, po, ph⟩ := p
        obtain ⟨p0, p1, p2, p3⟩ := hp
        dsimp only at p0 p1 p2 p3
        by_cases q8 : cmpK ps pl xs xl = -1
        rotate_left
        · have HE : Hid (z = false) := HNO.out (fun h => by have h1 := List.pairwise_iff_getElem.1 h.2.2.1 j (j + 1) hjl hkl (by omega); rw [HP.out, HX.out.1] at h1; exact q8 h1)
          have HS0 : Hid (SB W w wr b o n0 c0 a1 n1 c1 a2 n2 c2 L.ops xs xl xo xh j ps pl po ph W2) := ⟨HS0'.out.1, HS0'.out.2.1, HS0'.out.2.2.1, HS0'.out.2.2.2.1, HS0'.out.2.2.2.2.1, HS0'.out.2.2.2.2.2.1, HS0'.out.2.2.2.2.2.2.1, HS0'.out.2.2.2.2.2.2.2.1, HS0'.out.2.2.2.2.2.2.2.2, p0, p1, p2, p3⟩
          have HN : Hid (∀ w' w'' : World, (SB W w wr b o n0 c0 a1 n1 c1 a2 n2 c2 L.ops xs xl xo xh j ps pl po ph w') → Below w'.heap.size w' w'' → (SB W w wr b o n0 c0 a1 n1 c1 a2 n2 c2 L.ops xs xl xo xh j ps pl po ph w'')) := fun w' w'' h q => SB.go h q
          have HSD : Hid (∀ w', (SB W w wr b o n0 c0 a1 n1 c1 a2 n2 c2 L.ops xs xl xo xh j ps pl po ph w') → (SB W w wr b o n0 c0 a1 n1 c1 a2 n2 c2 L.ops xs xl xo xh j ps pl po ph w'.drew)) := fun w' h => HN.out w' w'.drew h (Below.refl _ _).drew
          have HN1 : Hid (∀ (w' : World), (SB W w wr b o n0 c0 a1 n1 c1 a2 n2 c2 L.ops xs xl xo xh j ps pl po ph w') → Calls Try.prog 31 #[.string xs] w' fun e w'' => e = .returned (.bool true) ∧ (SB W w wr b o n0 c0 a1 n1 c1 a2 n2 c2 L.ops xs xl xo xh j ps pl po ph w'')) := fun w' hS => (refName_is xs w').mono (by
            rintro e w'' ⟨he, rfl⟩
            exact ⟨by rw [he, decide_eq_true q1], hS⟩)
          have HN2 : Hid (∀ (w' : World), (SB W w wr b o n0 c0 a1 n1 c1 a2 n2 c2 L.ops xs xl xo xh j ps pl po ph w') → Calls Try.prog 31 #[.string xl] w' fun e w'' => e = .returned (.bool true) ∧ (SB W w wr b o n0 c0 a1 n1 c1 a2 n2 c2 L.ops xs xl xo xh j ps pl po ph w'')) := fun w' hS => (refName_is xl w').mono (by
            rintro e w'' ⟨he, rfl⟩
            exact ⟨by rw [he, decide_eq_true q2], hS⟩)
          have HAH : Hid (∀ (w' : World), (SB W w wr b o n0 c0 a1 n1 c1 a2 n2 c2 L.ops xs xl xo xh j ps pl po ph w') → Calls Try.prog 32 #[.agg #[.string ps, .string pl, .int .i64 po, .int .i64 ph], .agg #[.string xs, .string xl, .int .i64 xo, .int .i64 xh]] w' fun e w'' => e = .returned (.bool false) ∧ (SB W w wr b o n0 c0 a1 n1 c1 a2 n2 c2 L.ops xs xl xo xh j ps pl po ph w'')) := fun w' hS => (ahead_is ⟨ps, pl, po, ph⟩ ⟨xs, xl, xo, xh⟩ w').mono (by
            rintro e w'' ⟨he, hb⟩
            exact ⟨by rw [he]; exact congrArg (fun x => Ending.returned (Value.bool x)) (decide_eq_false q8), HN.out _ _ hS hb⟩)
          clear l1 l2 l3
          clear HN
          have HF0 : Hid (¬ xh < 0) := g3
          have HF1 : Hid (¬ xo < xh) := g4
          clear q1 q2 g3 g4 q8
          go_wp2_with fail
          have hS0 := HS0.out
          have d2 : (0 : Int) < (j : Int) + 1 := by omega
          have d3 : (j : Int) < (n0 : Int) := by omega
          have d4 : IntKind.i64.wrap (j : Int) = (j : Int) := by rw [IntKind.wrap_i64]; omega
          have d5 : IntKind.i64.wrap ((j : Int) + 1 - 1) = (j : Int) := by rw [IntKind.wrap_i64]; omega
          have d6 : ¬ ((j : Int) < 0) := by omega
          have d7 : j < n0 := by omega
          have d8 : ((j + 1 : Nat) : Int) - 1 = (j : Int) := by omega
          have HD2 : Hid ((0 : Int) < (j : Int) + 1) := d2
          have HD3 : Hid ((j : Int) < (n0 : Int)) := d3
          have HD4 : Hid (IntKind.i64.wrap (j : Int) = (j : Int)) := d4
          have HD5 : Hid (IntKind.i64.wrap ((j : Int) + 1 - 1) = (j : Int)) := d5
          have HD6 : Hid (¬ ((j : Int) < 0)) := d6
          have HD7 : Hid (j < n0) := d7
          have HD8 : Hid (((j + 1 : Nat) : Int) - 1 = (j : Int)) := d8
          clear d2 d3 d4 d5 d6 d7 d8
          refine wp_region_held_drew (S := (fun (w' : World) => (SB W w wr b o n0 c0 a1 n1 c1 a2 n2 c2 L.ops xs xl xo xh j ps pl po ph w'))) (by kernel_rfl) (HSD.out _ HS0.out) (fun hHeld => ?_)
          refine tk 0 mo0 (.pointer (some ⟨wr.heap.size, 0, none⟩)) ?_ ?_
          · intro x h; dsimp only [SB] at h; (try dsimp only [mo0]); go_simp; try with_reducible rfl
          try simp only [pt, List.set]
          refine tk 1 mo1 (.string xs) ?_ ?_
          · intro x h; dsimp only [SB] at h; (try dsimp only [mo1]); go_simp; try with_reducible rfl
          try simp only [pt, List.set]
          refine wpAnyH_ready (rs := [2]) (by kernel_rfl) (by simp) ?_
          refine AllReadyH.cons rfl (fun K hK => ?_) AllReadyH.nil
          go_simp
          go_wp2_with (((with_reducible refine Calls.mono (HN1.out _ (by with_reducible assumption)) ?_); rintro e w102 ⟨rfl, hS2⟩))
          refine hK.out _ _ (by with_reducible assumption) (fun hHeld2 => ?_)
          clear hK K
          try simp only [Act.put, List.setIfInBounds_toArray, List.set_cons_zero, List.set_cons_succ]
          refine tk 3 mo3 (.bool false) ?_ ?_
          · intro x h; dsimp only [SB] at h; (try dsimp only [mo3]); go_simp; try with_reducible rfl
          try simp only [pt, List.set]
          refine tk 4 mo4 (.bool false) ?_ ?_
          · intro x h; dsimp only [SB] at h; (try dsimp only [mo4]); go_simp; try with_reducible rfl
          try simp only [pt, List.set]
          refine tk 5 mo5 (.pointer (some ⟨wr.heap.size, 1, none⟩)) ?_ ?_
          · intro x h; dsimp only [SB] at h; (try dsimp only [mo5]); go_simp; try with_reducible rfl
          try simp only [pt, List.set]
          refine tk 6 mo6 (.string xl) ?_ ?_
          · intro x h; dsimp only [SB] at h; (try dsimp only [mo6]); go_simp; try with_reducible rfl
          try simp only [pt, List.set]
          refine wpAnyH_ready (rs := [7]) (by kernel_rfl) (by simp) ?_
          refine AllReadyH.cons rfl (fun K hK => ?_) AllReadyH.nil
          go_simp
          go_wp2_with (((with_reducible refine Calls.mono (HN2.out _ (by with_reducible assumption)) ?_); rintro e w107 ⟨rfl, hS7⟩))
          refine hK.out _ _ (by with_reducible assumption) (fun hHeld7 => ?_)
          clear hK K
          try simp only [Act.put, List.setIfInBounds_toArray, List.set_cons_zero, List.set_cons_succ]
          refine tk 8 mo8 (.bool false) ?_ ?_
          · intro x h; dsimp only [SB] at h; (try dsimp only [mo8]); go_simp; try with_reducible rfl
          try simp only [pt, List.set]
          refine tk 9 mo9 (.bool false) ?_ ?_
          · intro x h; dsimp only [SB] at h; (try dsimp only [mo9]); go_simp; try with_reducible rfl
          try simp only [pt, List.set]
          refine tk 10 mo10 (.bool false) ?_ ?_
          · intro x h; dsimp only [SB] at h; (try dsimp only [mo10]); go_simp; try with_reducible rfl
          try simp only [pt, List.set]
          refine tk 11 mo11 (.pointer (some ⟨wr.heap.size, 3, none⟩)) ?_ ?_
          · intro x h; dsimp only [SB] at h; (try dsimp only [mo11]); go_simp; try with_reducible rfl
          try simp only [pt, List.set]
          refine tk 12 mo12 (.int .i64 xh) ?_ ?_
          · intro x h; dsimp only [SB] at h; (try dsimp only [mo12]); go_simp; try with_reducible rfl
          try simp only [pt, List.set]
          have f0 := HF0.out
          refine tk 13 mo13 (.bool false) ?_ ?_
          · intro x h; dsimp only [SB] at h; (try dsimp only [mo13]); go_simp; try with_reducible rfl
          try simp only [pt, List.set]
          clear f0
          refine tk 14 mo14 (.bool false) ?_ ?_
          · intro x h; dsimp only [SB] at h; (try dsimp only [mo14]); go_simp; try with_reducible rfl
          try simp only [pt, List.set]
          refine tk 15 mo15 (.bool false) ?_ ?_
          · intro x h; dsimp only [SB] at h; (try dsimp only [mo15]); go_simp; try with_reducible rfl
          try simp only [pt, List.set]
          refine tk 16 mo16 (.pointer (some ⟨wr.heap.size, 3, none⟩)) ?_ ?_
          · intro x h; dsimp only [SB] at h; (try dsimp only [mo16]); go_simp; try with_reducible rfl
          try simp only [pt, List.set]
          refine tk 17 mo17 (.int .i64 xh) ?_ ?_
          · intro x h; dsimp only [SB] at h; (try dsimp only [mo17]); go_simp; try with_reducible rfl
          try simp only [pt, List.set]
          refine tk 18 mo18 (.pointer (some ⟨wr.heap.size, 2, none⟩)) ?_ ?_
          · intro x h; dsimp only [SB] at h; (try dsimp only [mo18]); go_simp; try with_reducible rfl
          try simp only [pt, List.set]
          refine tk 19 mo19 (.int .i64 xo) ?_ ?_
          · intro x h; dsimp only [SB] at h; (try dsimp only [mo19]); go_simp; try with_reducible rfl
          try simp only [pt, List.set]
          have f1 := HF1.out
          refine tk 20 mo20 (.bool false) ?_ ?_
          · intro x h; dsimp only [SB] at h; (try dsimp only [mo20]); go_simp; try with_reducible rfl
          try simp only [pt, List.set]
          clear f1
          refine tk 21 mo21 (.bool false) ?_ ?_
          · intro x h; dsimp only [SB] at h; (try dsimp only [mo21]); go_simp; try with_reducible rfl
          try simp only [pt, List.set]
          refine tk 22 mo22 (.bool false) ?_ ?_
          · intro x h; dsimp only [SB] at h; (try dsimp only [mo22]); go_simp; try with_reducible rfl
          try simp only [pt, List.set]
          refine tk 23 mo23 (.int .i64 ((j : Int) + 1)) ?_ ?_
          · intro x h; dsimp only [SB] at h; (try dsimp only [mo23]); go_simp; try with_reducible rfl
          try simp only [pt, List.set]
          have e2 := HD2.out
          refine tk 24 mo24 (.bool true) ?_ ?_
          · intro x h; dsimp only [SB] at h; (try dsimp only [mo24]); go_simp; try with_reducible rfl
          try simp only [pt, List.set]
          clear e2
          refine tk 25 mo25 (.bool true) ?_ ?_
          · intro x h; dsimp only [SB] at h; (try dsimp only [mo25]); go_simp; try with_reducible rfl
          try simp only [pt, List.set]
          refine tk 26 mo26 (.pointer (some ⟨w.heap.size, 0, none⟩)) ?_ ?_
          · intro x h; dsimp only [SB] at h; (try dsimp only [mo26]); go_simp; try with_reducible rfl
          try simp only [pt, List.set]
          refine tk 27 mo27 (.slice (some ⟨b, o, none⟩) n0 c0) ?_ ?_
          · intro x h; dsimp only [SB] at h; (try dsimp only [mo27]); go_simp; try with_reducible rfl
          try simp only [pt, List.set]
          refine tk 28 mo28 (.int .i64 ((j : Int) + 1)) ?_ ?_
          · intro x h; dsimp only [SB] at h; (try dsimp only [mo28]); go_simp; try with_reducible rfl
          try simp only [pt, List.set]
          have e4 := HD4.out
          have e5 := HD5.out
          refine tk 29 mo29 (.int .i64 j) ?_ ?_
          · intro x h; dsimp only [SB] at h; (try dsimp only [mo29]); go_simp; try with_reducible rfl
          try simp only [pt, List.set]
          clear e4
          clear e5
          have e3 := HD3.out
          have e6 := HD6.out
          have e7 := HD7.out
          refine tk 30 mo30 (.pointer (some ⟨b, o + j * 4, none⟩)) ?_ ?_
          · intro x h; dsimp only [SB] at h; (try dsimp only [mo30]); go_simp; try with_reducible rfl
          try simp only [pt, List.set]
          clear e3
          clear e6
          clear e7
          refine tk 31 mo31 (.agg #[.string ps, .string pl, .int .i64 po, .int .i64 ph]) ?_ ?_
          · intro x h; dsimp only [SB] at h; (try dsimp only [mo31]); go_simp; try with_reducible rfl
          try simp only [pt, List.set]
          refine tk 32 mo32 (.agg #[.string xs, .string xl, .int .i64 xo, .int .i64 xh]) ?_ ?_
          · intro x h; dsimp only [SB] at h; (try dsimp only [mo32]); go_simp; try with_reducible rfl
          try simp only [pt, List.set]
          refine wpAnyH_ready (rs := [33]) (by kernel_rfl) (by simp) ?_
          refine AllReadyH.cons rfl (fun K hK => ?_) AllReadyH.nil
          go_simp
          go_wp2_with (((with_reducible refine Calls.mono (HAH.out _ (by with_reducible assumption)) ?_); rintro e w133 ⟨rfl, hS33⟩))
          refine hK.out _ _ (by with_reducible assumption) (fun hHeld33 => ?_)
          clear hK K
          try simp only [Act.put, List.setIfInBounds_toArray, List.set_cons_zero, List.set_cons_succ]
          refine tk 34 mo34 (.bool true) ?_ ?_
          · intro x h; dsimp only [SB] at h; (try dsimp only [mo34]); go_simp; try with_reducible rfl
          try simp only [pt, List.set]
          refine tk 35 mo35 (.bool true) ?_ ?_
          · intro x h; dsimp only [SB] at h; (try dsimp only [mo35]); go_simp; try with_reducible rfl
          try simp only [pt, List.set]
          refine tk 36 mo36 (.bool true) ?_ ?_
          · intro x h; dsimp only [SB] at h; (try dsimp only [mo36]); go_simp; try with_reducible rfl
          try simp only [pt, List.set]
          refine tk 37 mo37 (.bool true) ?_ ?_
          · intro x h; dsimp only [SB] at h; (try dsimp only [mo37]); go_simp; try with_reducible rfl
          try simp only [pt, List.set]
          refine sk 38 mo38 ?_
          try simp only [pt, List.set]
          refine sk 39 mo39 ?_
          try simp only [pt, List.set]
          refine wpAnyH_ready (rs := [40]) (by kernel_rfl) (by simp) ?_
          refine AllReadyH.cons rfl (fun K hK => ?_) AllReadyH.nil
          go_simp
          refine hK.out _ _ (by with_reducible assumption) (fun hHeld40 => ?_)
          clear hK K
          try simp only [Act.put, List.setIfInBounds_toArray, List.set_cons_zero, List.set_cons_succ]
          refine sk 41 mo41 ?_
          try simp only [pt, List.set]
          refine tk 42 mo42 (.bool true) ?_ ?_
          · intro x h; dsimp only [SB] at h; (try dsimp only [mo42]); go_simp; try with_reducible rfl
          try simp only [pt, List.set]
          refine wpAnyH_done (by kernel_rfl) ?_ _
          (have HB3 : Hid (Below w.heap.size w w133 ∧ Below W.heap.size W w133) := ⟨Below.next HB.out hS33.1, hS33.1⟩)
          go_wp2_with fail
          go_ret
          exact ⟨by rw [HE.out]; rfl, HB3.out.1⟩
        by_cases q9 : sumsP L ⟨xs, xl, xo, xh⟩
        rotate_left
        · have HE : Hid (z = false) := HNO.out (fun h => q9 (h.2.1 _ HX.out.2).2)
          have HS0 : Hid (SB W w wr b o n0 c0 a1 n1 c1 a2 n2 c2 L.ops xs xl xo xh j ps pl po ph W2) := ⟨HS0'.out.1, HS0'.out.2.1, HS0'.out.2.2.1, HS0'.out.2.2.2.1, HS0'.out.2.2.2.2.1, HS0'.out.2.2.2.2.2.1, HS0'.out.2.2.2.2.2.2.1, HS0'.out.2.2.2.2.2.2.2.1, HS0'.out.2.2.2.2.2.2.2.2, p0, p1, p2, p3⟩
          have HN : Hid (∀ w' w'' : World, (SB W w wr b o n0 c0 a1 n1 c1 a2 n2 c2 L.ops xs xl xo xh j ps pl po ph w') → Below w'.heap.size w' w'' → (SB W w wr b o n0 c0 a1 n1 c1 a2 n2 c2 L.ops xs xl xo xh j ps pl po ph w'')) := fun w' w'' h q => SB.go h q
          have HSD : Hid (∀ w', (SB W w wr b o n0 c0 a1 n1 c1 a2 n2 c2 L.ops xs xl xo xh j ps pl po ph w') → (SB W w wr b o n0 c0 a1 n1 c1 a2 n2 c2 L.ops xs xl xo xh j ps pl po ph w'.drew)) := fun w' h => HN.out w' w'.drew h (Below.refl _ _).drew
          have HN1 : Hid (∀ (w' : World), (SB W w wr b o n0 c0 a1 n1 c1 a2 n2 c2 L.ops xs xl xo xh j ps pl po ph w') → Calls Try.prog 31 #[.string xs] w' fun e w'' => e = .returned (.bool true) ∧ (SB W w wr b o n0 c0 a1 n1 c1 a2 n2 c2 L.ops xs xl xo xh j ps pl po ph w'')) := fun w' hS => (refName_is xs w').mono (by
            rintro e w'' ⟨he, rfl⟩
            exact ⟨by rw [he, decide_eq_true q1], hS⟩)
          have HN2 : Hid (∀ (w' : World), (SB W w wr b o n0 c0 a1 n1 c1 a2 n2 c2 L.ops xs xl xo xh j ps pl po ph w') → Calls Try.prog 31 #[.string xl] w' fun e w'' => e = .returned (.bool true) ∧ (SB W w wr b o n0 c0 a1 n1 c1 a2 n2 c2 L.ops xs xl xo xh j ps pl po ph w'')) := fun w' hS => (refName_is xl w').mono (by
            rintro e w'' ⟨he, rfl⟩
            exact ⟨by rw [he, decide_eq_true q2], hS⟩)
          have HAH : Hid (∀ (w' : World), (SB W w wr b o n0 c0 a1 n1 c1 a2 n2 c2 L.ops xs xl xo xh j ps pl po ph w') → Calls Try.prog 32 #[.agg #[.string ps, .string pl, .int .i64 po, .int .i64 ph], .agg #[.string xs, .string xl, .int .i64 xo, .int .i64 xh]] w' fun e w'' => e = .returned (.bool true) ∧ (SB W w wr b o n0 c0 a1 n1 c1 a2 n2 c2 L.ops xs xl xo xh j ps pl po ph w'')) := fun w' hS => (ahead_is ⟨ps, pl, po, ph⟩ ⟨xs, xl, xo, xh⟩ w').mono (by
            rintro e w'' ⟨he, hb⟩
            exact ⟨by rw [he]; exact congrArg (fun x => Ending.returned (Value.bool x)) (decide_eq_true q8), HN.out _ _ hS hb⟩)
          have HSM : Hid (∀ (w' : World), (SB W w wr b o n0 c0 a1 n1 c1 a2 n2 c2 L.ops xs xl xo xh j ps pl po ph w') → Calls Try.prog 33 #[.agg #[.slice (some ⟨b, o, none⟩) n0 c0, .slice a1 n1 c1, .slice a2 n2 c2, .int .i64 L.ops], .agg #[.string xs, .string xl, .int .i64 xo, .int .i64 xh]] w' fun e w'' => e = .returned (.bool false) ∧ (SB W w wr b o n0 c0 a1 n1 c1 a2 n2 c2 L.ops xs xl xo xh j ps pl po ph w'')) := fun w' hS => (HSUM.out w' (Below.next HB.out hS.1)).mono (by
            rintro e w'' ⟨he, hb⟩
            exact ⟨by rw [he]; exact congrArg (fun x => Ending.returned (Value.bool x)) (decide_eq_false q9), HN.out _ _ hS hb⟩)
          clear l1 l2 l3
          clear HN
          have HF0 : Hid (¬ xh < 0) := g3
          have HF1 : Hid (¬ xo < xh) := g4
          clear q1 q2 g3 g4 q8 q9
          go_wp2_with fail
          have hS0 := HS0.out
          have d2 : (0 : Int) < (j : Int) + 1 := by omega
          have d3 : (j : Int) < (n0 : Int) := by omega
          have d4 : IntKind.i64.wrap (j : Int) = (j : Int) := by rw [IntKind.wrap_i64]; omega
          have d5 : IntKind.i64.wrap ((j : Int) + 1 - 1) = (j : Int) := by rw [IntKind.wrap_i64]; omega
          have d6 : ¬ ((j : Int) < 0) := by omega
          have d7 : j < n0 := by omega
          have d8 : ((j + 1 : Nat) : Int) - 1 = (j : Int) := by omega
          have HD2 : Hid ((0 : Int) < (j : Int) + 1) := d2
          have HD3 : Hid ((j : Int) < (n0 : Int)) := d3
          have HD4 : Hid (IntKind.i64.wrap (j : Int) = (j : Int)) := d4
          have HD5 : Hid (IntKind.i64.wrap ((j : Int) + 1 - 1) = (j : Int)) := d5
          have HD6 : Hid (¬ ((j : Int) < 0)) := d6
          have HD7 : Hid (j < n0) := d7
          have HD8 : Hid (((j + 1 : Nat) : Int) - 1 = (j : Int)) := d8
          clear d2 d3 d4 d5 d6 d7 d8
          refine wp_region_held_drew (S := (fun (w' : World) => (SB W w wr b o n0 c0 a1 n1 c1 a2 n2 c2 L.ops xs xl xo xh j ps pl po ph w'))) (by kernel_rfl) (HSD.out _ HS0.out) (fun hHeld => ?_)
          refine tk 0 mo0 (.pointer (some ⟨wr.heap.size, 0, none⟩)) ?_ ?_
          · intro x h; dsimp only [SB] at h; (try dsimp only [mo0]); go_simp; try with_reducible rfl
          try simp only [pt, List.set]
          refine tk 1 mo1 (.string xs) ?_ ?_
          · intro x h; dsimp only [SB] at h; (try dsimp only [mo1]); go_simp; try with_reducible rfl
          try simp only [pt, List.set]
          refine wpAnyH_ready (rs := [2]) (by kernel_rfl) (by simp) ?_
          refine AllReadyH.cons rfl (fun K hK => ?_) AllReadyH.nil
          go_simp
          go_wp2_with (((with_reducible refine Calls.mono (HN1.out _ (by with_reducible assumption)) ?_); rintro e w102 ⟨rfl, hS2⟩))
          refine hK.out _ _ (by with_reducible assumption) (fun hHeld2 => ?_)
          clear hK K
          try simp only [Act.put, List.setIfInBounds_toArray, List.set_cons_zero, List.set_cons_succ]
          refine tk 3 mo3 (.bool false) ?_ ?_
          · intro x h; dsimp only [SB] at h; (try dsimp only [mo3]); go_simp; try with_reducible rfl
          try simp only [pt, List.set]
          refine tk 4 mo4 (.bool false) ?_ ?_
          · intro x h; dsimp only [SB] at h; (try dsimp only [mo4]); go_simp; try with_reducible rfl
          try simp only [pt, List.set]
          refine tk 5 mo5 (.pointer (some ⟨wr.heap.size, 1, none⟩)) ?_ ?_
          · intro x h; dsimp only [SB] at h; (try dsimp only [mo5]); go_simp; try with_reducible rfl
          try simp only [pt, List.set]
          refine tk 6 mo6 (.string xl) ?_ ?_
          · intro x h; dsimp only [SB] at h; (try dsimp only [mo6]); go_simp; try with_reducible rfl
          try simp only [pt, List.set]
          refine wpAnyH_ready (rs := [7]) (by kernel_rfl) (by simp) ?_
          refine AllReadyH.cons rfl (fun K hK => ?_) AllReadyH.nil
          go_simp
          go_wp2_with (((with_reducible refine Calls.mono (HN2.out _ (by with_reducible assumption)) ?_); rintro e w107 ⟨rfl, hS7⟩))
          refine hK.out _ _ (by with_reducible assumption) (fun hHeld7 => ?_)
          clear hK K
          try simp only [Act.put, List.setIfInBounds_toArray, List.set_cons_zero, List.set_cons_succ]
          refine tk 8 mo8 (.bool false) ?_ ?_
          · intro x h; dsimp only [SB] at h; (try dsimp only [mo8]); go_simp; try with_reducible rfl
          try simp only [pt, List.set]
          refine tk 9 mo9 (.bool false) ?_ ?_
          · intro x h; dsimp only [SB] at h; (try dsimp only [mo9]); go_simp; try with_reducible rfl
          try simp only [pt, List.set]
          refine tk 10 mo10 (.bool false) ?_ ?_
          · intro x h; dsimp only [SB] at h; (try dsimp only [mo10]); go_simp; try with_reducible rfl
          try simp only [pt, List.set]
          refine tk 11 mo11 (.pointer (some ⟨wr.heap.size, 3, none⟩)) ?_ ?_
          · intro x h; dsimp only [SB] at h; (try dsimp only [mo11]); go_simp; try with_reducible rfl
          try simp only [pt, List.set]
          refine tk 12 mo12 (.int .i64 xh) ?_ ?_
          · intro x h; dsimp only [SB] at h; (try dsimp only [mo12]); go_simp; try with_reducible rfl
          try simp only [pt, List.set]
          have f0 := HF0.out
          refine tk 13 mo13 (.bool false) ?_ ?_
          · intro x h; dsimp only [SB] at h; (try dsimp only [mo13]); go_simp; try with_reducible rfl
          try simp only [pt, List.set]
          clear f0
          refine tk 14 mo14 (.bool false) ?_ ?_
          · intro x h; dsimp only [SB] at h; (try dsimp only [mo14]); go_simp; try with_reducible rfl
          try simp only [pt, List.set]
          refine tk 15 mo15 (.bool false) ?_ ?_
          · intro x h; dsimp only [SB] at h; (try dsimp only [mo15]); go_simp; try with_reducible rfl
          try simp only [pt, List.set]
          refine tk 16 mo16 (.pointer (some ⟨wr.heap.size, 3, none⟩)) ?_ ?_
          · intro x h; dsimp only [SB] at h; (try dsimp only [mo16]); go_simp; try with_reducible rfl
          try simp only [pt, List.set]
          refine tk 17 mo17 (.int .i64 xh) ?_ ?_
          · intro x h; dsimp only [SB] at h; (try dsimp only [mo17]); go_simp; try with_reducible rfl
          try simp only [pt, List.set]
          refine tk 18 mo18 (.pointer (some ⟨wr.heap.size, 2, none⟩)) ?_ ?_
          · intro x h; dsimp only [SB] at h; (try dsimp only [mo18]); go_simp; try with_reducible rfl
          try simp only [pt, List.set]
          refine tk 19 mo19 (.int .i64 xo) ?_ ?_
          · intro x h; dsimp only [SB] at h; (try dsimp only [mo19]); go_simp; try with_reducible rfl
          try simp only [pt, List.set]
          have f1 := HF1.out
          refine tk 20 mo20 (.bool false) ?_ ?_
          · intro x h; dsimp only [SB] at h; (try dsimp only [mo20]); go_simp; try with_reducible rfl
          try simp only [pt, List.set]
          clear f1
          refine tk 21 mo21 (.bool false) ?_ ?_
          · intro x h; dsimp only [SB] at h; (try dsimp only [mo21]); go_simp; try with_reducible rfl
          try simp only [pt, List.set]
          refine tk 22 mo22 (.bool false) ?_ ?_
          · intro x h; dsimp only [SB] at h; (try dsimp only [mo22]); go_simp; try with_reducible rfl
          try simp only [pt, List.set]
          refine tk 23 mo23 (.int .i64 ((j : Int) + 1)) ?_ ?_
          · intro x h; dsimp only [SB] at h; (try dsimp only [mo23]); go_simp; try with_reducible rfl
          try simp only [pt, List.set]
          have e2 := HD2.out
          refine tk 24 mo24 (.bool true) ?_ ?_
          · intro x h; dsimp only [SB] at h; (try dsimp only [mo24]); go_simp; try with_reducible rfl
          try simp only [pt, List.set]
          clear e2
          refine tk 25 mo25 (.bool true) ?_ ?_
          · intro x h; dsimp only [SB] at h; (try dsimp only [mo25]); go_simp; try with_reducible rfl
          try simp only [pt, List.set]
          refine tk 26 mo26 (.pointer (some ⟨w.heap.size, 0, none⟩)) ?_ ?_
          · intro x h; dsimp only [SB] at h; (try dsimp only [mo26]); go_simp; try with_reducible rfl
          try simp only [pt, List.set]
          refine tk 27 mo27 (.slice (some ⟨b, o, none⟩) n0 c0) ?_ ?_
          · intro x h; dsimp only [SB] at h; (try dsimp only [mo27]); go_simp; try with_reducible rfl
          try simp only [pt, List.set]
          refine tk 28 mo28 (.int .i64 ((j : Int) + 1)) ?_ ?_
          · intro x h; dsimp only [SB] at h; (try dsimp only [mo28]); go_simp; try with_reducible rfl
          try simp only [pt, List.set]
          have e4 := HD4.out
          have e5 := HD5.out
          refine tk 29 mo29 (.int .i64 j) ?_ ?_
          · intro x h; dsimp only [SB] at h; (try dsimp only [mo29]); go_simp; try with_reducible rfl
          try simp only [pt, List.set]
          clear e4
          clear e5
          have e3 := HD3.out
          have e6 := HD6.out
          have e7 := HD7.out
          refine tk 30 mo30 (.pointer (some ⟨b, o + j * 4, none⟩)) ?_ ?_
          · intro x h; dsimp only [SB] at h; (try dsimp only [mo30]); go_simp; try with_reducible rfl
          try simp only [pt, List.set]
          clear e3
          clear e6
          clear e7
          refine tk 31 mo31 (.agg #[.string ps, .string pl, .int .i64 po, .int .i64 ph]) ?_ ?_
          · intro x h; dsimp only [SB] at h; (try dsimp only [mo31]); go_simp; try with_reducible rfl
          try simp only [pt, List.set]
          refine tk 32 mo32 (.agg #[.string xs, .string xl, .int .i64 xo, .int .i64 xh]) ?_ ?_
          · intro x h; dsimp only [SB] at h; (try dsimp only [mo32]); go_simp; try with_reducible rfl
          try simp only [pt, List.set]
          refine wpAnyH_ready (rs := [33]) (by kernel_rfl) (by simp) ?_
          refine AllReadyH.cons rfl (fun K hK => ?_) AllReadyH.nil
          go_simp
          go_wp2_with (((with_reducible refine Calls.mono (HAH.out _ (by with_reducible assumption)) ?_); rintro e w133 ⟨rfl, hS33⟩))
          refine hK.out _ _ (by with_reducible assumption) (fun hHeld33 => ?_)
          clear hK K
          try simp only [Act.put, List.setIfInBounds_toArray, List.set_cons_zero, List.set_cons_succ]
          refine tk 34 mo34 (.bool false) ?_ ?_
          · intro x h; dsimp only [SB] at h; (try dsimp only [mo34]); go_simp; try with_reducible rfl
          try simp only [pt, List.set]
          refine tk 35 mo35 (.bool false) ?_ ?_
          · intro x h; dsimp only [SB] at h; (try dsimp only [mo35]); go_simp; try with_reducible rfl
          try simp only [pt, List.set]
          refine tk 36 mo36 (.bool false) ?_ ?_
          · intro x h; dsimp only [SB] at h; (try dsimp only [mo36]); go_simp; try with_reducible rfl
          try simp only [pt, List.set]
          refine tk 37 mo37 (.bool false) ?_ ?_
          · intro x h; dsimp only [SB] at h; (try dsimp only [mo37]); go_simp; try with_reducible rfl
          try simp only [pt, List.set]
          refine tk 38 mo38 (.agg #[.slice (some ⟨b, o, none⟩) n0 c0, .slice a1 n1 c1, .slice a2 n2 c2, .int .i64 L.ops]) ?_ ?_
          · intro x h; dsimp only [SB] at h; (try dsimp only [mo38]); go_simp; try with_reducible rfl
          try simp only [pt, List.set]
          refine tk 39 mo39 (.agg #[.string xs, .string xl, .int .i64 xo, .int .i64 xh]) ?_ ?_
          · intro x h; dsimp only [SB] at h; (try dsimp only [mo39]); go_simp; try with_reducible rfl
          try simp only [pt, List.set]
          refine wpAnyH_ready (rs := [40]) (by kernel_rfl) (by simp) ?_
          refine AllReadyH.cons rfl (fun K hK => ?_) AllReadyH.nil
          go_simp
          go_wp2_with (((with_reducible refine Calls.mono (HSM.out _ (by with_reducible assumption)) ?_); rintro e w140 ⟨rfl, hS40⟩))
          refine hK.out _ _ (by with_reducible assumption) (fun hHeld40 => ?_)
          clear hK K
          try simp only [Act.put, List.setIfInBounds_toArray, List.set_cons_zero, List.set_cons_succ]
          refine tk 41 mo41 (.bool true) ?_ ?_
          · intro x h; dsimp only [SB] at h; (try dsimp only [mo41]); go_simp; try with_reducible rfl
          try simp only [pt, List.set]
          refine tk 42 mo42 (.bool true) ?_ ?_
          · intro x h; dsimp only [SB] at h; (try dsimp only [mo42]); go_simp; try with_reducible rfl
          try simp only [pt, List.set]
          refine wpAnyH_done (by kernel_rfl) ?_ _
          (have HB3 : Hid (Below w.heap.size w w140 ∧ Below W.heap.size W w140) := ⟨Below.next HB.out hS40.1, hS40.1⟩)
          go_wp2_with fail
          go_ret
          exact ⟨by rw [HE.out]; rfl, HB3.out.1⟩
        have HE : Hid ((∀ i (h : i < L.S.length), i < j + 1 + 1 → okS L.S[i] ∧ sumsP L L.S[i]) ∧ Rises (L.S.take (j + 1 + 1))) := ⟨fun i h q => by
              by_cases c : i = j + 1
              · subst c; rw [HX.out.1]; exact ⟨HOK.out, q9⟩
              · exact HV.out.1 i h (by omega), rises_snoc hkl HV.out.2 (fun q => by
                have h1 : L.S[j + 1 - 1] = ⟨ps, pl, po, ph⟩ := HP.out
                rw [h1, HX.out.1]
                exact q8)⟩
        have HS0 : Hid (SB W w wr b o n0 c0 a1 n1 c1 a2 n2 c2 L.ops xs xl xo xh j ps pl po ph W2) := ⟨HS0'.out.1, HS0'.out.2.1, HS0'.out.2.2.1, HS0'.out.2.2.2.1, HS0'.out.2.2.2.2.1, HS0'.out.2.2.2.2.2.1, HS0'.out.2.2.2.2.2.2.1, HS0'.out.2.2.2.2.2.2.2.1, HS0'.out.2.2.2.2.2.2.2.2, p0, p1, p2, p3⟩
        have HN : Hid (∀ w' w'' : World, (SB W w wr b o n0 c0 a1 n1 c1 a2 n2 c2 L.ops xs xl xo xh j ps pl po ph w') → Below w'.heap.size w' w'' → (SB W w wr b o n0 c0 a1 n1 c1 a2 n2 c2 L.ops xs xl xo xh j ps pl po ph w'')) := fun w' w'' h q => SB.go h q
        have HSD : Hid (∀ w', (SB W w wr b o n0 c0 a1 n1 c1 a2 n2 c2 L.ops xs xl xo xh j ps pl po ph w') → (SB W w wr b o n0 c0 a1 n1 c1 a2 n2 c2 L.ops xs xl xo xh j ps pl po ph w'.drew)) := fun w' h => HN.out w' w'.drew h (Below.refl _ _).drew
        have HN1 : Hid (∀ (w' : World), (SB W w wr b o n0 c0 a1 n1 c1 a2 n2 c2 L.ops xs xl xo xh j ps pl po ph w') → Calls Try.prog 31 #[.string xs] w' fun e w'' => e = .returned (.bool true) ∧ (SB W w wr b o n0 c0 a1 n1 c1 a2 n2 c2 L.ops xs xl xo xh j ps pl po ph w'')) := fun w' hS => (refName_is xs w').mono (by
          rintro e w'' ⟨he, rfl⟩
          exact ⟨by rw [he, decide_eq_true q1], hS⟩)
        have HN2 : Hid (∀ (w' : World), (SB W w wr b o n0 c0 a1 n1 c1 a2 n2 c2 L.ops xs xl xo xh j ps pl po ph w') → Calls Try.prog 31 #[.string xl] w' fun e w'' => e = .returned (.bool true) ∧ (SB W w wr b o n0 c0 a1 n1 c1 a2 n2 c2 L.ops xs xl xo xh j ps pl po ph w'')) := fun w' hS => (refName_is xl w').mono (by
          rintro e w'' ⟨he, rfl⟩
          exact ⟨by rw [he, decide_eq_true q2], hS⟩)
        have HAH : Hid (∀ (w' : World), (SB W w wr b o n0 c0 a1 n1 c1 a2 n2 c2 L.ops xs xl xo xh j ps pl po ph w') → Calls Try.prog 32 #[.agg #[.string ps, .string pl, .int .i64 po, .int .i64 ph], .agg #[.string xs, .string xl, .int .i64 xo, .int .i64 xh]] w' fun e w'' => e = .returned (.bool true) ∧ (SB W w wr b o n0 c0 a1 n1 c1 a2 n2 c2 L.ops xs xl xo xh j ps pl po ph w'')) := fun w' hS => (ahead_is ⟨ps, pl, po, ph⟩ ⟨xs, xl, xo, xh⟩ w').mono (by
          rintro e w'' ⟨he, hb⟩
          exact ⟨by rw [he]; exact congrArg (fun x => Ending.returned (Value.bool x)) (decide_eq_true q8), HN.out _ _ hS hb⟩)
        have HSM : Hid (∀ (w' : World), (SB W w wr b o n0 c0 a1 n1 c1 a2 n2 c2 L.ops xs xl xo xh j ps pl po ph w') → Calls Try.prog 33 #[.agg #[.slice (some ⟨b, o, none⟩) n0 c0, .slice a1 n1 c1, .slice a2 n2 c2, .int .i64 L.ops], .agg #[.string xs, .string xl, .int .i64 xo, .int .i64 xh]] w' fun e w'' => e = .returned (.bool true) ∧ (SB W w wr b o n0 c0 a1 n1 c1 a2 n2 c2 L.ops xs xl xo xh j ps pl po ph w'')) := fun w' hS => (HSUM.out w' (Below.next HB.out hS.1)).mono (by
          rintro e w'' ⟨he, hb⟩
          exact ⟨by rw [he]; exact congrArg (fun x => Ending.returned (Value.bool x)) (decide_eq_true q9), HN.out _ _ hS hb⟩)
        clear l1 l2 l3
        clear HN
        have HF0 : Hid (¬ xh < 0) := g3
        have HF1 : Hid (¬ xo < xh) := g4
        clear q1 q2 g3 g4 q8 q9
        go_wp2_with fail
        have hS0 := HS0.out
        have d2 : (0 : Int) < (j : Int) + 1 := by omega
        have d3 : (j : Int) < (n0 : Int) := by omega
        have d4 : IntKind.i64.wrap (j : Int) = (j : Int) := by rw [IntKind.wrap_i64]; omega
        have d5 : IntKind.i64.wrap ((j : Int) + 1 - 1) = (j : Int) := by rw [IntKind.wrap_i64]; omega
        have d6 : ¬ ((j : Int) < 0) := by omega
        have d7 : j < n0 := by omega
        have d8 : ((j + 1 : Nat) : Int) - 1 = (j : Int) := by omega
        have HD2 : Hid ((0 : Int) < (j : Int) + 1) := d2
        have HD3 : Hid ((j : Int) < (n0 : Int)) := d3
        have HD4 : Hid (IntKind.i64.wrap (j : Int) = (j : Int)) := d4
        have HD5 : Hid (IntKind.i64.wrap ((j : Int) + 1 - 1) = (j : Int)) := d5
        have HD6 : Hid (¬ ((j : Int) < 0)) := d6
        have HD7 : Hid (j < n0) := d7
        have HD8 : Hid (((j + 1 : Nat) : Int) - 1 = (j : Int)) := d8
        clear d2 d3 d4 d5 d6 d7 d8
        refine wp_region_held_drew (S := (fun (w' : World) => (SB W w wr b o n0 c0 a1 n1 c1 a2 n2 c2 L.ops xs xl xo xh j ps pl po ph w'))) (by kernel_rfl) (HSD.out _ HS0.out) (fun hHeld => ?_)
        refine tk 0 mo0 (.pointer (some ⟨wr.heap.size, 0, none⟩)) ?_ ?_
        · intro x h; dsimp only [SB] at h; (try dsimp only [mo0]); go_simp; try with_reducible rfl
        try simp only [pt, List.set]
        refine tk 1 mo1 (.string xs) ?_ ?_
        · intro x h; dsimp only [SB] at h; (try dsimp only [mo1]); go_simp; try with_reducible rfl
        try simp only [pt, List.set]
        refine wpAnyH_ready (rs := [2]) (by kernel_rfl) (by simp) ?_
        refine AllReadyH.cons rfl (fun K hK => ?_) AllReadyH.nil
        go_simp
        go_wp2_with (((with_reducible refine Calls.mono (HN1.out _ (by with_reducible assumption)) ?_); rintro e w102 ⟨rfl, hS2⟩))
        refine hK.out _ _ (by with_reducible assumption) (fun hHeld2 => ?_)
        clear hK K
        try simp only [Act.put, List.setIfInBounds_toArray, List.set_cons_zero, List.set_cons_succ]
        refine tk 3 mo3 (.bool false) ?_ ?_
        · intro x h; dsimp only [SB] at h; (try dsimp only [mo3]); go_simp; try with_reducible rfl
        try simp only [pt, List.set]
        refine tk 4 mo4 (.bool false) ?_ ?_
        · intro x h; dsimp only [SB] at h; (try dsimp only [mo4]); go_simp; try with_reducible rfl
        try simp only [pt, List.set]
        refine tk 5 mo5 (.pointer (some ⟨wr.heap.size, 1, none⟩)) ?_ ?_
        · intro x h; dsimp only [SB] at h; (try dsimp only [mo5]); go_simp; try with_reducible rfl
        try simp only [pt, List.set]
        refine tk 6 mo6 (.string xl) ?_ ?_
        · intro x h; dsimp only [SB] at h; (try dsimp only [mo6]); go_simp; try with_reducible rfl
        try simp only [pt, List.set]
        refine wpAnyH_ready (rs := [7]) (by kernel_rfl) (by simp) ?_
        refine AllReadyH.cons rfl (fun K hK => ?_) AllReadyH.nil
        go_simp
        go_wp2_with (((with_reducible refine Calls.mono (HN2.out _ (by with_reducible assumption)) ?_); rintro e w107 ⟨rfl, hS7⟩))
        refine hK.out _ _ (by with_reducible assumption) (fun hHeld7 => ?_)
        clear hK K
        try simp only [Act.put, List.setIfInBounds_toArray, List.set_cons_zero, List.set_cons_succ]
        refine tk 8 mo8 (.bool false) ?_ ?_
        · intro x h; dsimp only [SB] at h; (try dsimp only [mo8]); go_simp; try with_reducible rfl
        try simp only [pt, List.set]
        refine tk 9 mo9 (.bool false) ?_ ?_
        · intro x h; dsimp only [SB] at h; (try dsimp only [mo9]); go_simp; try with_reducible rfl
        try simp only [pt, List.set]
        refine tk 10 mo10 (.bool false) ?_ ?_
        · intro x h; dsimp only [SB] at h; (try dsimp only [mo10]); go_simp; try with_reducible rfl
        try simp only [pt, List.set]
        refine tk 11 mo11 (.pointer (some ⟨wr.heap.size, 3, none⟩)) ?_ ?_
        · intro x h; dsimp only [SB] at h; (try dsimp only [mo11]); go_simp; try with_reducible rfl
        try simp only [pt, List.set]
        refine tk 12 mo12 (.int .i64 xh) ?_ ?_
        · intro x h; dsimp only [SB] at h; (try dsimp only [mo12]); go_simp; try with_reducible rfl
        try simp only [pt, List.set]
        have f0 := HF0.out
        refine tk 13 mo13 (.bool false) ?_ ?_
        · intro x h; dsimp only [SB] at h; (try dsimp only [mo13]); go_simp; try with_reducible rfl
        try simp only [pt, List.set]
        clear f0
        refine tk 14 mo14 (.bool false) ?_ ?_
        · intro x h; dsimp only [SB] at h; (try dsimp only [mo14]); go_simp; try with_reducible rfl
        try simp only [pt, List.set]
        refine tk 15 mo15 (.bool false) ?_ ?_
        · intro x h; dsimp only [SB] at h; (try dsimp only [mo15]); go_simp; try with_reducible rfl
        try simp only [pt, List.set]
        refine tk 16 mo16 (.pointer (some ⟨wr.heap.size, 3, none⟩)) ?_ ?_
        · intro x h; dsimp only [SB] at h; (try dsimp only [mo16]); go_simp; try with_reducible rfl
        try simp only [pt, List.set]
        refine tk 17 mo17 (.int .i64 xh) ?_ ?_
        · intro x h; dsimp only [SB] at h; (try dsimp only [mo17]); go_simp; try with_reducible rfl
        try simp only [pt, List.set]
        refine tk 18 mo18 (.pointer (some ⟨wr.heap.size, 2, none⟩)) ?_ ?_
        · intro x h; dsimp only [SB] at h; (try dsimp only [mo18]); go_simp; try with_reducible rfl
        try simp only [pt, List.set]
        refine tk 19 mo19 (.int .i64 xo) ?_ ?_
        · intro x h; dsimp only [SB] at h; (try dsimp only [mo19]); go_simp; try with_reducible rfl
        try simp only [pt, List.set]
        have f1 := HF1.out
        refine tk 20 mo20 (.bool false) ?_ ?_
        · intro x h; dsimp only [SB] at h; (try dsimp only [mo20]); go_simp; try with_reducible rfl
        try simp only [pt, List.set]
        clear f1
        refine tk 21 mo21 (.bool false) ?_ ?_
        · intro x h; dsimp only [SB] at h; (try dsimp only [mo21]); go_simp; try with_reducible rfl
        try simp only [pt, List.set]
        refine tk 22 mo22 (.bool false) ?_ ?_
        · intro x h; dsimp only [SB] at h; (try dsimp only [mo22]); go_simp; try with_reducible rfl
        try simp only [pt, List.set]
        refine tk 23 mo23 (.int .i64 ((j : Int) + 1)) ?_ ?_
        · intro x h; dsimp only [SB] at h; (try dsimp only [mo23]); go_simp; try with_reducible rfl
        try simp only [pt, List.set]
        have e2 := HD2.out
        refine tk 24 mo24 (.bool true) ?_ ?_
        · intro x h; dsimp only [SB] at h; (try dsimp only [mo24]); go_simp; try with_reducible rfl
        try simp only [pt, List.set]
        clear e2
        refine tk 25 mo25 (.bool true) ?_ ?_
        · intro x h; dsimp only [SB] at h; (try dsimp only [mo25]); go_simp; try with_reducible rfl
        try simp only [pt, List.set]
        refine tk 26 mo26 (.pointer (some ⟨w.heap.size, 0, none⟩)) ?_ ?_
        · intro x h; dsimp only [SB] at h; (try dsimp only [mo26]); go_simp; try with_reducible rfl
        try simp only [pt, List.set]
        refine tk 27 mo27 (.slice (some ⟨b, o, none⟩) n0 c0) ?_ ?_
        · intro x h; dsimp only [SB] at h; (try dsimp only [mo27]); go_simp; try with_reducible rfl
        try simp only [pt, List.set]
        refine tk 28 mo28 (.int .i64 ((j : Int) + 1)) ?_ ?_
        · intro x h; dsimp only [SB] at h; (try dsimp only [mo28]); go_simp; try with_reducible rfl
        try simp only [pt, List.set]
        have e4 := HD4.out
        have e5 := HD5.out
        refine tk 29 mo29 (.int .i64 j) ?_ ?_
        · intro x h; dsimp only [SB] at h; (try dsimp only [mo29]); go_simp; try with_reducible rfl
        try simp only [pt, List.set]
        clear e4
        clear e5
        have e3 := HD3.out
        have e6 := HD6.out
        have e7 := HD7.out
        refine tk 30 mo30 (.pointer (some ⟨b, o + j * 4, none⟩)) ?_ ?_
        · intro x h; dsimp only [SB] at h; (try dsimp only [mo30]); go_simp; try with_reducible rfl
        try simp only [pt, List.set]
        clear e3
        clear e6
        clear e7
        refine tk 31 mo31 (.agg #[.string ps, .string pl, .int .i64 po, .int .i64 ph]) ?_ ?_
        · intro x h; dsimp only [SB] at h; (try dsimp only [mo31]); go_simp; try with_reducible rfl
        try simp only [pt, List.set]
        refine tk 32 mo32 (.agg #[.string xs, .string xl, .int .i64 xo, .int .i64 xh]) ?_ ?_
        · intro x h; dsimp only [SB] at h; (try dsimp only [mo32]); go_simp; try with_reducible rfl
        try simp only [pt, List.set]
        refine wpAnyH_ready (rs := [33]) (by kernel_rfl) (by simp) ?_
        refine AllReadyH.cons rfl (fun K hK => ?_) AllReadyH.nil
        go_simp
        go_wp2_with (((with_reducible refine Calls.mono (HAH.out _ (by with_reducible assumption)) ?_); rintro e w133 ⟨rfl, hS33⟩))
        refine hK.out _ _ (by with_reducible assumption) (fun hHeld33 => ?_)
        clear hK K
        try simp only [Act.put, List.setIfInBounds_toArray, List.set_cons_zero, List.set_cons_succ]
        refine tk 34 mo34 (.bool false) ?_ ?_
        · intro x h; dsimp only [SB] at h; (try dsimp only [mo34]); go_simp; try with_reducible rfl
        try simp only [pt, List.set]
        refine tk 35 mo35 (.bool false) ?_ ?_
        · intro x h; dsimp only [SB] at h; (try dsimp only [mo35]); go_simp; try with_reducible rfl
        try simp only [pt, List.set]
        refine tk 36 mo36 (.bool false) ?_ ?_
        · intro x h; dsimp only [SB] at h; (try dsimp only [mo36]); go_simp; try with_reducible rfl
        try simp only [pt, List.set]
        refine tk 37 mo37 (.bool false) ?_ ?_
        · intro x h; dsimp only [SB] at h; (try dsimp only [mo37]); go_simp; try with_reducible rfl
        try simp only [pt, List.set]
        refine tk 38 mo38 (.agg #[.slice (some ⟨b, o, none⟩) n0 c0, .slice a1 n1 c1, .slice a2 n2 c2, .int .i64 L.ops]) ?_ ?_
        · intro x h; dsimp only [SB] at h; (try dsimp only [mo38]); go_simp; try with_reducible rfl
        try simp only [pt, List.set]
        refine tk 39 mo39 (.agg #[.string xs, .string xl, .int .i64 xo, .int .i64 xh]) ?_ ?_
        · intro x h; dsimp only [SB] at h; (try dsimp only [mo39]); go_simp; try with_reducible rfl
        try simp only [pt, List.set]
        refine wpAnyH_ready (rs := [40]) (by kernel_rfl) (by simp) ?_
        refine AllReadyH.cons rfl (fun K hK => ?_) AllReadyH.nil
        go_simp
        go_wp2_with (((with_reducible refine Calls.mono (HSM.out _ (by with_reducible assumption)) ?_); rintro e w140 ⟨rfl, hS40⟩))
        refine hK.out _ _ (by with_reducible assumption) (fun hHeld40 => ?_)
        clear hK K
        try simp only [Act.put, List.setIfInBounds_toArray, List.set_cons_zero, List.set_cons_succ]
        refine tk 41 mo41 (.bool false) ?_ ?_
        · intro x h; dsimp only [SB] at h; (try dsimp only [mo41]); go_simp; try with_reducible rfl
        try simp only [pt, List.set]
        refine tk 42 mo42 (.bool false) ?_ ?_
        · intro x h; dsimp only [SB] at h; (try dsimp only [mo42]); go_simp; try with_reducible rfl
        try simp only [pt, List.set]
        refine wpAnyH_done (by kernel_rfl) ?_ _
        (have HB3 : Hid (Below w.heap.size w w140 ∧ Below W.heap.size W w140) := ⟨Below.next HB.out hS40.1, hS40.1⟩)
        go_wp2_with fail
        go_roundw
        case rel => exact ⟨j + 1 + 1, by omega, by go_num, HB3.out, HE.out⟩
        case measure => simp [intOf]; omega
    · have hlti : ¬ (k : Int) < (n0 : Int) := by omega
      have HALL : Hid ((∀ x, x ∈ L.S → okS x ∧ sumsP L x) ∧ Rises L.S) := ⟨fun x hx => by
          obtain ⟨i, hi, rfl⟩ := List.getElem_of_mem hx
          exact HV.out.1 i hi (by have := HL.out.1; omega), by
          have h3 := HV.out.2
          rw [List.take_of_length_le (by have := HL.out.1; omega)] at h3
          exact h3⟩
      have HRH : Hid _ := rholds_is a0 n0 c0 a1 n1 c1 a2 n2 c2 L.ops L HL.out.1 HL.out.2.1 (by omega) (by omega) HL.out.2.2.2 wr (HR.out.next HI.out.1)
      have HRM : Hid (∀ w', Below wr.heap.size wr w' → Calls Try.prog 35 #[.agg #[.slice a0 n0 c0, .slice a1 n1 c1, .slice a2 n2 c2, .int .i64 L.ops]] w' fun e w'' => e = .returned (.bool (decide (mayRM L))) ∧ Below w'.heap.size w' w'') := fun w' b => rmoves_is a0 n0 c0 a1 n1 c1 a2 n2 c2 L.ops L HL.out.1 HL.out.2.2.1 (by omega) (by omega) HL.out.2.2.2 w' ((HR.out.next HI.out.1).next b)
      by_cases hRH : mayRH L
      · rw [decide_eq_true hRH] at HRH
        by_cases hRM : mayRM L
        · have HE : Hid (z = true) := HYES.out ⟨HQ0.out, HALL.out.1, HALL.out.2, hRH, hRM⟩
          rw [decide_eq_true hRM] at HRM
          clear hRH hRM
          go_wp2_with fail
          refine Calls.mono HRH.out ?_; rintro e w5 ⟨rfl, k5⟩
          have HK5 : Hid (Below wr.heap.size wr w5) := k5
          have hC5 := (HC.out.next HI.out.2).next k5
          have t0 := hC5.cs 0 _ rfl
          have t1 := hC5.cs 1 _ rfl
          have t2 := hC5.cs 2 _ rfl
          have t3 := hC5.cs 3 _ rfl
          clear k5 hC5
          go_wp2_with fail
          refine Calls.mono (HRM.out _ HK5.out) ?_; rintro e w6 ⟨rfl, k6⟩
          have HF : Hid (Below w.heap.size w w6) := Below.next (Below.next HI.out.1 HK5.out) k6
          clear k6
          go_wp2_with fail
          go_ret
          exact ⟨by rw [HE.out]; rfl, HF.out⟩
        · have HE : Hid (z = false) := HNO.out (fun h => hRM h.2.2.2.2)
          rw [decide_eq_false hRM] at HRM
          clear hRH hRM
          go_wp2_with fail
          refine Calls.mono HRH.out ?_; rintro e w5 ⟨rfl, k5⟩
          have HK5 : Hid (Below wr.heap.size wr w5) := k5
          have hC5 := (HC.out.next HI.out.2).next k5
          have t0 := hC5.cs 0 _ rfl
          have t1 := hC5.cs 1 _ rfl
          have t2 := hC5.cs 2 _ rfl
          have t3 := hC5.cs 3 _ rfl
          clear k5 hC5
          go_wp2_with fail
          refine Calls.mono (HRM.out _ HK5.out) ?_; rintro e w6 ⟨rfl, k6⟩
          have HF : Hid (Below w.heap.size w w6) := Below.next (Below.next HI.out.1 HK5.out) k6
          clear k6
          go_wp2_with fail
          go_ret
          exact ⟨by rw [HE.out]; rfl, HF.out⟩
      · have HE : Hid (z = false) := HNO.out (fun h => hRH h.2.2.2.1)
        rw [decide_eq_false hRH] at HRH
        clear hRH HRM
        go_wp2_with fail
        refine Calls.mono HRH.out ?_; rintro e w5 ⟨rfl, k5⟩
        have HF : Hid (Below w.heap.size w w5) := Below.next HI.out.1 k5
        clear k5
        go_wp2_with fail
        go_ret
        exact ⟨by rw [HE.out]; rfl, HF.out⟩
theorem refMay_yes (a0 : Option Addr) (n0 c0 : Nat) (a1 : Option Addr) (n1 c1 : Nat) (a2 : Option Addr) (n2 c2 : Nat) (L : Led) (h0 : L.S.length = n0) (h1 : L.H.length = n1) (h2 : L.M.length = n2) (m0 : n0 ≤ 4096) (m1 : n1 ≤ 4096) (m2 : n2 ≤ 4096) (hf : L.fit) (hm : mayL L) (w : World) (hr : Lies w a0 a1 a2 L) :
    Calls Try.prog 18 #[.agg #[.slice a0 n0 c0, .slice a1 n1 c1, .slice a2 n2 c2, .int .i64 L.ops]] w fun e w' => e = .returned (.bool true) ∧ Below w.heap.size w w' := by
  have h := refMay_is a0 n0 c0 a1 n1 c1 a2 n2 c2 L h0 h1 h2 m0 m1 m2 hf w hr
  rw [decide_eq_true hm] at h
  exact h
theorem refMay_no (a0 : Option Addr) (n0 c0 : Nat) (a1 : Option Addr) (n1 c1 : Nat) (a2 : Option Addr) (n2 c2 : Nat) (L : Led) (h0 : L.S.length = n0) (h1 : L.H.length = n1) (h2 : L.M.length = n2) (m0 : n0 ≤ 4096) (m1 : n1 ≤ 4096) (m2 : n2 ≤ 4096) (hf : L.fit) (hm : ¬ mayL L) (w : World) (hr : Lies w a0 a1 a2 L) :
    Calls Try.prog 18 #[.agg #[.slice a0 n0 c0, .slice a1 n1 c1, .slice a2 n2 c2, .int .i64 L.ops]] w fun e w' => e = .returned (.bool false) ∧ Below w.heap.size w w' := by
  have h := refMay_is a0 n0 c0 a1 n1 c1 a2 n2 c2 L h0 h1 h2 m0 m1 m2 hf w hr
  rw [decide_eq_false hm] at h
  exact h
end Go.Proofs.Ytflbcheofmljeaa

namespace Go.Proofs.Ytflbcheofmljeaa
open Go.ChangeShapes Go.WideShapes Go.RowKit
set_option linter.unusedVariables false
set_option maxRecDepth 100000

set_option maxHeartbeats 4000000 in
theorem rapply_not (a0 : Option Addr) (n0 c0 : Nat) (a1 : Option Addr) (n1 c1 : Nat) (a2 : Option Addr) (n2 c2 : Nat) (ops : Int) (L : Led) (ok : Int) (osk ol ot : ByteArray) (oq id od : Int) (w : World) (hmy : ∀ w', Below w.heap.size w w' → Calls Try.prog 18 #[.agg #[.slice a0 n0 c0, .slice a1 n1 c1, .slice a2 n2 c2, .int .i64 ops]] w' fun e w'' => e = .returned (.bool false) ∧ Below w'.heap.size w' w'') (hr : Lies w a0 a1 a2 L) (hops : L.ops = ops) (h0 : L.S.length = n0) (h1 : L.H.length = n1) (h2 : L.M.length = n2) (hcap : n1 ≤ c1) :
    Calls Try.prog 12 #[.agg #[.slice a0 n0 c0, .slice a1 n1 c1, .slice a2 n2 c2, .int .i64 ops], .agg #[.int .i64 ok, .string osk, .string ol, .string ot, .int .i64 oq, .int .i64 id, .int .i64 od]] w fun e w' => e = .returned (.tuple #[.agg #[.slice none 0 0, .slice none 0 0, .slice none 0 0, .int .i64 0], .int .i64 1]) ∧ Below w.heap.size w w' := by
  have HMY : Hid _ := hmy
  obtain ⟨W, hW⟩ : ∃ W, ((w.alloc (.cells #[.slice a0 n0 c0, .slice a1 n1 c1, .slice a2 n2 c2, .int .i64 ops] 26)).alloc (.cells #[.int .i64 ok, .string osk, .string ol, .string ot, .int .i64 oq, .int .i64 id, .int .i64 od] 28)).alloc (.cells #[.slice none 0 0, .slice none 0 0, .slice none 0 0, .int .i64 0] 26) = W := ⟨_, rfl⟩
  have HC : Hid (CellsF W w.heap.size [.slice a0 n0 c0, .slice a1 n1 c1, .slice a2 n2 c2, .int .i64 ops] ∧ CellsF W (w.heap.size + 1) [.int .i64 ok, .string osk, .string ol, .string ot, .int .i64 oq, .int .i64 id, .int .i64 od] ∧ CellsF W (w.heap.size + 1 + 1) [.slice none 0 0, .slice none 0 0, .slice none 0 0, .int .i64 0] ∧ Below w.heap.size w W) := by
    show _ ∧ _
    rw [← hW]
    exact ⟨((CellsF.at _ 26 (by simp) rfl).next (below1 _ _)).next (below1 _ _), (CellsF.at _ 28 (by simp) (by rw [size_alloc])).next (below1 _ _), CellsF.at _ 26 (by simp) (by rw [size_alloc, size_alloc]), below3 _ _ _ _⟩
  have HL : Hid (L.ops = ops ∧ L.S.length = n0 ∧ L.H.length = n1 ∧ L.M.length = n2 ∧ n1 ≤ c1) := ⟨hops, h0, h1, h2, hcap⟩
  have HNA : Hid (NotAt (w.heap.size + 1 + 1) a0 a1 a2 L) := notAt_of hr (by omega)
  have HR : Hid (Lies w a0 a1 a2 L) := hr
  have l0 := (HC.out.1).cs 0 _ rfl
  have l1 := (HC.out.1).cs 1 _ rfl
  have l2 := (HC.out.1).cs 2 _ rfl
  have l3 := (HC.out.1).cs 3 _ rfl
  have o0 := (HC.out.2.1).cs 0 _ rfl
  have o1 := (HC.out.2.1).cs 1 _ rfl
  have o2 := (HC.out.2.1).cs 2 _ rfl
  have o3 := (HC.out.2.1).cs 3 _ rfl
  have o4 := (HC.out.2.1).cs 4 _ rfl
  have o5 := (HC.out.2.1).cs 5 _ rfl
  have o6 := (HC.out.2.1).cs 6 _ rfl
  clear hr hmy hops h0 h1 h2 hcap
  go_enter Try.func12, Try.ntmps12
  go_wp2_with fail
  try rw [hW]
  go_wp2_with fail
  refine Calls.mono (HMY.out _ HC.out.2.2.2) ?_; rintro e w2 ⟨rfl, k2⟩
  have HK2 : Hid (Below W.heap.size W w2) := k2
  clear k2 hW l0 l1 l2 l3 o0 o1 o2 o3 o4 o5 o6
  have hq1 := HC.out.1.next HK2.out
  have hq2 := HC.out.2.1.next HK2.out
  have l0 := (hq1).cs 0 _ rfl
  have l1 := (hq1).cs 1 _ rfl
  have l2 := (hq1).cs 2 _ rfl
  have l3 := (hq1).cs 3 _ rfl
  have o0 := (hq2).cs 0 _ rfl
  have o1 := (hq2).cs 1 _ rfl
  have o2 := (hq2).cs 2 _ rfl
  have o3 := (hq2).cs 3 _ rfl
  have o4 := (hq2).cs 4 _ rfl
  have o5 := (hq2).cs 5 _ rfl
  have o6 := (hq2).cs 6 _ rfl
  clear hq1 hq2
  have hz4 := HC.out.2.2.1.next HK2.out
  have HCZ : Hid (CellsF w2 (w.heap.size + 1 + 1) [.slice none 0 0, .slice none 0 0, .slice none 0 0, .int .i64 0]) := hz4
  have HFIN : Hid (∀ u0 u1 u2 u3, Below w.heap.size w ((((w2.setCell ⟨(w.heap.size + 1 + 1), 0, none⟩ u0).setCell ⟨(w.heap.size + 1 + 1), 1, none⟩ u1).setCell ⟨(w.heap.size + 1 + 1), 2, none⟩ u2).setCell ⟨(w.heap.size + 1 + 1), 3, none⟩ u3)) := fun u0 u1 u2 u3 => below_four (Below.next HC.out.2.2.2 HK2.out) _ (by omega) _ _ _ _
  have z0 := (hz4).cs 0 _ rfl
  have z1 := (hz4).cs 1 _ rfl
  have z2 := (hz4).cs 2 _ rfl
  have z3 := (hz4).cs 3 _ rfl
  have g0 := (hz4).fz 0
  have g1 := (hz4).fz 1
  have g2 := (hz4).fz 2
  have g3 := (hz4).fz 3
  clear hz4
  go_wp2_with fail
  try simp only [Exit.inBlock, Exit.then]
  refine bodyPost_ret (end_cell_tmp rfl rfl (loadLed _ (HCZ.out.four rfl _ _ _ _) rfl)) rfl ?_
  exact ⟨rfl, HFIN.out _ _ _ _⟩
set_option maxHeartbeats 4000000 in
theorem rapply_arg (a0 : Option Addr) (n0 c0 : Nat) (a1 : Option Addr) (n1 c1 : Nat) (a2 : Option Addr) (n2 c2 : Nat) (ops : Int) (L : Led) (ok : Int) (osk ol ot : ByteArray) (oq id od : Int) (w : World) (hmy : ∀ w', Below w.heap.size w w' → Calls Try.prog 18 #[.agg #[.slice a0 n0 c0, .slice a1 n1 c1, .slice a2 n2 c2, .int .i64 ops]] w' fun e w'' => e = .returned (.bool true) ∧ Below w'.heap.size w' w'') (hma : ∀ w', Calls Try.prog 27 #[.agg #[.int .i64 ok, .string osk, .string ol, .string ot, .int .i64 oq, .int .i64 id, .int .i64 od]] w' fun e w'' => e = .returned (.bool false) ∧ Below w'.heap.size w' w'') (hr : Lies w a0 a1 a2 L) (hops : L.ops = ops) (h0 : L.S.length = n0) (h1 : L.H.length = n1) (h2 : L.M.length = n2) (hcap : n1 ≤ c1) :
    Calls Try.prog 12 #[.agg #[.slice a0 n0 c0, .slice a1 n1 c1, .slice a2 n2 c2, .int .i64 ops], .agg #[.int .i64 ok, .string osk, .string ol, .string ot, .int .i64 oq, .int .i64 id, .int .i64 od]] w fun e w' => e = .returned (.tuple #[.agg #[.slice none 0 0, .slice none 0 0, .slice none 0 0, .int .i64 0], .int .i64 1]) ∧ Below w.heap.size w w' := by
  have HMY : Hid _ := hmy
  have HMA : Hid _ := hma
  obtain ⟨W, hW⟩ : ∃ W, ((w.alloc (.cells #[.slice a0 n0 c0, .slice a1 n1 c1, .slice a2 n2 c2, .int .i64 ops] 26)).alloc (.cells #[.int .i64 ok, .string osk, .string ol, .string ot, .int .i64 oq, .int .i64 id, .int .i64 od] 28)).alloc (.cells #[.slice none 0 0, .slice none 0 0, .slice none 0 0, .int .i64 0] 26) = W := ⟨_, rfl⟩
  have HC : Hid (CellsF W w.heap.size [.slice a0 n0 c0, .slice a1 n1 c1, .slice a2 n2 c2, .int .i64 ops] ∧ CellsF W (w.heap.size + 1) [.int .i64 ok, .string osk, .string ol, .string ot, .int .i64 oq, .int .i64 id, .int .i64 od] ∧ CellsF W (w.heap.size + 1 + 1) [.slice none 0 0, .slice none 0 0, .slice none 0 0, .int .i64 0] ∧ Below w.heap.size w W) := by
    show _ ∧ _
    rw [← hW]
    exact ⟨((CellsF.at _ 26 (by simp) rfl).next (below1 _ _)).next (below1 _ _), (CellsF.at _ 28 (by simp) (by rw [size_alloc])).next (below1 _ _), CellsF.at _ 26 (by simp) (by rw [size_alloc, size_alloc]), below3 _ _ _ _⟩
  have HL : Hid (L.ops = ops ∧ L.S.length = n0 ∧ L.H.length = n1 ∧ L.M.length = n2 ∧ n1 ≤ c1) := ⟨hops, h0, h1, h2, hcap⟩
  have HNA : Hid (NotAt (w.heap.size + 1 + 1) a0 a1 a2 L) := notAt_of hr (by omega)
  have HR : Hid (Lies w a0 a1 a2 L) := hr
  have l0 := (HC.out.1).cs 0 _ rfl
  have l1 := (HC.out.1).cs 1 _ rfl
  have l2 := (HC.out.1).cs 2 _ rfl
  have l3 := (HC.out.1).cs 3 _ rfl
  have o0 := (HC.out.2.1).cs 0 _ rfl
  have o1 := (HC.out.2.1).cs 1 _ rfl
  have o2 := (HC.out.2.1).cs 2 _ rfl
  have o3 := (HC.out.2.1).cs 3 _ rfl
  have o4 := (HC.out.2.1).cs 4 _ rfl
  have o5 := (HC.out.2.1).cs 5 _ rfl
  have o6 := (HC.out.2.1).cs 6 _ rfl
  clear hr hmy hma hops h0 h1 h2 hcap
  go_enter Try.func12, Try.ntmps12
  go_wp2_with fail
  try rw [hW]
  go_wp2_with fail
  refine Calls.mono (HMY.out _ HC.out.2.2.2) ?_; rintro e w2 ⟨rfl, k2⟩
  have HK2 : Hid (Below W.heap.size W w2) := k2
  clear k2 hW l0 l1 l2 l3 o0 o1 o2 o3 o4 o5 o6
  have hq1 := HC.out.1.next HK2.out
  have hq2 := HC.out.2.1.next HK2.out
  have l0 := (hq1).cs 0 _ rfl
  have l1 := (hq1).cs 1 _ rfl
  have l2 := (hq1).cs 2 _ rfl
  have l3 := (hq1).cs 3 _ rfl
  have o0 := (hq2).cs 0 _ rfl
  have o1 := (hq2).cs 1 _ rfl
  have o2 := (hq2).cs 2 _ rfl
  have o3 := (hq2).cs 3 _ rfl
  have o4 := (hq2).cs 4 _ rfl
  have o5 := (hq2).cs 5 _ rfl
  have o6 := (hq2).cs 6 _ rfl
  clear hq1 hq2
  go_wp2_with fail
  refine Calls.mono (HMA.out _) ?_; rintro e w3 ⟨rfl, k3⟩
  have HK3 : Hid (Below W.heap.size W w3) := Below.next HK2.out k3
  clear k3 l0 l1 l2 l3 o0 o1 o2 o3 o4 o5 o6
  have hq1 := HC.out.1.next HK3.out
  have hq2 := HC.out.2.1.next HK3.out
  have l0 := (hq1).cs 0 _ rfl
  have l1 := (hq1).cs 1 _ rfl
  have l2 := (hq1).cs 2 _ rfl
  have l3 := (hq1).cs 3 _ rfl
  have o0 := (hq2).cs 0 _ rfl
  have o1 := (hq2).cs 1 _ rfl
  have o2 := (hq2).cs 2 _ rfl
  have o3 := (hq2).cs 3 _ rfl
  have o4 := (hq2).cs 4 _ rfl
  have o5 := (hq2).cs 5 _ rfl
  have o6 := (hq2).cs 6 _ rfl
  clear hq1 hq2
  have hz4 := HC.out.2.2.1.next HK3.out
  have HCZ : Hid (CellsF w3 (w.heap.size + 1 + 1) [.slice none 0 0, .slice none 0 0, .slice none 0 0, .int .i64 0]) := hz4
  have HFIN : Hid (∀ u0 u1 u2 u3, Below w.heap.size w ((((w3.setCell ⟨(w.heap.size + 1 + 1), 0, none⟩ u0).setCell ⟨(w.heap.size + 1 + 1), 1, none⟩ u1).setCell ⟨(w.heap.size + 1 + 1), 2, none⟩ u2).setCell ⟨(w.heap.size + 1 + 1), 3, none⟩ u3)) := fun u0 u1 u2 u3 => below_four (Below.next HC.out.2.2.2 HK3.out) _ (by omega) _ _ _ _
  have z0 := (hz4).cs 0 _ rfl
  have z1 := (hz4).cs 1 _ rfl
  have z2 := (hz4).cs 2 _ rfl
  have z3 := (hz4).cs 3 _ rfl
  have g0 := (hz4).fz 0
  have g1 := (hz4).fz 1
  have g2 := (hz4).fz 2
  have g3 := (hz4).fz 3
  clear hz4
  go_wp2_with fail
  try simp only [Exit.inBlock, Exit.then]
  refine bodyPost_ret (end_cell_tmp rfl rfl (loadLed _ (HCZ.out.four rfl _ _ _ _) rfl)) rfl ?_
  exact ⟨rfl, HFIN.out _ _ _ _⟩
set_option maxHeartbeats 4000000 in
theorem rapply_no (a0 : Option Addr) (n0 c0 : Nat) (a1 : Option Addr) (n1 c1 : Nat) (a2 : Option Addr) (n2 c2 : Nat) (ops : Int) (L : Led) (ok : Int) (osk ol ot : ByteArray) (oq id od : Int) (w : World) (hmy : ∀ w', Below w.heap.size w w' → Calls Try.prog 18 #[.agg #[.slice a0 n0 c0, .slice a1 n1 c1, .slice a2 n2 c2, .int .i64 ops]] w' fun e w'' => e = .returned (.bool true) ∧ Below w'.heap.size w' w'') (hma : ∀ w', Calls Try.prog 27 #[.agg #[.int .i64 ok, .string osk, .string ol, .string ot, .int .i64 oq, .int .i64 id, .int .i64 od]] w' fun e w'' => e = .returned (.bool true) ∧ Below w'.heap.size w' w'') (M : Led) (err : Int) (herr : ¬ err = 0) (hdo : ∀ w', Below w.heap.size w w' → Calls Try.prog 28 #[.agg #[.slice a0 n0 c0, .slice a1 n1 c1, .slice a2 n2 c2, .int .i64 ops], .agg #[.int .i64 ok, .string osk, .string ol, .string ot, .int .i64 oq, .int .i64 id, .int .i64 od]] w' fun e w'' => LeP a0 a1 a2 L w' w'' M err e) (hr : Lies w a0 a1 a2 L) (hops : L.ops = ops) (h0 : L.S.length = n0) (h1 : L.H.length = n1) (h2 : L.M.length = n2) (hcap : n1 ≤ c1) :
    Calls Try.prog 12 #[.agg #[.slice a0 n0 c0, .slice a1 n1 c1, .slice a2 n2 c2, .int .i64 ops], .agg #[.int .i64 ok, .string osk, .string ol, .string ot, .int .i64 oq, .int .i64 id, .int .i64 od]] w fun e w' => e = .returned (.tuple #[.agg #[.slice none 0 0, .slice none 0 0, .slice none 0 0, .int .i64 0], .int .i64 err]) ∧ Below w.heap.size w w' := by
  have HMY : Hid _ := hmy
  have HMA : Hid _ := hma
  have HDO : Hid _ := hdo
  have heb : (err != 0) = true := by simpa using herr
  obtain ⟨W, hW⟩ : ∃ W, ((w.alloc (.cells #[.slice a0 n0 c0, .slice a1 n1 c1, .slice a2 n2 c2, .int .i64 ops] 26)).alloc (.cells #[.int .i64 ok, .string osk, .string ol, .string ot, .int .i64 oq, .int .i64 id, .int .i64 od] 28)).alloc (.cells #[.slice none 0 0, .slice none 0 0, .slice none 0 0, .int .i64 0] 26) = W := ⟨_, rfl⟩
  have HC : Hid (CellsF W w.heap.size [.slice a0 n0 c0, .slice a1 n1 c1, .slice a2 n2 c2, .int .i64 ops] ∧ CellsF W (w.heap.size + 1) [.int .i64 ok, .string osk, .string ol, .string ot, .int .i64 oq, .int .i64 id, .int .i64 od] ∧ CellsF W (w.heap.size + 1 + 1) [.slice none 0 0, .slice none 0 0, .slice none 0 0, .int .i64 0] ∧ Below w.heap.size w W) := by
    show _ ∧ _
    rw [← hW]
    exact ⟨((CellsF.at _ 26 (by simp) rfl).next (below1 _ _)).next (below1 _ _), (CellsF.at _ 28 (by simp) (by rw [size_alloc])).next (below1 _ _), CellsF.at _ 26 (by simp) (by rw [size_alloc, size_alloc]), below3 _ _ _ _⟩
  have HL : Hid (L.ops = ops ∧ L.S.length = n0 ∧ L.H.length = n1 ∧ L.M.length = n2 ∧ n1 ≤ c1) := ⟨hops, h0, h1, h2, hcap⟩
  have HNA : Hid (NotAt (w.heap.size + 1 + 1) a0 a1 a2 L) := notAt_of hr (by omega)
  have HR : Hid (Lies w a0 a1 a2 L) := hr
  have l0 := (HC.out.1).cs 0 _ rfl
  have l1 := (HC.out.1).cs 1 _ rfl
  have l2 := (HC.out.1).cs 2 _ rfl
  have l3 := (HC.out.1).cs 3 _ rfl
  have o0 := (HC.out.2.1).cs 0 _ rfl
  have o1 := (HC.out.2.1).cs 1 _ rfl
  have o2 := (HC.out.2.1).cs 2 _ rfl
  have o3 := (HC.out.2.1).cs 3 _ rfl
  have o4 := (HC.out.2.1).cs 4 _ rfl
  have o5 := (HC.out.2.1).cs 5 _ rfl
  have o6 := (HC.out.2.1).cs 6 _ rfl
  clear hr hmy hma hdo hops h0 h1 h2 hcap herr
  go_enter Try.func12, Try.ntmps12
  go_wp2_with fail
  try rw [hW]
  go_wp2_with fail
  refine Calls.mono (HMY.out _ HC.out.2.2.2) ?_; rintro e w2 ⟨rfl, k2⟩
  have HK2 : Hid (Below W.heap.size W w2) := k2
  clear k2 hW l0 l1 l2 l3 o0 o1 o2 o3 o4 o5 o6
  have hq1 := HC.out.1.next HK2.out
  have hq2 := HC.out.2.1.next HK2.out
  have l0 := (hq1).cs 0 _ rfl
  have l1 := (hq1).cs 1 _ rfl
  have l2 := (hq1).cs 2 _ rfl
  have l3 := (hq1).cs 3 _ rfl
  have o0 := (hq2).cs 0 _ rfl
  have o1 := (hq2).cs 1 _ rfl
  have o2 := (hq2).cs 2 _ rfl
  have o3 := (hq2).cs 3 _ rfl
  have o4 := (hq2).cs 4 _ rfl
  have o5 := (hq2).cs 5 _ rfl
  have o6 := (hq2).cs 6 _ rfl
  clear hq1 hq2
  go_wp2_with fail
  refine Calls.mono (HMA.out _) ?_; rintro e w3 ⟨rfl, k3⟩
  have HK3 : Hid (Below W.heap.size W w3) := Below.next HK2.out k3
  clear k3 l0 l1 l2 l3 o0 o1 o2 o3 o4 o5 o6
  have hq1 := HC.out.1.next HK3.out
  have hq2 := HC.out.2.1.next HK3.out
  have l0 := (hq1).cs 0 _ rfl
  have l1 := (hq1).cs 1 _ rfl
  have l2 := (hq1).cs 2 _ rfl
  have l3 := (hq1).cs 3 _ rfl
  have o0 := (hq2).cs 0 _ rfl
  have o1 := (hq2).cs 1 _ rfl
  have o2 := (hq2).cs 2 _ rfl
  have o3 := (hq2).cs 3 _ rfl
  have o4 := (hq2).cs 4 _ rfl
  have o5 := (hq2).cs 5 _ rfl
  have o6 := (hq2).cs 6 _ rfl
  clear hq1 hq2
  go_wp2_with fail
  refine Calls.mono (HDO.out _ (Below.next HC.out.2.2.2 HK3.out)) ?_; rintro e w5 ⟨b0, m0, d0, b1, m1, d1, b2, m2, d2, rfl, hl0, hl1, hl2, hli, hcp, k5, hsr⟩
  obtain ⟨W6, hW6⟩ : ∃ W6, w5.alloc (.cells #[.slice b0 m0 d0, .slice b1 m1 d1, .slice b2 m2 d2, .int .i64 M.ops] 26) = W6 := ⟨_, rfl⟩
  obtain ⟨Bn, hBn⟩ : ∃ Bn, w5.heap.size = Bn := ⟨_, rfl⟩
  have hk6 : Below W.heap.size W W6 := by rw [← hW6]; exact Below.next (Below.next HK3.out k5) (below1 _ _)
  have HK6 : Hid (Below W.heap.size W W6) := hk6
  clear hl0 hl1 hl2 hli hcp k5 hsr hk6 l0 l1 l2 l3 o0 o1 o2 o3 o4 o5 o6
  have hq1 := HC.out.1.next HK6.out
  have hq2 := HC.out.2.1.next HK6.out
  have l0 := (hq1).cs 0 _ rfl
  have l1 := (hq1).cs 1 _ rfl
  have l2 := (hq1).cs 2 _ rfl
  have l3 := (hq1).cs 3 _ rfl
  have o0 := (hq2).cs 0 _ rfl
  have o1 := (hq2).cs 1 _ rfl
  have o2 := (hq2).cs 2 _ rfl
  have o3 := (hq2).cs 3 _ rfl
  have o4 := (hq2).cs 4 _ rfl
  have o5 := (hq2).cs 5 _ rfl
  have o6 := (hq2).cs 6 _ rfl
  clear hq1 hq2
  have hz4 := HC.out.2.2.1.next HK6.out
  have HCZ : Hid (CellsF W6 (w.heap.size + 1 + 1) [.slice none 0 0, .slice none 0 0, .slice none 0 0, .int .i64 0]) := hz4
  have HFIN : Hid (∀ u0 u1 u2 u3, Below w.heap.size w ((((W6.setCell ⟨(w.heap.size + 1 + 1), 0, none⟩ u0).setCell ⟨(w.heap.size + 1 + 1), 1, none⟩ u1).setCell ⟨(w.heap.size + 1 + 1), 2, none⟩ u2).setCell ⟨(w.heap.size + 1 + 1), 3, none⟩ u3)) := fun u0 u1 u2 u3 => below_four (Below.next HC.out.2.2.2 HK6.out) _ (by omega) _ _ _ _
  have z0 := (hz4).cs 0 _ rfl
  have z1 := (hz4).cs 1 _ rfl
  have z2 := (hz4).cs 2 _ rfl
  have z3 := (hz4).cs 3 _ rfl
  have g0 := (hz4).fz 0
  have g1 := (hz4).fz 1
  have g2 := (hz4).fz 2
  have g3 := (hz4).fz 3
  clear hz4
  go_wp2_with fail
  try simp only [Exit.inBlock, Exit.then]
  refine bodyPost_ret (end_cell_tmp rfl rfl (loadLed _ (HCZ.out.four rfl _ _ _ _) rfl)) rfl ?_
  exact ⟨rfl, HFIN.out _ _ _ _⟩
set_option maxHeartbeats 4000000 in
theorem rapply_full (a0 : Option Addr) (n0 c0 : Nat) (a1 : Option Addr) (n1 c1 : Nat) (a2 : Option Addr) (n2 c2 : Nat) (ops : Int) (L : Led) (ok : Int) (osk ol ot : ByteArray) (oq id od : Int) (w : World) (hmy : ∀ w', Below w.heap.size w w' → Calls Try.prog 18 #[.agg #[.slice a0 n0 c0, .slice a1 n1 c1, .slice a2 n2 c2, .int .i64 ops]] w' fun e w'' => e = .returned (.bool true) ∧ Below w'.heap.size w' w'') (hma : ∀ w', Calls Try.prog 27 #[.agg #[.int .i64 ok, .string osk, .string ol, .string ot, .int .i64 oq, .int .i64 id, .int .i64 od]] w' fun e w'' => e = .returned (.bool true) ∧ Below w'.heap.size w' w'') (M : Led) (hdo : ∀ w', Below w.heap.size w w' → Calls Try.prog 28 #[.agg #[.slice a0 n0 c0, .slice a1 n1 c1, .slice a2 n2 c2, .int .i64 ops], .agg #[.int .i64 ok, .string osk, .string ol, .string ot, .int .i64 oq, .int .i64 id, .int .i64 od]] w' fun e w'' => LeP a0 a1 a2 L w' w'' M 0 e) (hfu : ∀ w' b0 m0 d0 b1 m1 d1 b2 m2 d2 ops', M.S.length = m0 → M.H.length = m1 → M.M.length = m2 → Calls Try.prog 29 #[.agg #[.slice b0 m0 d0, .slice b1 m1 d1, .slice b2 m2 d2, .int .i64 ops']] w' fun e w'' => e = .returned (.bool true) ∧ Below w'.heap.size w' w'')  (hr : Lies w a0 a1 a2 L) (hops : L.ops = ops) (h0 : L.S.length = n0) (h1 : L.H.length = n1) (h2 : L.M.length = n2) (hcap : n1 ≤ c1) :
    Calls Try.prog 12 #[.agg #[.slice a0 n0 c0, .slice a1 n1 c1, .slice a2 n2 c2, .int .i64 ops], .agg #[.int .i64 ok, .string osk, .string ol, .string ot, .int .i64 oq, .int .i64 id, .int .i64 od]] w fun e w' => e = .returned (.tuple #[.agg #[.slice none 0 0, .slice none 0 0, .slice none 0 0, .int .i64 0], .int .i64 2]) ∧ Below w.heap.size w w' := by
  have HMY : Hid _ := hmy
  have HMA : Hid _ := hma
  have HDO : Hid _ := hdo
  have HFU : Hid _ := hfu
  obtain ⟨W, hW⟩ : ∃ W, ((w.alloc (.cells #[.slice a0 n0 c0, .slice a1 n1 c1, .slice a2 n2 c2, .int .i64 ops] 26)).alloc (.cells #[.int .i64 ok, .string osk, .string ol, .string ot, .int .i64 oq, .int .i64 id, .int .i64 od] 28)).alloc (.cells #[.slice none 0 0, .slice none 0 0, .slice none 0 0, .int .i64 0] 26) = W := ⟨_, rfl⟩
  have HC : Hid (CellsF W w.heap.size [.slice a0 n0 c0, .slice a1 n1 c1, .slice a2 n2 c2, .int .i64 ops] ∧ CellsF W (w.heap.size + 1) [.int .i64 ok, .string osk, .string ol, .string ot, .int .i64 oq, .int .i64 id, .int .i64 od] ∧ CellsF W (w.heap.size + 1 + 1) [.slice none 0 0, .slice none 0 0, .slice none 0 0, .int .i64 0] ∧ Below w.heap.size w W) := by
    show _ ∧ _
    rw [← hW]
    exact ⟨((CellsF.at _ 26 (by simp) rfl).next (below1 _ _)).next (below1 _ _), (CellsF.at _ 28 (by simp) (by rw [size_alloc])).next (below1 _ _), CellsF.at _ 26 (by simp) (by rw [size_alloc, size_alloc]), below3 _ _ _ _⟩
  have HL : Hid (L.ops = ops ∧ L.S.length = n0 ∧ L.H.length = n1 ∧ L.M.length = n2 ∧ n1 ≤ c1) := ⟨hops, h0, h1, h2, hcap⟩
  have HNA : Hid (NotAt (w.heap.size + 1 + 1) a0 a1 a2 L) := notAt_of hr (by omega)
  have HR : Hid (Lies w a0 a1 a2 L) := hr
  have l0 := (HC.out.1).cs 0 _ rfl
  have l1 := (HC.out.1).cs 1 _ rfl
  have l2 := (HC.out.1).cs 2 _ rfl
  have l3 := (HC.out.1).cs 3 _ rfl
  have o0 := (HC.out.2.1).cs 0 _ rfl
  have o1 := (HC.out.2.1).cs 1 _ rfl
  have o2 := (HC.out.2.1).cs 2 _ rfl
  have o3 := (HC.out.2.1).cs 3 _ rfl
  have o4 := (HC.out.2.1).cs 4 _ rfl
  have o5 := (HC.out.2.1).cs 5 _ rfl
  have o6 := (HC.out.2.1).cs 6 _ rfl
  clear hr hmy hma hdo hfu hops h0 h1 h2 hcap
  go_enter Try.func12, Try.ntmps12
  go_wp2_with fail
  try rw [hW]
  go_wp2_with fail
  refine Calls.mono (HMY.out _ HC.out.2.2.2) ?_; rintro e w2 ⟨rfl, k2⟩
  have HK2 : Hid (Below W.heap.size W w2) := k2
  clear k2 hW l0 l1 l2 l3 o0 o1 o2 o3 o4 o5 o6
  have hq1 := HC.out.1.next HK2.out
  have hq2 := HC.out.2.1.next HK2.out
  have l0 := (hq1).cs 0 _ rfl
  have l1 := (hq1).cs 1 _ rfl
  have l2 := (hq1).cs 2 _ rfl
  have l3 := (hq1).cs 3 _ rfl
  have o0 := (hq2).cs 0 _ rfl
  have o1 := (hq2).cs 1 _ rfl
  have o2 := (hq2).cs 2 _ rfl
  have o3 := (hq2).cs 3 _ rfl
  have o4 := (hq2).cs 4 _ rfl
  have o5 := (hq2).cs 5 _ rfl
  have o6 := (hq2).cs 6 _ rfl
  clear hq1 hq2
  go_wp2_with fail
  refine Calls.mono (HMA.out _) ?_; rintro e w3 ⟨rfl, k3⟩
  have HK3 : Hid (Below W.heap.size W w3) := Below.next HK2.out k3
  clear k3 l0 l1 l2 l3 o0 o1 o2 o3 o4 o5 o6
  have hq1 := HC.out.1.next HK3.out
  have hq2 := HC.out.2.1.next HK3.out
  have l0 := (hq1).cs 0 _ rfl
  have l1 := (hq1).cs 1 _ rfl
  have l2 := (hq1).cs 2 _ rfl
  have l3 := (hq1).cs 3 _ rfl
  have o0 := (hq2).cs 0 _ rfl
  have o1 := (hq2).cs 1 _ rfl
  have o2 := (hq2).cs 2 _ rfl
  have o3 := (hq2).cs 3 _ rfl
  have o4 := (hq2).cs 4 _ rfl
  have o5 := (hq2).cs 5 _ rfl
  have o6 := (hq2).cs 6 _ rfl
  clear hq1 hq2
  go_wp2_with fail
  refine Calls.mono (HDO.out _ (Below.next HC.out.2.2.2 HK3.out)) ?_; rintro e w5 ⟨b0, m0, d0, b1, m1, d1, b2, m2, d2, rfl, hl0, hl1, hl2, hli, hcp, k5, hsr⟩
  obtain ⟨W6, hW6⟩ : ∃ W6, w5.alloc (.cells #[.slice b0 m0 d0, .slice b1 m1 d1, .slice b2 m2 d2, .int .i64 M.ops] 26) = W6 := ⟨_, rfl⟩
  obtain ⟨Bn, hBn⟩ : ∃ Bn, w5.heap.size = Bn := ⟨_, rfl⟩
  have hk6 : Below W.heap.size W W6 := by rw [← hW6]; exact Below.next (Below.next HK3.out k5) (below1 _ _)
  have HK6 : Hid (Below W.heap.size W W6) := hk6
  have hnb : CellsF W6 Bn [.slice b0 m0 d0, .slice b1 m1 d1, .slice b2 m2 d2, .int .i64 M.ops] := by rw [← hW6, ← hBn]; exact CellsF.at _ 26 (by simp) rfl
  have HLI : Hid (M.S.length = m0 ∧ M.H.length = m1 ∧ M.M.length = m2 ∧ Lies W6 b0 b1 b2 M ∧ m1 ≤ d1 ∧ SrcL w a0 a1 a2 L b0 b1 b2 M ∧ NotAt (w.heap.size + 1 + 1) b0 b1 b2 M ∧ NotAt Bn b0 b1 b2 M ∧ (w.heap.size + 1 + 1) < Bn ∧ CellsF W6 Bn [.slice b0 m0 d0, .slice b1 m1 d1, .slice b2 m2 d2, .int .i64 M.ops]) := by
    have hsz : (w.heap.size + 1 + 1) < w3.heap.size := Nat.lt_of_lt_of_le HC.out.2.2.1.lt HK3.out.size
    refine ⟨hl0, hl1, hl2, ?_, hcp, hsr.mono (Nat.le_trans HC.out.2.2.2.size HK3.out.size), hsr.not hsz HNA.out, ?_, ?_, hnb⟩
    · rw [← hW6]; exact hli.next (below1 _ _)
    · exact notAt_of hli (by omega)
    · have := k5.size; omega
  have q0 := (hnb).cs 0 _ rfl
  have q1 := (hnb).cs 1 _ rfl
  have q2 := (hnb).cs 2 _ rfl
  have q3 := (hnb).cs 3 _ rfl
  have f0 := (hnb).fz 0
  have f1 := (hnb).fz 1
  have f2 := (hnb).fz 2
  have f3 := (hnb).fz 3
  clear hl0 hl1 hl2 hli hcp k5 hsr hk6 hnb l0 l1 l2 l3 o0 o1 o2 o3 o4 o5 o6
  have hq1 := HC.out.1.next HK6.out
  have hq2 := HC.out.2.1.next HK6.out
  have l0 := (hq1).cs 0 _ rfl
  have l1 := (hq1).cs 1 _ rfl
  have l2 := (hq1).cs 2 _ rfl
  have l3 := (hq1).cs 3 _ rfl
  have o0 := (hq2).cs 0 _ rfl
  have o1 := (hq2).cs 1 _ rfl
  have o2 := (hq2).cs 2 _ rfl
  have o3 := (hq2).cs 3 _ rfl
  have o4 := (hq2).cs 4 _ rfl
  have o5 := (hq2).cs 5 _ rfl
  have o6 := (hq2).cs 6 _ rfl
  clear hq1 hq2
  go_wp2_with fail
  refine Calls.mono (HFU.out _ _ _ _ _ _ _ _ _ _ _ HLI.out.1 HLI.out.2.1 HLI.out.2.2.1) ?_; rintro e w7 ⟨rfl, k7⟩
  have HK7 : Hid (Below W.heap.size W w7) := Below.next HK6.out k7
  have HN7 : Hid (CellsF w7 Bn [.slice b0 m0 d0, .slice b1 m1 d1, .slice b2 m2 d2, .int .i64 M.ops] ∧ Lies w7 b0 b1 b2 M) := ⟨HLI.out.2.2.2.2.2.2.2.2.2.next k7, HLI.out.2.2.2.1.next k7⟩
  clear k7 l0 l1 l2 l3 o0 o1 o2 o3 o4 o5 o6 q0 q1 q2 q3 f0 f1 f2 f3 hW6 hBn
  have hq1 := HC.out.1.next HK7.out
  have hq2 := HC.out.2.1.next HK7.out
  have l0 := (hq1).cs 0 _ rfl
  have l1 := (hq1).cs 1 _ rfl
  have l2 := (hq1).cs 2 _ rfl
  have l3 := (hq1).cs 3 _ rfl
  have o0 := (hq2).cs 0 _ rfl
  have o1 := (hq2).cs 1 _ rfl
  have o2 := (hq2).cs 2 _ rfl
  have o3 := (hq2).cs 3 _ rfl
  have o4 := (hq2).cs 4 _ rfl
  have o5 := (hq2).cs 5 _ rfl
  have o6 := (hq2).cs 6 _ rfl
  clear hq1 hq2
  have hz4 := HC.out.2.2.1.next HK7.out
  have HCZ : Hid (CellsF w7 (w.heap.size + 1 + 1) [.slice none 0 0, .slice none 0 0, .slice none 0 0, .int .i64 0]) := hz4
  have HFIN : Hid (∀ u0 u1 u2 u3, Below w.heap.size w ((((w7.setCell ⟨(w.heap.size + 1 + 1), 0, none⟩ u0).setCell ⟨(w.heap.size + 1 + 1), 1, none⟩ u1).setCell ⟨(w.heap.size + 1 + 1), 2, none⟩ u2).setCell ⟨(w.heap.size + 1 + 1), 3, none⟩ u3)) := fun u0 u1 u2 u3 => below_four (Below.next HC.out.2.2.2 HK7.out) _ (by omega) _ _ _ _
  have z0 := (hz4).cs 0 _ rfl
  have z1 := (hz4).cs 1 _ rfl
  have z2 := (hz4).cs 2 _ rfl
  have z3 := (hz4).cs 3 _ rfl
  have g0 := (hz4).fz 0
  have g1 := (hz4).fz 1
  have g2 := (hz4).fz 2
  have g3 := (hz4).fz 3
  clear hz4
  go_wp2_with fail
  try simp only [Exit.inBlock, Exit.then]
  refine bodyPost_ret (end_cell_tmp rfl rfl (loadLed _ (HCZ.out.four rfl _ _ _ _) rfl)) rfl ?_
  exact ⟨rfl, HFIN.out _ _ _ _⟩
set_option maxHeartbeats 4000000 in
theorem rapply_many (a0 : Option Addr) (n0 c0 : Nat) (a1 : Option Addr) (n1 c1 : Nat) (a2 : Option Addr) (n2 c2 : Nat) (ops : Int) (L : Led) (ok : Int) (osk ol ot : ByteArray) (oq id od : Int) (w : World) (hmy : ∀ w', Below w.heap.size w w' → Calls Try.prog 18 #[.agg #[.slice a0 n0 c0, .slice a1 n1 c1, .slice a2 n2 c2, .int .i64 ops]] w' fun e w'' => e = .returned (.bool true) ∧ Below w'.heap.size w' w'') (hma : ∀ w', Calls Try.prog 27 #[.agg #[.int .i64 ok, .string osk, .string ol, .string ot, .int .i64 oq, .int .i64 id, .int .i64 od]] w' fun e w'' => e = .returned (.bool true) ∧ Below w'.heap.size w' w'') (M : Led) (hdo : ∀ w', Below w.heap.size w w' → Calls Try.prog 28 #[.agg #[.slice a0 n0 c0, .slice a1 n1 c1, .slice a2 n2 c2, .int .i64 ops], .agg #[.int .i64 ok, .string osk, .string ol, .string ot, .int .i64 oq, .int .i64 id, .int .i64 od]] w' fun e w'' => LeP a0 a1 a2 L w' w'' M 0 e) (hfu : ∀ w' b0 m0 d0 b1 m1 d1 b2 m2 d2 ops', M.S.length = m0 → M.H.length = m1 → M.M.length = m2 → Calls Try.prog 29 #[.agg #[.slice b0 m0 d0, .slice b1 m1 d1, .slice b2 m2 d2, .int .i64 ops']] w' fun e w'' => e = .returned (.bool false) ∧ Below w'.heap.size w' w'') (hmany : 4611686018427387904 ≤ ops) (hr : Lies w a0 a1 a2 L) (hops : L.ops = ops) (h0 : L.S.length = n0) (h1 : L.H.length = n1) (h2 : L.M.length = n2) (hcap : n1 ≤ c1) :
    Calls Try.prog 12 #[.agg #[.slice a0 n0 c0, .slice a1 n1 c1, .slice a2 n2 c2, .int .i64 ops], .agg #[.int .i64 ok, .string osk, .string ol, .string ot, .int .i64 oq, .int .i64 id, .int .i64 od]] w fun e w' => e = .returned (.tuple #[.agg #[.slice none 0 0, .slice none 0 0, .slice none 0 0, .int .i64 0], .int .i64 2]) ∧ Below w.heap.size w w' := by
  have HMY : Hid _ := hmy
  have HMA : Hid _ := hma
  have HDO : Hid _ := hdo
  have HFU : Hid _ := hfu
  obtain ⟨W, hW⟩ : ∃ W, ((w.alloc (.cells #[.slice a0 n0 c0, .slice a1 n1 c1, .slice a2 n2 c2, .int .i64 ops] 26)).alloc (.cells #[.int .i64 ok, .string osk, .string ol, .string ot, .int .i64 oq, .int .i64 id, .int .i64 od] 28)).alloc (.cells #[.slice none 0 0, .slice none 0 0, .slice none 0 0, .int .i64 0] 26) = W := ⟨_, rfl⟩
  have HC : Hid (CellsF W w.heap.size [.slice a0 n0 c0, .slice a1 n1 c1, .slice a2 n2 c2, .int .i64 ops] ∧ CellsF W (w.heap.size + 1) [.int .i64 ok, .string osk, .string ol, .string ot, .int .i64 oq, .int .i64 id, .int .i64 od] ∧ CellsF W (w.heap.size + 1 + 1) [.slice none 0 0, .slice none 0 0, .slice none 0 0, .int .i64 0] ∧ Below w.heap.size w W) := by
    show _ ∧ _
    rw [← hW]
    exact ⟨((CellsF.at _ 26 (by simp) rfl).next (below1 _ _)).next (below1 _ _), (CellsF.at _ 28 (by simp) (by rw [size_alloc])).next (below1 _ _), CellsF.at _ 26 (by simp) (by rw [size_alloc, size_alloc]), below3 _ _ _ _⟩
  have HL : Hid (L.ops = ops ∧ L.S.length = n0 ∧ L.H.length = n1 ∧ L.M.length = n2 ∧ n1 ≤ c1) := ⟨hops, h0, h1, h2, hcap⟩
  have HNA : Hid (NotAt (w.heap.size + 1 + 1) a0 a1 a2 L) := notAt_of hr (by omega)
  have HR : Hid (Lies w a0 a1 a2 L) := hr
  have l0 := (HC.out.1).cs 0 _ rfl
  have l1 := (HC.out.1).cs 1 _ rfl
  have l2 := (HC.out.1).cs 2 _ rfl
  have l3 := (HC.out.1).cs 3 _ rfl
  have o0 := (HC.out.2.1).cs 0 _ rfl
  have o1 := (HC.out.2.1).cs 1 _ rfl
  have o2 := (HC.out.2.1).cs 2 _ rfl
  have o3 := (HC.out.2.1).cs 3 _ rfl
  have o4 := (HC.out.2.1).cs 4 _ rfl
  have o5 := (HC.out.2.1).cs 5 _ rfl
  have o6 := (HC.out.2.1).cs 6 _ rfl
  clear hr hmy hma hdo hfu hops h0 h1 h2 hcap
  go_enter Try.func12, Try.ntmps12
  go_wp2_with fail
  try rw [hW]
  go_wp2_with fail
  refine Calls.mono (HMY.out _ HC.out.2.2.2) ?_; rintro e w2 ⟨rfl, k2⟩
  have HK2 : Hid (Below W.heap.size W w2) := k2
  clear k2 hW l0 l1 l2 l3 o0 o1 o2 o3 o4 o5 o6
  have hq1 := HC.out.1.next HK2.out
  have hq2 := HC.out.2.1.next HK2.out
  have l0 := (hq1).cs 0 _ rfl
  have l1 := (hq1).cs 1 _ rfl
  have l2 := (hq1).cs 2 _ rfl
  have l3 := (hq1).cs 3 _ rfl
  have o0 := (hq2).cs 0 _ rfl
  have o1 := (hq2).cs 1 _ rfl
  have o2 := (hq2).cs 2 _ rfl
  have o3 := (hq2).cs 3 _ rfl
  have o4 := (hq2).cs 4 _ rfl
  have o5 := (hq2).cs 5 _ rfl
  have o6 := (hq2).cs 6 _ rfl
  clear hq1 hq2
  go_wp2_with fail
  refine Calls.mono (HMA.out _) ?_; rintro e w3 ⟨rfl, k3⟩
  have HK3 : Hid (Below W.heap.size W w3) := Below.next HK2.out k3
  clear k3 l0 l1 l2 l3 o0 o1 o2 o3 o4 o5 o6
  have hq1 := HC.out.1.next HK3.out
  have hq2 := HC.out.2.1.next HK3.out
  have l0 := (hq1).cs 0 _ rfl
  have l1 := (hq1).cs 1 _ rfl
  have l2 := (hq1).cs 2 _ rfl
  have l3 := (hq1).cs 3 _ rfl
  have o0 := (hq2).cs 0 _ rfl
  have o1 := (hq2).cs 1 _ rfl
  have o2 := (hq2).cs 2 _ rfl
  have o3 := (hq2).cs 3 _ rfl
  have o4 := (hq2).cs 4 _ rfl
  have o5 := (hq2).cs 5 _ rfl
  have o6 := (hq2).cs 6 _ rfl
  clear hq1 hq2
  go_wp2_with fail
  refine Calls.mono (HDO.out _ (Below.next HC.out.2.2.2 HK3.out)) ?_; rintro e w5 ⟨b0, m0, d0, b1, m1, d1, b2, m2, d2, rfl, hl0, hl1, hl2, hli, hcp, k5, hsr⟩
  obtain ⟨W6, hW6⟩ : ∃ W6, w5.alloc (.cells #[.slice b0 m0 d0, .slice b1 m1 d1, .slice b2 m2 d2, .int .i64 M.ops] 26) = W6 := ⟨_, rfl⟩
  obtain ⟨Bn, hBn⟩ : ∃ Bn, w5.heap.size = Bn := ⟨_, rfl⟩
  have hk6 : Below W.heap.size W W6 := by rw [← hW6]; exact Below.next (Below.next HK3.out k5) (below1 _ _)
  have HK6 : Hid (Below W.heap.size W W6) := hk6
  have hnb : CellsF W6 Bn [.slice b0 m0 d0, .slice b1 m1 d1, .slice b2 m2 d2, .int .i64 M.ops] := by rw [← hW6, ← hBn]; exact CellsF.at _ 26 (by simp) rfl
  have HLI : Hid (M.S.length = m0 ∧ M.H.length = m1 ∧ M.M.length = m2 ∧ Lies W6 b0 b1 b2 M ∧ m1 ≤ d1 ∧ SrcL w a0 a1 a2 L b0 b1 b2 M ∧ NotAt (w.heap.size + 1 + 1) b0 b1 b2 M ∧ NotAt Bn b0 b1 b2 M ∧ (w.heap.size + 1 + 1) < Bn ∧ CellsF W6 Bn [.slice b0 m0 d0, .slice b1 m1 d1, .slice b2 m2 d2, .int .i64 M.ops]) := by
    have hsz : (w.heap.size + 1 + 1) < w3.heap.size := Nat.lt_of_lt_of_le HC.out.2.2.1.lt HK3.out.size
    refine ⟨hl0, hl1, hl2, ?_, hcp, hsr.mono (Nat.le_trans HC.out.2.2.2.size HK3.out.size), hsr.not hsz HNA.out, ?_, ?_, hnb⟩
    · rw [← hW6]; exact hli.next (below1 _ _)
    · exact notAt_of hli (by omega)
    · have := k5.size; omega
  have q0 := (hnb).cs 0 _ rfl
  have q1 := (hnb).cs 1 _ rfl
  have q2 := (hnb).cs 2 _ rfl
  have q3 := (hnb).cs 3 _ rfl
  have f0 := (hnb).fz 0
  have f1 := (hnb).fz 1
  have f2 := (hnb).fz 2
  have f3 := (hnb).fz 3
  clear hl0 hl1 hl2 hli hcp k5 hsr hk6 hnb l0 l1 l2 l3 o0 o1 o2 o3 o4 o5 o6
  have hq1 := HC.out.1.next HK6.out
  have hq2 := HC.out.2.1.next HK6.out
  have l0 := (hq1).cs 0 _ rfl
  have l1 := (hq1).cs 1 _ rfl
  have l2 := (hq1).cs 2 _ rfl
  have l3 := (hq1).cs 3 _ rfl
  have o0 := (hq2).cs 0 _ rfl
  have o1 := (hq2).cs 1 _ rfl
  have o2 := (hq2).cs 2 _ rfl
  have o3 := (hq2).cs 3 _ rfl
  have o4 := (hq2).cs 4 _ rfl
  have o5 := (hq2).cs 5 _ rfl
  have o6 := (hq2).cs 6 _ rfl
  clear hq1 hq2
  go_wp2_with fail
  refine Calls.mono (HFU.out _ _ _ _ _ _ _ _ _ _ _ HLI.out.1 HLI.out.2.1 HLI.out.2.2.1) ?_; rintro e w7 ⟨rfl, k7⟩
  have HK7 : Hid (Below W.heap.size W w7) := Below.next HK6.out k7
  have HN7 : Hid (CellsF w7 Bn [.slice b0 m0 d0, .slice b1 m1 d1, .slice b2 m2 d2, .int .i64 M.ops] ∧ Lies w7 b0 b1 b2 M) := ⟨HLI.out.2.2.2.2.2.2.2.2.2.next k7, HLI.out.2.2.2.1.next k7⟩
  clear k7 l0 l1 l2 l3 o0 o1 o2 o3 o4 o5 o6 q0 q1 q2 q3 f0 f1 f2 f3 hW6 hBn
  have hq1 := HC.out.1.next HK7.out
  have hq2 := HC.out.2.1.next HK7.out
  have l0 := (hq1).cs 0 _ rfl
  have l1 := (hq1).cs 1 _ rfl
  have l2 := (hq1).cs 2 _ rfl
  have l3 := (hq1).cs 3 _ rfl
  have o0 := (hq2).cs 0 _ rfl
  have o1 := (hq2).cs 1 _ rfl
  have o2 := (hq2).cs 2 _ rfl
  have o3 := (hq2).cs 3 _ rfl
  have o4 := (hq2).cs 4 _ rfl
  have o5 := (hq2).cs 5 _ rfl
  have o6 := (hq2).cs 6 _ rfl
  clear hq1 hq2
  have hz4 := HC.out.2.2.1.next HK7.out
  have HCZ : Hid (CellsF w7 (w.heap.size + 1 + 1) [.slice none 0 0, .slice none 0 0, .slice none 0 0, .int .i64 0]) := hz4
  have HFIN : Hid (∀ u0 u1 u2 u3, Below w.heap.size w ((((w7.setCell ⟨(w.heap.size + 1 + 1), 0, none⟩ u0).setCell ⟨(w.heap.size + 1 + 1), 1, none⟩ u1).setCell ⟨(w.heap.size + 1 + 1), 2, none⟩ u2).setCell ⟨(w.heap.size + 1 + 1), 3, none⟩ u3)) := fun u0 u1 u2 u3 => below_four (Below.next HC.out.2.2.2 HK7.out) _ (by omega) _ _ _ _
  have z0 := (hz4).cs 0 _ rfl
  have z1 := (hz4).cs 1 _ rfl
  have z2 := (hz4).cs 2 _ rfl
  have z3 := (hz4).cs 3 _ rfl
  have g0 := (hz4).fz 0
  have g1 := (hz4).fz 1
  have g2 := (hz4).fz 2
  have g3 := (hz4).fz 3
  clear hz4
  go_wp2_with fail
  try simp only [Exit.inBlock, Exit.then]
  refine bodyPost_ret (end_cell_tmp rfl rfl (loadLed _ (HCZ.out.four rfl _ _ _ _) rfl)) rfl ?_
  exact ⟨rfl, HFIN.out _ _ _ _⟩
set_option maxHeartbeats 4000000 in
theorem rapply_yes (a0 : Option Addr) (n0 c0 : Nat) (a1 : Option Addr) (n1 c1 : Nat) (a2 : Option Addr) (n2 c2 : Nat) (ops : Int) (L : Led) (ok : Int) (osk ol ot : ByteArray) (oq id od : Int) (w : World) (hmy : ∀ w', Below w.heap.size w w' → Calls Try.prog 18 #[.agg #[.slice a0 n0 c0, .slice a1 n1 c1, .slice a2 n2 c2, .int .i64 ops]] w' fun e w'' => e = .returned (.bool true) ∧ Below w'.heap.size w' w'') (hma : ∀ w', Calls Try.prog 27 #[.agg #[.int .i64 ok, .string osk, .string ol, .string ot, .int .i64 oq, .int .i64 id, .int .i64 od]] w' fun e w'' => e = .returned (.bool true) ∧ Below w'.heap.size w' w'') (M : Led) (hdo : ∀ w', Below w.heap.size w w' → Calls Try.prog 28 #[.agg #[.slice a0 n0 c0, .slice a1 n1 c1, .slice a2 n2 c2, .int .i64 ops], .agg #[.int .i64 ok, .string osk, .string ol, .string ot, .int .i64 oq, .int .i64 id, .int .i64 od]] w' fun e w'' => LeP a0 a1 a2 L w' w'' M 0 e) (hfu : ∀ w' b0 m0 d0 b1 m1 d1 b2 m2 d2 ops', M.S.length = m0 → M.H.length = m1 → M.M.length = m2 → Calls Try.prog 29 #[.agg #[.slice b0 m0 d0, .slice b1 m1 d1, .slice b2 m2 d2, .int .i64 ops']] w' fun e w'' => e = .returned (.bool false) ∧ Below w'.heap.size w' w'') (hmany : ¬ 4611686018427387904 ≤ ops) (hpos : 0 ≤ ops) (hr : Lies w a0 a1 a2 L) (hops : L.ops = ops) (h0 : L.S.length = n0) (h1 : L.H.length = n1) (h2 : L.M.length = n2) (hcap : n1 ≤ c1) :
    Calls Try.prog 12 #[.agg #[.slice a0 n0 c0, .slice a1 n1 c1, .slice a2 n2 c2, .int .i64 ops], .agg #[.int .i64 ok, .string osk, .string ol, .string ot, .int .i64 oq, .int .i64 id, .int .i64 od]] w fun e w' => LeP a0 a1 a2 L w w' { M with ops := ops + 1 } 0 e := by
  have HMY : Hid _ := hmy
  have HMA : Hid _ := hma
  have HDO : Hid _ := hdo
  have HFU : Hid _ := hfu
  obtain ⟨W, hW⟩ : ∃ W, ((w.alloc (.cells #[.slice a0 n0 c0, .slice a1 n1 c1, .slice a2 n2 c2, .int .i64 ops] 26)).alloc (.cells #[.int .i64 ok, .string osk, .string ol, .string ot, .int .i64 oq, .int .i64 id, .int .i64 od] 28)).alloc (.cells #[.slice none 0 0, .slice none 0 0, .slice none 0 0, .int .i64 0] 26) = W := ⟨_, rfl⟩
  have HC : Hid (CellsF W w.heap.size [.slice a0 n0 c0, .slice a1 n1 c1, .slice a2 n2 c2, .int .i64 ops] ∧ CellsF W (w.heap.size + 1) [.int .i64 ok, .string osk, .string ol, .string ot, .int .i64 oq, .int .i64 id, .int .i64 od] ∧ CellsF W (w.heap.size + 1 + 1) [.slice none 0 0, .slice none 0 0, .slice none 0 0, .int .i64 0] ∧ Below w.heap.size w W) := by
    show _ ∧ _
    rw [← hW]
    exact ⟨((CellsF.at _ 26 (by simp) rfl).next (below1 _ _)).next (below1 _ _), (CellsF.at _ 28 (by simp) (by rw [size_alloc])).next (below1 _ _), CellsF.at _ 26 (by simp) (by rw [size_alloc, size_alloc]), below3 _ _ _ _⟩
  have HL : Hid (L.ops = ops ∧ L.S.length = n0 ∧ L.H.length = n1 ∧ L.M.length = n2 ∧ n1 ≤ c1) := ⟨hops, h0, h1, h2, hcap⟩
  have HNA : Hid (NotAt (w.heap.size + 1 + 1) a0 a1 a2 L) := notAt_of hr (by omega)
  have HR : Hid (Lies w a0 a1 a2 L) := hr
  have l0 := (HC.out.1).cs 0 _ rfl
  have l1 := (HC.out.1).cs 1 _ rfl
  have l2 := (HC.out.1).cs 2 _ rfl
  have l3 := (HC.out.1).cs 3 _ rfl
  have o0 := (HC.out.2.1).cs 0 _ rfl
  have o1 := (HC.out.2.1).cs 1 _ rfl
  have o2 := (HC.out.2.1).cs 2 _ rfl
  have o3 := (HC.out.2.1).cs 3 _ rfl
  have o4 := (HC.out.2.1).cs 4 _ rfl
  have o5 := (HC.out.2.1).cs 5 _ rfl
  have o6 := (HC.out.2.1).cs 6 _ rfl
  clear hr hmy hma hdo hfu hops h0 h1 h2 hcap
  go_enter Try.func12, Try.ntmps12
  go_wp2_with fail
  try rw [hW]
  go_wp2_with fail
  refine Calls.mono (HMY.out _ HC.out.2.2.2) ?_; rintro e w2 ⟨rfl, k2⟩
  have HK2 : Hid (Below W.heap.size W w2) := k2
  clear k2 hW l0 l1 l2 l3 o0 o1 o2 o3 o4 o5 o6
  have hq1 := HC.out.1.next HK2.out
  have hq2 := HC.out.2.1.next HK2.out
  have l0 := (hq1).cs 0 _ rfl
  have l1 := (hq1).cs 1 _ rfl
  have l2 := (hq1).cs 2 _ rfl
  have l3 := (hq1).cs 3 _ rfl
  have o0 := (hq2).cs 0 _ rfl
  have o1 := (hq2).cs 1 _ rfl
  have o2 := (hq2).cs 2 _ rfl
  have o3 := (hq2).cs 3 _ rfl
  have o4 := (hq2).cs 4 _ rfl
  have o5 := (hq2).cs 5 _ rfl
  have o6 := (hq2).cs 6 _ rfl
  clear hq1 hq2
  go_wp2_with fail
  refine Calls.mono (HMA.out _) ?_; rintro e w3 ⟨rfl, k3⟩
  have HK3 : Hid (Below W.heap.size W w3) := Below.next HK2.out k3
  clear k3 l0 l1 l2 l3 o0 o1 o2 o3 o4 o5 o6
  have hq1 := HC.out.1.next HK3.out
  have hq2 := HC.out.2.1.next HK3.out
  have l0 := (hq1).cs 0 _ rfl
  have l1 := (hq1).cs 1 _ rfl
  have l2 := (hq1).cs 2 _ rfl
  have l3 := (hq1).cs 3 _ rfl
  have o0 := (hq2).cs 0 _ rfl
  have o1 := (hq2).cs 1 _ rfl
  have o2 := (hq2).cs 2 _ rfl
  have o3 := (hq2).cs 3 _ rfl
  have o4 := (hq2).cs 4 _ rfl
  have o5 := (hq2).cs 5 _ rfl
  have o6 := (hq2).cs 6 _ rfl
  clear hq1 hq2
  go_wp2_with fail
  refine Calls.mono (HDO.out _ (Below.next HC.out.2.2.2 HK3.out)) ?_; rintro e w5 ⟨b0, m0, d0, b1, m1, d1, b2, m2, d2, rfl, hl0, hl1, hl2, hli, hcp, k5, hsr⟩
  obtain ⟨W6, hW6⟩ : ∃ W6, w5.alloc (.cells #[.slice b0 m0 d0, .slice b1 m1 d1, .slice b2 m2 d2, .int .i64 M.ops] 26) = W6 := ⟨_, rfl⟩
  obtain ⟨Bn, hBn⟩ : ∃ Bn, w5.heap.size = Bn := ⟨_, rfl⟩
  have hk6 : Below W.heap.size W W6 := by rw [← hW6]; exact Below.next (Below.next HK3.out k5) (below1 _ _)
  have HK6 : Hid (Below W.heap.size W W6) := hk6
  have hnb : CellsF W6 Bn [.slice b0 m0 d0, .slice b1 m1 d1, .slice b2 m2 d2, .int .i64 M.ops] := by rw [← hW6, ← hBn]; exact CellsF.at _ 26 (by simp) rfl
  have HLI : Hid (M.S.length = m0 ∧ M.H.length = m1 ∧ M.M.length = m2 ∧ Lies W6 b0 b1 b2 M ∧ m1 ≤ d1 ∧ SrcL w a0 a1 a2 L b0 b1 b2 M ∧ NotAt (w.heap.size + 1 + 1) b0 b1 b2 M ∧ NotAt Bn b0 b1 b2 M ∧ (w.heap.size + 1 + 1) < Bn ∧ CellsF W6 Bn [.slice b0 m0 d0, .slice b1 m1 d1, .slice b2 m2 d2, .int .i64 M.ops]) := by
    have hsz : (w.heap.size + 1 + 1) < w3.heap.size := Nat.lt_of_lt_of_le HC.out.2.2.1.lt HK3.out.size
    refine ⟨hl0, hl1, hl2, ?_, hcp, hsr.mono (Nat.le_trans HC.out.2.2.2.size HK3.out.size), hsr.not hsz HNA.out, ?_, ?_, hnb⟩
    · rw [← hW6]; exact hli.next (below1 _ _)
    · exact notAt_of hli (by omega)
    · have := k5.size; omega
  have q0 := (hnb).cs 0 _ rfl
  have q1 := (hnb).cs 1 _ rfl
  have q2 := (hnb).cs 2 _ rfl
  have q3 := (hnb).cs 3 _ rfl
  have f0 := (hnb).fz 0
  have f1 := (hnb).fz 1
  have f2 := (hnb).fz 2
  have f3 := (hnb).fz 3
  clear hl0 hl1 hl2 hli hcp k5 hsr hk6 hnb l0 l1 l2 l3 o0 o1 o2 o3 o4 o5 o6
  have hq1 := HC.out.1.next HK6.out
  have hq2 := HC.out.2.1.next HK6.out
  have l0 := (hq1).cs 0 _ rfl
  have l1 := (hq1).cs 1 _ rfl
  have l2 := (hq1).cs 2 _ rfl
  have l3 := (hq1).cs 3 _ rfl
  have o0 := (hq2).cs 0 _ rfl
  have o1 := (hq2).cs 1 _ rfl
  have o2 := (hq2).cs 2 _ rfl
  have o3 := (hq2).cs 3 _ rfl
  have o4 := (hq2).cs 4 _ rfl
  have o5 := (hq2).cs 5 _ rfl
  have o6 := (hq2).cs 6 _ rfl
  clear hq1 hq2
  go_wp2_with fail
  refine Calls.mono (HFU.out _ _ _ _ _ _ _ _ _ _ _ HLI.out.1 HLI.out.2.1 HLI.out.2.2.1) ?_; rintro e w7 ⟨rfl, k7⟩
  have HK7 : Hid (Below W.heap.size W w7) := Below.next HK6.out k7
  have HN7 : Hid (CellsF w7 Bn [.slice b0 m0 d0, .slice b1 m1 d1, .slice b2 m2 d2, .int .i64 M.ops] ∧ Lies w7 b0 b1 b2 M) := ⟨HLI.out.2.2.2.2.2.2.2.2.2.next k7, HLI.out.2.2.2.1.next k7⟩
  clear k7 l0 l1 l2 l3 o0 o1 o2 o3 o4 o5 o6 q0 q1 q2 q3 f0 f1 f2 f3 hW6 hBn
  have hq1 := HC.out.1.next HK7.out
  have hq2 := HC.out.2.1.next HK7.out
  have l0 := (hq1).cs 0 _ rfl
  have l1 := (hq1).cs 1 _ rfl
  have l2 := (hq1).cs 2 _ rfl
  have l3 := (hq1).cs 3 _ rfl
  have o0 := (hq2).cs 0 _ rfl
  have o1 := (hq2).cs 1 _ rfl
  have o2 := (hq2).cs 2 _ rfl
  have o3 := (hq2).cs 3 _ rfl
  have o4 := (hq2).cs 4 _ rfl
  have o5 := (hq2).cs 5 _ rfl
  have o6 := (hq2).cs 6 _ rfl
  clear hq1 hq2
  have hn7 := HN7.out.1
  have hc7 := HC.out.2.2.1.next HK7.out
  obtain ⟨Y, hY⟩ : ∃ Y, w7.setCell ⟨Bn, 3, none⟩ (.int .i64 (ops + 1)) = Y := ⟨_, rfl⟩
  have hlt := HLI.out.2.2.2.2.2.2.2.2.1
  have HY : Hid (CellsF Y Bn [.slice b0 m0 d0, .slice b1 m1 d1, .slice b2 m2 d2, .int .i64 (ops + 1)] ∧ CellsF Y (w.heap.size + 1 + 1) [.slice none 0 0, .slice none 0 0, .slice none 0 0, .int .i64 0] ∧ Lies Y b0 b1 b2 M ∧ Below w.heap.size w Y) := by
    show _ ∧ _
    rw [← hY]
    have hnn := HLI.out.2.2.2.2.2.2.2.1
    have hfar : ∀ {g : Nat}, g ≠ Bn → (w7.setCell ⟨Bn, 3, none⟩ (.int .i64 (ops + 1))).heap[g]? = w7.heap[g]? := fun hg => Below.heap_setCell _ _ _ _ hg
    refine ⟨hn7.set 3 _ (by simp), hc7.far (hfar (by omega)), ⟨HN7.out.2.S.far (fun b' o' e hne => hfar (hnn.S hne b' o' e)), HN7.out.2.H.far (fun b' o' e hne => hfar (hnn.H hne b' o' e)), HN7.out.2.M.far (fun b' o' e hne => hfar (hnn.M hne b' o' e))⟩, below_set (Below.next HC.out.2.2.2 HK7.out) _ _ _ (by omega)⟩
  have HFIN : Hid (∀ u0 u1 u2 u3, Lies ((((Y.setCell ⟨(w.heap.size + 1 + 1), 0, none⟩ u0).setCell ⟨(w.heap.size + 1 + 1), 1, none⟩ u1).setCell ⟨(w.heap.size + 1 + 1), 2, none⟩ u2).setCell ⟨(w.heap.size + 1 + 1), 3, none⟩ u3) b0 b1 b2 { M with ops := ops + 1 } ∧ Below w.heap.size w ((((Y.setCell ⟨(w.heap.size + 1 + 1), 0, none⟩ u0).setCell ⟨(w.heap.size + 1 + 1), 1, none⟩ u1).setCell ⟨(w.heap.size + 1 + 1), 2, none⟩ u2).setCell ⟨(w.heap.size + 1 + 1), 3, none⟩ u3)) := fun u0 u1 u2 u3 => by
    have h9 := HY.out.2.2.1.four HLI.out.2.2.2.2.2.2.1 u0 u1 u2 u3
    exact ⟨⟨h9.S, h9.H, h9.M⟩, below_four HY.out.2.2.2 _ (by omega) _ _ _ _⟩
  have HSR : Hid (SrcL w a0 a1 a2 L b0 b1 b2 { M with ops := ops + 1 }) := ⟨HLI.out.2.2.2.2.2.1.S, HLI.out.2.2.2.2.2.1.H, HLI.out.2.2.2.2.2.1.M⟩
  have HCZ : Hid (CellsF Y (w.heap.size + 1 + 1) [.slice none 0 0, .slice none 0 0, .slice none 0 0, .int .i64 0]) := HY.out.2.1
  have n0 := (hn7).cs 0 _ rfl
  have n1 := (hn7).cs 1 _ rfl
  have n2 := (hn7).cs 2 _ rfl
  have n3 := (hn7).cs 3 _ rfl
  have nf0 := (hn7).fz 0
  have nf1 := (hn7).fz 1
  have nf2 := (hn7).fz 2
  have nf3 := (hn7).fz 3
  have y0 := (HY.out.1).cs 0 _ rfl
  have y1 := (HY.out.1).cs 1 _ rfl
  have y2 := (HY.out.1).cs 2 _ rfl
  have y3 := (HY.out.1).cs 3 _ rfl
  have z0 := (HY.out.2.1).cs 0 _ rfl
  have z1 := (HY.out.2.1).cs 1 _ rfl
  have z2 := (HY.out.2.1).cs 2 _ rfl
  have z3 := (HY.out.2.1).cs 3 _ rfl
  have g0 := (HY.out.2.1).fz 0
  have g1 := (HY.out.2.1).fz 1
  have g2 := (HY.out.2.1).fz 2
  have g3 := (HY.out.2.1).fz 3
  clear hn7 hc7 hlt
  go_wp2_with fail
  try simp only [Exit.inBlock, Exit.then]
  refine bodyPost_ret (end_cell_tmp rfl rfl (loadLed _ (HCZ.out.four rfl _ _ _ _) rfl)) rfl ?_
  exact ⟨_, _, _, _, _, _, _, _, _, rfl, HLI.out.1, HLI.out.2.1, HLI.out.2.2.1, (HFIN.out _ _ _ _).1, HLI.out.2.2.2.2.1, (HFIN.out _ _ _ _).2, HSR.out⟩
end Go.Proofs.Ytflbcheofmljeaa

namespace Go.Proofs.Ytflbcheofmljeaa
open Go.ChangeShapes Go.WideShapes Go.RowKit
set_option linter.unusedVariables false
set_option maxRecDepth 100000

/-- The ledger that Apply answers. -/
def apR (L : Led) (o : Opn) : Led := if apE L o = 0 then doL L o else noL
theorem apE_may {L : Led} {o : Opn} (h : apE L o = 0) : mayL L ∧ doE L o = 0 := by
  unfold apE at h
  by_cases hm : mayL L
  · rw [if_pos hm] at h; exact ⟨hm, h⟩
  · rw [if_neg hm] at h; omega
theorem apR_len {L : Led} (hf : L.fit) {o : Opn} (ho : o.fit) : (apR L o).S.length ≤ 4096 ∧ (apR L o).H.length ≤ 4096 ∧ (apR L o).M.length ≤ 4096 := by
  unfold apR
  by_cases h : apE L o = 0
  · rw [if_pos h]
    obtain ⟨hm, h2⟩ := apE_may h
    exact lens (do_may hm hf ho h2).1
  · rw [if_neg h]
    exact lens no_may
/-- What the document's Apply answers. -/
def RaP (w w' : World) (L : Led) (o : Opn) (e : Ending) : Prop :=
  ∃ b0 m0 d0 b1 m1 d1 b2 m2 d2, e = .returned (.tuple #[.agg #[.slice b0 m0 d0, .slice b1 m1 d1, .slice b2 m2 d2, .int .i64 (apR L o).ops], .int .i64 (apE L o)]) ∧ (apR L o).S.length = m0 ∧ (apR L o).H.length = m1 ∧ (apR L o).M.length = m2 ∧ Lies w' b0 b1 b2 (apR L o) ∧ Below w.heap.size w w'
theorem RaP.no {w w' : World} {L : Led} {o : Opn} {e : Ending} {err : Int} (h1 : apE L o = err) (h2 : ¬ err = 0) (h3 : e = .returned (.tuple #[.agg #[.slice none 0 0, .slice none 0 0, .slice none 0 0, .int .i64 0], .int .i64 err]) ∧ Below w.heap.size w w') : RaP w w' L o e := by
  have hr : apR L o = noL := if_neg (by rw [h1]; exact h2)
  unfold RaP
  rw [hr, h1]
  exact ⟨none, 0, 0, none, 0, 0, none, 0, 0, h3.1, rfl, rfl, rfl, (RArgs.no w').li, h3.2⟩
theorem RaP.yes {w w' : World} {L : Led} {o : Opn} {e : Ending} {a0 a1 a2 : Option Addr} (h1 : apE L o = 0) (h3 : LeP a0 a1 a2 L w w' (doL L o) 0 e) : RaP w w' L o e := by
  have hr : apR L o = doL L o := if_pos h1
  obtain ⟨b0, m0, d0, b1, m1, d1, b2, m2, d2, q1, q2, q3, q4, q5, q6, q7, q8⟩ := h3
  unfold RaP
  rw [hr, h1]
  exact ⟨b0, m0, d0, b1, m1, d1, b2, m2, d2, q1, q2, q3, q4, q5, q7⟩
theorem rapply_is {w : World} {a0 : Option Addr} {n0 c0 : Nat} {a1 : Option Addr} {n1 c1 : Nat} {a2 : Option Addr} {n2 c2 : Nat} {L : Led} (h : RArgs w a0 n0 c0 a1 n1 c1 a2 n2 c2 L) (m0 : n0 ≤ 4096) (m1 : n1 ≤ 4096) (m2 : n2 ≤ 4096) (hf : L.fit) (o : Opn) (ho : o.fit) :
    Calls Try.prog 12 #[.agg #[.slice a0 n0 c0, .slice a1 n1 c1, .slice a2 n2 c2, .int .i64 L.ops], oval o] w fun e w' => RaP w w' L o e := by
  have hma : ∀ w', Calls Try.prog 27 #[oval o] w' fun e w'' => e = .returned (.bool (decide o.may)) ∧ Below w'.heap.size w' w'' := fun w' => refMayO_is o.k o.sku o.loc (Opn.to o) o.qty o.id o.due w'
  by_cases hm : mayL L
  · have hmy : ∀ w', Below w.heap.size w w' → Calls Try.prog 18 #[.agg #[.slice a0 n0 c0, .slice a1 n1 c1, .slice a2 n2 c2, .int .i64 L.ops]] w' fun e w'' => e = .returned (.bool true) ∧ Below w'.heap.size w' w'' := fun w' b => refMay_yes a0 n0 c0 a1 n1 c1 a2 n2 c2 L h.h0 h.h1 h.h2 (by omega) (by omega) (by omega) hf hm w' (h.li.next b)
    have ea : apE L o = doE L o := if_pos hm
    by_cases hom : o.may
    · rw [decide_eq_true hom] at hma
      have hdo : ∀ w', Below w.heap.size w w' → Calls Try.prog 28 #[.agg #[.slice a0 n0 c0, .slice a1 n1 c1, .slice a2 n2 c2, .int .i64 L.ops], oval o] w' fun e w'' => LeP a0 a1 a2 L w' w'' (rL L o) (rE L o) e := fun w' b => rdoes_is (h.next b) hm hf o ho hom
      by_cases hz : rE L o = 0
      · rw [rL_yes hz, hz] at hdo
        have he := err_yes hm hf hom hz
        by_cases hr : room (chL L o) 0 0 0
        · rw [if_pos hr] at he
          have hfu := full_of (M := chL L o) (b := false) (decide_eq_false (fun e => e hr))
          by_cases hmany : 4611686018427387904 ≤ L.ops
          · have e1 : doE L o = 2 := by unfold doE; rw [if_pos hom, if_pos he, if_pos hmany]
            exact (rapply_many a0 n0 c0 a1 n1 c1 a2 n2 c2 L.ops L o.k o.sku o.loc (Opn.to o) o.qty o.id o.due w hmy hma _ hdo hfu hmany h.li rfl h.h0 h.h1 h.h2 h.cap).mono fun e w' q => RaP.no (ea.trans e1) (by decide) q
          · have e1 : doE L o = 0 := by unfold doE; rw [if_pos hom, if_pos he, if_neg hmany]
            exact (rapply_yes a0 n0 c0 a1 n1 c1 a2 n2 c2 L.ops L o.k o.sku o.loc (Opn.to o) o.qty o.id o.due w hmy hma _ hdo hfu hmany hm.ops h.li rfl h.h0 h.h1 h.h2 h.cap).mono fun e w' q => RaP.yes (ea.trans e1) q
        · rw [if_neg hr] at he
          have hfu := full_of (M := chL L o) (b := true) (decide_eq_true hr)
          have e1 : doE L o = 2 := by unfold doE; rw [if_pos hom, he, if_neg (by decide)]
          exact (rapply_full a0 n0 c0 a1 n1 c1 a2 n2 c2 L.ops L o.k o.sku o.loc (Opn.to o) o.qty o.id o.due w hmy hma _ hdo hfu h.li rfl h.h0 h.h1 h.h2 h.cap).mono fun e w' q => RaP.no (ea.trans e1) (by decide) q
      · have he := err_no hm hf hom hz
        have e1 : doE L o = rE L o := by unfold doE; rw [if_pos hom, he, if_neg hz]
        exact (rapply_no a0 n0 c0 a1 n1 c1 a2 n2 c2 L.ops L o.k o.sku o.loc (Opn.to o) o.qty o.id o.due w hmy hma _ _ hz hdo h.li rfl h.h0 h.h1 h.h2 h.cap).mono fun e w' q => RaP.no (ea.trans e1) hz q
    · rw [decide_eq_false hom] at hma
      have e1 : doE L o = 1 := by unfold doE; rw [if_neg hom]
      exact (rapply_arg a0 n0 c0 a1 n1 c1 a2 n2 c2 L.ops L o.k o.sku o.loc (Opn.to o) o.qty o.id o.due w hmy hma h.li rfl h.h0 h.h1 h.h2 h.cap).mono fun e w' q => RaP.no (ea.trans e1) (by decide) q
  · have hmy : ∀ w', Below w.heap.size w w' → Calls Try.prog 18 #[.agg #[.slice a0 n0 c0, .slice a1 n1 c1, .slice a2 n2 c2, .int .i64 L.ops]] w' fun e w'' => e = .returned (.bool false) ∧ Below w'.heap.size w' w'' := fun w' b => refMay_no a0 n0 c0 a1 n1 c1 a2 n2 c2 L h.h0 h.h1 h.h2 m0 m1 m2 hf hm w' (h.li.next b)
    have ea : apE L o = 1 := if_neg hm
    exact (rapply_not a0 n0 c0 a1 n1 c1 a2 n2 c2 L.ops L o.k o.sku o.loc (Opn.to o) o.qty o.id o.due w hmy h.li rfl h.h0 h.h1 h.h2 h.cap).mono fun e w' q => RaP.no ea (by decide) q
theorem apply_as {w : World} {a0 : Option Addr} {n0 c0 : Nat} {a1 : Option Addr} {n1 c1 : Nat} {a2 : Option Addr} {n2 c2 : Nat} {L : Led} (h : RArgs w a0 n0 c0 a1 n1 c1 a2 n2 c2 L) (m0 : n0 ≤ 4096) (m1 : n1 ≤ 4096) (m2 : n2 ≤ 4096) (z0 : a0 = none → n0 = 0 ∧ c0 = 0) (z1 : a1 = none → n1 = 0 ∧ c1 = 0) (z2 : a2 = none → n2 = 0 ∧ c2 = 0) (hf : L.fit) (o : Opn) (ho : o.fit) :
    Calls Try.prog 11 #[.agg #[.slice a0 n0 c0, .slice a1 n1 c1, .slice a2 n2 c2, .int .i64 L.ops], oval o] w fun e w' => RaP w w' L o e := by
  refine (apply_is a0 n0 c0 a1 n1 c1 a2 n2 c2 L h.h0 h.h1 h.h2 (by omega) (by omega) (by omega) z0 z1 z2 hf o ho w h.li).mono fun e w' q => ?_
  rcases q with ⟨q1, q2, q3⟩ | ⟨q1, b0, m0', d0, b1, m1', d1, b2, m2', d2, q2, q3⟩
  · exact RaP.no rfl q1 ⟨q2, q3⟩
  · have hr : apR L o = doL L o := if_pos q1
    have hh := Have.of3 q3.S q3.H q3.M
    unfold RaP
    rw [hr, q1]
    exact ⟨b0, m0', d0, b1, m1', d1, b2, m2', d2, q2, hh.h0, hh.h1, hh.h2, hh.li, q3.bel⟩
theorem rcheck_is {w : World} {a0 : Option Addr} {n0 c0 : Nat} {a1 : Option Addr} {n1 c1 : Nat} {a2 : Option Addr} {n2 c2 : Nat} {L : Led} (h : RArgs w a0 n0 c0 a1 n1 c1 a2 n2 c2 L) (m0 : n0 ≤ 4096) (m1 : n1 ≤ 4096) (m2 : n2 ≤ 4096) (hf : L.fit) :
    Calls Try.prog 15 #[.agg #[.slice a0 n0 c0, .slice a1 n1 c1, .slice a2 n2 c2, .int .i64 L.ops]] w fun e w' => e = .returned (.int .i64 (if mayL L then 0 else 1)) ∧ Below w.heap.size w w' := by
  obtain ⟨W, hW⟩ : ∃ W, w.alloc (.cells #[.slice a0 n0 c0, .slice a1 n1 c1, .slice a2 n2 c2, .int .i64 L.ops] 26) = W := ⟨_, rfl⟩
  have hB : Below w.heap.size w W := hW ▸ below1 _ _
  have hL : CellsF W w.heap.size [.slice a0 n0 c0, .slice a1 n1 c1, .slice a2 n2 c2, .int .i64 L.ops] := by rw [← hW]; exact CellsF.at _ 26 (by simp) rfl
  have HB : Hid (Below w.heap.size w W) := hB
  have l0 := hL.cs 0 _ rfl
  have l1 := hL.cs 1 _ rfl
  have l2 := hL.cs 2 _ rfl
  have l3 := hL.cs 3 _ rfl
  by_cases hm : mayL L
  · have HM : Hid _ := refMay_yes a0 n0 c0 a1 n1 c1 a2 n2 c2 L h.h0 h.h1 h.h2 (by omega) (by omega) (by omega) hf hm W (h.li.next hB)
    rw [if_pos hm]
    clear hm hB hL h hf
    go_enter Try.func15, Try.ntmps15
    go_wp2_with fail
    try rw [hW]
    go_wp2_with fail
    refine Calls.mono HM.out ?_; rintro e w1 ⟨rfl, k1⟩
    have HB1 : Hid (Below w.heap.size w w1) := Below.next HB.out k1
    clear k1
    go_wp2_with fail
    go_ret
    exact ⟨rfl, HB1.out⟩
  · have HM : Hid _ := refMay_no a0 n0 c0 a1 n1 c1 a2 n2 c2 L h.h0 h.h1 h.h2 m0 m1 m2 hf hm W (h.li.next hB)
    rw [if_neg hm]
    clear hm hB hL h hf
    go_enter Try.func15, Try.ntmps15
    go_wp2_with fail
    try rw [hW]
    go_wp2_with fail
    refine Calls.mono HM.out ?_; rintro e w1 ⟨rfl, k1⟩
    have HB1 : Hid (Below w.heap.size w w1) := Below.next HB.out k1
    clear k1
    go_wp2_with fail
    go_ret
    exact ⟨rfl, HB1.out⟩
theorem light_yes (a0 : Option Addr) (n0 c0 : Nat) (a1 : Option Addr) (n1 c1 : Nat) (a2 : Option Addr) (n2 c2 : Nat) (ops : Int) (w : World) (h0 : (n0 : Int) ≤ 30) (h1 : (n1 : Int) ≤ 30) (h2 : (n2 : Int) ≤ 60) :
    Calls Try.prog 9 #[.agg #[.slice a0 n0 c0, .slice a1 n1 c1, .slice a2 n2 c2, .int .i64 ops]] w fun e w' => e = .returned (.bool true) ∧ Below w.heap.size w w' := by
  have HB : Hid (∀ z, Below w.heap.size w (w.alloc z)) := fun z => below1 _ _
  go_enter Try.func9, Try.ntmps9
  go_wp2_with fail
  go_ret
  exact ⟨rfl, HB.out _⟩
theorem light_no (a0 : Option Addr) (n0 c0 : Nat) (a1 : Option Addr) (n1 c1 : Nat) (a2 : Option Addr) (n2 c2 : Nat) (ops : Int) (w : World) (h : ¬ ((n0 : Int) ≤ 30 ∧ (n1 : Int) ≤ 30 ∧ (n2 : Int) ≤ 60)) :
    Calls Try.prog 9 #[.agg #[.slice a0 n0 c0, .slice a1 n1 c1, .slice a2 n2 c2, .int .i64 ops]] w fun e w' => e = .returned (.bool false) ∧ Below w.heap.size w w' := by
  have HB : Hid (∀ z, Below w.heap.size w (w.alloc z)) := fun z => below1 _ _
  by_cases h0 : (n0 : Int) ≤ 30
  · by_cases h1 : (n1 : Int) ≤ 30
    · have h2 : ¬ (n2 : Int) ≤ 60 := fun q => h ⟨h0, h1, q⟩
      clear h
      go_enter Try.func9, Try.ntmps9
      go_wp2_with fail
      go_ret
      exact ⟨rfl, HB.out _⟩
    · clear h
      go_enter Try.func9, Try.ntmps9
      go_wp2_with fail
      go_ret
      exact ⟨rfl, HB.out _⟩
  · clear h
    go_enter Try.func9, Try.ntmps9
    go_wp2_with fail
    go_ret
    exact ⟨rfl, HB.out _⟩
end Go.Proofs.Ytflbcheofmljeaa

namespace Go.Proofs.Ytflbcheofmljeaa
open Go.ChangeShapes Go.WideShapes Go.ChangeAt Go.RowKit
set_option linter.unusedVariables false
set_option maxRecDepth 100000

theorem cells_stk : Try.prog.cellsOf 50 = 4 := by kernel_rfl
theorem fields_stk : ∃ f0 f1 f2 f3 : Field, Try.prog.underlying 50 = some (.struct #[f0, f1, f2, f3]) ∧ (f0.type = 9 ∧ f0.offset = 0) ∧ (f1.type = 9 ∧ f1.offset = 1) ∧ (f2.type = 3 ∧ f2.offset = 2) ∧ (f3.type = 3 ∧ f3.offset = 3) :=
  ⟨_, _, _, _, Try.underlying50, ⟨rfl, rfl⟩, ⟨rfl, rfl⟩, ⟨rfl, rfl⟩, ⟨rfl, rfl⟩⟩
theorem open_stk {H : Type} {enc : TypeId × Value → H} {W : World} {fuel : Nat} {b o i : Nat} {cs : List Value} {x : DataW H × List MemPlace} (hlen : cs.length = 4) (hcell : ∀ j, j < 4 → W.cell? ((Addr.mk b o none).add (i * 4 + j)) = cs[j]?) (h2 : DataW.trod enc Try.prog W 0 (fun _ => true) true fuel 50 cs = some x) : ∃ y : Stk, y.fit ∧ StkAt W b (o + i * 4) y := by
  obtain ⟨f0, f1, f2, f3, hu, ⟨t0, o0⟩, ⟨t1, o1⟩, ⟨t2, o2⟩, ⟨t3, o3⟩⟩ := fields_stk
  obtain ⟨xs, k, _, _, _, hxl, hfs⟩ := DataW.trod_struct hu h2
  match xs, hxl, cs, hlen with
  | [y0, y1, y2, y3], _, [v0, v1, v2, v3], _ =>
    have g0 := hfs 0 f0 rfl
    simp [t0, o0, Try.cells9'] at g0
    obtain ⟨z0, e0, _, w0⟩ := DataW.trod_string Try.underlying9 g0
    have g1 := hfs 1 f1 rfl
    simp [t1, o1, Try.cells9'] at g1
    obtain ⟨z1, e1, _, w1⟩ := DataW.trod_string Try.underlying9 g1
    have g2 := hfs 2 f2 rfl
    simp [t2, o2, Try.cells3'] at g2
    obtain ⟨z2, e2, _, w2⟩ := DataW.trod_int Try.underlying3 g2
    have g3 := hfs 3 f3 rfl
    simp [t3, o3, Try.cells3'] at g3
    obtain ⟨z3, e3, _, w3⟩ := DataW.trod_int Try.underlying3 g3
    cases e0; cases e1; cases e2; cases e3
    have hc0 := hcell 0 (by omega)
    have hc1 := hcell 1 (by omega)
    have hc2 := hcell 2 (by omega)
    have hc3 := hcell 3 (by omega)
    rw [Go.WideShapes.add_plain] at hc0 hc1 hc2 hc3
    exact ⟨⟨z0, z1, z2, z3⟩, ⟨wf_i64 w2, wf_i64 w3⟩, ⟨hc0, by rw [Nat.add_assoc]; exact hc1, by rw [Nat.add_assoc]; exact hc2, by rw [Nat.add_assoc]; exact hc3⟩⟩
theorem cells_hld : Try.prog.cellsOf 44 = 6 := by kernel_rfl
theorem fields_hld : ∃ f0 f1 f2 f3 f4 f5 : Field, Try.prog.underlying 44 = some (.struct #[f0, f1, f2, f3, f4, f5]) ∧ (f0.type = 3 ∧ f0.offset = 0) ∧ (f1.type = 9 ∧ f1.offset = 1) ∧ (f2.type = 9 ∧ f2.offset = 2) ∧ (f3.type = 3 ∧ f3.offset = 3) ∧ (f4.type = 3 ∧ f4.offset = 4) ∧ (f5.type = 3 ∧ f5.offset = 5) :=
  ⟨_, _, _, _, _, _, Try.underlying44, ⟨rfl, rfl⟩, ⟨rfl, rfl⟩, ⟨rfl, rfl⟩, ⟨rfl, rfl⟩, ⟨rfl, rfl⟩, ⟨rfl, rfl⟩⟩
theorem open_hld {H : Type} {enc : TypeId × Value → H} {W : World} {fuel : Nat} {b o i : Nat} {cs : List Value} {x : DataW H × List MemPlace} (hlen : cs.length = 6) (hcell : ∀ j, j < 6 → W.cell? ((Addr.mk b o none).add (i * 6 + j)) = cs[j]?) (h2 : DataW.trod enc Try.prog W 0 (fun _ => true) true fuel 44 cs = some x) : ∃ y : Hld, y.fit ∧ HldAt W b (o + i * 6) y := by
  obtain ⟨f0, f1, f2, f3, f4, f5, hu, ⟨t0, o0⟩, ⟨t1, o1⟩, ⟨t2, o2⟩, ⟨t3, o3⟩, ⟨t4, o4⟩, ⟨t5, o5⟩⟩ := fields_hld
  obtain ⟨xs, k, _, _, _, hxl, hfs⟩ := DataW.trod_struct hu h2
  match xs, hxl, cs, hlen with
  | [y0, y1, y2, y3, y4, y5], _, [v0, v1, v2, v3, v4, v5], _ =>
    have g0 := hfs 0 f0 rfl
    simp [t0, o0, Try.cells3'] at g0
    obtain ⟨z0, e0, _, w0⟩ := DataW.trod_int Try.underlying3 g0
    have g1 := hfs 1 f1 rfl
    simp [t1, o1, Try.cells9'] at g1
    obtain ⟨z1, e1, _, w1⟩ := DataW.trod_string Try.underlying9 g1
    have g2 := hfs 2 f2 rfl
    simp [t2, o2, Try.cells9'] at g2
    obtain ⟨z2, e2, _, w2⟩ := DataW.trod_string Try.underlying9 g2
    have g3 := hfs 3 f3 rfl
    simp [t3, o3, Try.cells3'] at g3
    obtain ⟨z3, e3, _, w3⟩ := DataW.trod_int Try.underlying3 g3
    have g4 := hfs 4 f4 rfl
    simp [t4, o4, Try.cells3'] at g4
    obtain ⟨z4, e4, _, w4⟩ := DataW.trod_int Try.underlying3 g4
    have g5 := hfs 5 f5 rfl
    simp [t5, o5, Try.cells3'] at g5
    obtain ⟨z5, e5, _, w5⟩ := DataW.trod_int Try.underlying3 g5
    cases e0; cases e1; cases e2; cases e3; cases e4; cases e5
    have hc0 := hcell 0 (by omega)
    have hc1 := hcell 1 (by omega)
    have hc2 := hcell 2 (by omega)
    have hc3 := hcell 3 (by omega)
    have hc4 := hcell 4 (by omega)
    have hc5 := hcell 5 (by omega)
    rw [Go.WideShapes.add_plain] at hc0 hc1 hc2 hc3 hc4 hc5
    exact ⟨⟨z0, z1, z2, z3, z4, z5⟩, ⟨wf_i64 w0, wf_i64 w3, wf_i64 w4, wf_i64 w5⟩, ⟨hc0, by rw [Nat.add_assoc]; exact hc1, by rw [Nat.add_assoc]; exact hc2, by rw [Nat.add_assoc]; exact hc3, by rw [Nat.add_assoc]; exact hc4, by rw [Nat.add_assoc]; exact hc5⟩⟩
theorem cells_mov : Try.prog.cellsOf 42 = 6 := by kernel_rfl
theorem fields_mov : ∃ f0 f1 f2 f3 f4 f5 : Field, Try.prog.underlying 42 = some (.struct #[f0, f1, f2, f3, f4, f5]) ∧ (f0.type = 3 ∧ f0.offset = 0) ∧ (f1.type = 9 ∧ f1.offset = 1) ∧ (f2.type = 9 ∧ f2.offset = 2) ∧ (f3.type = 3 ∧ f3.offset = 3) ∧ (f4.type = 3 ∧ f4.offset = 4) ∧ (f5.type = 3 ∧ f5.offset = 5) :=
  ⟨_, _, _, _, _, _, Try.underlying42, ⟨rfl, rfl⟩, ⟨rfl, rfl⟩, ⟨rfl, rfl⟩, ⟨rfl, rfl⟩, ⟨rfl, rfl⟩, ⟨rfl, rfl⟩⟩
theorem open_mov {H : Type} {enc : TypeId × Value → H} {W : World} {fuel : Nat} {b o i : Nat} {cs : List Value} {x : DataW H × List MemPlace} (hlen : cs.length = 6) (hcell : ∀ j, j < 6 → W.cell? ((Addr.mk b o none).add (i * 6 + j)) = cs[j]?) (h2 : DataW.trod enc Try.prog W 0 (fun _ => true) true fuel 42 cs = some x) : ∃ y : Mov, y.fit ∧ MovAt W b (o + i * 6) y := by
  obtain ⟨f0, f1, f2, f3, f4, f5, hu, ⟨t0, o0⟩, ⟨t1, o1⟩, ⟨t2, o2⟩, ⟨t3, o3⟩, ⟨t4, o4⟩, ⟨t5, o5⟩⟩ := fields_mov
  obtain ⟨xs, k, _, _, _, hxl, hfs⟩ := DataW.trod_struct hu h2
  match xs, hxl, cs, hlen with
  | [y0, y1, y2, y3, y4, y5], _, [v0, v1, v2, v3, v4, v5], _ =>
    have g0 := hfs 0 f0 rfl
    simp [t0, o0, Try.cells3'] at g0
    obtain ⟨z0, e0, _, w0⟩ := DataW.trod_int Try.underlying3 g0
    have g1 := hfs 1 f1 rfl
    simp [t1, o1, Try.cells9'] at g1
    obtain ⟨z1, e1, _, w1⟩ := DataW.trod_string Try.underlying9 g1
    have g2 := hfs 2 f2 rfl
    simp [t2, o2, Try.cells9'] at g2
    obtain ⟨z2, e2, _, w2⟩ := DataW.trod_string Try.underlying9 g2
    have g3 := hfs 3 f3 rfl
    simp [t3, o3, Try.cells3'] at g3
    obtain ⟨z3, e3, _, w3⟩ := DataW.trod_int Try.underlying3 g3
    have g4 := hfs 4 f4 rfl
    simp [t4, o4, Try.cells3'] at g4
    obtain ⟨z4, e4, _, w4⟩ := DataW.trod_int Try.underlying3 g4
    have g5 := hfs 5 f5 rfl
    simp [t5, o5, Try.cells3'] at g5
    obtain ⟨z5, e5, _, w5⟩ := DataW.trod_int Try.underlying3 g5
    cases e0; cases e1; cases e2; cases e3; cases e4; cases e5
    have hc0 := hcell 0 (by omega)
    have hc1 := hcell 1 (by omega)
    have hc2 := hcell 2 (by omega)
    have hc3 := hcell 3 (by omega)
    have hc4 := hcell 4 (by omega)
    have hc5 := hcell 5 (by omega)
    rw [Go.WideShapes.add_plain] at hc0 hc1 hc2 hc3 hc4 hc5
    exact ⟨⟨z0, z1, z2, z3, z4, z5⟩, ⟨wf_i64 w0, wf_i64 w3, wf_i64 w4, wf_i64 w5⟩, ⟨hc0, by rw [Nat.add_assoc]; exact hc1, by rw [Nat.add_assoc]; exact hc2, by rw [Nat.add_assoc]; exact hc3, by rw [Nat.add_assoc]; exact hc4, by rw [Nat.add_assoc]; exact hc5⟩⟩
theorem open_stks {H : Type} {enc : TypeId × Value → H} {W : World} {fuel : Nat} {v : Value} {x : DataW H × List MemPlace} (h : DataW.trod enc Try.prog W 0 (fun _ => true) true fuel 22 [v] = some x) :
    ∃ (a1 : Option Addr) (len1 cap1 : Nat) (l : List Stk), v = .slice a1 len1 cap1 ∧ l.length = len1 ∧ len1 ≤ 9223372036854775807 ∧ len1 ≤ cap1 ∧ (a1 = none → len1 = 0 ∧ cap1 = 0) ∧ (∀ x, x ∈ l → x.fit) ∧ Rw stv 4 W a1 l := by
  rcases Deep.open_slice Try.underlying22 h with ⟨hcs, _⟩ | ⟨a, len, cap, m, n, D, Pl, hcs, _, hl, hm, hmm, _, hx⟩
  · simp at hcs
    subst hcs
    exact ⟨none, 0, 0, [], rfl, rfl, Nat.zero_le _, Nat.le_refl _, (fun _ => ⟨rfl, rfl⟩), (fun x hx => by cases hx), Rw.nil _ _ _ _⟩
  · simp at hcs
    subst hcs
    simp only [if_true] at hmm
    unfold maxLen at hm
    have hA : ∀ i, i < len → ∃ x : Stk, x.fit ∧ ∃ b o, a = ⟨b, o, none⟩ ∧ StkAt W b (o + i * 4) x := fun i hi => by
      have hspot : a.spot = none := by
        obtain ⟨cs, h1, _⟩ := hx 0 (by omega)
        rw [cells_stk] at h1
        obtain ⟨_, hlen, hcell⟩ := World.cells?_some h1
        have h0 := hcell 0 (by omega)
        rw [List.getElem?_eq_getElem (by omega)] at h0
        simpa [Addr.add] using World.cell?_spot h0
      obtain ⟨cs, h1, h2⟩ := hx i (by omega)
      rw [cells_stk] at h1
      obtain ⟨_, hlen, hcell⟩ := World.cells?_some h1
      obtain ⟨b, o, spot⟩ := a
      have hs : spot = none := hspot
      subst hs
      obtain ⟨y, hy, hat⟩ := open_stk (b := b) (o := o) (i := i) hlen (fun j hj => by have := hcell j hj; rw [Deep.add_add] at this; exact this) h2
      exact ⟨y, hy, b, o, rfl, hat⟩
    obtain ⟨l, hl1, hl2⟩ := gather len hA
    refine ⟨some a, len, cap, l, rfl, hl1, by omega, by omega, (fun e => by cases e), fun x hx => ?_, fun hne => ?_⟩
    · obtain ⟨i, hi, rfl⟩ := List.getElem_of_mem hx
      exact (hl2 i hi).1
    · have h0 : 0 < l.length := List.length_pos_iff.2 hne
      obtain ⟨_, b, o, rfl, _⟩ := hl2 0 h0
      refine ⟨b, o, rfl, fun i x hx j u hu => ?_⟩
      obtain ⟨hi, rfl⟩ := List.getElem?_eq_some_iff.1 hx
      obtain ⟨_, b', o', e, c0, c1, c2, c3⟩ := hl2 i hi
      cases e
      match j, hu with
      | 0, hu => cases hu; exact c0
      | 1, hu => cases hu; exact c1
      | 2, hu => cases hu; exact c2
      | 3, hu => cases hu; exact c3
theorem open_hlds {H : Type} {enc : TypeId × Value → H} {W : World} {fuel : Nat} {v : Value} {x : DataW H × List MemPlace} (h : DataW.trod enc Try.prog W 0 (fun _ => true) true fuel 23 [v] = some x) :
    ∃ (a1 : Option Addr) (len1 cap1 : Nat) (l : List Hld), v = .slice a1 len1 cap1 ∧ l.length = len1 ∧ len1 ≤ 9223372036854775807 ∧ len1 ≤ cap1 ∧ (a1 = none → len1 = 0 ∧ cap1 = 0) ∧ (∀ x, x ∈ l → x.fit) ∧ Rw hlv 6 W a1 l := by
  rcases Deep.open_slice Try.underlying23 h with ⟨hcs, _⟩ | ⟨a, len, cap, m, n, D, Pl, hcs, _, hl, hm, hmm, _, hx⟩
  · simp at hcs
    subst hcs
    exact ⟨none, 0, 0, [], rfl, rfl, Nat.zero_le _, Nat.le_refl _, (fun _ => ⟨rfl, rfl⟩), (fun x hx => by cases hx), Rw.nil _ _ _ _⟩
  · simp at hcs
    subst hcs
    simp only [if_true] at hmm
    unfold maxLen at hm
    have hA : ∀ i, i < len → ∃ x : Hld, x.fit ∧ ∃ b o, a = ⟨b, o, none⟩ ∧ HldAt W b (o + i * 6) x := fun i hi => by
      have hspot : a.spot = none := by
        obtain ⟨cs, h1, _⟩ := hx 0 (by omega)
        rw [cells_hld] at h1
        obtain ⟨_, hlen, hcell⟩ := World.cells?_some h1
        have h0 := hcell 0 (by omega)
        rw [List.getElem?_eq_getElem (by omega)] at h0
        simpa [Addr.add] using World.cell?_spot h0
      obtain ⟨cs, h1, h2⟩ := hx i (by omega)
      rw [cells_hld] at h1
      obtain ⟨_, hlen, hcell⟩ := World.cells?_some h1
      obtain ⟨b, o, spot⟩ := a
      have hs : spot = none := hspot
      subst hs
      obtain ⟨y, hy, hat⟩ := open_hld (b := b) (o := o) (i := i) hlen (fun j hj => by have := hcell j hj; rw [Deep.add_add] at this; exact this) h2
      exact ⟨y, hy, b, o, rfl, hat⟩
    obtain ⟨l, hl1, hl2⟩ := gather len hA
    refine ⟨some a, len, cap, l, rfl, hl1, by omega, by omega, (fun e => by cases e), fun x hx => ?_, fun hne => ?_⟩
    · obtain ⟨i, hi, rfl⟩ := List.getElem_of_mem hx
      exact (hl2 i hi).1
    · have h0 : 0 < l.length := List.length_pos_iff.2 hne
      obtain ⟨_, b, o, rfl, _⟩ := hl2 0 h0
      refine ⟨b, o, rfl, fun i x hx j u hu => ?_⟩
      obtain ⟨hi, rfl⟩ := List.getElem?_eq_some_iff.1 hx
      obtain ⟨_, b', o', e, c0, c1, c2, c3, c4, c5⟩ := hl2 i hi
      cases e
      match j, hu with
      | 0, hu => cases hu; exact c0
      | 1, hu => cases hu; exact c1
      | 2, hu => cases hu; exact c2
      | 3, hu => cases hu; exact c3
      | 4, hu => cases hu; exact c4
      | 5, hu => cases hu; exact c5
theorem open_movs {H : Type} {enc : TypeId × Value → H} {W : World} {fuel : Nat} {v : Value} {x : DataW H × List MemPlace} (h : DataW.trod enc Try.prog W 0 (fun _ => true) true fuel 24 [v] = some x) :
    ∃ (a1 : Option Addr) (len1 cap1 : Nat) (l : List Mov), v = .slice a1 len1 cap1 ∧ l.length = len1 ∧ len1 ≤ 9223372036854775807 ∧ len1 ≤ cap1 ∧ (a1 = none → len1 = 0 ∧ cap1 = 0) ∧ (∀ x, x ∈ l → x.fit) ∧ Rw mvv 6 W a1 l := by
  rcases Deep.open_slice Try.underlying24 h with ⟨hcs, _⟩ | ⟨a, len, cap, m, n, D, Pl, hcs, _, hl, hm, hmm, _, hx⟩
  · simp at hcs
    subst hcs
    exact ⟨none, 0, 0, [], rfl, rfl, Nat.zero_le _, Nat.le_refl _, (fun _ => ⟨rfl, rfl⟩), (fun x hx => by cases hx), Rw.nil _ _ _ _⟩
  · simp at hcs
    subst hcs
    simp only [if_true] at hmm
    unfold maxLen at hm
    have hA : ∀ i, i < len → ∃ x : Mov, x.fit ∧ ∃ b o, a = ⟨b, o, none⟩ ∧ MovAt W b (o + i * 6) x := fun i hi => by
      have hspot : a.spot = none := by
        obtain ⟨cs, h1, _⟩ := hx 0 (by omega)
        rw [cells_mov] at h1
        obtain ⟨_, hlen, hcell⟩ := World.cells?_some h1
        have h0 := hcell 0 (by omega)
        rw [List.getElem?_eq_getElem (by omega)] at h0
        simpa [Addr.add] using World.cell?_spot h0
      obtain ⟨cs, h1, h2⟩ := hx i (by omega)
      rw [cells_mov] at h1
      obtain ⟨_, hlen, hcell⟩ := World.cells?_some h1
      obtain ⟨b, o, spot⟩ := a
      have hs : spot = none := hspot
      subst hs
      obtain ⟨y, hy, hat⟩ := open_mov (b := b) (o := o) (i := i) hlen (fun j hj => by have := hcell j hj; rw [Deep.add_add] at this; exact this) h2
      exact ⟨y, hy, b, o, rfl, hat⟩
    obtain ⟨l, hl1, hl2⟩ := gather len hA
    refine ⟨some a, len, cap, l, rfl, hl1, by omega, by omega, (fun e => by cases e), fun x hx => ?_, fun hne => ?_⟩
    · obtain ⟨i, hi, rfl⟩ := List.getElem_of_mem hx
      exact (hl2 i hi).1
    · have h0 : 0 < l.length := List.length_pos_iff.2 hne
      obtain ⟨_, b, o, rfl, _⟩ := hl2 0 h0
      refine ⟨b, o, rfl, fun i x hx j u hu => ?_⟩
      obtain ⟨hi, rfl⟩ := List.getElem?_eq_some_iff.1 hx
      obtain ⟨_, b', o', e, c0, c1, c2, c3, c4, c5⟩ := hl2 i hi
      cases e
      match j, hu with
      | 0, hu => cases hu; exact c0
      | 1, hu => cases hu; exact c1
      | 2, hu => cases hu; exact c2
      | 3, hu => cases hu; exact c3
      | 4, hu => cases hu; exact c4
      | 5, hu => cases hu; exact c5
theorem fields_led : ∃ f0 f1 f2 f3 : Field, Try.prog.underlying 26 = some (.struct #[f0, f1, f2, f3]) ∧ (f0.type = 22 ∧ f0.offset = 0) ∧ (f1.type = 23 ∧ f1.offset = 1) ∧ (f2.type = 24 ∧ f2.offset = 2) ∧ (f3.type = 3 ∧ f3.offset = 3) :=
  ⟨_, _, _, _, Try.underlying26, ⟨rfl, rfl⟩, ⟨rfl, rfl⟩, ⟨rfl, rfl⟩, ⟨rfl, rfl⟩⟩
theorem cells_led : Try.prog.cellsOf 26 = 4 := by kernel_rfl
theorem cells22 : Try.prog.cellsOf 22 = 1 := by kernel_rfl
theorem cells23 : Try.prog.cellsOf 23 = 1 := by kernel_rfl
theorem cells24 : Try.prog.cellsOf 24 = 1 := by kernel_rfl
theorem open_led {H : Type} {enc : TypeId × Value → H} {W : World} {base : Nat} {v : Value} {d : DataW H} {ps : List MemPlace} (hv : Value.okWide Try.prog W .any base 26 v) (h : DataW.Trod enc Try.prog W 0 (fun _ => true) true 26 v d ps) :
    ∃ (a0 : Option Addr) (n0 c0 : Nat) (a1 : Option Addr) (n1 c1 : Nat) (a2 : Option Addr) (n2 c2 : Nat) (L : Led), v = .agg #[.slice a0 n0 c0, .slice a1 n1 c1, .slice a2 n2 c2, .int .i64 L.ops] ∧ L.S.length = n0 ∧ L.H.length = n1 ∧ L.M.length = n2 ∧ n1 ≤ c1 ∧ (a0 = none → n0 = 0 ∧ c0 = 0) ∧ (a1 = none → n1 = 0 ∧ c1 = 0) ∧ (a2 = none → n2 = 0 ∧ c2 = 0) ∧ (n0 ≤ 9223372036854775807 ∧ n1 ≤ 9223372036854775807 ∧ n2 ≤ 9223372036854775807) ∧ L.fit ∧ Lies W a0 a1 a2 L := by
  obtain ⟨f0, f1, f2, f3, hu, ⟨t0, o0⟩, ⟨t1, o1⟩, ⟨t2, o2⟩, ⟨t3, o3⟩⟩ := fields_led
  obtain ⟨cs, rfl, hc⟩ := okWide_struct hu hv
  obtain ⟨fuel, hf⟩ := h
  rw [cells_led] at hc
  have hcs : (Value.agg cs).cells.toList = cs.toList := rfl
  rw [hcs] at hf
  obtain ⟨xs, k, _, _, _, hxl, hfs⟩ := DataW.trod_struct hu hf
  obtain ⟨cs⟩ := cs
  have hc' : cs.length = 4 := by simpa using hc
  match xs, hxl, cs, hc' with
  | [y0, y1, y2, y3], _, [v0, v1, v2, v3], _ =>
    have g0 := hfs 0 f0 rfl
    simp [t0, o0, cells22] at g0
    have g1 := hfs 1 f1 rfl
    simp [t1, o1, cells23] at g1
    have g2 := hfs 2 f2 rfl
    simp [t2, o2, cells24] at g2
    have g3 := hfs 3 f3 rfl
    simp [t3, o3, Try.cells3'] at g3
    obtain ⟨a0, n0, c0, S, rfl, p1, p2, p3, p4, p5, p6⟩ := open_stks g0
    obtain ⟨a1, n1, c1, Hd, rfl, q1, q2, q3, q4, q5, q6⟩ := open_hlds g1
    obtain ⟨a2, n2, c2, M, rfl, r1, r2, r3, r4, r5, r6⟩ := open_movs g2
    obtain ⟨z3, e3, _, w3⟩ := DataW.trod_int Try.underlying3 g3
    cases e3
    exact ⟨a0, n0, c0, a1, n1, c1, a2, n2, c2, ⟨S, Hd, M, z3⟩, rfl, p1, q1, r1, q3, p4, q4, r4, ⟨p2, q2, r2⟩, ⟨p5, q5, r5, wf_i64 w3⟩, ⟨p6, q6, r6⟩⟩
theorem open_opv {H : Type} {enc : TypeId × Value → H} {W : World} {base : Nat} {v : Value} {d : DataW H} {ps : List MemPlace} (hv : Value.okWide Try.prog W .any base 28 v) (h : DataW.Trod enc Try.prog W 0 (fun _ => true) true 28 v d ps) : ∃ y : Opn, y.fit ∧ v = oval y := by
  obtain ⟨f0, f1, f2, f3, f4, f5, f6, hu, ⟨t0, o0⟩, ⟨t1, o1⟩, ⟨t2, o2⟩, ⟨t3, o3⟩, ⟨t4, o4⟩, ⟨t5, o5⟩, ⟨t6, o6⟩⟩ := Try.fields28
  obtain ⟨cs, rfl, hc⟩ := okWide_struct hu hv
  obtain ⟨fuel, hf⟩ := h
  rw [Try.cells28] at hc
  have hcs : (Value.agg cs).cells.toList = cs.toList := rfl
  rw [hcs] at hf
  obtain ⟨xs, k, _, _, _, hxl, hfs⟩ := DataW.trod_struct hu hf
  obtain ⟨cs⟩ := cs
  have hc' : cs.length = 7 := by simpa using hc
  match xs, hxl, cs, hc' with
  | [y0, y1, y2, y3, y4, y5, y6], _, [v0, v1, v2, v3, v4, v5, v6], _ =>
    have g0 := hfs 0 f0 rfl
    simp [t0, o0, Try.cells3'] at g0
    obtain ⟨z0, e0, _, w0⟩ := DataW.trod_int Try.underlying3 g0
    have g1 := hfs 1 f1 rfl
    simp [t1, o1, Try.cells9'] at g1
    obtain ⟨z1, e1, _, w1⟩ := DataW.trod_string Try.underlying9 g1
    have g2 := hfs 2 f2 rfl
    simp [t2, o2, Try.cells9'] at g2
    obtain ⟨z2, e2, _, w2⟩ := DataW.trod_string Try.underlying9 g2
    have g3 := hfs 3 f3 rfl
    simp [t3, o3, Try.cells9'] at g3
    obtain ⟨z3, e3, _, w3⟩ := DataW.trod_string Try.underlying9 g3
    have g4 := hfs 4 f4 rfl
    simp [t4, o4, Try.cells3'] at g4
    obtain ⟨z4, e4, _, w4⟩ := DataW.trod_int Try.underlying3 g4
    have g5 := hfs 5 f5 rfl
    simp [t5, o5, Try.cells3'] at g5
    obtain ⟨z5, e5, _, w5⟩ := DataW.trod_int Try.underlying3 g5
    have g6 := hfs 6 f6 rfl
    simp [t6, o6, Try.cells3'] at g6
    obtain ⟨z6, e6, _, w6⟩ := DataW.trod_int Try.underlying3 g6
    cases e0; cases e1; cases e2; cases e3; cases e4; cases e5; cases e6
    exact ⟨⟨z0, z1, z2, z3, z4, z5, z6⟩, ⟨wf_i64 w0, wf_i64 w4, wf_i64 w5, wf_i64 w6⟩, rfl⟩
end Go.Proofs.Ytflbcheofmljeaa

namespace Go.Proofs.Ytflbcheofmljeaa
open Go.ChangeShapes Go.WideShapes Go.RowKit
set_option linter.unusedVariables false
set_option maxRecDepth 100000

set_option maxHeartbeats 8000000 in
theorem applies_is {w : World} {a0 : Option Addr} {n0 c0 : Nat} {a1 : Option Addr} {n1 c1 : Nat} {a2 : Option Addr} {n2 c2 : Nat} {L : Led} (h : RArgs w a0 n0 c0 a1 n1 c1 a2 n2 c2 L) (z0 : a0 = none → n0 = 0 ∧ c0 = 0) (z1 : a1 = none → n1 = 0 ∧ c1 = 0) (z2 : a2 = none → n2 = 0 ∧ c2 = 0) (hx : n0 ≤ 9223372036854775807 ∧ n1 ≤ 9223372036854775807 ∧ n2 ≤ 9223372036854775807) (hf : L.fit) (o : Opn) (ho : o.fit) :
    Calls Try.prog 3 #[.agg #[.slice a0 n0 c0, .slice a1 n1 c1, .slice a2 n2 c2, .int .i64 L.ops], oval o] w fun e w' => e = .returned (.bool true) ∧ Below w.heap.size w w' := by
  have HAW : Hid (∀ w', Calls Try.prog 10 #[] w' fun e w'' => e = .returned (.bool true) ∧ Below w'.heap.size w' w'') := awake_is
  obtain ⟨W, hW⟩ : ∃ W, (w.alloc (.cells #[.slice a0 n0 c0, .slice a1 n1 c1, .slice a2 n2 c2, .int .i64 L.ops] 26)).alloc (.cells #[.int .i64 o.k, .string o.sku, .string o.loc, .string (Opn.to o), .int .i64 o.qty, .int .i64 o.id, .int .i64 o.due] 28) = W := ⟨_, rfl⟩
  have HC : Hid (CellsF W w.heap.size [.slice a0 n0 c0, .slice a1 n1 c1, .slice a2 n2 c2, .int .i64 L.ops] ∧ CellsF W (w.heap.size + 1) [.int .i64 o.k, .string o.sku, .string o.loc, .string (Opn.to o), .int .i64 o.qty, .int .i64 o.id, .int .i64 o.due] ∧ Below w.heap.size w W) := by
    show _ ∧ _
    rw [← hW]
    exact ⟨(CellsF.at _ 26 (by simp) rfl).next (below1 _ _), CellsF.at _ 28 (by simp) (by rw [size_alloc]), below2 _ _ _⟩
  by_cases hl : (n0 : Int) ≤ 30 ∧ (n1 : Int) ≤ 30 ∧ (n2 : Int) ≤ 60
  · have k0 : n0 ≤ 4096 := by omega
    have k1 : n1 ≤ 4096 := by omega
    have k2 : n2 ≤ 4096 := by omega
    have HLI : Hid (∀ w', Calls Try.prog 9 #[.agg #[.slice a0 n0 c0, .slice a1 n1 c1, .slice a2 n2 c2, .int .i64 L.ops]] w' fun e w'' => e = .returned (.bool true) ∧ Below w'.heap.size w' w'') := fun w' => light_yes a0 n0 c0 a1 n1 c1 a2 n2 c2 L.ops w' hl.1 hl.2.1 hl.2.2
    have hlen := apR_len hf ho (L := L)
    have hap : ∀ w', Below w.heap.size w w' → Calls Try.prog 11 #[.agg #[.slice a0 n0 c0, .slice a1 n1 c1, .slice a2 n2 c2, .int .i64 L.ops], oval o] w' fun e w'' => RaP w' w'' L o e := fun w' b => apply_as (h.next b) k0 k1 k2 z0 z1 z2 hf o ho
    have hra : ∀ w', Below w.heap.size w w' → Calls Try.prog 12 #[.agg #[.slice a0 n0 c0, .slice a1 n1 c1, .slice a2 n2 c2, .int .i64 L.ops], oval o] w' fun e w'' => RaP w' w'' L o e := fun w' b => rapply_is (h.next b) k0 k1 k2 hf o ho
    have hck : ∀ w', Below w.heap.size w w' → Calls Try.prog 14 #[.agg #[.slice a0 n0 c0, .slice a1 n1 c1, .slice a2 n2 c2, .int .i64 L.ops]] w' fun e w'' => e = .returned (.int .i64 (if mayL L then 0 else 1)) ∧ Below w'.heap.size w' w'' := fun w' b => checkL_is a0 n0 c0 a1 n1 c1 a2 n2 c2 L h.h0 h.h1 h.h2 (by omega) (by omega) (by omega) hf w' (h.li.next b)
    have hrc : ∀ w', Below w.heap.size w w' → Calls Try.prog 15 #[.agg #[.slice a0 n0 c0, .slice a1 n1 c1, .slice a2 n2 c2, .int .i64 L.ops]] w' fun e w'' => e = .returned (.int .i64 (if mayL L then 0 else 1)) ∧ Below w'.heap.size w' w'' := fun w' b => rcheck_is (h.next b) k0 k1 k2 hf
    unfold RaP at hap hra
    obtain ⟨R, hR⟩ : ∃ R, apR L o = R := ⟨_, rfl⟩
    obtain ⟨E, hE⟩ : ∃ E, apE L o = E := ⟨_, rfl⟩
    obtain ⟨ck, hk⟩ : ∃ ck : Int, (if mayL L then (0 : Int) else 1) = ck := ⟨_, rfl⟩
    rw [hR] at hlen
    rw [hk] at hck hrc
    rw [hR, hE] at hap hra
    have HLEN : Hid (R.S.length ≤ 4096 ∧ R.H.length ≤ 4096 ∧ R.M.length ≤ 4096) := hlen
    have HAP : Hid (∀ w', Below w.heap.size w w' → Calls Try.prog 11 #[.agg #[.slice a0 n0 c0, .slice a1 n1 c1, .slice a2 n2 c2, .int .i64 L.ops], oval o] w' fun e w'' => ∃ b0 m0 d0 b1 m1 d1 b2 m2 d2, e = .returned (.tuple #[.agg #[.slice b0 m0 d0, .slice b1 m1 d1, .slice b2 m2 d2, .int .i64 R.ops], .int .i64 E]) ∧ R.S.length = m0 ∧ R.H.length = m1 ∧ R.M.length = m2 ∧ Lies w'' b0 b1 b2 R ∧ Below w'.heap.size w' w'') := hap
    have HRA : Hid (∀ w', Below w.heap.size w w' → Calls Try.prog 12 #[.agg #[.slice a0 n0 c0, .slice a1 n1 c1, .slice a2 n2 c2, .int .i64 L.ops], oval o] w' fun e w'' => ∃ b0 m0 d0 b1 m1 d1 b2 m2 d2, e = .returned (.tuple #[.agg #[.slice b0 m0 d0, .slice b1 m1 d1, .slice b2 m2 d2, .int .i64 R.ops], .int .i64 E]) ∧ R.S.length = m0 ∧ R.H.length = m1 ∧ R.M.length = m2 ∧ Lies w'' b0 b1 b2 R ∧ Below w'.heap.size w' w'') := hra
    have HCK : Hid _ := hck
    have HRC : Hid _ := hrc
    clear hlen hap hra hck hrc hR hE hk h hf ho z0 z1 z2 hx k0 k1 k2 hl
    obtain ⟨ok, osk, ol, ot, oq, id, od⟩ := o
    dsimp only [oval] at HC HAP HRA hW ⊢
    have l0 := (HC.out.1).cs 0 _ rfl
    have l1 := (HC.out.1).cs 1 _ rfl
    have l2 := (HC.out.1).cs 2 _ rfl
    have l3 := (HC.out.1).cs 3 _ rfl
    have o0 := (HC.out.2.1).cs 0 _ rfl
    have o1 := (HC.out.2.1).cs 1 _ rfl
    have o2 := (HC.out.2.1).cs 2 _ rfl
    have o3 := (HC.out.2.1).cs 3 _ rfl
    have o4 := (HC.out.2.1).cs 4 _ rfl
    have o5 := (HC.out.2.1).cs 5 _ rfl
    have o6 := (HC.out.2.1).cs 6 _ rfl
    go_enter Try.func3, Try.ntmps3
    go_wp2_with fail
    try rw [hW]
    go_wp2_with fail
    refine Calls.mono (HLI.out _) ?_; rintro e w1 ⟨rfl, k1⟩
    have HB1 : Hid (Below W.heap.size W w1) := k1
    clear k1 hW l0 l1 l2 l3 o0 o1 o2 o3 o4 o5 o6
    have hq1 := HC.out.1.next HB1.out
    have hq2 := HC.out.2.1.next HB1.out
    have l0 := (hq1).cs 0 _ rfl
    have l1 := (hq1).cs 1 _ rfl
    have l2 := (hq1).cs 2 _ rfl
    have l3 := (hq1).cs 3 _ rfl
    have o0 := (hq2).cs 0 _ rfl
    have o1 := (hq2).cs 1 _ rfl
    have o2 := (hq2).cs 2 _ rfl
    have o3 := (hq2).cs 3 _ rfl
    have o4 := (hq2).cs 4 _ rfl
    have o5 := (hq2).cs 5 _ rfl
    have o6 := (hq2).cs 6 _ rfl
    clear hq1 hq2
    go_wp2_with fail
    refine Calls.mono (HAP.out _ (Below.next HC.out.2.2 HB1.out)) ?_; rintro e w2 ⟨b0, m0, d0, b1, m1, d1, b2, m2, d2, rfl, g0, g1, g2, gl, k2⟩
    obtain ⟨w3, hw3⟩ : ∃ w3, w2.alloc (.cells #[.slice b0 m0 d0, .slice b1 m1 d1, .slice b2 m2 d2, .int .i64 R.ops] 26) = w3 := ⟨_, rfl⟩
    obtain ⟨B5, hB5⟩ : ∃ B5, w2.heap.size = B5 := ⟨_, rfl⟩
    have H3 : Hid (Below W.heap.size W w3 ∧ CellsF w3 B5 [.slice b0 m0 d0, .slice b1 m1 d1, .slice b2 m2 d2, .int .i64 R.ops] ∧ R.S.length = m0 ∧ R.H.length = m1 ∧ R.M.length = m2 ∧ Lies w3 b0 b1 b2 R) := by
      show _ ∧ _
      rw [← hw3, ← hB5]
      exact ⟨Below.next (Below.next HB1.out k2) (below1 _ _), CellsF.at _ 26 (by simp) rfl, g0, g1, g2, gl.next (below1 _ _)⟩
    have E3 : Hid (w2.alloc (.cells #[.slice b0 m0 d0, .slice b1 m1 d1, .slice b2 m2 d2, .int .i64 R.ops] 26) = w3 ∧ w2.heap.size = B5) := ⟨hw3, hB5⟩
    clear hw3 hB5 g0 g1 g2 gl k2 l0 l1 l2 l3 o0 o1 o2 o3 o4 o5 o6 HB1
    go_upto_region 4 with fail
    rw [E3.out.1, E3.out.2]
    clear E3
    have hq1 := HC.out.1.next H3.out.1
    have hq2 := HC.out.2.1.next H3.out.1
    have l0 := (hq1).cs 0 _ rfl
    have l1 := (hq1).cs 1 _ rfl
    have l2 := (hq1).cs 2 _ rfl
    have l3 := (hq1).cs 3 _ rfl
    have o0 := (hq2).cs 0 _ rfl
    have o1 := (hq2).cs 1 _ rfl
    have o2 := (hq2).cs 2 _ rfl
    have o3 := (hq2).cs 3 _ rfl
    have o4 := (hq2).cs 4 _ rfl
    have o5 := (hq2).cs 5 _ rfl
    have o6 := (hq2).cs 6 _ rfl
    clear hq1 hq2
    go_wp2_with fail
    refine Calls.mono (HRA.out _ (Below.next HC.out.2.2 H3.out.1)) ?_; rintro e w4 ⟨e0, j0, f0, e1, j1, f1, e2, j2, f2, rfl, g0, g1, g2, gl, k4⟩
    obtain rfl : m0 = j0 := H3.out.2.2.1.symm.trans g0
    obtain rfl : m1 = j1 := H3.out.2.2.2.1.symm.trans g1
    obtain rfl : m2 = j2 := H3.out.2.2.2.2.1.symm.trans g2
    obtain ⟨V, hV⟩ : ∃ V, w4.alloc (.cells #[.slice e0 m0 f0, .slice e1 m1 f1, .slice e2 m2 f2, .int .i64 R.ops] 26) = V := ⟨_, rfl⟩
    obtain ⟨B7, hB7⟩ : ∃ B7, w4.heap.size = B7 := ⟨_, rfl⟩
    have H5 : Hid (Below W.heap.size W V ∧ CellsF V B5 [.slice b0 m0 d0, .slice b1 m1 d1, .slice b2 m2 d2, .int .i64 R.ops] ∧ CellsF V B7 [.slice e0 m0 f0, .slice e1 m1 f1, .slice e2 m2 f2, .int .i64 R.ops] ∧ Lies V b0 b1 b2 R ∧ Lies V e0 e1 e2 R ∧ (R.S.length = m0 ∧ R.H.length = m1 ∧ R.M.length = m2)) := by
      show _ ∧ _
      rw [← hV, ← hB7]
      exact ⟨Below.next (Below.next H3.out.1 k4) (below1 _ _), (H3.out.2.1.next k4).next (below1 _ _), CellsF.at _ 26 (by simp) rfl, (H3.out.2.2.2.2.2.next k4).next (below1 _ _), gl.next (below1 _ _), g0, g1, g2⟩
    have E5 : Hid (w4.alloc (.cells #[.slice e0 m0 f0, .slice e1 m1 f1, .slice e2 m2 f2, .int .i64 R.ops] 26) = V ∧ w4.heap.size = B7) := ⟨hV, hB7⟩
    clear hV hB7 g0 g1 g2 gl k4 l0 l1 l2 l3 o0 o1 o2 o3 o4 o5 o6 H3
    have HVW : Hid (∀ w', Below V.heap.size V w' → Below w.heap.size w w') := fun w' k => Below.next (Below.next HC.out.2.2 H5.out.1) k
    have HS : Hid (∀ w', Below V.heap.size V w' → (Below V.heap.size V w' ∧ w'.cell? ⟨B5, 0, none⟩ = some (.slice b0 m0 d0) ∧ w'.cell? ⟨B5, 1, none⟩ = some (.slice b1 m1 d1) ∧ w'.cell? ⟨B5, 2, none⟩ = some (.slice b2 m2 d2) ∧ w'.cell? ⟨B5, 3, none⟩ = some (.int .i64 R.ops) ∧ w'.cell? ⟨B7, 0, none⟩ = some (.slice e0 m0 f0) ∧ w'.cell? ⟨B7, 1, none⟩ = some (.slice e1 m1 f1) ∧ w'.cell? ⟨B7, 2, none⟩ = some (.slice e2 m2 f2) ∧ w'.cell? ⟨B7, 3, none⟩ = some (.int .i64 R.ops) ∧ w'.cell? ⟨w.heap.size, 0, none⟩ = some (.slice a0 n0 c0) ∧ w'.cell? ⟨w.heap.size, 1, none⟩ = some (.slice a1 n1 c1) ∧ w'.cell? ⟨w.heap.size, 2, none⟩ = some (.slice a2 n2 c2) ∧ w'.cell? ⟨w.heap.size, 3, none⟩ = some (.int .i64 L.ops))) := fun w' kk => by
      have p := H5.out.2.1.next kk
      have r := H5.out.2.2.1.next kk
      have s := HC.out.1.next (Below.next H5.out.1 kk)
      exact ⟨kk, p.cs 0 _ rfl, p.cs 1 _ rfl, p.cs 2 _ rfl, p.cs 3 _ rfl, r.cs 0 _ rfl, r.cs 1 _ rfl, r.cs 2 _ rfl, r.cs 3 _ rfl, s.cs 0 _ rfl, s.cs 1 _ rfl, s.cs 2 _ rfl, s.cs 3 _ rfl⟩
    have HSD : Hid (∀ w', (Below V.heap.size V w' ∧ w'.cell? ⟨B5, 0, none⟩ = some (.slice b0 m0 d0) ∧ w'.cell? ⟨B5, 1, none⟩ = some (.slice b1 m1 d1) ∧ w'.cell? ⟨B5, 2, none⟩ = some (.slice b2 m2 d2) ∧ w'.cell? ⟨B5, 3, none⟩ = some (.int .i64 R.ops) ∧ w'.cell? ⟨B7, 0, none⟩ = some (.slice e0 m0 f0) ∧ w'.cell? ⟨B7, 1, none⟩ = some (.slice e1 m1 f1) ∧ w'.cell? ⟨B7, 2, none⟩ = some (.slice e2 m2 f2) ∧ w'.cell? ⟨B7, 3, none⟩ = some (.int .i64 R.ops) ∧ w'.cell? ⟨w.heap.size, 0, none⟩ = some (.slice a0 n0 c0) ∧ w'.cell? ⟨w.heap.size, 1, none⟩ = some (.slice a1 n1 c1) ∧ w'.cell? ⟨w.heap.size, 2, none⟩ = some (.slice a2 n2 c2) ∧ w'.cell? ⟨w.heap.size, 3, none⟩ = some (.int .i64 L.ops)) → (Below V.heap.size V w'.drew ∧ w'.drew.cell? ⟨B5, 0, none⟩ = some (.slice b0 m0 d0) ∧ w'.drew.cell? ⟨B5, 1, none⟩ = some (.slice b1 m1 d1) ∧ w'.drew.cell? ⟨B5, 2, none⟩ = some (.slice b2 m2 d2) ∧ w'.drew.cell? ⟨B5, 3, none⟩ = some (.int .i64 R.ops) ∧ w'.drew.cell? ⟨B7, 0, none⟩ = some (.slice e0 m0 f0) ∧ w'.drew.cell? ⟨B7, 1, none⟩ = some (.slice e1 m1 f1) ∧ w'.drew.cell? ⟨B7, 2, none⟩ = some (.slice e2 m2 f2) ∧ w'.drew.cell? ⟨B7, 3, none⟩ = some (.int .i64 R.ops) ∧ w'.drew.cell? ⟨w.heap.size, 0, none⟩ = some (.slice a0 n0 c0) ∧ w'.drew.cell? ⟨w.heap.size, 1, none⟩ = some (.slice a1 n1 c1) ∧ w'.drew.cell? ⟨w.heap.size, 2, none⟩ = some (.slice a2 n2 c2) ∧ w'.drew.cell? ⟨w.heap.size, 3, none⟩ = some (.int .i64 L.ops))) := fun w' k => HS.out _ (Below.next k.1 (Below.refl _ _).drew)
    have HSM : Hid (∀ w', (Below V.heap.size V w' ∧ w'.cell? ⟨B5, 0, none⟩ = some (.slice b0 m0 d0) ∧ w'.cell? ⟨B5, 1, none⟩ = some (.slice b1 m1 d1) ∧ w'.cell? ⟨B5, 2, none⟩ = some (.slice b2 m2 d2) ∧ w'.cell? ⟨B5, 3, none⟩ = some (.int .i64 R.ops) ∧ w'.cell? ⟨B7, 0, none⟩ = some (.slice e0 m0 f0) ∧ w'.cell? ⟨B7, 1, none⟩ = some (.slice e1 m1 f1) ∧ w'.cell? ⟨B7, 2, none⟩ = some (.slice e2 m2 f2) ∧ w'.cell? ⟨B7, 3, none⟩ = some (.int .i64 R.ops) ∧ w'.cell? ⟨w.heap.size, 0, none⟩ = some (.slice a0 n0 c0) ∧ w'.cell? ⟨w.heap.size, 1, none⟩ = some (.slice a1 n1 c1) ∧ w'.cell? ⟨w.heap.size, 2, none⟩ = some (.slice a2 n2 c2) ∧ w'.cell? ⟨w.heap.size, 3, none⟩ = some (.int .i64 L.ops)) → Calls Try.prog 13 #[.agg #[.slice b0 m0 d0, .slice b1 m1 d1, .slice b2 m2 d2, .int .i64 R.ops], .agg #[.slice e0 m0 f0, .slice e1 m1 f1, .slice e2 m2 f2, .int .i64 R.ops]] w' fun e w'' => e = .returned (.bool true) ∧ (Below V.heap.size V w'' ∧ w''.cell? ⟨B5, 0, none⟩ = some (.slice b0 m0 d0) ∧ w''.cell? ⟨B5, 1, none⟩ = some (.slice b1 m1 d1) ∧ w''.cell? ⟨B5, 2, none⟩ = some (.slice b2 m2 d2) ∧ w''.cell? ⟨B5, 3, none⟩ = some (.int .i64 R.ops) ∧ w''.cell? ⟨B7, 0, none⟩ = some (.slice e0 m0 f0) ∧ w''.cell? ⟨B7, 1, none⟩ = some (.slice e1 m1 f1) ∧ w''.cell? ⟨B7, 2, none⟩ = some (.slice e2 m2 f2) ∧ w''.cell? ⟨B7, 3, none⟩ = some (.int .i64 R.ops) ∧ w''.cell? ⟨w.heap.size, 0, none⟩ = some (.slice a0 n0 c0) ∧ w''.cell? ⟨w.heap.size, 1, none⟩ = some (.slice a1 n1 c1) ∧ w''.cell? ⟨w.heap.size, 2, none⟩ = some (.slice a2 n2 c2) ∧ w''.cell? ⟨w.heap.size, 3, none⟩ = some (.int .i64 L.ops))) := fun w' k => by
      have hL := HLEN.out
      have hg := H5.out.2.2.2.2.2
      exact (rsame_is b0 m0 d0 b1 m1 d1 b2 m2 d2 e0 f0 e1 f1 e2 f2 R.ops R hg.1 hg.2.1 hg.2.2 (by omega) (by omega) (by omega) w' (H5.out.2.2.2.1.next k.1) (H5.out.2.2.2.2.1.next k.1)).mono fun e w'' r => ⟨r.1, HS.out _ (Below.next k.1 r.2)⟩
    have HC4 : Hid (∀ w', (Below V.heap.size V w' ∧ w'.cell? ⟨B5, 0, none⟩ = some (.slice b0 m0 d0) ∧ w'.cell? ⟨B5, 1, none⟩ = some (.slice b1 m1 d1) ∧ w'.cell? ⟨B5, 2, none⟩ = some (.slice b2 m2 d2) ∧ w'.cell? ⟨B5, 3, none⟩ = some (.int .i64 R.ops) ∧ w'.cell? ⟨B7, 0, none⟩ = some (.slice e0 m0 f0) ∧ w'.cell? ⟨B7, 1, none⟩ = some (.slice e1 m1 f1) ∧ w'.cell? ⟨B7, 2, none⟩ = some (.slice e2 m2 f2) ∧ w'.cell? ⟨B7, 3, none⟩ = some (.int .i64 R.ops) ∧ w'.cell? ⟨w.heap.size, 0, none⟩ = some (.slice a0 n0 c0) ∧ w'.cell? ⟨w.heap.size, 1, none⟩ = some (.slice a1 n1 c1) ∧ w'.cell? ⟨w.heap.size, 2, none⟩ = some (.slice a2 n2 c2) ∧ w'.cell? ⟨w.heap.size, 3, none⟩ = some (.int .i64 L.ops)) → Calls Try.prog 14 #[.agg #[.slice a0 n0 c0, .slice a1 n1 c1, .slice a2 n2 c2, .int .i64 L.ops]] w' fun e w'' => e = .returned (.int .i64 ck) ∧ (Below V.heap.size V w'' ∧ w''.cell? ⟨B5, 0, none⟩ = some (.slice b0 m0 d0) ∧ w''.cell? ⟨B5, 1, none⟩ = some (.slice b1 m1 d1) ∧ w''.cell? ⟨B5, 2, none⟩ = some (.slice b2 m2 d2) ∧ w''.cell? ⟨B5, 3, none⟩ = some (.int .i64 R.ops) ∧ w''.cell? ⟨B7, 0, none⟩ = some (.slice e0 m0 f0) ∧ w''.cell? ⟨B7, 1, none⟩ = some (.slice e1 m1 f1) ∧ w''.cell? ⟨B7, 2, none⟩ = some (.slice e2 m2 f2) ∧ w''.cell? ⟨B7, 3, none⟩ = some (.int .i64 R.ops) ∧ w''.cell? ⟨w.heap.size, 0, none⟩ = some (.slice a0 n0 c0) ∧ w''.cell? ⟨w.heap.size, 1, none⟩ = some (.slice a1 n1 c1) ∧ w''.cell? ⟨w.heap.size, 2, none⟩ = some (.slice a2 n2 c2) ∧ w''.cell? ⟨w.heap.size, 3, none⟩ = some (.int .i64 L.ops))) := fun w' k => (HCK.out w' (HVW.out _ k.1)).mono fun e w'' r => ⟨r.1, HS.out _ (Below.next k.1 r.2)⟩
    have HC5 : Hid (∀ w', (Below V.heap.size V w' ∧ w'.cell? ⟨B5, 0, none⟩ = some (.slice b0 m0 d0) ∧ w'.cell? ⟨B5, 1, none⟩ = some (.slice b1 m1 d1) ∧ w'.cell? ⟨B5, 2, none⟩ = some (.slice b2 m2 d2) ∧ w'.cell? ⟨B5, 3, none⟩ = some (.int .i64 R.ops) ∧ w'.cell? ⟨B7, 0, none⟩ = some (.slice e0 m0 f0) ∧ w'.cell? ⟨B7, 1, none⟩ = some (.slice e1 m1 f1) ∧ w'.cell? ⟨B7, 2, none⟩ = some (.slice e2 m2 f2) ∧ w'.cell? ⟨B7, 3, none⟩ = some (.int .i64 R.ops) ∧ w'.cell? ⟨w.heap.size, 0, none⟩ = some (.slice a0 n0 c0) ∧ w'.cell? ⟨w.heap.size, 1, none⟩ = some (.slice a1 n1 c1) ∧ w'.cell? ⟨w.heap.size, 2, none⟩ = some (.slice a2 n2 c2) ∧ w'.cell? ⟨w.heap.size, 3, none⟩ = some (.int .i64 L.ops)) → Calls Try.prog 15 #[.agg #[.slice a0 n0 c0, .slice a1 n1 c1, .slice a2 n2 c2, .int .i64 L.ops]] w' fun e w'' => e = .returned (.int .i64 ck) ∧ (Below V.heap.size V w'' ∧ w''.cell? ⟨B5, 0, none⟩ = some (.slice b0 m0 d0) ∧ w''.cell? ⟨B5, 1, none⟩ = some (.slice b1 m1 d1) ∧ w''.cell? ⟨B5, 2, none⟩ = some (.slice b2 m2 d2) ∧ w''.cell? ⟨B5, 3, none⟩ = some (.int .i64 R.ops) ∧ w''.cell? ⟨B7, 0, none⟩ = some (.slice e0 m0 f0) ∧ w''.cell? ⟨B7, 1, none⟩ = some (.slice e1 m1 f1) ∧ w''.cell? ⟨B7, 2, none⟩ = some (.slice e2 m2 f2) ∧ w''.cell? ⟨B7, 3, none⟩ = some (.int .i64 R.ops) ∧ w''.cell? ⟨w.heap.size, 0, none⟩ = some (.slice a0 n0 c0) ∧ w''.cell? ⟨w.heap.size, 1, none⟩ = some (.slice a1 n1 c1) ∧ w''.cell? ⟨w.heap.size, 2, none⟩ = some (.slice a2 n2 c2) ∧ w''.cell? ⟨w.heap.size, 3, none⟩ = some (.int .i64 L.ops))) := fun w' k => (HRC.out w' (HVW.out _ k.1)).mono fun e w'' r => ⟨r.1, HS.out _ (Below.next k.1 r.2)⟩
    have HA5 : Hid (∀ w', (Below V.heap.size V w' ∧ w'.cell? ⟨B5, 0, none⟩ = some (.slice b0 m0 d0) ∧ w'.cell? ⟨B5, 1, none⟩ = some (.slice b1 m1 d1) ∧ w'.cell? ⟨B5, 2, none⟩ = some (.slice b2 m2 d2) ∧ w'.cell? ⟨B5, 3, none⟩ = some (.int .i64 R.ops) ∧ w'.cell? ⟨B7, 0, none⟩ = some (.slice e0 m0 f0) ∧ w'.cell? ⟨B7, 1, none⟩ = some (.slice e1 m1 f1) ∧ w'.cell? ⟨B7, 2, none⟩ = some (.slice e2 m2 f2) ∧ w'.cell? ⟨B7, 3, none⟩ = some (.int .i64 R.ops) ∧ w'.cell? ⟨w.heap.size, 0, none⟩ = some (.slice a0 n0 c0) ∧ w'.cell? ⟨w.heap.size, 1, none⟩ = some (.slice a1 n1 c1) ∧ w'.cell? ⟨w.heap.size, 2, none⟩ = some (.slice a2 n2 c2) ∧ w'.cell? ⟨w.heap.size, 3, none⟩ = some (.int .i64 L.ops)) → Calls Try.prog 10 #[] w' fun e w'' => e = .returned (.bool true) ∧ (Below V.heap.size V w'' ∧ w''.cell? ⟨B5, 0, none⟩ = some (.slice b0 m0 d0) ∧ w''.cell? ⟨B5, 1, none⟩ = some (.slice b1 m1 d1) ∧ w''.cell? ⟨B5, 2, none⟩ = some (.slice b2 m2 d2) ∧ w''.cell? ⟨B5, 3, none⟩ = some (.int .i64 R.ops) ∧ w''.cell? ⟨B7, 0, none⟩ = some (.slice e0 m0 f0) ∧ w''.cell? ⟨B7, 1, none⟩ = some (.slice e1 m1 f1) ∧ w''.cell? ⟨B7, 2, none⟩ = some (.slice e2 m2 f2) ∧ w''.cell? ⟨B7, 3, none⟩ = some (.int .i64 R.ops) ∧ w''.cell? ⟨w.heap.size, 0, none⟩ = some (.slice a0 n0 c0) ∧ w''.cell? ⟨w.heap.size, 1, none⟩ = some (.slice a1 n1 c1) ∧ w''.cell? ⟨w.heap.size, 2, none⟩ = some (.slice a2 n2 c2) ∧ w''.cell? ⟨w.heap.size, 3, none⟩ = some (.int .i64 L.ops))) := fun w' k => (HAW.out w').mono fun e w'' r => ⟨r.1, HS.out _ (Below.next k.1 r.2)⟩
    go_upto_region 5 with fail
    rw [E5.out.1, E5.out.2]
    clear E5
    have hS0 := HS.out V (Below.refl _ _)
    clear HS HAP HRA HCK HRC HLI
    go_region_held (fun (w' : World) => (Below V.heap.size V w' ∧ w'.cell? ⟨B5, 0, none⟩ = some (.slice b0 m0 d0) ∧ w'.cell? ⟨B5, 1, none⟩ = some (.slice b1 m1 d1) ∧ w'.cell? ⟨B5, 2, none⟩ = some (.slice b2 m2 d2) ∧ w'.cell? ⟨B5, 3, none⟩ = some (.int .i64 R.ops) ∧ w'.cell? ⟨B7, 0, none⟩ = some (.slice e0 m0 f0) ∧ w'.cell? ⟨B7, 1, none⟩ = some (.slice e1 m1 f1) ∧ w'.cell? ⟨B7, 2, none⟩ = some (.slice e2 m2 f2) ∧ w'.cell? ⟨B7, 3, none⟩ = some (.int .i64 R.ops) ∧ w'.cell? ⟨w.heap.size, 0, none⟩ = some (.slice a0 n0 c0) ∧ w'.cell? ⟨w.heap.size, 1, none⟩ = some (.slice a1 n1 c1) ∧ w'.cell? ⟨w.heap.size, 2, none⟩ = some (.slice a2 n2 c2) ∧ w'.cell? ⟨w.heap.size, 3, none⟩ = some (.int .i64 L.ops))) (first | (with_reducible assumption) | (with_reducible exact HSD.out _ (by with_reducible assumption)))
      (first | ((with_reducible refine Calls.mono (HSM.out _ (by with_reducible assumption)) ?_); rintro e w6 ⟨rfl, hS6⟩) | ((with_reducible refine Calls.mono (HC4.out _ (by with_reducible assumption)) ?_); rintro e w7 ⟨rfl, hS7⟩) | ((with_reducible refine Calls.mono (HC5.out _ (by with_reducible assumption)) ?_); rintro e w8 ⟨rfl, hS8⟩) | ((with_reducible refine Calls.mono (HA5.out _ (by with_reducible assumption)) ?_); rintro e w9 ⟨rfl, hS9⟩; have HB9 : Hid (Below w.heap.size w w9) := HVW.out _ hS9.1))
    all_goals go_wp2_with fail
    all_goals (try simp only [Exit.inBlock, Exit.then])
    all_goals go_ret
    all_goals exact ⟨rfl, HB9.out⟩
  · have HLI : Hid (∀ w', Calls Try.prog 9 #[.agg #[.slice a0 n0 c0, .slice a1 n1 c1, .slice a2 n2 c2, .int .i64 L.ops]] w' fun e w'' => e = .returned (.bool false) ∧ Below w'.heap.size w' w'') := fun w' => light_no a0 n0 c0 a1 n1 c1 a2 n2 c2 L.ops w' hl
    clear h hf ho z0 z1 z2 hx hl
    obtain ⟨ok, osk, ol, ot, oq, id, od⟩ := o
    dsimp only [oval] at HC hW ⊢
    have l0 := (HC.out.1).cs 0 _ rfl
    have l1 := (HC.out.1).cs 1 _ rfl
    have l2 := (HC.out.1).cs 2 _ rfl
    have l3 := (HC.out.1).cs 3 _ rfl
    go_enter Try.func3, Try.ntmps3
    go_wp2_with fail
    try rw [hW]
    go_wp2_with fail
    refine Calls.mono (HLI.out _) ?_; rintro e w1 ⟨rfl, k1⟩
    have HB1 : Hid (Below w.heap.size w w1) := Below.next HC.out.2.2 k1
    clear k1 hW l0 l1 l2 l3
    go_wp2_with fail
    refine Calls.mono (HAW.out _) ?_; rintro e w4 ⟨rfl, k4⟩
    have HB4 : Hid (Below w.heap.size w w4) := Below.next HB1.out k4
    clear k4
    go_wp2_with fail
    try simp only [Exit.inBlock, Exit.then]
    go_ret
    exact ⟨rfl, HB4.out⟩
end Go.Proofs.Ytflbcheofmljeaa
