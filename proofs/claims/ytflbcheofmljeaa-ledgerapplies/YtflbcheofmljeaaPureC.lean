/- Ledgers without memory: what operations do. -/
import Derived.Test.YtflbcheofmljeaaKRec
import Derived.Test.YtflbcheofmljeaaKAdj
import Derived.Test.YtflbcheofmljeaaKExp
import Derived.Test.YtflbcheofmljeaaKHold
import Derived.Test.YtflbcheofmljeaaKAct
import Derived.Test.YtflbcheofmljeaaKTra
import Derived.Test.YtflbcheofmljeaaExpC
namespace Go.Proofs.Ytflbcheofmljeaa
open Go.ChangeShapes Go.WideShapes Go.RowKit
set_option linter.unusedVariables false
set_option maxRecDepth 100000

/-- May an operation be? -/
abbrev Opn.may (o : Opn) : Prop := mayO o.k o.sku o.loc o.to o.qty o.id o.due
/-- Why an operation is refused. -/
def errOf (L : Led) (o : Opn) : Int := if o.k = 1 then errR L o else if o.k = 2 then errH L o else if o.k = 3 then errC L o else if o.k = 4 then errU L o else if o.k = 5 then errE L o else if o.k = 6 then errT L o else errA L o
def fnOf (k : Int) : Nat := if k = 1 then 87 else if k = 2 then 89 else if k = 3 then 92 else if k = 4 then 94 else if k = 5 then 95 else if k = 6 then 96 else 97
/-- What an operation does. -/
def chL (L : Led) (o : Opn) : Led :=
  if o.k = 1 then mvL L o.k o.sku o.loc o.qty 0
  else if o.k = 2 then holdL L o.sku o.loc o.qty o.due
  else if o.k = 3 then (match L.H[(o.id - 1).toNat]? with
    | some x => mvL (endL L (o.id - 1).toNat x 1) o.k x.sku x.loc (-x.qty) x.id
    | none => L)
  else if o.k = 4 then (match L.H[(o.id - 1).toNat]? with
    | some x => endL L (o.id - 1).toNat x 2
    | none => L)
  else if o.k = 5 then expL L o.due L.H.length
  else if o.k = 6 then mvL (mvL L o.k o.sku o.loc (-o.qty) 0) o.k o.sku o.to o.qty 0
  else mvL L o.k o.sku o.loc o.qty 0

theorem mvL_S (L : Led) (k : Int) (s t : ByteArray) (d h : Int) : (mvL L k s t d h).S = upd L.S { findK L.S s t with on := (findK L.S s t).on + d } := addOn_upd _ _ _ _
theorem room_mv (L : Led) (k : Int) (s t : ByteArray) (d h : Int) : room (mvL L k s t d h) 0 0 0 ↔ (L.S.length : Int) + (if hasK L.S s t then 0 else 1) ≤ 4096 ∧ (L.H.length : Int) ≤ 4096 ∧ (L.M.length : Int) + 1 ≤ 4096 := by
  unfold room
  rw [mvL_S, upd_len]
  dsimp only
  rw [(findK_key L.S s t).1, (findK_key L.S s t).2]
  have hM : (mvL L k s t d h).M.length = L.M.length + 1 := by unfold mvL; simp
  have hH : (mvL L k s t d h).H = L.H := rfl
  rw [hM, hH]
  cases hasK L.S s t <;> simp <;> omega
theorem find_upd_same' {l : List Stk} (hs : Rises l) (y : Stk) (s t : ByteArray) (h1 : y.sku = s) (h2 : y.loc = t) : findK (upd l y) s t = y := by
  subst h1; subst h2; exact find_upd_same hs y
theorem find_mv_same {L : Led} (hs : Rises L.S) (k : Int) (s t : ByteArray) (d h : Int) : findK (mvL L k s t d h).S s t = { findK L.S s t with on := (findK L.S s t).on + d } := by
  rw [mvL_S]
  exact find_upd_same' hs _ _ _ (findK_key L.S s t).1 (findK_key L.S s t).2
theorem find_mv_other {L : Led} (hs : Rises L.S) (k : Int) (s t : ByteArray) (d h : Int) {s' t' : ByteArray} (hne : ¬ (s = s' ∧ t = t')) : findK (mvL L k s t d h).S s' t' = findK L.S s' t' := by
  rw [mvL_S]
  refine find_upd_other hs _ (fun q => hne ?_)
  dsimp only at q
  rw [(findK_key L.S s t).1, (findK_key L.S s t).2] at q
  exact q
theorem mv_fit {L : Led} (hf : L.fit) (hs : Rises L.S) {k : Int} {s t : ByteArray} {d h : Int} (h1 : i64b ((findK L.S s t).on + d)) (hm : L.M.length ≤ 10000) (hk : i64b k) (hd : i64b d) (hh : i64b h) : (mvL L k s t d h).fit := by
  refine ⟨fun y hy => ?_, hf.H, fun y hy => ?_, hf.ops⟩
  · rw [mvL_S] at hy
    rcases (upd_mem hs).1 hy with rfl | ⟨q, _⟩
    · exact ⟨h1, (findK_fit hf.S s t).held⟩
    · exact hf.S y q
  · have : (mvL L k s t d h).M = L.M ++ [⟨(L.M.length : Int) + 1, s, t, d, k, h⟩] := rfl
    rw [this, List.mem_append, List.mem_singleton] at hy
    rcases hy with hy | rfl
    · exact hf.M y hy
    · exact ⟨by unfold i64b; dsimp only; omega, hd, hk, hh⟩
theorem hold_fit {L : Led} (hf : L.fit) (hs : Rises L.S) {s t : ByteArray} {q d : Int} (h1 : i64b ((findK L.S s t).held + q)) (hm : L.H.length ≤ 10000) (hq : i64b q) (hd : i64b d) : (holdL L s t q d).fit := by
  refine ⟨fun y hy => ?_, fun y hy => ?_, hf.M, hf.ops⟩
  · have hu : (holdL L s t q d).S = upd L.S { findK L.S s t with held := (findK L.S s t).held + q } := addHeld_upd _ _ _ _
    rw [hu] at hy
    rcases (upd_mem hs).1 hy with rfl | ⟨q, _⟩
    · exact ⟨(findK_fit hf.S s t).on, h1⟩
    · exact hf.S y q
  · have : (holdL L s t q d).H = L.H ++ [⟨(L.H.length : Int) + 1, s, t, q, 0, d⟩] := rfl
    rw [this, List.mem_append, List.mem_singleton] at hy
    rcases hy with hy | rfl
    · exact hf.H y hy
    · exact ⟨by unfold i64b; dsimp only; omega, hq, by unfold i64b; dsimp only; omega, hd⟩
theorem er_zero {x : Int} (h : er x = 0) : i64b x := by
  by_cases c : -9223372036854775808 ≤ x ∧ x ≤ 9223372036854775807
  · exact c
  · rw [(vl_out c).2] at h; omega
theorem kinds {o : Opn} (h : o.may) : o.k = 1 ∨ o.k = 2 ∨ o.k = 3 ∨ o.k = 4 ∨ o.k = 5 ∨ o.k = 6 ∨ o.k = 7 := by
  unfold Opn.may mayO at h
  omega
theorem may1 {o : Opn} (h : o.may) (k : o.k = 1) : name o.sku ∧ name o.loc ∧ 1 ≤ o.qty := by
  unfold Opn.may mayO at h
  rcases h with h | h | h | h | h | h
  · exact ⟨h.2.1.1, h.2.1.2, h.2.2.2.1⟩
  all_goals (have := h.1; omega)
theorem may2 {o : Opn} (h : o.may) (k : o.k = 2) : name o.sku ∧ name o.loc ∧ 1 ≤ o.qty ∧ 0 ≤ o.due := by
  unfold Opn.may mayO at h
  rcases h with h | h | h | h | h | h
  · have := h.1; omega
  · exact ⟨h.2.1.1, h.2.1.2, h.2.2.2.1, h.2.2.2.2.2⟩
  all_goals (have := h.1; omega)
theorem may34 {o : Opn} (h : o.may) (k : o.k = 3 ∨ o.k = 4) : 1 ≤ o.id := by
  unfold Opn.may mayO at h
  rcases h with h | h | h | h | h | h
  · have := h.1; omega
  · have := h.1; omega
  · exact h.2.2.2.2.1
  all_goals (have := h.1; omega)
theorem may6 {o : Opn} (h : o.may) (k : o.k = 6) : name o.sku ∧ name o.loc ∧ name o.to ∧ ¬ o.loc = o.to ∧ 1 ≤ o.qty := by
  unfold Opn.may mayO at h
  rcases h with h | h | h | h | h | h
  · have := h.1; omega
  · have := h.1; omega
  · have := h.1; omega
  · have := h.1; omega
  · exact ⟨h.2.1.1, h.2.1.2, h.2.2.1, h.2.2.2.1, h.2.2.2.2.1⟩
  · have := h.1; omega
theorem may7 {o : Opn} (h : o.may) (k : o.k = 7) : name o.sku ∧ name o.loc ∧ ¬ o.qty = 0 := by
  unfold Opn.may mayO at h
  rcases h with h | h | h | h | h | h
  · have := h.1; omega
  · have := h.1; omega
  · have := h.1; omega
  · have := h.1; omega
  · have := h.1; omega
  · exact ⟨h.2.1.1, h.2.1.2, h.2.2.2.1⟩
theorem act_some {H : List Hld} {id : Int} (h : actL H id = true) : ∃ x, H[(id - 1).toNat]? = some x ∧ x.st = 0 := by
  unfold actL at h
  split at h
  · rename_i x hx; exact ⟨x, hx, of_decide_eq_true h⟩
  · cases h
/-- What is known where more come, or fewer. -/
theorem errR_zero {L : Led} {o : Opn} (h : errR L o = 0) : i64b ((findK L.S o.sku o.loc).on + o.qty) ∧ room L (if hasK L.S o.sku o.loc then 0 else 1) 0 1 := by
  unfold errR at h
  generalize (if hasK L.S o.sku o.loc = true then (0 : Int) else 1) = m at h ⊢
  split at h
  · rename_i q; exact absurd h q
  · rename_i q
    split at h
    · rename_i r; exact ⟨er_zero (by simpa using q), r⟩
    · omega
theorem errA_zero {L : Led} {o : Opn} (h : errA L o = 0) : i64b ((findK L.S o.sku o.loc).on + o.qty) ∧ (findK L.S o.sku o.loc).held ≤ (findK L.S o.sku o.loc).on + o.qty ∧ room L (if hasK L.S o.sku o.loc then 0 else 1) 0 1 := by
  unfold errA at h
  generalize (if hasK L.S o.sku o.loc = true then (0 : Int) else 1) = m at h ⊢
  split at h
  · rename_i q; exact absurd h q
  · rename_i q
    split at h
    · omega
    · rename_i q2
      split at h
      · rename_i r; exact ⟨er_zero (by simpa using q), by omega, r⟩
      · omega
theorem free_is' {L : Led} (hm : mayL L) (hf : L.fit) (s t : ByteArray) : vl ((findK L.S s t).on - (findK L.S s t).held) = (findK L.S s t).on - (findK L.S s t).held := by
  have h1 := find_ok hm s t
  have h2 := findK_fit hf.S s t
  have h3 := h2.on
  have h4 := h2.held
  unfold i64b at *
  exact (vl_in (by omega)).1
theorem errH_zero {L : Led} {o : Opn} (hm : mayL L) (hf : L.fit) (h : errH L o = 0) : o.qty ≤ (findK L.S o.sku o.loc).on - (findK L.S o.sku o.loc).held ∧ (L.H.length : Int) + 1 ≤ 4096 := by
  unfold errH at h
  rw [free_is' hm hf] at h
  split at h
  · omega
  · rename_i q
    split at h
    · rename_i r; exact ⟨by omega, r.2.1⟩
    · omega
theorem errT_zero {L : Led} {o : Opn} (hm : mayL L) (hf : L.fit) (h : errT L o = 0) : o.qty ≤ (findK L.S o.sku o.loc).on - (findK L.S o.sku o.loc).held ∧ i64b ((findK L.S o.sku o.to).on + o.qty) ∧ room L (if hasK L.S o.sku o.to then 0 else 1) 0 2 := by
  unfold errT at h
  generalize (if hasK L.S o.sku o.to = true then (0 : Int) else 1) = m at h ⊢
  rw [free_is' hm hf] at h
  split at h
  · omega
  · rename_i q
    split at h
    · rename_i q2; exact absurd h q2
    · rename_i q2
      split at h
      · rename_i r; exact ⟨by omega, er_zero (by simpa using q2), r⟩
      · omega
theorem errC_zero {L : Led} {o : Opn} (h : errC L o = 0) : (∃ x, L.H[(o.id - 1).toNat]? = some x ∧ x.st = 0) ∧ room L 0 0 1 := by
  unfold errC at h
  split at h
  · rename_i q
    split at h
    · rename_i r; exact ⟨act_some q, r⟩
    · omega
  · omega
theorem errU_zero {L : Led} {o : Opn} (h : errU L o = 0) : ∃ x, L.H[(o.id - 1).toNat]? = some x ∧ x.st = 0 := by
  unfold errU at h
  split at h
  · rename_i q; exact act_some q
  · omega
theorem has_of_free {L : Led} {s t : ByteArray} {q : Int} (h1 : 1 ≤ q) (h : q ≤ (findK L.S s t).on - (findK L.S s t).held) : hasK L.S s t = true := by
  cases hk : hasK L.S s t with
  | true => rfl
  | false => rw [findK_no hk] at h; simp at h; omega
end Go.Proofs.Ytflbcheofmljeaa
