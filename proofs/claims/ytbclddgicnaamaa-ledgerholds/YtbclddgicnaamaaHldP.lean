/- A hold that is made, released, committed: without memory. -/
import Derived.Test.YtbclddgicnaamaaLate
namespace Go.Proofs.Ytbclddgicnaamaa
open Go.ChangeShapes Go.WideShapes Go.RowKit
set_option linter.unusedVariables false
set_option maxRecDepth 100000

theorem and_7 (n : Int) : bits .and .i64 n 7 = n % 8 := by
  have h : (BitVec.ofInt 64 7).toNat = 2 ^ 3 - 1 := by decide
  have key : (BitVec.ofInt 64 n &&& BitVec.ofInt 64 7).toNat = (n % ((2 ^ 64 : Nat) : Int)).toNat % 2 ^ 3 := by
    rw [BitVec.toNat_and, BitVec.toNat_ofInt, h, Nat.and_two_pow_sub_one_eq_mod]
  show IntKind.i64.wrap ((BitVec.ofInt 64 n &&& BitVec.ofInt 64 7).toNat : Nat) = n % 8
  rw [key, IntKind.wrap_i64]
  omega
abbrev oH (s : Stk) (n : Int) : Opn := ⟨2, s.sku, s.loc, tN, n, 0, 0⟩
abbrev oE (k id : Int) : Opn := ⟨k, tN, tN, tN, 0, id, 0⟩
theorem oH_may {L : Led} (hm : mayL L) {s : Stk} (hs : s ∈ L.S) {n : Int} (hn : 1 ≤ n) : (oH s n).may := by
  have h := hm.S.1 s hs
  exact .inr (.inl ⟨rfl, ⟨h.1, h.2.1⟩, rfl, hn, rfl, Int.le_refl _⟩)
theorem oH_err {L : Led} (hm : mayL L) (hf : L.fit) (hw : Few 20 L) {s : Stk} (hs : s ∈ L.S) {n : Int} (hn : 1 ≤ n) : doE L (oH s n) = if n ≤ s.on - s.held then 0 else 70 := by
  refine doE_of (oH_may hm hs hn) ?_ (by have := hw.ops; omega)
  show errH L (oH s n) = _
  unfold errH
  rw [free_is' hm hf]
  have e : findK L.S s.sku s.loc = s := find_of hm.S.2 hs
  show (if (findK L.S s.sku s.loc).on - (findK L.S s.sku s.loc).held < n then (70 : Int) else if room L 0 1 0 then 0 else 2) = _
  rw [e]
  by_cases c : n ≤ s.on - s.held
  · rw [if_neg (by omega), if_pos c, if_pos]
    have h1 := hm.room
    have h2 := hw.H
    unfold room at h1 ⊢
    omega
  · rw [if_pos (by omega), if_neg c]
def xH (L : Led) (s : Stk) (n : Int) : Hld := ⟨(L.H.length : Int) + 1, s.sku, s.loc, n, 0, 0⟩
theorem oH_H (L : Led) (s : Stk) (n : Int) : (doL L (oH s n)).H = L.H ++ [xH L s n] := rfl
theorem oH_M (L : Led) (s : Stk) (n : Int) : (doL L (oH s n)).M = L.M := rfl
theorem oH_find {L : Led} (hm : mayL L) {s : Stk} (hs : s ∈ L.S) (n : Int) : findK (doL L (oH s n)).S s.sku s.loc = ⟨s.sku, s.loc, s.on, s.held + n⟩ := by
  have e : findK L.S s.sku s.loc = s := find_of hm.S.2 hs
  show findK (addHeld L.S s.sku s.loc n) s.sku s.loc = _
  rw [addHeld_upd, e]
  exact find_upd_same' hm.S.2 _ _ _ rfl rfl
theorem oH_at (L : Led) (s : Stk) (n : Int) : (doL L (oH s n)).H[((L.H.length : Int) + 1 - 1).toNat]? = some (xH L s n) := by
  rw [oH_H, show ((L.H.length : Int) + 1 - 1).toNat = L.H.length by omega]
  simp
theorem oE_may {k id : Int} (hk : k = 3 ∨ k = 4) (hid : 1 ≤ id) : (oE k id).may := .inr (.inr (.inl ⟨hk, ⟨rfl, rfl⟩, rfl, rfl, hid, rfl⟩))
theorem oE_err {A : Led} (hm : mayL A) (hw : Few 22 A) {k id : Int} (hk : k = 3 ∨ k = 4) (hid : 1 ≤ id) {x : Hld} (hx : A.H[(id - 1).toNat]? = some x) : doE A (oE k id) = if x.st = 0 then 0 else 71 := by
  have ha : actL A.H id = decide (x.st = 0) := by unfold actL; rw [hx]
  have hr : room A 0 0 1 := by
    have h1 := hm.room
    have h2 := hw.M
    unfold room at h1 ⊢
    omega
  refine doE_of (oE_may hk hid) ?_ (by have := hw.ops; omega)
  rcases hk with rfl | rfl
  · show errC A (oE 3 id) = _
    unfold errC
    show (if actL A.H id then (if room A 0 0 1 then (0 : Int) else 2) else 71) = _
    rw [ha, if_pos hr]
    by_cases c : x.st = 0 <;> simp [c]
  · show errU A (oE 4 id) = _
    unfold errU
    show (if actL A.H id then (0 : Int) else 71) = _
    rw [ha]
    by_cases c : x.st = 0 <;> simp [c]
theorem oU_do {A : Led} {id : Int} {x : Hld} (hx : A.H[(id - 1).toNat]? = some x) : chL A (oE 4 id) = endL A (id - 1).toNat x 2 := by
  unfold chL
  show (match A.H[(id - 1).toNat]? with | some x => endL A (id - 1).toNat x 2 | none => A) = _
  rw [hx]
theorem oC_do {A : Led} {id : Int} {x : Hld} (hx : A.H[(id - 1).toNat]? = some x) : chL A (oE 3 id) = mvL (endL A (id - 1).toNat x 1) 3 x.sku x.loc (-x.qty) x.id := by
  unfold chL
  show (match A.H[(id - 1).toNat]? with | some x => mvL (endL A (id - 1).toNat x 1) 3 x.sku x.loc (-x.qty) x.id | none => A) = _
  rw [hx]
/-- What a hold is behind which it is over. -/
structure OverF (L : Led) (s : Stk) (n k : Int) : Prop where
  e1 : doE L (oH s n) = 0
  fA : findK (doL L (oH s n)).S s.sku s.loc = ⟨s.sku, s.loc, s.on, s.held + n⟩
  hA : (doL L (oH s n)).H = L.H ++ [xH L s n]
  mA : mayL (doL L (oH s n)) ∧ (doL L (oH s n)).fit
  e2 : doE (doL L (oH s n)) (oE k ((L.H.length : Int) + 1)) = 0
  fB : findK (doL (doL L (oH s n)) (oE k ((L.H.length : Int) + 1))).S s.sku s.loc = ⟨s.sku, s.loc, s.on - (if k = 3 then n else 0), s.held⟩
  mB : mayL (doL (doL L (oH s n)) (oE k ((L.H.length : Int) + 1))) ∧ (doL (doL L (oH s n)) (oE k ((L.H.length : Int) + 1))).fit
  e3 : doE (doL (doL L (oH s n)) (oE k ((L.H.length : Int) + 1))) (oE k ((L.H.length : Int) + 1)) = 71
theorem fit8 {s : Stk} {n : Int} (hn : 1 ≤ n ∧ n ≤ 8) : (oH s n).fit := ⟨by unfold i64b; dsimp only; omega, by unfold i64b; dsimp only; omega, by unfold i64b; dsimp only; omega, by unfold i64b; dsimp only; omega⟩
theorem fitE {k id : Int} (hk : k = 3 ∨ k = 4) (hid : 0 ≤ id ∧ id ≤ 100000) : (oE k id).fit := ⟨by unfold i64b; dsimp only; omega, by unfold i64b; dsimp only; omega, by unfold i64b; dsimp only; omega, by unfold i64b; dsimp only; omega⟩
theorem over_of {L : Led} (hm : mayL L) (hf : L.fit) (hw : Few 20 L) {s : Stk} (hs : s ∈ L.S) {n : Int} (hn : 1 ≤ n ∧ n ≤ 8) (hfree : n ≤ s.on - s.held) {k : Int} (hk : k = 3 ∨ k = 4) : OverF L s n k := by
  have e1 : doE L (oH s n) = 0 := by rw [oH_err hm hf hw hs hn.1, if_pos hfree]
  have mA := do_may hm hf (fit8 hn) e1
  have wA := few_do hw e1
  have hx := oH_at L s n
  have hl := hw.H
  have hid : (0 : Int) ≤ (L.H.length : Int) + 1 ∧ (L.H.length : Int) + 1 ≤ 100000 := by omega
  have e2 : doE (doL L (oH s n)) (oE k ((L.H.length : Int) + 1)) = 0 := by rw [oE_err mA.1 (wA.mono (by omega)) hk (by omega) hx]; rfl
  have mB := do_may mA.1 mA.2 (fitE hk hid) e2
  have hB : (doL (doL L (oH s n)) (oE k ((L.H.length : Int) + 1))).H[((L.H.length : Int) + 1 - 1).toNat]? = some { xH L s n with st := if k = 3 then 1 else 2 } := by
    have hlt := (List.getElem?_eq_some_iff.1 hx).1
    rcases hk with rfl | rfl
    · show (chL (doL L (oH s n)) (oE 3 ((L.H.length : Int) + 1))).H[_]? = _
      rw [oC_do hx]
      show ((doL L (oH s n)).H.set _ _)[_]? = _
      rw [List.getElem?_set_self hlt]
      rfl
    · show (chL (doL L (oH s n)) (oE 4 ((L.H.length : Int) + 1))).H[_]? = _
      rw [oU_do hx]
      show ((doL L (oH s n)).H.set _ _)[_]? = _
      rw [List.getElem?_set_self hlt]
      rfl
  have fA := oH_find hm hs n
  refine ⟨e1, fA, oH_H L s n, mA, e2, ?_, mB, ?_⟩
  · rcases hk with rfl | rfl
    · show findK (chL (doL L (oH s n)) (oE 3 ((L.H.length : Int) + 1))).S s.sku s.loc = _
      rw [oC_do hx]
      have h1 := (endL_find mA.1.S.2 ((L.H.length : Int) + 1 - 1).toNat (xH L s n) 1).1
      have hr : Rises (endL (doL L (oH s n)) ((L.H.length : Int) + 1 - 1).toNat (xH L s n) 1).S := (endL_may mA.1 hx rfl (.inl rfl)).1.S.2
      have h2 := find_mv_same hr 3 s.sku s.loc (-n) ((L.H.length : Int) + 1)
      show findK (mvL (endL (doL L (oH s n)) ((L.H.length : Int) + 1 - 1).toNat (xH L s n) 1) 3 s.sku s.loc (-n) ((L.H.length : Int) + 1)).S s.sku s.loc = _
      have h1' : findK (endL (doL L (oH s n)) ((L.H.length : Int) + 1 - 1).toNat (xH L s n) 1).S s.sku s.loc = { findK (doL L (oH s n)).S s.sku s.loc with held := (findK (doL L (oH s n)).S s.sku s.loc).held + -n } := h1
      rw [h2, h1', fA]
      show Stk.mk s.sku s.loc (s.on + -n) (s.held + n + -n) = Stk.mk s.sku s.loc (s.on - n) s.held
      congr 1 <;> omega
    · show findK (chL (doL L (oH s n)) (oE 4 ((L.H.length : Int) + 1))).S s.sku s.loc = _
      rw [oU_do hx]
      have h1' : findK (endL (doL L (oH s n)) ((L.H.length : Int) + 1 - 1).toNat (xH L s n) 2).S s.sku s.loc = { findK (doL L (oH s n)).S s.sku s.loc with held := (findK (doL L (oH s n)).S s.sku s.loc).held + -n } := (endL_find mA.1.S.2 ((L.H.length : Int) + 1 - 1).toNat (xH L s n) 2).1
      rw [h1', fA]
      show Stk.mk s.sku s.loc s.on (s.held + n + -n) = Stk.mk s.sku s.loc (s.on - 0) s.held
      congr 1 <;> omega
  · have wB := few_do wA e2
    have : doE (doL (doL L (oH s n)) (oE k ((L.H.length : Int) + 1))) (oE k ((L.H.length : Int) + 1)) = if (if k = 3 then (1 : Int) else 2) = 0 then 0 else 71 := oE_err mB.1 wB hk (by omega) hB
    rw [this, if_neg]
    rcases hk with rfl | rfl <;> decide
end Go.Proofs.Ytbclddgicnaamaa
