/- ledger.agrees: the call. -/
import Derived.Test.YtflbcheofmljeaaAgreeA
namespace Go.Proofs.Ytflbcheofmljeaa
open Go.ChangeShapes Go.WideShapes Go.RowKit
set_option linter.unusedVariables false
set_option maxRecDepth 100000

/-- What the call has laid ahead of its loops. -/
structure Env (w W : World) (N p q : Nat) (a0 : Option Addr) (n0 c0 : Nat) (a1 : Option Addr) (n1 c1 : Nat) (a2 : Option Addr) (n2 c2 : Nat) (ops : Int) : Prop where
  bel : Below N w W
  led : CellsF W N [.slice a0 n0 c0, .slice a1 n1 c1, .slice a2 n2 c2, .int .i64 ops]
  fnd : ∃ sb, W.cell? ⟨N + 4, 0, none⟩ = some (.func (.func 81) #[] #[.pointer (some ⟨sb, 0, none⟩)]) ∧ W.cell? ⟨sb, 0, none⟩ = some (.slice a0 n0 c0) ∧ sb = N + 3
  pB : Bare W p n0
  qB : Bare W q n0
  ne : p ≠ q ∧ (p = N + 1 ∨ p = N + 2) ∧ (q = N + 1 ∨ q = N + 2)
  sz : W.heap.size = N + 5

/-- Loop 1: what is held. -/
structure In1 (W wr : World) (p n0 i : Nat) (S : List Stk) (H : List Hld) (f : Nat → List Int) : Prop where
  stay : Stay (fun k => k < W.heap.size ∧ k ≠ p) W wr
  ls : Lists wr (fun k => k < W.heap.size ∧ k ≠ p) p n0 f
  eq : ∀ k (h : k < S.length), f k = heldOf (H.take i) S[k].sku S[k].loc
  len : ∀ k, (f k).length ≤ i
  has : ∀ j (h : j < H.length), j < i → H[j].st = 0 → hasK S H[j].sku H[j].loc = true
structure In2 (W wr : World) (q n0 i : Nat) (S : List Stk) (M : List Mov) (f : Nat → List Int) : Prop where
  stay : Stay (fun k => k < W.heap.size ∧ k ≠ q) W wr
  ls : Lists wr (fun k => k < W.heap.size ∧ k ≠ q) q n0 f
  eq : ∀ k (h : k < S.length), f k = movedOf (M.take i) S[k].sku S[k].loc
  len : ∀ k, (f k).length ≤ i
  has : ∀ j (h : j < M.length), j < i → hasK S M[j].sku M[j].loc = true
theorem In1.more {W wr w' : World} {p n0 i : Nat} {S : List Stk} {H : List Hld} {f : Nat → List Int} (h : In1 W wr p n0 i S H f) (hs : Rises S) (hi : i < H.length) (h0 : H[i].st = 0) (hk : hasK S H[i].sku H[i].loc = true)
    (ls : Lists w' (fun k => k < W.heap.size ∧ k ≠ p) p n0 (more1 f (posK S H[i].sku H[i].loc) H[i].qty)) (st : Stay (fun k => k < W.heap.size ∧ k ≠ p) wr w') : In1 W w' p n0 (i + 1) S H (more1 f (posK S H[i].sku H[i].loc) H[i].qty) := by
  refine ⟨h.stay.trans st, ls, fun k hkl => ?_, fun k => ?_, fun j hj hlt hst => ?_⟩
  · rw [heldOf_snoc H i hi]
    have := key_at hs hk k hkl
    unfold more1
    by_cases c : k = posK S H[i].sku H[i].loc
    · rw [if_pos c, if_pos ⟨h0, this.2 c⟩, h.eq k hkl]
    · rw [if_neg c, if_neg (fun q => c (this.1 q.2)), List.append_nil, h.eq k hkl]
  · unfold more1
    have := h.len k
    split
    · rw [List.length_append]; simp; omega
    · omega
  · by_cases c : j = i
    · subst c; exact hk
    · exact h.has j hj (by omega) hst
theorem In1.pass {W wr w' : World} {p n0 i : Nat} {S : List Stk} {H : List Hld} {f : Nat → List Int} (h : In1 W wr p n0 i S H f) (hi : i < H.length) (h0 : ¬ H[i].st = 0) (b : Below wr.heap.size wr w') : In1 W w' p n0 (i + 1) S H f := by
  refine ⟨h.stay.below b (fun k q => q.1), h.ls.next b, fun k hkl => ?_, fun k => Nat.le_succ_of_le (h.len k), fun j hj hlt hst => ?_⟩
  · rw [heldOf_snoc H i hi, if_neg (fun q => h0 q.1), List.append_nil, h.eq k hkl]
  · by_cases c : j = i
    · subst c; exact absurd hst h0
    · exact h.has j hj (by omega) hst
theorem In2.more {W wr w' : World} {p n0 i : Nat} {S : List Stk} {H : List Mov} {f : Nat → List Int} (h : In2 W wr p n0 i S H f) (hs : Rises S) (hi : i < H.length) (hk : hasK S H[i].sku H[i].loc = true)
    (ls : Lists w' (fun k => k < W.heap.size ∧ k ≠ p) p n0 (more1 f (posK S H[i].sku H[i].loc) H[i].delta)) (st : Stay (fun k => k < W.heap.size ∧ k ≠ p) wr w') : In2 W w' p n0 (i + 1) S H (more1 f (posK S H[i].sku H[i].loc) H[i].delta) := by
  refine ⟨h.stay.trans st, ls, fun k hkl => ?_, fun k => ?_, fun j hj hlt => ?_⟩
  · rw [movedOf_snoc H i hi]
    have := key_at hs hk k hkl
    unfold more1
    by_cases c : k = posK S H[i].sku H[i].loc
    · rw [if_pos c, if_pos (this.2 c), h.eq k hkl]
    · rw [if_neg c, if_neg (fun q => c (this.1 q)), List.append_nil, h.eq k hkl]
  · unfold more1
    have := h.len k
    split
    · rw [List.length_append]; simp; omega
    · omega
  · by_cases c : j = i
    · subst c; exact hk
    · exact h.has j hj (by omega)
theorem Env.stay {w W W' : World} {N p q x : Nat} {a0 : Option Addr} {n0 c0 : Nat} {a1 : Option Addr} {n1 c1 : Nat} {a2 : Option Addr} {n2 c2 : Nat} {ops : Int} (h : Env w W N p q a0 n0 c0 a1 n1 c1 a2 n2 c2 ops) (s : Stay (fun k => k < W.heap.size ∧ k ≠ x) W W') (hx : x = N + 1 ∨ x = N + 2) :
    Below N w W' ∧ CellsF W' N [.slice a0 n0 c0, .slice a1 n1 c1, .slice a2 n2 c2, .int .i64 ops] ∧ (W'.cell? ⟨N + 4, 0, none⟩ = some (.func (.func 81) #[] #[.pointer (some ⟨N + 3, 0, none⟩)]) ∧ W'.cell? ⟨N + 3, 0, none⟩ = some (.slice a0 n0 c0)) := by
  obtain ⟨sb, f1, f2, rfl⟩ := h.fnd
  have hz := h.sz
  refine ⟨h.bel.trans ⟨s.os, s.tape, s.output, s.size, fun k hk => s.block k ⟨by omega, by omega⟩⟩, h.led.far (s.block N ⟨by omega, by omega⟩), ?_, ?_⟩
  · exact (World.cell?_of_block (a := ⟨N + 4, 0, none⟩) (s.block (N + 4) ⟨by omega, by omega⟩)).trans f1
  · exact (World.cell?_of_block (a := ⟨N + 3, 0, none⟩) (s.block (N + 3) ⟨by omega, by omega⟩)).trans f2
end Go.Proofs.Ytflbcheofmljeaa
