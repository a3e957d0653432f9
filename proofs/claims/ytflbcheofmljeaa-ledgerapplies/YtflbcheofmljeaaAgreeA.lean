/- ledger.agrees: the stocks are what holds and movements come to. -/
import Derived.Test.YtflbcheofmljeaaOwn
import Derived.Test.YtflbcheofmljeaaMayS
import Derived.Test.YtflbcheofmljeaaMayHM
namespace Go.Proofs.Ytflbcheofmljeaa
open Go.ChangeShapes Go.WideShapes Go.RowKit
set_option linter.unusedVariables false
set_option maxRecDepth 100000

/-- What is held, and what was moved, of a sku at a place. -/
def heldOf (H : List Hld) (sku loc : ByteArray) : List Int := (H.filter (fun h => decide (h.st = 0 ∧ h.sku = sku ∧ h.loc = loc))).map (fun h => h.qty)
def movedOf (M : List Mov) (sku loc : ByteArray) : List Int := (M.filter (fun m => decide (m.sku = sku ∧ m.loc = loc))).map (fun m => m.delta)
def agreeP (L : Led) : Prop := (∀ h, h ∈ L.H → h.st = 0 → hasK L.S h.sku h.loc = true) ∧ (∀ m, m ∈ L.M → hasK L.S m.sku m.loc = true) ∧ ∀ x, x ∈ L.S → (heldOf L.H x.sku x.loc).sum = x.held ∧ (movedOf L.M x.sku x.loc).sum = x.on
instance (L : Led) : Decidable (agreeP L) := by unfold agreeP; infer_instance
theorem heldOf_snoc (H : List Hld) (i : Nat) (hi : i < H.length) (sku loc : ByteArray) : heldOf (H.take (i + 1)) sku loc = heldOf (H.take i) sku loc ++ (if H[i].st = 0 ∧ H[i].sku = sku ∧ H[i].loc = loc then [H[i].qty] else []) := by
  unfold heldOf
  rw [List.take_succ_eq_append_getElem hi, List.filter_append, List.map_append]
  congr 1
  by_cases c : H[i].st = 0 ∧ H[i].sku = sku ∧ H[i].loc = loc
  · rw [if_pos c]
    simp [c]
  · rw [if_neg c, List.filter_cons_of_neg (by simpa using c)]
    rfl
theorem movedOf_snoc (M : List Mov) (i : Nat) (hi : i < M.length) (sku loc : ByteArray) : movedOf (M.take (i + 1)) sku loc = movedOf (M.take i) sku loc ++ (if M[i].sku = sku ∧ M[i].loc = loc then [M[i].delta] else []) := by
  unfold movedOf
  rw [List.take_succ_eq_append_getElem hi, List.filter_append, List.map_append]
  congr 1
  by_cases c : M[i].sku = sku ∧ M[i].loc = loc
  · rw [if_pos c]
    simp [c]
  · rw [if_neg c, List.filter_cons_of_neg (by simpa using c)]
    rfl
/-- Where the found stock is another. -/
theorem key_at {l : List Stk} (hs : Rises l) {sku loc : ByteArray} (h : hasK l sku loc = true) (k : Nat) (hk : k < l.length) : (sku = l[k].sku ∧ loc = l[k].loc) ↔ k = posK l sku loc := by
  constructor
  · intro e
    exact (posK_of hs hk ⟨e.1.symm, e.2.symm⟩).symm
  · intro e
    obtain ⟨hp, e1⟩ := (hasK_iff hs sku loc).1 h
    subst e
    exact ⟨e1.1.symm, e1.2.symm⟩
theorem Lists.fresh {w : World} {E : Nat → Prop} {q n : Nat} (ho : ¬ E q) (hl : q < w.heap.size) (hf : ∀ j, w.frozen? ⟨q, j, none⟩ = false) (hc : ∀ k, k < n → w.cell? ⟨q, k, none⟩ = some (.slice none 0 0)) : Lists w E q n (fun _ => []) :=
  ⟨ho, hf, hl, fun _ => .slice none 0 0, fun k hk => ⟨hc k hk, World.ownsRow_nil _ _ _ _, fun g hg => by cases hg⟩, fun i j g hi hj hij e => by cases e⟩
theorem dr_make {P : Program} {ops : Array Oper} {o : Oper} {a : Act} {w w' : World} {Q : Exit → Act → World → Prop} {K : Act → World → Prop} {E : Prop} {v : Value} {x y : Operand} {t : TypeId} (hgd : o.guard = none) (ho : o.op = .makeSlice t x y) (hr : (Instr.makeSlice t (a.eval x) (a.eval y)).run P w = .ok v w')
    (hK : K (a.put o.dst v) w') : if Region.wanted o (yielded ops a.tmps) = true then Oper.wp P o a w K Q else E := by
  have hw : Region.wanted o (yielded ops a.tmps) = true := by simp [Region.wanted, hgd]
  rw [if_pos hw]
  unfold Oper.wp execOp
  simp only [ho, Sem.run_bind, Sem.run_pure, Result.andThen_ok, hr]
  exact hK
/-- A list of lists, all empty. -/
structure Bare (w : World) (q n : Nat) : Prop where
  lt : q < w.heap.size
  fz : ∀ j, w.frozen? ⟨q, j, none⟩ = false
  cs : ∀ k, k < n → w.cell? ⟨q, k, none⟩ = some (.slice none 0 0)
theorem Bare.far {w w' : World} {q n : Nat} (h : Bare w q n) (hs : w.heap.size ≤ w'.heap.size) (hb : w'.heap[q]? = w.heap[q]?) : Bare w' q n :=
  ⟨Nat.lt_of_lt_of_le h.lt hs, fun j => (World.frozen?_of_block (a := ⟨q, j, none⟩) hb).trans (h.fz j), fun k hk => (World.cell?_of_block (a := ⟨q, k, none⟩) hb).trans (h.cs k hk)⟩
theorem Bare.next {w w' : World} {q n : Nat} (h : Bare w q n) (hb : Below w.heap.size w w') : Bare w' q n := h.far hb.size (hb.block q h.lt)
theorem make_lists (w : World) (n : Nat) (hn : n ≤ 1000000) (B : Nat) (hB : w.heap.size = B) : ∃ w', (Instr.makeSlice 91 (.int .i64 (n : Int)) (.int .i64 (n : Int))).run Try.prog w = .ok (.slice (some ⟨B, 0, none⟩) n n) w' ∧ Bare w' B n ∧ Below w.heap.size w w' ∧ w'.heap.size = B + 1 := by
  subst hB
  obtain ⟨i, hi, hz, h1, h2⟩ := info_of info64
  have hr := run_makeSlice (P := Try.prog) w 91 64 i _ Try.underlying91 hi hz .i64 .i64 (n : Int) (n : Int) (by omega) (by omega) (by rw [h1]; omega) (by rw [h2]; omega) (by omega)
  rw [h1, show (Value.slice none 0 0).cells = #[.slice none 0 0] from rfl] at hr
  simp only [Int.toNat_natCast, Nat.mul_one] at hr
  refine ⟨_, hr, ⟨by simp, fun j => by simp, fun k hk => ?_⟩, below1 _ _, by simp⟩
  have hl := toList_madeCells_one (.slice none 0 0) n
  have : (madeCells #[.slice none 0 0] n)[k]? = some (.slice none 0 0) := by
    rw [← Array.getElem?_toList, hl]
    simp [hk]
  simp [this]
end Go.Proofs.Ytflbcheofmljeaa
