/- Cells that may be written, and what stays. -/
import Derived.Test.YtflbcheofmljeaaBase
namespace Go.Proofs.Ytflbcheofmljeaa
open Go.ChangeShapes Go.WideShapes Go.RowKit
set_option linter.unusedVariables false
set_option maxRecDepth 100000

theorem end_cell_tmp {fn : Func} {p u : Tmp} {ty : TypeId} {b : Addr} {v : Value} {tmps : Array Value} {w : World} (h : fn.results = #[.cell p ty, .tmp u]) (hp : tmps.getD p undef = .pointer (some b)) (hl : (loadVar ty b).run Try.prog w = .ok v w) :
    (results fn tmps).run Try.prog w = .ok (.tuple #[v, tmps.getD u undef]) w := by
  rw [results_cell_tmp h, hp]
  simp [asAddr, hl, Result.andThen]
theorem end_cell {fn : Func} {p : Tmp} {ty : TypeId} {b : Addr} {v : Value} {tmps : Array Value} {w : World} (h : fn.results = #[.cell p ty]) (hp : tmps.getD p undef = .pointer (some b)) (hl : (loadVar ty b).run Try.prog w = .ok v w) :
    (results fn tmps).run Try.prog w = .ok v w := by
  have hp' : tmps[p]?.getD undef = .pointer (some b) := by rw [← Array.getD_eq_getD_getElem?]; exact hp
  simp only [results, h]
  simp [hp', asAddr, hl]
theorem loads {w : World} {b o n : Nat} (cs : List Value) (hn : cs.length = n) (h : ∀ j x, cs[j]? = some x → w.cell? ⟨b, o + j, none⟩ = some x) : (loadCellsFrom ⟨b, o, none⟩ 0 n #[]).run Try.prog w = .ok cs.toArray w := by
  have := run_loadCells_list (P := Try.prog) w ⟨b, o, none⟩ cs (fun j x hx => by rw [Go.WideShapes.add_plain]; exact h j x hx)
  rw [hn] at this
  exact this
theorem cell_put {w : World} {b c i j : Nat} (u : Value) (h : ¬ (b = c ∧ i = j)) : (w.setCell ⟨b, i, none⟩ u).cell? ⟨c, j, none⟩ = w.cell? ⟨c, j, none⟩ :=
  World.cell?_setCell_other _ _ _ _ (fun e => h (by cases e; exact ⟨rfl, rfl⟩))
/-- Cells of a block, and that they may be written. -/
structure CellsF (w : World) (b : Nat) (l : List Value) : Prop where
  cs : ∀ i v, l[i]? = some v → w.cell? ⟨b, i, none⟩ = some v
  fz : ∀ j, w.frozen? ⟨b, j, none⟩ = false
  ne : l ≠ []
theorem CellsF.lt {w : World} {b : Nat} {l : List Value} (h : CellsF w b l) : b < w.heap.size := by
  cases l with
  | nil => exact absurd rfl h.ne
  | cons x r => exact World.block_lt_of_cell? w _ (h.cs 0 x rfl)
theorem CellsF.far {w w' : World} {b : Nat} {l : List Value} (h : CellsF w b l) (hb : w'.heap[b]? = w.heap[b]?) : CellsF w' b l :=
  ⟨fun i v q => (World.cell?_of_block (a := ⟨b, i, none⟩) hb).trans (h.cs i v q), fun j => (World.frozen?_of_block (a := ⟨b, j, none⟩) hb).trans (h.fz j), h.ne⟩
theorem CellsF.next {w w' : World} {b : Nat} {l : List Value} (h : CellsF w b l) (q : Below w.heap.size w w') : CellsF w' b l := h.far (q.block b h.lt)
theorem CellsF.new (w : World) (l : List Value) (t : TypeId) (hl : l ≠ []) : CellsF (w.alloc (.cells l.toArray t)) w.heap.size l :=
  ⟨fun i v q => by simp [q], fun j => by simp, hl⟩
/-- One cell is written. -/
theorem CellsF.set {w : World} {b : Nat} {l : List Value} (h : CellsF w b l) (i : Nat) (v : Value) (hi : i < l.length) : CellsF (w.setCell ⟨b, i, none⟩ v) b (l.set i v) := by
  refine ⟨fun j u q => ?_, fun j => (World.frozen?_setCells b [v] i w _).trans (h.fz j), fun e => ?_⟩
  · by_cases hij : j = i
    · subst hij
      rw [List.getElem?_set_self hi] at q
      cases q
      obtain ⟨x, hx⟩ : ∃ x, l[j]? = some x := ⟨l[j], List.getElem?_eq_getElem hi⟩
      exact World.cell?_setCell_same' _ _ _ (by rw [h.cs j x hx]; rfl)
    · rw [List.getElem?_set_ne (Ne.symm hij)] at q
      exact (cell_put v (fun e => hij e.2.symm)).trans (h.cs j u q)
  · have := congrArg List.length e
    rw [List.length_set] at this
    exact h.ne (List.eq_nil_of_length_eq_zero this)
theorem below_set {B : Nat} {w w' : World} (h : Below B w w') (x o : Nat) (u : Value) (hx : B ≤ x) : Below B w (w'.setCell ⟨x, o, none⟩ u) :=
  ⟨h.os, h.tape, h.output, by simpa using h.size, fun i hi => (Below.heap_setCell w' ⟨x, o, none⟩ u i (fun e => by have e' : i = x := e; omega)).trans (h.block i hi)⟩
theorem CellsF.four {w : World} {b : Nat} {l : List Value} (h : CellsF w b l) (hl : l.length = 4) (v0 v1 v2 v3 : Value) :
    CellsF ((((w.setCell ⟨b, 0, none⟩ v0).setCell ⟨b, 1, none⟩ v1).setCell ⟨b, 2, none⟩ v2).setCell ⟨b, 3, none⟩ v3) b [v0, v1, v2, v3] := by
  match l, hl with
  | [u0, u1, u2, u3], _ => exact (((h.set 0 v0 (by simp)).set 1 v1 (by simp)).set 2 v2 (by simp)).set 3 v3 (by simp)
theorem below_four {B : Nat} {w w' : World} (h : Below B w w') (b : Nat) (hb : B ≤ b) (v0 v1 v2 v3 : Value) :
    Below B w ((((w'.setCell ⟨b, 0, none⟩ v0).setCell ⟨b, 1, none⟩ v1).setCell ⟨b, 2, none⟩ v2).setCell ⟨b, 3, none⟩ v3) :=
  below_set (below_set (below_set (below_set h _ _ _ hb) _ _ _ hb) _ _ _ hb) _ _ _ hb
theorem CellsF.six {w : World} {b : Nat} {l : List Value} (h : CellsF w b l) (hl : l.length = 6) (v0 v1 v2 v3 v4 v5 : Value) :
    CellsF ((((((w.setCell ⟨b, 0, none⟩ v0).setCell ⟨b, 1, none⟩ v1).setCell ⟨b, 2, none⟩ v2).setCell ⟨b, 3, none⟩ v3).setCell ⟨b, 4, none⟩ v4).setCell ⟨b, 5, none⟩ v5) b [v0, v1, v2, v3, v4, v5] := by
  match l, hl with
  | [u0, u1, u2, u3, u4, u5], _ => exact (((((h.set 0 v0 (by simp)).set 1 v1 (by simp)).set 2 v2 (by simp)).set 3 v3 (by simp)).set 4 v4 (by simp)).set 5 v5 (by simp)
theorem below_six {B : Nat} {w w' : World} (h : Below B w w') (b : Nat) (hb : B ≤ b) (v0 v1 v2 v3 v4 v5 : Value) :
    Below B w ((((((w'.setCell ⟨b, 0, none⟩ v0).setCell ⟨b, 1, none⟩ v1).setCell ⟨b, 2, none⟩ v2).setCell ⟨b, 3, none⟩ v3).setCell ⟨b, 4, none⟩ v4).setCell ⟨b, 5, none⟩ v5) :=
  below_set (below_set (below_set (below_set (below_set (below_set h _ _ _ hb) _ _ _ hb) _ _ _ hb) _ _ _ hb) _ _ _ hb) _ _ _ hb
theorem CellsF.seven {w : World} {b : Nat} {l : List Value} (h : CellsF w b l) (hl : l.length = 7) (v0 v1 v2 v3 v4 v5 v6 : Value) :
    CellsF (((((((w.setCell ⟨b, 0, none⟩ v0).setCell ⟨b, 1, none⟩ v1).setCell ⟨b, 2, none⟩ v2).setCell ⟨b, 3, none⟩ v3).setCell ⟨b, 4, none⟩ v4).setCell ⟨b, 5, none⟩ v5).setCell ⟨b, 6, none⟩ v6) b [v0, v1, v2, v3, v4, v5, v6] := by
  match l, hl with
  | [u0, u1, u2, u3, u4, u5, u6], _ =>
    exact ((((((h.set 0 v0 (by simp)).set 1 v1 (by simp)).set 2 v2 (by simp)).set 3 v3 (by simp)).set 4 v4 (by simp)).set 5 v5 (by simp)).set 6 v6 (by simp)
theorem below_seven {B : Nat} {w w' : World} (h : Below B w w') (b : Nat) (hb : B ≤ b) (v0 v1 v2 v3 v4 v5 v6 : Value) :
    Below B w (((((((w'.setCell ⟨b, 0, none⟩ v0).setCell ⟨b, 1, none⟩ v1).setCell ⟨b, 2, none⟩ v2).setCell ⟨b, 3, none⟩ v3).setCell ⟨b, 4, none⟩ v4).setCell ⟨b, 5, none⟩ v5).setCell ⟨b, 6, none⟩ v6) :=
  below_set (below_set (below_set (below_set (below_set (below_set (below_set h _ _ _ hb) _ _ _ hb) _ _ _ hb) _ _ _ hb) _ _ _ hb) _ _ _ hb) _ _ _ hb
theorem loadStk {w : World} {b : Nat} (l : List Value) (h : CellsF w b l) (hn : l.length = 4) : (loadVar 50 ⟨b, 0, none⟩).run Try.prog w = .ok (.agg l.toArray) w := by
  have hl := loads l (n := 4) (w := w) (b := b) (o := 0) hn (fun j x hx => by rw [Nat.zero_add]; exact h.cs j x hx)
  simp [loadVar, Sem.run_bind, loadCells, hl]
theorem loadHld {w : World} {b : Nat} (l : List Value) (h : CellsF w b l) (hn : l.length = 6) : (loadVar 44 ⟨b, 0, none⟩).run Try.prog w = .ok (.agg l.toArray) w := by
  have hl := loads l (n := 6) (w := w) (b := b) (o := 0) hn (fun j x hx => by rw [Nat.zero_add]; exact h.cs j x hx)
  simp [loadVar, Sem.run_bind, loadCells, hl]
theorem loadMov {w : World} {b : Nat} (l : List Value) (h : CellsF w b l) (hn : l.length = 6) : (loadVar 42 ⟨b, 0, none⟩).run Try.prog w = .ok (.agg l.toArray) w := by
  have hl := loads l (n := 6) (w := w) (b := b) (o := 0) hn (fun j x hx => by rw [Nat.zero_add]; exact h.cs j x hx)
  simp [loadVar, Sem.run_bind, loadCells, hl]
theorem loadLed {w : World} {b : Nat} (l : List Value) (h : CellsF w b l) (hn : l.length = 4) : (loadVar 26 ⟨b, 0, none⟩).run Try.prog w = .ok (.agg l.toArray) w := by
  have hl := loads l (n := 4) (w := w) (b := b) (o := 0) hn (fun j x hx => by rw [Nat.zero_add]; exact h.cs j x hx)
  simp [loadVar, Sem.run_bind, loadCells, hl]
theorem loadOp {w : World} {b : Nat} (l : List Value) (h : CellsF w b l) (hn : l.length = 7) : (loadVar 28 ⟨b, 0, none⟩).run Try.prog w = .ok (.agg l.toArray) w := by
  have hl := loads l (n := 7) (w := w) (b := b) (o := 0) hn (fun j x hx => by rw [Nat.zero_add]; exact h.cs j x hx)
  simp [loadVar, Sem.run_bind, loadCells, hl]
theorem CellsF.at {w : World} {B : Nat} (l : List Value) (t : TypeId) (hl : l ≠ []) (hB : B = w.heap.size) : CellsF (w.alloc (.cells l.toArray t)) B l := by
  subst hB
  exact CellsF.new w l t hl
theorem size_alloc (w : World) (o : Obj) : (w.alloc o).heap.size = w.heap.size + 1 := by simp
/-- Some blocks stay. -/
structure Stay (E : Nat → Prop) (w w' : World) : Prop where
  os : w'.os = w.os
  tape : w'.tape = w.tape
  output : w'.output = w.output
  size : w.heap.size ≤ w'.heap.size
  block : ∀ k, E k → w'.heap[k]? = w.heap[k]?
theorem Stay.refl (E : Nat → Prop) (w : World) : Stay E w w := ⟨rfl, rfl, rfl, Nat.le_refl _, fun _ _ => rfl⟩
theorem Stay.trans {E : Nat → Prop} {a b c : World} (h : Stay E a b) (k : Stay E b c) : Stay E a c :=
  ⟨k.os.trans h.os, k.tape.trans h.tape, k.output.trans h.output, Nat.le_trans h.size k.size, fun i hi => (k.block i hi).trans (h.block i hi)⟩
theorem Stay.drew {E : Nat → Prop} {a w : World} (h : Stay E a w) : Stay E a w.drew := ⟨h.os, h.tape, h.output, h.size, h.block⟩
theorem Stay.below {E : Nat → Prop} {a b c : World} (h : Stay E a b) (k : Below b.heap.size b c) (hE : ∀ i, E i → i < a.heap.size) : Stay E a c :=
  ⟨k.os.trans h.os, k.tape.trans h.tape, k.output.trans h.output, Nat.le_trans h.size k.size, fun i hi => (k.block i (Nat.lt_of_lt_of_le (hE i hi) h.size)).trans (h.block i hi)⟩
theorem Stay.alloc {E : Nat → Prop} {a w : World} (h : Stay E a w) (hE : ∀ i, E i → i < a.heap.size) (o : Obj) : Stay E a (w.alloc o) := h.below (below1 _ _) hE
theorem Stay.setCell {E : Nat → Prop} {a w : World} (h : Stay E a w) {p : Addr} (hp : ¬ E p.block) (u : Value) : Stay E a (w.setCell p u) :=
  ⟨h.os, h.tape, h.output, by simpa using h.size, fun i hi => (Below.heap_setCell w p u i (fun e => by subst e; exact hp hi)).trans (h.block i hi)⟩
theorem Stay.setCells {E : Nat → Prop} {a : World} {b : Nat} (hb : ¬ E b) : ∀ (vs : List Value) (o : Nat) (w : World), Stay E a w → Stay E a (w.setCells b o vs)
  | [], _, _, h => h
  | v :: r, o, w, h => Stay.setCells hb r (o + 1) _ (h.setCell (p := ⟨b, o, none⟩) hb v)
theorem Stay.grown {E : Nat → Prop} {a w w' : World} {row : Option Nat} (h : Stay E a w) (hg : w.grownBy w' row) (hE : ∀ i, E i → i < a.heap.size) (hr : ∀ k, row = some k → ¬ E k) : Stay E a w' :=
  ⟨hg.os.trans h.os, hg.tape.trans h.tape, hg.output.trans h.output, Nat.le_trans h.size hg.size, fun i hi =>
    (hg.block i (Nat.lt_of_lt_of_le (hE i hi) h.size) (fun e => hr i e.symm hi)).trans (h.block i hi)⟩
theorem Stay.mono {E E' : Nat → Prop} {a b : World} (h : Stay E a b) (hE : ∀ i, E' i → E i) : Stay E' a b := ⟨h.os, h.tape, h.output, h.size, fun i hi => h.block i (hE i hi)⟩
theorem Stay.to_below {B : Nat} {a b : World} (h : Stay (fun k => k < B) a b) : Below B a b := ⟨h.os, h.tape, h.output, h.size, h.block⟩
theorem stay_of_below {B : Nat} {E : Nat → Prop} {a b : World} (h : Below B a b) (hE : ∀ i, E i → i < B) : Stay E a b := ⟨h.os, h.tape, h.output, h.size, fun i hi => h.block i (hE i hi)⟩
end Go.Proofs.Ytflbcheofmljeaa
