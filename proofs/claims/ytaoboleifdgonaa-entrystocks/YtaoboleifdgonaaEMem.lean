/- entry: operations, stocks, holds and movements in memory. -/
import Derived.Test.YtaoboleifdgonaaEKinds
import Derived.Test.YtaoboleifdgonaaRTake
namespace Go.Proofs.Ytaoboleifdgonaa
open Go.ChangeShapes Go.WideShapes Go.RowKit
set_option linter.unusedVariables false
set_option maxRecDepth 100000

/-- Cells of a block, and that they may be written. -/
structure CellsF (w : World) (b : Nat) (l : List Value) : Prop where
  cs : ∀ i v, l[i]? = some v → w.cell? ⟨b, i, none⟩ = some v
  fz : ∀ j, w.frozen? ⟨b, j, none⟩ = false
  ne : l ≠ []
theorem CellsF.lt {w : World} {b : Nat} {l : List Value} (h : CellsF w b l) : b < w.heap.size := by
  cases l with
  | nil => exact absurd rfl h.ne
  | cons x r => exact World.block_lt_of_cell? w _ (h.cs 0 x rfl)
theorem CellsF.far {w w' : World} {b : Nat} {l : List Value} (h : CellsF w b l) (hb : w'.heap[b]? = w.heap[b]?) : CellsF w' b l :=
  ⟨fun i v q => (World.cell?_of_block (a := ⟨b, i, none⟩) hb).trans (h.cs i v q), fun j => (World.frozen?_of_block (a := ⟨b, j, none⟩) hb).trans (h.fz j), h.ne⟩
theorem CellsF.next {w w' : World} {b : Nat} {l : List Value} (h : CellsF w b l) (q : Below w.heap.size w w') : CellsF w' b l := h.far (q.block b h.lt)
theorem CellsF.new (w : World) (l : List Value) (t : TypeId) (hl : l ≠ []) : CellsF (w.alloc (.cells l.toArray t)) w.heap.size l :=
  ⟨fun i v q => by simp [q], fun j => by simp, hl⟩
/-- One cell is written. -/
theorem CellsF.set {w : World} {b : Nat} {l : List Value} (h : CellsF w b l) (i : Nat) (v : Value) (hi : i < l.length) : CellsF (w.setCell ⟨b, i, none⟩ v) b (l.set i v) := by
  refine ⟨fun j u q => ?_, fun j => (World.frozen?_setCells b [v] i w _).trans (h.fz j), fun e => ?_⟩
  · by_cases hij : j = i
    · subst hij
      rw [List.getElem?_set_self hi] at q
      cases q
      obtain ⟨x, hx⟩ : ∃ x, l[j]? = some x := ⟨l[j], List.getElem?_eq_getElem hi⟩
      exact World.cell?_setCell_same' _ _ _ (by rw [h.cs j x hx]; rfl)
    · rw [List.getElem?_set_ne (Ne.symm hij)] at q
      exact (cell_put v (fun e => hij e.2.symm)).trans (h.cs j u q)
  · have := congrArg List.length e
    rw [List.length_set] at this
    exact h.ne (List.eq_nil_of_length_eq_zero this)
theorem loadOp {w : World} {b : Nat} (l : List Value) (h : CellsF w b l) (hn : l.length = 7) : (loadVar 23 ⟨b, 0, none⟩).run Try.prog w = .ok (.agg l.toArray) w := by
  have hl := loads l (n := 7) (w := w) (b := b) (o := 0) hn (fun j x hx => by rw [Nat.zero_add]; exact h.cs j x hx)
  simp [loadVar, Sem.run_bind, loadCells, hl]
theorem loadStock {w : World} {b : Nat} (l : List Value) (h : CellsF w b l) (hn : l.length = 4) : (loadVar 34 ⟨b, 0, none⟩).run Try.prog w = .ok (.agg l.toArray) w := by
  have hl := loads l (n := 4) (w := w) (b := b) (o := 0) hn (fun j x hx => by rw [Nat.zero_add]; exact h.cs j x hx)
  simp [loadVar, Sem.run_bind, loadCells, hl]
theorem loadHold {w : World} {b : Nat} (l : List Value) (h : CellsF w b l) (hn : l.length = 6) : (loadVar 44 ⟨b, 0, none⟩).run Try.prog w = .ok (.agg l.toArray) w := by
  have hl := loads l (n := 6) (w := w) (b := b) (o := 0) hn (fun j x hx => by rw [Nat.zero_add]; exact h.cs j x hx)
  simp [loadVar, Sem.run_bind, loadCells, hl]
theorem loadMove {w : World} {b : Nat} (l : List Value) (h : CellsF w b l) (hn : l.length = 6) : (loadVar 50 ⟨b, 0, none⟩).run Try.prog w = .ok (.agg l.toArray) w := by
  have hl := loads l (n := 6) (w := w) (b := b) (o := 0) hn (fun j x hx => by rw [Nat.zero_add]; exact h.cs j x hx)
  simp [loadVar, Sem.run_bind, loadCells, hl]
end Go.Proofs.Ytaoboleifdgonaa
