/- A block of cells. -/
import Derived.Test.YtgokilochbnbaaaDoorQd
import Derived.Test.YtgokilochbnbaaaDoorKy
namespace Go.Proofs.YtgokilochbnbaaaDoor
open Go.ChangeShapes Go.WideShapes Go.ChangeAt Go.RowKit
set_option linter.unusedVariables false
set_option maxRecDepth 100000

theorem cell_put {w : World} {b c i j : Nat} (u : Value) (h : ¬ (b = c ∧ i = j)) : (w.setCell ⟨b, i, none⟩ u).cell? ⟨c, j, none⟩ = w.cell? ⟨c, j, none⟩ :=
  World.cell?_setCell_other _ _ _ _ (fun e => h (by cases e; exact ⟨rfl, rfl⟩))
/-- Cells of a block, and that they may be written. -/
structure CellsF (w : World) (b : Nat) (l : List Value) : Prop where
  cs : ∀ i v, l[i]? = some v → w.cell? ⟨b, i, none⟩ = some v
  fz : ∀ j, w.frozen? ⟨b, j, none⟩ = false
  ne : l ≠ []
theorem CellsF.lt {w : World} {b : Nat} {l : List Value} (h : CellsF w b l) : b < w.heap.size := by
  cases l with
  | nil => exact absurd rfl h.ne
  | cons x r => exact World.block_lt_of_cell? w _ (h.cs 0 x rfl)
theorem CellsF.far {w w' : World} {b : Nat} {l : List Value} (h : CellsF w b l) (hb : w'.heap[b]? = w.heap[b]?) : CellsF w' b l :=
  ⟨fun i v q => (World.cell?_of_block (a := ⟨b, i, none⟩) hb).trans (h.cs i v q), fun j => (World.frozen?_of_block (a := ⟨b, j, none⟩) hb).trans (h.fz j), h.ne⟩
theorem CellsF.next {w w' : World} {b : Nat} {l : List Value} (h : CellsF w b l) (q : Below w.heap.size w w') : CellsF w' b l := h.far (q.block b h.lt)
theorem CellsF.new (w : World) (l : List Value) (t : TypeId) (hl : l ≠ []) : CellsF (w.alloc (.cells l.toArray t)) w.heap.size l :=
  ⟨fun i v q => by simp [q], fun j => by simp, hl⟩
/-- One cell is written. -/
theorem CellsF.set {w : World} {b : Nat} {l : List Value} (h : CellsF w b l) (i : Nat) (v : Value) (hi : i < l.length) : CellsF (w.setCell ⟨b, i, none⟩ v) b (l.set i v) := by
  refine ⟨fun j u q => ?_, fun j => (World.frozen?_setCells b [v] i w _).trans (h.fz j), fun e => ?_⟩
  · by_cases hij : j = i
    · subst hij
      rw [List.getElem?_set_self hi] at q
      cases q
      obtain ⟨x, hx⟩ : ∃ x, l[j]? = some x := ⟨l[j], List.getElem?_eq_getElem hi⟩
      exact World.cell?_setCell_same' _ _ _ (by rw [h.cs j x hx]; rfl)
    · rw [List.getElem?_set_ne (Ne.symm hij)] at q
      exact (cell_put v (fun e => hij e.2.symm)).trans (h.cs j u q)
  · have := congrArg List.length e
    rw [List.length_set] at this
    exact h.ne (List.eq_nil_of_length_eq_zero this)
theorem below_put {B : Nat} {w w' : World} (h : Below B w w') (x o : Nat) (u : Value) (hx : B ≤ x) : Below B w (w'.setCell ⟨x, o, none⟩ u) :=
  ⟨h.os, h.tape, h.output, by simpa using h.size, fun i hi => (Below.heap_setCell w' ⟨x, o, none⟩ u i (fun e => by have e' : i = x := e; omega)).trans (h.block i hi)⟩
theorem CellsF.four {w : World} {b : Nat} {l : List Value} (h : CellsF w b l) (hl : l.length = 4) (v0 v1 v2 v3 : Value) :
    CellsF ((((w.setCell ⟨b, 0, none⟩ v0).setCell ⟨b, 1, none⟩ v1).setCell ⟨b, 2, none⟩ v2).setCell ⟨b, 3, none⟩ v3) b [v0, v1, v2, v3] := by
  match l, hl with
  | [u0, u1, u2, u3], _ => exact (((h.set 0 v0 (by simp)).set 1 v1 (by simp)).set 2 v2 (by simp)).set 3 v3 (by simp)
theorem below_four {B : Nat} {w w' : World} (h : Below B w w') (b : Nat) (hb : B ≤ b) (v0 v1 v2 v3 : Value) :
    Below B w ((((w'.setCell ⟨b, 0, none⟩ v0).setCell ⟨b, 1, none⟩ v1).setCell ⟨b, 2, none⟩ v2).setCell ⟨b, 3, none⟩ v3) :=
  below_put (below_put (below_put (below_put h _ _ _ hb) _ _ _ hb) _ _ _ hb) _ _ _ hb

theorem loadTok {w : World} {b : Nat} (l : List Value) (h : CellsF w b l) (hn : l.length = 4) : (loadVar 29 ⟨b, 0, none⟩).run Tryd.prog w = .ok (.agg l.toArray) w := by
  have hl := loads l (n := 4) (w := w) (b := b) (o := 0) hn (fun j x hx => by rw [Nat.zero_add]; exact h.cs j x hx)
  simp [loadVar, Sem.run_bind, loadCells, hl]
abbrev nilT : List Value := [.int .i64 0, .string ⟨#[]⟩, .int .i64 0, .int .i64 0]
theorem take_tw (p : UInt8 → Bool) (l : List UInt8) : l.take (l.takeWhile p).length = l.takeWhile p := by
  have h := List.takeWhile_append_dropWhile (p := p) (l := l)
  conv => lhs; rw [← h]
  rw [List.take_left']
  rw [h]
theorem tw_len (p : UInt8 → Bool) (s : ByteArray) : (s.data.toList.takeWhile p).length ≤ s.size := by
  rw [← len_of]
  exact (List.takeWhile_prefix p).length_le
theorem ext_tw (p : UInt8 → Bool) (s : ByteArray) : s.extract 0 (s.data.toList.takeWhile p).length = ⟨(s.data.toList.takeWhile p).toArray⟩ := by
  apply ba_ext
  rw [ext_list, List.drop_zero, take_tw]
end Go.Proofs.YtgokilochbnbaaaDoor
