/- Blocks that are just so. -/
import Derived.Test.YtkhpmmmildcceaaGreatQPm
namespace Go.Proofs.YtkhpmmmildcceaaGreat
open Go.ChangeShapes Go.WideShapes Go.ChangeAt Go.RowKit
set_option linter.unusedVariables false
set_option maxRecDepth 100000

def Blk (w : World) (g : Nat) (t : TypeId) (C : List Value) : Prop := w.heap[g]? = some (.cells C.toArray t (0, 0))
theorem Blk.cell {w : World} {g : Nat} {t : TypeId} {C : List Value} (h : Blk w g t C) {i : Nat} {u : Value} (hu : C[i]? = some u) : w.cell? ⟨g, i, none⟩ = some u := by
  have h' : w.heap[g]? = some (.cells C.toArray t (0, 0)) := h
  simp [World.cell?, h', hu]
theorem Blk.fz {w : World} {g : Nat} {t : TypeId} {C : List Value} (h : Blk w g t C) (j : Nat) : w.frozen? ⟨g, j, none⟩ = false := frozen_of_row w g j C.toArray t h
theorem Blk.lt {w : World} {g : Nat} {t : TypeId} {C : List Value} (h : Blk w g t C) : g < w.heap.size := (Array.getElem?_eq_some_iff.1 h).1
theorem Blk.far {w w' : World} {g : Nat} {t : TypeId} {C : List Value} (h : Blk w g t C) (e : w'.heap[g]? = w.heap[g]?) : Blk w' g t C := by unfold Blk at *; rw [e]; exact h
theorem Blk.new (w : World) (t : TypeId) (C : List Value) : Blk (w.alloc (.cells C.toArray t)) w.heap.size t C := by
  show (w.heap.push _)[w.heap.size]? = _
  rw [Array.getElem?_push_size]
theorem Blk.set {w : World} {g : Nat} {t : TypeId} {C : List Value} (h : Blk w g t C) (i : Nat) (u : Value) : Blk (w.setCell ⟨g, i, none⟩ u) g t (C.set i u) := by
  have := heap_setCell_same w g i C.toArray t u h
  unfold Blk
  rw [this]
  simp
theorem Blk.kept {F : Nat → Prop} {w w' : World} {g : Nat} {t : TypeId} {C : List Value} (h : Blk w g t C) (k : Kept F w w') (hn : ¬ F g) : Blk w' g t C := h.far (k.block g h.lt hn)
theorem Blk.step {w w' : World} {g : Nat} {t : TypeId} {C : List Value} (h : Blk w g t C) (k : Kept (fun _ => False) w w') : Blk w' g t C := h.kept k (fun z => z)
theorem Blk.at_cell {w : World} {g : Nat} {t : TypeId} {C : List Value} (h : Blk w g t C) {j : Nat} {u : Value} (hu : w.cell? ⟨g, j, none⟩ = some u) : u ∈ C := by
  have h' : w.heap[g]? = some (.cells C.toArray t (0, 0)) := h
  have : C[j]? = some u := by simpa [World.cell?, h'] using hu
  exact List.mem_of_getElem? this
end Go.Proofs.YtkhpmmmildcceaaGreat
