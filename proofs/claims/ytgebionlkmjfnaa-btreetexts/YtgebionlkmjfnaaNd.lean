/- Nodes that were made. -/
import Derived.Test.YtgebionlkmjfnaaSwI
import Derived.Test.YtgebionlkmjfnaaSwP
import Derived.Test.YtgebionlkmjfnaaFnd
namespace Go.Proofs.Ytgebionlkmjfnaa
open Go.ChangeShapes Go.WideShapes Go.RowKit
set_option linter.unusedVariables false
set_option maxRecDepth 100000

theorem NdAt.of {w : World} {b : Nat} {u v : Value} {xs : List Itm} {bs : List Nat} (h : CellsF w b [u, v]) (hu : Sl itv 2 w u xs) (hv : Sl ptv 1 w v bs) : NdAt itv w b xs bs := ⟨u, v, h.cs 0 _ rfl, h.cs 1 _ rfl, hu, hv⟩
theorem Sl.own {α : Type} {f : α → List Value} {k e : Nat} (hf : ∀ x, (f x).length = k) {w w' : World} {v : Value} {l : List α} (h : w.ownsRow 0 e k v l.length (l.flatMap f)) (hb : ∀ g, v.ownBlock = some g → w'.heap[g]? = w.heap[g]?) : Sl f k w' v l := own_rw hf (ownsRow_kept h hb)
theorem slices_shape {α : Type} {f : α → List Value} {k : Nat} {w : World} {v : Value} {l : List α} (h : Sl f k w v l) : ∃ a c, v = .slice a l.length c := by
  obtain ⟨a, c, e, _⟩ := h
  exact ⟨a, c, e⟩
/-- A slice's beginning, and its end. -/
theorem Sl.head {α : Type} {f : α → List Value} {k : Nat} {w : World} {a : Option Addr} {n c : Nat} {l : List α} (h : Sl f k w (.slice a n c) l) (i : Nat) (hi : i ≤ l.length) : Sl f k w (.slice a i c) (l.take i) := by
  obtain ⟨a', c', e, h2, h3, h4⟩ := h
  cases e
  exact ⟨a, c, by rw [List.length_take, Nat.min_eq_left hi], h2.take i, by rw [List.length_take]; omega, h4⟩
theorem Sl.tail {α : Type} {f : α → List Value} {k : Nat} {w : World} {b o n c : Nat} {l : List α} (h : Sl f k w (.slice (some ⟨b, o, none⟩) n c) l) (j : Nat) (hj : j ≤ l.length) : Sl f k w (.slice (some ⟨b, o + j * k, none⟩) (l.length - j) (c - j)) (l.drop j) := by
  obtain ⟨a', c', e, h2, h3, h4⟩ := h
  cases e
  exact ⟨_, c - j, by rw [List.length_drop], h2.drop j, by rw [List.length_drop]; omega, fun e => by cases e⟩
theorem size_set (w : World) (b o : Nat) (v : Value) : (w.setCell ⟨b, o, none⟩ v).heap.size = w.heap.size := by simp
theorem heap_set (w : World) {b g : Nat} (o : Nat) (v : Value) (h : g ≠ b) : (w.setCell ⟨b, o, none⟩ v).heap[g]? = w.heap[g]? := Below.heap_setCell w ⟨b, o, none⟩ v g h
end Go.Proofs.Ytgebionlkmjfnaa
