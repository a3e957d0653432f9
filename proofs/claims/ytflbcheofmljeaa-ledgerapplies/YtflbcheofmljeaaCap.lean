/- What operations do: what a closure has captured. -/
import Derived.Test.YtflbcheofmljeaaPureB
namespace Go.Proofs.Ytflbcheofmljeaa
open Go.ChangeShapes Go.WideShapes Go.RowKit
set_option linter.unusedVariables false
set_option maxRecDepth 100000

/-- What a closure has captured: the ledger's address, and the operation. -/
structure Cap (w : World) (pb ob b : Nat) (o : Opn) : Prop where
  p : w.cell? ⟨pb, 0, none⟩ = some (.pointer (some ⟨b, 0, none⟩))
  o : OpnAt w ob 0 o
theorem Cap.stay {w w' : World} {E : Nat → Prop} {pb ob b : Nat} {o : Opn} (h : Cap w pb ob b o) (s : Stay E w w') (hp : E pb) (ho : E ob) : Cap w' pb ob b o :=
  ⟨(World.cell?_of_block (a := ⟨pb, 0, none⟩) (s.block pb hp)).trans h.p, h.o.next (s.block ob ho)⟩
theorem Cap.next {w w' : World} {pb ob b : Nat} {o : Opn} (h : Cap w pb ob b o) (s : Below w.heap.size w w') : Cap w' pb ob b o :=
  ⟨(World.cell?_of_block (a := ⟨pb, 0, none⟩) (s.block pb (World.block_lt_of_cell? w _ h.p))).trans h.p, h.o.next (s.block ob (World.block_lt_of_cell? w _ h.o.c0))⟩
/-- What a kind of operations answers: a closure, or why not. -/
def KindP (w w' : World) (b : Nat) (o : Opn) (fn : Nat) (err : Int) (e : Ending) : Prop :=
  Below w.heap.size w w' ∧ ((¬ err = 0 ∧ e = .returned (.tuple #[.nilFunc, .int .i64 err])) ∨ (err = 0 ∧ ∃ pb ob, e = .returned (.tuple #[.func (.func fn) #[] #[.pointer (some ⟨pb, 0, none⟩), .pointer (some ⟨ob, 0, none⟩)], .int .i64 0]) ∧ (w.heap.size ≤ pb ∧ pb < w'.heap.size) ∧ (w.heap.size ≤ ob ∧ ob < w'.heap.size) ∧ Cap w' pb ob b o))
theorem KindP.no {w w' : World} {b : Nat} {o : Opn} {fn : Nat} {err : Int} (hb : Below w.heap.size w w') (he : ¬ err = 0) : KindP w w' b o fn err (.returned (.tuple #[.nilFunc, .int .i64 err])) := ⟨hb, .inl ⟨he, rfl⟩⟩
/-- The boxes of a kind of operations. -/
structure Box2 (w W : World) (b : Nat) (o : Opn) : Prop where
  bel : Below w.heap.size w W
  p : CellsF W w.heap.size [.pointer (some ⟨b, 0, none⟩)]
  o : CellsF W (w.heap.size + 1) [.int .i64 o.k, .string o.sku, .string o.loc, .string o.to, .int .i64 o.qty, .int .i64 o.id, .int .i64 o.due]
  sz : W.heap.size = w.heap.size + 1 + 1
theorem Box2.of (w : World) (b : Nat) (o : Opn) {W : World} (hW : (w.alloc (.cells #[.pointer (some ⟨b, 0, none⟩)] 59)).alloc (.cells #[.int .i64 o.k, .string o.sku, .string o.loc, .string o.to, .int .i64 o.qty, .int .i64 o.id, .int .i64 o.due] 28) = W) : Box2 w W b o := by
  subst hW
  exact ⟨below2 _ _ _, (CellsF.at _ 59 (by simp) rfl).next (below1 _ _), CellsF.at _ 28 (by simp) (size_alloc _ _).symm, by rw [size_alloc, size_alloc]⟩
theorem KindP.yes {w W w' : World} {b : Nat} {o : Opn} {fn : Nat} (h : Box2 w W b o) (hb : Below W.heap.size W w') : KindP w w' b o fn 0 (.returned (.tuple #[.func (.func fn) #[] #[.pointer (some ⟨w.heap.size, 0, none⟩), .pointer (some ⟨w.heap.size + 1, 0, none⟩)], .int .i64 0])) := by
  have hz := h.sz
  have hs := hb.size
  refine ⟨Below.next h.bel hb, .inr ⟨rfl, _, _, rfl, ⟨Nat.le_refl _, by omega⟩, ⟨by omega, by omega⟩, (h.p.next hb).cs 0 _ rfl, ?_⟩⟩
  have q := h.o.next hb
  exact ⟨q.cs 0 _ rfl, q.cs 1 _ rfl, q.cs 2 _ rfl, q.cs 3 _ rfl, q.cs 4 _ rfl, q.cs 5 _ rfl, q.cs 6 _ rfl⟩
end Go.Proofs.Ytflbcheofmljeaa
