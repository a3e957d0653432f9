/- Values in memory. -/
import Derived.Test.YtgjeobmbfeinnaaBase
namespace Go.Proofs.Ytgjeobmbfeinnaa
open Go.ChangeShapes Go.WideShapes Go.RowKit
set_option linter.unusedVariables false
set_option maxRecDepth 100000

/-- The value of a kind, a number and a text. -/
abbrev vv (k n : Int) (s : ByteArray) : Value := .agg #[.int .i64 k, .int .i64 n, .string s]
/-- A value that lies in memory. -/
structure At (w : World) (b o : Nat) (k n : Int) (s : ByteArray) : Prop where
  c0 : w.cell? ⟨b, o, none⟩ = some (.int .i64 k)
  c1 : w.cell? ⟨b, o + 1, none⟩ = some (.int .i64 n)
  c2 : w.cell? ⟨b, o + 2, none⟩ = some (.string s)
theorem At.lt {w : World} {b o : Nat} {k n : Int} {s : ByteArray} (h : At w b o k n s) : b < w.heap.size := World.block_lt_of_cell? w _ h.c0
theorem At.below {B : Nat} {w w' : World} {b o : Nat} {k n : Int} {s : ByteArray} (h : At w b o k n s) (hb : Below B w w') (hB : b < B) : At w' b o k n s :=
  ⟨(hb.cell (p := ⟨b, o, none⟩) hB).trans h.c0, (hb.cell (p := ⟨b, o + 1, none⟩) hB).trans h.c1, (hb.cell (p := ⟨b, o + 2, none⟩) hB).trans h.c2⟩
theorem At.next {w w' : World} {b o : Nat} {k n : Int} {s : ByteArray} (h : At w b o k n s) (hb : Below w.heap.size w w') : At w' b o k n s := h.below hb h.lt
theorem At.new (w : World) (k n : Int) (s : ByteArray) : At (w.alloc (.cells #[.int .i64 k, .int .i64 n, .string s] 24)) w.heap.size 0 k n s := ⟨by simp, by simp, by simp⟩
theorem At.two (w : World) (k n k' n' : Int) (s s' : ByteArray) :
    At ((w.alloc (.cells #[.int .i64 k, .int .i64 n, .string s] 24)).alloc (.cells #[.int .i64 k', .int .i64 n', .string s'] 24)) w.heap.size 0 k n s ∧
    At ((w.alloc (.cells #[.int .i64 k, .int .i64 n, .string s] 24)).alloc (.cells #[.int .i64 k', .int .i64 n', .string s'] 24)) (w.heap.size + 1) 0 k' n' s' := by
  refine ⟨(At.new w k n s).next (below1 _ _), ?_⟩
  have := At.new (w.alloc (.cells #[.int .i64 k, .int .i64 n, .string s] 24)) k' n' s'
  rwa [show (w.alloc (.cells #[.int .i64 k, .int .i64 n, .string s] 24)).heap.size = w.heap.size + 1 by simp] at this

theorem load24 {w : World} {b : Nat} {c0 c1 c2 : Value} (h0 : w.cell? ⟨b, 0, none⟩ = some c0) (h1 : w.cell? ⟨b, 1, none⟩ = some c1) (h2 : w.cell? ⟨b, 2, none⟩ = some c2) : (loadVar 24 ⟨b, 0, none⟩).run Try.prog w = .ok (.agg #[c0, c1, c2]) w := by
  have hl := loads [c0, c1, c2] (n := 3) (w := w) (b := b) (o := 0) rfl (fun j x hx => by
    match j, hx with
    | 0, hx => cases hx; simpa using h0
    | 1, hx => cases hx; simpa using h1
    | 2, hx => cases hx; simpa using h2)
  simp [loadVar, Sem.run_bind, loadCells, hl]

theorem byte_inj {s s' : ByteArray} (h : s.toList = s'.toList) : s = s' := ByteArray.ext (Array.toList_inj.1 (by rw [← ByteArray.toList_eq, ← ByteArray.toList_eq]; exact h))
theorem empty_of {s : ByteArray} (h : s.size = 0) : s = ⟨#[]⟩ := by
  obtain ⟨a⟩ := s
  have : a = #[] := Array.size_eq_zero_iff.1 h
  rw [this]
end Go.Proofs.Ytgjeobmbfeinnaa
