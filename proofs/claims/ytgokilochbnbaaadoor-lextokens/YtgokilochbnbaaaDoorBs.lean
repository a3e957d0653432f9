/- Values and tokens in memory. -/
import Derived.Test.YtgokilochbnbaaaDoorProg
import Derived.WalkKit
import Derived.Below
import Derived.ChangeAt
import Derived.ChangeMaps
import Derived.ChangeShapes
import Derived.Laws.ResultCell
import Derived.ChangeOld
import Derived.Deep.Slices
namespace Go.Proofs.YtgokilochbnbaaaDoor
open Go.ChangeShapes Go.WideShapes Go.ChangeAt Go.RowKit
set_option linter.unusedVariables false
set_option maxRecDepth 100000

theorem below1 (w : World) (a : Obj) : Below w.heap.size w (w.alloc a) := (Below.refl _ _).alloc (Nat.le_refl _) _
theorem below2 (w : World) (a b : Obj) : Below w.heap.size w ((w.alloc a).alloc b) := (below1 w a).alloc (by simp) _
theorem below3 (w : World) (a b c : Obj) : Below w.heap.size w (((w.alloc a).alloc b).alloc c) := (below2 w a b).alloc (by simp; omega) _
theorem Below.next {a b c : World} (h : Below a.heap.size a b) (k : Below b.heap.size b c) : Below a.heap.size a c := h.trans (k.mono h.size)
theorem Below.less {B : Nat} {a b c : World} (h : Below B a b) (k : Below b.heap.size b c) (hB : B ≤ b.heap.size) : Below B a c := h.trans (k.mono hB)

/-- The value of a kind, a number and a text. -/
abbrev vv (k n : Int) (s : ByteArray) : Value := .agg #[.int .i64 k, .int .i64 n, .string s]
/-- A value that lies in memory. -/
structure At (w : World) (b o : Nat) (k n : Int) (s : ByteArray) : Prop where
  c0 : w.cell? ⟨b, o, none⟩ = some (.int .i64 k)
  c1 : w.cell? ⟨b, o + 1, none⟩ = some (.int .i64 n)
  c2 : w.cell? ⟨b, o + 2, none⟩ = some (.string s)
theorem At.lt {w : World} {b o : Nat} {k n : Int} {s : ByteArray} (h : At w b o k n s) : b < w.heap.size := World.block_lt_of_cell? w _ h.c0
theorem At.below {B : Nat} {w w' : World} {b o : Nat} {k n : Int} {s : ByteArray} (h : At w b o k n s) (hb : Below B w w') (hB : b < B) : At w' b o k n s :=
  ⟨(hb.cell (p := ⟨b, o, none⟩) hB).trans h.c0, (hb.cell (p := ⟨b, o + 1, none⟩) hB).trans h.c1, (hb.cell (p := ⟨b, o + 2, none⟩) hB).trans h.c2⟩
theorem At.next {w w' : World} {b o : Nat} {k n : Int} {s : ByteArray} (h : At w b o k n s) (hb : Below w.heap.size w w') : At w' b o k n s := h.below hb h.lt
theorem At.new (w : World) (k n : Int) (s : ByteArray) : At (w.alloc (.cells #[.int .i64 k, .int .i64 n, .string s] 46)) w.heap.size 0 k n s := ⟨by simp, by simp, by simp⟩
theorem At.two (w : World) (k n k' n' : Int) (s s' : ByteArray) :
    At ((w.alloc (.cells #[.int .i64 k, .int .i64 n, .string s] 46)).alloc (.cells #[.int .i64 k', .int .i64 n', .string s'] 46)) w.heap.size 0 k n s ∧
    At ((w.alloc (.cells #[.int .i64 k, .int .i64 n, .string s] 46)).alloc (.cells #[.int .i64 k', .int .i64 n', .string s'] 46)) (w.heap.size + 1) 0 k' n' s' := by
  refine ⟨(At.new w k n s).next (below1 _ _), ?_⟩
  have := At.new (w.alloc (.cells #[.int .i64 k, .int .i64 n, .string s] 46)) k' n' s'
  rwa [show (w.alloc (.cells #[.int .i64 k, .int .i64 n, .string s] 46)).heap.size = w.heap.size + 1 by simp] at this

theorem end_cell_tmp {fn : Func} {p u : Tmp} {ty : TypeId} {b : Addr} {v : Value} {tmps : Array Value} {w : World} (h : fn.results = #[.cell p ty, .tmp u]) (hp : tmps.getD p undef = .pointer (some b)) (hl : (loadVar ty b).run Tryd.prog w = .ok v w) :
    (results fn tmps).run Tryd.prog w = .ok (.tuple #[v, tmps.getD u undef]) w := by
  rw [results_cell_tmp h, hp]
  simp [asAddr, hl, Result.andThen]
theorem end_cell {fn : Func} {p : Tmp} {ty : TypeId} {b : Addr} {v : Value} {tmps : Array Value} {w : World} (h : fn.results = #[.cell p ty]) (hp : tmps.getD p undef = .pointer (some b)) (hl : (loadVar ty b).run Tryd.prog w = .ok v w) :
    (results fn tmps).run Tryd.prog w = .ok v w := by
  have hp' : tmps[p]?.getD undef = .pointer (some b) := by rw [← Array.getD_eq_getD_getElem?]; exact hp
  simp only [results, h]
  simp [hp', asAddr, hl]
theorem loads {w : World} {b o n : Nat} (cs : List Value) (hn : cs.length = n) (h : ∀ j x, cs[j]? = some x → w.cell? ⟨b, o + j, none⟩ = some x) : (loadCellsFrom ⟨b, o, none⟩ 0 n #[]).run Tryd.prog w = .ok cs.toArray w := by
  have := run_loadCells_list (P := Tryd.prog) w ⟨b, o, none⟩ cs (fun j x hx => by rw [Go.WideShapes.add_plain]; exact h j x hx)
  rw [hn] at this
  exact this
theorem load46 {w : World} {b : Nat} {c0 c1 c2 : Value} (h0 : w.cell? ⟨b, 0, none⟩ = some c0) (h1 : w.cell? ⟨b, 1, none⟩ = some c1) (h2 : w.cell? ⟨b, 2, none⟩ = some c2) : (loadVar 46 ⟨b, 0, none⟩).run Tryd.prog w = .ok (.agg #[c0, c1, c2]) w := by
  have hl := loads [c0, c1, c2] (n := 3) (w := w) (b := b) (o := 0) rfl (fun j x hx => by
    match j, hx with
    | 0, hx => cases hx; simpa using h0
    | 1, hx => cases hx; simpa using h1
    | 2, hx => cases hx; simpa using h2)
  simp [loadVar, Sem.run_bind, loadCells, hl]

/-- The variable of the library that a search of texts looks at. -/
def Glob (w : World) : Prop := ∃ m, w.cell? ⟨0, 0, none⟩ = some (.int .i64 m)
theorem Glob.next {w w' : World} (h : Glob w) (hb : Below w.heap.size w w') : Glob w' := by
  obtain ⟨m, hm⟩ := h
  exact ⟨m, (hb.cell (p := ⟨0, 0, none⟩) (World.block_lt_of_cell? w _ hm)).trans hm⟩

theorem byte_inj {s s' : ByteArray} (h : s.toList = s'.toList) : s = s' := ByteArray.ext (Array.toList_inj.1 (by rw [← ByteArray.toList_eq, ← ByteArray.toList_eq]; exact h))
theorem empty_of {s : ByteArray} (h : s.size = 0) : s = ⟨#[]⟩ := by
  obtain ⟨a⟩ := s
  have : a = #[] := Array.size_eq_zero_iff.1 h
  rw [this]

theorem len_of (s : ByteArray) : s.data.toList.length = s.size := by simp
theorem info_of {t : TypeId} {z : Value} {n k : Nat} (h : (Tryd.prog.info? t).map (fun i => (i.zero, i.size, i.bytes)) = some (some z, n, k)) : ∃ i, Tryd.prog.info? t = some i ∧ i.zero = some z ∧ i.size = n ∧ i.bytes = k := by
  cases hi : Tryd.prog.info? t with
  | none => rw [hi] at h; cases h
  | some i =>
    rw [hi] at h
    simp only [Option.map_some, Option.some.injEq, Prod.mk.injEq] at h
    exact ⟨i, rfl, h.1, h.2.1, h.2.2⟩
/-- A token as a value. -/
abbrev tv (k : Int) (s : ByteArray) (n a : Int) : Value := .agg #[.int .i64 k, .string s, .int .i64 n, .int .i64 a]
theorem load29 {w : World} {b o : Nat} {c0 c1 c2 c3 : Value} (h0 : w.cell? ⟨b, o, none⟩ = some c0) (h1 : w.cell? ⟨b, o + 1, none⟩ = some c1) (h2 : w.cell? ⟨b, o + 2, none⟩ = some c2) (h3 : w.cell? ⟨b, o + 3, none⟩ = some c3) : (loadVar 29 ⟨b, o, none⟩).run Tryd.prog w = .ok (.agg #[c0, c1, c2, c3]) w := by
  have hl := loads [c0, c1, c2, c3] (n := 4) (w := w) (b := b) (o := o) rfl (fun j x hx => by
    match j, hx with
    | 0, hx => cases hx; simpa using h0
    | 1, hx => cases hx; simpa using h1
    | 2, hx => cases hx; simpa using h2
    | 3, hx => cases hx; simpa using h3)
  simp [loadVar, Sem.run_bind, loadCells, hl]
end Go.Proofs.YtgokilochbnbaaaDoor
