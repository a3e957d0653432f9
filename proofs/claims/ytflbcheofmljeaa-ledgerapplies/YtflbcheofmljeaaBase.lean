/- Ledgers: their parts, and how they lie in memory. -/
import Derived.Test.YtflbcheofmljeaaRows
import Derived.WalkKit
import Derived.ProofKit
import Derived.OpenShut
import Derived.WalkSpells
import Derived.Handy
import Derived.Below
import Derived.Laws.IdiomCopy
import Derived.Laws.OwnMore
import Derived.Laws.AppendOwn
import Derived.Laws.ResultCell
import Derived.Laws.MakeOwn
import Derived.Lib.LazyBuf
import Derived.ChangeOld
import Derived.Deep.Slices
import Derived.Deep.RegionWith
import Derived.Deep.RegionHeld
import Derived.Deep.RegionLaw
import Derived.Deep.AppendLies
import Derived.BigRegion
import Derived.BigQuiet
namespace Go.Proofs.Ytflbcheofmljeaa
open Go.ChangeShapes Go.WideShapes Go.RowKit
set_option linter.unusedVariables false
set_option maxRecDepth 100000

theorem below1 (w : World) (a : Obj) : Below w.heap.size w (w.alloc a) := (Below.refl _ _).alloc (Nat.le_refl _) _
theorem below2 (w : World) (a b : Obj) : Below w.heap.size w ((w.alloc a).alloc b) := (below1 w a).alloc (by simp) _
theorem below3 (w : World) (a b c : Obj) : Below w.heap.size w (((w.alloc a).alloc b).alloc c) := (below2 w a b).alloc (by simp; omega) _
theorem Below.next {a b c : World} (h : Below a.heap.size a b) (k : Below b.heap.size b c) : Below a.heap.size a c := h.trans (k.mono h.size)
theorem Below.less {B : Nat} {a b c : World} (h : Below B a b) (k : Below b.heap.size b c) (hB : B ≤ b.heap.size) : Below B a c := h.trans (k.mono hB)

structure Stk where
  sku : ByteArray
  loc : ByteArray
  on : Int
  held : Int
deriving DecidableEq
structure Hld where
  id : Int
  sku : ByteArray
  loc : ByteArray
  qty : Int
  st : Int
  due : Int
deriving DecidableEq
structure Mov where
  seq : Int
  sku : ByteArray
  loc : ByteArray
  delta : Int
  kind : Int
  hold : Int
deriving DecidableEq
structure Led where
  S : List Stk
  H : List Hld
  M : List Mov
  ops : Int
deriving DecidableEq
structure Opn where
  k : Int
  sku : ByteArray
  loc : ByteArray
  to : ByteArray
  qty : Int
  id : Int
  due : Int
deriving DecidableEq

/-- Their cells. -/
def stv (x : Stk) : List Value := [.string x.sku, .string x.loc, .int .i64 x.on, .int .i64 x.held]
def hlv (x : Hld) : List Value := [.int .i64 x.id, .string x.sku, .string x.loc, .int .i64 x.qty, .int .i64 x.st, .int .i64 x.due]
def mvv (x : Mov) : List Value := [.int .i64 x.seq, .string x.sku, .string x.loc, .int .i64 x.delta, .int .i64 x.kind, .int .i64 x.hold]
def opv (x : Opn) : List Value := [.int .i64 x.k, .string x.sku, .string x.loc, .string x.to, .int .i64 x.qty, .int .i64 x.id, .int .i64 x.due]

/-- Numbers of 64 bits. -/
def i64b (a : Int) : Prop := -9223372036854775808 ≤ a ∧ a ≤ 9223372036854775807
structure Stk.fit (x : Stk) : Prop where
  on : i64b x.on
  held : i64b x.held
structure Hld.fit (x : Hld) : Prop where
  id : i64b x.id
  qty : i64b x.qty
  st : i64b x.st
  due : i64b x.due
structure Mov.fit (x : Mov) : Prop where
  seq : i64b x.seq
  delta : i64b x.delta
  kind : i64b x.kind
  hold : i64b x.hold
structure Opn.fit (x : Opn) : Prop where
  k : i64b x.k
  qty : i64b x.qty
  id : i64b x.id
  due : i64b x.due
structure Led.fit (L : Led) : Prop where
  S : ∀ x, x ∈ L.S → x.fit
  H : ∀ x, x ∈ L.H → x.fit
  M : ∀ x, x ∈ L.M → x.fit
  ops : i64b L.ops

/-- The cells of records lie from an address on. -/
def Rw {α : Type} (f : α → List Value) (k : Nat) (w : World) (a : Option Addr) (l : List α) : Prop :=
  l ≠ [] → ∃ b o, a = some ⟨b, o, none⟩ ∧ ∀ i x, l[i]? = some x → ∀ j u, (f x)[j]? = some u → w.cell? ⟨b, o + i * k + j, none⟩ = some u
theorem Rw.nil {α : Type} (f : α → List Value) (k : Nat) (w : World) (a : Option Addr) : Rw f k w a [] := fun h => absurd rfl h
theorem Rw.far {α : Type} {f : α → List Value} {k : Nat} {w w' : World} {a : Option Addr} {l : List α} (h : Rw f k w a l) (hb : ∀ b o, a = some ⟨b, o, none⟩ → l ≠ [] → w'.heap[b]? = w.heap[b]?) : Rw f k w' a l := fun hl => by
  obtain ⟨b, o, e, hc⟩ := h hl
  exact ⟨b, o, e, fun i x hx j u hu => (World.cell?_of_block (a := ⟨b, o + i * k + j, none⟩) (hb b o e hl)).trans (hc i x hx j u hu)⟩
theorem Rw.lt {α : Type} {f : α → List Value} {k : Nat} {w : World} {a : Option Addr} {l : List α} (h : Rw f k w a l) (hf : ∀ x, f x ≠ []) {b o : Nat} (e : a = some ⟨b, o, none⟩) (hl : l ≠ []) : b < w.heap.size := by
  obtain ⟨b', o', e', hc⟩ := h hl
  rw [e] at e'
  cases e'
  cases l with
  | nil => exact absurd rfl hl
  | cons x r =>
    cases hx : f x with
    | nil => exact absurd hx (hf x)
    | cons u q => exact World.block_lt_of_cell? w _ (hc 0 x rfl 0 u (by rw [hx]; rfl))
theorem Rw.next {α : Type} {f : α → List Value} {k : Nat} {w w' : World} {a : Option Addr} {l : List α} (h : Rw f k w a l) (hf : ∀ x, f x ≠ []) (hb : Below w.heap.size w w') : Rw f k w' a l :=
  h.far (fun b o e hl => hb.block b (h.lt hf e hl))
theorem stv_ne (x : Stk) : stv x ≠ [] := by simp [stv]
theorem hlv_ne (x : Hld) : hlv x ≠ [] := by simp [hlv]
theorem mvv_ne (x : Mov) : mvv x ≠ [] := by simp [mvv]
theorem opv_ne (x : Opn) : opv x ≠ [] := by simp [opv]

/-- A stock's cells. -/
structure StkAt (w : World) (b o : Nat) (x : Stk) : Prop where
  c0 : w.cell? ⟨b, o, none⟩ = some (.string x.sku)
  c1 : w.cell? ⟨b, o + 1, none⟩ = some (.string x.loc)
  c2 : w.cell? ⟨b, o + 2, none⟩ = some (.int .i64 x.on)
  c3 : w.cell? ⟨b, o + 3, none⟩ = some (.int .i64 x.held)
structure HldAt (w : World) (b o : Nat) (x : Hld) : Prop where
  c0 : w.cell? ⟨b, o, none⟩ = some (.int .i64 x.id)
  c1 : w.cell? ⟨b, o + 1, none⟩ = some (.string x.sku)
  c2 : w.cell? ⟨b, o + 2, none⟩ = some (.string x.loc)
  c3 : w.cell? ⟨b, o + 3, none⟩ = some (.int .i64 x.qty)
  c4 : w.cell? ⟨b, o + 4, none⟩ = some (.int .i64 x.st)
  c5 : w.cell? ⟨b, o + 5, none⟩ = some (.int .i64 x.due)
structure MovAt (w : World) (b o : Nat) (x : Mov) : Prop where
  c0 : w.cell? ⟨b, o, none⟩ = some (.int .i64 x.seq)
  c1 : w.cell? ⟨b, o + 1, none⟩ = some (.string x.sku)
  c2 : w.cell? ⟨b, o + 2, none⟩ = some (.string x.loc)
  c3 : w.cell? ⟨b, o + 3, none⟩ = some (.int .i64 x.delta)
  c4 : w.cell? ⟨b, o + 4, none⟩ = some (.int .i64 x.kind)
  c5 : w.cell? ⟨b, o + 5, none⟩ = some (.int .i64 x.hold)
structure OpnAt (w : World) (b o : Nat) (x : Opn) : Prop where
  c0 : w.cell? ⟨b, o, none⟩ = some (.int .i64 x.k)
  c1 : w.cell? ⟨b, o + 1, none⟩ = some (.string x.sku)
  c2 : w.cell? ⟨b, o + 2, none⟩ = some (.string x.loc)
  c3 : w.cell? ⟨b, o + 3, none⟩ = some (.string x.to)
  c4 : w.cell? ⟨b, o + 4, none⟩ = some (.int .i64 x.qty)
  c5 : w.cell? ⟨b, o + 5, none⟩ = some (.int .i64 x.id)
  c6 : w.cell? ⟨b, o + 6, none⟩ = some (.int .i64 x.due)
theorem Rw.stk {w : World} {a : Option Addr} {l : List Stk} (h : Rw stv 4 w a l) (hl : l ≠ []) : ∃ b o, a = some ⟨b, o, none⟩ ∧ b < w.heap.size ∧ ∀ i (hi : i < l.length), StkAt w b (o + i * 4) l[i] := by
  obtain ⟨b, o, e, hc⟩ := h hl
  exact ⟨b, o, e, h.lt stv_ne e hl, fun i hi => ⟨hc i _ (List.getElem?_eq_getElem hi) 0 _ rfl, hc i _ (List.getElem?_eq_getElem hi) 1 _ rfl, hc i _ (List.getElem?_eq_getElem hi) 2 _ rfl, hc i _ (List.getElem?_eq_getElem hi) 3 _ rfl⟩⟩
theorem Rw.hld {w : World} {a : Option Addr} {l : List Hld} (h : Rw hlv 6 w a l) (hl : l ≠ []) : ∃ b o, a = some ⟨b, o, none⟩ ∧ b < w.heap.size ∧ ∀ i (hi : i < l.length), HldAt w b (o + i * 6) l[i] := by
  obtain ⟨b, o, e, hc⟩ := h hl
  exact ⟨b, o, e, h.lt hlv_ne e hl, fun i hi => ⟨hc i _ (List.getElem?_eq_getElem hi) 0 _ rfl, hc i _ (List.getElem?_eq_getElem hi) 1 _ rfl, hc i _ (List.getElem?_eq_getElem hi) 2 _ rfl, hc i _ (List.getElem?_eq_getElem hi) 3 _ rfl, hc i _ (List.getElem?_eq_getElem hi) 4 _ rfl, hc i _ (List.getElem?_eq_getElem hi) 5 _ rfl⟩⟩
theorem Rw.mov {w : World} {a : Option Addr} {l : List Mov} (h : Rw mvv 6 w a l) (hl : l ≠ []) : ∃ b o, a = some ⟨b, o, none⟩ ∧ b < w.heap.size ∧ ∀ i (hi : i < l.length), MovAt w b (o + i * 6) l[i] := by
  obtain ⟨b, o, e, hc⟩ := h hl
  exact ⟨b, o, e, h.lt mvv_ne e hl, fun i hi => ⟨hc i _ (List.getElem?_eq_getElem hi) 0 _ rfl, hc i _ (List.getElem?_eq_getElem hi) 1 _ rfl, hc i _ (List.getElem?_eq_getElem hi) 2 _ rfl, hc i _ (List.getElem?_eq_getElem hi) 3 _ rfl, hc i _ (List.getElem?_eq_getElem hi) 4 _ rfl, hc i _ (List.getElem?_eq_getElem hi) 5 _ rfl⟩⟩
theorem Rw.opn {w : World} {a : Option Addr} {l : List Opn} (h : Rw opv 7 w a l) (hl : l ≠ []) : ∃ b o, a = some ⟨b, o, none⟩ ∧ b < w.heap.size ∧ ∀ i (hi : i < l.length), OpnAt w b (o + i * 7) l[i] := by
  obtain ⟨b, o, e, hc⟩ := h hl
  exact ⟨b, o, e, h.lt opv_ne e hl, fun i hi => ⟨hc i _ (List.getElem?_eq_getElem hi) 0 _ rfl, hc i _ (List.getElem?_eq_getElem hi) 1 _ rfl, hc i _ (List.getElem?_eq_getElem hi) 2 _ rfl, hc i _ (List.getElem?_eq_getElem hi) 3 _ rfl, hc i _ (List.getElem?_eq_getElem hi) 4 _ rfl, hc i _ (List.getElem?_eq_getElem hi) 5 _ rfl, hc i _ (List.getElem?_eq_getElem hi) 6 _ rfl⟩⟩

/-- The values of records. -/
abbrev sval (x : Stk) : Value := .agg #[.string x.sku, .string x.loc, .int .i64 x.on, .int .i64 x.held]
abbrev hval (x : Hld) : Value := .agg #[.int .i64 x.id, .string x.sku, .string x.loc, .int .i64 x.qty, .int .i64 x.st, .int .i64 x.due]
abbrev mval (x : Mov) : Value := .agg #[.int .i64 x.seq, .string x.sku, .string x.loc, .int .i64 x.delta, .int .i64 x.kind, .int .i64 x.hold]
abbrev oval (x : Opn) : Value := .agg #[.int .i64 x.k, .string x.sku, .string x.loc, .string x.to, .int .i64 x.qty, .int .i64 x.id, .int .i64 x.due]
/-- A ledger as a value, and that its lists lie. -/
abbrev lval (a0 : Option Addr) (n0 c0 : Nat) (a1 : Option Addr) (n1 c1 : Nat) (a2 : Option Addr) (n2 c2 : Nat) (ops : Int) : Value := .agg #[.slice a0 n0 c0, .slice a1 n1 c1, .slice a2 n2 c2, .int .i64 ops]
structure Lies (w : World) (a0 a1 a2 : Option Addr) (L : Led) : Prop where
  S : Rw stv 4 w a0 L.S
  H : Rw hlv 6 w a1 L.H
  M : Rw mvv 6 w a2 L.M
theorem Lies.next {w w' : World} {a0 a1 a2 : Option Addr} {L : Led} (h : Lies w a0 a1 a2 L) (hb : Below w.heap.size w w') : Lies w' a0 a1 a2 L :=
  ⟨h.S.next stv_ne hb, h.H.next hlv_ne hb, h.M.next mvv_ne hb⟩
/-- An answer that is a ledger. -/
def LedV (w : World) (v : Value) (L : Led) : Prop := ∃ a0 c0 a1 c1 a2 c2, v = lval a0 L.S.length c0 a1 L.H.length c1 a2 L.M.length c2 L.ops ∧ Lies w a0 a1 a2 L

theorem StkAt.next {w w' : World} {b o : Nat} {x : Stk} (h : StkAt w b o x) (hb : w'.heap[b]? = w.heap[b]?) : StkAt w' b o x :=
  ⟨(World.cell?_of_block (a := ⟨b, o, none⟩) hb).trans h.c0, (World.cell?_of_block (a := ⟨b, o + 1, none⟩) hb).trans h.c1, (World.cell?_of_block (a := ⟨b, o + 2, none⟩) hb).trans h.c2, (World.cell?_of_block (a := ⟨b, o + 3, none⟩) hb).trans h.c3⟩
theorem HldAt.next {w w' : World} {b o : Nat} {x : Hld} (h : HldAt w b o x) (hb : w'.heap[b]? = w.heap[b]?) : HldAt w' b o x :=
  ⟨(World.cell?_of_block (a := ⟨b, o, none⟩) hb).trans h.c0, (World.cell?_of_block (a := ⟨b, o + 1, none⟩) hb).trans h.c1, (World.cell?_of_block (a := ⟨b, o + 2, none⟩) hb).trans h.c2, (World.cell?_of_block (a := ⟨b, o + 3, none⟩) hb).trans h.c3, (World.cell?_of_block (a := ⟨b, o + 4, none⟩) hb).trans h.c4, (World.cell?_of_block (a := ⟨b, o + 5, none⟩) hb).trans h.c5⟩
theorem MovAt.next {w w' : World} {b o : Nat} {x : Mov} (h : MovAt w b o x) (hb : w'.heap[b]? = w.heap[b]?) : MovAt w' b o x :=
  ⟨(World.cell?_of_block (a := ⟨b, o, none⟩) hb).trans h.c0, (World.cell?_of_block (a := ⟨b, o + 1, none⟩) hb).trans h.c1, (World.cell?_of_block (a := ⟨b, o + 2, none⟩) hb).trans h.c2, (World.cell?_of_block (a := ⟨b, o + 3, none⟩) hb).trans h.c3, (World.cell?_of_block (a := ⟨b, o + 4, none⟩) hb).trans h.c4, (World.cell?_of_block (a := ⟨b, o + 5, none⟩) hb).trans h.c5⟩
theorem OpnAt.next {w w' : World} {b o : Nat} {x : Opn} (h : OpnAt w b o x) (hb : w'.heap[b]? = w.heap[b]?) : OpnAt w' b o x :=
  ⟨(World.cell?_of_block (a := ⟨b, o, none⟩) hb).trans h.c0, (World.cell?_of_block (a := ⟨b, o + 1, none⟩) hb).trans h.c1, (World.cell?_of_block (a := ⟨b, o + 2, none⟩) hb).trans h.c2, (World.cell?_of_block (a := ⟨b, o + 3, none⟩) hb).trans h.c3, (World.cell?_of_block (a := ⟨b, o + 4, none⟩) hb).trans h.c4, (World.cell?_of_block (a := ⟨b, o + 5, none⟩) hb).trans h.c5, (World.cell?_of_block (a := ⟨b, o + 6, none⟩) hb).trans h.c6⟩

theorem byte_inj {s s' : ByteArray} (h : s.toList = s'.toList) : s = s' := ByteArray.ext (Array.toList_inj.1 (by rw [← ByteArray.toList_eq, ← ByteArray.toList_eq]; exact h))
theorem empty_of {s : ByteArray} (h : s.size = 0) : s = ⟨#[]⟩ := by
  obtain ⟨a⟩ := s
  have : a = #[] := Array.size_eq_zero_iff.1 h
  rw [this]
end Go.Proofs.Ytflbcheofmljeaa
