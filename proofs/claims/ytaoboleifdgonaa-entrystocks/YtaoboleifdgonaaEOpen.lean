/- Arguments that are operations, stocks, holds, movements and rows, as they came in. -/
import Derived.Test.YtaoboleifdgonaaEAwake
import Derived.ProofKit
import Derived.OpenShut
import Derived.ShutString
import Derived.Deep.Slices
import Derived.ChangeMaps5
import Derived.Below
import Derived.ChangeOld
namespace Go.Proofs.Ytaoboleifdgonaa
open Go.ChangeShapes Go.WideShapes Go.ChangeAt Go.RowKit
set_option linter.unusedVariables false
set_option maxRecDepth 100000

theorem own : ownKnob Try.prog.godebug = none := by kernel_rfl
theorem laidOut : laidOutB Try.prog = true := by kernel_rfl
theorem rangeN {z : Int} (h : (Lit.int .i64 z).wf = true) : -9223372036854775808 ≤ z ∧ z ≤ 9223372036854775807 := by
  have h1 : IntKind.i64.min ≤ z ∧ z ≤ IntKind.i64.max := by simpa [Lit.wf] using h
  have e1 : IntKind.i64.min = -9223372036854775808 := by decide
  have e2 : IntKind.i64.max = 9223372036854775807 := by decide
  omega
theorem cells3 : Try.prog.cellsOf 3 = 1 := by kernel_rfl
theorem cells9 : Try.prog.cellsOf 9 = 1 := by kernel_rfl
theorem fields_value : ∃ f0 f1 f2 : Field, Try.prog.underlying 56 = some (.struct #[f0, f1, f2]) ∧ (f0.type = 3 ∧ f0.offset = 0) ∧ (f1.type = 3 ∧ f1.offset = 1) ∧ (f2.type = 9 ∧ f2.offset = 2) := ⟨_, _, _, Try.underlying56, ⟨rfl, rfl⟩, ⟨rfl, rfl⟩, ⟨rfl, rfl⟩⟩
theorem cells_value : Try.prog.cellsOf 56 = 3 := by kernel_rfl
theorem open_cells_value {H : Type} {enc : TypeId × Value → H} {W : World} {fuel : Nat} {cs : List Value} {x : DataW H × List MemPlace} (hl : cs.length = 3) (h : DataW.trod enc Try.prog W 0 (fun _ => true) true fuel 56 cs = some x) :
    ∃ (x0 : Int) (x1 : Int) (x2 : ByteArray), cs = [.int .i64 x0, .int .i64 x1, .string x2] ∧ (-9223372036854775808 ≤ x0 ∧ x0 ≤ 9223372036854775807) ∧ (-9223372036854775808 ≤ x1 ∧ x1 ≤ 9223372036854775807) ∧ x2.size ≤ 9223372036854775807 := by
  obtain ⟨f0, f1, f2, hu, ⟨t0, o0⟩, ⟨t1, o1⟩, ⟨t2, o2⟩⟩ := fields_value
  obtain ⟨xs, k, _, _, _, hxl, hfs⟩ := DataW.trod_struct hu h
  match xs, hxl, cs, hl with
  | [y0, y1, y2], _, [v0, v1, v2], _ =>
    have g0 := hfs 0 f0 rfl
    simp [t0, o0, cells3] at g0
    obtain ⟨z0, e0, _, w0⟩ := DataW.trod_int Try.underlying3 g0
    cases e0
    have g1 := hfs 1 f1 rfl
    simp [t1, o1, cells3] at g1
    obtain ⟨z1, e1, _, w1⟩ := DataW.trod_int Try.underlying3 g1
    cases e1
    have g2 := hfs 2 f2 rfl
    simp [t2, o2, cells9] at g2
    obtain ⟨z2, e2, _, w2⟩ := DataW.trod_string Try.underlying9 g2
    cases e2
    unfold maxLen at w2
    exact ⟨z0, z1, z2, rfl, rangeN w0, rangeN w1, (by omega)⟩
theorem fields_op : ∃ f0 f1 f2 f3 f4 f5 f6 : Field, Try.prog.underlying 23 = some (.struct #[f0, f1, f2, f3, f4, f5, f6]) ∧ (f0.type = 3 ∧ f0.offset = 0) ∧ (f1.type = 9 ∧ f1.offset = 1) ∧ (f2.type = 9 ∧ f2.offset = 2) ∧ (f3.type = 9 ∧ f3.offset = 3) ∧ (f4.type = 3 ∧ f4.offset = 4) ∧ (f5.type = 3 ∧ f5.offset = 5) ∧ (f6.type = 3 ∧ f6.offset = 6) := ⟨_, _, _, _, _, _, _, Try.underlying23, ⟨rfl, rfl⟩, ⟨rfl, rfl⟩, ⟨rfl, rfl⟩, ⟨rfl, rfl⟩, ⟨rfl, rfl⟩, ⟨rfl, rfl⟩, ⟨rfl, rfl⟩⟩
theorem cells_op : Try.prog.cellsOf 23 = 7 := by kernel_rfl
theorem open_cells_op {H : Type} {enc : TypeId × Value → H} {W : World} {fuel : Nat} {cs : List Value} {x : DataW H × List MemPlace} (hl : cs.length = 7) (h : DataW.trod enc Try.prog W 0 (fun _ => true) true fuel 23 cs = some x) :
    ∃ (x0 : Int) (x1 : ByteArray) (x2 : ByteArray) (x3 : ByteArray) (x4 : Int) (x5 : Int) (x6 : Int), cs = [.int .i64 x0, .string x1, .string x2, .string x3, .int .i64 x4, .int .i64 x5, .int .i64 x6] ∧ (-9223372036854775808 ≤ x0 ∧ x0 ≤ 9223372036854775807) ∧ x1.size ≤ 9223372036854775807 ∧ x2.size ≤ 9223372036854775807 ∧ x3.size ≤ 9223372036854775807 ∧ (-9223372036854775808 ≤ x4 ∧ x4 ≤ 9223372036854775807) ∧ (-9223372036854775808 ≤ x5 ∧ x5 ≤ 9223372036854775807) ∧ (-9223372036854775808 ≤ x6 ∧ x6 ≤ 9223372036854775807) := by
  obtain ⟨f0, f1, f2, f3, f4, f5, f6, hu, ⟨t0, o0⟩, ⟨t1, o1⟩, ⟨t2, o2⟩, ⟨t3, o3⟩, ⟨t4, o4⟩, ⟨t5, o5⟩, ⟨t6, o6⟩⟩ := fields_op
  obtain ⟨xs, k, _, _, _, hxl, hfs⟩ := DataW.trod_struct hu h
  match xs, hxl, cs, hl with
  | [y0, y1, y2, y3, y4, y5, y6], _, [v0, v1, v2, v3, v4, v5, v6], _ =>
    have g0 := hfs 0 f0 rfl
    simp [t0, o0, cells3] at g0
    obtain ⟨z0, e0, _, w0⟩ := DataW.trod_int Try.underlying3 g0
    cases e0
    have g1 := hfs 1 f1 rfl
    simp [t1, o1, cells9] at g1
    obtain ⟨z1, e1, _, w1⟩ := DataW.trod_string Try.underlying9 g1
    cases e1
    unfold maxLen at w1
    have g2 := hfs 2 f2 rfl
    simp [t2, o2, cells9] at g2
    obtain ⟨z2, e2, _, w2⟩ := DataW.trod_string Try.underlying9 g2
    cases e2
    unfold maxLen at w2
    have g3 := hfs 3 f3 rfl
    simp [t3, o3, cells9] at g3
    obtain ⟨z3, e3, _, w3⟩ := DataW.trod_string Try.underlying9 g3
    cases e3
    unfold maxLen at w3
    have g4 := hfs 4 f4 rfl
    simp [t4, o4, cells3] at g4
    obtain ⟨z4, e4, _, w4⟩ := DataW.trod_int Try.underlying3 g4
    cases e4
    have g5 := hfs 5 f5 rfl
    simp [t5, o5, cells3] at g5
    obtain ⟨z5, e5, _, w5⟩ := DataW.trod_int Try.underlying3 g5
    cases e5
    have g6 := hfs 6 f6 rfl
    simp [t6, o6, cells3] at g6
    obtain ⟨z6, e6, _, w6⟩ := DataW.trod_int Try.underlying3 g6
    cases e6
    exact ⟨z0, z1, z2, z3, z4, z5, z6, rfl, rangeN w0, (by omega), (by omega), (by omega), rangeN w4, rangeN w5, rangeN w6⟩
theorem open_op {H : Type} {enc : TypeId × Value → H} {W : World} {base : Nat} {v : Value} {d : DataW H} {ps : List MemPlace} (hv : Value.okWide Try.prog W .any base 23 v) (h : DataW.Trod enc Try.prog W 0 (fun _ => true) true 23 v d ps) :
    ∃ (x0 : Int) (x1 : ByteArray) (x2 : ByteArray) (x3 : ByteArray) (x4 : Int) (x5 : Int) (x6 : Int), v = .agg #[.int .i64 x0, .string x1, .string x2, .string x3, .int .i64 x4, .int .i64 x5, .int .i64 x6] ∧ (-9223372036854775808 ≤ x0 ∧ x0 ≤ 9223372036854775807) ∧ x1.size ≤ 9223372036854775807 ∧ x2.size ≤ 9223372036854775807 ∧ x3.size ≤ 9223372036854775807 ∧ (-9223372036854775808 ≤ x4 ∧ x4 ≤ 9223372036854775807) ∧ (-9223372036854775808 ≤ x5 ∧ x5 ≤ 9223372036854775807) ∧ (-9223372036854775808 ≤ x6 ∧ x6 ≤ 9223372036854775807) := by
  obtain ⟨f0, f1, f2, f3, f4, f5, f6, hu, _⟩ := fields_op
  obtain ⟨cs, rfl, hc⟩ := okWide_struct hu hv
  obtain ⟨fuel, hf⟩ := h
  rw [cells_op] at hc
  have hcs : (Value.agg cs).cells.toList = cs.toList := rfl
  rw [hcs] at hf
  obtain ⟨x0, x1, x2, x3, x4, x5, x6, e, hr⟩ := open_cells_op (by simpa using hc) hf
  refine ⟨x0, x1, x2, x3, x4, x5, x6, ?_, hr⟩
  have : cs = #[.int .i64 x0, .string x1, .string x2, .string x3, .int .i64 x4, .int .i64 x5, .int .i64 x6] := by
    apply Array.toList_inj.1
    rw [e]
  rw [this]
theorem fields_stock : ∃ f0 f1 f2 f3 : Field, Try.prog.underlying 34 = some (.struct #[f0, f1, f2, f3]) ∧ (f0.type = 9 ∧ f0.offset = 0) ∧ (f1.type = 9 ∧ f1.offset = 1) ∧ (f2.type = 3 ∧ f2.offset = 2) ∧ (f3.type = 3 ∧ f3.offset = 3) := ⟨_, _, _, _, Try.underlying34, ⟨rfl, rfl⟩, ⟨rfl, rfl⟩, ⟨rfl, rfl⟩, ⟨rfl, rfl⟩⟩
theorem cells_stock : Try.prog.cellsOf 34 = 4 := by kernel_rfl
theorem open_cells_stock {H : Type} {enc : TypeId × Value → H} {W : World} {fuel : Nat} {cs : List Value} {x : DataW H × List MemPlace} (hl : cs.length = 4) (h : DataW.trod enc Try.prog W 0 (fun _ => true) true fuel 34 cs = some x) :
    ∃ (x0 : ByteArray) (x1 : ByteArray) (x2 : Int) (x3 : Int), cs = [.string x0, .string x1, .int .i64 x2, .int .i64 x3] ∧ x0.size ≤ 9223372036854775807 ∧ x1.size ≤ 9223372036854775807 ∧ (-9223372036854775808 ≤ x2 ∧ x2 ≤ 9223372036854775807) ∧ (-9223372036854775808 ≤ x3 ∧ x3 ≤ 9223372036854775807) := by
  obtain ⟨f0, f1, f2, f3, hu, ⟨t0, o0⟩, ⟨t1, o1⟩, ⟨t2, o2⟩, ⟨t3, o3⟩⟩ := fields_stock
  obtain ⟨xs, k, _, _, _, hxl, hfs⟩ := DataW.trod_struct hu h
  match xs, hxl, cs, hl with
  | [y0, y1, y2, y3], _, [v0, v1, v2, v3], _ =>
    have g0 := hfs 0 f0 rfl
    simp [t0, o0, cells9] at g0
    obtain ⟨z0, e0, _, w0⟩ := DataW.trod_string Try.underlying9 g0
    cases e0
    unfold maxLen at w0
    have g1 := hfs 1 f1 rfl
    simp [t1, o1, cells9] at g1
    obtain ⟨z1, e1, _, w1⟩ := DataW.trod_string Try.underlying9 g1
    cases e1
    unfold maxLen at w1
    have g2 := hfs 2 f2 rfl
    simp [t2, o2, cells3] at g2
    obtain ⟨z2, e2, _, w2⟩ := DataW.trod_int Try.underlying3 g2
    cases e2
    have g3 := hfs 3 f3 rfl
    simp [t3, o3, cells3] at g3
    obtain ⟨z3, e3, _, w3⟩ := DataW.trod_int Try.underlying3 g3
    cases e3
    exact ⟨z0, z1, z2, z3, rfl, (by omega), (by omega), rangeN w2, rangeN w3⟩
theorem open_stock {H : Type} {enc : TypeId × Value → H} {W : World} {base : Nat} {v : Value} {d : DataW H} {ps : List MemPlace} (hv : Value.okWide Try.prog W .any base 34 v) (h : DataW.Trod enc Try.prog W 0 (fun _ => true) true 34 v d ps) :
    ∃ (x0 : ByteArray) (x1 : ByteArray) (x2 : Int) (x3 : Int), v = .agg #[.string x0, .string x1, .int .i64 x2, .int .i64 x3] ∧ x0.size ≤ 9223372036854775807 ∧ x1.size ≤ 9223372036854775807 ∧ (-9223372036854775808 ≤ x2 ∧ x2 ≤ 9223372036854775807) ∧ (-9223372036854775808 ≤ x3 ∧ x3 ≤ 9223372036854775807) := by
  obtain ⟨f0, f1, f2, f3, hu, _⟩ := fields_stock
  obtain ⟨cs, rfl, hc⟩ := okWide_struct hu hv
  obtain ⟨fuel, hf⟩ := h
  rw [cells_stock] at hc
  have hcs : (Value.agg cs).cells.toList = cs.toList := rfl
  rw [hcs] at hf
  obtain ⟨x0, x1, x2, x3, e, hr⟩ := open_cells_stock (by simpa using hc) hf
  refine ⟨x0, x1, x2, x3, ?_, hr⟩
  have : cs = #[.string x0, .string x1, .int .i64 x2, .int .i64 x3] := by
    apply Array.toList_inj.1
    rw [e]
  rw [this]
theorem fields_hold : ∃ f0 f1 f2 f3 f4 f5 : Field, Try.prog.underlying 44 = some (.struct #[f0, f1, f2, f3, f4, f5]) ∧ (f0.type = 3 ∧ f0.offset = 0) ∧ (f1.type = 9 ∧ f1.offset = 1) ∧ (f2.type = 9 ∧ f2.offset = 2) ∧ (f3.type = 3 ∧ f3.offset = 3) ∧ (f4.type = 3 ∧ f4.offset = 4) ∧ (f5.type = 3 ∧ f5.offset = 5) := ⟨_, _, _, _, _, _, Try.underlying44, ⟨rfl, rfl⟩, ⟨rfl, rfl⟩, ⟨rfl, rfl⟩, ⟨rfl, rfl⟩, ⟨rfl, rfl⟩, ⟨rfl, rfl⟩⟩
theorem cells_hold : Try.prog.cellsOf 44 = 6 := by kernel_rfl
theorem open_cells_hold {H : Type} {enc : TypeId × Value → H} {W : World} {fuel : Nat} {cs : List Value} {x : DataW H × List MemPlace} (hl : cs.length = 6) (h : DataW.trod enc Try.prog W 0 (fun _ => true) true fuel 44 cs = some x) :
    ∃ (x0 : Int) (x1 : ByteArray) (x2 : ByteArray) (x3 : Int) (x4 : Int) (x5 : Int), cs = [.int .i64 x0, .string x1, .string x2, .int .i64 x3, .int .i64 x4, .int .i64 x5] ∧ (-9223372036854775808 ≤ x0 ∧ x0 ≤ 9223372036854775807) ∧ x1.size ≤ 9223372036854775807 ∧ x2.size ≤ 9223372036854775807 ∧ (-9223372036854775808 ≤ x3 ∧ x3 ≤ 9223372036854775807) ∧ (-9223372036854775808 ≤ x4 ∧ x4 ≤ 9223372036854775807) ∧ (-9223372036854775808 ≤ x5 ∧ x5 ≤ 9223372036854775807) := by
  obtain ⟨f0, f1, f2, f3, f4, f5, hu, ⟨t0, o0⟩, ⟨t1, o1⟩, ⟨t2, o2⟩, ⟨t3, o3⟩, ⟨t4, o4⟩, ⟨t5, o5⟩⟩ := fields_hold
  obtain ⟨xs, k, _, _, _, hxl, hfs⟩ := DataW.trod_struct hu h
  match xs, hxl, cs, hl with
  | [y0, y1, y2, y3, y4, y5], _, [v0, v1, v2, v3, v4, v5], _ =>
    have g0 := hfs 0 f0 rfl
    simp [t0, o0, cells3] at g0
    obtain ⟨z0, e0, _, w0⟩ := DataW.trod_int Try.underlying3 g0
    cases e0
    have g1 := hfs 1 f1 rfl
    simp [t1, o1, cells9] at g1
    obtain ⟨z1, e1, _, w1⟩ := DataW.trod_string Try.underlying9 g1
    cases e1
    unfold maxLen at w1
    have g2 := hfs 2 f2 rfl
    simp [t2, o2, cells9] at g2
    obtain ⟨z2, e2, _, w2⟩ := DataW.trod_string Try.underlying9 g2
    cases e2
    unfold maxLen at w2
    have g3 := hfs 3 f3 rfl
    simp [t3, o3, cells3] at g3
    obtain ⟨z3, e3, _, w3⟩ := DataW.trod_int Try.underlying3 g3
    cases e3
    have g4 := hfs 4 f4 rfl
    simp [t4, o4, cells3] at g4
    obtain ⟨z4, e4, _, w4⟩ := DataW.trod_int Try.underlying3 g4
    cases e4
    have g5 := hfs 5 f5 rfl
    simp [t5, o5, cells3] at g5
    obtain ⟨z5, e5, _, w5⟩ := DataW.trod_int Try.underlying3 g5
    cases e5
    exact ⟨z0, z1, z2, z3, z4, z5, rfl, rangeN w0, (by omega), (by omega), rangeN w3, rangeN w4, rangeN w5⟩
theorem open_hold {H : Type} {enc : TypeId × Value → H} {W : World} {base : Nat} {v : Value} {d : DataW H} {ps : List MemPlace} (hv : Value.okWide Try.prog W .any base 44 v) (h : DataW.Trod enc Try.prog W 0 (fun _ => true) true 44 v d ps) :
    ∃ (x0 : Int) (x1 : ByteArray) (x2 : ByteArray) (x3 : Int) (x4 : Int) (x5 : Int), v = .agg #[.int .i64 x0, .string x1, .string x2, .int .i64 x3, .int .i64 x4, .int .i64 x5] ∧ (-9223372036854775808 ≤ x0 ∧ x0 ≤ 9223372036854775807) ∧ x1.size ≤ 9223372036854775807 ∧ x2.size ≤ 9223372036854775807 ∧ (-9223372036854775808 ≤ x3 ∧ x3 ≤ 9223372036854775807) ∧ (-9223372036854775808 ≤ x4 ∧ x4 ≤ 9223372036854775807) ∧ (-9223372036854775808 ≤ x5 ∧ x5 ≤ 9223372036854775807) := by
  obtain ⟨f0, f1, f2, f3, f4, f5, hu, _⟩ := fields_hold
  obtain ⟨cs, rfl, hc⟩ := okWide_struct hu hv
  obtain ⟨fuel, hf⟩ := h
  rw [cells_hold] at hc
  have hcs : (Value.agg cs).cells.toList = cs.toList := rfl
  rw [hcs] at hf
  obtain ⟨x0, x1, x2, x3, x4, x5, e, hr⟩ := open_cells_hold (by simpa using hc) hf
  refine ⟨x0, x1, x2, x3, x4, x5, ?_, hr⟩
  have : cs = #[.int .i64 x0, .string x1, .string x2, .int .i64 x3, .int .i64 x4, .int .i64 x5] := by
    apply Array.toList_inj.1
    rw [e]
  rw [this]
theorem fields_move : ∃ f0 f1 f2 f3 f4 f5 : Field, Try.prog.underlying 50 = some (.struct #[f0, f1, f2, f3, f4, f5]) ∧ (f0.type = 3 ∧ f0.offset = 0) ∧ (f1.type = 9 ∧ f1.offset = 1) ∧ (f2.type = 9 ∧ f2.offset = 2) ∧ (f3.type = 3 ∧ f3.offset = 3) ∧ (f4.type = 3 ∧ f4.offset = 4) ∧ (f5.type = 3 ∧ f5.offset = 5) := ⟨_, _, _, _, _, _, Try.underlying50, ⟨rfl, rfl⟩, ⟨rfl, rfl⟩, ⟨rfl, rfl⟩, ⟨rfl, rfl⟩, ⟨rfl, rfl⟩, ⟨rfl, rfl⟩⟩
theorem cells_move : Try.prog.cellsOf 50 = 6 := by kernel_rfl
theorem open_cells_move {H : Type} {enc : TypeId × Value → H} {W : World} {fuel : Nat} {cs : List Value} {x : DataW H × List MemPlace} (hl : cs.length = 6) (h : DataW.trod enc Try.prog W 0 (fun _ => true) true fuel 50 cs = some x) :
    ∃ (x0 : Int) (x1 : ByteArray) (x2 : ByteArray) (x3 : Int) (x4 : Int) (x5 : Int), cs = [.int .i64 x0, .string x1, .string x2, .int .i64 x3, .int .i64 x4, .int .i64 x5] ∧ (-9223372036854775808 ≤ x0 ∧ x0 ≤ 9223372036854775807) ∧ x1.size ≤ 9223372036854775807 ∧ x2.size ≤ 9223372036854775807 ∧ (-9223372036854775808 ≤ x3 ∧ x3 ≤ 9223372036854775807) ∧ (-9223372036854775808 ≤ x4 ∧ x4 ≤ 9223372036854775807) ∧ (-9223372036854775808 ≤ x5 ∧ x5 ≤ 9223372036854775807) := by
  obtain ⟨f0, f1, f2, f3, f4, f5, hu, ⟨t0, o0⟩, ⟨t1, o1⟩, ⟨t2, o2⟩, ⟨t3, o3⟩, ⟨t4, o4⟩, ⟨t5, o5⟩⟩ := fields_move
  obtain ⟨xs, k, _, _, _, hxl, hfs⟩ := DataW.trod_struct hu h
  match xs, hxl, cs, hl with
  | [y0, y1, y2, y3, y4, y5], _, [v0, v1, v2, v3, v4, v5], _ =>
    have g0 := hfs 0 f0 rfl
    simp [t0, o0, cells3] at g0
    obtain ⟨z0, e0, _, w0⟩ := DataW.trod_int Try.underlying3 g0
    cases e0
    have g1 := hfs 1 f1 rfl
    simp [t1, o1, cells9] at g1
    obtain ⟨z1, e1, _, w1⟩ := DataW.trod_string Try.underlying9 g1
    cases e1
    unfold maxLen at w1
    have g2 := hfs 2 f2 rfl
    simp [t2, o2, cells9] at g2
    obtain ⟨z2, e2, _, w2⟩ := DataW.trod_string Try.underlying9 g2
    cases e2
    unfold maxLen at w2
    have g3 := hfs 3 f3 rfl
    simp [t3, o3, cells3] at g3
    obtain ⟨z3, e3, _, w3⟩ := DataW.trod_int Try.underlying3 g3
    cases e3
    have g4 := hfs 4 f4 rfl
    simp [t4, o4, cells3] at g4
    obtain ⟨z4, e4, _, w4⟩ := DataW.trod_int Try.underlying3 g4
    cases e4
    have g5 := hfs 5 f5 rfl
    simp [t5, o5, cells3] at g5
    obtain ⟨z5, e5, _, w5⟩ := DataW.trod_int Try.underlying3 g5
    cases e5
    exact ⟨z0, z1, z2, z3, z4, z5, rfl, rangeN w0, (by omega), (by omega), rangeN w3, rangeN w4, rangeN w5⟩
theorem open_move {H : Type} {enc : TypeId × Value → H} {W : World} {base : Nat} {v : Value} {d : DataW H} {ps : List MemPlace} (hv : Value.okWide Try.prog W .any base 50 v) (h : DataW.Trod enc Try.prog W 0 (fun _ => true) true 50 v d ps) :
    ∃ (x0 : Int) (x1 : ByteArray) (x2 : ByteArray) (x3 : Int) (x4 : Int) (x5 : Int), v = .agg #[.int .i64 x0, .string x1, .string x2, .int .i64 x3, .int .i64 x4, .int .i64 x5] ∧ (-9223372036854775808 ≤ x0 ∧ x0 ≤ 9223372036854775807) ∧ x1.size ≤ 9223372036854775807 ∧ x2.size ≤ 9223372036854775807 ∧ (-9223372036854775808 ≤ x3 ∧ x3 ≤ 9223372036854775807) ∧ (-9223372036854775808 ≤ x4 ∧ x4 ≤ 9223372036854775807) ∧ (-9223372036854775808 ≤ x5 ∧ x5 ≤ 9223372036854775807) := by
  obtain ⟨f0, f1, f2, f3, f4, f5, hu, _⟩ := fields_move
  obtain ⟨cs, rfl, hc⟩ := okWide_struct hu hv
  obtain ⟨fuel, hf⟩ := h
  rw [cells_move] at hc
  have hcs : (Value.agg cs).cells.toList = cs.toList := rfl
  rw [hcs] at hf
  obtain ⟨x0, x1, x2, x3, x4, x5, e, hr⟩ := open_cells_move (by simpa using hc) hf
  refine ⟨x0, x1, x2, x3, x4, x5, ?_, hr⟩
  have : cs = #[.int .i64 x0, .string x1, .string x2, .int .i64 x3, .int .i64 x4, .int .i64 x5] := by
    apply Array.toList_inj.1
    rw [e]
  rw [this]
/-- A list out of what there is of each place. -/
theorem list_of {α : Type} (n : Nat) (P : Nat → α → Prop) (h : ∀ i, i < n → ∃ x, P i x) : ∃ l : List α, l.length = n ∧ ∀ i (hi : i < l.length), P i l[i] := by
  induction n with
  | zero => exact ⟨[], rfl, fun i hi => absurd hi (Nat.not_lt_zero i)⟩
  | succ n ih =>
    obtain ⟨l, hl, hP⟩ := ih (fun i hi => h i (by omega))
    obtain ⟨x, hx⟩ := h n (by omega)
    refine ⟨l ++ [x], by simp [hl], fun i hi => ?_⟩
    by_cases hin : i < l.length
    · rw [List.getElem_append_left hin]; exact hP i hin
    · have hi' : i = l.length := by simp at hi; omega
      subst hi'
      rw [List.getElem_concat_length rfl]
      rw [hl]
      exact hx
theorem open_row {H : Type} {enc : TypeId × Value → H} {W : World} {a1 : Option Addr} {len1 cap1 : Nat} {d : DataW H} {ps : List MemPlace} (h : DataW.Trod enc Try.prog W 0 (fun _ => true) true 36 (.slice a1 len1 cap1) d ps) :
    ∃ r : List V, r.length = len1 ∧ Row W (.slice a1 r.length cap1) r ∧ len1 ≤ 9223372036854775807 := by
  obtain ⟨fuel, hf⟩ := h
  rcases Deep.open_slice Try.underlying36 hf with ⟨hcs, _⟩ | ⟨a, len, cap, m, n, D, Pl, hcs, _, hl, hm, hmm, _, hx⟩
  · simp [Value.cells] at hcs
    obtain ⟨rfl, rfl, rfl⟩ := hcs
    exact ⟨[], rfl, .inl ⟨_, _, rfl, rfl⟩, Nat.zero_le _⟩
  · simp [Value.cells] at hcs
    obtain ⟨rfl, rfl, rfl⟩ := hcs
    simp only [if_true] at hmm
    unfold maxLen at hm
    by_cases h0 : len1 = 0
    · subst h0
      exact ⟨[], rfl, .inl ⟨_, _, rfl, rfl⟩, Nat.zero_le _⟩
    · obtain ⟨b, o, spot⟩ := a
      have hs : spot = none := by
        obtain ⟨cs, h1, _⟩ := hx 0 (by omega)
        rw [cells_value] at h1
        obtain ⟨_, hlen, hcell⟩ := World.cells?_some h1
        have h0 := hcell 0 (by omega)
        rw [List.getElem?_eq_getElem (by omega)] at h0
        simpa [Addr.add] using World.cell?_spot h0
      subst hs
      obtain ⟨r, hr, hP⟩ := list_of len1 (fun i (x : V) => At W b (o + i * 3) x.k x.n x.s) (fun i hi => by
        obtain ⟨cs, h1, h2⟩ := hx i (by omega)
        rw [cells_value] at h1
        obtain ⟨_, hlen, hcell⟩ := World.cells?_some h1
        obtain ⟨k, n, s, rfl, _⟩ := open_cells_value hlen h2
        have hc0 := hcell 0 (by omega)
        have hc1 := hcell 1 (by omega)
        have hc2 := hcell 2 (by omega)
        rw [Deep.add_add] at hc0 hc1 hc2
        rw [Go.WideShapes.add_plain] at hc0 hc1 hc2
        exact ⟨⟨k, n, s⟩, hc0, by rw [Nat.add_assoc]; exact hc1, by rw [Nat.add_assoc]; exact hc2⟩)
      exact ⟨r, hr, .inr ⟨b, o, cap1, by rw [hr], hP⟩, by omega⟩
end Go.Proofs.Ytaoboleifdgonaa
