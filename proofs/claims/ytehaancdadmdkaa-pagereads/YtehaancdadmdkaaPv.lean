/- Makings. -/
import Derived.Test.YtehaancdadmdkaaPf
import Derived.Great.BuildSlice
namespace Go.Proofs.Ytehaancdadmdkaa
open Go.ChangeShapes Go.WideShapes Go.ChangeAt Go.RowKit
set_option linter.unusedVariables false
set_option maxRecDepth 100000

theorem and_127 (n : Int) : bits .and .i64 n 127 = n % 128 := by
  have h : (BitVec.ofInt 64 127).toNat = 2 ^ 7 - 1 := by decide
  have key : (BitVec.ofInt 64 n &&& BitVec.ofInt 64 127).toNat = (n % ((2 ^ 64 : Nat) : Int)).toNat % 2 ^ 7 := by
    rw [BitVec.toNat_and, BitVec.toNat_ofInt, h, Nat.and_two_pow_sub_one_eq_mod]
  show IntKind.i64.wrap ((BitVec.ofInt 64 n &&& BitVec.ofInt 64 127).toNat : Nat) = n % 128
  rw [key, IntKind.wrap_i64]
  omega
theorem info5 : (Try.prog.info? 5).map (fun i => (i.zero, i.size, i.bytes)) = some (some (.int .u8 0), 1, 1) := by kernel_rfl
theorem info_of {t : TypeId} {z : Value} {n b : Nat} (h : (Try.prog.info? t).map (fun i => (i.zero, i.size, i.bytes)) = some (some z, n, b)) : ∃ i, Try.prog.info? t = some i ∧ i.zero = some z ∧ i.size = n ∧ i.bytes = b := by
  cases hi : Try.prog.info? t with
  | none => rw [hi] at h; cases h
  | some i =>
    rw [hi] at h
    simp only [Option.map_some, Option.some.injEq, Prod.mk.injEq] at h
    exact ⟨i, rfl, h⟩
theorem mkB (m : Nat) (hm : m ≤ 2000) (w : World) : (Instr.makeSlice 46 (.int .i64 m) (.int .i64 m)).run Try.prog w = .ok (.slice (some ⟨w.heap.size, 0, none⟩) m m) (w.alloc (.cells (List.replicate m (.int .u8 0)).toArray 5)) := by
  obtain ⟨i, hi, hz, h1, h2⟩ := info_of info5
  have h := run_make (P := Try.prog) w 46 5 i _ Try.underlying46 hi hz .i64 .i64 (m : Int) (m : Int) (by omega) (by omega) (by rw [h2]; omega) (by omega)
  rw [h, h1, Int.toNat_natCast, Nat.mul_one]
  congr 3
  rw [← toList_madeCells_one]
  simp [Value.cells]
theorem st_make {P : Program} {ops : Array Oper} {rest : List Oper} {o : Oper} {a : Act} {w w' : World} {Q : Exit → Act → World → Prop} {v : Value} {x y : Operand} {t : TypeId} (hgd : o.guard = none) (ho : o.op = .makeSlice t x y) (hr : (Instr.makeSlice t (a.eval x) (a.eval y)).run P w = .ok v w') (h : wpList P ops Q rest (a.put o.dst v) w') : wpList P ops Q (o :: rest) a w :=
  wpList_plain hgd fun _ hK => by
    unfold Oper.wp execOp
    simp only [ho, Sem.run_bind, Sem.run_pure, Result.andThen_ok, hr]
    exact hK _ _ h
theorem st_bslice {P : Program} {ops : Array Oper} {rest : List Oper} {o : Oper} {a : Act} {w w' : World} {Q : Exit → Act → World → Prop} {v : Value} {x y : Operand} {t : TypeId} {n i j : Nat} (hgd : o.guard = none) (ho : o.op = .buildSlice t n #[(i, x), (j, y)]) (hr : (Instr.buildSlice t n #[(i, a.eval x), (j, a.eval y)]).run P w = .ok v w') (h : wpList P ops Q rest (a.put o.dst v) w') : wpList P ops Q (o :: rest) a w :=
  wpList_plain hgd fun _ hK => by
    unfold Oper.wp execOp
    simp only [ho, Sem.run_bind, Sem.run_pure, Result.andThen_ok, List.map_toArray, List.map_cons, List.map_nil, hr]
    exact hK _ _ h
theorem convB (w : World) (L : List UInt8) (hL : L ≠ []) (c : Nat) : (convert 46 9 (.slice (some ⟨w.heap.size, 0, none⟩) L.length c)).run Try.prog (w.alloc (.cells (L.map (fun b => Value.int .u8 b.toNat)).toArray 5)) = .ok (.string ⟨L.toArray⟩) (w.alloc (.cells (L.map (fun b => Value.int .u8 b.toNat)).toArray 5)) := by
  have hc := CellsF.new w (L.map (fun b => Value.int .u8 b.toNat)) 5 (by simp [hL])
  exact run_convert_bytes_back (P := Try.prog) _ 46 9 5 ⟨w.heap.size, 0, none⟩ c L Try.underlying46 Try.underlying5 Try.underlying9 (fun j hj => by
    rw [Go.WideShapes.add_plain]
    have := hc.cs j (.int .u8 (L[j]).toNat) (by simp [hj])
    rw [Nat.zero_add]
    exact this)
theorem bs2 (a b : Int) (w : World) : (Instr.buildSlice 46 2 #[(0, .int .u8 a), (1, .int .u8 b)]).run Try.prog w = .ok (.slice (some ⟨w.heap.size, 0, none⟩) 2 2) (w.alloc (.cells #[.int .u8 a, .int .u8 b] 5)) := by
  obtain ⟨i, hi, hz, h1, h2⟩ := info_of info5
  refine run_buildSlice w 46 5 2 _ _ i _ Try.underlying46 hi hz (by rw [h1]; omega) (by rw [h1]; omega) ?_
  rw [h1]
  kernel_rfl
end Go.Proofs.Ytehaancdadmdkaa
