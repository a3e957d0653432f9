/- Steps of a walk by what an operation's run is: for arrays by value, which are not to be laid open cell by cell. -/
import Derived.Test.YtbjijacpgklegaaNew
import Derived.Deep.RegionLaw
import Derived.StillTailTactics
import Derived.Great.BuildSlice
import Derived.Maps.AppendAt
namespace Go.Proofs.Ytbjijacpgklegaa
open Go.ChangeShapes Go.WideShapes Go.ChangeAt Go.RowKit
set_option linter.unusedVariables false
set_option maxRecDepth 100000

section
variable {P : Program} {ops : Array Oper} {rest : List Oper} {o : Oper} {a : Act} {w w' : World} {Q : Exit → Act → World → Prop} {K : Act → World → Prop} {E : Prop} {v : Value}

theorem st_load {ty : TypeId} {x : Operand} (hgd : o.guard = none) (ho : o.op = .load ty x) (hr : (Instr.loadAt ty (a.eval x)).run P w = .ok v w') (h : wpList P ops Q rest (a.put o.dst v) w') : wpList P ops Q (o :: rest) a w :=
  wpList_plain hgd fun _ hK => by
    unfold Oper.wp execOp
    simp only [ho, Sem.run_bind, hr, Result.andThen_ok]
    exact hK _ _ h
theorem st_store {ty : TypeId} {x y : Operand} (hgd : o.guard = none) (ho : o.op = .store ty x y) (hr : (Instr.storeAt ty (a.eval x) (a.eval y)).run P w = .ok () w') (h : wpList P ops Q rest (a.put o.dst undef) w') : wpList P ops Q (o :: rest) a w :=
  wpList_plain hgd fun _ hK => by
    unfold Oper.wp execOp
    simp only [ho, Sem.run_bind, hr, Result.andThen_ok]
    exact hK _ _ h
theorem st_alloc {ty : TypeId} (hgd : o.guard = none) (ho : o.op = .alloc ty) (hr : (Instr.alloc ty true (.tuple #[])).run P w = .ok v w') (h : wpList P ops Q rest (a.put o.dst v) w') : wpList P ops Q (o :: rest) a w :=
  wpList_plain hgd fun _ hK => by
    unfold Oper.wp execOp
    simp only [ho, Sem.run_bind, hr, Result.andThen_ok]
    exact hK _ _ h
theorem st_build {ty : TypeId} {i : Nat} {x : Operand} (hgd : o.guard = none) (ho : o.op = .build ty #[(i, x)]) (hr : (Instr.build ty #[(i, a.eval x)]).run P w = .ok v w') (h : wpList P ops Q rest (a.put o.dst v) w') : wpList P ops Q (o :: rest) a w :=
  wpList_plain hgd fun _ hK => by
    unfold Oper.wp execOp
    simp only [ho, Sem.run_bind, List.map_toArray, List.map_cons, List.map_nil, hr, Result.andThen_ok]
    exact hK _ _ h
theorem st_copy {x y : Operand} {t u : TypeId} (hgd : o.guard = none) (ho : o.op = .call { callee := .builtin .copy, args := #[x, y], argTypes := #[t, u] }) (hr : (Builtin.copy_ #[t, u] o.type #[a.eval x, a.eval y]).run P w = .ok v w') (h : wpList P ops Q rest (a.put o.dst v) w') : wpList P ops Q (o :: rest) a w :=
  wpList_plain hgd fun _ hK => by
    unfold Oper.wp execOp
    simp only [ho, resolve, invoke, builtin, Sem.run_bind, Sem.run_pure, Result.andThen_ok, List.map_toArray, List.map_cons, List.map_nil, hr]
    exact hK _ _ h
theorem st_clear {x : Operand} {t : TypeId} (hgd : o.guard = none) (ho : o.op = .call { callee := .builtin .clear, args := #[x], argTypes := #[t] }) (hr : (Builtin.clear_ #[t] o.type #[a.eval x]).run P w = .ok v w') (h : wpList P ops Q rest (a.put o.dst v) w') : wpList P ops Q (o :: rest) a w :=
  wpList_plain hgd fun _ hK => by
    unfold Oper.wp execOp
    simp only [ho, resolve, invoke, builtin, Sem.run_bind, Sem.run_pure, Result.andThen_ok, List.map_toArray, List.map_cons, List.map_nil, hr]
    exact hK _ _ h

theorem sl_load {R : Act → Prop} {ty : TypeId} {x : Operand} (hgd : o.guard = none) (ho : o.op = .load ty x) (hr : (Instr.loadAt ty (a.eval x)).run P w = .ok v w) (h : wpStill P ops w R rest (a.put o.dst v)) : wpStill P ops w R (o :: rest) a := by
  have hw : Region.wanted o (yielded ops a.tmps) = true := by simp [Region.wanted, hgd]
  unfold wpStill
  rw [if_pos hw]
  unfold Oper.still execOp
  simp only [ho, Sem.run_bind, hr, Result.andThen_ok]
  exact ⟨rfl, h⟩
theorem dr_append {x y : Operand} {t u : TypeId} (hgd : o.guard = none) (ho : o.op = .call { callee := .builtin .append, args := #[x, y], argTypes := #[t, u] }) (hr : (Builtin.append_ #[t, u] o.type #[a.eval x, a.eval y]).run P w = .ok v w')
    (hK : K (a.put o.dst v) w') : if Region.wanted o (yielded ops a.tmps) = true then Oper.wp P o a w K Q else E := by
  have hw : Region.wanted o (yielded ops a.tmps) = true := by simp [Region.wanted, hgd]
  rw [if_pos hw]
  unfold Oper.wp execOp
  simp only [ho, resolve, invoke, builtin, Sem.run_bind, Sem.run_pure, Result.andThen_ok, List.map_toArray, List.map_cons, List.map_nil, hr]
  exact hK
theorem dr_load {ty : TypeId} {x : Operand} (hgd : o.guard = none) (ho : o.op = .load ty x) (hr : (Instr.loadAt ty (a.eval x)).run P w = .ok v w') (hK : K (a.put o.dst v) w') :
    if Region.wanted o (yielded ops a.tmps) = true then Oper.wp P o a w K Q else E := by
  have hw : Region.wanted o (yielded ops a.tmps) = true := by simp [Region.wanted, hgd]
  rw [if_pos hw]
  unfold Oper.wp execOp
  simp only [ho, Sem.run_bind, hr, Result.andThen_ok]
  exact hK
theorem dr_slice {ty : TypeId} {n i : Nat} {x : Operand} (hgd : o.guard = none) (ho : o.op = .buildSlice ty n #[(i, x)]) (hr : (Instr.buildSlice ty n #[(i, a.eval x)]).run P w = .ok v w') (hK : K (a.put o.dst v) w') :
    if Region.wanted o (yielded ops a.tmps) = true then Oper.wp P o a w K Q else E := by
  have hw : Region.wanted o (yielded ops a.tmps) = true := by simp [Region.wanted, hgd]
  rw [if_pos hw]
  unfold Oper.wp execOp
  simp only [ho, Sem.run_bind, List.map_toArray, List.map_cons, List.map_nil, hr, Result.andThen_ok]
  exact hK
theorem dr_copy {x y : Operand} {t u : TypeId} (hgd : o.guard = none) (ho : o.op = .call { callee := .builtin .copy, args := #[x, y], argTypes := #[t, u] }) (hr : (Builtin.copy_ #[t, u] o.type #[a.eval x, a.eval y]).run P w = .ok v w')
    (hK : K (a.put o.dst v) w') : if Region.wanted o (yielded ops a.tmps) = true then Oper.wp P o a w K Q else E := by
  have hw : Region.wanted o (yielded ops a.tmps) = true := by simp [Region.wanted, hgd]
  rw [if_pos hw]
  unfold Oper.wp execOp
  simp only [ho, resolve, invoke, builtin, Sem.run_bind, Sem.run_pure, Result.andThen_ok, List.map_toArray, List.map_cons, List.map_nil, hr]
  exact hK
end

/-! The runs themselves, of sectors and writes. -/
theorem Try.info103 : (Try.prog.info? 103).map (fun i => (i.zero, i.size, i.bytes)) = some (some (.agg (#[.int .i64 0] ++ Array.replicate 32 (.int .u8 0))), 33, 40) := by kernel_rfl

theorem info_of {t : TypeId} {z : Value} {n b : Nat} (h : (Try.prog.info? t).map (fun i => (i.zero, i.size, i.bytes)) = some (some z, n, b)) : ∃ i, Try.prog.info? t = some i ∧ i.zero = some z ∧ i.size = n ∧ i.bytes = b := by
  cases hi : Try.prog.info? t with
  | none => rw [hi] at h; cases h
  | some i =>
    rw [hi] at h
    simp only [Option.map_some, Option.some.injEq, Prod.mk.injEq] at h
    exact ⟨i, rfl, h⟩

theorem loads {w : World} {b o n : Nat} (cs : List Value) (hn : cs.length = n) (h : ∀ j x, cs[j]? = some x → w.cell? ⟨b, o + j, none⟩ = some x) : (loadCellsFrom ⟨b, o, none⟩ 0 n #[]).run Try.prog w = .ok cs.toArray w := by
  have := run_loadCells_list (P := Try.prog) w ⟨b, o, none⟩ cs (fun j x hx => by rw [Go.WideShapes.add_plain]; exact h j x hx)
  rw [hn] at this
  exact this
theorem load62 {w : World} {b o : Nat} (cs : List Value) (hn : cs.length = 32) (h : ∀ j x, cs[j]? = some x → w.cell? ⟨b, o + j, none⟩ = some x) : (Instr.loadAt 101 (.pointer (some ⟨b, o, none⟩))).run Try.prog w = .ok (.agg cs.toArray) w := by
  have hl := loads cs hn h
  simp [Instr.loadAt, Instr.sureAddr, loadVar, Sem.run_bind, loadCells, hl]
theorem load64 {w : World} {b o : Nat} (cs : List Value) (hn : cs.length = 33) (h : ∀ j x, cs[j]? = some x → w.cell? ⟨b, o + j, none⟩ = some x) : (Instr.loadAt 103 (.pointer (some ⟨b, o, none⟩))).run Try.prog w = .ok (.agg cs.toArray) w := by
  have hl := loads cs hn h
  simp [Instr.loadAt, Instr.sureAddr, loadVar, Sem.run_bind, loadCells, hl]
theorem stores {w : World} {b o : Nat} (cs : List Value) (hc : ∀ j, j < cs.length → (w.cell? ⟨b, o + j, none⟩).isSome = true) (hf : ∀ j, j < cs.length → w.frozen? ⟨b, o + j, none⟩ = false) (h1 : ∀ v ∈ cs, v.oneCell' = true) :
    (storeCells ⟨b, o, none⟩ cs 0).run Try.prog w = .ok () (w.setCells b o cs) := by
  simpa using run_storeCells_cells (P := Try.prog) b o cs 0 w (by simpa using hc) (by simpa using hf) h1

theorem alloc64 (w : World) : (Instr.alloc 103 true (.tuple #[])).run Try.prog w = .ok (.pointer (some ⟨w.heap.size, 0, none⟩)) (w.alloc (.cells (#[.int .i64 0] ++ Array.replicate 32 (.int .u8 0)) 103)) := by
  simp [Instr.alloc, newVar, go_sem]
  rfl
theorem store64 {w : World} (C Z : Array Value) (hC : C.size = 33) (hZ : Z.size = 33) (h1 : ∀ v ∈ C.toList, v.oneCell' = true) : (Instr.storeAt 103 (.pointer (some ⟨w.heap.size, 0, none⟩)) (.agg C)).run Try.prog (w.alloc (.cells Z 103)) = .ok () (w.alloc (.cells C 103)) := by
  obtain ⟨i, hi, hz, h2, _⟩ := info_of Try.info103
  simp only [Instr.storeAt, Instr.sureAddr, Sem.run_bind, Sem.run_pure, Result.andThen]
  have hh : (w.alloc (.cells Z 103)).heap[w.heap.size]? = some (.cells Z 103 (0, 0)) := heap_alloc_new w _
  have := run_storeVar_row (P := Try.prog) (w.alloc (.cells Z 103)) w.heap.size 103 103 Z C hh (by rw [hi]; simp [h2, hC]) (by omega) (by rw [Array.all_eq_true]; intro k hk; exact h1 _ (by simp))
  rw [this]
  congr 1
  simp only [World.setRow, World.alloc]
  congr 1
  apply Array.ext_getElem?
  intro k
  rw [Array.getElem?_modify]
  by_cases h : w.heap.size = k
  · subst h
    simp
  · have h' : ¬ k = w.heap.size := fun e => h e.symm
    simp [h, h', Array.getElem?_push]
theorem bslice (U : List Value) (hU : U.length = 33) (w : World) : (Instr.buildSlice 67 1 #[(0, .agg U.toArray)]).run Try.prog w = .ok (.slice (some ⟨w.heap.size, 0, none⟩) 1 1) (w.alloc (.cells U.toArray 103)) := by
  obtain ⟨i, hi, hz, h1, h2⟩ := info_of Try.info103
  refine run_buildSlice w 67 103 1 _ _ i _ Try.underlying67 hi hz (by rw [h1]; omega) (by rw [h1]; omega) ?_
  rw [h1]
  generalize hC : (Array.range (1 * 33)).map ((Value.agg (#[.int .i64 0] ++ Array.replicate 32 (.int .u8 0))).cells[· % (Value.agg (#[.int .i64 0] ++ Array.replicate 32 (.int .u8 0))).cells.size]!) = C
  have hs : C.size = 33 := by rw [← hC]; simp
  have := Great.fill_whole (s := 33) (by omega) [.agg U.toArray] C (by simp [Value.cells, hU]) (by simp [hs])
  simpa [Value.cells] using this
theorem load54 {w : World} {b o : Nat} {v : Value} (h : w.cell? ⟨b, o, none⟩ = some v) : (Instr.loadAt 67 (.pointer (some ⟨b, o, none⟩))).run Try.prog w = .ok v w := by
  simp [go_sem, h]
theorem store62 {w : World} {b o : Nat} (cs : List Value) (hl : cs.length = 32) (hc : ∀ j, j < 32 → (w.cell? ⟨b, o + j, none⟩).isSome = true) (hf : ∀ j, j < 32 → w.frozen? ⟨b, o + j, none⟩ = false) (h1 : ∀ v ∈ cs, v.oneCell' = true) :
    (Instr.storeAt 101 (.pointer (some ⟨b, o, none⟩)) (.agg cs.toArray)).run Try.prog w = .ok () (w.setCells b o cs) := by
  have hs := stores (w := w) (b := b) (o := o) cs (by rw [hl]; exact hc) (by rw [hl]; exact hf) h1
  simp [Instr.storeAt, Instr.sureAddr, storeVar, Sem.run_bind, Value.cells, hl, hs]
theorem build64 (w : World) (a : Int) : (Instr.build 103 #[(0, .int .i64 a)]).run Try.prog w = .ok (.agg (#[.int .i64 a] ++ Array.replicate 32 (.int .u8 0))) w := by
  apply run_build
  kernel_rfl
end Go.Proofs.Ytbjijacpgklegaa
