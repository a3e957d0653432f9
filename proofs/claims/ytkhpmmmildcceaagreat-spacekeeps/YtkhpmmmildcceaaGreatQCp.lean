/- States copied. -/
import Derived.Test.YtkhpmmmildcceaaGreatQNm
import Derived.Shelf.SlMaps.Clone
import Derived.Deep.RegionHeld
namespace Go.Proofs.YtkhpmmmildcceaaGreat
open Go.ChangeShapes Go.WideShapes Go.ChangeAt Go.RowKit
set_option linter.unusedVariables false
set_option maxRecDepth 100000

open Go.Maps (Keyed)
theorem end_cell_tmp {fn : Func} {p u : Tmp} {ty : TypeId} {b : Addr} {v : Value} {tmps : Array Value} {w : World} (h : fn.results = #[.cell p ty, .tmp u]) (hp : tmps.getD p undef = .pointer (some b)) (hl : (loadVar ty b).run Tryz.prog w = .ok v w) :
    (results fn tmps).run Tryz.prog w = .ok (.tuple #[v, tmps.getD u undef]) w := by
  have e : (results fn tmps).run Tryz.prog w = ((asAddr (tmps.getD p undef)).run Tryz.prog w).andThen fun a w₁ => ((loadVar ty a).run Tryz.prog w₁).andThen fun v w₂ => .ok (.tuple #[v, tmps.getD u undef]) w₂ := by
    simp only [results, h]
    simp [Sem.run_bind, Result.andThen]
  rw [e, hp]
  simp [asAddr, hl, Result.andThen]
theorem end_cell {fn : Func} {p : Tmp} {ty : TypeId} {b : Addr} {v : Value} {tmps : Array Value} {w : World} (h : fn.results = #[.cell p ty]) (hp : tmps.getD p undef = .pointer (some b)) (hl : (loadVar ty b).run Tryz.prog w = .ok v w) :
    (results fn tmps).run Tryz.prog w = .ok v w := by
  have e : (results fn tmps).run Tryz.prog w = ((asAddr (tmps.getD p undef)).run Tryz.prog w).andThen fun a w₁ => (loadVar ty a).run Tryz.prog w₁ := by
    simp only [results, h]
    simp [Sem.run_bind, Result.andThen]
  rw [e, hp]
  simp [asAddr, hl, Result.andThen]
theorem built68 (f : Nat → Value) (k : Nat) : Tryz.prog.built 68 [(0, .agg ((List.range 63).map f).toArray), (1, .map (some k))] = some (((List.range 63).map f) ++ [Value.map (some k)]).toArray := by kernel_rfl
theorem list63 (l : List Value) (h : l.length = 63) : l = (List.range 63).map (fun i => l.getD i undef) := by
  apply List.ext_getElem
  · rw [List.length_map, List.length_range]; exact h
  · intro i h1 h2
    rw [List.getElem_map, List.getElem_range, List.getD_eq_getElem?_getD, List.getElem?_eq_getElem h1]
    rfl
theorem build68_2 (u : List UInt8) (hu : u.length = 63) (k : Nat) (w : World) : (Instr.build 68 #[(0, .agg (bv u).toArray), (1, .map (some k))]).run Tryz.prog w = .ok (.agg (stC u (some k)).toArray) w := by
  apply run_build
  have e := list63 (bv u) (by rw [bv_length]; exact hu)
  rw [e]
  have := built68 (fun i => (bv u).getD i undef) k
  rw [this]
  unfold stC
  rw [← e]

theorem clone_is {w : World} {m : Nat} {ns : List Nam} (h : NmAt w m ns) : Calls Tryz.prog 62 #[.map (some m)] w fun e w' => e = .returned (.map (some w.heap.size)) ∧ NmAt w' w.heap.size ns ∧ ∃ o, w' = w.alloc o := by
  obtain ⟨es, clock, hb, F, hs, hD⟩ := h
  have hq := fun w => run_eql_map_nil_sl (P := Tryz.prog) w 66 _ _ (some m) Tryz.underlying66
  have HF : Hid (NmAt (w.alloc (.map es clock)) w.heap.size ns) := ⟨es, clock, (MapKept.heap_alloc w _).1, F, hs, hD⟩
  clear F hs hD
  go_enter Tryz.func62, Tryz.ntmps62
  go_wp2
  rw [run_callFunc_extern Tryz.func91 (by kernel_rfl) (by kernel_rfl) (by kernel_rfl) (e := Extern.MapsClone.clone) (by kernel_rfl), run_maps_clone_sl w 66 hb]
  simp only [Result.andThen]
  rw [Oper.upon_value]
  go_wp2
  rw [run_typeAssert_map_sl _ 66 20 _ _ _ Tryz.underlying66]
  simp only [Result.andThen]
  rw [Oper.upon_value]
  go_wp2
  go_ret
  exact ⟨rfl, HF.out, _, rfl⟩
/-- What stays while a state is copied. -/
theorem load_us {w : World} {b o : Nat} {u : List UInt8} (h : Us w b o u) : (Instr.loadAt 65 (.pointer (some ⟨b, o, none⟩))).run Tryz.prog w = .ok (.agg (bv u).toArray) w :=
  load65 (bv u) (by rw [bv_length]; exact h.1) (fun j x hx => by
    unfold bv at hx
    rw [List.getElem?_map] at hx
    cases q : u[j]? with
    | none => rw [q] at hx; cases hx
    | some y =>
      rw [q] at hx
      rw [h.2 j y q]
      exact hx)
theorem Us.kept {F : Nat → Prop} {w w' : World} {b o : Nat} {u : List UInt8} (h : Us w b o u) (k : Kept F w w') (hn : ¬ F b) : Us w' b o u := ⟨h.1, fun i x hx => k.cell (h.2 i x hx) hn⟩
section
variable {P : Program} {ops : Array Oper} {o : Oper} {a : Act} {w w' : World} {Q : Exit → Act → World → Prop} {K : Act → World → Prop} {E : Prop} {v : Value}
theorem dr_build2 {ty : TypeId} {i j : Nat} {x y : Operand} (hgd : o.guard = none) (ho : o.op = .build ty #[(i, x), (j, y)]) (hr : (Instr.build ty #[(i, a.eval x), (j, a.eval y)]).run P w = .ok v w') (hK : K (a.put o.dst v) w') :
    if Region.wanted o (yielded ops a.tmps) = true then Oper.wp P o a w K Q else E := by
  have hw : Region.wanted o (yielded ops a.tmps) = true := by simp [Region.wanted, hgd]
  rw [if_pos hw]
  unfold Oper.wp execOp
  simp only [ho, Sem.run_bind, List.map_toArray, List.map_cons, List.map_nil, hr, Result.andThen_ok]
  exact hK
theorem dr_build1 {ty : TypeId} {i : Nat} {x : Operand} (hgd : o.guard = none) (ho : o.op = .build ty #[(i, x)]) (hr : (Instr.build ty #[(i, a.eval x)]).run P w = .ok v w') (hK : K (a.put o.dst v) w') :
    if Region.wanted o (yielded ops a.tmps) = true then Oper.wp P o a w K Q else E := by
  have hw : Region.wanted o (yielded ops a.tmps) = true := by simp [Region.wanted, hgd]
  rw [if_pos hw]
  unfold Oper.wp execOp
  simp only [ho, Sem.run_bind, List.map_toArray, List.map_cons, List.map_nil, hr, Result.andThen_ok]
  exact hK
theorem dr_store {ty : TypeId} {x y : Operand} (hgd : o.guard = none) (ho : o.op = .store ty x y) (hr : (Instr.storeAt ty (a.eval x) (a.eval y)).run P w = .ok () w') (hK : K (a.put o.dst undef) w') :
    if Region.wanted o (yielded ops a.tmps) = true then Oper.wp P o a w K Q else E := by
  have hw : Region.wanted o (yielded ops a.tmps) = true := by simp [Region.wanted, hgd]
  rw [if_pos hw]
  unfold Oper.wp execOp
  simp only [ho, Sem.run_bind, hr, Result.andThen_ok]
  exact hK
end
def StX (w : World) (b : Nat) : Prop := ∃ u m, StAt w b u m
theorem StX.store {w : World} {b : Nat} (h : StX w b) (u : List UInt8) (m : Option Nat) (hu : u.length = 63) : (Instr.storeAt 68 (.pointer (some ⟨b, 0, none⟩)) (.agg (stC u m).toArray)).run Tryz.prog w = .ok () (w.setCells b 0 (stC u m)) ∧ StAt (w.setCells b 0 (stC u m)) b u m := by
  obtain ⟨u1, m1, h1⟩ := h
  exact h1.store u m hu
theorem StX.kept {F : Nat → Prop} {w w' : World} {b : Nat} (h : StX w b) (k : Kept F w w') (hn : ¬ F b) : StX w' b := by
  obtain ⟨u1, m1, h1⟩ := h
  exact ⟨u1, m1, h1.kept k hn⟩
theorem StX.there {w : World} {b : Nat} (h : StX w b) : w.there b 0 64 := by
  obtain ⟨u, m, h1⟩ := h
  intro j hj
  have hl := stC_len u m h1.2
  refine ⟨?_, h1.1.fz _⟩
  rw [Nat.zero_add, h1.1.cell (List.getElem?_eq_getElem (by rw [hl]; exact hj))]
  rfl
theorem Us.range {w : World} {b o : Nat} {u : List UInt8} (h : Us w b o u) : w.rangeAt b o (bv u) := fun j x hx => by
  unfold bv at hx
  rw [List.getElem?_map] at hx
  cases q : u[j]? with
  | none => rw [q] at hx; cases hx
  | some y =>
    rw [q] at hx
    rw [h.2 j y q]
    exact hx
theorem size65 : (Tryz.prog.info? 65).map (·.size) = some 63 := by kernel_rfl
theorem size68 : (Tryz.prog.info? 68).map (·.size) = some 64 := by kernel_rfl
theorem under65 : Tryz.prog.underlying 65 = some (.array 63 5) := by kernel_rfl
set_option maxHeartbeats 2000000 in
theorem copied_is {w : World} {b o m : Nat} {u : List UInt8} {ns : List Nam} (h : Us w b o u) (hm : w.cell? ⟨b, o + 63, none⟩ = some (.map (some m))) (hn : NmAt w m ns) : Calls Tryz.prog 34 #[.pointer (some ⟨b, o, none⟩)] w fun e w' => ∃ k, e = .returned (.agg (stC u (some k)).toArray) ∧ NmAt w' k ns ∧ w.heap.size ≤ k ∧ Kept (fun _ => False) w w' := by
  obtain ⟨W, hW⟩ : ∃ W, w.alloc (.cells (stC u0 none).toArray 68) = W := ⟨_, rfl⟩
  obtain ⟨B5, hB⟩ : ∃ B, w.heap.size = B := ⟨_, rfl⟩
  have HAL : Hid ((Instr.alloc 68 true (.tuple #[])).run Tryz.prog w = .ok (.pointer (some ⟨B5, 0, none⟩)) W) := by have := alloc68 w; rw [hW, hB] at this; exact this
  have k0 : Kept (fun _ => False) w W := hW ▸ (Kept.refl _ w).alloc _
  have s0 : StAt W B5 u0 none := by have := StAt.new w u0 none u0_len; rw [hW, hB] at this; exact this
  obtain ⟨CU, hCU⟩ : ∃ C : List Value, bv u = C := ⟨_, rfl⟩
  obtain ⟨CS, hCS⟩ : ∃ C : Nat → List Value, (fun k => stC u (some k)) = C := ⟨_, rfl⟩
  have hCSk : ∀ k, CS k = stC u (some k) := fun k => by rw [← hCS]
  have hu65 := under65
  have hi65 : (Tryz.prog.info? 65).map (·.size) = some CU.length := by rw [size65, ← hCU, bv_length, h.1]
  have HI68 : Hid (∀ k, (Tryz.prog.info? 68).map (·.size) = some (CS k).length ∧ (CS k).length = 64 ∧ ∀ v ∈ CS k, v.oneCell' = true) := fun k => by
    rw [hCSk, size68, stC_len u (some k) h.1]
    exact ⟨rfl, rfl, stC_one u (some k)⟩
  have HLU : Hid (∀ V, Kept (fun _ => False) w V → StX V B5 → (V.rangeAt b o CU ∧ V.cell? ⟨b, o + 63, none⟩ = some (.map (some m)) ∧ V.there B5 0 64 ∧ Hid (Kept (fun _ => False) w V ∧ StX V B5))) := fun V kV sV => ⟨hCU ▸ (h.kept kV (fun z => z)).range, kV.cell hm (fun z => z), sV.there, kV, sV⟩
  have hS0 := HLU.out W k0 ⟨_, _, s0⟩
  have HCL : Hid (∀ V, (V.rangeAt b o CU ∧ V.cell? ⟨b, o + 63, none⟩ = some (.map (some m)) ∧ V.there B5 0 64 ∧ Hid (Kept (fun _ => False) w V ∧ StX V B5)) → Calls Tryz.prog 62 #[.map (some m)] V fun e V2 => ∃ k, e = .returned (.map (some k)) ∧ Hid (NmAt V2 k ns ∧ B5 < k) ∧ (V2.rangeAt b o CU ∧ V2.cell? ⟨b, o + 63, none⟩ = some (.map (some m)) ∧ V2.there B5 0 64 ∧ Hid (Kept (fun _ => False) w V2 ∧ StX V2 B5))) := fun V hV => by
    obtain ⟨kV, sV⟩ := hV.2.2.2.out
    refine (clone_is (hn.kept kV (fun z => z))).mono ?_
    rintro e w' ⟨rfl, q1, ob, rfl⟩
    have kk : Kept (fun _ => False) V (V.alloc ob) := (Kept.refl _ V).alloc _
    have hlt : B5 < V.heap.size := by obtain ⟨u1, m1, h1⟩ := sV; exact h1.1.lt
    exact ⟨_, rfl, ⟨q1, hlt⟩, HLU.out _ (kV.trans kk (fun _ z => z.elim)) (sV.kept kk (fun z => z))⟩
  have hBU : ∀ (k : Nat) (V : World), (Instr.build 68 #[(0, .agg CU.toArray), (1, .map (some k))]).run Tryz.prog V = .ok (.agg (CS k).toArray) V := fun k V => by rw [← hCU, hCSk]; exact build68_2 u h.1 k V
  have HSK : Hid (∀ V : World, (V.rangeAt b o CU ∧ V.cell? ⟨b, o + 63, none⟩ = some (.map (some m)) ∧ V.there B5 0 64 ∧ Hid (Kept (fun _ => False) w V ∧ StX V B5)) → (V.drew.rangeAt b o CU ∧ V.drew.cell? ⟨b, o + 63, none⟩ = some (.map (some m)) ∧ V.drew.there B5 0 64 ∧ Hid (Kept (fun _ => False) w V.drew ∧ StX V.drew B5))) := fun V z => HLU.out _ z.2.2.2.out.1.drew (z.2.2.2.out.2.kept (Kept.refl (fun _ => False) V).drew (fun z => z))
  have HSS : Hid (∀ (V : World) (k : Nat), (V.rangeAt b o CU ∧ V.cell? ⟨b, o + 63, none⟩ = some (.map (some m)) ∧ V.there B5 0 64 ∧ Hid (Kept (fun _ => False) w V ∧ StX V B5)) → ((V.setCells B5 0 (CS k)).rangeAt b o CU ∧ (V.setCells B5 0 (CS k)).cell? ⟨b, o + 63, none⟩ = some (.map (some m)) ∧ (V.setCells B5 0 (CS k)).there B5 0 64 ∧ Hid (Kept (fun _ => False) w (V.setCells B5 0 (CS k)) ∧ StX (V.setCells B5 0 (CS k)) B5))) := fun V k z => HLU.out _ (z.2.2.2.out.1.setCells (.inr (Nat.le_of_eq hB)) _ _) (by
    have q := (z.2.2.2.out.2.store u (some k) h.1).2
    rw [hCSk]
    exact ⟨_, _, q⟩)
  have HSR : Hid (∀ (V : World) (k : Nat), (V.rangeAt b o CU ∧ V.cell? ⟨b, o + 63, none⟩ = some (.map (some m)) ∧ V.there B5 0 64 ∧ Hid (Kept (fun _ => False) w V ∧ StX V B5)) → (Instr.storeAt 68 (.pointer (some ⟨B5, 0, none⟩)) (.agg (CS k).toArray)).run Tryz.prog V = .ok () (V.setCells B5 0 (CS k))) := fun V k z => by rw [hCSk]; exact (z.2.2.2.out.2.store u (some k) h.1).1
  have HEN : Hid (∀ (V : World) (k : Nat), NmAt V k ns → B5 < k → Kept (fun _ => False) w V → StX V B5 → (loadVar 68 ⟨B5, 0, none⟩).run Tryz.prog (V.setCells B5 0 (CS k)) = .ok (.agg (stC u (some k)).toArray) (V.setCells B5 0 (CS k)) ∧ NmAt (V.setCells B5 0 (CS k)) k ns ∧ w.heap.size ≤ k ∧ Kept (fun _ => False) w (V.setCells B5 0 (CS k))) := fun V k z1 z2 z3 z4 => by
    have q := z4.store u (some k) h.1
    rw [hCSk]
    have kk : Kept (fun i => i = B5) V (V.setCells B5 0 (stC u (some k))) := Kept.setCells (F := fun i => i = B5) (.inl rfl) _ _ _ (Kept.refl _ V)
    exact ⟨q.2.loadV, z1.kept kk (by omega), by omega, z3.setCells (.inr (Nat.le_of_eq hB)) _ _⟩
  clear h hm hn hW hB k0 s0 hCU hCS hCSk
  go_enter Tryz.func34, Tryz.ntmps34
  go_upto_region 1 with ((with_reducible apply st_alloc); (case ho => rfl); (case hgd => rfl); (case hr => exact HAL.out))
  refine wp_region_held_drew (S := (fun (V : World) => (V.rangeAt b o CU ∧ V.cell? ⟨b, o + 63, none⟩ = some (.map (some m)) ∧ V.there B5 0 64 ∧ Hid (Kept (fun _ => False) w V ∧ StX V B5)))) (by kernel_rfl) (HSK.out _ hS0) (fun hS0 => ?_)
  refine wpAnyH_take (i := 0) (oi := { dst := some 3, op := Op.move (Operand.tmp 0), type := 108, pos := "state.go:60", after := #[], guard := none }) (v := (.pointer (some ⟨b, o, none⟩))) rfl (by kernel_rfl) (by kernel_rfl) (by kernel_rfl) (fun _ _ _ h => h) (Or.inl ⟨by rfl, ?_⟩) hS0 ?_
  · intro wx hSw
    (try dsimp only at hSw)
    first | (go_simp; done) | (go_simp; with_reducible rfl)
  (try simp only [Act.put]); (try simp only [List.setIfInBounds_toArray]); (try simp only [List.set_cons_succ]); (try simp only [List.set_cons_zero])
  refine wpAnyH_take (i := 1) (oi := { dst := some 4, op := Op.nilCheck (Operand.tmp 3), type := 0, pos := "state.go:60", after := #[{ on := 0, ground := Ground.data }], guard := none }) (v := (.pointer (some ⟨b, o, none⟩))) rfl (by kernel_rfl) (by kernel_rfl) (by kernel_rfl) (fun _ _ _ h => h) (Or.inl ⟨by rfl, ?_⟩) hS0 ?_
  · intro wx hSw
    (try dsimp only at hSw)
    first | (go_simp; done) | (go_simp; with_reducible rfl)
  (try simp only [Act.put]); (try simp only [List.setIfInBounds_toArray]); (try simp only [List.set_cons_succ]); (try simp only [List.set_cons_zero])
  refine wpAnyH_take (i := 2) (oi := { dst := some 5, op := Op.fieldAddr 68 (Operand.tmp 4) 0, type := 0, pos := "state.go:60", after := #[{ on := 1, ground := Ground.data }], guard := none }) (v := (.pointer (some ⟨b, o, none⟩))) rfl (by kernel_rfl) (by kernel_rfl) (by kernel_rfl) (fun _ _ _ h => h) (Or.inl ⟨by rfl, ?_⟩) hS0 ?_
  · intro wx hSw
    (try dsimp only at hSw)
    first | (go_simp; done) | (go_simp; with_reducible rfl)
  (try simp only [Act.put]); (try simp only [List.setIfInBounds_toArray]); (try simp only [List.set_cons_succ]); (try simp only [List.set_cons_zero])
  refine wpAnyH_take (i := 3) (oi := { dst := some 6, op := Op.load 65 (Operand.tmp 5), type := 65, pos := "state.go:60", after := #[{ on := 2, ground := Ground.data }], guard := none }) (v := _) rfl (by kernel_rfl) (by kernel_rfl) (by kernel_rfl) (fun _ _ _ h => h) (yieldsIf_load_mid (by rfl) 65 (Operand.tmp 5) rfl _ _ rfl _ _ (fun V hV => hV.1) hu65 rfl hi65) hS0 ?_
  (try simp only [Act.put]); (try simp only [List.setIfInBounds_toArray]); (try simp only [List.set_cons_succ]); (try simp only [List.set_cons_zero])
  refine wpAnyH_take (i := 4) (oi := { dst := some 7, op := Op.move (Operand.tmp 0), type := 108, pos := "state.go:60", after := #[], guard := none }) (v := (.pointer (some ⟨b, o, none⟩))) rfl (by kernel_rfl) (by kernel_rfl) (by kernel_rfl) (fun _ _ _ h => h) (Or.inl ⟨by rfl, ?_⟩) hS0 ?_
  · intro wx hSw
    (try dsimp only at hSw)
    first | (go_simp; done) | (go_simp; with_reducible rfl)
  (try simp only [Act.put]); (try simp only [List.setIfInBounds_toArray]); (try simp only [List.set_cons_succ]); (try simp only [List.set_cons_zero])
  refine wpAnyH_take (i := 5) (oi := { dst := some 8, op := Op.nilCheck (Operand.tmp 7), type := 0, pos := "state.go:60", after := #[{ on := 4, ground := Ground.data }], guard := none }) (v := (.pointer (some ⟨b, o, none⟩))) rfl (by kernel_rfl) (by kernel_rfl) (by kernel_rfl) (fun _ _ _ h => h) (Or.inl ⟨by rfl, ?_⟩) hS0 ?_
  · intro wx hSw
    (try dsimp only at hSw)
    first | (go_simp; done) | (go_simp; with_reducible rfl)
  (try simp only [Act.put]); (try simp only [List.setIfInBounds_toArray]); (try simp only [List.set_cons_succ]); (try simp only [List.set_cons_zero])
  refine wpAnyH_take (i := 6) (oi := { dst := some 9, op := Op.fieldAddr 68 (Operand.tmp 8) 1, type := 0, pos := "state.go:60", after := #[{ on := 5, ground := Ground.data }], guard := none }) (v := (.pointer (some ⟨b, o + 63, none⟩))) rfl (by kernel_rfl) (by kernel_rfl) (by kernel_rfl) (fun _ _ _ h => h) (Or.inl ⟨by rfl, ?_⟩) hS0 ?_
  · intro wx hSw
    (try dsimp only at hSw)
    first | (go_simp; done) | (go_simp; with_reducible rfl)
  (try simp only [Act.put]); (try simp only [List.setIfInBounds_toArray]); (try simp only [List.set_cons_succ]); (try simp only [List.set_cons_zero])
  refine wpAnyH_take (i := 7) (oi := { dst := some 10, op := Op.load 66 (Operand.tmp 9), type := 66, pos := "state.go:60", after := #[{ on := 6, ground := Ground.data }], guard := none }) (v := (.map (some m))) rfl (by kernel_rfl) (by kernel_rfl) (by kernel_rfl) (fun _ _ _ h => h) (Or.inl ⟨by rfl, ?_⟩) hS0 ?_
  · intro wx hSw
    (try dsimp only at hSw)
    first | (go_simp; done) | (go_simp; with_reducible rfl)
  (try simp only [Act.put]); (try simp only [List.setIfInBounds_toArray]); (try simp only [List.set_cons_succ]); (try simp only [List.set_cons_zero])
  refine wpAnyH_ready (rs := [8]) (by kernel_rfl) (by simp) ?_
  refine AllReadyH.cons rfl (fun K hK => ?_) AllReadyH.nil
  go_simp
  refine Calls.mono (HCL.out _ hS0) ?_
  rintro e w6 ⟨k6, rfl, HK6, hS6⟩
  refine hK.out _ _ (hS6) (fun hS1 => ?_)
  clear hK K
  (try simp only [Act.put]); (try simp only [List.setIfInBounds_toArray]); (try simp only [List.set_cons_succ]); (try simp only [List.set_cons_zero])
  refine wpAnyH_ready (rs := [9]) (by kernel_rfl) (by simp) ?_
  refine AllReadyH.cons rfl (fun K hK => ?_) AllReadyH.nil
  refine dr_build2 rfl rfl (hBU k6 _) ?_
  refine hK.out _ _ (hS6) (fun hS2 => ?_)
  clear hK K
  (try simp only [Act.put]); (try simp only [List.setIfInBounds_toArray]); (try simp only [List.set_cons_succ]); (try simp only [List.set_cons_zero])
  refine wpAnyH_ready (rs := [10]) (by kernel_rfl) (by simp) ?_
  refine AllReadyH.cons rfl (fun K hK => ?_) AllReadyH.nil
  refine dr_store rfl rfl (HSR.out _ k6 hS6) ?_
  refine hK.out _ _ (HSS.out _ _ hS6) (fun hS3 => ?_)
  clear hK K
  (try simp only [Act.put]); (try simp only [List.setIfInBounds_toArray]); (try simp only [List.set_cons_succ]); (try simp only [List.set_cons_zero])
  refine wpAnyH_done (by kernel_rfl) ?_ _
  try simp only [Exit.then]
  have hE := HEN.out w6 k6 HK6.out.1 HK6.out.2 hS6.2.2.2.out.1 hS6.2.2.2.out.2
  go_wp2_with fail
  refine bodyPost_ret (end_cell rfl rfl hE.1) rfl ?_
  exact ⟨k6, rfl, hE.2⟩
end Go.Proofs.YtkhpmmmildcceaaGreat
