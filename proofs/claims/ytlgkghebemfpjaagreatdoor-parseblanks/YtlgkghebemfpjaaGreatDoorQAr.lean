/- Arms of a walk: loads and stores of the call's own variables, calls. next, refuse, leave, barNext, enter. take. is, sees, skip, need, comma, takeKind. -/
import Derived.Test.YtlgkghebemfpjaaGreatDoorQPm
import Derived.StillTailTactics
namespace Go.Proofs.YtlgkghebemfpjaaGreatDoor.Pa
open Go.ChangeShapes Go.WideShapes Go.ChangeAt Go.RowKit
set_option linter.unusedVariables false
set_option maxRecDepth 100000
def Lf : Value → Bool
 | .int _ _ => true
 | .bool _ => true
 | .string _ => true
 | .slice _ _ _ => true
 | .pointer _ => true
 | _ => false
theorem lv3 {w : World} {b j : Nat} {v : Value} (hc : w.cell? ⟨b,j,none⟩ = some v) : (loadVar 3 ⟨b,j,none⟩).run Tryz.prog w = .ok v w := by
 simp [loadVar,go_sem,hc]
theorem sv3 {w : World} {b j : Nat} {u v : Value} (hc : w.cell? ⟨b,j,none⟩ = some u) (hf : w.frozen? ⟨b,j,none⟩ = false) (h1 : Lf v = true) : (storeVar 3 ⟨b,j,none⟩ v).run Tryz.prog w = .ok () (w.setCell ⟨b,j,none⟩ v) := by
 cases v with
 | int | bool | string | slice | pointer => simp [storeVar,go_sem,hc,hf,storeCells]
 | _ => cases h1
theorem lv4 {w : World} {b j : Nat} {v : Value} (hc : w.cell? ⟨b,j,none⟩ = some v) : (loadVar 4 ⟨b,j,none⟩).run Tryz.prog w = .ok v w := by
 simp [loadVar,go_sem,hc]
theorem sv4 {w : World} {b j : Nat} {u v : Value} (hc : w.cell? ⟨b,j,none⟩ = some u) (hf : w.frozen? ⟨b,j,none⟩ = false) (h1 : Lf v = true) : (storeVar 4 ⟨b,j,none⟩ v).run Tryz.prog w = .ok () (w.setCell ⟨b,j,none⟩ v) := by
 cases v with
 | int | bool | string | slice | pointer => simp [storeVar,go_sem,hc,hf,storeCells]
 | _ => cases h1
theorem lv9 {w : World} {b j : Nat} {v : Value} (hc : w.cell? ⟨b,j,none⟩ = some v) : (loadVar 9 ⟨b,j,none⟩).run Tryz.prog w = .ok v w := by
 simp [loadVar,go_sem,hc]
theorem sv9 {w : World} {b j : Nat} {u v : Value} (hc : w.cell? ⟨b,j,none⟩ = some u) (hf : w.frozen? ⟨b,j,none⟩ = false) (h1 : Lf v = true) : (storeVar 9 ⟨b,j,none⟩ v).run Tryz.prog w = .ok () (w.setCell ⟨b,j,none⟩ v) := by
 cases v with
 | int | bool | string | slice | pointer => simp [storeVar,go_sem,hc,hf,storeCells]
 | _ => cases h1
theorem lv24 {w : World} {b j : Nat} {v : Value} (hc : w.cell? ⟨b,j,none⟩ = some v) : (loadVar 24 ⟨b,j,none⟩).run Tryz.prog w = .ok v w := by
 simp [loadVar,go_sem,hc]
theorem sv24 {w : World} {b j : Nat} {u v : Value} (hc : w.cell? ⟨b,j,none⟩ = some u) (hf : w.frozen? ⟨b,j,none⟩ = false) (h1 : Lf v = true) : (storeVar 24 ⟨b,j,none⟩ v).run Tryz.prog w = .ok () (w.setCell ⟨b,j,none⟩ v) := by
 cases v with
 | int | bool | string | slice | pointer => simp [storeVar,go_sem,hc,hf,storeCells]
 | _ => cases h1
theorem lv25 {w : World} {b j : Nat} {v : Value} (hc : w.cell? ⟨b,j,none⟩ = some v) : (loadVar 25 ⟨b,j,none⟩).run Tryz.prog w = .ok v w := by
 simp [loadVar,go_sem,hc]
theorem sv25 {w : World} {b j : Nat} {u v : Value} (hc : w.cell? ⟨b,j,none⟩ = some u) (hf : w.frozen? ⟨b,j,none⟩ = false) (h1 : Lf v = true) : (storeVar 25 ⟨b,j,none⟩ v).run Tryz.prog w = .ok () (w.setCell ⟨b,j,none⟩ v) := by
 cases v with
 | int | bool | string | slice | pointer => simp [storeVar,go_sem,hc,hf,storeCells]
 | _ => cases h1
theorem lv29 {w : World} {b j : Nat} {v : Value} (hc : w.cell? ⟨b,j,none⟩ = some v) : (loadVar 29 ⟨b,j,none⟩).run Tryz.prog w = .ok v w := by
 simp [loadVar,go_sem,hc]
theorem sv29 {w : World} {b j : Nat} {u v : Value} (hc : w.cell? ⟨b,j,none⟩ = some u) (hf : w.frozen? ⟨b,j,none⟩ = false) (h1 : Lf v = true) : (storeVar 29 ⟨b,j,none⟩ v).run Tryz.prog w = .ok () (w.setCell ⟨b,j,none⟩ v) := by
 cases v with
 | int | bool | string | slice | pointer => simp [storeVar,go_sem,hc,hf,storeCells]
 | _ => cases h1
theorem lv41 {w : World} {b j : Nat} {v : Value} (hc : w.cell? ⟨b,j,none⟩ = some v) : (loadVar 41 ⟨b,j,none⟩).run Tryz.prog w = .ok v w := by
 simp [loadVar,go_sem,hc]
theorem lv42 {w : World} {b j : Nat} {v : Value} (hc : w.cell? ⟨b,j,none⟩ = some v) : (loadVar 42 ⟨b,j,none⟩).run Tryz.prog w = .ok v w := by
 simp [loadVar,go_sem,hc]
theorem sv42 {w : World} {b j : Nat} {u v : Value} (hc : w.cell? ⟨b,j,none⟩ = some u) (hf : w.frozen? ⟨b,j,none⟩ = false) (h1 : Lf v = true) : (storeVar 42 ⟨b,j,none⟩ v).run Tryz.prog w = .ok () (w.setCell ⟨b,j,none⟩ v) := by
 cases v with
 | int | bool | string | slice | pointer => simp [storeVar,go_sem,hc,hf,storeCells]
 | _ => cases h1
theorem lv50 {w : World} {b j : Nat} {v : Value} (hc : w.cell? ⟨b,j,none⟩ = some v) : (loadVar 50 ⟨b,j,none⟩).run Tryz.prog w = .ok v w := by
 simp [loadVar,go_sem,hc]
theorem sv50 {w : World} {b j : Nat} {u v : Value} (hc : w.cell? ⟨b,j,none⟩ = some u) (hf : w.frozen? ⟨b,j,none⟩ = false) (h1 : Lf v = true) : (storeVar 50 ⟨b,j,none⟩ v).run Tryz.prog w = .ok () (w.setCell ⟨b,j,none⟩ v) := by
 cases v with
 | int | bool | string | slice | pointer => simp [storeVar,go_sem,hc,hf,storeCells]
 | _ => cases h1
theorem lv51 {w : World} {b j : Nat} {v : Value} (hc : w.cell? ⟨b,j,none⟩ = some v) : (loadVar 51 ⟨b,j,none⟩).run Tryz.prog w = .ok v w := by
 simp [loadVar,go_sem,hc]
theorem sv51 {w : World} {b j : Nat} {u v : Value} (hc : w.cell? ⟨b,j,none⟩ = some u) (hf : w.frozen? ⟨b,j,none⟩ = false) (h1 : Lf v = true) : (storeVar 51 ⟨b,j,none⟩ v).run Tryz.prog w = .ok () (w.setCell ⟨b,j,none⟩ v) := by
 cases v with
 | int | bool | string | slice | pointer => simp [storeVar,go_sem,hc,hf,storeCells]
 | _ => cases h1
theorem lv63 {w : World} {b j : Nat} {v : Value} (hc : w.cell? ⟨b,j,none⟩ = some v) : (loadVar 63 ⟨b,j,none⟩).run Tryz.prog w = .ok v w := by
 simp [loadVar,go_sem,hc]
theorem cells_set (w : World) (b j : Nat) (cur : Array Value) (t : TypeId) (v : Value) (h : w.heap[b]? = some (.cells cur t (0,0))) : (w.setCell ⟨b,j,none⟩ v).heap[b]? = some (.cells (cur.setIfInBounds j v) t (0,0)) := by
 have hlt := blk_lt h
 have hv : w.heap[b] = .cells cur t (0,0) := (Array.getElem?_eq_some_iff.1 h).2
 unfold World.setCell
 simp only
 rw [Array.getElem?_eq_getElem (by simpa using hlt),Array.getElem_modify]
 simp [hv]
section
variable {w0 : World} {F : Nat} {A : Nat → Prop} {bs : List (Nat × TypeId × Array Value)} {ts : List (Value × DT)} {S : PS} {w : World}
variable {ops : Array Oper} {rest : List Oper} {o : Oper} {a : Act} {Q : Exit → Act → World → Prop}
theorem wl_load (HF : Hid (FR w0 F A bs ts S w)) (i : Nat) {b : Nat} {t : TypeId} {cs : Array Value} {ty : TypeId} {x : Operand} {d : TypeDesc} (hu : Tryz.prog.underlying ty = some d) (h : wpList Tryz.prog ops Q rest (a.put o.dst (.agg cs)) w)
 (hgd : o.guard = none := by rfl) (ho : o.op = .load ty x := by rfl) (hx : a.eval x = ptr b := by rfl) (hi : bs[i]? = some (b,t,cs) := by rfl)
 (hd : rowy d = true := by rfl) (hs : (Tryz.prog.info? ty).map (·.size) = some cs.size := by kernel_rfl) : wpList Tryz.prog ops Q (o :: rest) a w :=
 wpList_plain hgd fun _ hK => by
  unfold Oper.wp execOp
  simp only [ho,hx,Instr.loadAt,Instr.sureAddr,Sem.run_bind,Sem.run_pure,Result.andThen_ok,HF.out.loads i hi ty hu hd hs]
  exact hK _ _ h
theorem wl_load1 (HF : Hid (FR w0 F A bs ts S w)) (i : Nat) {b j : Nat} {t : TypeId} {cs : Array Value} {v : Value} {ty : TypeId} {x : Operand} (hl : ∀ {w : World} {b j : Nat} {v : Value},w.cell? ⟨b,j,none⟩ = some v → (loadVar ty ⟨b,j,none⟩).run Tryz.prog w = .ok v w)
 (h : wpList Tryz.prog ops Q rest (a.put o.dst v) w) (hgd : o.guard = none := by rfl) (ho : o.op = .load ty x := by rfl)
 (hx : a.eval x = .pointer (some ⟨b,j,none⟩) := by rfl) (hi : bs[i]? = some (b,t,cs) := by rfl) (hv : cs[j]? = some v := by rfl) : wpList Tryz.prog ops Q (o :: rest) a w :=
 wpList_plain hgd fun _ hK => by
  unfold Oper.wp execOp
  simp only [ho,hx,Instr.loadAt,Instr.sureAddr,Sem.run_bind,Sem.run_pure,Result.andThen_ok,hl ((HF.out.cell i hi j).trans hv)]
  exact hK _ _ h
theorem FR.froz (h : FR w0 F A bs ts S w) (i : Nat) {b : Nat} {t : TypeId} {cs : Array Value} (hi : bs[i]? = some (b,t,cs)) (j : Nat) : w.frozen? ⟨b,j,none⟩ = false := by
 have := (h.bx _ (List.mem_of_getElem? hi)).2
 simp only at this
 simp [World.frozen?,this]
theorem kept_set (w : World) (b j : Nat) (v : Value) : Kept (On b) w (w.setCell ⟨b,j,none⟩ v) := (Kept.refl (On b) w).setCell (p := ⟨b,j,none⟩) (.inl rfl) v
theorem apart_ne {bs : List (Nat × TypeId × Array Value)} (h : apartB bs) {i : Nat} {b : Nat} {t : TypeId} {cs : Array Value} (hi : bs[i]? = some (b,t,cs)) (j : Nat) (x : Nat × TypeId × Array Value) (hj : bs[j]? = some x) (hne : j ≠ i) : x.1 ≠ b := by
 intro e
 have h1 : (bs.map (·.1))[i]? = some b := by rw [List.getElem?_map,hi]; rfl
 have h2 : (bs.map (·.1))[j]? = some b := by rw [List.getElem?_map,hj,Option.map_some,e]
 have hi' := (List.getElem?_eq_some_iff.1 h1)
 have hj' := (List.getElem?_eq_some_iff.1 h2)
 exact hne ((List.getElem_inj h).1 (hj'.2.trans hi'.2.symm))
theorem wl_store (HF : Hid (FR w0 F A bs ts S w)) (i : Nat) {b : Nat} {t : TypeId} {old cs : Array Value} {ty : TypeId} {x y : Operand} (h : ∀ w',FR w0 F A (bs.set i (b,t,cs)) ts S w' → wpList Tryz.prog ops Q rest (a.put o.dst undef) w')
 (hgd : o.guard = none := by rfl) (ho : o.op = .store ty x y := by rfl) (hx : a.eval x = ptr b := by rfl) (hy : a.eval y = .agg cs := by rfl) (hi : bs[i]? = some (b,t,old) := by rfl)
 (hs : (Tryz.prog.info? ty).map (·.size) = some cs.size := by kernel_rfl) (hn : old.size = cs.size := by rfl) (h1 : cs.toList.all (·.oneCell') = true := by rfl) : wpList Tryz.prog ops Q (o :: rest) a w :=
 wpList_plain hgd fun _ hK => by
  obtain ⟨w',hr,hf⟩ := HF.out.stores i hi (apart_ne HF.out.ap hi) ty hs hn (by rw [← Array.all_toList]; exact h1)
  unfold Oper.wp execOp
  simp only [ho,hx,hy,Instr.storeAt,Instr.sureAddr,Sem.run_bind,Sem.run_pure,Result.andThen_ok,hr]
  exact hK _ _ (h w' hf)
theorem wl_store1 (HF : Hid (FR w0 F A bs ts S w)) (i : Nat) {b j : Nat} {t : TypeId} {old : Array Value} {u v : Value} {ty : TypeId} {x y : Operand} (hl : ∀ {w : World} {b j : Nat} {u v : Value},w.cell? ⟨b,j,none⟩ = some u → w.frozen? ⟨b,j,none⟩ = false → Lf v = true → (storeVar ty ⟨b,j,none⟩ v).run Tryz.prog w = .ok () (w.setCell ⟨b,j,none⟩ v))
 (h : ∀ w',FR w0 F A (bs.set i (b,t,old.setIfInBounds j v)) ts S w' → wpList Tryz.prog ops Q rest (a.put o.dst undef) w')
 (hgd : o.guard = none := by rfl) (ho : o.op = .store ty x y := by rfl) (hx : a.eval x = .pointer (some ⟨b,j,none⟩) := by rfl) (hy : a.eval y = v := by rfl) (hi : bs[i]? = some (b,t,old) := by rfl) (hu : old[j]? = some u := by rfl) (h1 : Lf v = true := by rfl) : wpList Tryz.prog ops Q (o :: rest) a w :=
 wpList_plain hgd fun _ hK => by
  unfold Oper.wp execOp
  simp only [ho,hx,hy,Instr.storeAt,Instr.sureAddr,Sem.run_bind,Sem.run_pure,Result.andThen_ok,hl ((HF.out.cell i hi j).trans hu) (HF.out.froz i hi j) h1]
  exact hK _ _ (h _ (HF.out.set i hi (apart_ne HF.out.ap hi) (cells_set w b j old t v (HF.out.bx _ (List.mem_of_getElem? hi)).2) (kept_set w b j v)))
end
theorem DoesI.go {α β : Type} {pre : (Nat → Prop) → World → PS → Prop} {R : (Nat → Prop) → World → Value → α → Prop} {f : Nat} {args : Nat → Array Value} {m : PM α} (H : DoesI pre R f args m)
 {w0 : World} {F : Nat} {A : Nat → Prop} {bs : List (Nat × TypeId × Array Value)} {ts : List (Value × DT)} {S : PS} {w : World} (HF : FR w0 F A bs ts S w) (hpre : pre (fun g => A g ∧ ∀ x ∈ bs,x.1 ≠ g) w S)
 {k : α → PM β} {r : PR β} (HR : (m.then k) S = r) (hr : r ≠ .out) {Post : Ending → World → Prop}
 (hbad : ∀ a er w1,r = .bad a er → Kept (On F) w0 w1 → Post (.panicked (flt a er)) w1)
 (hok : ∀ x S1 v w1,R (fun g => A g ∧ ∀ x ∈ bs,x.1 ≠ g) w1 v x → k x S1 = r → FR w0 F A bs ts S1 w1 → Post (.returned v) w1) : Calls Tryz.prog f (args F) w Post := by
 have hm : m S ≠ .out := fun e => hr (by rw [← HR]; show (match m S with | .out => PR.out | .bad a e => .bad a e | .ok x s' => k x s') = _; rw [e])
 refine Calls.mono (H w F (fun g => A g ∧ ∀ x ∈ bs,x.1 ≠ g) S HF.pa (fun g hg => ⟨HF.nw g (Nat.le_trans HF.kp.size hg),fun x hx e => ?_⟩) (fun q => HF.nF q.1) hpre hm) ?_
 · have := HF.lt hx
   omega
 · intro e w1 h
   cases hms : m S with
   | out => exact absurd hms hm
   | bad a er =>
     rw [hms] at h
     obtain ⟨rfl,kk⟩ := h
     exact hbad a er w1 (by rw [← HR]; show (match m S with | .out => PR.out | .bad a e => .bad a e | .ok x s' => k x s') = _; rw [hms]) (HF.kp.trans kk (fun i q => .inl q))
   | ok x S1 =>
     rw [hms] at h
     obtain ⟨v,rfl,hR,hp,kk⟩ := h
     exact hok x S1 v w1 hR (by rw [← HR]; show _ = (match m S with | .out => PR.out | .bad a e => .bad a e | .ok x s' => k x s'); rw [hms]) (HF.call kk hp)
theorem PM.then_assoc {α β γ : Type} (m : PM α) (f : α → PM β) (g : β → PM γ) (s : PS) : ((m.then f).then g) s = (m.then fun x => (f x).then g) s := by
 unfold PM.then
 cases m s <;> rfl
theorem PM.then_ret {α : Type} (m : PM α) (s : PS) : (m.then PM.ret) s = m s := by
 unfold PM.then PM.ret
 cases m s <;> rfl
theorem out_bad {α : Type} {R : (Nat → Prop) → World → Value → α → Prop} {F : Nat} {A : Nat → Prop} {w w' : World} {r : PR α} {a er : Int} (h : r = .bad a er) (k : Kept (On F) w w') : Out R F A w r (.panicked (flt a er)) w' := by
 rw [h]; exact ⟨rfl,k⟩
theorem out_ok {α : Type} {R : (Nat → Prop) → World → Value → α → Prop} {w0 : World} {F : Nat} {A : Nat → Prop} {bs : List (Nat × TypeId × Array Value)} {ts : List (Value × DT)} {S : PS} {w : World} {r : PR α} {x : α} {v : Value} (h : r = .ok x S) (HF : FR w0 F A bs ts S w) (hR : R A w v x) : Out R F A w0 r (.returned v) w := by
 rw [h]; exact ⟨v,rfl,hR,HF.pa,HF.kp⟩
theorem FR.rep {w0 : World} {F : Nat} {A : Nat → Prop} {bs : List (Nat × TypeId × Array Value)} {ts : List (Value × DT)} {S : PS} {w : World} (HF : FR w0 F A bs ts S w) (i : Nat) {v : Value} {d : DT} (hi : ts[i]? = some (v,d)) : Rep A w v d :=
 (HF.tr _ (List.mem_of_getElem? hi)).mono (Nat.le_refl _) (fun g a _ => ⟨a.1,rfl⟩)
theorem FR.trep {w0 : World} {F : Nat} {A : Nat → Prop} {bs : List (Nat × TypeId × Array Value)} {ts : List (Value × DT)} {S : PS} {w : World} (HF : FR w0 F A bs ts S w) (i : Nat) {v : Value} {d : DT} (hi : ts[i]? = some (v,d)) : Rep (fun g => A g ∧ ∀ x ∈ bs,x.1 ≠ g) w v d := HF.tr _ (List.mem_of_getElem? hi)
theorem FR.row {w0 : World} {F : Nat} {A : Nat → Prop} {bs : List (Nat × TypeId × Array Value)} {ts : List (Value × DT)} {S : PS} {w : World} (h : FR w0 F A bs ts S w) (cs : List Value) (t : TypeId) (k : Nat) (l : List DT) (hr : RepL (fun g => A g ∧ ∀ x ∈ bs,x.1 ≠ g) w cs l) :
 FR w0 F A bs ((.slice (some ⟨w.heap.size,0,none⟩) k k,.sl k l) :: ts) S (w.alloc (.cells cs.toArray t)) := by
 have kk : Kept (fun _ => False) w (w.alloc (.cells cs.toArray t)) := (Kept.refl _ w).alloc _
 have h2 : FR w0 F A bs ts S (w.alloc (.cells cs.toArray t)) := h.call (kk.mono (fun i q => q.elim)) (h.pa.same kk)
 refine h2.tree (Rep.row ⟨h.nw _ h.kp.size,fun x hx => Nat.ne_of_lt (h.lt hx)⟩ (by simp) ⟨_,_,heap_alloc_new w _⟩ (fun i c hc => ?_) (hr.mono kk.size (fun g a hg => ⟨a,kk.block g hg (fun z => z)⟩)))
 rw [cell_of_row _ _ _ _ _ _ (heap_alloc_new w (.cells cs.toArray t))]
 simpa using hc
section
variable {w0 : World} {F : Nat} {A : Nat → Prop} {bs : List (Nat × TypeId × Array Value)} {ts : List (Value × DT)} {S : PS} {w : World}
variable {ops : Array Oper} {rest : List Oper} {o : Oper} {a : Act} {Q : Exit → Act → World → Prop}
theorem al27 (w : World) : (Instr.alloc 27 true (.tuple #[])).run Tryz.prog w = .ok (ptr w.heap.size) (w.alloc (.cells #[.int .i64 0,.int .i64 0,.int .i64 0,.int .i64 0,.string ⟨#[]⟩,.string ⟨#[]⟩,.string ⟨#[]⟩,.int .i64 0,.bool false,.int .i64 0,.slice none 0 0,.slice none 0 0] 27)) := by
 simp [go_sem]
theorem al40 (w : World) : (Instr.alloc 40 true (.tuple #[])).run Tryz.prog w = .ok (ptr w.heap.size) (w.alloc (.cells #[.int .i64 0,.string ⟨#[]⟩,.int .i64 0,.int .i64 0] 40)) := by
 simp [go_sem]
theorem al44 (w : World) : (Instr.alloc 44 true (.tuple #[])).run Tryz.prog w = .ok (ptr w.heap.size) (w.alloc (.cells #[.slice none 0 0,.slice none 0 0,.int .i64 0,.int .i64 0] 44)) := by
 simp [go_sem]
theorem al57 (w : World) : (Instr.alloc 57 true (.tuple #[])).run Tryz.prog w = .ok (ptr w.heap.size) (w.alloc (.cells #[.bool false,.int .i64 0,.int .i64 0,.int .i64 0,.int .i64 0,.string ⟨#[]⟩,.string ⟨#[]⟩,.string ⟨#[]⟩,.int .i64 0,.bool false,.int .i64 0,.slice none 0 0,.slice none 0 0,.string ⟨#[]⟩] 57)) := by
 simp [go_sem]
theorem al55 (w : World) : (Instr.alloc 55 true (.tuple #[])).run Tryz.prog w = .ok (ptr w.heap.size) (w.alloc (.cells #[.string ⟨#[]⟩,.string ⟨#[]⟩,.bool false,.slice none 0 0,.int .i64 0] 55)) := by
 simp [go_sem]
theorem al53 (w : World) : (Instr.alloc 53 true (.tuple #[])).run Tryz.prog w = .ok (ptr w.heap.size) (w.alloc (.cells #[.int .i64 0,.bool false,.slice none 0 0,.slice none 0 0,.slice none 0 0,.slice none 0 0,.slice none 0 0] 53)) := by
 simp [go_sem]
theorem al59 (w : World) : (Instr.alloc 59 true (.tuple #[])).run Tryz.prog w = .ok (ptr w.heap.size) (w.alloc (.cells #[.int .i64 0,.string ⟨#[]⟩,.bool false,.int .i64 0] 59)) := by
 simp [go_sem]
theorem al3 (w : World) : (Instr.alloc 3 true (.tuple #[])).run Tryz.prog w = .ok (ptr w.heap.size) (w.alloc (.cells #[.int .i64 0] 3)) := by
 simp [go_sem]
theorem al4 (w : World) : (Instr.alloc 4 true (.tuple #[])).run Tryz.prog w = .ok (ptr w.heap.size) (w.alloc (.cells #[.bool false] 4)) := by
 simp [go_sem]
theorem bx27 (c0 c1 c2 c3 c4 c5 c6 c7 c8 c9 c10 c11 : Value) (w : World) : (Instr.box 27 (.agg #[c0,c1,c2,c3,c4,c5,c6,c7,c8,c9,c10,c11])).run Tryz.prog w = .ok (ptr w.heap.size) (w.alloc (.cells #[c0,c1,c2,c3,c4,c5,c6,c7,c8,c9,c10,c11] 27)) := by
 simp [go_sem]
theorem bs24 (c0 c1 c2 c3 c4 c5 c6 c7 c8 c9 c10 c11 : Value) (w : World) : (Instr.buildSlice 24 1 #[(0,.agg #[c0,c1,c2,c3,c4,c5,c6,c7,c8,c9,c10,c11])]).run Tryz.prog w = .ok (.slice (some ⟨w.heap.size,0,none⟩) 1 1) (w.alloc (.cells #[c0,c1,c2,c3,c4,c5,c6,c7,c8,c9,c10,c11] 27)) := by
 simp [go_sem]
theorem bs25 (c0 c1 c2 c3 : Value) (w : World) : (Instr.buildSlice 25 1 #[(0,.agg #[c0,c1,c2,c3])]).run Tryz.prog w = .ok (.slice (some ⟨w.heap.size,0,none⟩) 1 1) (w.alloc (.cells #[c0,c1,c2,c3] 44)) := by
 simp [go_sem]
theorem bs41 (c0 c1 c2 c3 c4 c5 c6 : Value) (w : World) : (Instr.buildSlice 41 1 #[(0,.agg #[c0,c1,c2,c3,c4,c5,c6])]).run Tryz.prog w = .ok (.slice (some ⟨w.heap.size,0,none⟩) 1 1) (w.alloc (.cells #[c0,c1,c2,c3,c4,c5,c6] 53)) := by
 simp [go_sem]
theorem bs42 (c0 c1 c2 c3 : Value) (w : World) : (Instr.buildSlice 42 1 #[(0,.agg #[c0,c1,c2,c3])]).run Tryz.prog w = .ok (.slice (some ⟨w.heap.size,0,none⟩) 1 1) (w.alloc (.cells #[c0,c1,c2,c3] 59)) := by
 simp [go_sem]
theorem bs50 (c0 c1 c2 c3 c4 c5 c6 c7 c8 c9 c10 c11 c12 c13 : Value) (w : World) : (Instr.buildSlice 50 1 #[(0,.agg #[c0,c1,c2,c3,c4,c5,c6,c7,c8,c9,c10,c11,c12,c13])]).run Tryz.prog w = .ok (.slice (some ⟨w.heap.size,0,none⟩) 1 1) (w.alloc (.cells #[c0,c1,c2,c3,c4,c5,c6,c7,c8,c9,c10,c11,c12,c13] 57)) := by
 simp [go_sem]
theorem bs51 (c0 c1 c2 c3 c4 : Value) (w : World) : (Instr.buildSlice 51 1 #[(0,.agg #[c0,c1,c2,c3,c4])]).run Tryz.prog w = .ok (.slice (some ⟨w.heap.size,0,none⟩) 1 1) (w.alloc (.cells #[c0,c1,c2,c3,c4] 55)) := by
 simp [go_sem]
theorem bs208 (c0 c1 c2 c3 c4 c5 c6 c7 c8 c9 c10 c11 c12 c13 c14 c15 c16 c17 c18 c19 c20 c21 c22 c23 : Value) (w : World) : (Instr.buildSlice 208 1 #[(0,.agg #[c0,c1,c2,c3,c4,c5,c6,c7,c8,c9,c10,c11,c12,c13,c14,c15,c16,c17,c18,c19,c20,c21,c22,c23])]).run Tryz.prog w = .ok (.slice (some ⟨w.heap.size,0,none⟩) 1 1) (w.alloc (.cells #[c0,c1,c2,c3,c4,c5,c6,c7,c8,c9,c10,c11,c12,c13,c14,c15,c16,c17,c18,c19,c20,c21,c22,c23] 211)) := by
 simp [go_sem]
theorem wl_alloc (HF : Hid (FR w0 F A bs ts S w)) {ty : TypeId} {z : Array Value} (hr : ∀ w : World,(Instr.alloc ty true (.tuple #[])).run Tryz.prog w = .ok (ptr w.heap.size) (w.alloc (.cells z ty))) (h : ∀ w' b,FR w0 F A ((b,ty,z) :: bs) ts S w' → wpList Tryz.prog ops Q rest (a.put o.dst (ptr b)) w')
 (hgd : o.guard = none := by rfl) (ho : o.op = .alloc ty := by rfl) : wpList Tryz.prog ops Q (o :: rest) a w :=
 wpList_plain hgd fun _ hK => by
  unfold Oper.wp execOp
  simp only [ho,Sem.run_bind,hr,Result.andThen_ok]
  exact hK _ _ (h _ _ (HF.out.alloc z ty))
theorem wl_box (HF : Hid (FR w0 F A bs ts S w)) {ty : TypeId} {x : Operand} {cs : Array Value} {v : Value} (hr : ∀ w : World,(Instr.box ty v).run Tryz.prog w = .ok (ptr w.heap.size) (w.alloc (.cells cs ty))) (h : ∀ w' b,FR w0 F A ((b,ty,cs) :: bs) ts S w' → wpList Tryz.prog ops Q rest (a.put o.dst (ptr b)) w')
 (hgd : o.guard = none := by rfl) (ho : o.op = .box ty x := by rfl) (hx : a.eval x = v := by rfl) : wpList Tryz.prog ops Q (o :: rest) a w :=
 wpList_plain hgd fun _ hK => by
  unfold Oper.wp execOp
  simp only [ho,hx,Sem.run_bind,hr,Result.andThen_ok]
  exact hK _ _ (h _ _ (HF.out.alloc cs ty))
theorem wl_row (HF : Hid (FR w0 F A bs ts S w)) {ty el : TypeId} {x : Operand} {cs : List Value} {l : List DT} {v : Value} (hrep : RepL (fun g => A g ∧ ∀ x ∈ bs,x.1 ≠ g) w cs l) (hr : ∀ w : World,(Instr.buildSlice ty 1 #[(0,v)]).run Tryz.prog w = .ok (.slice (some ⟨w.heap.size,0,none⟩) 1 1) (w.alloc (.cells cs.toArray el)))
 (h : ∀ w' b,FR w0 F A bs ((.slice (some ⟨b,0,none⟩) 1 1,.sl 1 l) :: ts) S w' → wpList Tryz.prog ops Q rest (a.put o.dst (.slice (some ⟨b,0,none⟩) 1 1)) w')
 (hgd : o.guard = none := by rfl) (ho : o.op = .buildSlice ty 1 #[(0,x)] := by rfl) (hx : a.eval x = v := by rfl) : wpList Tryz.prog ops Q (o :: rest) a w :=
 wpList_plain hgd fun _ hK => by
  unfold Oper.wp execOp
  simp only [ho,hx,List.map_toArray,List.map_cons,List.map_nil,Sem.run_bind,hr,Result.andThen_ok]
  exact hK _ _ (h _ _ (HF.out.row cs el 1 l hrep))
end
theorem load40 {w : World} {b o : Nat} {t : Tk} (h : TkAt w b o t) : (loadVar 40 ⟨b,o,none⟩).run Tryz.prog w = .ok (.agg #[.int .i64 t.k,.string ⟨t.t.toArray⟩,.int .i64 t.n,.int .i64 t.a]) w := by
 have hl := loads [.int .i64 t.k,.string ⟨t.t.toArray⟩,.int .i64 t.n,.int .i64 t.a] (n := 4) (w := w) (b := b) (o := o) rfl (fun j x hx => by
  match j,hx with
  | 0,hx => cases hx; simpa using h.c0
  | 1,hx => cases hx; simpa using h.c1
  | 2,hx => cases hx; simpa using h.c2
  | 3,hx => cases hx; simpa using h.c3)
 simp [loadVar,Sem.run_bind,loadCells,hl]
theorem fd0 (a b c d : Value) (w : World) : (Instr.field 40 (.agg #[a,b,c,d]) 0).run Tryz.prog w = .ok a w := by kernel_rfl
theorem fd1 (a b c d : Value) (w : World) : (Instr.field 40 (.agg #[a,b,c,d]) 1).run Tryz.prog w = .ok b w := by kernel_rfl
theorem fd2 (a b c d : Value) (w : World) : (Instr.field 40 (.agg #[a,b,c,d]) 2).run Tryz.prog w = .ok c w := by kernel_rfl
theorem fd3 (a b c d : Value) (w : World) : (Instr.field 40 (.agg #[a,b,c,d]) 3).run Tryz.prog w = .ok d w := by kernel_rfl
def TR (A : Nat → Prop) (w : World) (v : Value) (t : Tk) : Prop := v = .agg #[.int .i64 t.k,.string ⟨t.t.toArray⟩,.int .i64 t.n,.int .i64 t.a]
def UR (A : Nat → Prop) (w : World) (v : Value) (t : Unit) : Prop := v = .tuple #[]
def BR (A : Nat → Prop) (w : World) (v : Value) (b : Bool) : Prop := v = .bool b
def IR (A : Nat → Prop) (w : World) (v : Value) (n : Int) : Prop := v = .int .i64 n
theorem PA.lt {w : World} {F : Nat} {S : PS} (h : PA w F S) : F < w.heap.size := by obtain ⟨T,o,cap,hp⟩ := h; exact hp.bx.lt
theorem next_is (w : World) (F : Nat) (S : PS) (h : PA w F S) : Calls Tryz.prog 37 #[ptr F] w fun e w' => e = .returned (.agg #[.int .i64 S.hd.k,.string ⟨S.hd.t.toArray⟩,.int .i64 S.hd.n,.int .i64 S.hd.a]) ∧ Kept (fun _ => False) w w' := by
 obtain ⟨T,o,cap,hp⟩ := h
 have c0 := hp.bx.cs 0 _ rfl
 have f0 := hp.bx.fz 0
 have hF := hp.bx.lt
 have hT := hp.hd.lt
 have hpos : (0 : Int) < (S.ts.length : Int) := by have := hp.pos; omega
 have d0 := hp.hd.c0
 have d1 := hp.hd.c1
 have d2 := hp.hd.c2
 have d3 := hp.hd.c3
 go_enter Tryz.func37,Tryz.ntmps37
 go_wp2_with fail
 refine bodyPost_ret (end_cell rfl rfl (load40 (t := S.hd) ⟨?_, ?_, ?_, ?_⟩)) rfl ⟨rfl,(Kept.refl _ w).alloc _⟩ <;> simp
theorem refuse_is (w : World) (F : Nat) (S : PS) (h : PA w F S) : Calls Tryz.prog 38 #[ptr F] w fun e w' => e = .panicked (flt S.hd.a 170) ∧ Kept (fun _ => False) w w' := by
 have HN := next_is w F S h
 have hfd := @fd3
 go_enter Tryz.func38,Tryz.ntmps38
 go_wp2_with fail
 refine Calls.mono HN ?_; rintro e w1 ⟨rfl,k1⟩
 go_wp2_with fail
 exact ⟨rfl,rfl,k1⟩
theorem PA.wi {w : World} {F : Nat} {S : PS} (h : PA w F S) (n : Int) : PA (w.setCell ⟨F,1,none⟩ (.int .i64 n)) F { S with wi := n } := by
 obtain ⟨T,o,cap,hp⟩ := h
 have k := kept_set w F 1 (.int .i64 n)
 exact ⟨T,o,cap,hp.bx.set 1 (.int .i64 n) (by simp),hp.le,hp.sm,hp.lt,fun i t q => (hp.tk i t q).far (k.block T (hp.tk i t q).lt (fun e => by have := hp.lt; have e' : T = F := e; omega)),hp.wf,hp.g3,by
  have q1 := hp.lt
  have q2 := hp.bx.lt
  have q3 := hp.g3
  exact tabs_stay hp.gl (k.block 2 (by omega) (fun e => by have e' : 2 = F := e; omega)) (k.block 3 (by omega) (fun e => by have e' : 3 = F := e; omega)),hp.tx⟩
theorem PA.br {w : World} {F : Nat} {S : PS} (h : PA w F S) (n : Int) : PA (w.setCell ⟨F,2,none⟩ (.int .i64 n)) F { S with bar := n } := by
 obtain ⟨T,o,cap,hp⟩ := h
 have k := kept_set w F 2 (.int .i64 n)
 exact ⟨T,o,cap,hp.bx.set 2 (.int .i64 n) (by simp),hp.le,hp.sm,hp.lt,fun i t q => (hp.tk i t q).far (k.block T (hp.tk i t q).lt (fun e => by have := hp.lt; have e' : T = F := e; omega)),hp.wf,hp.g3,by
  have q1 := hp.lt
  have q2 := hp.bx.lt
  have q3 := hp.g3
  exact tabs_stay hp.gl (k.block 2 (by omega) (fun e => by have e' : 2 = F := e; omega)) (k.block 3 (by omega) (fun e => by have e' : 3 = F := e; omega)),hp.tx⟩
theorem leave_does : Does UR 42 (fun F => #[ptr F]) leaveM := by
 intro w F A S hp hA hF _ _
 have HP : Hid (PA w F S) := hp
 obtain ⟨T,o,cap,hp⟩ := hp
 have c1 := hp.bx.cs 1 _ rfl
 have f1 := hp.bx.fz 1
 have hl := hp.bx.lt
 clear hp hA
 show Calls _ _ _ _ (fun e w' => ∃ v,e = .returned v ∧ UR A w' v () ∧ PA w' F { S with wi := wrap64 (S.wi - 1) } ∧ Kept (On F) w w')
 go_enter Tryz.func42,Tryz.ntmps42
 go_wp2_with fail
 go_end0
 exact ⟨_,rfl,rfl,HP.out.wi _,kept_set _ _ _ _⟩
theorem bar_does (e0 : Int) : Does UR 76 (fun F => #[ptr F,.int .i64 e0]) (barM e0) := by
 intro w F A S hp hA hF _ _
 have HP : Hid (PA w F S) := hp
 obtain ⟨T,o,cap,hp⟩ := hp
 have c2 := hp.bx.cs 2 _ rfl
 have f2 := hp.bx.fz 2
 have hl := hp.bx.lt
 clear hp hA
 show Calls _ _ _ _ (fun e w' => ∃ v,e = .returned v ∧ UR A w' v () ∧ PA w' F (if S.bar = 0 then { S with bar := e0 } else S) ∧ Kept (On F) w w')
 by_cases hb : S.bar = 0
 · rw [if_pos hb]
   go_enter Tryz.func76,Tryz.ntmps76
   go_wp2_with fail
   go_end0
   exact ⟨_,rfl,rfl,HP.out.br _,kept_set _ _ _ _⟩
 · rw [if_neg hb]
   go_enter Tryz.func76,Tryz.ntmps76
   go_wp2_with fail
   go_end0
   exact ⟨_,rfl,rfl,HP.out,Kept.refl _ _⟩
theorem enter_does : Does UR 39 (fun F => #[ptr F]) enterM := by
 intro w F A S hp hA hF _ _
 have HP : Hid (PA w F S) := hp
 have HB := bar_does 171 (w.setCell ⟨F,1,none⟩ (.int .i64 (wrap64 (S.wi + 1)))) F A { S with wi := wrap64 (S.wi + 1) } (hp.wi _) (by simpa using hA) hF trivial (by intro h; cases h)
 obtain ⟨T,o,cap,hp⟩ := hp
 have c1 := hp.bx.cs 1 _ rfl
 have f1 := hp.bx.fz 1
 have hl := hp.bx.lt
 clear hp hA
 show Calls _ _ _ _ (fun e w' => ∃ v,e = .returned v ∧ UR A w' v () ∧ PA w' F { S with wi := wrap64 (S.wi + 1),bar := if 32 < wrap64 (S.wi + 1) ∧ S.bar = 0 then 171 else S.bar } ∧ Kept (On F) w w')
 by_cases hb : 32 < wrap64 (S.wi + 1)
 · have e : (if 32 < wrap64 (S.wi + 1) ∧ S.bar = 0 then (171 : Int) else S.bar) = if S.bar = 0 then 171 else S.bar := by
    by_cases h : S.bar = 0 <;> simp [h,hb]
   rw [e]
   obtain ⟨q,hq⟩ : ∃ q,(if S.bar = 0 then (171 : Int) else S.bar) = q := ⟨_,rfl⟩
   have HB2 : Calls Tryz.prog 76 #[ptr F,.int .i64 171] (w.setCell ⟨F,1,none⟩ (.int .i64 (wrap64 (S.wi + 1)))) (fun e w' => e = .returned (.tuple #[]) ∧ PA w' F { S with wi := wrap64 (S.wi + 1),bar := q } ∧ Kept (On F) w w') := by
    refine HB.mono ?_
    rintro e w1 ⟨v,rfl,h1,h2,h3⟩
    cases h1
    refine ⟨rfl, ?_,(kept_set w F 1 _).trans h3 (fun i q => .inl q)⟩
    rw [← hq]
    by_cases h : S.bar = 0
    · simpa [h] using h2
    · simpa [h] using h2
   rw [hq]
   clear hq e HB
   go_enter Tryz.func39,Tryz.ntmps39
   go_wp2_with fail
   refine Calls.mono HB2 ?_
   rintro e w1 ⟨rfl,h2,h3⟩
   go_wp2_with fail
   go_end0
   exact ⟨_,rfl,rfl,h2,h3⟩
 · have e : (if 32 < wrap64 (S.wi + 1) ∧ S.bar = 0 then (171 : Int) else S.bar) = S.bar := by simp [hb]
   rw [e]
   clear HB
   go_enter Tryz.func39,Tryz.ntmps39
   go_wp2_with fail
   go_end0
   exact ⟨_,rfl,rfl,HP.out.wi _,kept_set _ _ _ _⟩
theorem PAt.tail {w : World} {F T o cap : Nat} {S : PS} (hp : PAt w F T o cap S) (hk : WF S.ts.tail) : PA (w.setCell ⟨F,0,none⟩ (.slice (some ⟨T,o + 4,none⟩) (S.ts.length - 1) (cap - 1))) F { S with ts := S.ts.tail } := by
 have k := kept_set w F 0 (.slice (some ⟨T,o + 4,none⟩) (S.ts.length - 1) (cap - 1))
 have q1 := hp.lt
 have q2 := hp.bx.lt
 have q3 := hp.g3
 refine ⟨T,o + 4,cap - 1, ?_, ?_, ?_,hp.lt,fun i t q => ?_,hk,hp.g3,tabs_stay hp.gl (k.block 2 (by omega) (fun e => by have e' : 2 = F := e; omega)) (k.block 3 (by omega) (fun e => by have e' : 3 = F := e; omega)),fun i t q => hp.tx (i + 1) t (by rw [← List.getElem?_tail]; exact q)⟩
 · have := hp.bx.set 0 (.slice (some ⟨T,o + 4,none⟩) (S.ts.length - 1) (cap - 1)) (by simp)
   simpa using this
 · have := hp.le; simp only [List.length_tail]; omega
 · have := hp.sm; omega
 · have hq : S.ts[i + 1]? = some t := by rw [← List.getElem?_tail]; exact q
   have := (hp.tk (i + 1) t hq).far (k.block T (hp.tk (i + 1) t hq).lt (fun e => by have := hp.lt; have e' : T = F := e; omega))
   rwa [show o + 4 + i * 4 = o + (i + 1) * 4 by omega]
theorem end_row {w0 : World} {F : Nat} {A : Nat → Prop} {bs : List (Nat × TypeId × Array Value)} {ts : List (Value × DT)} {S : PS} {w : World} (HF : FR w0 F A bs ts S w) (i : Nat) {b : Nat} {t : TypeId} {cs : Array Value} {fn : Func} {p : Tmp} {ty : TypeId} {tmps : Array Value} (h : fn.results = #[.cell p ty]) (hp : tmps.getD p undef = ptr b) (hi : bs[i]? = some (b,t,cs))
 {d : TypeDesc} (hu : Tryz.prog.underlying ty = some d) (hd : rowy d = true) (hs : (Tryz.prog.info? ty).map (·.size) = some cs.size) : (results fn tmps).run Tryz.prog w = .ok (.agg cs) w :=
 end_cell h hp (HF.loads i hi ty hu hd hs)
theorem take_yes (w : World) (F : Nat) (A : Nat → Prop) (S : PS) (hp : PA w F S) (hA : ∀ g,w.heap.size ≤ g → A g) (hF : ¬ A F) (hb : S.bar = 0) (hk : WF S.ts.tail) : Calls Tryz.prog 93 #[ptr F] w (fun e w' => ∃ v,e = .returned v ∧ TR A w' v S.hd ∧ PA w' F { S with ts := S.ts.tail } ∧ Kept (On F) w w') := by
 have F0 := FR.init [] hp hA hF (fun y h => (by cases h))
 have F1 := F0.alloc #[.int .i64 0,.string ⟨#[]⟩,.int .i64 0,.int .i64 0] 40
 have HN := next_is _ F S F1.pa
 have HW : Hid (WF S.ts.tail) := hk
 have HF : Hid (FR w F A _ [] S _) := F1
 clear hp hA hF hk F0 F1
 go_enter Tryz.func93,Tryz.ntmps93
 go_wp2_with fail
 refine Calls.mono HN ?_; rintro e w1 ⟨rfl,k1⟩
 have HF1 : Hid (FR w F A _ [] S w1) := HF.out.call (k1.mono (fun i q => q.elim)) (HF.out.pa.same k1)
 obtain ⟨T,o,cap,hp⟩ := HF1.out.pa
 have HF2 : Hid (FR w F A [(w1.heap.size,40,(#[.int .i64 S.hd.k,.string ⟨S.hd.t.toArray⟩,.int .i64 S.hd.n,.int .i64 S.hd.a] : Array Value)),(w.heap.size,40,#[.int .i64 0,.string ⟨#[]⟩,.int .i64 0,.int .i64 0])] [] { S with ts := S.ts.tail } ((w1.setCell ⟨F,0,none⟩ (.slice (some ⟨T,o + 4,none⟩) (S.ts.length - 1) (cap - 1))).alloc (.cells #[.int .i64 S.hd.k,.string ⟨S.hd.t.toArray⟩,.int .i64 S.hd.n,.int .i64 S.hd.a] 40))) := by
  have h1 := HF1.out.call (kept_set w1 F 0 (.slice (some ⟨T,o + 4,none⟩) (S.ts.length - 1) (cap - 1))) (hp.tail HW.out)
  have h2 := h1.alloc #[.int .i64 S.hd.k,.string ⟨S.hd.t.toArray⟩,.int .i64 S.hd.n,.int .i64 S.hd.a] 40
  have e : (w1.setCell ⟨F,0,none⟩ (.slice (some ⟨T,o + 4,none⟩) (S.ts.length - 1) (cap - 1))).heap.size = w1.heap.size := by simp
  rw [e] at h2
  exact h2
 have c0 : w1.cell? ⟨F,0,none⟩ = some (.slice (some ⟨T,o,none⟩) S.ts.length cap) := hp.bx.cs 0 _ rfl
 have c2 : w1.cell? ⟨F,2,none⟩ = some (.int .i64 S.bar) := hp.bx.cs 2 _ rfl
 have hF : F < w1.heap.size := hp.bx.lt
 have hpos : (1 : Int) ≤ (S.ts.length : Int) := by have := hp.pos; omega
 have hpos2 : 1 < S.ts.length := by have := HW.out.ne; have := List.length_pos_iff.2 this; simp at this; omega
 have f0 : w1.frozen? ⟨F,0,none⟩ = false := hp.bx.fz 0
 have hcap : S.ts.length ≤ cap := hp.le
 have hc1 : (1 : Int) ≤ (cap : Int) := by omega
 have hc2 : ¬ cap = 1 := by omega
 clear hp k1 HN
 go_wp2_with (refine wl_store HF2 1 ?_; intro w2 hf2; have HF3 : Hid (FR _ _ _ _ _ _ _) := hf2; clear hf2)
 refine bodyPost_ret (end_row HF3.out 1 rfl rfl rfl Tryz.underlying40 rfl (by kernel_rfl)) rfl ?_
 exact ⟨_,rfl,rfl,HF3.out.pa,HF3.out.kp⟩
theorem take_no (w : World) (F : Nat) (A : Nat → Prop) (S : PS) (hp : PA w F S) (hA : ∀ g,w.heap.size ≤ g → A g) (hF : ¬ A F) (hb : ¬ S.bar = 0) : Calls Tryz.prog 93 #[ptr F] w (fun e w' => e = .panicked (flt S.hd.a S.bar) ∧ Kept (On F) w w') := by
 have F0 := FR.init [] hp hA hF (fun y h => (by cases h))
 have F1 := F0.alloc #[.int .i64 0,.string ⟨#[]⟩,.int .i64 0,.int .i64 0] 40
 have HN := next_is _ F S F1.pa
 have HF : Hid (FR w F A _ [] S _) := F1
 clear hp hA hF F0 F1
 go_enter Tryz.func93,Tryz.ntmps93
 go_wp2_with fail
 refine Calls.mono HN ?_; rintro e w1 ⟨rfl,k1⟩
 have HF1 : Hid (FR w F A _ [] S w1) := HF.out.call (k1.mono (fun i q => q.elim)) (HF.out.pa.same k1)
 obtain ⟨T,o,cap,hp⟩ := HF1.out.pa
 have c2 : w1.cell? ⟨F,2,none⟩ = some (.int .i64 S.bar) := hp.bx.cs 2 _ rfl
 have hF : F < w1.heap.size := hp.bx.lt
 clear hp k1 HN
 have HK : Hid (Kept (On F) w (w1.alloc (.cells #[.int .i64 S.hd.k,.string ⟨S.hd.t.toArray⟩,.int .i64 S.hd.n,.int .i64 S.hd.a] 40))) := HF1.out.kp.alloc _
 obtain ⟨V,hV⟩ : ∃ V : World, { (w1.alloc (.cells #[.int .i64 S.hd.k,.string ⟨S.hd.t.toArray⟩,.int .i64 S.hd.n,.int .i64 S.hd.a] 40)) with drawn := (w1.alloc (.cells #[.int .i64 S.hd.k,.string ⟨S.hd.t.toArray⟩,.int .i64 S.hd.n,.int .i64 S.hd.a] 40)).drawn + 1 } = V := ⟨_,rfl⟩
 have HS : Hid (V.cell? ⟨w1.heap.size,3,none⟩ = some (.int .i64 S.hd.a) ∧ V.cell? ⟨F,2,none⟩ = some (.int .i64 S.bar) ∧ Kept (On F) w V) := by
  have G := (HF1.out.alloc #[.int .i64 S.hd.k,.string ⟨S.hd.t.toArray⟩,.int .i64 S.hd.n,.int .i64 S.hd.a] 40).drew
  rw [show (w1.alloc (.cells #[.int .i64 S.hd.k,.string ⟨S.hd.t.toArray⟩,.int .i64 S.hd.n,.int .i64 S.hd.a] 40)).drew = V from hV] at G
  obtain ⟨T2,o2,cap2,hp2⟩ := G.pa
  exact ⟨G.cell 0 rfl 3,hp2.bx.cs 2 _ rfl,G.kp⟩
 have HV : Hid ({ (w1.alloc (.cells #[.int .i64 S.hd.k,.string ⟨S.hd.t.toArray⟩,.int .i64 S.hd.n,.int .i64 S.hd.a] 40)) with drawn := (w1.alloc (.cells #[.int .i64 S.hd.k,.string ⟨S.hd.t.toArray⟩,.int .i64 S.hd.n,.int .i64 S.hd.a] 40)).drawn + 1 } = V) := hV
 clear hV
 go_wp2_with fail
 refine wp_region_still_tail 8 (by kernel_rfl) (by kernel_rfl) ?_
 rw [HV.out]
 obtain ⟨s1,s2,hk⟩ := HS.out
 have HK : Hid (Kept (On F) w V) := hk
 clear hk
 simp only [List.take_succ_cons,List.take_zero,List.drop_succ_cons,List.drop_zero]
 iterate 8 still_step
 refine wpStill_nil ?_
 go_wp2_with fail
 exact ⟨rfl,rfl,HK.out⟩
theorem take_does : DoesI (fun _ _ S => S.hd.k ≠ 0) TR 93 (fun F => #[ptr F]) takeM := by
 intro w F A S hp hA hF hk hn
 have hw : WF S.ts.tail := by
  obtain ⟨T,o,cap,h⟩ := hp
  have hwf := h.wf
  cases hts : S.ts with
  | nil => exact absurd hts hwf.ne
  | cons t l =>
    rw [hts] at hwf
    exact hwf.tail (by simpa [PS.hd,hts] using hk)
 by_cases hb : S.bar = 0
 · refine (take_yes w F A S hp hA hF hb hw).mono ?_
   rintro e w' ⟨v,rfl,h1,h2,h3⟩
   show Out _ _ _ _ (takeM S) _ _
   have e : takeM S = .ok S.hd { S with ts := S.ts.tail } := by unfold takeM; rw [if_neg (by simpa using hb)]
   rw [e]
   exact ⟨v,rfl,h1,h2,h3⟩
 · refine (take_no w F A S hp hA hF hb).mono ?_
   rintro e w' ⟨rfl,h3⟩
   have e : takeM S = .bad S.hd.a S.bar := by unfold takeM; rw [if_pos hb]
   rw [e]
   exact ⟨rfl,h3⟩
theorem is_is (t : Tk) (x : List UInt8) (w : World) : Calls Tryz.prog 126 #[.agg #[.int .i64 t.k,.string ⟨t.t.toArray⟩,.int .i64 t.n,.int .i64 t.a],.string ⟨x.toArray⟩] w fun e w' => e = .returned (.bool (isT t x)) ∧ Kept (fun _ => False) w w' := by
 go_enter Tryz.func126,Tryz.ntmps126
 go_wp2_with fail
 · go_ret
   rename_i h
   exact ⟨by simp [isT,h],(Kept.refl _ w).alloc _⟩
 · go_ret
   rename_i h1 h2
   exact ⟨by simp [isT,h2],(Kept.refl _ w).alloc _⟩
 · go_ret
   rename_i h1 h2
   exact ⟨by simp [isT,h1,h2],(Kept.refl _ w).alloc _⟩
theorem sees_is (x : List UInt8) (w : World) (F : Nat) (S : PS) (h : PA w F S) : Calls Tryz.prog 92 #[ptr F,.string ⟨x.toArray⟩] w fun e w' => e = .returned (.bool (seesB x S)) ∧ Kept (fun _ => False) w w' := by
 have HN := next_is w F S h
 have HI := is_is S.hd x
 clear h
 go_enter Tryz.func92,Tryz.ntmps92
 go_wp2_with fail
 refine Calls.mono HN ?_; rintro e w1 ⟨rfl,k1⟩
 have HK : Hid (Kept (fun _ => False) w w1) := k1
 clear k1
 go_wp2_with fail
 refine Calls.mono (HI _) ?_; rintro e w2 ⟨rfl,k2⟩
 have HK2 : Hid (Kept (fun _ => False) w1 w2) := k2
 clear k2
 go_wp2_with fail
 go_ret
 exact ⟨rfl,HK.out.trans HK2.out (fun i q => q.elim)⟩
theorem sees_key {x : List UInt8} {S : PS} (h : seesB x S = true) : S.hd.k ≠ 0 := by
 unfold seesB isT at h
 intro e
 rw [e] at h
 simp at h
theorem skip_yes {x : List UInt8} {S : PS} (h : seesB x S = true) : skipM x S = (takeM.then fun _ => PM.ret true) S := by
 unfold skipM; rw [h]; rfl
theorem skip_no {x : List UInt8} {S : PS} (h : seesB x S = false) : skipM x S = .ok false S := by
 unfold skipM; rw [h]; rfl
theorem skip_does (x : List UInt8) : Does BR 60 (fun F => #[ptr F,.string ⟨x.toArray⟩]) (skipM x) := by
 intro w F A S hp hA hF _ hn
 have HS := sees_is x w F S hp
 have HF : Hid (FR w F A [] [] S w) := FR.init [] hp hA hF (fun y h => (by cases h))
 clear hp hA hF
 cases hs : seesB x S with
 | false =>
   rw [hs] at HS
   rw [skip_no hs]
   clear hn hs
   go_enter Tryz.func60,Tryz.ntmps60
   go_wp2_with fail
   refine Calls.mono HS ?_; rintro e w1 ⟨rfl,k1⟩
   have HF1 : Hid (FR w F A [] [] S w1) := HF.out.call (k1.mono (fun i q => q.elim)) (HF.out.pa.same k1)
   clear k1
   go_wp2_with fail
   go_ret
   exact out_ok rfl HF1.out rfl
 | true =>
   rw [hs] at HS
   rw [skip_yes hs] at hn ⊢
   have HK : Hid (S.hd.k ≠ 0) := sees_key hs
   obtain ⟨r,hr⟩ : ∃ r,(takeM.then fun _ => PM.ret true) S = r := ⟨_,rfl⟩
   have HR : Hid ((takeM.then fun _ => PM.ret true) S = r) := hr
   rw [hr] at hn ⊢
   have HN : Hid (r ≠ .out) := hn
   clear hs hr hn
   go_enter Tryz.func60,Tryz.ntmps60
   go_wp2_with fail
   refine Calls.mono HS ?_; rintro e w1 ⟨rfl,k1⟩
   have HF1 : Hid (FR w F A [] [] S w1) := HF.out.call (k1.mono (fun i q => q.elim)) (HF.out.pa.same k1)
   clear k1 HS
   go_wp2_with fail
   refine DoesI.go take_does HF1.out HK.out HR.out HN.out ?_ ?_
   · intro a er w2 hb hk
     have HB : Hid (r = .bad a er ∧ Kept (On F) w w2) := ⟨hb,hk⟩
     clear hb hk
     go_wp2_with fail
     exact ⟨rfl,out_bad HB.out.1 HB.out.2⟩
   · intro t S1 v w2 hv hk hf
     cases hv
     have HF2 : Hid (FR w F A [] [] S1 w2 ∧ PM.ret true S1 = r) := ⟨hf,hk⟩
     clear hf hk
     go_wp2_with fail
     go_ret
     exact out_ok HF2.out.2.symm HF2.out.1 rfl
end Go.Proofs.YtlgkghebemfpjaaGreatDoor.Pa
