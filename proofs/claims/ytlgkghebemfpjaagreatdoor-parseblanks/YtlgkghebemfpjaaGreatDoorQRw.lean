/- Rows of the call's own: append. Two that may come up; what a call answers, and that it does. The second token; a cell that is loaded. -/
import Derived.Test.YtlgkghebemfpjaaGreatDoorQD1
import Derived.Test.YtlgkghebemfpjaaGreatDoorQLn
namespace Go.Proofs.YtlgkghebemfpjaaGreatDoor.Pa
open Go.ChangeShapes Go.WideShapes Go.ChangeAt Go.RowKit
set_option linter.unusedVariables false
set_option maxRecDepth 100000
section
variable {w0 : World} {F : Nat} {A : Nat → Prop} {bs : List (Nat × TypeId × Array Value)} {ts : List (Value × DT)} {S : PS} {w : World}
theorem FR.zip (h : FR w0 F A bs ts S w) {cs : List Value} {l : List DT} (hr : RepL (fun g => A g ∧ ∀ x ∈ bs,x.1 ≠ g) w cs l) : FR w0 F A bs (cs.zip l) S w :=
 ⟨h.kp,h.fl,h.nw,h.nF,h.bx,fun y hy => by
  obtain ⟨i,hi⟩ := List.getElem?_of_mem hy
  rw [List.getElem?_zip_eq_some] at hi
  exact hr.2 i _ _ hi.1 hi.2,h.pa,h.ap⟩
theorem FR.unzip {cs : List Value} {l : List DT} (h : FR w0 F A bs ts S w) (hs : ∀ y ∈ cs.zip l,y ∈ ts) (hn : cs.length = l.length) : RepL (fun g => A g ∧ ∀ x ∈ bs,x.1 ≠ g) w cs l :=
 ⟨hn,fun i c d hc hd => h.tr (c,d) (hs _ (List.mem_of_getElem? (List.getElem?_zip_eq_some.2 ⟨hc,hd⟩)))⟩
theorem FR.tl {x : Nat × TypeId × Array Value} (h : FR w0 F A (x :: bs) ts S w) : FR w0 F A bs ts S w := h.less (fun y hy => List.mem_cons_of_mem _ hy) (fun y hy => hy) (List.nodup_cons.1 h.ap).2
structure Own (sz g n cap : Nat) (cur : Array Value) (xs : List Value) : Prop where
 le : n ≤ cap
 mx : cap ≤ maxLen
 sq : cur.size = cap * sz
 tk : cur.toList.take (n * sz) = xs
 ln : xs.length = n * sz
theorem Own.cellsAt {sz g n cap : Nat} {cur : Array Value} {xs : List Value} {t : TypeId} (o : Own sz g n cap cur xs) (hg : w.heap[g]? = some (.cells cur t (0,0))) : ∀ i c,xs[i]? = some c → w.cell? ⟨g,0 + i,none⟩ = some c := by
 intro i c hc
 rw [Nat.zero_add,cell_of_row w g i cur t (0,0) hg, ← Array.getElem?_toList]
 rw [← o.tk] at hc
 have hi : i < n * sz := by
  have := (List.getElem?_eq_some_iff.1 hc).1
  rw [o.tk,o.ln] at this
  exact this
 rwa [List.getElem?_take_of_lt hi] at hc
theorem FR.shut {g n cap sz : Nat} {t : TypeId} {cur : Array Value} {xs : List Value} {l : List DT} (h : FR w0 F A ((g,t,cur) :: bs) ts S w) (o : Own sz g n cap cur xs) (hr : RepL (fun g' => A g' ∧ ∀ x ∈ (g,t,cur) :: bs,x.1 ≠ g') w xs l) :
 FR w0 F A bs ((.slice (some ⟨g,0,none⟩) n cap,.sl n l) :: ts) S w := by
 have hb := h.bx _ List.mem_cons_self
 refine h.tl.tree (Rep.row ⟨h.nw _ hb.1,fun x hx => ?_⟩ (h.lt List.mem_cons_self) ⟨_,_,hb.2⟩ (o.cellsAt hb.2) (hr.mono (Nat.le_refl _) (fun g' a _ => ⟨⟨a.1,fun x hx => a.2 x (List.mem_cons_of_mem _ hx)⟩,rfl⟩)))
 intro e
 have hn := (List.nodup_cons.1 h.ap).1
 exact hn (List.mem_map.2 ⟨x,hx,e⟩)
theorem rep_one {A : Nat → Prop} {w : World} {c : Value} {d : DT} (h : Rep A w c d) : c.oneCell' = true := by cases h <;> rfl
theorem repL_one {A : Nat → Prop} {w : World} {cs : List Value} {l : List DT} (h : RepL A w cs l) : ∀ u ∈ cs,u.oneCell' = true := by
 intro u hu
 obtain ⟨i,hi⟩ := List.getElem?_of_mem hu
 have hl := (List.getElem?_eq_some_iff.1 hi).1
 have hl' : i < l.length := by rw [← h.1]; exact hl
 exact rep_one (h.2 i u l[i] hi (List.getElem?_eq_getElem hl'))
theorem FR.append {g n cap sz by' : Nat} {t ty : TypeId} {st : TypeId} {cur : Array Value} {xs : List Value} (h : FR w0 F A ((g,t,cur) :: bs) ts S w) (o : Own sz g n cap cur xs) (i : TypeInfo) (z : Value) (ht : Tryz.prog.underlying st = some (.slice t)) (hi : Tryz.prog.info? t = some i) (hz : i.zero = some z)
 (hsize : i.size = sz) (hby : i.bytes = by') (hzs : z.cells.size = sz) (b m c : Nat) (o' : Nat) (news : List Value) (hl : news.length = m * sz) (hnews : ∀ j u,news[j]? = some u → w.cell? ⟨b,o' + j,none⟩ = some u) (h1 : ∀ u ∈ news,u.oneCell' = true) (h0 : 0 < m)
 (h63 : n + m ≤ maxLen) (hbytes : (n + m) * by' ≤ 140737488355328) :
 ∃ g' cap' cur' w',(Builtin.append_ #[st,st] ty #[.slice (some ⟨g,0,none⟩) n cap,.slice (some ⟨b,o',none⟩) m c]).run Tryz.prog w = .ok (.slice (some ⟨g',0,none⟩) (n + m) cap') w' ∧ FR w0 F A ((g',t,cur') :: bs) ts S w' ∧ Own sz g' (n + m) cap' cur' (xs ++ news) ∧ Kept (On g) w w' := by
 subst hsize
 subst hby
 have hb := h.bx _ List.mem_cons_self
 have hg : w.heap[g]? = some (.cells cur t (0,0)) := hb.2
 have hnw : ∀ j u,news[j]? = some u → w.cell? ((⟨b,o',none⟩ : Addr).add j) = some u := fun j u q => by rw [Go.WideShapes.add_plain]; exact hnews j u q
 have hlen : (xs ++ news).length = (n + m) * i.size := by rw [List.length_append,o.ln,hl,Nat.add_mul]
 by_cases hroom : n + m ≤ cap
 · have hfit : n * i.size + news.length ≤ cur.size := by rw [hl,o.sq, ← Nat.add_mul]; exact Nat.mul_le_mul_right _ hroom
   have hr := run_append_room (P := Tryz.prog) w st ty t i ht hi g n cap cur hg ⟨b,o',none⟩ m c news hl hnw h1 hroom hfit
   have k := kept_row (w := w) (b := g) (cur.toList.take (n * i.size) ++ news ++ cur.toList.drop (n * i.size + news.length)).toArray
   refine ⟨g,cap,_,_,hr,h.set 0 rfl (fun j x hj hne => ?_) (row_new _ hg) k,⟨hroom,o.mx, ?_, ?_,hlen⟩,k⟩
   · exact apart_ne h.ap (i := 0) rfl j x hj hne
   · have := o.sq
     simp only [List.size_toArray,List.length_append,List.length_take,List.length_drop,Array.length_toList]
     omega
   · rw [o.tk, ← hlen]
     exact List.take_left
 · have hsmall : n + m ≤ 9223372036854775807 := by simp only [maxLen] at h63; omega
   have holds : ∀ j u,xs[j]? = some u → w.cell? ((⟨g,0,none⟩ : Addr).add j) = some u := fun j u q => by rw [Go.WideShapes.add_plain]; exact o.cellsAt hg j u q
   have hr := run_append_grow (P := Tryz.prog) w st ty t i z ht hi hz ⟨g,0,none⟩ n cap xs o.ln holds ⟨b,o',none⟩ m c news hl hnw (by omega) (by omega) (growslice_fits (by omega) hbytes)
   have hge := grownCap_ge w (n + m) cap t
   have hcm := grownCap_le_maxLen w (n + m) cap t h63
   refine ⟨w.heap.size,_,_,_,hr,(h.tl.drew).alloc _ t,⟨hge,hcm, ?_, ?_,hlen⟩,(((Kept.refl _ w).drew).alloc _)⟩
   · simp only [Array.size_append,List.size_toArray,size_zeroCells,hzs,o.ln,hl, ← Nat.add_mul]
     congr 1
     omega
   · simp only [Array.toList_append,List.append_assoc]
     rw [← List.append_assoc, ← hlen]
     exact List.take_left
end
section
variable {w0 : World} {F : Nat} {A : Nat → Prop} {bs : List (Nat × TypeId × Array Value)} {ts : List (Value × DT)} {S : PS} {w : World}
variable {ops : Array Oper} {rest : List Oper} {o : Oper} {a : Act} {Q : Exit → Act → World → Prop}
theorem st_append {v : Value} {w' : World} {x y : Operand} {t u : TypeId} (hgd : o.guard = none) (ho : o.op = .call { callee := .builtin .append,args := #[x,y],argTypes := #[t,u] }) (hr : (Builtin.append_ #[t,u] o.type #[a.eval x,a.eval y]).run Tryz.prog w = .ok v w') (h : wpList Tryz.prog ops Q rest (a.put o.dst v) w') : wpList Tryz.prog ops Q (o :: rest) a w :=
 wpList_plain hgd fun _ hK => by
  unfold Oper.wp execOp
  simp only [ho,resolve,invoke,builtin,Sem.run_bind,Sem.run_pure,Result.andThen_ok,List.map_toArray,List.map_cons,List.map_nil,hr]
  exact hK _ _ h
theorem wl_rowbox (HF : Hid (FR w0 F A bs ts S w)) {ty el : TypeId} {x : Operand} {cs : Array Value} {v : Value} (hr : ∀ w : World,(Instr.buildSlice ty 1 #[(0,v)]).run Tryz.prog w = .ok (.slice (some ⟨w.heap.size,0,none⟩) 1 1) (w.alloc (.cells cs el)))
 (h : ∀ w' b,FR w0 F A ((b,el,cs) :: bs) ts S w' → wpList Tryz.prog ops Q rest (a.put o.dst (.slice (some ⟨b,0,none⟩) 1 1)) w')
 (hgd : o.guard = none := by rfl) (ho : o.op = .buildSlice ty 1 #[(0,x)] := by rfl) (hx : a.eval x = v := by rfl) : wpList Tryz.prog ops Q (o :: rest) a w :=
 wpList_plain hgd fun _ hK => by
  unfold Oper.wp execOp
  simp only [ho,hx,List.map_toArray,List.map_cons,List.map_nil,Sem.run_bind,hr,Result.andThen_ok]
  exact hK _ _ (h _ _ (HF.out.alloc cs el))
theorem Own.one {sz g : Nat} {cur : Array Value} (h : cur.size = sz) : Own sz g 1 1 cur cur.toList :=
 ⟨Nat.le_refl _,by unfold maxLen; omega,by omega,by rw [Nat.one_mul, ← h, ← Array.length_toList]; exact List.take_length,by rw [Array.length_toList]; omega⟩
end
def SN (sz : Nat) (A : Nat → Prop) (w : World) (v : Value) (s : Sl) : Prop := (∃ p c,v = .slice p s.n c ∧ Rep A w (.slice p s.n c) s.dt) ∧ s.l.length = s.n * sz ∧ 0 < s.n ∧ s.n ≤ 200000
theorem FR.swap {w0 : World} {F : Nat} {A : Nat → Prop} {bs : List (Nat × TypeId × Array Value)} {ts : List (Value × DT)} {S : PS} {w : World} {x y : Nat × TypeId × Array Value} (h : FR w0 F A (x :: y :: bs) ts S w) : FR w0 F A (y :: x :: bs) ts S w :=
 h.less (fun z hz => by
  rcases List.mem_cons.1 hz with rfl | hz
  · exact List.mem_cons_of_mem _ List.mem_cons_self
  · rcases List.mem_cons.1 hz with rfl | hz
    · exact List.mem_cons_self
    · exact List.mem_cons_of_mem _ (List.mem_cons_of_mem _ hz)) (fun z hz => hz) (by
  have := h.ap
  unfold apartB at this ⊢
  simp only [List.map_cons,List.nodup_cons,List.mem_cons,not_or] at this ⊢
  exact ⟨⟨fun e => this.1.1 e.symm,this.2.1⟩,this.1.2,this.2.2⟩)
theorem info_of {t : TypeId} {z : Value} {n k : Nat} (h : (Tryz.prog.info? t).map (fun i => (i.zero,i.size,i.bytes)) = some (some z,n,k)) : ∃ i,Tryz.prog.info? t = some i ∧ i.zero = some z ∧ i.size = n ∧ i.bytes = k := by
 cases hi : Tryz.prog.info? t with
 | none => rw [hi] at h; cases h
 | some i =>
   rw [hi] at h
   simp only [Option.map_some,Option.some.injEq,Prod.mk.injEq] at h
   exact ⟨i,rfl,h.1,h.2.1,h.2.2⟩
theorem DoesI.goE {α β : Type} {pre : (Nat → Prop) → World → PS → Prop} {R : (Nat → Prop) → World → Value → α → Prop} {f : Nat} {args : Nat → Array Value} {m : PM α} (H : DoesI pre R f args m)
 {w0 : World} {F : Nat} {A : Nat → Prop} {bs : List (Nat × TypeId × Array Value)} {ts : List (Value × DT)} {S : PS} {w : World} (HF : FR w0 F A bs ts S w) (hpre : pre (fun g => A g ∧ ∀ x ∈ bs,x.1 ≠ g) w S)
 {k : α → PM β} {r : PR β} (HR : (m.then k) S = r) (hr : r ≠ .out) {Post : Ending → World → Prop}
 (hbad : ∀ a er w1,r = .bad a er → Kept (On F) w0 w1 → Post (.panicked (flt a er)) w1)
 (hok : ∀ x S1 v w1,m S = .ok x S1 → R (fun g => A g ∧ ∀ x ∈ bs,x.1 ≠ g) w1 v x → k x S1 = r → FR w0 F A bs ts S1 w1 → Post (.returned v) w1) : Calls Tryz.prog f (args F) w Post := by
 have hm : m S ≠ .out := fun e => hr (by rw [← HR]; show (match m S with | .out => PR.out | .bad a e => .bad a e | .ok x s' => k x s') = _; rw [e])
 refine Calls.mono (H w F (fun g => A g ∧ ∀ x ∈ bs,x.1 ≠ g) S HF.pa (fun g hg => ⟨HF.nw g (Nat.le_trans HF.kp.size hg),fun x hx e => ?_⟩) (fun q => HF.nF q.1) hpre hm) ?_
 · have := HF.lt hx
   omega
 · intro e w1 h
   cases hms : m S with
   | out => exact absurd hms hm
   | bad a er =>
     rw [hms] at h
     obtain ⟨rfl,kk⟩ := h
     exact hbad a er w1 (by rw [← HR]; show (match m S with | .out => PR.out | .bad a e => .bad a e | .ok x s' => k x s') = _; rw [hms]) (HF.kp.trans kk (fun i q => .inl q))
   | ok x S1 =>
     rw [hms] at h
     obtain ⟨v,rfl,hR,hp,kk⟩ := h
     exact hok x S1 v w1 hms hR (by rw [← HR]; show _ = (match m S with | .out => PR.out | .bad a e => .bad a e | .ok x s' => k x s'); rw [hms]) (HF.call kk hp)
section
variable {P : Program} {ops : Array Oper} {Q : Exit → Act → World → Prop} {md : Region.Mode} {S : World → Prop} {k : Nat}
theorem twoL {i j : Nat} {o o' : Oper} {n : Nat} {l : Array Bool} {a : Act} {w : World} (h : ∀ K : Act → World → Prop,Shut (∀ a w,((i ≠ k → S w) ∧ AnyL P md ops Q S k n (l.setIfInBounds i true) a w) → K a w) → Oper.wp P o a w K Q)
 (h' : ∀ K : Act → World → Prop,Shut (∀ a w,((j ≠ k → S w) ∧ AnyL P md ops Q S k n (l.setIfInBounds j true) a w) → K a w) → Oper.wp P o' a w K Q)
 (hr : Region.ready md ops l = [i,j] := by kernel_rfl) (ho : ops[i]? = some o := by rfl) (ho' : ops[j]? = some o' := by rfl) (hw : Region.wanted o (yielded ops a.tmps) = true := by rfl) (hw' : Region.wanted o' (yielded ops a.tmps) = true := by rfl) : AnyL P md ops Q S k (n + 1) l a w := by
 refine ⟨fun e => absurd (hr.symm.trans e) (by simp),fun m hm => ?_⟩
 rw [hr] at hm
 rcases List.mem_cons.1 hm with rfl | hm
 · exact wpOp_step ho (fun K hK => by rw [if_pos hw]; exact h K (fun a w q => hK a w q))
 · rw [List.mem_singleton] at hm
   subst hm
   exact wpOp_step ho' (fun K hK => by rw [if_pos hw']; exact h' K (fun a w q => hK a w q))
end
section
variable {w0 : World} {F : Nat} {A : Nat → Prop} {bs : List (Nat × TypeId × Array Value)} {ts : List (Value × DT)} {S : PS} {w : World}
variable {o : Oper} {a : Act} {Q : Exit → Act → World → Prop}
theorem op_alloc {K : Act → World → Prop} (HF : Hid (FR w0 F A bs ts S w)) {ty : TypeId} {z : Array Value} (hr : ∀ w : World,(Instr.alloc ty true (.tuple #[])).run Tryz.prog w = .ok (ptr w.heap.size) (w.alloc (.cells z ty))) (h : ∀ w' b,FR w0 F A ((b,ty,z) :: bs) ts S w' → K (a.put o.dst (ptr b)) w')
 (ho : o.op = .alloc ty := by rfl) : Oper.wp Tryz.prog o a w K Q := by
 unfold Oper.wp execOp
 simp only [ho,Sem.run_bind,hr,Result.andThen_ok]
 exact h _ _ (HF.out.alloc z ty)
theorem op_row {K : Act → World → Prop} (HF : Hid (FR w0 F A bs ts S w)) {ty el : TypeId} {x : Operand} {cs : List Value} {l : List DT} {v : Value} (hrep : RepL (fun g => A g ∧ ∀ x ∈ bs,x.1 ≠ g) w cs l) (hr : ∀ w : World,(Instr.buildSlice ty 1 #[(0,v)]).run Tryz.prog w = .ok (.slice (some ⟨w.heap.size,0,none⟩) 1 1) (w.alloc (.cells cs.toArray el)))
 (h : ∀ w' b,FR w0 F A bs ((.slice (some ⟨b,0,none⟩) 1 1,.sl 1 l) :: ts) S w' → K (a.put o.dst (.slice (some ⟨b,0,none⟩) 1 1)) w')
 (ho : o.op = .buildSlice ty 1 #[(0,x)] := by rfl) (hx : a.eval x = v := by rfl) : Oper.wp Tryz.prog o a w K Q := by
 unfold Oper.wp execOp
 simp only [ho,hx,List.map_toArray,List.map_cons,List.map_nil,Sem.run_bind,hr,Result.andThen_ok]
 exact h _ _ (HF.out.row cs el 1 l hrep)
end
theorem PAt.second {w : World} {F T o cap : Nat} {S : PS} (h : PAt w F T o cap S) (hk : S.hd.k ≠ 0) : TkAt w T (o + 4) (tail1 S) ∧ 1 < S.ts.length := by
 have hw := h.wf
 cases hts : S.ts with
 | nil => exact absurd hts hw.ne
 | cons t l =>
   rw [hts] at hw
   have hl := hw.tail (by simpa [PS.hd,hts] using hk)
   cases l with
   | nil => exact absurd rfl hl.ne
   | cons u m =>
     have := h.tk 1 u (by rw [hts]; rfl)
     refine ⟨?_,by simp⟩
     have e : tail1 S = u := by simp [tail1,hts]
     rw [e]
     simpa using this
section
variable {P : Program} {ops : Array Oper} {Q : Exit → Act → World → Prop} {md : Region.Mode} {S : World → Prop} {k n : Nat} {l : Array Bool} {a : Act} {w : World}
theorem cL (i : Nat) {oi : Oper} {b j : Nat} {v : Value} {ty : TypeId} {x : Operand} (hl : ∀ {w : World} {b j : Nat} {v : Value},w.cell? ⟨b,j,none⟩ = some v → (loadVar ty ⟨b,j,none⟩).run Tryz.prog w = .ok v w) (hS : S w) (hSc : ∀ w,S w → w.cell? ⟨b,j,none⟩ = some v) (h : AnyL Tryz.prog md ops Q S k n (l.setIfInBounds i true) (a.put oi.dst v) w)
 (hi : ops[i]? = some oi := by rfl) (ho : oi.op = .load ty x := by rfl) (hx : a.eval x = .pointer (some ⟨b,j,none⟩) := by rfl) (hwt : Region.wanted oi (yielded ops a.tmps) = true := by rfl)
 (hs : Region.noSelect ops = true := by kernel_rfl) (hw : waitsB md ops k i = true := by kernel_rfl) (hf : Region.free md ops l i = true := by kernel_rfl) (hr : (Region.ready md ops l).contains i = true := by kernel_rfl)
 (hQ : ∀ c a w,Q (.panic c) (a.put oi.dst v) w → Q (.panic c) a w := by exact (fun _ _ _ h => h)) : AnyL Tryz.prog md ops Q S k (n + 1) l a w :=
 tkL hS (.inl ⟨hwt,fun w q => by
  unfold execOp
  simp only [ho,hx,Instr.loadAt,Instr.sureAddr,Sem.run_bind,Sem.run_pure,Result.andThen_ok,hl (hSc w q)]⟩) h hi hs hw hf hr hQ
end
end Go.Proofs.YtlgkghebemfpjaaGreatDoor.Pa
