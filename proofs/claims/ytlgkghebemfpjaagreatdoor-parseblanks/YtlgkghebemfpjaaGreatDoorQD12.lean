/- in. -/
import Derived.Test.YtlgkghebemfpjaaGreatDoorQLXs
import Derived.Test.YtlgkghebemfpjaaGreatDoorQD4
namespace Go.Proofs.YtlgkghebemfpjaaGreatDoor.Pa
open Go.ChangeShapes Go.WideShapes Go.ChangeAt Go.RowKit
set_option linter.unusedVariables false
set_option linter.unusedSimpArgs false
set_option maxRecDepth 100000
theorem in_yes {E : PM X} {Q : PM Qy} {f : Nat} {e : X} {d : Bool} {β : Type} {G : X → PM β} {S : PS} (h : seesB [83,69,76,69,67,84] S = true) : ((inIn E Q f e d).then G) S = (Q.then fun q => G (opX 12 0 d e.a 1 e.flat ⟨1,q.flat⟩)) S := by
 unfold PM.then inIn
 rw [if_pos h]
 unfold PM.then PM.ret
 cases Q S <;> rfl
theorem in_no {E : PM X} {Q : PM Qy} {f : Nat} {e : X} {d : Bool} {β : Type} {G : X → PM β} {S : PS} (h : seesB [83,69,76,69,67,84] S = false) : ((inIn E Q f e d).then G) S = ((exprsM E f).then fun l => G (opX 7 0 d e.a (1 + l.n) (e.flat ++ l.l) .none)) S := by
 unfold PM.then inIn
 rw [if_neg (by simp [h])]
 unfold PM.then PM.ret
 cases exprsM E f S <;> rfl
theorem op_append {w w' : World} {o : Oper} {a : Act} {K : Act → World → Prop} {Q : Exit → Act → World → Prop} {v vx vy : Value} {x y : Operand} {t u : TypeId} {ty : TypeId} (hr : (Builtin.append_ #[t,u] ty #[vx,vy]).run Tryz.prog w = .ok v w') (h : K (a.put o.dst v) w') (ho : o.op = .call { callee := .builtin .append,args := #[x,y],argTypes := #[t,u] } := by rfl) (hty : o.type = ty := by rfl) (hx : a.eval x = vx := by rfl) (hy : a.eval y = vy := by rfl) : Oper.wp Tryz.prog o a w K Q := by
 subst hty
 unfold Oper.wp execOp
 simp only [ho,hx,hy,resolve,invoke,builtin,Sem.run_bind,Sem.run_pure,Result.andThen_ok,List.map_toArray,List.map_cons,List.map_nil,hr]
 exact h
theorem app_list {w0 : World} {F : Nat} {A : Nat → Prop} {bs : List (Nat × TypeId × Array Value)} {ts : List (Value × DT)} {S : PS} {w : World} {g k cap : Nat} {cur : Array Value} {xs : List Value} {l l' : List DT} {p : Option Addr} {n c : Nat} (h : FR w0 F A ((g,27,cur) :: bs) ts S w) (o : Own 12 g k cap cur xs) (hk : k ≤ 200000) (hn0 : 0 < n) (hn : n ≤ 200000) (hl : l.length = n * 12)
 (hr : RepL (fun g' => A g' ∧ ∀ x ∈ (g,27,cur) :: bs,x.1 ≠ g') w xs l') (hs : Rep (fun g' => A g' ∧ ∀ x ∈ (g,27,cur) :: bs,x.1 ≠ g') w (.slice p n c) (.sl n l)) :
 ∃ g' cap' w',(Builtin.append_ #[24,24] 24 #[.slice (some ⟨g,0,none⟩) k cap,.slice p n c]).run Tryz.prog w = .ok (.slice (some ⟨g',0,none⟩) (k + n) cap') w' ∧ FR w0 F A bs ((.slice (some ⟨g',0,none⟩) (k + n) cap',.sl (k + n) (l' ++ l)) :: ts) S w' := by
 obtain ⟨i,hi,hz,h2,h3⟩ := info_of inf27
 cases hs with
 | nil => omega
 | sl b o' _ _ cs _ hA hg hzz hlen hc hrep =>
   have hR : RepL (fun g' => A g' ∧ ∀ x ∈ (g,27,cur) :: bs,x.1 ≠ g') w cs l := ⟨hlen,hrep⟩
   have hall := hr.append hR
   have hz2 : FR w0 F A ((g,27,cur) :: bs) ((xs ++ cs).zip (l' ++ l) ++ ts) S w := ⟨h.kp,h.fl,h.nw,h.nF,h.bx,fun y hy => by
    rcases List.mem_append.1 hy with hy | hy
    · exact (h.zip hall).tr y hy
    · exact h.tr y hy,h.pa,h.ap⟩
   obtain ⟨g',cap',cur',w',e1,e2,e3,e4⟩ := FR.append (ty := 24) hz2 o i _ Tryz.underlying24 hi hz h2 h3 rfl b n c o' cs (by rw [hlen,hl]) hc (repL_one hR) hn0 (by unfold maxLen; omega) (by omega)
   refine ⟨g',cap',w',e1,(e2.shut e3 (e2.unzip (fun y hy => List.mem_append_left _ hy) hall.1)).less (fun x hx => hx) (fun y hy => ?_) e2.tl.ap⟩
   rcases List.mem_cons.1 hy with rfl | hy
   · exact List.mem_cons_self
   · exact List.mem_cons_of_mem _ (List.mem_append_right _ hy)
set_option maxHeartbeats 8000000 in
theorem in_does (E : PM X) (Q : PM Qy) (f : Nat) (hf0 : f ≤ 100000) (HM : MadeC) (HE : Does XR 19 (fun F => #[ptr F]) E) (HQ : Does QR 31 (fun F => #[ptr F]) Q) (e : X) (p : Option Addr) (c : Nat) (q : Option Addr) (d : Nat) (dn : Bool) : DoesI (fun A w _ => Rep A w (.slice p e.ar.n c) e.ar.dt ∧ Rep A w (.slice q e.sb.n d) e.sb.dt) XR 164 (fun F => #[ptr F,.agg #[.int .i64 e.k,.int .i64 e.op,.int .i64 e.vk,.int .i64 e.vn,.string ⟨e.vs.toArray⟩,.string ⟨e.tb.toArray⟩,.string ⟨e.nm.toArray⟩,.int .i64 e.col,.bool e.dn,.int .i64 e.a,.slice p e.ar.n c,.slice q e.sb.n d],.bool dn]) (inM E Q f e dn) := by
 intro w F A S hp hA hF hpre hn
 have HF : Hid (FR w F A [] [(.slice p e.ar.n c,e.ar.dt),(.slice q e.sb.n d,e.sb.dt)] S w) := FR.init [(.slice p e.ar.n c,e.ar.dt),(.slice q e.sb.n d,e.sb.dt)] hp hA hF (fun y h => by rcases List.mem_cons.1 h with rfl | h; exact hpre.1; rcases List.mem_cons.1 h with rfl | h; exact hpre.2; cases h)
 obtain ⟨r,hr⟩ : ∃ r,(inM E Q f e dn) S = r := ⟨_,rfl⟩
 have HR : Hid ((inM E Q f e dn) S = r) := hr
 rw [hr] at hn ⊢
 have HN : Hid (r ≠ .out) := hn
 clear hp hA hF hr hn
 have HEH : Hid (Does XR 19 (fun F => #[ptr F]) E) := HE
 have HQH : Hid (Does QR 31 (fun F => #[ptr F]) Q) := HQ
 have HMH : Hid MadeC := HM
 have hmf : ∀ (fn : Fn) (first cap : Array Value) (w : World),(Instr.makeFunc fn first cap).run Tryz.prog w = .ok (.func fn first cap) w := fun _ _ _ _ => rfl
 have HLS : Hid (Does (SN 12) 125 (fun F => #[ptr F,.int .i64 16,.func (.func 19) #[ptr F] #[],.func (.func 64) #[ptr F] #[]]) (exprsM E f)) := list125_does E f hf0 HE
 clear HE HM HQ hf0
 go_enter Tryz.func164,Tryz.ntmps164
 go_wp2_with (first | (refine wl_box HF (bx27 _ _ _ _ _ _ _ _ _ _ _ _ ) ?_; intro wN b4 hN; clear HF; have HF := hidF <| hN; clear hN) | (have hg0 : Nat := g0; clear hg0; refine wl_alloc HF al27 ?_; intro wN b7 hN; clear HF; have HF := hidF <| hN; clear hN) | (refine wl_alloc HF al27 ?_; intro wN b6 hN; clear HF; have HF := hidF <| hN; clear hN) | (refine wl_load1 HF 1 lv3 ?_) | (refine wl_load HF 1 Tryz.underlying27 ?_) | (refine wl_rowbox HF (el := 27) (bs24 _ _ _ _ _ _ _ _ _ _ _ _ ) ?_; clear HF; intro wN g0 hN; have HF := hidF <| hN; clear hN) | (refine wl_store HF 0 ?_; intro wN hN; clear HF; have HF := hidF <| hN; clear hN))
 refine DoesI.go (need_does [40]) (HF.out) (trivial) HR.out HN.out ?_ ?_
 · intro a er wN hb hk
   have HB : Hid (r = .bad a er ∧ Kept (On F) w wN) := ⟨hb,hk⟩
   clear hb hk
   go_wp2_with fail
   exact ⟨rfl,out_bad HB.out.1 HB.out.2⟩
 intro x1 S1 v1 w1 hv hk hf
 cases hv
 clear HF HR
 have HF := hidF <| hf
 clear hf
 have HR : Hid (_ = r) := hk
 clear hk
 replace HF : Hid (FR w F A [(b7,27,#[.int .i64 7,.int .i64 0,.int .i64 0,.int .i64 0,.string ⟨#[]⟩,.string ⟨#[]⟩,.string ⟨#[]⟩,.int .i64 0,.bool dn,.int .i64 e.a,.slice (some ⟨g0,0,none⟩) 1 1,.slice none 0 0]),(g0,27,#[.int .i64 e.k,.int .i64 e.op,.int .i64 e.vk,.int .i64 e.vn,.string ⟨e.vs.toArray⟩,.string ⟨e.tb.toArray⟩,.string ⟨e.nm.toArray⟩,.int .i64 e.col,.bool e.dn,.int .i64 e.a,.slice p e.ar.n c,.slice q e.sb.n d]),(b6,27,#[.int .i64 0,.int .i64 0,.int .i64 0,.int .i64 0,.string ⟨#[]⟩,.string ⟨#[]⟩,.string ⟨#[]⟩,.int .i64 0,.bool false,.int .i64 0,.slice none 0 0,.slice none 0 0]),(b4,27,#[.int .i64 e.k,.int .i64 e.op,.int .i64 e.vk,.int .i64 e.vn,.string ⟨e.vs.toArray⟩,.string ⟨e.tb.toArray⟩,.string ⟨e.nm.toArray⟩,.int .i64 e.col,.bool e.dn,.int .i64 e.a,.slice p e.ar.n c,.slice q e.sb.n d])] _ S1 w1) := HF.out
 go_wp2_with fail
 refine Calls.mono (sees_is [83,69,76,69,67,84] _ _ _ (HF.out).pa) ?_; rintro e wQ ⟨rfl,kQ⟩
 replace HF : Hid (FR _ _ _ _ _ _ _) := (HF.out).call (kQ.mono (fun i q => q.elim)) ((HF.out).pa.same kQ)
 clear kQ
 obtain ⟨bq,hbq⟩ : ∃ b,seesB [83,69,76,69,67,84] S1 = b := ⟨_,rfl⟩
 rw [hbq]
 have HBQ : Hid (seesB [83,69,76,69,67,84] S1 = bq) := hbq
 clear hbq
 cases bq with
 | true =>
   replace HR : Hid ((Q.then fun q => (needM [41]).then fun _ => madeM (opX 12 0 dn e.a 1 e.flat ⟨1,q.flat⟩)) S1 = r) := by have h := HR.out; rw [in_yes HBQ.out] at h; exact h
   replace HF : Hid (FR w F A [(b7,27,#[.int .i64 7,.int .i64 0,.int .i64 0,.int .i64 0,.string ⟨#[]⟩,.string ⟨#[]⟩,.string ⟨#[]⟩,.int .i64 0,.bool dn,.int .i64 e.a,.slice (some ⟨g0,0,none⟩) 1 1,.slice none 0 0]),(b6,27,#[.int .i64 0,.int .i64 0,.int .i64 0,.int .i64 0,.string ⟨#[]⟩,.string ⟨#[]⟩,.string ⟨#[]⟩,.int .i64 0,.bool false,.int .i64 0,.slice none 0 0,.slice none 0 0]),(b4,27,#[.int .i64 e.k,.int .i64 e.op,.int .i64 e.vk,.int .i64 e.vn,.string ⟨e.vs.toArray⟩,.string ⟨e.tb.toArray⟩,.string ⟨e.nm.toArray⟩,.int .i64 e.col,.bool e.dn,.int .i64 e.a,.slice p e.ar.n c,.slice q e.sb.n d])] ((.slice (some ⟨g0,0,none⟩) 1 1,.sl 1 e.flat) :: [(.slice p e.ar.n c,e.ar.dt),(.slice q e.sb.n d,e.sb.dt)]) S1 wQ) := HF.out.swap.shut (Own.one rfl) (xc_rep (HF.out.swap.trep 0 rfl) (HF.out.swap.trep 1 rfl))
   go_wp2_with (first | (refine wl_store1 HF 0 sv3 ?_; clear HF; intro wN hN; have HF : Hid (FR w F A [(b7,27,#[.int .i64 12,.int .i64 0,.int .i64 0,.int .i64 0,.string ⟨#[]⟩,.string ⟨#[]⟩,.string ⟨#[]⟩,.int .i64 0,.bool dn,.int .i64 e.a,.slice (some ⟨g0,0,none⟩) 1 1,.slice none 0 0]),(b6,27,#[.int .i64 0,.int .i64 0,.int .i64 0,.int .i64 0,.string ⟨#[]⟩,.string ⟨#[]⟩,.string ⟨#[]⟩,.int .i64 0,.bool false,.int .i64 0,.slice none 0 0,.slice none 0 0]),(b4,27,#[.int .i64 e.k,.int .i64 e.op,.int .i64 e.vk,.int .i64 e.vn,.string ⟨e.vs.toArray⟩,.string ⟨e.tb.toArray⟩,.string ⟨e.nm.toArray⟩,.int .i64 e.col,.bool e.dn,.int .i64 e.a,.slice p e.ar.n c,.slice q e.sb.n d])] _ _ wN) := hN; clear hN))
   refine DoesI.go (HQH.out) (HF.out) (trivial) HR.out HN.out ?_ ?_
   · intro a er wN hb hk
     have HB : Hid (r = .bad a er ∧ Kept (On F) w wN) := ⟨hb,hk⟩
     clear hb hk
     go_wp2_with fail
     exact ⟨rfl,out_bad HB.out.1 HB.out.2⟩
   intro x2 S2 v2 w2 hv hk hf
   obtain ⟨p2,c2,q2,d2,rfl,h1,h2⟩ := hv
   clear HF HR
   have HF := hidF <| (hf.tree h2).tree h1
   clear h1 h2
   clear hf
   have HR : Hid (_ = r) := hk
   clear hk
   go_wp2_with (first | (refine wl_row HF (el := 44) (qc_rep (HF.out.trep 0 rfl) (HF.out.trep 1 rfl)) (bs25 _ _ _ _ ) ?_; intro wN bR hN; clear HF; have HF := hidF <| hN; clear hN) | (refine wl_store1 HF 0 sv25 ?_; clear HF; intro wN hN; have HF : Hid (FR w F A [(b7,27,#[.int .i64 12,.int .i64 0,.int .i64 0,.int .i64 0,.string ⟨#[]⟩,.string ⟨#[]⟩,.string ⟨#[]⟩,.int .i64 0,.bool dn,.int .i64 e.a,.slice (some ⟨g0,0,none⟩) 1 1,.slice (some ⟨bR,0,none⟩) 1 1]),(b6,27,#[.int .i64 0,.int .i64 0,.int .i64 0,.int .i64 0,.string ⟨#[]⟩,.string ⟨#[]⟩,.string ⟨#[]⟩,.int .i64 0,.bool false,.int .i64 0,.slice none 0 0,.slice none 0 0]),(b4,27,#[.int .i64 e.k,.int .i64 e.op,.int .i64 e.vk,.int .i64 e.vn,.string ⟨e.vs.toArray⟩,.string ⟨e.tb.toArray⟩,.string ⟨e.nm.toArray⟩,.int .i64 e.col,.bool e.dn,.int .i64 e.a,.slice p e.ar.n c,.slice q e.sb.n d])] _ _ wN) := hN; clear hN))
   refine DoesI.go (need_does [41]) (HF.out) (trivial) HR.out HN.out ?_ ?_
   · intro a er wN hb hk
     have HB : Hid (r = .bad a er ∧ Kept (On F) w wN) := ⟨hb,hk⟩
     clear hb hk
     go_wp2_with fail
     exact ⟨rfl,out_bad HB.out.1 HB.out.2⟩
   intro x3 S3 v3 w3 hv hk hf
   cases hv
   clear HF HR
   have HF := hidF <| hf
   clear hf
   have HR : Hid (_ = r) := hk
   clear hk
   go_wp2_with (first | (refine wl_load HF 0 Tryz.underlying27 ?_))
   refine DoesI.go (k := PM.ret) (HMH.out (opX 12 0 dn e.a 1 e.flat ⟨1,x2.flat⟩) _ _ _ _) (HF.out) (⟨HF.out.trep 3 rfl,HF.out.trep 0 rfl⟩) (by rw [PM.then_ret]; exact HR.out) HN.out ?_ ?_
   · intro a er wN hb hk
     have HB : Hid (r = .bad a er ∧ Kept (On F) w wN) := ⟨hb,hk⟩
     clear hb hk
     go_wp2_with fail
     exact ⟨rfl,out_bad HB.out.1 HB.out.2⟩
   intro x4 S4 v4 w4 hv hk hf
   obtain ⟨p4,c4,q4,d4,rfl,h1,h2⟩ := hv
   clear HF HR
   have HF := hidF <| (hf.tree h2).tree h1
   clear h1 h2
   clear hf
   have HR : Hid (_ = r) := hk
   clear hk
   go_wp2_with (first | (refine wl_store HF 1 ?_; intro wN hN; clear HF; have HF := hidF <| hN; clear hN))
   refine bodyPost_ret (end_row HF.out 1 rfl rfl rfl Tryz.underlying27 rfl (by kernel_rfl)) rfl ?_
   exact out_ok HR.out.symm HF.out (⟨p4,c4,q4,d4,rfl,HF.out.rep 0 rfl,HF.out.rep 1 rfl⟩)
 | false =>
   replace HR : Hid (((exprsM E f).then fun l => (needM [41]).then fun _ => madeM (opX 7 0 dn e.a (1 + l.n) (e.flat ++ l.l) .none)) S1 = r) := by have h := HR.out; rw [in_no HBQ.out] at h; exact h
   go_wp2_with fail
   replace HF : Hid (FR w F A [(b7,27,#[.int .i64 7,.int .i64 0,.int .i64 0,.int .i64 0,.string ⟨#[]⟩,.string ⟨#[]⟩,.string ⟨#[]⟩,.int .i64 0,.bool dn,.int .i64 e.a,.slice (some ⟨g0,0,none⟩) 1 1,.slice none 0 0]),(g0,27,#[.int .i64 e.k,.int .i64 e.op,.int .i64 e.vk,.int .i64 e.vn,.string ⟨e.vs.toArray⟩,.string ⟨e.tb.toArray⟩,.string ⟨e.nm.toArray⟩,.int .i64 e.col,.bool e.dn,.int .i64 e.a,.slice p e.ar.n c,.slice q e.sb.n d]),(b6,27,#[.int .i64 0,.int .i64 0,.int .i64 0,.int .i64 0,.string ⟨#[]⟩,.string ⟨#[]⟩,.string ⟨#[]⟩,.int .i64 0,.bool false,.int .i64 0,.slice none 0 0,.slice none 0 0]),(b4,27,#[.int .i64 e.k,.int .i64 e.op,.int .i64 e.vk,.int .i64 e.vn,.string ⟨e.vs.toArray⟩,.string ⟨e.tb.toArray⟩,.string ⟨e.nm.toArray⟩,.int .i64 e.col,.bool e.dn,.int .i64 e.a,.slice p e.ar.n c,.slice q e.sb.n d])] _ S1 _) := HF.out.drew
   have HT0 : Hid (FR w F A [(b7,27,#[.int .i64 7,.int .i64 0,.int .i64 0,.int .i64 0,.string ⟨#[]⟩,.string ⟨#[]⟩,.string ⟨#[]⟩,.int .i64 0,.bool dn,.int .i64 e.a,.slice (some ⟨g0,0,none⟩) 1 1,.slice none 0 0]),(b6,27,#[.int .i64 0,.int .i64 0,.int .i64 0,.int .i64 0,.string ⟨#[]⟩,.string ⟨#[]⟩,.string ⟨#[]⟩,.int .i64 0,.bool false,.int .i64 0,.slice none 0 0,.slice none 0 0]),(b4,27,#[.int .i64 e.k,.int .i64 e.op,.int .i64 e.vk,.int .i64 e.vn,.string ⟨e.vs.toArray⟩,.string ⟨e.tb.toArray⟩,.string ⟨e.nm.toArray⟩,.int .i64 e.col,.bool e.dn,.int .i64 e.a,.slice p e.ar.n c,.slice q e.sb.n d])] _ S1 _) := HF.out.swap.tl
   refine region_L (k := 10) (S := SFR w F A [(b7,27,#[.int .i64 7,.int .i64 0,.int .i64 0,.int .i64 0,.string ⟨#[]⟩,.string ⟨#[]⟩,.string ⟨#[]⟩,.int .i64 0,.bool dn,.int .i64 e.a,.slice (some ⟨g0,0,none⟩) 1 1,.slice none 0 0]),(b6,27,#[.int .i64 0,.int .i64 0,.int .i64 0,.int .i64 0,.string ⟨#[]⟩,.string ⟨#[]⟩,.string ⟨#[]⟩,.int .i64 0,.bool false,.int .i64 0,.slice none 0 0,.slice none 0 0]),(b4,27,#[.int .i64 e.k,.int .i64 e.op,.int .i64 e.vk,.int .i64 e.vn,.string ⟨e.vs.toArray⟩,.string ⟨e.tb.toArray⟩,.string ⟨e.nm.toArray⟩,.int .i64 e.col,.bool e.dn,.int .i64 e.a,.slice p e.ar.n c,.slice q e.sb.n d])]) (by kernel_rfl) ?_
   simp only [List.size_toArray,List.length_cons,List.length_nil,Nat.zero_add,Nat.reduceAdd,Array.replicate]
   refine pL 0 (.pointer (some ⟨b7,10,none⟩)) HT0.out.s ?_
   try simp only [Act.put,sI,sS,sZ]
   refine fL 1 0 lv24 HT0 ?_
   try simp only [Act.put,sI,sS,sZ]
   refine pL 2 (ptr F) HT0.out.s ?_
   try simp only [Act.put,sI,sS,sZ]
   refine pL 3 (ptr F) HT0.out.s ?_
   try simp only [Act.put,sI,sS,sZ]
   refine pL 4 (.func (.func 19) #[ptr F] #[]) HT0.out.s ?_
   try simp only [Act.put,sI,sS,sZ]
   refine pL 5 (ptr F) HT0.out.s ?_
   try simp only [Act.put,sI,sS,sZ]
   refine pL 6 (.func (.func 64) #[ptr F] #[]) HT0.out.s ?_
   try simp only [Act.put,sI,sS,sZ]
   refine onL (j := 7) (fun K hK => ?_)
   go_wp2_with fail
   refine DoesI.go (HLS.out) (HF.out) (trivial) HR.out HN.out ?_ ?_
   · intro a er wN hb hk
     have HB : Hid (r = .bad a er ∧ Kept (On F) w wN) := ⟨hb,hk⟩
     clear hb hk
     go_wp2_with fail
     exact ⟨rfl,out_bad HB.out.1 HB.out.2⟩
   intro x2 S2 v2 w2 hv hk hf
   obtain ⟨⟨p2,c2,rfl,h1⟩,hl2,hn2,hm2⟩ := hv
   have HL2 : Hid (x2.l.length = x2.n * 12 ∧ 0 < x2.n ∧ x2.n ≤ 200000) := ⟨hl2,hn2,hm2⟩
   clear hl2 hn2 hm2 HF HR
   have HF := hidF <| hf.tree h1
   clear h1
   clear hf
   have HR : Hid (_ = r) := hk
   clear hk
   go_wp2_with fail
   refine hK.out _ _ ⟨fun _ => HF.out.swap.tl.s, ?_⟩
   clear hK K HT0
   try simp only [Act.put,sI,sS,sZ]
   refine onL (j := 8) (fun K hK => ?_)
   obtain ⟨g9,cap9,w9,e9,hf9⟩ := app_list HF.out.swap (Own.one (g := g0) rfl) (by omega) HL2.out.2.1 HL2.out.2.2 HL2.out.1 (xc_rep (HF.out.swap.trep 1 rfl) (HF.out.swap.trep 2 rfl)) (HF.out.swap.trep 0 rfl)
   clear HF
   have HF : Hid (FR w F A [(b7,27,#[.int .i64 7,.int .i64 0,.int .i64 0,.int .i64 0,.string ⟨#[]⟩,.string ⟨#[]⟩,.string ⟨#[]⟩,.int .i64 0,.bool dn,.int .i64 e.a,.slice (some ⟨g0,0,none⟩) 1 1,.slice none 0 0]),(b6,27,#[.int .i64 0,.int .i64 0,.int .i64 0,.int .i64 0,.string ⟨#[]⟩,.string ⟨#[]⟩,.string ⟨#[]⟩,.int .i64 0,.bool false,.int .i64 0,.slice none 0 0,.slice none 0 0]),(b4,27,#[.int .i64 e.k,.int .i64 e.op,.int .i64 e.vk,.int .i64 e.vn,.string ⟨e.vs.toArray⟩,.string ⟨e.tb.toArray⟩,.string ⟨e.nm.toArray⟩,.int .i64 e.col,.bool e.dn,.int .i64 e.a,.slice p e.ar.n c,.slice q e.sb.n d])] _ S2 w9) := hf9
   clear hf9
   refine op_append e9 ?_
   refine hK.out _ _ ⟨fun _ => HF.out.s, ?_⟩
   clear hK K e9
   try simp only [Act.put,sI,sS,sZ]
   refine pL 9 (.pointer (some ⟨b7,10,none⟩)) HF.out.s ?_
   try simp only [Act.put,sI,sS,sZ]
   refine onL (j := 10) (fun K hK => ?_)
   refine op_store1 HF 0 sv24 ?_
   intro wS hS
   clear HF
   have HF : Hid (FR w F A [(b7,27,#[.int .i64 7,.int .i64 0,.int .i64 0,.int .i64 0,.string ⟨#[]⟩,.string ⟨#[]⟩,.string ⟨#[]⟩,.int .i64 0,.bool dn,.int .i64 e.a,.slice (some ⟨g9,0,none⟩) (1 + x2.n) cap9,.slice none 0 0]),(b6,27,#[.int .i64 0,.int .i64 0,.int .i64 0,.int .i64 0,.string ⟨#[]⟩,.string ⟨#[]⟩,.string ⟨#[]⟩,.int .i64 0,.bool false,.int .i64 0,.slice none 0 0,.slice none 0 0]),(b4,27,#[.int .i64 e.k,.int .i64 e.op,.int .i64 e.vk,.int .i64 e.vn,.string ⟨e.vs.toArray⟩,.string ⟨e.tb.toArray⟩,.string ⟨e.nm.toArray⟩,.int .i64 e.col,.bool e.dn,.int .i64 e.a,.slice p e.ar.n c,.slice q e.sb.n d])] _ S2 wS) := hS
   clear hS
   refine hK.out _ _ ⟨fun e => absurd rfl e, ?_⟩
   clear hK K
   try simp only [Act.put,sI,sS,sZ]
   refine doneL ?_
   (try simp only [List.getElem_toArray,List.getElem_cons_succ,List.getElem_cons_zero])
   go_wp2_with fail
   refine DoesI.go (need_does [41]) (HF.out) (trivial) HR.out HN.out ?_ ?_
   · intro a er wN hb hk
     have HB : Hid (r = .bad a er ∧ Kept (On F) w wN) := ⟨hb,hk⟩
     clear hb hk
     go_wp2_with fail
     exact ⟨rfl,out_bad HB.out.1 HB.out.2⟩
   intro x3 S3 v3 w3 hv hk hf
   cases hv
   clear HF HR
   have HF := hidF <| hf
   clear hf
   have HR : Hid (_ = r) := hk
   clear hk
   go_wp2_with (first | (refine wl_load HF 0 Tryz.underlying27 ?_))
   refine DoesI.go (k := PM.ret) (HMH.out (opX 7 0 dn e.a (1 + x2.n) (e.flat ++ x2.l) .none) _ _ none 0) (HF.out) (⟨HF.out.trep 0 rfl,Rep.nil none 0⟩) (by rw [PM.then_ret]; exact HR.out) HN.out ?_ ?_
   · intro a er wN hb hk
     have HB : Hid (r = .bad a er ∧ Kept (On F) w wN) := ⟨hb,hk⟩
     clear hb hk
     go_wp2_with fail
     exact ⟨rfl,out_bad HB.out.1 HB.out.2⟩
   intro x4 S4 v4 w4 hv hk hf
   obtain ⟨p4,c4,q4,d4,rfl,h1,h2⟩ := hv
   clear HF HR
   have HF := hidF <| (hf.tree h2).tree h1
   clear h1 h2
   clear hf
   have HR : Hid (_ = r) := hk
   clear hk
   go_wp2_with (first | (refine wl_store HF 1 ?_; intro wN hN; clear HF; have HF := hidF <| hN; clear hN))
   refine bodyPost_ret (end_row HF.out 1 rfl rfl rfl Tryz.underlying27 rfl (by kernel_rfl)) rfl ?_
   exact out_ok HR.out.symm HF.out (⟨p4,c4,q4,d4,rfl,HF.out.rep 0 rfl,HF.out.rep 1 rfl⟩)
end Go.Proofs.YtlgkghebemfpjaaGreatDoor.Pa
