/- oneOf. -/
import Derived.Test.YtlgkghebemfpjaaGreatDoorQD1
namespace Go.Proofs.YtlgkghebemfpjaaGreatDoor.Pa
open Go.ChangeShapes Go.WideShapes Go.ChangeAt Go.RowKit
set_option linter.unusedVariables false
set_option linter.unusedSimpArgs false
set_option maxRecDepth 100000
set_option maxHeartbeats 4000000 in
theorem oneOf_does (E : PM X) (Q : PM Qy) (f : Nat) (HM : MadeC) (HS : Does XR 139 (fun F => #[ptr F]) (sumM E Q f)) (HI : ∀ (e : X) (p : Option Addr) (c : Nat) (q : Option Addr) (d : Nat) (dn : Bool),DoesI (fun A w _ => Rep A w (.slice p e.ar.n c) e.ar.dt ∧ Rep A w (.slice q e.sb.n d) e.sb.dt) XR 164 (fun F => #[ptr F,.agg #[.int .i64 e.k,.int .i64 e.op,.int .i64 e.vk,.int .i64 e.vn,.string ⟨e.vs.toArray⟩,.string ⟨e.tb.toArray⟩,.string ⟨e.nm.toArray⟩,.int .i64 e.col,.bool e.dn,.int .i64 e.a,.slice p e.ar.n c,.slice q e.sb.n d],.bool dn]) (inM E Q f e dn)) (e : X) (p : Option Addr) (c : Nat) (q : Option Addr) (d : Nat) (dn : Bool) : DoesI (fun A w _ => Rep A w (.slice p e.ar.n c) e.ar.dt ∧ Rep A w (.slice q e.sb.n d) e.sb.dt) XR 141 (fun F => #[ptr F,.agg #[.int .i64 e.k,.int .i64 e.op,.int .i64 e.vk,.int .i64 e.vn,.string ⟨e.vs.toArray⟩,.string ⟨e.tb.toArray⟩,.string ⟨e.nm.toArray⟩,.int .i64 e.col,.bool e.dn,.int .i64 e.a,.slice p e.ar.n c,.slice q e.sb.n d],.bool dn]) (oneOfM E Q f e dn) := by
 intro w F A S hp hA hF hpre hn
 have HF : Hid (FR w F A [] [(.slice p e.ar.n c,e.ar.dt),(.slice q e.sb.n d,e.sb.dt)] S w) := FR.init [(.slice p e.ar.n c,e.ar.dt),(.slice q e.sb.n d,e.sb.dt)] hp hA hF (fun y h => by rcases List.mem_cons.1 h with rfl | h; exact hpre.1; rcases List.mem_cons.1 h with rfl | h; exact hpre.2; cases h)
 obtain ⟨r,hr⟩ : ∃ r,(oneOfM E Q f e dn) S = r := ⟨_,rfl⟩
 have HR : Hid ((oneOfM E Q f e dn) S = r) := hr
 rw [hr] at hn ⊢
 have HN : Hid (r ≠ .out) := hn
 clear hp hA hF hr hn
 have HSM : Hid (Does XR 139 (fun F => #[ptr F]) (sumM E Q f)) := HS
 have HMH : Hid MadeC := HM
 have HII : Hid (∀ (e : X) (p : Option Addr) (c : Nat) (q : Option Addr) (d : Nat) (dn : Bool),DoesI (fun A w _ => Rep A w (.slice p e.ar.n c) e.ar.dt ∧ Rep A w (.slice q e.sb.n d) e.sb.dt) XR 164 (fun F => #[ptr F,.agg #[.int .i64 e.k,.int .i64 e.op,.int .i64 e.vk,.int .i64 e.vn,.string ⟨e.vs.toArray⟩,.string ⟨e.tb.toArray⟩,.string ⟨e.nm.toArray⟩,.int .i64 e.col,.bool e.dn,.int .i64 e.a,.slice p e.ar.n c,.slice q e.sb.n d],.bool dn]) (inM E Q f e dn)) := HI
 clear HS HM HI
 go_enter Tryz.func141,Tryz.ntmps141
 go_wp2_with (first | (refine wl_box HF (bx27 _ _ _ _ _ _ _ _ _ _ _ _ ) ?_; intro wN b4 hN; clear HF; have HF := hidF <| hN; clear hN) | (refine wl_alloc HF al27 ?_; intro wN b6 hN; clear HF; have HF := hidF <| hN; clear hN))
 refine DoesI.go (skip_does [73,78]) (HF.out) (trivial) HR.out HN.out ?_ ?_
 · intro a er wN hb hk
   have HB : Hid (r = .bad a er ∧ Kept (On F) w wN) := ⟨hb,hk⟩
   clear hb hk
   go_wp2_with fail
   exact ⟨rfl,out_bad HB.out.1 HB.out.2⟩
 intro x1 S1 v1 w1 hv hk hf
 cases hv
 clear HF HR
 have HF := hidF <| hf
 clear hf
 have HR : Hid (_ = r) := hk
 clear hk
 have HF : Hid (FR w F A [(b6,27,#[.int .i64 0,.int .i64 0,.int .i64 0,.int .i64 0,.string ⟨#[]⟩,.string ⟨#[]⟩,.string ⟨#[]⟩,.int .i64 0,.bool false,.int .i64 0,.slice none 0 0,.slice none 0 0]),(b4,27,#[.int .i64 e.k,.int .i64 e.op,.int .i64 e.vk,.int .i64 e.vn,.string ⟨e.vs.toArray⟩,.string ⟨e.tb.toArray⟩,.string ⟨e.nm.toArray⟩,.int .i64 e.col,.bool e.dn,.int .i64 e.a,.slice p e.ar.n c,.slice q e.sb.n d])] _ S1 w1) := HF.out
 cases x1 with
 | true =>
   have HR : Hid ((inM E Q f e dn S1) = r) := HR.out
   go_wp2_with (first | (refine wl_load HF 1 Tryz.underlying27 ?_))
   refine DoesI.go (k := PM.ret) (HII.out e _ _ _ _ dn) (HF.out) (⟨HF.out.trep 0 rfl,HF.out.trep 1 rfl⟩) (by rw [PM.then_ret]; exact HR.out) HN.out ?_ ?_
   · intro a er wN hb hk
     have HB : Hid (r = .bad a er ∧ Kept (On F) w wN) := ⟨hb,hk⟩
     clear hb hk
     go_wp2_with fail
     exact ⟨rfl,out_bad HB.out.1 HB.out.2⟩
   intro x2 S2 v2 w2 hv hk hf
   obtain ⟨p2,c2,q2,d2,rfl,h1,h2⟩ := hv
   clear HF HR
   have HF := hidF <| (hf.tree h2).tree h1
   clear h1 h2
   clear hf
   have HR : Hid (_ = r) := hk
   clear hk
   go_wp2_with (first | (refine wl_store HF 0 ?_; intro wN hN; clear HF; have HF := hidF <| hN; clear hN))
   refine bodyPost_ret (end_row HF.out 0 rfl rfl rfl Tryz.underlying27 rfl (by kernel_rfl)) rfl ?_
   exact out_ok HR.out.symm HF.out (⟨p2,c2,q2,d2,rfl,HF.out.rep 0 rfl,HF.out.rep 1 rfl⟩)
 | false =>
   have HR : Hid ((((skipM [66,69,84,87,69,69,78]).then fun b => if b then (sumM E Q f).then fun lo => (needM [65,78,68]).then fun _ => (sumM E Q f).then fun hi => madeM (opX 8 0 dn e.a 3 (e.flat ++ lo.flat ++ hi.flat) .none) else (skipM [76,73,75,69]).then fun b => if b then (sumM E Q f).then fun x => madeM (opX 9 0 dn e.a 2 (e.flat ++ x.flat) .none) else if dn then refuseM else PM.ret e) S1) = r) := HR.out
   go_wp2_with fail
   refine DoesI.go (skip_does [66,69,84,87,69,69,78]) (HF.out) (trivial) HR.out HN.out ?_ ?_
   · intro a er wN hb hk
     have HB : Hid (r = .bad a er ∧ Kept (On F) w wN) := ⟨hb,hk⟩
     clear hb hk
     go_wp2_with fail
     exact ⟨rfl,out_bad HB.out.1 HB.out.2⟩
   intro x2 S2 v2 w2 hv hk hf
   cases hv
   clear HF HR
   have HF := hidF <| hf
   clear hf
   have HR : Hid (_ = r) := hk
   clear hk
   cases x2 with
   | true =>
     have HR : Hid ((((sumM E Q f).then fun lo => (needM [65,78,68]).then fun _ => (sumM E Q f).then fun hi => madeM (opX 8 0 dn e.a 3 (e.flat ++ lo.flat ++ hi.flat) .none)) S2) = r) := HR.out
     go_wp2_with fail
     refine DoesI.go (HSM.out) (HF.out) (trivial) HR.out HN.out ?_ ?_
     · intro a er wN hb hk
       have HB : Hid (r = .bad a er ∧ Kept (On F) w wN) := ⟨hb,hk⟩
       clear hb hk
       go_wp2_with fail
       exact ⟨rfl,out_bad HB.out.1 HB.out.2⟩
     intro x3 S3 v3 w3 hv hk hf
     obtain ⟨p3,c3,q3,d3,rfl,h1,h2⟩ := hv
     clear HF HR
     have HF := hidF <| (hf.tree h2).tree h1
     clear h1 h2
     clear hf
     have HR : Hid (_ = r) := hk
     clear hk
     go_wp2_with (first | (refine wl_alloc HF al27 ?_; intro wN b7 hN; clear HF; have HF := hidF <| hN; clear hN) | (refine wl_store HF 0 ?_; intro wN hN; clear HF; have HF := hidF <| hN; clear hN))
     refine DoesI.go (need_does [65,78,68]) (HF.out) (trivial) HR.out HN.out ?_ ?_
     · intro a er wN hb hk
       have HB : Hid (r = .bad a er ∧ Kept (On F) w wN) := ⟨hb,hk⟩
       clear hb hk
       go_wp2_with fail
       exact ⟨rfl,out_bad HB.out.1 HB.out.2⟩
     intro x4 S4 v4 w4 hv hk hf
     cases hv
     clear HF HR
     have HF := hidF <| hf
     clear hf
     have HR : Hid (_ = r) := hk
     clear hk
     have HF : Hid (FR w F A [(b7,27,#[.int .i64 x3.k,.int .i64 x3.op,.int .i64 x3.vk,.int .i64 x3.vn,.string ⟨x3.vs.toArray⟩,.string ⟨x3.tb.toArray⟩,.string ⟨x3.nm.toArray⟩,.int .i64 x3.col,.bool x3.dn,.int .i64 x3.a,.slice p3 x3.ar.n c3,.slice q3 x3.sb.n d3]),(b6,27,#[.int .i64 0,.int .i64 0,.int .i64 0,.int .i64 0,.string ⟨#[]⟩,.string ⟨#[]⟩,.string ⟨#[]⟩,.int .i64 0,.bool false,.int .i64 0,.slice none 0 0,.slice none 0 0]),(b4,27,#[.int .i64 e.k,.int .i64 e.op,.int .i64 e.vk,.int .i64 e.vn,.string ⟨e.vs.toArray⟩,.string ⟨e.tb.toArray⟩,.string ⟨e.nm.toArray⟩,.int .i64 e.col,.bool e.dn,.int .i64 e.a,.slice p e.ar.n c,.slice q e.sb.n d])] _ S4 w4) := HF.out
     go_wp2_with fail
     have HF := hidF <| (HF.out).drew
     refine region_L (k := 11) (S := SFR w F A [(b7,27,#[.int .i64 x3.k,.int .i64 x3.op,.int .i64 x3.vk,.int .i64 x3.vn,.string ⟨x3.vs.toArray⟩,.string ⟨x3.tb.toArray⟩,.string ⟨x3.nm.toArray⟩,.int .i64 x3.col,.bool x3.dn,.int .i64 x3.a,.slice p3 x3.ar.n c3,.slice q3 x3.sb.n d3]),(b6,27,#[.int .i64 0,.int .i64 0,.int .i64 0,.int .i64 0,.string ⟨#[]⟩,.string ⟨#[]⟩,.string ⟨#[]⟩,.int .i64 0,.bool false,.int .i64 0,.slice none 0 0,.slice none 0 0]),(b4,27,#[.int .i64 e.k,.int .i64 e.op,.int .i64 e.vk,.int .i64 e.vn,.string ⟨e.vs.toArray⟩,.string ⟨e.tb.toArray⟩,.string ⟨e.nm.toArray⟩,.int .i64 e.col,.bool e.dn,.int .i64 e.a,.slice p e.ar.n c,.slice q e.sb.n d])]) (by kernel_rfl) ?_
     simp only [List.size_toArray,List.length_cons,List.length_nil,Nat.zero_add,Nat.reduceAdd,Array.replicate]
     refine pL 0 (ptr F) HF.out.s ?_
     try simp only [Act.put,sI,sS,sZ]
     refine pL 1 (.bool dn) HF.out.s ?_
     try simp only [Act.put,sI,sS,sZ]
     refine pL 2 (.pointer (some ⟨b4,9,none⟩)) HF.out.s ?_
     try simp only [Act.put,sI,sS,sZ]
     refine fL 3 2 lv3 HF ?_
     try simp only [Act.put,sI,sS,sZ]
     refine lL 4 2 Tryz.underlying27 HF ?_
     try simp only [Act.put,sI,sS,sZ]
     refine lL 5 0 Tryz.underlying27 HF ?_
     try simp only [Act.put,sI,sS,sZ]
     refine pL 6 (ptr F) HF.out.s ?_
     try simp only [Act.put,sI,sS,sZ]
     refine onL (j := 7) (fun K hK => ?_)
     go_wp2_with fail
     refine DoesI.go (HSM.out) (HF.out) (trivial) HR.out HN.out ?_ ?_
     · intro a er wN hb hk
       have HB : Hid (r = .bad a er ∧ Kept (On F) w wN) := ⟨hb,hk⟩
       clear hb hk
       go_wp2_with fail
       exact ⟨rfl,out_bad HB.out.1 HB.out.2⟩
     intro x5 S5 v5 w5 hv hk hf
     obtain ⟨p5,c5,q5,d5,rfl,h1,h2⟩ := hv
     clear HF HR
     have HF := hidF <| (hf.tree h2).tree h1
     clear h1 h2
     clear hf
     have HR : Hid (_ = r) := hk
     clear hk
     go_wp2_with fail
     refine hK.out _ _ ⟨fun _ => HF.out.s, ?_⟩
     clear hK K
     try simp only [Act.put,sI,sS,sZ]
     refine onL (j := 8) (fun K hK => ?_)
     go_wp2_with fail
     have HF2 : Hid (FR _ _ _ _ _ _ _) := HF.out.row _ 27 3 (e.flat ++ x3.flat ++ x5.flat) (((xc_rep (HF.out.trep 4 rfl) (HF.out.trep 5 rfl)).append (xc_rep (HF.out.trep 2 rfl) (HF.out.trep 3 rfl))).append (xc_rep (HF.out.trep 0 rfl) (HF.out.trep 1 rfl)))
     clear HF
     have HF := hidF <| HF2.out
     clear HF2
     refine hK.out _ _ ⟨fun _ => HF.out.s, ?_⟩
     clear hK K
     try simp only [Act.put,sI,sS,sZ]
     refine pL 9 (.agg #[.int .i64 8,.int .i64 0,.int .i64 0,.int .i64 0,.string ⟨#[]⟩,.string ⟨#[]⟩,.string ⟨#[]⟩,.int .i64 0,.bool dn,.int .i64 e.a,.slice (some ⟨w5.heap.size,0,none⟩) 3 3,.slice none 0 0]) HF.out.s ?_
     try simp only [Act.put,sI,sS,sZ]
     refine onL (j := 10) (fun K hK => ?_)
     go_wp2_with fail
     refine DoesI.go (k := PM.ret) (HMH.out (opX 8 0 dn e.a 3 (e.flat ++ x3.flat ++ x5.flat) .none) _ _ none 0) (HF.out) (⟨HF.out.trep 0 rfl,Rep.nil none 0⟩) (by rw [PM.then_ret]; exact HR.out) HN.out ?_ ?_
     · intro a er wN hb hk
       have HB : Hid (r = .bad a er ∧ Kept (On F) w wN) := ⟨hb,hk⟩
       clear hb hk
       go_wp2_with fail
       exact ⟨rfl,out_bad HB.out.1 HB.out.2⟩
     intro x6 S6 v6 w6 hv hk hf
     obtain ⟨p6,c6,q6,d6,rfl,h1,h2⟩ := hv
     clear HF HR
     have HF := hidF <| (hf.tree h2).tree h1
     clear h1 h2
     clear hf
     have HR : Hid (_ = r) := hk
     clear hk
     go_wp2_with fail
     refine hK.out _ _ ⟨fun _ => HF.out.s, ?_⟩
     clear hK K
     try simp only [Act.put,sI,sS,sZ]
     refine onL (j := 11) (fun K hK => ?_)
     refine op_store HF 1 ?_
     intro wS hS
     clear HF
     have HF := hidF <| hS
     clear hS
     refine hK.out _ _ ⟨fun e => absurd rfl e, ?_⟩
     clear hK K
     try simp only [Act.put,sI,sS,sZ]
     refine doneL ?_
     go_wp2_with fail
     refine bodyPost_ret (end_row HF.out 1 rfl rfl rfl Tryz.underlying27 rfl (by kernel_rfl)) rfl ?_
     exact out_ok HR.out.symm HF.out (⟨p6,c6,q6,d6,rfl,HF.out.rep 0 rfl,HF.out.rep 1 rfl⟩)
   | false =>
     have HR : Hid ((((skipM [76,73,75,69]).then fun b => if b then (sumM E Q f).then fun x => madeM (opX 9 0 dn e.a 2 (e.flat ++ x.flat) .none) else if dn then refuseM else PM.ret e) S2) = r) := HR.out
     go_wp2_with fail
     refine DoesI.go (skip_does [76,73,75,69]) (HF.out) (trivial) HR.out HN.out ?_ ?_
     · intro a er wN hb hk
       have HB : Hid (r = .bad a er ∧ Kept (On F) w wN) := ⟨hb,hk⟩
       clear hb hk
       go_wp2_with fail
       exact ⟨rfl,out_bad HB.out.1 HB.out.2⟩
     intro x3 S3 v3 w3 hv hk hf
     cases hv
     clear HF HR
     have HF := hidF <| hf
     clear hf
     have HR : Hid (_ = r) := hk
     clear hk
     cases x3 with
     | true =>
       have HF : Hid (FR w F A [(b6,27,#[.int .i64 0,.int .i64 0,.int .i64 0,.int .i64 0,.string ⟨#[]⟩,.string ⟨#[]⟩,.string ⟨#[]⟩,.int .i64 0,.bool false,.int .i64 0,.slice none 0 0,.slice none 0 0]),(b4,27,#[.int .i64 e.k,.int .i64 e.op,.int .i64 e.vk,.int .i64 e.vn,.string ⟨e.vs.toArray⟩,.string ⟨e.tb.toArray⟩,.string ⟨e.nm.toArray⟩,.int .i64 e.col,.bool e.dn,.int .i64 e.a,.slice p e.ar.n c,.slice q e.sb.n d])] _ S3 w3) := HF.out
       have HR : Hid ((((sumM E Q f).then fun x => madeM (opX 9 0 dn e.a 2 (e.flat ++ x.flat) .none)) S3) = r) := HR.out
       go_wp2_with fail
       have HF := hidF <| (HF.out).drew
       refine region_L (k := 10) (S := SFR w F A [(b6,27,#[.int .i64 0,.int .i64 0,.int .i64 0,.int .i64 0,.string ⟨#[]⟩,.string ⟨#[]⟩,.string ⟨#[]⟩,.int .i64 0,.bool false,.int .i64 0,.slice none 0 0,.slice none 0 0]),(b4,27,#[.int .i64 e.k,.int .i64 e.op,.int .i64 e.vk,.int .i64 e.vn,.string ⟨e.vs.toArray⟩,.string ⟨e.tb.toArray⟩,.string ⟨e.nm.toArray⟩,.int .i64 e.col,.bool e.dn,.int .i64 e.a,.slice p e.ar.n c,.slice q e.sb.n d])]) (by kernel_rfl) ?_
       simp only [List.size_toArray,List.length_cons,List.length_nil,Nat.zero_add,Nat.reduceAdd,Array.replicate]
       refine pL 0 (ptr F) HF.out.s ?_
       try simp only [Act.put,sI,sS,sZ]
       refine pL 1 (.bool dn) HF.out.s ?_
       try simp only [Act.put,sI,sS,sZ]
       refine pL 2 (.pointer (some ⟨b4,9,none⟩)) HF.out.s ?_
       try simp only [Act.put,sI,sS,sZ]
       refine fL 3 1 lv3 HF ?_
       try simp only [Act.put,sI,sS,sZ]
       refine lL 4 1 Tryz.underlying27 HF ?_
       try simp only [Act.put,sI,sS,sZ]
       refine pL 5 (ptr F) HF.out.s ?_
       try simp only [Act.put,sI,sS,sZ]
       refine onL (j := 6) (fun K hK => ?_)
       go_wp2_with fail
       refine DoesI.go (HSM.out) (HF.out) (trivial) HR.out HN.out ?_ ?_
       · intro a er wN hb hk
         have HB : Hid (r = .bad a er ∧ Kept (On F) w wN) := ⟨hb,hk⟩
         clear hb hk
         go_wp2_with fail
         exact ⟨rfl,out_bad HB.out.1 HB.out.2⟩
       intro x4 S4 v4 w4 hv hk hf
       obtain ⟨p4,c4,q4,d4,rfl,h1,h2⟩ := hv
       clear HF HR
       have HF := hidF <| (hf.tree h2).tree h1
       clear h1 h2
       clear hf
       have HR : Hid (_ = r) := hk
       clear hk
       go_wp2_with fail
       refine hK.out _ _ ⟨fun _ => HF.out.s, ?_⟩
       clear hK K
       try simp only [Act.put,sI,sS,sZ]
       refine onL (j := 7) (fun K hK => ?_)
       go_wp2_with fail
       have HF2 : Hid (FR _ _ _ _ _ _ _) := HF.out.row _ 27 2 (_ ++ x4.flat) ((xc_rep (HF.out.trep 2 rfl) (HF.out.trep 3 rfl)).append (xc_rep (HF.out.trep 0 rfl) (HF.out.trep 1 rfl)))
       clear HF
       have HF := hidF <| HF2.out
       clear HF2
       refine hK.out _ _ ⟨fun _ => HF.out.s, ?_⟩
       clear hK K
       try simp only [Act.put,sI,sS,sZ]
       refine pL 8 (.agg #[.int .i64 9,.int .i64 0,.int .i64 0,.int .i64 0,.string ⟨#[]⟩,.string ⟨#[]⟩,.string ⟨#[]⟩,.int .i64 0,.bool dn,.int .i64 e.a,.slice (some ⟨w4.heap.size,0,none⟩) 2 2,.slice none 0 0]) HF.out.s ?_
       try simp only [Act.put,sI,sS,sZ]
       refine onL (j := 9) (fun K hK => ?_)
       go_wp2_with fail
       refine DoesI.go (k := PM.ret) (HMH.out (opX 9 0 dn e.a 2 (e.flat ++ x4.flat) .none) _ _ none 0) (HF.out) (⟨HF.out.trep 0 rfl,Rep.nil none 0⟩) (by rw [PM.then_ret]; exact HR.out) HN.out ?_ ?_
       · intro a er wN hb hk
         have HB : Hid (r = .bad a er ∧ Kept (On F) w wN) := ⟨hb,hk⟩
         clear hb hk
         go_wp2_with fail
         exact ⟨rfl,out_bad HB.out.1 HB.out.2⟩
       intro x5 S5 v5 w5 hv hk hf
       obtain ⟨p5,c5,q5,d5,rfl,h1,h2⟩ := hv
       clear HF HR
       have HF := hidF <| (hf.tree h2).tree h1
       clear h1 h2
       clear hf
       have HR : Hid (_ = r) := hk
       clear hk
       go_wp2_with fail
       refine hK.out _ _ ⟨fun _ => HF.out.s, ?_⟩
       clear hK K
       try simp only [Act.put,sI,sS,sZ]
       refine onL (j := 10) (fun K hK => ?_)
       refine op_store HF 0 ?_
       intro wS hS
       clear HF
       have HF := hidF <| hS
       clear hS
       refine hK.out _ _ ⟨fun e => absurd rfl e, ?_⟩
       clear hK K
       try simp only [Act.put,sI,sS,sZ]
       refine doneL ?_
       go_wp2_with fail
       refine bodyPost_ret (end_row HF.out 0 rfl rfl rfl Tryz.underlying27 rfl (by kernel_rfl)) rfl ?_
       exact out_ok HR.out.symm HF.out (⟨p5,c5,q5,d5,rfl,HF.out.rep 0 rfl,HF.out.rep 1 rfl⟩)
     | false =>
       cases dn with
       | true =>
         have HR : Hid (((refuseM : PM X) S3) = r) := HR.out
         go_wp2_with fail
         refine Calls.mono (refuse_is _ _ _ (HF.out).pa) ?_; rintro e wR ⟨rfl,kR⟩
         have HB : Hid (Kept (On F) w wR) := (HF.out).kp.trans (kR.mono (fun i q => q.elim) : Kept (On F) _ _) (fun i q => .inl q)
         clear kR
         go_wp2_with fail
         exact ⟨rfl,out_bad HR.out.symm HB.out⟩
       | false =>
         have HR : Hid ((PM.ret e S3) = r) := HR.out
         go_wp2_with (first | (refine wl_load HF 1 Tryz.underlying27 ?_) | (refine wl_store HF 0 ?_; intro wN hN; clear HF; have HF := hidF <| hN; clear hN))
         refine bodyPost_ret (end_row HF.out 0 rfl rfl rfl Tryz.underlying27 rfl (by kernel_rfl)) rfl ?_
         exact out_ok HR.out.symm HF.out (⟨p,c,q,d,rfl,HF.out.rep 0 rfl,HF.out.rep 1 rfl⟩)
end Go.Proofs.YtlgkghebemfpjaaGreatDoor.Pa
