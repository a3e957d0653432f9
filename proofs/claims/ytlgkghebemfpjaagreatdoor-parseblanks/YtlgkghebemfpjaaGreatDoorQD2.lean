/- test. -/
import Derived.Test.YtlgkghebemfpjaaGreatDoorQD1
namespace Go.Proofs.YtlgkghebemfpjaaGreatDoor.Pa
open Go.ChangeShapes Go.WideShapes Go.ChangeAt Go.RowKit
set_option linter.unusedVariables false
set_option linter.unusedSimpArgs false
set_option maxRecDepth 100000
set_option maxHeartbeats 4000000 in
theorem test_does (E : PM X) (Q : PM Qy) (f : Nat) (HM : MadeC) (HS : Does XR 139 (fun F => #[ptr F]) (sumM E Q f)) (HO : ∀ (e : X) (p : Option Addr) (c : Nat) (q : Option Addr) (d : Nat) (dn : Bool),DoesI (fun A w _ => Rep A w (.slice p e.ar.n c) e.ar.dt ∧ Rep A w (.slice q e.sb.n d) e.sb.dt) XR 141 (fun F => #[ptr F,.agg #[.int .i64 e.k,.int .i64 e.op,.int .i64 e.vk,.int .i64 e.vn,.string ⟨e.vs.toArray⟩,.string ⟨e.tb.toArray⟩,.string ⟨e.nm.toArray⟩,.int .i64 e.col,.bool e.dn,.int .i64 e.a,.slice p e.ar.n c,.slice q e.sb.n d],.bool dn]) (oneOfM E Q f e dn)) : Does XR 113 (fun F => #[ptr F]) (testM E Q f) := by
 intro w F A S hp hA hF hpre hn
 have HF : Hid (FR w F A [] [] S w) := FR.init [] hp hA hF (fun y h => (by cases h))
 obtain ⟨r,hr⟩ : ∃ r,(testM E Q f) S = r := ⟨_,rfl⟩
 have HR : Hid ((testM E Q f) S = r) := hr
 rw [hr] at hn ⊢
 have HN : Hid (r ≠ .out) := hn
 clear hp hA hF hr hn
 have HSM : Hid (Does XR 139 (fun F => #[ptr F]) (sumM E Q f)) := HS
 have HMH : Hid MadeC := HM
 have HOO : Hid (∀ (e : X) (p : Option Addr) (c : Nat) (q : Option Addr) (d : Nat) (dn : Bool),DoesI (fun A w _ => Rep A w (.slice p e.ar.n c) e.ar.dt ∧ Rep A w (.slice q e.sb.n d) e.sb.dt) XR 141 (fun F => #[ptr F,.agg #[.int .i64 e.k,.int .i64 e.op,.int .i64 e.vk,.int .i64 e.vn,.string ⟨e.vs.toArray⟩,.string ⟨e.tb.toArray⟩,.string ⟨e.nm.toArray⟩,.int .i64 e.col,.bool e.dn,.int .i64 e.a,.slice p e.ar.n c,.slice q e.sb.n d],.bool dn]) (oneOfM E Q f e dn)) := HO
 have HII : Hid (∀ (e : X) (p : Option Addr) (c : Nat) (q : Option Addr) (d : Nat),DoesI (fun A w _ => Rep A w (.slice p e.ar.n c) e.ar.dt ∧ Rep A w (.slice q e.sb.n d) e.sb.dt) XR 140 (fun F => #[ptr F,.agg #[.int .i64 e.k,.int .i64 e.op,.int .i64 e.vk,.int .i64 e.vn,.string ⟨e.vs.toArray⟩,.string ⟨e.tb.toArray⟩,.string ⟨e.nm.toArray⟩,.int .i64 e.col,.bool e.dn,.int .i64 e.a,.slice p e.ar.n c,.slice q e.sb.n d]]) (isNullM e)) := fun e p c q d => isNull_does e p c q d HM
 clear HS HM HO
 go_enter Tryz.func113,Tryz.ntmps113
 go_wp2_with (first | (refine wl_alloc HF al27 ?_; intro wN b2 hN; clear HF; have HF := hidF <| hN; clear hN))
 refine DoesI.go (HSM.out) (HF.out) (trivial) HR.out HN.out ?_ ?_
 · intro a er wN hb hk
   have HB : Hid (r = .bad a er ∧ Kept (On F) w wN) := ⟨hb,hk⟩
   clear hb hk
   go_wp2_with fail
   exact ⟨rfl,out_bad HB.out.1 HB.out.2⟩
 intro x1 S1 v1 w1 hv hk hf
 obtain ⟨p1,c1,q1,d1,rfl,h1,h2⟩ := hv
 clear HF HR
 have HF := hidF <| (hf.tree h2).tree h1
 clear h1 h2
 clear hf
 have HR : Hid (_ = r) := hk
 clear hk
 go_wp2_with (first | (refine wl_alloc HF al27 ?_; intro wN b3 hN; clear HF; have HF := hidF <| hN; clear hN) | (refine wl_store HF 0 ?_; intro wN hN; clear HF; have HF := hidF <| hN; clear hN))
 refine DoesI.go (operation_does 3) (HF.out) (trivial) HR.out HN.out ?_ ?_
 · intro a er wN hb hk
   have HB : Hid (r = .bad a er ∧ Kept (On F) w wN) := ⟨hb,hk⟩
   clear hb hk
   go_wp2_with fail
   exact ⟨rfl,out_bad HB.out.1 HB.out.2⟩
 intro x2 S2 v2 w2 hv hk hf
 cases hv
 clear HF HR
 have HF := hidF <| hf
 clear hf
 have HR : Hid (_ = r) := hk
 clear hk
 have HF : Hid (FR w F A [(b3,27,#[.int .i64 x1.k,.int .i64 x1.op,.int .i64 x1.vk,.int .i64 x1.vn,.string ⟨x1.vs.toArray⟩,.string ⟨x1.tb.toArray⟩,.string ⟨x1.nm.toArray⟩,.int .i64 x1.col,.bool x1.dn,.int .i64 x1.a,.slice p1 x1.ar.n c1,.slice q1 x1.sb.n d1]),(b2,27,#[.int .i64 0,.int .i64 0,.int .i64 0,.int .i64 0,.string ⟨#[]⟩,.string ⟨#[]⟩,.string ⟨#[]⟩,.int .i64 0,.bool false,.int .i64 0,.slice none 0 0,.slice none 0 0])] _ S2 w2) := HF.out
 by_cases hop : x2 = 0
 · subst hop
   have HR : Hid ((((skipM [73,83]).then fun b => if b then isNullM x1 else (skipM [78,79,84]).then fun d => oneOfM E Q f x1 d) S2) = r) := HR.out
   go_wp2_with fail
   refine DoesI.go (skip_does [73,83]) (HF.out) (trivial) HR.out HN.out ?_ ?_
   · intro a er wN hb hk
     have HB : Hid (r = .bad a er ∧ Kept (On F) w wN) := ⟨hb,hk⟩
     clear hb hk
     go_wp2_with fail
     exact ⟨rfl,out_bad HB.out.1 HB.out.2⟩
   intro x3 S3 v3 w3 hv hk hf
   cases hv
   clear HF HR
   have HF := hidF <| hf
   clear hf
   have HR : Hid (_ = r) := hk
   clear hk
   cases x3 with
   | true =>
     have HR : Hid ((isNullM x1 S3) = r) := HR.out
     go_wp2_with (first | (refine wl_load HF 0 Tryz.underlying27 ?_))
     refine DoesI.go (k := PM.ret) (HII.out x1 _ _ _ _) (HF.out) (⟨HF.out.trep 0 rfl,HF.out.trep 1 rfl⟩) (by rw [PM.then_ret]; exact HR.out) HN.out ?_ ?_
     · intro a er wN hb hk
       have HB : Hid (r = .bad a er ∧ Kept (On F) w wN) := ⟨hb,hk⟩
       clear hb hk
       go_wp2_with fail
       exact ⟨rfl,out_bad HB.out.1 HB.out.2⟩
     intro x4 S4 v4 w4 hv hk hf
     obtain ⟨p4,c4,q4,d4,rfl,h1,h2⟩ := hv
     clear HF HR
     have HF := hidF <| (hf.tree h2).tree h1
     clear h1 h2
     clear hf
     have HR : Hid (_ = r) := hk
     clear hk
     go_wp2_with (first | (refine wl_store HF 1 ?_; intro wN hN; clear HF; have HF := hidF <| hN; clear hN))
     refine bodyPost_ret (end_row HF.out 1 rfl rfl rfl Tryz.underlying27 rfl (by kernel_rfl)) rfl ?_
     exact out_ok HR.out.symm HF.out (⟨p4,c4,q4,d4,rfl,HF.out.rep 0 rfl,HF.out.rep 1 rfl⟩)
   | false =>
     have HR : Hid ((((skipM [78,79,84]).then fun d => oneOfM E Q f x1 d) S3) = r) := HR.out
     go_wp2_with fail
     have HF := hidF <| (HF.out).drew
     refine region_L (k := 5) (S := SFR w F A [(b3,27,#[.int .i64 x1.k,.int .i64 x1.op,.int .i64 x1.vk,.int .i64 x1.vn,.string ⟨x1.vs.toArray⟩,.string ⟨x1.tb.toArray⟩,.string ⟨x1.nm.toArray⟩,.int .i64 x1.col,.bool x1.dn,.int .i64 x1.a,.slice p1 x1.ar.n c1,.slice q1 x1.sb.n d1]),(b2,27,#[.int .i64 0,.int .i64 0,.int .i64 0,.int .i64 0,.string ⟨#[]⟩,.string ⟨#[]⟩,.string ⟨#[]⟩,.int .i64 0,.bool false,.int .i64 0,.slice none 0 0,.slice none 0 0])]) (by kernel_rfl) ?_
     simp only [List.size_toArray,List.length_cons,List.length_nil,Nat.zero_add,Nat.reduceAdd,Array.replicate]
     refine pL 0 (ptr F) HF.out.s ?_
     try simp only [Act.put,sI,sS,sZ]
     refine lL 1 0 Tryz.underlying27 HF ?_
     try simp only [Act.put,sI,sS,sZ]
     refine pL 2 (ptr F) HF.out.s ?_
     try simp only [Act.put,sI,sS,sZ]
     refine onL (j := 3) (fun K hK => ?_)
     go_wp2_with fail
     refine DoesI.go (skip_does [78,79,84]) (HF.out) (trivial) HR.out HN.out ?_ ?_
     · intro a er wN hb hk
       have HB : Hid (r = .bad a er ∧ Kept (On F) w wN) := ⟨hb,hk⟩
       clear hb hk
       go_wp2_with fail
       exact ⟨rfl,out_bad HB.out.1 HB.out.2⟩
     intro x5 S5 v5 w5 hv hk hf
     cases hv
     clear HF HR
     have HF := hidF <| hf
     clear hf
     have HR : Hid (_ = r) := hk
     clear hk
     go_wp2_with fail
     refine hK.out _ _ ⟨fun _ => HF.out.s, ?_⟩
     clear hK K
     try simp only [Act.put,sI,sS,sZ]
     refine onL (j := 4) (fun K hK => ?_)
     go_wp2_with fail
     refine DoesI.go (k := PM.ret) (HOO.out x1 _ _ _ _ x5) (HF.out) (⟨HF.out.trep 0 rfl,HF.out.trep 1 rfl⟩) (by rw [PM.then_ret]; exact HR.out) HN.out ?_ ?_
     · intro a er wN hb hk
       have HB : Hid (r = .bad a er ∧ Kept (On F) w wN) := ⟨hb,hk⟩
       clear hb hk
       go_wp2_with fail
       exact ⟨rfl,out_bad HB.out.1 HB.out.2⟩
     intro x6 S6 v6 w6 hv hk hf
     obtain ⟨p6,c6,q6,d6,rfl,h1,h2⟩ := hv
     clear HF HR
     have HF := hidF <| (hf.tree h2).tree h1
     clear h1 h2
     clear hf
     have HR : Hid (_ = r) := hk
     clear hk
     go_wp2_with fail
     refine hK.out _ _ ⟨fun _ => HF.out.s, ?_⟩
     clear hK K
     try simp only [Act.put,sI,sS,sZ]
     refine onL (j := 5) (fun K hK => ?_)
     refine op_store HF 1 ?_
     intro wS hS
     clear HF
     have HF := hidF <| hS
     clear hS
     refine hK.out _ _ ⟨fun e => absurd rfl e, ?_⟩
     clear hK K
     try simp only [Act.put,sI,sS,sZ]
     refine doneL ?_
     go_wp2_with fail
     refine bodyPost_ret (end_row HF.out 1 rfl rfl rfl Tryz.underlying27 rfl (by kernel_rfl)) rfl ?_
     exact out_ok HR.out.symm HF.out (⟨p6,c6,q6,d6,rfl,HF.out.rep 0 rfl,HF.out.rep 1 rfl⟩)
 · skip
   have HR : Hid (((sumM E Q f).then fun b => madeM (opX 4 x2 false x1.a 2 (x1.flat ++ b.flat) .none)) S2 = r) := by
    have h : (if x2 = 0 then (skipM [73,83]).then fun b => if b then isNullM x1 else (skipM [78,79,84]).then fun d => oneOfM E Q f x1 d else (sumM E Q f).then fun b => madeM (opX 4 x2 false x1.a 2 (x1.flat ++ b.flat) .none)) S2 = r := HR.out
    rw [if_neg hop] at h; exact h
   go_wp2_with fail
   have HF := hidF <| (HF.out).drew
   refine region_L (k := 10) (S := SFR w F A [(b3,27,#[.int .i64 x1.k,.int .i64 x1.op,.int .i64 x1.vk,.int .i64 x1.vn,.string ⟨x1.vs.toArray⟩,.string ⟨x1.tb.toArray⟩,.string ⟨x1.nm.toArray⟩,.int .i64 x1.col,.bool x1.dn,.int .i64 x1.a,.slice p1 x1.ar.n c1,.slice q1 x1.sb.n d1]),(b2,27,#[.int .i64 0,.int .i64 0,.int .i64 0,.int .i64 0,.string ⟨#[]⟩,.string ⟨#[]⟩,.string ⟨#[]⟩,.int .i64 0,.bool false,.int .i64 0,.slice none 0 0,.slice none 0 0])]) (by kernel_rfl) ?_
   simp only [List.size_toArray,List.length_cons,List.length_nil,Nat.zero_add,Nat.reduceAdd,Array.replicate]
   refine pL 0 (ptr F) HF.out.s ?_
   try simp only [Act.put,sI,sS,sZ]
   refine pL 1 (.int .i64 x2) HF.out.s ?_
   try simp only [Act.put,sI,sS,sZ]
   refine pL 2 (.pointer (some ⟨b3,9,none⟩)) HF.out.s ?_
   try simp only [Act.put,sI,sS,sZ]
   refine fL 3 0 lv3 HF ?_
   try simp only [Act.put,sI,sS,sZ]
   refine lL 4 0 Tryz.underlying27 HF ?_
   try simp only [Act.put,sI,sS,sZ]
   refine pL 5 (ptr F) HF.out.s ?_
   try simp only [Act.put,sI,sS,sZ]
   refine onL (j := 6) (fun K hK => ?_)
   go_wp2_with fail
   refine DoesI.go (HSM.out) (HF.out) (trivial) HR.out HN.out ?_ ?_
   · intro a er wN hb hk
     have HB : Hid (r = .bad a er ∧ Kept (On F) w wN) := ⟨hb,hk⟩
     clear hb hk
     go_wp2_with fail
     exact ⟨rfl,out_bad HB.out.1 HB.out.2⟩
   intro x3 S3 v3 w3 hv hk hf
   obtain ⟨p3,c3,q3,d3,rfl,h1,h2⟩ := hv
   clear HF HR
   have HF := hidF <| (hf.tree h2).tree h1
   clear h1 h2
   clear hf
   have HR : Hid (_ = r) := hk
   clear hk
   go_wp2_with fail
   refine hK.out _ _ ⟨fun _ => HF.out.s, ?_⟩
   clear hK K
   try simp only [Act.put,sI,sS,sZ]
   refine onL (j := 7) (fun K hK => ?_)
   go_wp2_with fail
   have HF2 : Hid (FR _ _ _ _ _ _ _) := HF.out.row _ 27 2 (_ ++ x3.flat) ((xc_rep (HF.out.trep 2 rfl) (HF.out.trep 3 rfl)).append (xc_rep (HF.out.trep 0 rfl) (HF.out.trep 1 rfl)))
   clear HF
   have HF := hidF <| HF2.out
   clear HF2
   refine hK.out _ _ ⟨fun _ => HF.out.s, ?_⟩
   clear hK K
   try simp only [Act.put,sI,sS,sZ]
   refine pL 8 (.agg #[.int .i64 4,.int .i64 x2,.int .i64 0,.int .i64 0,.string ⟨#[]⟩,.string ⟨#[]⟩,.string ⟨#[]⟩,.int .i64 0,.bool false,.int .i64 x1.a,.slice (some ⟨w3.heap.size,0,none⟩) 2 2,.slice none 0 0]) HF.out.s ?_
   try simp only [Act.put,sI,sS,sZ]
   refine onL (j := 9) (fun K hK => ?_)
   go_wp2_with fail
   refine DoesI.go (k := PM.ret) (HMH.out (opX 4 x2 false x1.a 2 (x1.flat ++ x3.flat) .none) _ _ none 0) (HF.out) (⟨HF.out.trep 0 rfl,Rep.nil none 0⟩) (by rw [PM.then_ret]; exact HR.out) HN.out ?_ ?_
   · intro a er wN hb hk
     have HB : Hid (r = .bad a er ∧ Kept (On F) w wN) := ⟨hb,hk⟩
     clear hb hk
     go_wp2_with fail
     exact ⟨rfl,out_bad HB.out.1 HB.out.2⟩
   intro x4 S4 v4 w4 hv hk hf
   obtain ⟨p4,c4,q4,d4,rfl,h1,h2⟩ := hv
   clear HF HR
   have HF := hidF <| (hf.tree h2).tree h1
   clear h1 h2
   clear hf
   have HR : Hid (_ = r) := hk
   clear hk
   go_wp2_with fail
   refine hK.out _ _ ⟨fun _ => HF.out.s, ?_⟩
   clear hK K
   try simp only [Act.put,sI,sS,sZ]
   refine onL (j := 10) (fun K hK => ?_)
   refine op_store HF 1 ?_
   intro wS hS
   clear HF
   have HF := hidF <| hS
   clear hS
   refine hK.out _ _ ⟨fun e => absurd rfl e, ?_⟩
   clear hK K
   try simp only [Act.put,sI,sS,sZ]
   refine doneL ?_
   go_wp2_with fail
   refine bodyPost_ret (end_row HF.out 1 rfl rfl rfl Tryz.underlying27 rfl (by kernel_rfl)) rfl ?_
   exact out_ok HR.out.symm HF.out (⟨p4,c4,q4,d4,rfl,HF.out.rep 0 rfl,HF.out.rep 1 rfl⟩)
end Go.Proofs.YtlgkghebemfpjaaGreatDoor.Pa
