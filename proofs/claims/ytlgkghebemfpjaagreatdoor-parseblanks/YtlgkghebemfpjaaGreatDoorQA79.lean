/- ahead, of function 79. ahead, of function 178. -/
import Derived.Test.YtlgkghebemfpjaaGreatDoorQRw
import Derived.Test.YtlgkghebemfpjaaGreatDoorQD1
namespace Go.Proofs.YtlgkghebemfpjaaGreatDoor.Pa
open Go.ChangeShapes Go.WideShapes Go.ChangeAt Go.RowKit
set_option linter.unusedVariables false
set_option linter.unusedSimpArgs false
set_option maxRecDepth 100000
set_option maxHeartbeats 8000000 in
theorem ahead79_does (op : Int) (m : PM X) (HM : MadeC) (H : Does XR 79 (fun F => #[ptr F]) m) : DoesI (fun _ _ S => S.hd.k ≠ 0) XR 114 (fun F => #[ptr F,.int .i64 op,.func (.func 79) #[ptr F] #[]]) (aheadM op m) := by
 intro w F A S hp hA hF hpre hn
 have HF : Hid (FR w F A [] [] S w) := FR.init [] hp hA hF (fun y h => (by cases h))
 obtain ⟨r,hr⟩ : ∃ r,(aheadM op m) S = r := ⟨_,rfl⟩
 have HR : Hid ((aheadM op m) S = r) := hr
 rw [hr] at hn ⊢
 have HN : Hid (r ≠ .out) := hn
 clear hp hA hF hr hn
 have HMH : Hid MadeC := HM
 have HHH : Hid (Does XR 79 (fun F => #[ptr F]) m) := H
 have HK0 : Hid (S.hd.k ≠ 0) := hpre
 clear H HM hpre
 go_enter Tryz.func114,Tryz.ntmps114
 go_wp2_with (first | (refine wl_alloc HF al27 ?_; intro wN b6 hN; clear HF; have HF := hidF <| hN; clear hN))
 refine DoesI.goE (enter_does) (HF.out) (trivial) HR.out HN.out ?_ ?_
 · intro a er wN hb hk
   have HB : Hid (r = .bad a er ∧ Kept (On F) w wN) := ⟨hb,hk⟩
   clear hb hk
   go_wp2_with fail
   exact ⟨rfl,out_bad HB.out.1 HB.out.2⟩
 intro x1 S1 v1 w1 he hv hk hf
 cases hv
 clear HF HR
 have HF := hidF <| hf
 clear hf
 have HR : Hid (_ = r) := hk
 clear hk
 have HK : Hid (S1.hd.k ≠ 0) := by cases he; exact HK0.out
 clear he HK0
 go_wp2_with fail
 refine DoesI.go (take_does) (HF.out) (HK.out) HR.out HN.out ?_ ?_
 · intro a er wN hb hk
   have HB : Hid (r = .bad a er ∧ Kept (On F) w wN) := ⟨hb,hk⟩
   clear hb hk
   go_wp2_with fail
   exact ⟨rfl,out_bad HB.out.1 HB.out.2⟩
 intro x2 S2 v2 w2 hv hk hf
 cases hv
 clear HF HR
 have HF := hidF <| hf
 clear hf
 have HR : Hid (_ = r) := hk
 clear hk
 go_wp2_with (first | (refine wl_alloc HF al40 ?_; intro wN b7 hN; clear HF; have HF := hidF <| hN; clear hN) | (refine wl_store HF 0 ?_; intro wN hN; clear HF; have HF := hidF <| hN; clear hN))
 have HF := hidF <| (HF.out).drew
 refine region_L (k := 10) (S := SFR w F A [(b7,40,#[.int .i64 x2.k,.string ⟨x2.t.toArray⟩,.int .i64 x2.n,.int .i64 x2.a]),(b6,27,#[.int .i64 0,.int .i64 0,.int .i64 0,.int .i64 0,.string ⟨#[]⟩,.string ⟨#[]⟩,.string ⟨#[]⟩,.int .i64 0,.bool false,.int .i64 0,.slice none 0 0,.slice none 0 0])]) (by kernel_rfl) ?_
 simp only [List.size_toArray,List.length_cons,List.length_nil,Nat.zero_add,Nat.reduceAdd,Array.replicate]
 refine pL 0 (ptr F) HF.out.s ?_
 try simp only [Act.put,sI,sS,sZ]
 refine pL 1 (.int .i64 op) HF.out.s ?_
 try simp only [Act.put,sI,sS,sZ]
 refine pL 2 (.pointer (some ⟨b7,3,none⟩)) HF.out.s ?_
 try simp only [Act.put,sI,sS,sZ]
 refine fL 3 0 lv3 HF ?_
 try simp only [Act.put,sI,sS,sZ]
 refine pL 4 (.func (.func 79) #[ptr F] #[]) HF.out.s ?_
 try simp only [Act.put,sI,sS,sZ]
 refine twoL (i := 5) (j := 9) (fun K hK => ?_) (fun K hK => ?_)
 · go_wp2_with fail
   refine DoesI.go (HHH.out) (HF.out) (trivial) HR.out HN.out ?_ ?_
   · intro a er wN hb hk
     have HB : Hid (r = .bad a er ∧ Kept (On F) w wN) := ⟨hb,hk⟩
     clear hb hk
     go_wp2_with fail
     exact ⟨rfl,out_bad HB.out.1 HB.out.2⟩
   intro x3 S3 v3 w3 hv hk hf
   obtain ⟨p3,c3,q3,d3,rfl,h1,h2⟩ := hv
   clear HF HR
   have HF := hidF <| (hf.tree h2).tree h1
   clear h1 h2
   clear hf
   have HR : Hid (_ = r) := hk
   clear hk
   go_wp2_with fail
   refine hK.out _ _ ⟨fun _ => HF.out.s, ?_⟩
   clear hK K
   try simp only [Act.put,sI,sS,sZ]
   refine twoL (i := 6) (j := 9) (fun K hK => ?_) (fun K hK => ?_)
   · refine op_row HF (el := 27) (xc_rep (HF.out.trep 0 rfl) (HF.out.trep 1 rfl)) (bs24 _ _ _ _ _ _ _ _ _ _ _ _) ?_
     intro wN b9 hN
     clear HF
     have HF := hidF <| hN
     clear hN
     refine hK.out _ _ ⟨fun _ => HF.out.s, ?_⟩
     clear hK K
     try simp only [Act.put,sI,sS,sZ]
     refine pL 7 (.agg #[.int .i64 3,.int .i64 op,.int .i64 0,.int .i64 0,.string ⟨#[]⟩,.string ⟨#[]⟩,.string ⟨#[]⟩,.int .i64 0,.bool false,.int .i64 x2.a,.slice (some ⟨b9,0,none⟩) 1 1,.slice none 0 0]) (HF.out.s) ?_
     try simp only [Act.put,sI,sS,sZ]
     refine twoL (i := 8) (j := 9) (fun K hK => ?_) (fun K hK => ?_)
     · go_wp2_with fail
       refine DoesI.go (HMH.out (opX 3 op false x2.a 1 x3.flat .none) _ _ none 0) (HF.out) (⟨HF.out.trep 0 rfl,Rep.nil none 0⟩) HR.out HN.out ?_ ?_
       · intro a er wN hb hk
         have HB : Hid (r = .bad a er ∧ Kept (On F) w wN) := ⟨hb,hk⟩
         clear hb hk
         go_wp2_with fail
         exact ⟨rfl,out_bad HB.out.1 HB.out.2⟩
       intro x4 S4 v4 w4 hv hk hf
       obtain ⟨p4,c4,q4,d4,rfl,h1,h2⟩ := hv
       clear HF HR
       have HF := hidF <| (hf.tree h2).tree h1
       clear h1 h2
       clear hf
       have HR : Hid (_ = r) := hk
       clear hk
       go_wp2_with fail
       refine hK.out _ _ ⟨fun _ => HF.out.s, ?_⟩
       clear hK K
       try simp only [Act.put,sI,sS,sZ]
       refine onL (j := 9) (fun K hK => ?_)
       refine op_alloc HF al27 ?_
       intro wN b8 hN
       clear HF
       have HF := hidF <| hN
       clear hN
       refine hK.out _ _ ⟨fun _ => HF.out.tl.s, ?_⟩
       clear hK K
       try simp only [Act.put,sI,sS,sZ]
       refine onL (j := 10) (fun K hK => ?_)
       refine op_store HF 0 ?_
       intro wS hS
       clear HF
       have HF := hidF <| hS
       clear hS
       refine hK.out _ _ ⟨fun e => absurd rfl e, ?_⟩
       clear hK K
       try simp only [Act.put,sI,sS,sZ]
       refine doneL ?_
       go_wp2_with fail
       refine DoesI.go (leave_does) (HF.out) (trivial) HR.out HN.out ?_ ?_
       · intro a er wN hb hk
         have HB : Hid (r = .bad a er ∧ Kept (On F) w wN) := ⟨hb,hk⟩
         clear hb hk
         go_wp2_with fail
         exact ⟨rfl,out_bad HB.out.1 HB.out.2⟩
       intro x5 S5 v5 w5 hv hk hf
       cases hv
       clear HF HR
       have HF := hidF <| hf
       clear hf
       have HR : Hid (_ = r) := hk
       clear hk
       go_wp2_with (first | (refine wl_load HF 0 Tryz.underlying27 ?_) | (refine wl_store HF 2 ?_; intro wN hN; clear HF; have HF := hidF <| hN; clear hN))
       refine bodyPost_ret (end_row HF.out 2 rfl rfl rfl Tryz.underlying27 rfl (by kernel_rfl)) rfl ?_
       exact out_ok HR.out.symm HF.out (⟨p4,c4,q4,d4,rfl,HF.out.rep 0 rfl,HF.out.rep 1 rfl⟩)
     · refine op_alloc HF al27 ?_
       intro wN b8 hN
       clear HF
       have HF := hidF <| hN
       clear hN
       refine hK.out _ _ ⟨fun _ => HF.out.tl.s, ?_⟩
       clear hK K
       try simp only [Act.put,sI,sS,sZ]
       refine onL (j := 8) (fun K hK => ?_)
       go_wp2_with fail
       refine DoesI.go (HMH.out (opX 3 op false x2.a 1 x3.flat .none) _ _ none 0) (HF.out) (⟨HF.out.trep 0 rfl,Rep.nil none 0⟩) HR.out HN.out ?_ ?_
       · intro a er wN hb hk
         have HB : Hid (r = .bad a er ∧ Kept (On F) w wN) := ⟨hb,hk⟩
         clear hb hk
         go_wp2_with fail
         exact ⟨rfl,out_bad HB.out.1 HB.out.2⟩
       intro x4 S4 v4 w4 hv hk hf
       obtain ⟨p4,c4,q4,d4,rfl,h1,h2⟩ := hv
       clear HF HR
       have HF := hidF <| (hf.tree h2).tree h1
       clear h1 h2
       clear hf
       have HR : Hid (_ = r) := hk
       clear hk
       go_wp2_with fail
       refine hK.out _ _ ⟨fun _ => HF.out.tl.s, ?_⟩
       clear hK K
       try simp only [Act.put,sI,sS,sZ]
       refine onL (j := 10) (fun K hK => ?_)
       refine op_store HF 0 ?_
       intro wS hS
       clear HF
       have HF := hidF <| hS
       clear hS
       refine hK.out _ _ ⟨fun e => absurd rfl e, ?_⟩
       clear hK K
       try simp only [Act.put,sI,sS,sZ]
       refine doneL ?_
       go_wp2_with fail
       refine DoesI.go (leave_does) (HF.out) (trivial) HR.out HN.out ?_ ?_
       · intro a er wN hb hk
         have HB : Hid (r = .bad a er ∧ Kept (On F) w wN) := ⟨hb,hk⟩
         clear hb hk
         go_wp2_with fail
         exact ⟨rfl,out_bad HB.out.1 HB.out.2⟩
       intro x5 S5 v5 w5 hv hk hf
       cases hv
       clear HF HR
       have HF := hidF <| hf
       clear hf
       have HR : Hid (_ = r) := hk
       clear hk
       go_wp2_with (first | (refine wl_load HF 0 Tryz.underlying27 ?_) | (refine wl_store HF 2 ?_; intro wN hN; clear HF; have HF := hidF <| hN; clear hN))
       refine bodyPost_ret (end_row HF.out 2 rfl rfl rfl Tryz.underlying27 rfl (by kernel_rfl)) rfl ?_
       exact out_ok HR.out.symm HF.out (⟨p4,c4,q4,d4,rfl,HF.out.rep 0 rfl,HF.out.rep 1 rfl⟩)
   · refine op_alloc HF al27 ?_
     intro wN b8 hN
     clear HF
     have HF := hidF <| hN
     clear hN
     refine hK.out _ _ ⟨fun _ => HF.out.tl.s, ?_⟩
     clear hK K
     try simp only [Act.put,sI,sS,sZ]
     refine onL (j := 6) (fun K hK => ?_)
     refine op_row HF (el := 27) (xc_rep (HF.out.trep 0 rfl) (HF.out.trep 1 rfl)) (bs24 _ _ _ _ _ _ _ _ _ _ _ _) ?_
     intro wN b9 hN
     clear HF
     have HF := hidF <| hN
     clear hN
     refine hK.out _ _ ⟨fun _ => HF.out.tl.s, ?_⟩
     clear hK K
     try simp only [Act.put,sI,sS,sZ]
     refine pL 7 (.agg #[.int .i64 3,.int .i64 op,.int .i64 0,.int .i64 0,.string ⟨#[]⟩,.string ⟨#[]⟩,.string ⟨#[]⟩,.int .i64 0,.bool false,.int .i64 x2.a,.slice (some ⟨b9,0,none⟩) 1 1,.slice none 0 0]) (HF.out.tl.s) ?_
     try simp only [Act.put,sI,sS,sZ]
     refine onL (j := 8) (fun K hK => ?_)
     go_wp2_with fail
     refine DoesI.go (HMH.out (opX 3 op false x2.a 1 x3.flat .none) _ _ none 0) (HF.out) (⟨HF.out.trep 0 rfl,Rep.nil none 0⟩) HR.out HN.out ?_ ?_
     · intro a er wN hb hk
       have HB : Hid (r = .bad a er ∧ Kept (On F) w wN) := ⟨hb,hk⟩
       clear hb hk
       go_wp2_with fail
       exact ⟨rfl,out_bad HB.out.1 HB.out.2⟩
     intro x4 S4 v4 w4 hv hk hf
     obtain ⟨p4,c4,q4,d4,rfl,h1,h2⟩ := hv
     clear HF HR
     have HF := hidF <| (hf.tree h2).tree h1
     clear h1 h2
     clear hf
     have HR : Hid (_ = r) := hk
     clear hk
     go_wp2_with fail
     refine hK.out _ _ ⟨fun _ => HF.out.tl.s, ?_⟩
     clear hK K
     try simp only [Act.put,sI,sS,sZ]
     refine onL (j := 10) (fun K hK => ?_)
     refine op_store HF 0 ?_
     intro wS hS
     clear HF
     have HF := hidF <| hS
     clear hS
     refine hK.out _ _ ⟨fun e => absurd rfl e, ?_⟩
     clear hK K
     try simp only [Act.put,sI,sS,sZ]
     refine doneL ?_
     go_wp2_with fail
     refine DoesI.go (leave_does) (HF.out) (trivial) HR.out HN.out ?_ ?_
     · intro a er wN hb hk
       have HB : Hid (r = .bad a er ∧ Kept (On F) w wN) := ⟨hb,hk⟩
       clear hb hk
       go_wp2_with fail
       exact ⟨rfl,out_bad HB.out.1 HB.out.2⟩
     intro x5 S5 v5 w5 hv hk hf
     cases hv
     clear HF HR
     have HF := hidF <| hf
     clear hf
     have HR : Hid (_ = r) := hk
     clear hk
     go_wp2_with (first | (refine wl_load HF 0 Tryz.underlying27 ?_) | (refine wl_store HF 2 ?_; intro wN hN; clear HF; have HF := hidF <| hN; clear hN))
     refine bodyPost_ret (end_row HF.out 2 rfl rfl rfl Tryz.underlying27 rfl (by kernel_rfl)) rfl ?_
     exact out_ok HR.out.symm HF.out (⟨p4,c4,q4,d4,rfl,HF.out.rep 0 rfl,HF.out.rep 1 rfl⟩)
 · refine op_alloc HF al27 ?_
   intro wN b8 hN
   clear HF
   have HF := hidF <| hN
   clear hN
   refine hK.out _ _ ⟨fun _ => HF.out.tl.s, ?_⟩
   clear hK K
   try simp only [Act.put,sI,sS,sZ]
   refine onL (j := 5) (fun K hK => ?_)
   go_wp2_with fail
   refine DoesI.go (HHH.out) (HF.out) (trivial) HR.out HN.out ?_ ?_
   · intro a er wN hb hk
     have HB : Hid (r = .bad a er ∧ Kept (On F) w wN) := ⟨hb,hk⟩
     clear hb hk
     go_wp2_with fail
     exact ⟨rfl,out_bad HB.out.1 HB.out.2⟩
   intro x3 S3 v3 w3 hv hk hf
   obtain ⟨p3,c3,q3,d3,rfl,h1,h2⟩ := hv
   clear HF HR
   have HF := hidF <| (hf.tree h2).tree h1
   clear h1 h2
   clear hf
   have HR : Hid (_ = r) := hk
   clear hk
   go_wp2_with fail
   refine hK.out _ _ ⟨fun _ => HF.out.tl.s, ?_⟩
   clear hK K
   try simp only [Act.put,sI,sS,sZ]
   refine onL (j := 6) (fun K hK => ?_)
   refine op_row HF (el := 27) (xc_rep (HF.out.trep 0 rfl) (HF.out.trep 1 rfl)) (bs24 _ _ _ _ _ _ _ _ _ _ _ _) ?_
   intro wN b9 hN
   clear HF
   have HF := hidF <| hN
   clear hN
   refine hK.out _ _ ⟨fun _ => HF.out.tl.s, ?_⟩
   clear hK K
   try simp only [Act.put,sI,sS,sZ]
   refine pL 7 (.agg #[.int .i64 3,.int .i64 op,.int .i64 0,.int .i64 0,.string ⟨#[]⟩,.string ⟨#[]⟩,.string ⟨#[]⟩,.int .i64 0,.bool false,.int .i64 x2.a,.slice (some ⟨b9,0,none⟩) 1 1,.slice none 0 0]) (HF.out.tl.s) ?_
   try simp only [Act.put,sI,sS,sZ]
   refine onL (j := 8) (fun K hK => ?_)
   go_wp2_with fail
   refine DoesI.go (HMH.out (opX 3 op false x2.a 1 x3.flat .none) _ _ none 0) (HF.out) (⟨HF.out.trep 0 rfl,Rep.nil none 0⟩) HR.out HN.out ?_ ?_
   · intro a er wN hb hk
     have HB : Hid (r = .bad a er ∧ Kept (On F) w wN) := ⟨hb,hk⟩
     clear hb hk
     go_wp2_with fail
     exact ⟨rfl,out_bad HB.out.1 HB.out.2⟩
   intro x4 S4 v4 w4 hv hk hf
   obtain ⟨p4,c4,q4,d4,rfl,h1,h2⟩ := hv
   clear HF HR
   have HF := hidF <| (hf.tree h2).tree h1
   clear h1 h2
   clear hf
   have HR : Hid (_ = r) := hk
   clear hk
   go_wp2_with fail
   refine hK.out _ _ ⟨fun _ => HF.out.tl.s, ?_⟩
   clear hK K
   try simp only [Act.put,sI,sS,sZ]
   refine onL (j := 10) (fun K hK => ?_)
   refine op_store HF 0 ?_
   intro wS hS
   clear HF
   have HF := hidF <| hS
   clear hS
   refine hK.out _ _ ⟨fun e => absurd rfl e, ?_⟩
   clear hK K
   try simp only [Act.put,sI,sS,sZ]
   refine doneL ?_
   go_wp2_with fail
   refine DoesI.go (leave_does) (HF.out) (trivial) HR.out HN.out ?_ ?_
   · intro a er wN hb hk
     have HB : Hid (r = .bad a er ∧ Kept (On F) w wN) := ⟨hb,hk⟩
     clear hb hk
     go_wp2_with fail
     exact ⟨rfl,out_bad HB.out.1 HB.out.2⟩
   intro x5 S5 v5 w5 hv hk hf
   cases hv
   clear HF HR
   have HF := hidF <| hf
   clear hf
   have HR : Hid (_ = r) := hk
   clear hk
   go_wp2_with (first | (refine wl_load HF 0 Tryz.underlying27 ?_) | (refine wl_store HF 2 ?_; intro wN hN; clear HF; have HF := hidF <| hN; clear hN))
   refine bodyPost_ret (end_row HF.out 2 rfl rfl rfl Tryz.underlying27 rfl (by kernel_rfl)) rfl ?_
   exact out_ok HR.out.symm HF.out (⟨p4,c4,q4,d4,rfl,HF.out.rep 0 rfl,HF.out.rep 1 rfl⟩)
set_option maxHeartbeats 8000000 in
theorem ahead178_does (op : Int) (m : PM X) (HM : MadeC) (H : Does XR 178 (fun F => #[ptr F]) m) : DoesI (fun _ _ S => S.hd.k ≠ 0) XR 114 (fun F => #[ptr F,.int .i64 op,.func (.func 178) #[ptr F] #[]]) (aheadM op m) := by
 intro w F A S hp hA hF hpre hn
 have HF : Hid (FR w F A [] [] S w) := FR.init [] hp hA hF (fun y h => (by cases h))
 obtain ⟨r,hr⟩ : ∃ r,(aheadM op m) S = r := ⟨_,rfl⟩
 have HR : Hid ((aheadM op m) S = r) := hr
 rw [hr] at hn ⊢
 have HN : Hid (r ≠ .out) := hn
 clear hp hA hF hr hn
 have HMH : Hid MadeC := HM
 have HHH : Hid (Does XR 178 (fun F => #[ptr F]) m) := H
 have HK0 : Hid (S.hd.k ≠ 0) := hpre
 clear H HM hpre
 go_enter Tryz.func114,Tryz.ntmps114
 go_wp2_with (first | (refine wl_alloc HF al27 ?_; intro wN b6 hN; clear HF; have HF := hidF <| hN; clear hN))
 refine DoesI.goE (enter_does) (HF.out) (trivial) HR.out HN.out ?_ ?_
 · intro a er wN hb hk
   have HB : Hid (r = .bad a er ∧ Kept (On F) w wN) := ⟨hb,hk⟩
   clear hb hk
   go_wp2_with fail
   exact ⟨rfl,out_bad HB.out.1 HB.out.2⟩
 intro x1 S1 v1 w1 he hv hk hf
 cases hv
 clear HF HR
 have HF := hidF <| hf
 clear hf
 have HR : Hid (_ = r) := hk
 clear hk
 have HK : Hid (S1.hd.k ≠ 0) := by cases he; exact HK0.out
 clear he HK0
 go_wp2_with fail
 refine DoesI.go (take_does) (HF.out) (HK.out) HR.out HN.out ?_ ?_
 · intro a er wN hb hk
   have HB : Hid (r = .bad a er ∧ Kept (On F) w wN) := ⟨hb,hk⟩
   clear hb hk
   go_wp2_with fail
   exact ⟨rfl,out_bad HB.out.1 HB.out.2⟩
 intro x2 S2 v2 w2 hv hk hf
 cases hv
 clear HF HR
 have HF := hidF <| hf
 clear hf
 have HR : Hid (_ = r) := hk
 clear hk
 go_wp2_with (first | (refine wl_alloc HF al40 ?_; intro wN b7 hN; clear HF; have HF := hidF <| hN; clear hN) | (refine wl_store HF 0 ?_; intro wN hN; clear HF; have HF := hidF <| hN; clear hN))
 have HF := hidF <| (HF.out).drew
 refine region_L (k := 10) (S := SFR w F A [(b7,40,#[.int .i64 x2.k,.string ⟨x2.t.toArray⟩,.int .i64 x2.n,.int .i64 x2.a]),(b6,27,#[.int .i64 0,.int .i64 0,.int .i64 0,.int .i64 0,.string ⟨#[]⟩,.string ⟨#[]⟩,.string ⟨#[]⟩,.int .i64 0,.bool false,.int .i64 0,.slice none 0 0,.slice none 0 0])]) (by kernel_rfl) ?_
 simp only [List.size_toArray,List.length_cons,List.length_nil,Nat.zero_add,Nat.reduceAdd,Array.replicate]
 refine pL 0 (ptr F) HF.out.s ?_
 try simp only [Act.put,sI,sS,sZ]
 refine pL 1 (.int .i64 op) HF.out.s ?_
 try simp only [Act.put,sI,sS,sZ]
 refine pL 2 (.pointer (some ⟨b7,3,none⟩)) HF.out.s ?_
 try simp only [Act.put,sI,sS,sZ]
 refine fL 3 0 lv3 HF ?_
 try simp only [Act.put,sI,sS,sZ]
 refine pL 4 (.func (.func 178) #[ptr F] #[]) HF.out.s ?_
 try simp only [Act.put,sI,sS,sZ]
 refine twoL (i := 5) (j := 9) (fun K hK => ?_) (fun K hK => ?_)
 · go_wp2_with fail
   refine DoesI.go (HHH.out) (HF.out) (trivial) HR.out HN.out ?_ ?_
   · intro a er wN hb hk
     have HB : Hid (r = .bad a er ∧ Kept (On F) w wN) := ⟨hb,hk⟩
     clear hb hk
     go_wp2_with fail
     exact ⟨rfl,out_bad HB.out.1 HB.out.2⟩
   intro x3 S3 v3 w3 hv hk hf
   obtain ⟨p3,c3,q3,d3,rfl,h1,h2⟩ := hv
   clear HF HR
   have HF := hidF <| (hf.tree h2).tree h1
   clear h1 h2
   clear hf
   have HR : Hid (_ = r) := hk
   clear hk
   go_wp2_with fail
   refine hK.out _ _ ⟨fun _ => HF.out.s, ?_⟩
   clear hK K
   try simp only [Act.put,sI,sS,sZ]
   refine twoL (i := 6) (j := 9) (fun K hK => ?_) (fun K hK => ?_)
   · refine op_row HF (el := 27) (xc_rep (HF.out.trep 0 rfl) (HF.out.trep 1 rfl)) (bs24 _ _ _ _ _ _ _ _ _ _ _ _) ?_
     intro wN b9 hN
     clear HF
     have HF := hidF <| hN
     clear hN
     refine hK.out _ _ ⟨fun _ => HF.out.s, ?_⟩
     clear hK K
     try simp only [Act.put,sI,sS,sZ]
     refine pL 7 (.agg #[.int .i64 3,.int .i64 op,.int .i64 0,.int .i64 0,.string ⟨#[]⟩,.string ⟨#[]⟩,.string ⟨#[]⟩,.int .i64 0,.bool false,.int .i64 x2.a,.slice (some ⟨b9,0,none⟩) 1 1,.slice none 0 0]) (HF.out.s) ?_
     try simp only [Act.put,sI,sS,sZ]
     refine twoL (i := 8) (j := 9) (fun K hK => ?_) (fun K hK => ?_)
     · go_wp2_with fail
       refine DoesI.go (HMH.out (opX 3 op false x2.a 1 x3.flat .none) _ _ none 0) (HF.out) (⟨HF.out.trep 0 rfl,Rep.nil none 0⟩) HR.out HN.out ?_ ?_
       · intro a er wN hb hk
         have HB : Hid (r = .bad a er ∧ Kept (On F) w wN) := ⟨hb,hk⟩
         clear hb hk
         go_wp2_with fail
         exact ⟨rfl,out_bad HB.out.1 HB.out.2⟩
       intro x4 S4 v4 w4 hv hk hf
       obtain ⟨p4,c4,q4,d4,rfl,h1,h2⟩ := hv
       clear HF HR
       have HF := hidF <| (hf.tree h2).tree h1
       clear h1 h2
       clear hf
       have HR : Hid (_ = r) := hk
       clear hk
       go_wp2_with fail
       refine hK.out _ _ ⟨fun _ => HF.out.s, ?_⟩
       clear hK K
       try simp only [Act.put,sI,sS,sZ]
       refine onL (j := 9) (fun K hK => ?_)
       refine op_alloc HF al27 ?_
       intro wN b8 hN
       clear HF
       have HF := hidF <| hN
       clear hN
       refine hK.out _ _ ⟨fun _ => HF.out.tl.s, ?_⟩
       clear hK K
       try simp only [Act.put,sI,sS,sZ]
       refine onL (j := 10) (fun K hK => ?_)
       refine op_store HF 0 ?_
       intro wS hS
       clear HF
       have HF := hidF <| hS
       clear hS
       refine hK.out _ _ ⟨fun e => absurd rfl e, ?_⟩
       clear hK K
       try simp only [Act.put,sI,sS,sZ]
       refine doneL ?_
       go_wp2_with fail
       refine DoesI.go (leave_does) (HF.out) (trivial) HR.out HN.out ?_ ?_
       · intro a er wN hb hk
         have HB : Hid (r = .bad a er ∧ Kept (On F) w wN) := ⟨hb,hk⟩
         clear hb hk
         go_wp2_with fail
         exact ⟨rfl,out_bad HB.out.1 HB.out.2⟩
       intro x5 S5 v5 w5 hv hk hf
       cases hv
       clear HF HR
       have HF := hidF <| hf
       clear hf
       have HR : Hid (_ = r) := hk
       clear hk
       go_wp2_with (first | (refine wl_load HF 0 Tryz.underlying27 ?_) | (refine wl_store HF 2 ?_; intro wN hN; clear HF; have HF := hidF <| hN; clear hN))
       refine bodyPost_ret (end_row HF.out 2 rfl rfl rfl Tryz.underlying27 rfl (by kernel_rfl)) rfl ?_
       exact out_ok HR.out.symm HF.out (⟨p4,c4,q4,d4,rfl,HF.out.rep 0 rfl,HF.out.rep 1 rfl⟩)
     · refine op_alloc HF al27 ?_
       intro wN b8 hN
       clear HF
       have HF := hidF <| hN
       clear hN
       refine hK.out _ _ ⟨fun _ => HF.out.tl.s, ?_⟩
       clear hK K
       try simp only [Act.put,sI,sS,sZ]
       refine onL (j := 8) (fun K hK => ?_)
       go_wp2_with fail
       refine DoesI.go (HMH.out (opX 3 op false x2.a 1 x3.flat .none) _ _ none 0) (HF.out) (⟨HF.out.trep 0 rfl,Rep.nil none 0⟩) HR.out HN.out ?_ ?_
       · intro a er wN hb hk
         have HB : Hid (r = .bad a er ∧ Kept (On F) w wN) := ⟨hb,hk⟩
         clear hb hk
         go_wp2_with fail
         exact ⟨rfl,out_bad HB.out.1 HB.out.2⟩
       intro x4 S4 v4 w4 hv hk hf
       obtain ⟨p4,c4,q4,d4,rfl,h1,h2⟩ := hv
       clear HF HR
       have HF := hidF <| (hf.tree h2).tree h1
       clear h1 h2
       clear hf
       have HR : Hid (_ = r) := hk
       clear hk
       go_wp2_with fail
       refine hK.out _ _ ⟨fun _ => HF.out.tl.s, ?_⟩
       clear hK K
       try simp only [Act.put,sI,sS,sZ]
       refine onL (j := 10) (fun K hK => ?_)
       refine op_store HF 0 ?_
       intro wS hS
       clear HF
       have HF := hidF <| hS
       clear hS
       refine hK.out _ _ ⟨fun e => absurd rfl e, ?_⟩
       clear hK K
       try simp only [Act.put,sI,sS,sZ]
       refine doneL ?_
       go_wp2_with fail
       refine DoesI.go (leave_does) (HF.out) (trivial) HR.out HN.out ?_ ?_
       · intro a er wN hb hk
         have HB : Hid (r = .bad a er ∧ Kept (On F) w wN) := ⟨hb,hk⟩
         clear hb hk
         go_wp2_with fail
         exact ⟨rfl,out_bad HB.out.1 HB.out.2⟩
       intro x5 S5 v5 w5 hv hk hf
       cases hv
       clear HF HR
       have HF := hidF <| hf
       clear hf
       have HR : Hid (_ = r) := hk
       clear hk
       go_wp2_with (first | (refine wl_load HF 0 Tryz.underlying27 ?_) | (refine wl_store HF 2 ?_; intro wN hN; clear HF; have HF := hidF <| hN; clear hN))
       refine bodyPost_ret (end_row HF.out 2 rfl rfl rfl Tryz.underlying27 rfl (by kernel_rfl)) rfl ?_
       exact out_ok HR.out.symm HF.out (⟨p4,c4,q4,d4,rfl,HF.out.rep 0 rfl,HF.out.rep 1 rfl⟩)
   · refine op_alloc HF al27 ?_
     intro wN b8 hN
     clear HF
     have HF := hidF <| hN
     clear hN
     refine hK.out _ _ ⟨fun _ => HF.out.tl.s, ?_⟩
     clear hK K
     try simp only [Act.put,sI,sS,sZ]
     refine onL (j := 6) (fun K hK => ?_)
     refine op_row HF (el := 27) (xc_rep (HF.out.trep 0 rfl) (HF.out.trep 1 rfl)) (bs24 _ _ _ _ _ _ _ _ _ _ _ _) ?_
     intro wN b9 hN
     clear HF
     have HF := hidF <| hN
     clear hN
     refine hK.out _ _ ⟨fun _ => HF.out.tl.s, ?_⟩
     clear hK K
     try simp only [Act.put,sI,sS,sZ]
     refine pL 7 (.agg #[.int .i64 3,.int .i64 op,.int .i64 0,.int .i64 0,.string ⟨#[]⟩,.string ⟨#[]⟩,.string ⟨#[]⟩,.int .i64 0,.bool false,.int .i64 x2.a,.slice (some ⟨b9,0,none⟩) 1 1,.slice none 0 0]) (HF.out.tl.s) ?_
     try simp only [Act.put,sI,sS,sZ]
     refine onL (j := 8) (fun K hK => ?_)
     go_wp2_with fail
     refine DoesI.go (HMH.out (opX 3 op false x2.a 1 x3.flat .none) _ _ none 0) (HF.out) (⟨HF.out.trep 0 rfl,Rep.nil none 0⟩) HR.out HN.out ?_ ?_
     · intro a er wN hb hk
       have HB : Hid (r = .bad a er ∧ Kept (On F) w wN) := ⟨hb,hk⟩
       clear hb hk
       go_wp2_with fail
       exact ⟨rfl,out_bad HB.out.1 HB.out.2⟩
     intro x4 S4 v4 w4 hv hk hf
     obtain ⟨p4,c4,q4,d4,rfl,h1,h2⟩ := hv
     clear HF HR
     have HF := hidF <| (hf.tree h2).tree h1
     clear h1 h2
     clear hf
     have HR : Hid (_ = r) := hk
     clear hk
     go_wp2_with fail
     refine hK.out _ _ ⟨fun _ => HF.out.tl.s, ?_⟩
     clear hK K
     try simp only [Act.put,sI,sS,sZ]
     refine onL (j := 10) (fun K hK => ?_)
     refine op_store HF 0 ?_
     intro wS hS
     clear HF
     have HF := hidF <| hS
     clear hS
     refine hK.out _ _ ⟨fun e => absurd rfl e, ?_⟩
     clear hK K
     try simp only [Act.put,sI,sS,sZ]
     refine doneL ?_
     go_wp2_with fail
     refine DoesI.go (leave_does) (HF.out) (trivial) HR.out HN.out ?_ ?_
     · intro a er wN hb hk
       have HB : Hid (r = .bad a er ∧ Kept (On F) w wN) := ⟨hb,hk⟩
       clear hb hk
       go_wp2_with fail
       exact ⟨rfl,out_bad HB.out.1 HB.out.2⟩
     intro x5 S5 v5 w5 hv hk hf
     cases hv
     clear HF HR
     have HF := hidF <| hf
     clear hf
     have HR : Hid (_ = r) := hk
     clear hk
     go_wp2_with (first | (refine wl_load HF 0 Tryz.underlying27 ?_) | (refine wl_store HF 2 ?_; intro wN hN; clear HF; have HF := hidF <| hN; clear hN))
     refine bodyPost_ret (end_row HF.out 2 rfl rfl rfl Tryz.underlying27 rfl (by kernel_rfl)) rfl ?_
     exact out_ok HR.out.symm HF.out (⟨p4,c4,q4,d4,rfl,HF.out.rep 0 rfl,HF.out.rep 1 rfl⟩)
 · refine op_alloc HF al27 ?_
   intro wN b8 hN
   clear HF
   have HF := hidF <| hN
   clear hN
   refine hK.out _ _ ⟨fun _ => HF.out.tl.s, ?_⟩
   clear hK K
   try simp only [Act.put,sI,sS,sZ]
   refine onL (j := 5) (fun K hK => ?_)
   go_wp2_with fail
   refine DoesI.go (HHH.out) (HF.out) (trivial) HR.out HN.out ?_ ?_
   · intro a er wN hb hk
     have HB : Hid (r = .bad a er ∧ Kept (On F) w wN) := ⟨hb,hk⟩
     clear hb hk
     go_wp2_with fail
     exact ⟨rfl,out_bad HB.out.1 HB.out.2⟩
   intro x3 S3 v3 w3 hv hk hf
   obtain ⟨p3,c3,q3,d3,rfl,h1,h2⟩ := hv
   clear HF HR
   have HF := hidF <| (hf.tree h2).tree h1
   clear h1 h2
   clear hf
   have HR : Hid (_ = r) := hk
   clear hk
   go_wp2_with fail
   refine hK.out _ _ ⟨fun _ => HF.out.tl.s, ?_⟩
   clear hK K
   try simp only [Act.put,sI,sS,sZ]
   refine onL (j := 6) (fun K hK => ?_)
   refine op_row HF (el := 27) (xc_rep (HF.out.trep 0 rfl) (HF.out.trep 1 rfl)) (bs24 _ _ _ _ _ _ _ _ _ _ _ _) ?_
   intro wN b9 hN
   clear HF
   have HF := hidF <| hN
   clear hN
   refine hK.out _ _ ⟨fun _ => HF.out.tl.s, ?_⟩
   clear hK K
   try simp only [Act.put,sI,sS,sZ]
   refine pL 7 (.agg #[.int .i64 3,.int .i64 op,.int .i64 0,.int .i64 0,.string ⟨#[]⟩,.string ⟨#[]⟩,.string ⟨#[]⟩,.int .i64 0,.bool false,.int .i64 x2.a,.slice (some ⟨b9,0,none⟩) 1 1,.slice none 0 0]) (HF.out.tl.s) ?_
   try simp only [Act.put,sI,sS,sZ]
   refine onL (j := 8) (fun K hK => ?_)
   go_wp2_with fail
   refine DoesI.go (HMH.out (opX 3 op false x2.a 1 x3.flat .none) _ _ none 0) (HF.out) (⟨HF.out.trep 0 rfl,Rep.nil none 0⟩) HR.out HN.out ?_ ?_
   · intro a er wN hb hk
     have HB : Hid (r = .bad a er ∧ Kept (On F) w wN) := ⟨hb,hk⟩
     clear hb hk
     go_wp2_with fail
     exact ⟨rfl,out_bad HB.out.1 HB.out.2⟩
   intro x4 S4 v4 w4 hv hk hf
   obtain ⟨p4,c4,q4,d4,rfl,h1,h2⟩ := hv
   clear HF HR
   have HF := hidF <| (hf.tree h2).tree h1
   clear h1 h2
   clear hf
   have HR : Hid (_ = r) := hk
   clear hk
   go_wp2_with fail
   refine hK.out _ _ ⟨fun _ => HF.out.tl.s, ?_⟩
   clear hK K
   try simp only [Act.put,sI,sS,sZ]
   refine onL (j := 10) (fun K hK => ?_)
   refine op_store HF 0 ?_
   intro wS hS
   clear HF
   have HF := hidF <| hS
   clear hS
   refine hK.out _ _ ⟨fun e => absurd rfl e, ?_⟩
   clear hK K
   try simp only [Act.put,sI,sS,sZ]
   refine doneL ?_
   go_wp2_with fail
   refine DoesI.go (leave_does) (HF.out) (trivial) HR.out HN.out ?_ ?_
   · intro a er wN hb hk
     have HB : Hid (r = .bad a er ∧ Kept (On F) w wN) := ⟨hb,hk⟩
     clear hb hk
     go_wp2_with fail
     exact ⟨rfl,out_bad HB.out.1 HB.out.2⟩
   intro x5 S5 v5 w5 hv hk hf
   cases hv
   clear HF HR
   have HF := hidF <| hf
   clear hf
   have HR : Hid (_ = r) := hk
   clear hk
   go_wp2_with (first | (refine wl_load HF 0 Tryz.underlying27 ?_) | (refine wl_store HF 2 ?_; intro wN hN; clear HF; have HF := hidF <| hN; clear hN))
   refine bodyPost_ret (end_row HF.out 2 rfl rfl rfl Tryz.underlying27 rfl (by kernel_rfl)) rfl ?_
   exact out_ok HR.out.symm HF.out (⟨p4,c4,q4,d4,rfl,HF.out.rep 0 rfl,HF.out.rep 1 rfl⟩)
end Go.Proofs.YtlgkghebemfpjaaGreatDoor.Pa
