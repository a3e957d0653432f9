/- atom. -/
import Derived.Test.YtlgkghebemfpjaaGreatDoorQRw
import Derived.Test.YtlgkghebemfpjaaGreatDoorQD1
namespace Go.Proofs.YtlgkghebemfpjaaGreatDoor.Pa
open Go.ChangeShapes Go.WideShapes Go.ChangeAt Go.RowKit
set_option linter.unusedVariables false
set_option linter.unusedSimpArgs false
set_option maxRecDepth 100000
set_option maxHeartbeats 4000000 in
theorem atom_does (E : PM X) (Q : PM Qy) (f : Nat) (HN0 : DoesI (fun _ _ S => S.hd.k ≠ 0) XR 197 (fun F => #[ptr F]) (namedM E f)) (HS0 : Does XR 198 (fun F => #[ptr F]) (nestedM E Q)) (HK0 : Does XR 199 (fun F => #[ptr F]) (keyAtomM E Q f)) : Does XR 188 (fun F => #[ptr F]) (atomM E Q f) := by
 intro w F A S hp hA hF hpre hn
 have HF : Hid (FR w F A [] [] S w) := FR.init [] hp hA hF (fun y h => (by cases h))
 obtain ⟨r,hr⟩ : ∃ r,(atomM E Q f) S = r := ⟨_,rfl⟩
 have HR : Hid ((atomM E Q f) S = r) := hr
 rw [hr] at hn ⊢
 have HN : Hid (r ≠ .out) := hn
 clear hp hA hF hr hn
 have HNH : Hid (DoesI (fun _ _ S => S.hd.k ≠ 0) XR 197 (fun F => #[ptr F]) (namedM E f)) := HN0
 have HSH : Hid (Does XR 198 (fun F => #[ptr F]) (nestedM E Q)) := HS0
 have HKH : Hid (Does XR 199 (fun F => #[ptr F]) (keyAtomM E Q f)) := HK0
 clear HN0 HS0 HK0
 go_enter Tryz.func188,Tryz.ntmps188
 go_wp2_with (first | (refine wl_alloc HF al27 ?_; intro wN b2 hN; clear HF; have HF := hidF <| hN; clear hN))
 refine Calls.mono (next_is _ _ _ HF.out.pa) ?_; rintro e wQ ⟨rfl,kQ⟩
 have HF := hidF <| (HF.out).call (kQ.mono (fun i q => q.elim)) ((HF.out).pa.same kQ)
 clear kQ
 by_cases h3 : S.hd.k = 3
 · replace HR : Hid (((takeM.then fun t => PM.ret (litX t.a 1 S.hd.n []))) S = r) := by have h := HR.out; unfold atomM at h; rw [if_pos h3] at h; exact h
   have HK : Hid (S.hd.k ≠ 0) := by show _ ≠ _; omega
   go_wp2_with (first | (refine wl_alloc HF al40 ?_; intro wN b3 hN; clear HF; have HF := hidF <| hN; clear hN) | (refine wl_store HF 0 ?_; intro wN hN; clear HF; have HF := hidF <| hN; clear hN) | (refine wl_load1 HF 0 lv3 ?_))
   have HF := hidF <| (HF.out).drew
   refine region_L (k := 7) (S := SFR w F A [(b3,40,#[.int .i64 3,.string ⟨S.hd.t.toArray⟩,.int .i64 S.hd.n,.int .i64 S.hd.a]),(b2,27,#[.int .i64 0,.int .i64 0,.int .i64 0,.int .i64 0,.string ⟨#[]⟩,.string ⟨#[]⟩,.string ⟨#[]⟩,.int .i64 0,.bool false,.int .i64 0,.slice none 0 0,.slice none 0 0])]) (by kernel_rfl) ?_
   simp only [List.size_toArray,List.length_cons,List.length_nil,Nat.zero_add,Nat.reduceAdd,Array.replicate]
   refine pL 0 (ptr F) HF.out.s ?_
   try simp only [Act.put,sI,sS,sZ]
   refine pL 3 (.pointer (some ⟨b3,2,none⟩)) HF.out.s ?_
   try simp only [Act.put,sI,sS,sZ]
   refine fL 4 0 lv3 HF ?_
   try simp only [Act.put,sI,sS,sZ]
   refine pL 5 (.agg #[.int .i64 1,.int .i64 S.hd.n,.string ⟨#[]⟩]) HF.out.s ?_
   try simp only [Act.put,sI,sS,sZ]
   refine onL (j := 1) (fun K hK => ?_)
   go_wp2_with fail
   refine DoesI.go (take_does) (HF.out) (HK.out) HR.out HN.out ?_ ?_
   · intro a er wN hb hk
     have HB : Hid (r = .bad a er ∧ Kept (On F) w wN) := ⟨hb,hk⟩
     clear hb hk
     go_wp2_with fail
     exact ⟨rfl,out_bad HB.out.1 HB.out.2⟩
   intro x1 S1 v1 w1 hv hk hf
   cases hv
   clear HF HR
   have HF := hidF <| hf
   clear hf
   have HR : Hid (_ = r) := hk
   clear hk
   go_wp2_with fail
   refine hK.out _ _ ⟨fun _ => HF.out.s, ?_⟩
   clear hK K
   try simp only [Act.put,sI,sS,sZ]
   refine pL 2 (.int .i64 x1.a) HF.out.s ?_
   try simp only [Act.put,sI,sS,sZ]
   refine onL (j := 6) (fun K hK => ?_)
   go_wp2_with fail
   refine Calls.mono (literal_is x1.a 1 S.hd.n [] _) ?_; rintro e wQ ⟨rfl,kQ⟩
   replace HF : Hid (FR _ _ _ _ _ _ _) := HF.out.call (kQ.mono (fun i q => q.elim)) (HF.out.pa.same kQ)
   clear kQ
   go_wp2_with fail
   refine hK.out _ _ ⟨fun _ => HF.out.s, ?_⟩
   clear hK K
   try simp only [Act.put,sI,sS,sZ]
   refine onL (j := 7) (fun K hK => ?_)
   refine op_store HF 1 ?_
   intro wS hS
   clear HF
   have HF := hidF <| hS
   clear hS
   refine hK.out _ _ ⟨fun e => absurd rfl e, ?_⟩
   clear hK K
   try simp only [Act.put,sI,sS,sZ]
   refine doneL ?_
   (try simp only [List.getElem_toArray,List.getElem_cons_succ,List.getElem_cons_zero])
   go_wp2_with fail
   refine bodyPost_ret (end_row HF.out 1 rfl rfl rfl Tryz.underlying27 rfl (by kernel_rfl)) rfl ?_
   exact out_ok HR.out.symm HF.out (⟨none,0,none,0,rfl,Rep.nil none 0,Rep.nil none 0⟩)
 by_cases h4 : S.hd.k = 4
 · replace HR : Hid (((takeM.then fun t => PM.ret (litX t.a 2 0 S.hd.t))) S = r) := by have h := HR.out; unfold atomM at h; rw [if_neg h3,if_pos h4] at h; exact h
   have HK : Hid (S.hd.k ≠ 0) := by show _ ≠ _; omega
   go_wp2_with (first | (refine wl_alloc HF al40 ?_; intro wN b3 hN; clear HF; have HF := hidF <| hN; clear hN) | (refine wl_store HF 0 ?_; intro wN hN; clear HF; have HF := hidF <| hN; clear hN) | (refine wl_load1 HF 0 lv3 ?_))
   have HF := hidF <| (HF.out).drew
   refine region_L (k := 7) (S := SFR w F A [(b3,40,#[.int .i64 4,.string ⟨S.hd.t.toArray⟩,.int .i64 S.hd.n,.int .i64 S.hd.a]),(b2,27,#[.int .i64 0,.int .i64 0,.int .i64 0,.int .i64 0,.string ⟨#[]⟩,.string ⟨#[]⟩,.string ⟨#[]⟩,.int .i64 0,.bool false,.int .i64 0,.slice none 0 0,.slice none 0 0])]) (by kernel_rfl) ?_
   simp only [List.size_toArray,List.length_cons,List.length_nil,Nat.zero_add,Nat.reduceAdd,Array.replicate]
   refine pL 0 (ptr F) HF.out.s ?_
   try simp only [Act.put,sI,sS,sZ]
   refine pL 3 (.pointer (some ⟨b3,1,none⟩)) HF.out.s ?_
   try simp only [Act.put,sI,sS,sZ]
   refine fL 4 0 lv9 HF ?_
   try simp only [Act.put,sI,sS,sZ]
   refine pL 5 (.agg #[.int .i64 2,.int .i64 0,.string ⟨S.hd.t.toArray⟩]) HF.out.s ?_
   try simp only [Act.put,sI,sS,sZ]
   refine onL (j := 1) (fun K hK => ?_)
   go_wp2_with fail
   refine DoesI.go (take_does) (HF.out) (HK.out) HR.out HN.out ?_ ?_
   · intro a er wN hb hk
     have HB : Hid (r = .bad a er ∧ Kept (On F) w wN) := ⟨hb,hk⟩
     clear hb hk
     go_wp2_with fail
     exact ⟨rfl,out_bad HB.out.1 HB.out.2⟩
   intro x1 S1 v1 w1 hv hk hf
   cases hv
   clear HF HR
   have HF := hidF <| hf
   clear hf
   have HR : Hid (_ = r) := hk
   clear hk
   go_wp2_with fail
   refine hK.out _ _ ⟨fun _ => HF.out.s, ?_⟩
   clear hK K
   try simp only [Act.put,sI,sS,sZ]
   refine pL 2 (.int .i64 x1.a) HF.out.s ?_
   try simp only [Act.put,sI,sS,sZ]
   refine onL (j := 6) (fun K hK => ?_)
   go_wp2_with fail
   refine Calls.mono (literal_is x1.a 2 0 S.hd.t _) ?_; rintro e wQ ⟨rfl,kQ⟩
   replace HF : Hid (FR _ _ _ _ _ _ _) := HF.out.call (kQ.mono (fun i q => q.elim)) (HF.out.pa.same kQ)
   clear kQ
   go_wp2_with fail
   refine hK.out _ _ ⟨fun _ => HF.out.s, ?_⟩
   clear hK K
   try simp only [Act.put,sI,sS,sZ]
   refine onL (j := 7) (fun K hK => ?_)
   refine op_store HF 1 ?_
   intro wS hS
   clear HF
   have HF := hidF <| hS
   clear hS
   refine hK.out _ _ ⟨fun e => absurd rfl e, ?_⟩
   clear hK K
   try simp only [Act.put,sI,sS,sZ]
   refine doneL ?_
   (try simp only [List.getElem_toArray,List.getElem_cons_succ,List.getElem_cons_zero])
   go_wp2_with fail
   refine bodyPost_ret (end_row HF.out 1 rfl rfl rfl Tryz.underlying27 rfl (by kernel_rfl)) rfl ?_
   exact out_ok HR.out.symm HF.out (⟨none,0,none,0,rfl,Rep.nil none 0,Rep.nil none 0⟩)
 by_cases h1 : S.hd.k = 1
 · replace HR : Hid ((namedM E f) S = r) := by have h := HR.out; unfold atomM at h; rw [if_neg h3,if_neg h4,if_pos h1] at h; exact h
   have HK : Hid (S.hd.k ≠ 0) := by show _ ≠ _; omega
   go_wp2_with (first | (refine wl_alloc HF al40 ?_; intro wN b3 hN; clear HF; have HF := hidF <| hN; clear hN) | (refine wl_store HF 0 ?_; intro wN hN; clear HF; have HF := hidF <| hN; clear hN) | (refine wl_load1 HF 0 lv3 ?_))
   refine DoesI.go (k := PM.ret) (HNH.out) (HF.out) (HK.out) (by rw [PM.then_ret]; exact HR.out) HN.out ?_ ?_
   · intro a er wN hb hk
     have HB : Hid (r = .bad a er ∧ Kept (On F) w wN) := ⟨hb,hk⟩
     clear hb hk
     go_wp2_with fail
     exact ⟨rfl,out_bad HB.out.1 HB.out.2⟩
   intro x1 S1 v1 w1 hv hk hf
   obtain ⟨p1,c1,q1,d1,rfl,h1,h2⟩ := hv
   clear HF HR
   have HF := hidF <| (hf.tree h2).tree h1
   clear h1 h2
   clear hf
   have HR : Hid (_ = r) := hk
   clear hk
   go_wp2_with (first | (refine wl_store HF 1 ?_; intro wN hN; clear HF; have HF := hidF <| hN; clear hN))
   refine bodyPost_ret (end_row HF.out 1 rfl rfl rfl Tryz.underlying27 rfl (by kernel_rfl)) rfl ?_
   exact out_ok HR.out.symm HF.out (⟨p1,c1,q1,d1,rfl,HF.out.rep 0 rfl,HF.out.rep 1 rfl⟩)
 by_cases h5 : S.hd.k = 5
 · replace HR : Hid ((nestedM E Q) S = r) := by have h := HR.out; unfold atomM at h; rw [if_neg h3,if_neg h4,if_neg h1,if_pos h5] at h; exact h
   have HK : Hid (S.hd.k ≠ 0) := by show _ ≠ _; omega
   go_wp2_with (first | (refine wl_alloc HF al40 ?_; intro wN b3 hN; clear HF; have HF := hidF <| hN; clear hN) | (refine wl_store HF 0 ?_; intro wN hN; clear HF; have HF := hidF <| hN; clear hN) | (refine wl_load1 HF 0 lv3 ?_))
   refine DoesI.go (k := PM.ret) (HSH.out) (HF.out) (trivial) (by rw [PM.then_ret]; exact HR.out) HN.out ?_ ?_
   · intro a er wN hb hk
     have HB : Hid (r = .bad a er ∧ Kept (On F) w wN) := ⟨hb,hk⟩
     clear hb hk
     go_wp2_with fail
     exact ⟨rfl,out_bad HB.out.1 HB.out.2⟩
   intro x1 S1 v1 w1 hv hk hf
   obtain ⟨p1,c1,q1,d1,rfl,h1,h2⟩ := hv
   clear HF HR
   have HF := hidF <| (hf.tree h2).tree h1
   clear h1 h2
   clear hf
   have HR : Hid (_ = r) := hk
   clear hk
   go_wp2_with (first | (refine wl_store HF 1 ?_; intro wN hN; clear HF; have HF := hidF <| hN; clear hN))
   refine bodyPost_ret (end_row HF.out 1 rfl rfl rfl Tryz.underlying27 rfl (by kernel_rfl)) rfl ?_
   exact out_ok HR.out.symm HF.out (⟨p1,c1,q1,d1,rfl,HF.out.rep 0 rfl,HF.out.rep 1 rfl⟩)
 replace HR : Hid ((keyAtomM E Q f) S = r) := by have h := HR.out; unfold atomM at h; rw [if_neg h3,if_neg h4,if_neg h1,if_neg h5] at h; exact h
 go_wp2_with (first | (refine wl_alloc HF al40 ?_; intro wN b3 hN; clear HF; have HF := hidF <| hN; clear hN) | (refine wl_store HF 0 ?_; intro wN hN; clear HF; have HF := hidF <| hN; clear hN) | (refine wl_load1 HF 0 lv3 ?_))
 refine DoesI.go (k := PM.ret) (HKH.out) (HF.out) (trivial) (by rw [PM.then_ret]; exact HR.out) HN.out ?_ ?_
 · intro a er wN hb hk
   have HB : Hid (r = .bad a er ∧ Kept (On F) w wN) := ⟨hb,hk⟩
   clear hb hk
   go_wp2_with fail
   exact ⟨rfl,out_bad HB.out.1 HB.out.2⟩
 intro x1 S1 v1 w1 hv hk hf
 obtain ⟨p1,c1,q1,d1,rfl,h1,h2⟩ := hv
 clear HF HR
 have HF := hidF <| (hf.tree h2).tree h1
 clear h1 h2
 clear hf
 have HR : Hid (_ = r) := hk
 clear hk
 go_wp2_with (first | (refine wl_store HF 1 ?_; intro wN hN; clear HF; have HF := hidF <| hN; clear hN))
 refine bodyPost_ret (end_row HF.out 1 rfl rfl rfl Tryz.underlying27 rfl (by kernel_rfl)) rfl ?_
 exact out_ok HR.out.symm HF.out (⟨p1,c1,q1,d1,rfl,HF.out.rep 0 rfl,HF.out.rep 1 rfl⟩)
end Go.Proofs.YtlgkghebemfpjaaGreatDoor.Pa
