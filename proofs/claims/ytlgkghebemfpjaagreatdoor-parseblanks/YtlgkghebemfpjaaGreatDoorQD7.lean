/- named. keyAtom. -/
import Derived.Test.YtlgkghebemfpjaaGreatDoorQRw
import Derived.Test.YtlgkghebemfpjaaGreatDoorQD1
namespace Go.Proofs.YtlgkghebemfpjaaGreatDoor.Pa
open Go.ChangeShapes Go.WideShapes Go.ChangeAt Go.RowKit
set_option linter.unusedVariables false
set_option linter.unusedSimpArgs false
set_option maxRecDepth 100000
theorem named_yes {E : PM X} {f : Nat} {S : PS} (h : isT (tail1 S) [40] = true) : namedM E f S = callM E f S := if_pos h
theorem named_no {E : PM X} {f : Nat} {S : PS} (h : isT (tail1 S) [40] = false) : namedM E f S = (takeM.then fun t => (skipM [46]).then fun b => if b then (kindM 1).then fun u => PM.ret (colX t.a t.t u.t) else PM.ret (colX t.a [] t.t)) S := if_neg (by simp [h])
set_option maxHeartbeats 4000000 in
theorem named_does (E : PM X) (f : Nat) (HC : DoesI (fun _ _ S => S.hd.k ≠ 0) XR 202 (fun F => #[ptr F]) (callM E f)) : DoesI (fun _ _ S => S.hd.k ≠ 0) XR 197 (fun F => #[ptr F]) (namedM E f) := by
 intro w F A S hp hA hF hpre hn
 have HF : Hid (FR w F A [] [] S w) := FR.init [] hp hA hF (fun y h => (by cases h))
 obtain ⟨r,hr⟩ : ∃ r,(namedM E f) S = r := ⟨_,rfl⟩
 have HR : Hid ((namedM E f) S = r) := hr
 rw [hr] at hn ⊢
 have HN : Hid (r ≠ .out) := hn
 clear hp hA hF hr hn
 have HCH : Hid (DoesI (fun _ _ S => S.hd.k ≠ 0) XR 202 (fun F => #[ptr F]) (callM E f)) := HC
 have HK : Hid (S.hd.k ≠ 0) := hpre
 clear HC hpre
 have hF0 : F < w.heap.size := HF.out.fl
 obtain ⟨T,o,cap,hpt⟩ := HF.out.pa
 have c0 := hpt.bx.cs 0 _ rfl
 have hlT := hpt.lt
 obtain ⟨hT2,hlen⟩ := hpt.second HK.out
 have hlen : (1 : Int) < (S.ts.length : Int) := by omega
 have hT0 : T < w.heap.size := by omega
 have d0 := hT2.c0
 have d1 := hT2.c1
 have d2 := hT2.c2
 have d3 := hT2.c3
 clear hT2 hpt hlT
 go_enter Tryz.func197,Tryz.ntmps197
 go_wp2_with fail
 refine Calls.mono (is_is (tail1 S) [40] _) ?_; rintro e wQ ⟨rfl,kQ⟩
 have HF1 : Hid (FR w F A _ _ S wQ) := (HF.out.alloc _ _).call (kQ.mono (fun i q => q.elim)) ((HF.out.alloc _ _).pa.same kQ)
 clear kQ HF c0 d0 d1 d2 d3 hlen hT0 hF0
 have HF : Hid (FR w F A [(w.heap.size,27,#[.int .i64 0,.int .i64 0,.int .i64 0,.int .i64 0,.string ⟨#[]⟩,.string ⟨#[]⟩,.string ⟨#[]⟩,.int .i64 0,.bool false,.int .i64 0,.slice none 0 0,.slice none 0 0])] [] S wQ) := HF1.out
 clear HF1
 obtain ⟨b2,hb2⟩ : ∃ b,w.heap.size = b := ⟨_,rfl⟩
 rw [hb2] at HF ⊢
 clear hb2
 obtain ⟨bq,hbq⟩ : ∃ b,isT (tail1 S) [40] = b := ⟨_,rfl⟩
 rw [hbq]
 have HBQ : Hid (isT (tail1 S) [40] = bq) := hbq
 clear hbq
 cases bq with
 | true =>
   replace HR : Hid (callM E f S = r) := by have h := HR.out; rw [named_yes HBQ.out] at h; exact h
   go_wp2_with fail
   refine DoesI.go (k := PM.ret) (HCH.out) (HF.out) (HK.out) (by rw [PM.then_ret]; exact HR.out) HN.out ?_ ?_
   · intro a er wN hb hk
     have HB : Hid (r = .bad a er ∧ Kept (On F) w wN) := ⟨hb,hk⟩
     clear hb hk
     go_wp2_with fail
     exact ⟨rfl,out_bad HB.out.1 HB.out.2⟩
   intro x1 S1 v1 w1 hv hk hf
   obtain ⟨p1,c1,q1,d1,rfl,h1,h2⟩ := hv
   clear HF HR
   have HF := hidF <| (hf.tree h2).tree h1
   clear h1 h2
   clear hf
   have HR : Hid (_ = r) := hk
   clear hk
   go_wp2_with (first | (refine wl_store HF 0 ?_; intro wN hN; clear HF; have HF := hidF <| hN; clear hN))
   refine bodyPost_ret (end_row HF.out 0 rfl rfl rfl Tryz.underlying27 rfl (by kernel_rfl)) rfl ?_
   exact out_ok HR.out.symm HF.out (⟨p1,c1,q1,d1,rfl,HF.out.rep 0 rfl,HF.out.rep 1 rfl⟩)
 | false =>
   replace HR : Hid ((takeM.then fun t => (skipM [46]).then fun b => if b then (kindM 1).then fun u => PM.ret (colX t.a t.t u.t) else PM.ret (colX t.a [] t.t)) S = r) := by have h := HR.out; rw [named_no HBQ.out] at h; exact h
   go_wp2_with fail
   refine DoesI.go (take_does) (HF.out) (HK.out) HR.out HN.out ?_ ?_
   · intro a er wN hb hk
     have HB : Hid (r = .bad a er ∧ Kept (On F) w wN) := ⟨hb,hk⟩
     clear hb hk
     go_wp2_with fail
     exact ⟨rfl,out_bad HB.out.1 HB.out.2⟩
   intro x1 S1 v1 w1 hv hk hf
   cases hv
   clear HF HR
   have HF := hidF <| hf
   clear hf
   have HR : Hid (_ = r) := hk
   clear hk
   go_wp2_with (first | (refine wl_alloc HF al40 ?_; intro wN b3 hN; clear HF; have HF := hidF <| hN; clear hN) | (refine wl_store HF 0 ?_; intro wN hN; clear HF; have HF := hidF <| hN; clear hN) | (refine wl_load1 HF 0 lv9 ?_) | (refine wl_load1 HF 0 lv3 ?_) | (refine wl_alloc HF al27 ?_; intro wN b4 hN; clear HF; have HF := hidF <| hN; clear hN))
   refine DoesI.go (skip_does [46]) (HF.out) (trivial) HR.out HN.out ?_ ?_
   · intro a er wN hb hk
     have HB : Hid (r = .bad a er ∧ Kept (On F) w wN) := ⟨hb,hk⟩
     clear hb hk
     go_wp2_with fail
     exact ⟨rfl,out_bad HB.out.1 HB.out.2⟩
   intro x2 S2 v2 w2 hv hk hf
   cases hv
   clear HF HR
   have HF := hidF <| hf
   clear hf
   have HR : Hid (_ = r) := hk
   clear hk
   replace HF : Hid (FR w F A [(b4,27,#[.int .i64 2,.int .i64 0,.int .i64 0,.int .i64 0,.string ⟨#[]⟩,.string ⟨#[]⟩,.string ⟨x1.t.toArray⟩,.int .i64 0,.bool false,.int .i64 x1.a,.slice none 0 0,.slice none 0 0]),(b3,40,#[.int .i64 x1.k,.string ⟨x1.t.toArray⟩,.int .i64 x1.n,.int .i64 x1.a]),(b2,27,#[.int .i64 0,.int .i64 0,.int .i64 0,.int .i64 0,.string ⟨#[]⟩,.string ⟨#[]⟩,.string ⟨#[]⟩,.int .i64 0,.bool false,.int .i64 0,.slice none 0 0,.slice none 0 0])] [] S2 w2) := HF.out
   cases x2 with
   | false =>
     replace HR : Hid ((PM.ret (colX x1.a [] x1.t) S2) = r) := HR.out
     go_wp2_with (first | (refine wl_load HF 0 Tryz.underlying27 ?_) | (refine wl_store HF 2 ?_; intro wN hN; clear HF; have HF := hidF <| hN; clear hN))
     refine bodyPost_ret (end_row HF.out 2 rfl rfl rfl Tryz.underlying27 rfl (by kernel_rfl)) rfl ?_
     exact out_ok HR.out.symm HF.out (⟨none,0,none,0,rfl,Rep.nil none 0,Rep.nil none 0⟩)
   | true =>
     replace HR : Hid ((((kindM 1).then fun u => PM.ret (colX x1.a x1.t u.t)) S2) = r) := HR.out
     go_wp2_with fail
     replace HF : Hid (FR _ _ _ _ _ _ _) := HF.out.drew
     have hc6 := HF.out.cell 0 rfl 6
     refine region_L (k := 8) (S := (fun w' : World => w'.cell? ⟨b4,6,none⟩ = some (.string ⟨x1.t.toArray⟩))) (by kernel_rfl) ?_
     simp only [List.size_toArray,List.length_cons,List.length_nil,Nat.zero_add,Nat.reduceAdd,Array.replicate]
     refine pL 0 (.pointer (some ⟨b4,6,none⟩)) hc6 ?_
     try simp only [Act.put,sI,sS,sZ]
     refine cL 1 lv9 hc6 (fun w q => q) ?_
     try simp only [Act.put,sI,sS,sZ]
     refine pL 2 (ptr F) hc6 ?_
     try simp only [Act.put,sI,sS,sZ]
     refine pL 5 (.pointer (some ⟨b4,5,none⟩)) hc6 ?_
     try simp only [Act.put,sI,sS,sZ]
     refine onL (j := 3) (fun K hK => ?_)
     go_wp2_with fail
     refine DoesI.go (kind_does 1 (by decide)) (HF.out) (trivial) HR.out HN.out ?_ ?_
     · intro a er wN hb hk
       have HB : Hid (r = .bad a er ∧ Kept (On F) w wN) := ⟨hb,hk⟩
       clear hb hk
       go_wp2_with fail
       exact ⟨rfl,out_bad HB.out.1 HB.out.2⟩
     intro x3 S3 v3 w3 hv hk hf
     cases hv
     clear HF HR
     have HF := hidF <| hf
     clear hf
     have HR : Hid (_ = r) := hk
     clear hk
     clear hc6
     go_wp2_with fail
     have hc6 := HF.out.cell 0 rfl 6
     refine hK.out _ _ ⟨fun _ => hc6, ?_⟩
     clear hK K
     try simp only [Act.put,sI,sS,sZ]
     refine pL 4 (.string ⟨x3.t.toArray⟩) hc6 ?_
     try simp only [Act.put,sI,sS,sZ]
     refine onL (j := 6) (fun K hK => ?_)
     refine op_store1 HF 0 sv9 ?_
     intro wS hS
     clear HF hc6
     have HF : Hid (FR w F A [(b4,27,#[.int .i64 2,.int .i64 0,.int .i64 0,.int .i64 0,.string ⟨#[]⟩,.string ⟨x1.t.toArray⟩,.string ⟨x1.t.toArray⟩,.int .i64 0,.bool false,.int .i64 x1.a,.slice none 0 0,.slice none 0 0]),(b3,40,#[.int .i64 x1.k,.string ⟨x1.t.toArray⟩,.int .i64 x1.n,.int .i64 x1.a]),(b2,27,#[.int .i64 0,.int .i64 0,.int .i64 0,.int .i64 0,.string ⟨#[]⟩,.string ⟨#[]⟩,.string ⟨#[]⟩,.int .i64 0,.bool false,.int .i64 0,.slice none 0 0,.slice none 0 0])] [] S3 wS) := hS
     clear hS
     have hc6 := HF.out.cell 0 rfl 6
     refine hK.out _ _ ⟨fun _ => hc6, ?_⟩
     clear hK K
     try simp only [Act.put,sI,sS,sZ]
     refine pL 7 (.pointer (some ⟨b4,6,none⟩)) hc6 ?_
     try simp only [Act.put,sI,sS,sZ]
     refine onL (j := 8) (fun K hK => ?_)
     refine op_store1 HF 0 sv9 ?_
     intro wS hS
     clear HF hc6
     have HF : Hid (FR w F A [(b4,27,#[.int .i64 2,.int .i64 0,.int .i64 0,.int .i64 0,.string ⟨#[]⟩,.string ⟨x1.t.toArray⟩,.string ⟨x3.t.toArray⟩,.int .i64 0,.bool false,.int .i64 x1.a,.slice none 0 0,.slice none 0 0]),(b3,40,#[.int .i64 x1.k,.string ⟨x1.t.toArray⟩,.int .i64 x1.n,.int .i64 x1.a]),(b2,27,#[.int .i64 0,.int .i64 0,.int .i64 0,.int .i64 0,.string ⟨#[]⟩,.string ⟨#[]⟩,.string ⟨#[]⟩,.int .i64 0,.bool false,.int .i64 0,.slice none 0 0,.slice none 0 0])] [] S3 wS) := hS
     clear hS
     refine hK.out _ _ ⟨fun e => absurd rfl e, ?_⟩
     clear hK K
     try simp only [Act.put,sI,sS,sZ]
     refine doneL ?_
     (try simp only [List.getElem_toArray,List.getElem_cons_succ,List.getElem_cons_zero])
     go_wp2_with (first | (refine wl_load HF 0 Tryz.underlying27 ?_) | (refine wl_store HF 2 ?_; intro wN hN; clear HF; have HF := hidF <| hN; clear hN))
     refine bodyPost_ret (end_row HF.out 2 rfl rfl rfl Tryz.underlying27 rfl (by kernel_rfl)) rfl ?_
     exact out_ok HR.out.symm HF.out (⟨none,0,none,0,rfl,Rep.nil none 0,Rep.nil none 0⟩)
set_option maxHeartbeats 4000000 in
theorem keyAtom_does (E : PM X) (Q : PM Qy) (f : Nat) (HC0 : ∀ a,Does XR 203 (fun F => #[ptr F,.int .i64 a]) (choiceM E f a)) (HE0 : ∀ a,Does XR 204 (fun F => #[ptr F,.int .i64 a]) (existsM Q a)) : Does XR 199 (fun F => #[ptr F]) (keyAtomM E Q f) := by
 intro w F A S hp hA hF hpre hn
 have HF : Hid (FR w F A [] [] S w) := FR.init [] hp hA hF (fun y h => (by cases h))
 obtain ⟨r,hr⟩ : ∃ r,(keyAtomM E Q f) S = r := ⟨_,rfl⟩
 have HR : Hid ((keyAtomM E Q f) S = r) := hr
 rw [hr] at hn ⊢
 have HN : Hid (r ≠ .out) := hn
 clear hp hA hF hr hn
 have hfd := @fd3
 have HCH : Hid (∀ a,Does XR 203 (fun F => #[ptr F,.int .i64 a]) (choiceM E f a)) := HC0
 have HEH : Hid (∀ a,Does XR 204 (fun F => #[ptr F,.int .i64 a]) (existsM Q a)) := HE0
 clear HC0 HE0
 go_enter Tryz.func199,Tryz.ntmps199
 replace HR : Hid ((((skipM [84,82,85,69]).then fun b => if b then PM.ret (litX S.hd.a 3 1 []) else (skipM [70,65,76,83,69]).then fun b => if b then PM.ret (litX S.hd.a 3 0 []) else (skipM [78,85,76,76]).then fun b => if b then PM.ret (litX S.hd.a 0 0 []) else (skipM [67,65,83,69]).then fun b => if b then choiceM E f S.hd.a else (skipM [69,88,73,83,84,83]).then fun b => if b then existsM Q S.hd.a else refuseM) S) = r) := HR.out
 go_wp2_with (first | (refine wl_alloc HF al27 ?_; intro wN b2 hN; clear HF; have HF := hidF <| hN; clear hN))
 refine Calls.mono (next_is _ _ _ HF.out.pa) ?_; rintro e wQ ⟨rfl,kQ⟩
 have HF := hidF <| (HF.out).call (kQ.mono (fun i q => q.elim)) ((HF.out).pa.same kQ)
 clear kQ
 go_wp2_with fail
 refine DoesI.go (skip_does [84,82,85,69]) (HF.out) (trivial) HR.out HN.out ?_ ?_
 · intro a er wN hb hk
   have HB : Hid (r = .bad a er ∧ Kept (On F) w wN) := ⟨hb,hk⟩
   clear hb hk
   go_wp2_with fail
   exact ⟨rfl,out_bad HB.out.1 HB.out.2⟩
 intro x1 S1 v1 w1 hv hk hf
 cases hv
 clear HF HR
 have HF := hidF <| hf
 clear hf
 have HR : Hid (_ = r) := hk
 clear hk
 cases x1 with
 | true =>
   replace HR : Hid ((PM.ret (litX S.hd.a 3 1 []) S1) = r) := HR.out
   go_wp2_with fail
   refine Calls.mono (literal_is S.hd.a 3 1 [] _) ?_; rintro e wQ ⟨rfl,kQ⟩
   replace HF : Hid (FR _ _ _ _ _ _ _) := HF.out.call (kQ.mono (fun i q => q.elim)) (HF.out.pa.same kQ)
   clear kQ
   go_wp2_with (first | (refine wl_store HF 0 ?_; intro wN hN; clear HF; have HF := hidF <| hN; clear hN))
   refine bodyPost_ret (end_row HF.out 0 rfl rfl rfl Tryz.underlying27 rfl (by kernel_rfl)) rfl ?_
   exact out_ok HR.out.symm HF.out (⟨none,0,none,0,rfl,Rep.nil none 0,Rep.nil none 0⟩)
 | false =>
   replace HR : Hid ((((skipM [70,65,76,83,69]).then fun b => if b then PM.ret (litX S.hd.a 3 0 []) else (skipM [78,85,76,76]).then fun b => if b then PM.ret (litX S.hd.a 0 0 []) else (skipM [67,65,83,69]).then fun b => if b then choiceM E f S.hd.a else (skipM [69,88,73,83,84,83]).then fun b => if b then existsM Q S.hd.a else refuseM : PM X) S1) = r) := HR.out
   go_wp2_with fail
   refine DoesI.go (skip_does [70,65,76,83,69]) (HF.out) (trivial) HR.out HN.out ?_ ?_
   · intro a er wN hb hk
     have HB : Hid (r = .bad a er ∧ Kept (On F) w wN) := ⟨hb,hk⟩
     clear hb hk
     go_wp2_with fail
     exact ⟨rfl,out_bad HB.out.1 HB.out.2⟩
   intro x2 S2 v2 w2 hv hk hf
   cases hv
   clear HF HR
   have HF := hidF <| hf
   clear hf
   have HR : Hid (_ = r) := hk
   clear hk
   cases x2 with
   | true =>
     replace HR : Hid ((PM.ret (litX S.hd.a 3 0 []) S2) = r) := HR.out
     go_wp2_with fail
     refine Calls.mono (literal_is S.hd.a 3 0 [] _) ?_; rintro e wQ ⟨rfl,kQ⟩
     replace HF : Hid (FR _ _ _ _ _ _ _) := HF.out.call (kQ.mono (fun i q => q.elim)) (HF.out.pa.same kQ)
     clear kQ
     go_wp2_with (first | (refine wl_store HF 0 ?_; intro wN hN; clear HF; have HF := hidF <| hN; clear hN))
     refine bodyPost_ret (end_row HF.out 0 rfl rfl rfl Tryz.underlying27 rfl (by kernel_rfl)) rfl ?_
     exact out_ok HR.out.symm HF.out (⟨none,0,none,0,rfl,Rep.nil none 0,Rep.nil none 0⟩)
   | false =>
     replace HR : Hid ((((skipM [78,85,76,76]).then fun b => if b then PM.ret (litX S.hd.a 0 0 []) else (skipM [67,65,83,69]).then fun b => if b then choiceM E f S.hd.a else (skipM [69,88,73,83,84,83]).then fun b => if b then existsM Q S.hd.a else refuseM : PM X) S2) = r) := HR.out
     go_wp2_with fail
     refine DoesI.go (skip_does [78,85,76,76]) (HF.out) (trivial) HR.out HN.out ?_ ?_
     · intro a er wN hb hk
       have HB : Hid (r = .bad a er ∧ Kept (On F) w wN) := ⟨hb,hk⟩
       clear hb hk
       go_wp2_with fail
       exact ⟨rfl,out_bad HB.out.1 HB.out.2⟩
     intro x3 S3 v3 w3 hv hk hf
     cases hv
     clear HF HR
     have HF := hidF <| hf
     clear hf
     have HR : Hid (_ = r) := hk
     clear hk
     cases x3 with
     | true =>
       replace HR : Hid ((PM.ret (litX S.hd.a 0 0 []) S3) = r) := HR.out
       go_wp2_with fail
       refine Calls.mono (literal_is S.hd.a 0 0 [] _) ?_; rintro e wQ ⟨rfl,kQ⟩
       replace HF : Hid (FR _ _ _ _ _ _ _) := HF.out.call (kQ.mono (fun i q => q.elim)) (HF.out.pa.same kQ)
       clear kQ
       go_wp2_with (first | (refine wl_store HF 0 ?_; intro wN hN; clear HF; have HF := hidF <| hN; clear hN))
       refine bodyPost_ret (end_row HF.out 0 rfl rfl rfl Tryz.underlying27 rfl (by kernel_rfl)) rfl ?_
       exact out_ok HR.out.symm HF.out (⟨none,0,none,0,rfl,Rep.nil none 0,Rep.nil none 0⟩)
     | false =>
       replace HR : Hid ((((skipM [67,65,83,69]).then fun b => if b then choiceM E f S.hd.a else (skipM [69,88,73,83,84,83]).then fun b => if b then existsM Q S.hd.a else refuseM : PM X) S3) = r) := HR.out
       go_wp2_with fail
       refine DoesI.go (skip_does [67,65,83,69]) (HF.out) (trivial) HR.out HN.out ?_ ?_
       · intro a er wN hb hk
         have HB : Hid (r = .bad a er ∧ Kept (On F) w wN) := ⟨hb,hk⟩
         clear hb hk
         go_wp2_with fail
         exact ⟨rfl,out_bad HB.out.1 HB.out.2⟩
       intro x4 S4 v4 w4 hv hk hf
       cases hv
       clear HF HR
       have HF := hidF <| hf
       clear hf
       have HR : Hid (_ = r) := hk
       clear hk
       cases x4 with
       | true =>
         replace HR : Hid (((choiceM E f S.hd.a) S4) = r) := HR.out
         go_wp2_with fail
         refine DoesI.go (k := PM.ret) (HCH.out S.hd.a) (HF.out) (trivial) (by rw [PM.then_ret]; exact HR.out) HN.out ?_ ?_
         · intro a er wN hb hk
           have HB : Hid (r = .bad a er ∧ Kept (On F) w wN) := ⟨hb,hk⟩
           clear hb hk
           go_wp2_with fail
           exact ⟨rfl,out_bad HB.out.1 HB.out.2⟩
         intro x9 S9 v9 w9 hv hk hf
         obtain ⟨p9,c9,q9,d9,rfl,h1,h2⟩ := hv
         clear HF HR
         have HF := hidF <| (hf.tree h2).tree h1
         clear h1 h2
         clear hf
         have HR : Hid (_ = r) := hk
         clear hk
         go_wp2_with (first | (refine wl_store HF 0 ?_; intro wN hN; clear HF; have HF := hidF <| hN; clear hN))
         refine bodyPost_ret (end_row HF.out 0 rfl rfl rfl Tryz.underlying27 rfl (by kernel_rfl)) rfl ?_
         exact out_ok HR.out.symm HF.out (⟨p9,c9,q9,d9,rfl,HF.out.rep 0 rfl,HF.out.rep 1 rfl⟩)
       | false =>
         replace HR : Hid ((((skipM [69,88,73,83,84,83]).then fun b => if b then existsM Q S.hd.a else refuseM : PM X) S4) = r) := HR.out
         go_wp2_with fail
         refine DoesI.go (skip_does [69,88,73,83,84,83]) (HF.out) (trivial) HR.out HN.out ?_ ?_
         · intro a er wN hb hk
           have HB : Hid (r = .bad a er ∧ Kept (On F) w wN) := ⟨hb,hk⟩
           clear hb hk
           go_wp2_with fail
           exact ⟨rfl,out_bad HB.out.1 HB.out.2⟩
         intro x5 S5 v5 w5 hv hk hf
         cases hv
         clear HF HR
         have HF := hidF <| hf
         clear hf
         have HR : Hid (_ = r) := hk
         clear hk
         cases x5 with
         | true =>
           replace HR : Hid (((existsM Q S.hd.a) S5) = r) := HR.out
           go_wp2_with fail
           refine DoesI.go (k := PM.ret) (HEH.out S.hd.a) (HF.out) (trivial) (by rw [PM.then_ret]; exact HR.out) HN.out ?_ ?_
           · intro a er wN hb hk
             have HB : Hid (r = .bad a er ∧ Kept (On F) w wN) := ⟨hb,hk⟩
             clear hb hk
             go_wp2_with fail
             exact ⟨rfl,out_bad HB.out.1 HB.out.2⟩
           intro x9 S9 v9 w9 hv hk hf
           obtain ⟨p9,c9,q9,d9,rfl,h1,h2⟩ := hv
           clear HF HR
           have HF := hidF <| (hf.tree h2).tree h1
           clear h1 h2
           clear hf
           have HR : Hid (_ = r) := hk
           clear hk
           go_wp2_with (first | (refine wl_store HF 0 ?_; intro wN hN; clear HF; have HF := hidF <| hN; clear hN))
           refine bodyPost_ret (end_row HF.out 0 rfl rfl rfl Tryz.underlying27 rfl (by kernel_rfl)) rfl ?_
           exact out_ok HR.out.symm HF.out (⟨p9,c9,q9,d9,rfl,HF.out.rep 0 rfl,HF.out.rep 1 rfl⟩)
         | false =>
           replace HR : Hid (((refuseM : PM X) S5) = r) := HR.out
           go_wp2_with fail
           refine Calls.mono (refuse_is _ _ _ (HF.out).pa) ?_; rintro e wR ⟨rfl,kR⟩
           have HB : Hid (Kept (On F) w wR) := (HF.out).kp.trans (kR.mono (fun i q => q.elim) : Kept (On F) _ _) (fun i q => .inl q)
           clear kR
           go_wp2_with fail
           exact ⟨rfl,out_bad HR.out.symm HB.out⟩
end Go.Proofs.YtlgkghebemfpjaaGreatDoor.Pa
