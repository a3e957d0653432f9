/- condition, item, exists. not, nested, when. -/
import Derived.Test.YtlgkghebemfpjaaGreatDoorQLXs
import Derived.Test.YtlgkghebemfpjaaGreatDoorQA79
import Derived.Test.YtlgkghebemfpjaaGreatDoorQD1
namespace Go.Proofs.YtlgkghebemfpjaaGreatDoor.Pa
open Go.ChangeShapes Go.WideShapes Go.ChangeAt Go.RowKit
set_option linter.unusedVariables false
set_option linter.unusedSimpArgs false
set_option maxRecDepth 100000
theorem condition_does (E : PM X) (wd : List UInt8) (HE : Does XR 19 (fun F => #[ptr F]) E) : Does SR 124 (fun F => #[ptr F,.string ⟨wd.toArray⟩]) (conditionM E wd) := by
 intro w F A S hp hA hF hpre hn
 have HF : Hid (FR w F A [] [] S w) := FR.init [] hp hA hF (fun y h => (by cases h))
 obtain ⟨r,hr⟩ : ∃ r,(conditionM E wd) S = r := ⟨_,rfl⟩
 have HR : Hid ((conditionM E wd) S = r) := hr
 rw [hr] at hn ⊢
 have HN : Hid (r ≠ .out) := hn
 clear hp hA hF hr hn
 have HEH : Hid (Does XR 19 (fun F => #[ptr F]) (E)) := HE
 clear HE
 go_enter Tryz.func124,Tryz.ntmps124
 go_wp2_with fail
 refine DoesI.go (skip_does wd) (HF.out) (trivial) HR.out HN.out ?_ ?_
 · intro a er wN hb hk
   have HB : Hid (r = .bad a er ∧ Kept (On F) w wN) := ⟨hb,hk⟩
   clear hb hk
   go_wp2_with fail
   exact ⟨rfl,out_bad HB.out.1 HB.out.2⟩
 intro x1 S1 v1 w1 hv hk hf
 cases hv
 clear HF HR
 have HF := hidF <| hf
 clear hf
 have HR : Hid (_ = r) := hk
 clear hk
 cases x1 with
 | false =>
   replace HR : Hid ((PM.ret Sl.none S1) = r) := HR.out
   go_wp2_with fail
   go_ret
   exact out_ok HR.out.symm HF.out ⟨none,0,rfl,Rep.nil none 0⟩
 | true =>
   replace HR : Hid (((E.then fun x => PM.ret (⟨1,x.flat⟩ : Sl)) S1) = r) := HR.out
   go_wp2_with fail
   refine DoesI.go (HEH.out) (HF.out) (trivial) HR.out HN.out ?_ ?_
   · intro a er wN hb hk
     have HB : Hid (r = .bad a er ∧ Kept (On F) w wN) := ⟨hb,hk⟩
     clear hb hk
     go_wp2_with fail
     exact ⟨rfl,out_bad HB.out.1 HB.out.2⟩
   intro x2 S2 v2 w2 hv hk hf
   obtain ⟨p2,c2,q2,d2,rfl,h1,h2⟩ := hv
   clear HF HR
   have HF := hidF <| (hf.tree h2).tree h1
   clear h1 h2
   clear hf
   have HR : Hid (_ = r) := hk
   clear hk
   go_wp2_with (first | (refine wl_row HF (el := 27) (xc_rep (HF.out.trep 0 rfl) (HF.out.trep 1 rfl)) (bs24 _ _ _ _ _ _ _ _ _ _ _ _ ) ?_; intro wN bN hN; clear HF; have HF := hidF <| hN; clear hN))
   go_ret
   exact out_ok HR.out.symm HF.out ⟨_,_,rfl,HF.out.rep 0 rfl⟩
set_option maxHeartbeats 2000000 in
theorem item_does (E : PM X) (HE : Does XR 19 (fun F => #[ptr F]) E) : Does ItR 122 (fun F => #[ptr F]) (itemM E) := by
 intro w F A S hp hA hF hpre hn
 have HF : Hid (FR w F A [] [] S w) := FR.init [] hp hA hF (fun y h => (by cases h))
 obtain ⟨r,hr⟩ : ∃ r,(itemM E) S = r := ⟨_,rfl⟩
 have HR : Hid ((itemM E) S = r) := hr
 rw [hr] at hn ⊢
 have HN : Hid (r ≠ .out) := hn
 clear hp hA hF hr hn
 have HEH : Hid (Does XR 19 (fun F => #[ptr F]) (E)) := HE
 clear HE
 go_enter Tryz.func122,Tryz.ntmps122
 go_wp2_with (first | (refine wl_alloc HF al57 ?_; intro wN b2 hN; clear HF; have HF := hidF <| hN; clear hN))
 refine DoesI.go (skip_does [42]) (HF.out) (trivial) HR.out HN.out ?_ ?_
 · intro a er wN hb hk
   have HB : Hid (r = .bad a er ∧ Kept (On F) w wN) := ⟨hb,hk⟩
   clear hb hk
   go_wp2_with fail
   exact ⟨rfl,out_bad HB.out.1 HB.out.2⟩
 intro x1 S1 v1 w1 hv hk hf
 cases hv
 clear HF HR
 have HF := hidF <| hf
 clear hf
 have HR : Hid (_ = r) := hk
 clear hk
 cases x1 with
 | true =>
   replace HR : Hid ((PM.ret (⟨true,⟨0,0,0,0, [], [], [],0,false,0,.none,.none⟩, []⟩ : It) S1) = r) := HR.out
   go_wp2_with (first | (refine wl_store HF 0 ?_; intro wN hN; clear HF; have HF := hidF <| hN; clear hN))
   refine bodyPost_ret (end_row HF.out 0 rfl rfl rfl Tryz.underlying57 rfl (by kernel_rfl)) rfl ?_
   exact out_ok HR.out.symm HF.out (⟨none,0,none,0,rfl,Rep.nil none 0,Rep.nil none 0⟩)
 | false =>
   replace HR : Hid (((E.then fun x => (skipM [65,83]).then fun b => if b then (kindM 1).then fun t => PM.ret (⟨false,x,t.t⟩ : It) else PM.ret (⟨false,x, []⟩ : It)) S1) = r) := HR.out
   go_wp2_with fail
   refine DoesI.go (HEH.out) (HF.out) (trivial) HR.out HN.out ?_ ?_
   · intro a er wN hb hk
     have HB : Hid (r = .bad a er ∧ Kept (On F) w wN) := ⟨hb,hk⟩
     clear hb hk
     go_wp2_with fail
     exact ⟨rfl,out_bad HB.out.1 HB.out.2⟩
   intro x2 S2 v2 w2 hv hk hf
   obtain ⟨p2,c2,q2,d2,rfl,h1,h2⟩ := hv
   clear HF HR
   have HF := hidF <| (hf.tree h2).tree h1
   clear h1 h2
   clear hf
   have HR : Hid (_ = r) := hk
   clear hk
   go_wp2_with (first | (refine wl_alloc HF al57 ?_; intro wN b3 hN; clear HF; have HF := hidF <| hN; clear hN) | (refine wl_store HF 0 ?_; intro wN hN; clear HF; have HF := hidF <| hN; clear hN))
   refine DoesI.go (skip_does [65,83]) (HF.out) (trivial) HR.out HN.out ?_ ?_
   · intro a er wN hb hk
     have HB : Hid (r = .bad a er ∧ Kept (On F) w wN) := ⟨hb,hk⟩
     clear hb hk
     go_wp2_with fail
     exact ⟨rfl,out_bad HB.out.1 HB.out.2⟩
   intro x3 S3 v3 w3 hv hk hf
   cases hv
   clear HF HR
   have HF := hidF <| hf
   clear hf
   have HR : Hid (_ = r) := hk
   clear hk
   cases x3 with
   | true =>
     replace HR : Hid ((((kindM 1).then fun t => PM.ret (⟨false,x2,t.t⟩ : It)) S3) = r) := HR.out
     go_wp2_with fail
     refine DoesI.go (kind_does 1 (by decide)) (HF.out) (trivial) HR.out HN.out ?_ ?_
     · intro a er wN hb hk
       have HB : Hid (r = .bad a er ∧ Kept (On F) w wN) := ⟨hb,hk⟩
       clear hb hk
       go_wp2_with fail
       exact ⟨rfl,out_bad HB.out.1 HB.out.2⟩
     intro x4 S4 v4 w4 hv hk hf
     cases hv
     clear HF HR
     have HF := hidF <| hf
     clear hf
     have HR : Hid (_ = r) := hk
     clear hk
     have hfd := @fd1
     go_wp2_with (first | (refine wl_store1 HF 0 sv9 ?_; intro wN hN; clear HF; have HF := hidF <| hN; clear hN) | (refine wl_load HF 0 Tryz.underlying57 ?_) | (refine wl_store HF 1 ?_; intro wN hN; clear HF; have HF := hidF <| hN; clear hN))
     refine bodyPost_ret (end_row HF.out 1 rfl rfl rfl Tryz.underlying57 rfl (by kernel_rfl)) rfl ?_
     exact out_ok HR.out.symm HF.out (⟨p2,c2,q2,d2,rfl,HF.out.rep 0 rfl,HF.out.rep 1 rfl⟩)
   | false =>
     replace HR : Hid ((PM.ret (⟨false,x2, []⟩ : It) S3) = r) := HR.out
     go_wp2_with (first | (refine wl_load HF 0 Tryz.underlying57 ?_) | (refine wl_store HF 1 ?_; intro wN hN; clear HF; have HF := hidF <| hN; clear hN))
     refine bodyPost_ret (end_row HF.out 1 rfl rfl rfl Tryz.underlying57 rfl (by kernel_rfl)) rfl ?_
     exact out_ok HR.out.symm HF.out (⟨p2,c2,q2,d2,rfl,HF.out.rep 0 rfl,HF.out.rep 1 rfl⟩)
theorem exists_does (Q : PM Qy) (a : Int) (HQ : Does QR 31 (fun F => #[ptr F]) Q) : Does XR 204 (fun F => #[ptr F,.int .i64 a]) (existsM Q a) := by
 intro w F A S hp hA hF hpre hn
 have HF : Hid (FR w F A [] [] S w) := FR.init [] hp hA hF (fun y h => (by cases h))
 obtain ⟨r,hr⟩ : ∃ r,(existsM Q a) S = r := ⟨_,rfl⟩
 have HR : Hid ((existsM Q a) S = r) := hr
 rw [hr] at hn ⊢
 have HN : Hid (r ≠ .out) := hn
 clear hp hA hF hr hn
 have HQH : Hid (Does QR 31 (fun F => #[ptr F]) (Q)) := HQ
 clear HQ
 go_enter Tryz.func204,Tryz.ntmps204
 go_wp2_with (first | (refine wl_alloc HF al27 ?_; intro wN b4 hN; clear HF; have HF := hidF <| hN; clear hN))
 refine DoesI.go (need_does [40]) (HF.out) (trivial) HR.out HN.out ?_ ?_
 · intro a er wN hb hk
   have HB : Hid (r = .bad a er ∧ Kept (On F) w wN) := ⟨hb,hk⟩
   clear hb hk
   go_wp2_with fail
   exact ⟨rfl,out_bad HB.out.1 HB.out.2⟩
 intro x1 S1 v1 w1 hv hk hf
 cases hv
 clear HF HR
 have HF := hidF <| hf
 clear hf
 have HR : Hid (_ = r) := hk
 clear hk
 go_wp2_with fail
 refine DoesI.go (HQH.out) (HF.out) (trivial) HR.out HN.out ?_ ?_
 · intro a er wN hb hk
   have HB : Hid (r = .bad a er ∧ Kept (On F) w wN) := ⟨hb,hk⟩
   clear hb hk
   go_wp2_with fail
   exact ⟨rfl,out_bad HB.out.1 HB.out.2⟩
 intro x2 S2 v2 w2 hv hk hf
 obtain ⟨p2,c2,q2,d2,rfl,h1,h2⟩ := hv
 clear HF HR
 have HF := hidF <| (hf.tree h2).tree h1
 clear h1 h2
 clear hf
 have HR : Hid (_ = r) := hk
 clear hk
 go_wp2_with (first | (refine wl_alloc HF al44 ?_; intro wN b5 hN; clear HF; have HF := hidF <| hN; clear hN) | (refine wl_store HF 0 ?_; intro wN hN; clear HF; have HF := hidF <| hN; clear hN))
 refine DoesI.go (need_does [41]) (HF.out) (trivial) HR.out HN.out ?_ ?_
 · intro a er wN hb hk
   have HB : Hid (r = .bad a er ∧ Kept (On F) w wN) := ⟨hb,hk⟩
   clear hb hk
   go_wp2_with fail
   exact ⟨rfl,out_bad HB.out.1 HB.out.2⟩
 intro x3 S3 v3 w3 hv hk hf
 cases hv
 clear HF HR
 have HF := hidF <| hf
 clear hf
 have HR : Hid (_ = r) := hk
 clear hk
 go_wp2_with (first | (refine wl_load HF 0 Tryz.underlying44 ?_) | (refine wl_row HF (el := 44) (qc_rep (HF.out.trep 0 rfl) (HF.out.trep 1 rfl)) (bs25 _ _ _ _ ) ?_; intro wN bN hN; clear HF; have HF := hidF <| hN; clear hN) | (refine wl_store HF 1 ?_; intro wN hN; clear HF; have HF := hidF <| hN; clear hN))
 refine bodyPost_ret (end_row HF.out 1 rfl rfl rfl Tryz.underlying27 rfl (by kernel_rfl)) rfl ?_
 exact out_ok HR.out.symm HF.out (⟨none,0,_,_,rfl,Rep.nil none 0,HF.out.rep 0 rfl⟩)
theorem not_yes {E : PM X} {Q : PM Qy} {f g : Nat} {S : PS} (h : seesB [78,79,84] S = true) : notM E Q f (g + 1) S = aheadM 1 (notM E Q f g) S := if_pos h
theorem not_no {E : PM X} {Q : PM Qy} {f g : Nat} {S : PS} (h : seesB [78,79,84] S = false) : notM E Q f (g + 1) S = testM E Q f S := if_neg (by simp [h])
theorem not_does (E : PM X) (Q : PM Qy) (f : Nat) (HM : MadeC) (HT : Does XR 113 (fun F => #[ptr F]) (testM E Q f)) : ∀ g,Does XR 79 (fun F => #[ptr F]) (notM E Q f g)
 | 0 => fun w F A S _ _ _ _ hn => absurd rfl hn
 | g + 1 => by
   intro w F A S hp hA hF hpre hn
   have HF : Hid (FR w F A [] [] S w) := FR.init [] hp hA hF (fun y h => (by cases h))
   obtain ⟨r,hr⟩ : ∃ r,(notM E Q f (g + 1)) S = r := ⟨_,rfl⟩
   have HR : Hid ((notM E Q f (g + 1)) S = r) := hr
   rw [hr] at hn ⊢
   have HN : Hid (r ≠ .out) := hn
   clear hp hA hF hr hn
   have hmf : ∀ (fn : Fn) (first cap : Array Value) (w : World),(Instr.makeFunc fn first cap).run Tryz.prog w = .ok (.func fn first cap) w := fun _ _ _ _ => rfl
   have HTH : Hid (Does XR 113 (fun F => #[ptr F]) (testM E Q f)) := HT
   have HAH : Hid (DoesI (fun _ _ S => S.hd.k ≠ 0) XR 114 (fun F => #[ptr F,.int .i64 1,.func (.func 79) #[ptr F] #[]]) (aheadM 1 (notM E Q f g))) := ahead79_does 1 _ HM (not_does E Q f HM HT g)
   clear HM HT
   go_enter Tryz.func79,Tryz.ntmps79
   go_wp2_with (first | (refine wl_alloc HF al27 ?_; intro wN bN hN; clear HF; have HF := hidF <| hN; clear hN))
   refine Calls.mono (sees_is [78,79,84] _ _ _ (HF.out).pa) ?_; rintro e wQ ⟨rfl,kQ⟩
   replace HF : Hid (FR _ _ _ _ _ _ _) := (HF.out).call (kQ.mono (fun i q => q.elim)) ((HF.out).pa.same kQ)
   clear kQ
   obtain ⟨bq,hbq⟩ : ∃ b,seesB [78,79,84] S = b := ⟨_,rfl⟩
   rw [hbq]
   have HBQ : Hid (seesB [78,79,84] S = bq) := hbq
   clear hbq
   cases bq with
   | false =>
     replace HR : Hid (testM E Q f S = r) := by have h := HR.out; rw [not_no HBQ.out] at h; exact h
     go_wp2_with fail
     refine DoesI.go (k := PM.ret) (HTH.out) (HF.out) (trivial) (by rw [PM.then_ret]; exact HR.out) HN.out ?_ ?_
     · intro a er wN hb hk
       have HB : Hid (r = .bad a er ∧ Kept (On F) w wN) := ⟨hb,hk⟩
       clear hb hk
       go_wp2_with fail
       exact ⟨rfl,out_bad HB.out.1 HB.out.2⟩
     intro x1 S1 v1 w1 hv hk hf
     obtain ⟨p1,c1,q1,d1,rfl,h1,h2⟩ := hv
     clear HF HR
     have HF := hidF <| (hf.tree h2).tree h1
     clear h1 h2
     clear hf
     have HR : Hid (_ = r) := hk
     clear hk
     go_wp2_with (first | (refine wl_store HF 0 ?_; intro wN hN; clear HF; have HF := hidF <| hN; clear hN))
     refine bodyPost_ret (end_row HF.out 0 rfl rfl rfl Tryz.underlying27 rfl (by kernel_rfl)) rfl ?_
     exact out_ok HR.out.symm HF.out (⟨p1,c1,q1,d1,rfl,HF.out.rep 0 rfl,HF.out.rep 1 rfl⟩)
   | true =>
     replace HR : Hid (aheadM 1 (notM E Q f g) S = r) := by have h := HR.out; rw [not_yes HBQ.out] at h; exact h
     have HK : Hid (S.hd.k ≠ 0) := sees_key HBQ.out
     go_wp2_with fail
     refine DoesI.go (k := PM.ret) (HAH.out) (HF.out) (HK.out) (by rw [PM.then_ret]; exact HR.out) HN.out ?_ ?_
     · intro a er wN hb hk
       have HB : Hid (r = .bad a er ∧ Kept (On F) w wN) := ⟨hb,hk⟩
       clear hb hk
       go_wp2_with fail
       exact ⟨rfl,out_bad HB.out.1 HB.out.2⟩
     intro x1 S1 v1 w1 hv hk hf
     obtain ⟨p1,c1,q1,d1,rfl,h1,h2⟩ := hv
     clear HF HR
     have HF := hidF <| (hf.tree h2).tree h1
     clear h1 h2
     clear hf
     have HR : Hid (_ = r) := hk
     clear hk
     go_wp2_with (first | (refine wl_store HF 0 ?_; intro wN hN; clear HF; have HF := hidF <| hN; clear hN))
     refine bodyPost_ret (end_row HF.out 0 rfl rfl rfl Tryz.underlying27 rfl (by kernel_rfl)) rfl ?_
     exact out_ok HR.out.symm HF.out (⟨p1,c1,q1,d1,rfl,HF.out.rep 0 rfl,HF.out.rep 1 rfl⟩)
theorem nes_yes {E : PM X} {Q : PM Qy} {β : Type} {G : X → PM β} {S : PS} (h : seesB [83,69,76,69,67,84] S = true) : ((nestedIn E Q).then G) S = (Q.then fun q => G ⟨11,0,0,0, [], [], [],0,false,S.hd.a,.none,⟨1,q.flat⟩⟩) S := by
 unfold PM.then nestedIn
 rw [if_pos h]
 unfold PM.then PM.ret
 cases Q S <;> rfl
theorem nes_no {E : PM X} {Q : PM Qy} {β : Type} {G : X → PM β} {S : PS} (h : seesB [83,69,76,69,67,84] S = false) : ((nestedIn E Q).then G) S = (E.then G) S := by
 unfold PM.then nestedIn
 rw [if_neg (by simp [h])]
set_option maxHeartbeats 2000000 in
theorem nested_does (E : PM X) (Q : PM Qy) (HE : Does XR 19 (fun F => #[ptr F]) E) (HQ : Does QR 31 (fun F => #[ptr F]) Q) : Does XR 198 (fun F => #[ptr F]) (nestedM E Q) := by
 intro w F A S hp hA hF hpre hn
 have HF : Hid (FR w F A [] [] S w) := FR.init [] hp hA hF (fun y h => (by cases h))
 obtain ⟨r,hr⟩ : ∃ r,(nestedM E Q) S = r := ⟨_,rfl⟩
 have HR : Hid ((nestedM E Q) S = r) := hr
 rw [hr] at hn ⊢
 have HN : Hid (r ≠ .out) := hn
 clear hp hA hF hr hn
 have HEH : Hid (Does XR 19 (fun F => #[ptr F]) E) := HE
 have HQH : Hid (Does QR 31 (fun F => #[ptr F]) Q) := HQ
 clear HE HQ
 go_enter Tryz.func198,Tryz.ntmps198
 go_wp2_with (first | (refine wl_alloc HF al27 ?_; intro wN b2 hN; clear HF; have HF := hidF <| hN; clear hN))
 refine DoesI.go (need_does [40]) (HF.out) (trivial) HR.out HN.out ?_ ?_
 · intro a er wN hb hk
   have HB : Hid (r = .bad a er ∧ Kept (On F) w wN) := ⟨hb,hk⟩
   clear hb hk
   go_wp2_with fail
   exact ⟨rfl,out_bad HB.out.1 HB.out.2⟩
 intro x1 S1 v1 w1 hv hk hf
 cases hv
 clear HF HR
 have HF := hidF <| hf
 clear hf
 have HR : Hid (_ = r) := hk
 clear hk
 go_wp2_with (first | (refine wl_alloc HF al27 ?_; intro wN b3 hN; clear HF; have HF := hidF <| hN; clear hN))
 refine Calls.mono (sees_is [83,69,76,69,67,84] _ _ _ (HF.out).pa) ?_; rintro e wQ ⟨rfl,kQ⟩
 replace HF : Hid (FR _ _ _ _ _ _ _) := (HF.out).call (kQ.mono (fun i q => q.elim)) ((HF.out).pa.same kQ)
 clear kQ
 obtain ⟨bq,hbq⟩ : ∃ b,seesB [83,69,76,69,67,84] S1 = b := ⟨_,rfl⟩
 rw [hbq]
 have HBQ : Hid (seesB [83,69,76,69,67,84] S1 = bq) := hbq
 clear hbq
 cases bq with
 | false =>
   replace HR : Hid ((E.then fun e => (needM [41]).then fun _ => PM.ret e) S1 = r) := by have h := HR.out; rw [nes_no HBQ.out] at h; exact h
   go_wp2_with fail
   refine DoesI.go (HEH.out) (HF.out) (trivial) HR.out HN.out ?_ ?_
   · intro a er wN hb hk
     have HB : Hid (r = .bad a er ∧ Kept (On F) w wN) := ⟨hb,hk⟩
     clear hb hk
     go_wp2_with fail
     exact ⟨rfl,out_bad HB.out.1 HB.out.2⟩
   intro x2 S2 v2 w2 hv hk hf
   obtain ⟨p2,c2,q2,d2,rfl,h1,h2⟩ := hv
   clear HF HR
   have HF := hidF <| (hf.tree h2).tree h1
   clear h1 h2
   clear hf
   have HR : Hid (_ = r) := hk
   clear hk
   go_wp2_with (first | (refine wl_store HF 0 ?_; intro wN hN; clear HF; have HF := hidF <| hN; clear hN))
   refine DoesI.go (need_does [41]) (HF.out) (trivial) HR.out HN.out ?_ ?_
   · intro a er wN hb hk
     have HB : Hid (r = .bad a er ∧ Kept (On F) w wN) := ⟨hb,hk⟩
     clear hb hk
     go_wp2_with fail
     exact ⟨rfl,out_bad HB.out.1 HB.out.2⟩
   intro x3 S3 v3 w3 hv hk hf
   cases hv
   clear HF HR
   have HF := hidF <| hf
   clear hf
   have HR : Hid (_ = r) := hk
   clear hk
   go_wp2_with (first | (refine wl_load HF 0 Tryz.underlying27 ?_) | (refine wl_store HF 1 ?_; intro wN hN; clear HF; have HF := hidF <| hN; clear hN))
   refine bodyPost_ret (end_row HF.out 1 rfl rfl rfl Tryz.underlying27 rfl (by kernel_rfl)) rfl ?_
   exact out_ok HR.out.symm HF.out (⟨p2,c2,q2,d2,rfl,HF.out.rep 0 rfl,HF.out.rep 1 rfl⟩)
 | true =>
   replace HR : Hid ((Q.then fun q => (needM [41]).then fun _ => PM.ret (⟨11,0,0,0, [], [], [],0,false,S1.hd.a,.none,⟨1,q.flat⟩⟩ : X)) S1 = r) := by have h := HR.out; rw [nes_yes HBQ.out] at h; exact h
   have hfd := @fd3
   go_wp2_with fail
   refine Calls.mono (next_is _ _ _ HF.out.pa) ?_; rintro e wQ ⟨rfl,kQ⟩
   have HF := hidF <| (HF.out).call (kQ.mono (fun i q => q.elim)) ((HF.out).pa.same kQ)
   clear kQ
   go_wp2_with fail
   refine DoesI.go (HQH.out) (HF.out) (trivial) HR.out HN.out ?_ ?_
   · intro a er wN hb hk
     have HB : Hid (r = .bad a er ∧ Kept (On F) w wN) := ⟨hb,hk⟩
     clear hb hk
     go_wp2_with fail
     exact ⟨rfl,out_bad HB.out.1 HB.out.2⟩
   intro x2 S2 v2 w2 hv hk hf
   obtain ⟨p2,c2,q2,d2,rfl,h1,h2⟩ := hv
   clear HF HR
   have HF := hidF <| (hf.tree h2).tree h1
   clear h1 h2
   clear hf
   have HR : Hid (_ = r) := hk
   clear hk
   go_wp2_with (first | (refine wl_row HF (el := 44) (qc_rep (HF.out.trep 0 rfl) (HF.out.trep 1 rfl)) (bs25 _ _ _ _ ) ?_; intro wN bN hN; clear HF; have HF := hidF <| hN; clear hN) | (refine wl_store HF 0 ?_; intro wN hN; clear HF; have HF := hidF <| hN; clear hN))
   refine DoesI.go (need_does [41]) (HF.out) (trivial) HR.out HN.out ?_ ?_
   · intro a er wN hb hk
     have HB : Hid (r = .bad a er ∧ Kept (On F) w wN) := ⟨hb,hk⟩
     clear hb hk
     go_wp2_with fail
     exact ⟨rfl,out_bad HB.out.1 HB.out.2⟩
   intro x3 S3 v3 w3 hv hk hf
   cases hv
   clear HF HR
   have HF := hidF <| hf
   clear hf
   have HR : Hid (_ = r) := hk
   clear hk
   go_wp2_with (first | (refine wl_load HF 0 Tryz.underlying27 ?_) | (refine wl_store HF 1 ?_; intro wN hN; clear HF; have HF := hidF <| hN; clear hN))
   refine bodyPost_ret (end_row HF.out 1 rfl rfl rfl Tryz.underlying27 rfl (by kernel_rfl)) rfl ?_
   exact out_ok HR.out.symm HF.out (⟨none,0,_,_,rfl,Rep.nil none 0,HF.out.rep 0 rfl⟩)
def WhR (A : Nat → Prop) (w : World) (v : Value) (x : Wh) : Prop := ∃ p c q d p' c' q' d',v = .agg #[.int .i64 x.c.k,.int .i64 x.c.op,.int .i64 x.c.vk,.int .i64 x.c.vn,.string ⟨x.c.vs.toArray⟩,.string ⟨x.c.tb.toArray⟩,.string ⟨x.c.nm.toArray⟩,.int .i64 x.c.col,.bool x.c.dn,.int .i64 x.c.a,.slice p x.c.ar.n c,.slice q x.c.sb.n d,.int .i64 x.v.k,.int .i64 x.v.op,.int .i64 x.v.vk,.int .i64 x.v.vn,.string ⟨x.v.vs.toArray⟩,.string ⟨x.v.tb.toArray⟩,.string ⟨x.v.nm.toArray⟩,.int .i64 x.v.col,.bool x.v.dn,.int .i64 x.v.a,.slice p' x.v.ar.n c',.slice q' x.v.sb.n d'] ∧ (Rep A w (.slice p x.c.ar.n c) x.c.ar.dt ∧ Rep A w (.slice q x.c.sb.n d) x.c.sb.dt) ∧ Rep A w (.slice p' x.v.ar.n c') x.v.ar.dt ∧ Rep A w (.slice q' x.v.sb.n d') x.v.sb.dt
theorem wh_rep {A : Nat → Prop} {w : World} {x : Wh} {a b a' b' : Value} (ha : Rep A w a x.c.ar.dt) (hb : Rep A w b x.c.sb.dt) (ha' : Rep A w a' x.v.ar.dt) (hb' : Rep A w b' x.v.sb.dt) : RepL A w (xc x.c a b ++ xc x.v a' b') x.flat := (xc_rep ha hb).append (xc_rep ha' hb')
theorem al211 (w : World) : (Instr.alloc 211 true (.tuple #[])).run Tryz.prog w = .ok (ptr w.heap.size) (w.alloc (.cells #[.int .i64 0,.int .i64 0,.int .i64 0,.int .i64 0,.string ⟨#[]⟩,.string ⟨#[]⟩,.string ⟨#[]⟩,.int .i64 0,.bool false,.int .i64 0,.slice none 0 0,.slice none 0 0,.int .i64 0,.int .i64 0,.int .i64 0,.int .i64 0,.string ⟨#[]⟩,.string ⟨#[]⟩,.string ⟨#[]⟩,.int .i64 0,.bool false,.int .i64 0,.slice none 0 0,.slice none 0 0] 211)) := by
 simp [go_sem]
set_option maxHeartbeats 2000000 in
theorem when_does (E : PM X) (HE : Does XR 19 (fun F => #[ptr F]) E) : Does WhR 208 (fun F => #[ptr F]) (whenM E) := by
 intro w F A S hp hA hF hpre hn
 have HF : Hid (FR w F A [] [] S w) := FR.init [] hp hA hF (fun y h => (by cases h))
 obtain ⟨r,hr⟩ : ∃ r,(whenM E) S = r := ⟨_,rfl⟩
 have HR : Hid ((whenM E) S = r) := hr
 rw [hr] at hn ⊢
 have HN : Hid (r ≠ .out) := hn
 clear hp hA hF hr hn
 have HEH : Hid (Does XR 19 (fun F => #[ptr F]) E) := HE
 clear HE
 go_enter Tryz.func208,Tryz.ntmps208
 go_wp2_with (first | (refine wl_alloc HF al211 ?_; intro wN b2 hN; clear HF; have HF := hidF <| hN; clear hN))
 refine DoesI.go (need_does [87,72,69,78]) (HF.out) (trivial) HR.out HN.out ?_ ?_
 · intro a er wN hb hk
   have HB : Hid (r = .bad a er ∧ Kept (On F) w wN) := ⟨hb,hk⟩
   clear hb hk
   go_wp2_with fail
   exact ⟨rfl,out_bad HB.out.1 HB.out.2⟩
 intro x1 S1 v1 w1 hv hk hf
 cases hv
 clear HF HR
 have HF := hidF <| hf
 clear hf
 have HR : Hid (_ = r) := hk
 clear hk
 go_wp2_with fail
 refine DoesI.go (HEH.out) (HF.out) (trivial) HR.out HN.out ?_ ?_
 · intro a er wN hb hk
   have HB : Hid (r = .bad a er ∧ Kept (On F) w wN) := ⟨hb,hk⟩
   clear hb hk
   go_wp2_with fail
   exact ⟨rfl,out_bad HB.out.1 HB.out.2⟩
 intro x2 S2 v2 w2 hv hk hf
 obtain ⟨p2,c2,q2,d2,rfl,h1,h2⟩ := hv
 clear HF HR
 have HF := hidF <| (hf.tree h2).tree h1
 clear h1 h2
 clear hf
 have HR : Hid (_ = r) := hk
 clear hk
 go_wp2_with (first | (refine wl_alloc HF al27 ?_; intro wN b3 hN; clear HF; have HF := hidF <| hN; clear hN) | (refine wl_store HF 0 ?_; intro wN hN; clear HF; have HF := hidF <| hN; clear hN))
 refine DoesI.go (need_does [84,72,69,78]) (HF.out) (trivial) HR.out HN.out ?_ ?_
 · intro a er wN hb hk
   have HB : Hid (r = .bad a er ∧ Kept (On F) w wN) := ⟨hb,hk⟩
   clear hb hk
   go_wp2_with fail
   exact ⟨rfl,out_bad HB.out.1 HB.out.2⟩
 intro x3 S3 v3 w3 hv hk hf
 cases hv
 clear HF HR
 have HF := hidF <| hf
 clear hf
 have HR : Hid (_ = r) := hk
 clear hk
 go_wp2_with fail
 have HF := hidF <| (HF.out).drew
 refine region_L (k := 4) (S := SFR w F A [(b3,27,#[.int .i64 x2.k,.int .i64 x2.op,.int .i64 x2.vk,.int .i64 x2.vn,.string ⟨x2.vs.toArray⟩,.string ⟨x2.tb.toArray⟩,.string ⟨x2.nm.toArray⟩,.int .i64 x2.col,.bool x2.dn,.int .i64 x2.a,.slice p2 x2.ar.n c2,.slice q2 x2.sb.n d2]),(b2,211,#[.int .i64 0,.int .i64 0,.int .i64 0,.int .i64 0,.string ⟨#[]⟩,.string ⟨#[]⟩,.string ⟨#[]⟩,.int .i64 0,.bool false,.int .i64 0,.slice none 0 0,.slice none 0 0,.int .i64 0,.int .i64 0,.int .i64 0,.int .i64 0,.string ⟨#[]⟩,.string ⟨#[]⟩,.string ⟨#[]⟩,.int .i64 0,.bool false,.int .i64 0,.slice none 0 0,.slice none 0 0])]) (by kernel_rfl) ?_
 simp only [List.size_toArray,List.length_cons,List.length_nil,Nat.zero_add,Nat.reduceAdd,Array.replicate]
 refine lL 0 0 Tryz.underlying27 HF ?_
 try simp only [Act.put,sI,sS,sZ]
 refine pL 1 (ptr F) HF.out.s ?_
 try simp only [Act.put,sI,sS,sZ]
 refine onL (j := 2) (fun K hK => ?_)
 go_wp2_with fail
 refine DoesI.go (HEH.out) (HF.out) (trivial) HR.out HN.out ?_ ?_
 · intro a er wN hb hk
   have HB : Hid (r = .bad a er ∧ Kept (On F) w wN) := ⟨hb,hk⟩
   clear hb hk
   go_wp2_with fail
   exact ⟨rfl,out_bad HB.out.1 HB.out.2⟩
 intro x4 S4 v4 w4 hv hk hf
 obtain ⟨p4,c4,q4,d4,rfl,h1,h2⟩ := hv
 clear HF HR
 have HF := hidF <| (hf.tree h2).tree h1
 clear h1 h2
 clear hf
 have HR : Hid (_ = r) := hk
 clear hk
 go_wp2_with fail
 refine hK.out _ _ ⟨fun _ => HF.out.s, ?_⟩
 clear hK K
 try simp only [Act.put,sI,sS,sZ]
 refine pL 3 (.agg #[.int .i64 x2.k,.int .i64 x2.op,.int .i64 x2.vk,.int .i64 x2.vn,.string ⟨x2.vs.toArray⟩,.string ⟨x2.tb.toArray⟩,.string ⟨x2.nm.toArray⟩,.int .i64 x2.col,.bool x2.dn,.int .i64 x2.a,.slice p2 x2.ar.n c2,.slice q2 x2.sb.n d2,.int .i64 x4.k,.int .i64 x4.op,.int .i64 x4.vk,.int .i64 x4.vn,.string ⟨x4.vs.toArray⟩,.string ⟨x4.tb.toArray⟩,.string ⟨x4.nm.toArray⟩,.int .i64 x4.col,.bool x4.dn,.int .i64 x4.a,.slice p4 x4.ar.n c4,.slice q4 x4.sb.n d4]) HF.out.s ?_
 try simp only [Act.put,sI,sS,sZ]
 (try simp only [List.getElem_toArray,List.getElem_cons_succ,List.getElem_cons_zero])
 refine onL (j := 4) (fun K hK => ?_)
 refine op_store HF 1 ?_
 intro wS hS
 clear HF
 have HF := hidF <| hS
 clear hS
 refine hK.out _ _ ⟨fun e => absurd rfl e, ?_⟩
 clear hK K
 try simp only [Act.put,sI,sS,sZ]
 refine doneL ?_
 go_wp2_with fail
 refine bodyPost_ret (end_row HF.out 1 rfl rfl rfl Tryz.underlying211 rfl (by kernel_rfl)) rfl ?_
 exact out_ok HR.out.symm HF.out ⟨p2,c2,q2,d2,p4,c4,q4,d4,rfl,⟨HF.out.rep 2 rfl,HF.out.rep 3 rfl⟩,HF.out.rep 0 rfl,HF.out.rep 1 rfl⟩
end Go.Proofs.YtlgkghebemfpjaaGreatDoor.Pa
