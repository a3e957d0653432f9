/- source. key. -/
import Derived.Test.YtlgkghebemfpjaaGreatDoorQD4
import Derived.Test.YtlgkghebemfpjaaGreatDoorQLXs
namespace Go.Proofs.YtlgkghebemfpjaaGreatDoor.Pa
open Go.ChangeShapes Go.WideShapes Go.ChangeAt Go.RowKit
set_option linter.unusedVariables false
set_option maxRecDepth 100000
def SoR (A : Nat → Prop) (w : World) (v : Value) (x : So) : Prop := ∃ p c,v = .agg #[.string ⟨x.tb.toArray⟩,.string ⟨x.asn.toArray⟩,.bool x.left,.slice p x.on.n c,.int .i64 x.a] ∧ Rep A w (.slice p x.on.n c) x.on.dt
theorem so_rep {A : Nat → Prop} {w : World} {x : So} {a : Value} (ha : Rep A w a x.on.dt) : RepL A w [.string ⟨x.tb.toArray⟩,.string ⟨x.asn.toArray⟩,.bool x.left,a,.int .i64 x.a] x.flat := .cons (.s _) (.cons (.s _) (.cons (.b _) (.cons ha (.cons (.p _) .nil))))
theorem as_then {b : Bool} {S : PS} {β : Type} {G : List UInt8 → PM β} (h : b = true ∨ S.hd.k = 1) : ((asM b).then G) S = ((kindM 1).then fun u => G u.t) S := by
 unfold PM.then asM
 rw [if_pos h]
 unfold PM.then PM.ret
 cases kindM 1 S <;> rfl
theorem as_none {b : Bool} {S : PS} {β : Type} {G : List UInt8 → PM β} (h : ¬ (b = true ∨ S.hd.k = 1)) : ((asM b).then G) S = G [] S := by
 unfold PM.then asM
 rw [if_neg h]
def soT (E : PM X) (t : Tk) (left joined : Bool) (an : List UInt8) : PM So := if joined then (needM [79,78]).then fun _ => E.then fun x => PM.ret ⟨t.t,an,left,⟨1,x.flat⟩,t.a⟩ else PM.ret ⟨t.t,an,left,.none,t.a⟩
theorem source_eq (E : PM X) (left joined : Bool) (S : PS) : sourceM E left joined S = ((kindM 1).then fun t => (skipM [65,83]).then fun b => (asM b).then fun an => soT E t left joined an) S := rfl
set_option maxHeartbeats 4000000 in
theorem source_does (E : PM X) (left joined : Bool) (HE : Does XR 19 (fun F => #[ptr F]) E) : Does SoR 146 (fun F => #[ptr F,.bool left,.bool joined]) (sourceM E left joined) := by
 intro w F A S hp hA hF hpre hn
 have HF : Hid (FR w F A [] [] S w) := FR.init [] hp hA hF (fun y h => (by cases h))
 obtain ⟨r,hr⟩ : ∃ r,(sourceM E left joined) S = r := ⟨_,rfl⟩
 have HR : Hid ((sourceM E left joined) S = r) := hr
 rw [hr] at hn ⊢
 have HN : Hid (r ≠ .out) := hn
 rw [source_eq] at HR
 clear hp hA hF hr hn
 have HEH : Hid (Does XR 19 (fun F => #[ptr F]) E) := HE
 have hfd0 := @fd0
 have hfd1 := @fd1
 clear HE
 go_enter Tryz.func146,Tryz.ntmps146
 go_wp2_with (first | (refine wl_alloc HF al55 ?_; intro wN b6 hN; clear HF; have HF := hidF <| hN; clear hN))
 refine DoesI.go (kind_does 1 (by decide)) (HF.out) (trivial) HR.out HN.out ?_ ?_
 · intro a er wN hb hk
   have HB : Hid (r = .bad a er ∧ Kept (On F) w wN) := ⟨hb,hk⟩
   clear hb hk
   go_wp2_with fail
   exact ⟨rfl,out_bad HB.out.1 HB.out.2⟩
 intro x1 S1 v1 w1 hv hk hf
 cases hv
 clear HF HR
 have HF := hidF <| hf
 clear hf
 have HR : Hid (_ = r) := hk
 clear hk
 go_wp2_with (first | (refine wl_alloc HF al40 ?_; intro wN b7 hN; clear HF; have HF := hidF <| hN; clear hN) | (refine wl_store HF 0 ?_; intro wN hN; clear HF; have HF := hidF <| hN; clear hN) | (refine wl_load1 HF 0 lv9 ?_) | (refine wl_load1 HF 0 lv3 ?_) | (have hq : Nat := b7; clear hq; refine wl_alloc HF al55 ?_; intro wN b8 hN; clear HF; have HF := hidF <| hN; clear hN))
 refine DoesI.go (skip_does [65,83]) (HF.out) (trivial) HR.out HN.out ?_ ?_
 · intro a er wN hb hk
   have HB : Hid (r = .bad a er ∧ Kept (On F) w wN) := ⟨hb,hk⟩
   clear hb hk
   go_wp2_with fail
   exact ⟨rfl,out_bad HB.out.1 HB.out.2⟩
 intro x2 S2 v2 w2 hv hk hf
 cases hv
 clear HF HR
 have HF := hidF <| hf
 clear hf
 have HR : Hid (_ = r) := hk
 clear hk
 replace HF : Hid (FR w F A [(b8,55,#[.string ⟨x1.t.toArray⟩,.string ⟨#[]⟩,.bool left,.slice none 0 0,.int .i64 x1.a]),(b7,40,#[.int .i64 x1.k,.string ⟨x1.t.toArray⟩,.int .i64 x1.n,.int .i64 x1.a]),(b6,55,#[.string ⟨#[]⟩,.string ⟨#[]⟩,.bool false,.slice none 0 0,.int .i64 0])] [] S2 w2) := HF.out
 cases x2 with
 | true =>
   replace HR : Hid (((kindM 1).then fun u => soT E x1 left joined u.t) S2 = r) := by have h := HR.out; rw [as_then (.inl rfl)] at h; exact h
   go_wp2_with fail
   refine DoesI.go (kind_does 1 (by decide)) (HF.out) (trivial) HR.out HN.out ?_ ?_
   · intro a er wN hb hk
     have HB : Hid (r = .bad a er ∧ Kept (On F) w wN) := ⟨hb,hk⟩
     clear hb hk
     go_wp2_with fail
     exact ⟨rfl,out_bad HB.out.1 HB.out.2⟩
   intro x3 S3 v3 w3 hv hk hf
   cases hv
   clear HF HR
   have HF := hidF <| hf
   clear hf
   have HR : Hid (_ = r) := hk
   clear hk
   cases joined with
   | false =>
     replace HR : Hid (PM.ret (⟨x1.t,x3.t,left,.none,x1.a⟩ : So) S3 = r) := HR.out
     go_wp2_with (first | (refine wl_store1 HF 0 sv9 ?_; clear HF; intro wN hN; have HF : Hid (FR w F A [(b8,55,#[.string ⟨x1.t.toArray⟩,.string ⟨x3.t.toArray⟩,.bool left,.slice none 0 0,.int .i64 x1.a]),(b7,40,#[.int .i64 x1.k,.string ⟨x1.t.toArray⟩,.int .i64 x1.n,.int .i64 x1.a]),(b6,55,#[.string ⟨#[]⟩,.string ⟨#[]⟩,.bool false,.slice none 0 0,.int .i64 0])] _ _ wN) := hN; clear hN) | (refine wl_load HF 0 Tryz.underlying55 ?_) | (refine wl_store HF 2 ?_; intro wN hN; clear HF; have HF := hidF <| hN; clear hN))
     refine bodyPost_ret (end_row HF.out 2 rfl rfl rfl Tryz.underlying55 rfl (by kernel_rfl)) rfl ?_
     exact out_ok HR.out.symm HF.out ⟨none,0,rfl,Rep.nil none 0⟩
   | true =>
     replace HR : Hid (((needM [79,78]).then fun _ => E.then fun x => PM.ret (⟨x1.t,x3.t,left,⟨1,x.flat⟩,x1.a⟩ : So)) S3 = r) := HR.out
     go_wp2_with (first | (refine wl_store1 HF 0 sv9 ?_; clear HF; intro wN hN; have HF : Hid (FR w F A [(b8,55,#[.string ⟨x1.t.toArray⟩,.string ⟨x3.t.toArray⟩,.bool left,.slice none 0 0,.int .i64 x1.a]),(b7,40,#[.int .i64 x1.k,.string ⟨x1.t.toArray⟩,.int .i64 x1.n,.int .i64 x1.a]),(b6,55,#[.string ⟨#[]⟩,.string ⟨#[]⟩,.bool false,.slice none 0 0,.int .i64 0])] _ _ wN) := hN; clear hN))
     refine DoesI.go (need_does [79,78]) (HF.out) (trivial) HR.out HN.out ?_ ?_
     · intro a er wN hb hk
       have HB : Hid (r = .bad a er ∧ Kept (On F) w wN) := ⟨hb,hk⟩
       clear hb hk
       go_wp2_with fail
       exact ⟨rfl,out_bad HB.out.1 HB.out.2⟩
     intro x4 S4 v4 w4 hv hk hf
     cases hv
     clear HF HR
     have HF := hidF <| hf
     clear hf
     have HR : Hid (_ = r) := hk
     clear hk
     go_wp2_with fail
     refine DoesI.go (HEH.out) (HF.out) (trivial) HR.out HN.out ?_ ?_
     · intro a er wN hb hk
       have HB : Hid (r = .bad a er ∧ Kept (On F) w wN) := ⟨hb,hk⟩
       clear hb hk
       go_wp2_with fail
       exact ⟨rfl,out_bad HB.out.1 HB.out.2⟩
     intro x5 S5 v5 w5 hv hk hf
     obtain ⟨p5,c5,q5,d5,rfl,h1,h2⟩ := hv
     clear HF HR
     have HF := hidF <| (hf.tree h2).tree h1
     clear h1 h2
     clear hf
     have HR : Hid (_ = r) := hk
     clear hk
     go_wp2_with (first | (refine wl_row HF (el := 27) (xc_rep (HF.out.trep 0 rfl) (HF.out.trep 1 rfl)) (bs24 _ _ _ _ _ _ _ _ _ _ _ _ ) ?_; intro wN bR hN; clear HF; have HF := hidF <| hN; clear hN) | (refine wl_store1 HF 0 sv24 ?_; clear HF; intro wN hN; have HF : Hid (FR w F A [(b8,55,#[.string ⟨x1.t.toArray⟩,.string ⟨x3.t.toArray⟩,.bool left,.slice (some ⟨bR,0,none⟩) 1 1,.int .i64 x1.a]),(b7,40,#[.int .i64 x1.k,.string ⟨x1.t.toArray⟩,.int .i64 x1.n,.int .i64 x1.a]),(b6,55,#[.string ⟨#[]⟩,.string ⟨#[]⟩,.bool false,.slice none 0 0,.int .i64 0])] _ _ wN) := hN; clear hN) | (refine wl_load HF 0 Tryz.underlying55 ?_) | (refine wl_store HF 2 ?_; intro wN hN; clear HF; have HF := hidF <| hN; clear hN))
     refine bodyPost_ret (end_row HF.out 2 rfl rfl rfl Tryz.underlying55 rfl (by kernel_rfl)) rfl ?_
     exact out_ok HR.out.symm HF.out ⟨_,_,rfl,HF.out.rep 0 rfl⟩
 | false =>
   go_wp2_with fail
   refine Calls.mono (next_is _ _ _ HF.out.pa) ?_; rintro e wQ ⟨rfl,kQ⟩
   have HF := hidF <| (HF.out).call (kQ.mono (fun i q => q.elim)) ((HF.out).pa.same kQ)
   clear kQ
   by_cases hk1 : S2.hd.k = 1
   · replace HR : Hid (((kindM 1).then fun u => soT E x1 left joined u.t) S2 = r) := by have h := HR.out; rw [as_then (.inr hk1)] at h; exact h
     go_wp2_with fail
     refine DoesI.go (kind_does 1 (by decide)) (HF.out) (trivial) HR.out HN.out ?_ ?_
     · intro a er wN hb hk
       have HB : Hid (r = .bad a er ∧ Kept (On F) w wN) := ⟨hb,hk⟩
       clear hb hk
       go_wp2_with fail
       exact ⟨rfl,out_bad HB.out.1 HB.out.2⟩
     intro x3 S3 v3 w3 hv hk hf
     cases hv
     clear HF HR
     have HF := hidF <| hf
     clear hf
     have HR : Hid (_ = r) := hk
     clear hk
     clear hk1
     cases joined with
     | false =>
       replace HR : Hid (PM.ret (⟨x1.t,x3.t,left,.none,x1.a⟩ : So) S3 = r) := HR.out
       go_wp2_with (first | (refine wl_store1 HF 0 sv9 ?_; clear HF; intro wN hN; have HF : Hid (FR w F A [(b8,55,#[.string ⟨x1.t.toArray⟩,.string ⟨x3.t.toArray⟩,.bool left,.slice none 0 0,.int .i64 x1.a]),(b7,40,#[.int .i64 x1.k,.string ⟨x1.t.toArray⟩,.int .i64 x1.n,.int .i64 x1.a]),(b6,55,#[.string ⟨#[]⟩,.string ⟨#[]⟩,.bool false,.slice none 0 0,.int .i64 0])] _ _ wN) := hN; clear hN) | (refine wl_load HF 0 Tryz.underlying55 ?_) | (refine wl_store HF 2 ?_; intro wN hN; clear HF; have HF := hidF <| hN; clear hN))
       refine bodyPost_ret (end_row HF.out 2 rfl rfl rfl Tryz.underlying55 rfl (by kernel_rfl)) rfl ?_
       exact out_ok HR.out.symm HF.out ⟨none,0,rfl,Rep.nil none 0⟩
     | true =>
       replace HR : Hid (((needM [79,78]).then fun _ => E.then fun x => PM.ret (⟨x1.t,x3.t,left,⟨1,x.flat⟩,x1.a⟩ : So)) S3 = r) := HR.out
       go_wp2_with (first | (refine wl_store1 HF 0 sv9 ?_; clear HF; intro wN hN; have HF : Hid (FR w F A [(b8,55,#[.string ⟨x1.t.toArray⟩,.string ⟨x3.t.toArray⟩,.bool left,.slice none 0 0,.int .i64 x1.a]),(b7,40,#[.int .i64 x1.k,.string ⟨x1.t.toArray⟩,.int .i64 x1.n,.int .i64 x1.a]),(b6,55,#[.string ⟨#[]⟩,.string ⟨#[]⟩,.bool false,.slice none 0 0,.int .i64 0])] _ _ wN) := hN; clear hN))
       refine DoesI.go (need_does [79,78]) (HF.out) (trivial) HR.out HN.out ?_ ?_
       · intro a er wN hb hk
         have HB : Hid (r = .bad a er ∧ Kept (On F) w wN) := ⟨hb,hk⟩
         clear hb hk
         go_wp2_with fail
         exact ⟨rfl,out_bad HB.out.1 HB.out.2⟩
       intro x4 S4 v4 w4 hv hk hf
       cases hv
       clear HF HR
       have HF := hidF <| hf
       clear hf
       have HR : Hid (_ = r) := hk
       clear hk
       go_wp2_with fail
       refine DoesI.go (HEH.out) (HF.out) (trivial) HR.out HN.out ?_ ?_
       · intro a er wN hb hk
         have HB : Hid (r = .bad a er ∧ Kept (On F) w wN) := ⟨hb,hk⟩
         clear hb hk
         go_wp2_with fail
         exact ⟨rfl,out_bad HB.out.1 HB.out.2⟩
       intro x5 S5 v5 w5 hv hk hf
       obtain ⟨p5,c5,q5,d5,rfl,h1,h2⟩ := hv
       clear HF HR
       have HF := hidF <| (hf.tree h2).tree h1
       clear h1 h2
       clear hf
       have HR : Hid (_ = r) := hk
       clear hk
       go_wp2_with (first | (refine wl_row HF (el := 27) (xc_rep (HF.out.trep 0 rfl) (HF.out.trep 1 rfl)) (bs24 _ _ _ _ _ _ _ _ _ _ _ _ ) ?_; intro wN bR hN; clear HF; have HF := hidF <| hN; clear hN) | (refine wl_store1 HF 0 sv24 ?_; clear HF; intro wN hN; have HF : Hid (FR w F A [(b8,55,#[.string ⟨x1.t.toArray⟩,.string ⟨x3.t.toArray⟩,.bool left,.slice (some ⟨bR,0,none⟩) 1 1,.int .i64 x1.a]),(b7,40,#[.int .i64 x1.k,.string ⟨x1.t.toArray⟩,.int .i64 x1.n,.int .i64 x1.a]),(b6,55,#[.string ⟨#[]⟩,.string ⟨#[]⟩,.bool false,.slice none 0 0,.int .i64 0])] _ _ wN) := hN; clear hN) | (refine wl_load HF 0 Tryz.underlying55 ?_) | (refine wl_store HF 2 ?_; intro wN hN; clear HF; have HF := hidF <| hN; clear hN))
       refine bodyPost_ret (end_row HF.out 2 rfl rfl rfl Tryz.underlying55 rfl (by kernel_rfl)) rfl ?_
       exact out_ok HR.out.symm HF.out ⟨_,_,rfl,HF.out.rep 0 rfl⟩
   · replace HR : Hid (soT E x1 left joined [] S2 = r) := by have h := HR.out; rw [as_none (by simp [hk1])] at h; exact h
     cases joined with
     | false =>
       replace HR : Hid (PM.ret (⟨x1.t, [],left,.none,x1.a⟩ : So) S2 = r) := HR.out
       go_wp2_with (first | (refine wl_load HF 0 Tryz.underlying55 ?_) | (refine wl_store HF 2 ?_; intro wN hN; clear HF; have HF := hidF <| hN; clear hN))
       refine bodyPost_ret (end_row HF.out 2 rfl rfl rfl Tryz.underlying55 rfl (by kernel_rfl)) rfl ?_
       exact out_ok HR.out.symm HF.out ⟨none,0,rfl,Rep.nil none 0⟩
     | true =>
       replace HR : Hid (((needM [79,78]).then fun _ => E.then fun x => PM.ret (⟨x1.t, [],left,⟨1,x.flat⟩,x1.a⟩ : So)) S2 = r) := HR.out
       go_wp2_with fail
       refine DoesI.go (need_does [79,78]) (HF.out) (trivial) HR.out HN.out ?_ ?_
       · intro a er wN hb hk
         have HB : Hid (r = .bad a er ∧ Kept (On F) w wN) := ⟨hb,hk⟩
         clear hb hk
         go_wp2_with fail
         exact ⟨rfl,out_bad HB.out.1 HB.out.2⟩
       intro x4 S4 v4 w4 hv hk hf
       cases hv
       clear HF HR
       have HF := hidF <| hf
       clear hf
       have HR : Hid (_ = r) := hk
       clear hk
       go_wp2_with fail
       refine DoesI.go (HEH.out) (HF.out) (trivial) HR.out HN.out ?_ ?_
       · intro a er wN hb hk
         have HB : Hid (r = .bad a er ∧ Kept (On F) w wN) := ⟨hb,hk⟩
         clear hb hk
         go_wp2_with fail
         exact ⟨rfl,out_bad HB.out.1 HB.out.2⟩
       intro x5 S5 v5 w5 hv hk hf
       obtain ⟨p5,c5,q5,d5,rfl,h1,h2⟩ := hv
       clear HF HR
       have HF := hidF <| (hf.tree h2).tree h1
       clear h1 h2
       clear hf
       have HR : Hid (_ = r) := hk
       clear hk
       go_wp2_with (first | (refine wl_row HF (el := 27) (xc_rep (HF.out.trep 0 rfl) (HF.out.trep 1 rfl)) (bs24 _ _ _ _ _ _ _ _ _ _ _ _ ) ?_; intro wN bR hN; clear HF; have HF := hidF <| hN; clear hN) | (refine wl_store1 HF 0 sv24 ?_; clear HF; intro wN hN; have HF : Hid (FR w F A [(b8,55,#[.string ⟨x1.t.toArray⟩,.string ⟨#[]⟩,.bool left,.slice (some ⟨bR,0,none⟩) 1 1,.int .i64 x1.a]),(b7,40,#[.int .i64 x1.k,.string ⟨x1.t.toArray⟩,.int .i64 x1.n,.int .i64 x1.a]),(b6,55,#[.string ⟨#[]⟩,.string ⟨#[]⟩,.bool false,.slice none 0 0,.int .i64 0])] _ _ wN) := hN; clear hN) | (refine wl_load HF 0 Tryz.underlying55 ?_) | (refine wl_store HF 2 ?_; intro wN hN; clear HF; have HF := hidF <| hN; clear hN))
       refine bodyPost_ret (end_row HF.out 2 rfl rfl rfl Tryz.underlying55 rfl (by kernel_rfl)) rfl ?_
       exact out_ok HR.out.symm HF.out ⟨_,_,rfl,HF.out.rep 0 rfl⟩
theorem key_no {S : PS} (h : S.hd.k ≠ 1 ∧ (S.hd.k ≠ 3 ∨ S.hd.n = 0)) : keyM S = .bad S.hd.a 170 := if_pos h
theorem key_yes {S : PS} (h : ¬ (S.hd.k ≠ 1 ∧ (S.hd.k ≠ 3 ∨ S.hd.n = 0))) : keyM S = (takeM.then fun _ => (skipM [68,69,83,67]).then fun d => (if d then PM.ret true else (skipM [65,83,67]).then fun _ => PM.ret false).then fun _ => PM.ret (⟨S.hd.n,S.hd.t,d,S.hd.a⟩ : Ke)) S := if_neg h
set_option maxHeartbeats 4000000 in
theorem key_does : Does KeR 63 (fun F => #[ptr F]) keyM := by
 intro w F A S hp hA hF hpre hn
 have HF : Hid (FR w F A [] [] S w) := FR.init [] hp hA hF (fun y h => (by cases h))
 obtain ⟨r,hr⟩ : ∃ r,(keyM) S = r := ⟨_,rfl⟩
 have HR : Hid ((keyM) S = r) := hr
 rw [hr] at hn ⊢
 have HN : Hid (r ≠ .out) := hn
 clear hp hA hF hr hn
 go_enter Tryz.func63,Tryz.ntmps63
 go_wp2_with (first | (refine wl_alloc HF al59 ?_; intro wN b2 hN; clear HF; have HF := hidF <| hN; clear hN))
 refine Calls.mono (next_is _ _ _ HF.out.pa) ?_; rintro e wQ ⟨rfl,kQ⟩
 have HF := hidF <| (HF.out).call (kQ.mono (fun i q => q.elim)) ((HF.out).pa.same kQ)
 clear kQ
 obtain ⟨kk,hkk⟩ : ∃ n,S.hd.k = n := ⟨_,rfl⟩
 obtain ⟨nn,hnn⟩ : ∃ n,S.hd.n = n := ⟨_,rfl⟩
 have HKN : Hid (S.hd.k = kk ∧ S.hd.n = nn) := ⟨hkk,hnn⟩
 rw [hkk,hnn]
 clear hkk hnn
 by_cases hc : kk = 1 ∨ (kk = 3 ∧ ¬ nn = 0)
 · have HK : Hid (S.hd.k ≠ 0) := by show _ ≠ _; rw [HKN.out.1]; omega
   replace HR : Hid ((takeM.then fun _ => (skipM [68,69,83,67]).then fun d => (if d then PM.ret true else (skipM [65,83,67]).then fun _ => PM.ret false).then fun _ => PM.ret (⟨S.hd.n,S.hd.t,d,S.hd.a⟩ : Ke)) S = r) := by
    have h := HR.out
    rw [key_yes (by rw [HKN.out.1,HKN.out.2]; omega)] at h
    exact h
   rcases hc with hc | ⟨hc,hn0⟩
   · subst hc
     go_wp2_with fail
     refine DoesI.go (take_does) (HF.out.alloc _ _) (HK.out) HR.out HN.out ?_ ?_
     · intro a er wN hb hk
       have HB : Hid (r = .bad a er ∧ Kept (On F) w wN) := ⟨hb,hk⟩
       clear hb hk
       go_wp2_with fail
       exact ⟨rfl,out_bad HB.out.1 HB.out.2⟩
     intro x1 S1 v1 w1 hv hk hf
     cases hv
     clear HF HR
     have HF := hidF <| hf
     clear hf
     have HR : Hid (_ = r) := hk
     clear hk
     go_wp2_with fail
     refine DoesI.go (skip_does [68,69,83,67]) (HF.out) (trivial) HR.out HN.out ?_ ?_
     · intro a er wN hb hk
       have HB : Hid (r = .bad a er ∧ Kept (On F) w wN) := ⟨hb,hk⟩
       clear hb hk
       go_wp2_with fail
       exact ⟨rfl,out_bad HB.out.1 HB.out.2⟩
     intro x2 S2 v2 w2 hv hk hf
     cases hv
     clear HF HR
     have HF := hidF <| hf
     clear hf
     have HR : Hid (_ = r) := hk
     clear hk
     cases x2 with
     | true =>
       replace HR : Hid ((PM.ret (⟨S.hd.n,S.hd.t,true,S.hd.a⟩ : Ke) S2) = r) := HR.out
       go_wp2_with (first | (refine wl_load1 HF 0 lv3 ?_) | (refine wl_load1 HF 0 lv9 ?_) | (refine wl_store HF 1 ?_; intro wN hN; clear HF; have HF := hidF <| hN; clear hN))
       refine bodyPost_ret (end_row HF.out 1 rfl rfl rfl Tryz.underlying59 rfl (by kernel_rfl)) rfl ?_
       exact out_ok HR.out.symm HF.out (by show _ = _; rw [← HKN.out.2])
     | false =>
       replace HR : Hid (((skipM [65,83,67]).then fun _ => PM.ret (⟨S.hd.n,S.hd.t,false,S.hd.a⟩ : Ke)) S2 = r) := by have h := HR.out; rw [← h]; exact (PM.then_assoc (skipM [65,83,67]) (fun _ => PM.ret false) (fun _ => PM.ret (⟨S.hd.n,S.hd.t,false,S.hd.a⟩ : Ke)) S2).symm
       go_wp2_with fail
       refine DoesI.go (skip_does [65,83,67]) (HF.out) (trivial) HR.out HN.out ?_ ?_
       · intro a er wN hb hk
         have HB : Hid (r = .bad a er ∧ Kept (On F) w wN) := ⟨hb,hk⟩
         clear hb hk
         go_wp2_with fail
         exact ⟨rfl,out_bad HB.out.1 HB.out.2⟩
       intro x3 S3 v3 w3 hv hk hf
       cases hv
       clear HF HR
       have HF := hidF <| hf
       clear hf
       have HR : Hid (_ = r) := hk
       clear hk
       go_wp2_with (first | (refine wl_load1 HF 0 lv3 ?_) | (refine wl_load1 HF 0 lv9 ?_) | (refine wl_store HF 1 ?_; intro wN hN; clear HF; have HF := hidF <| hN; clear hN))
       refine bodyPost_ret (end_row HF.out 1 rfl rfl rfl Tryz.underlying59 rfl (by kernel_rfl)) rfl ?_
       exact out_ok HR.out.symm HF.out (by show _ = _; rw [← HKN.out.2])
   · subst hc
     go_wp2_with fail
     refine DoesI.go (take_does) (HF.out.alloc _ _) (HK.out) HR.out HN.out ?_ ?_
     · intro a er wN hb hk
       have HB : Hid (r = .bad a er ∧ Kept (On F) w wN) := ⟨hb,hk⟩
       clear hb hk
       go_wp2_with fail
       exact ⟨rfl,out_bad HB.out.1 HB.out.2⟩
     intro x1 S1 v1 w1 hv hk hf
     cases hv
     clear HF HR
     have HF := hidF <| hf
     clear hf
     have HR : Hid (_ = r) := hk
     clear hk
     go_wp2_with fail
     refine DoesI.go (skip_does [68,69,83,67]) (HF.out) (trivial) HR.out HN.out ?_ ?_
     · intro a er wN hb hk
       have HB : Hid (r = .bad a er ∧ Kept (On F) w wN) := ⟨hb,hk⟩
       clear hb hk
       go_wp2_with fail
       exact ⟨rfl,out_bad HB.out.1 HB.out.2⟩
     intro x2 S2 v2 w2 hv hk hf
     cases hv
     clear HF HR
     have HF := hidF <| hf
     clear hf
     have HR : Hid (_ = r) := hk
     clear hk
     cases x2 with
     | true =>
       replace HR : Hid ((PM.ret (⟨S.hd.n,S.hd.t,true,S.hd.a⟩ : Ke) S2) = r) := HR.out
       go_wp2_with (first | (refine wl_load1 HF 0 lv3 ?_) | (refine wl_load1 HF 0 lv9 ?_) | (refine wl_store HF 1 ?_; intro wN hN; clear HF; have HF := hidF <| hN; clear hN))
       refine bodyPost_ret (end_row HF.out 1 rfl rfl rfl Tryz.underlying59 rfl (by kernel_rfl)) rfl ?_
       exact out_ok HR.out.symm HF.out (by show _ = _; rw [← HKN.out.2])
     | false =>
       replace HR : Hid (((skipM [65,83,67]).then fun _ => PM.ret (⟨S.hd.n,S.hd.t,false,S.hd.a⟩ : Ke)) S2 = r) := by have h := HR.out; rw [← h]; exact (PM.then_assoc (skipM [65,83,67]) (fun _ => PM.ret false) (fun _ => PM.ret (⟨S.hd.n,S.hd.t,false,S.hd.a⟩ : Ke)) S2).symm
       go_wp2_with fail
       refine DoesI.go (skip_does [65,83,67]) (HF.out) (trivial) HR.out HN.out ?_ ?_
       · intro a er wN hb hk
         have HB : Hid (r = .bad a er ∧ Kept (On F) w wN) := ⟨hb,hk⟩
         clear hb hk
         go_wp2_with fail
         exact ⟨rfl,out_bad HB.out.1 HB.out.2⟩
       intro x3 S3 v3 w3 hv hk hf
       cases hv
       clear HF HR
       have HF := hidF <| hf
       clear hf
       have HR : Hid (_ = r) := hk
       clear hk
       go_wp2_with (first | (refine wl_load1 HF 0 lv3 ?_) | (refine wl_load1 HF 0 lv9 ?_) | (refine wl_store HF 1 ?_; intro wN hN; clear HF; have HF := hidF <| hN; clear hN))
       refine bodyPost_ret (end_row HF.out 1 rfl rfl rfl Tryz.underlying59 rfl (by kernel_rfl)) rfl ?_
       exact out_ok HR.out.symm HF.out (by show _ = _; rw [← HKN.out.2])
 · replace HR : Hid (PR.bad S.hd.a 170 = r) := by
    have h := HR.out
    rw [key_no (by rw [HKN.out.1,HKN.out.2]; omega)] at h
    exact h
   have h1 : ¬ kk = 1 := by omega
   by_cases h3 : kk = 3
   · have h4 : nn = 0 := by omega
     subst h3
     subst h4
     clear hc
     go_wp2_with fail
     refine Calls.mono (refuse_is _ _ _ (HF.out.alloc _ _).pa) ?_; rintro e wR ⟨rfl,kR⟩
     have HB : Hid (Kept (On F) w wR) := (HF.out.alloc _ _).kp.trans (kR.mono (fun i q => q.elim) : Kept (On F) _ _) (fun i q => .inl q)
     clear kR
     go_wp2_with fail
     exact ⟨rfl,out_bad HR.out.symm HB.out⟩
   · clear hc
     go_wp2_with fail
     refine Calls.mono (refuse_is _ _ _ (HF.out.alloc _ _).pa) ?_; rintro e wR ⟨rfl,kR⟩
     have HB : Hid (Kept (On F) w wR) := (HF.out.alloc _ _).kp.trans (kR.mono (fun i q => q.elim) : Kept (On F) _ _) (fun i q => .inl q)
     clear kR
     go_wp2_with fail
     exact ⟨rfl,out_bad HR.out.symm HB.out⟩
end Go.Proofs.YtlgkghebemfpjaaGreatDoor.Pa
