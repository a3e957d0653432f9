/- query. selectOne. -/
import Derived.Test.YtlgkghebemfpjaaGreatDoorQLXs
import Derived.Test.YtlgkghebemfpjaaGreatDoorQJ2
import Derived.Test.YtlgkghebemfpjaaGreatDoorQD1
import Derived.Test.YtlgkghebemfpjaaGreatDoorQD4
namespace Go.Proofs.YtlgkghebemfpjaaGreatDoor.Pa
open Go.ChangeShapes Go.WideShapes Go.ChangeAt Go.RowKit
set_option linter.unusedVariables false
set_option maxRecDepth 100000
def quT (se od : Sl) : PM Qy := (skipM [76,73,77,73,84]).then fun b => (if b then (kindM 3).then fun t => (skipM [79,70,70,83,69,84]).then fun b => if b then (kindM 3).then fun u => PM.ret (t.n,u.n) else PM.ret (t.n,0) else PM.ret ((-1 : Int),(0 : Int))).then fun lo => leaveM.then fun _ => PM.ret ⟨se,od,lo.1,lo.2⟩
theorem qu_eq (E : PM X) (f : Nat) (S : PS) : queryM E f S = (enterM.then fun _ => (selectsM E f).then fun se => (skipM [79,82,68,69,82]).then fun b => (if b then (needM [66,89]).then fun _ => listM Ke.flat 16 keyM commaM f else PM.ret .none).then fun od => quT se od) S := rfl
theorem qu_no (se od : Sl) (S : PS) : quT se od S = ((skipM [76,73,77,73,84]).then fun b => if b then (kindM 3).then fun t => (skipM [79,70,70,83,69,84]).then fun b => if b then (kindM 3).then fun u => leaveM.then fun _ => PM.ret (⟨se,od,t.n,u.n⟩ : Qy) else leaveM.then fun _ => PM.ret ⟨se,od,t.n,0⟩ else leaveM.then fun _ => PM.ret ⟨se,od, -1,0⟩) S := by
 unfold quT
 refine congrArg (fun k => PM.then (skipM [76,73,77,73,84]) k S) (funext fun b => ?_)
 cases b with
 | false => rfl
 | true =>
   funext S1
   refine (PM.then_assoc (kindM 3) _ _ S1).trans ?_
   refine congrArg (fun k => PM.then (kindM 3) k S1) (funext fun t => funext fun S2 => ?_)
   refine (PM.then_assoc (skipM [79,70,70,83,69,84]) _ _ S2).trans ?_
   refine congrArg (fun k => PM.then (skipM [79,70,70,83,69,84]) k S2) (funext fun b => ?_)
   cases b with
   | false => rfl
   | true =>
     funext S3
     exact PM.then_assoc (kindM 3) _ _ S3
set_option maxHeartbeats 8000000 in
theorem query_does (E : PM X) (f : Nat) (hf0 : f ≤ 100000) (HSE : Does SR 59 (fun F => #[ptr F]) (selectsM E f)) : Does QR 31 (fun F => #[ptr F]) (queryM E f) := by
 intro w F A S hp hA hF hpre hn
 have HF : Hid (FR w F A [] [] S w) := FR.init [] hp hA hF (fun y h => (by cases h))
 obtain ⟨r,hr⟩ : ∃ r,(queryM E f) S = r := ⟨_,rfl⟩
 have HR : Hid ((queryM E f) S = r) := hr
 rw [hr] at hn ⊢
 have HN : Hid (r ≠ .out) := hn
 rw [qu_eq] at HR
 clear hp hA hF hr hn
 have hmf : ∀ (fn : Fn) (first cap : Array Value) (w : World),(Instr.makeFunc fn first cap).run Tryz.prog w = .ok (.func fn first cap) w := fun _ _ _ _ => rfl
 have hfd := @fd2
 have HLK : Hid (Does (SN 4) 62 (fun F => #[ptr F,.int .i64 16,.func (.func 63) #[ptr F] #[],.func (.func 64) #[ptr F] #[]]) (listM Ke.flat 16 keyM commaM f)) := list62_does keyM f hf0 key_does
 have HSS : Hid (Does SR 59 (fun F => #[ptr F]) (selectsM E f)) := HSE
 clear HSE hf0
 go_enter Tryz.func31,Tryz.ntmps31
 go_wp2_with (first | (refine wl_alloc HF al44 ?_; intro wN b2 hN; clear HF; have HF := hidF <| hN; clear hN))
 refine DoesI.go (enter_does) (HF.out) (trivial) HR.out HN.out ?_ ?_
 · intro a er wN hb hk
   have HB : Hid (r = .bad a er ∧ Kept (On F) w wN) := ⟨hb,hk⟩
   clear hb hk
   go_wp2_with fail
   exact ⟨rfl,out_bad HB.out.1 HB.out.2⟩
 intro x1 S1 v1 w1 hv hk hf
 cases hv
 clear HF HR
 have HF := hidF <| hf
 clear hf
 have HR : Hid (_ = r) := hk
 clear hk
 go_wp2_with fail
 refine DoesI.go (HSS.out) (HF.out) (trivial) HR.out HN.out ?_ ?_
 · intro a er wN hb hk
   have HB : Hid (r = .bad a er ∧ Kept (On F) w wN) := ⟨hb,hk⟩
   clear hb hk
   go_wp2_with fail
   exact ⟨rfl,out_bad HB.out.1 HB.out.2⟩
 intro x2 S2 v2 w2 hv hk hf
 obtain ⟨p2,c2,rfl,h1⟩ := hv
 clear HF HR
 have HF := hidF <| hf.tree h1
 clear h1
 clear hf
 have HR : Hid (_ = r) := hk
 clear hk
 go_wp2_with (first | (refine wl_alloc HF al44 ?_; intro wN b3 hN; clear HF; have HF := hidF <| hN; clear hN) | (refine wl_store HF 0 ?_; intro wN hN; clear HF; have HF := hidF <| hN; clear hN))
 refine DoesI.go (skip_does [79,82,68,69,82]) (HF.out) (trivial) HR.out HN.out ?_ ?_
 · intro a er wN hb hk
   have HB : Hid (r = .bad a er ∧ Kept (On F) w wN) := ⟨hb,hk⟩
   clear hb hk
   go_wp2_with fail
   exact ⟨rfl,out_bad HB.out.1 HB.out.2⟩
 intro x3 S3 v3 w3 hv hk hf
 cases hv
 clear HF HR
 have HF := hidF <| hf
 clear hf
 have HR : Hid (_ = r) := hk
 clear hk
 replace HF : Hid (FR w F A [(b3,44,#[.slice p2 x2.n c2,.slice none 0 0,.int .i64 (-1),.int .i64 0]),(b2,44,#[.slice none 0 0,.slice none 0 0,.int .i64 0,.int .i64 0])] _ S3 w3) := HF.out
 cases x3 with
 | false =>
   replace HR : Hid (quT x2 Sl.none S3 = r) := HR.out
   rw [qu_no] at HR
   go_wp2_with fail
   refine DoesI.go (skip_does [76,73,77,73,84]) (HF.out) (trivial) HR.out HN.out ?_ ?_
   · intro a er wN hb hk
     have HB : Hid (r = .bad a er ∧ Kept (On F) w wN) := ⟨hb,hk⟩
     clear hb hk
     go_wp2_with fail
     exact ⟨rfl,out_bad HB.out.1 HB.out.2⟩
   intro x4 S4 v4 w4 hv hk hf
   cases hv
   clear HF HR
   have HF := hidF <| hf
   clear hf
   have HR : Hid (_ = r) := hk
   clear hk
   replace HF : Hid (FR w F A [(b3,44,#[.slice p2 x2.n c2,.slice none 0 0,.int .i64 (-1),.int .i64 0]),(b2,44,#[.slice none 0 0,.slice none 0 0,.int .i64 0,.int .i64 0])] _ S4 w4) := HF.out
   cases x4 with
   | false =>
     replace HR : Hid ((leaveM.then fun _ => PM.ret (⟨x2,Sl.none, -1,0⟩ : Qy)) S4 = r) := HR.out
     go_wp2_with fail
     refine DoesI.go (leave_does) (HF.out) (trivial) HR.out HN.out ?_ ?_
     · intro a er wN hb hk
       have HB : Hid (r = .bad a er ∧ Kept (On F) w wN) := ⟨hb,hk⟩
       clear hb hk
       go_wp2_with fail
       exact ⟨rfl,out_bad HB.out.1 HB.out.2⟩
     intro x5 S5 v5 w5 hv hk hf
     cases hv
     clear HF HR
     have HF := hidF <| hf
     clear hf
     have HR : Hid (_ = r) := hk
     clear hk
     go_wp2_with (first | (refine wl_load HF 0 Tryz.underlying44 ?_) | (refine wl_store HF 1 ?_; intro wN hN; clear HF; have HF := hidF <| hN; clear hN))
     refine bodyPost_ret (end_row HF.out 1 rfl rfl rfl Tryz.underlying44 rfl (by kernel_rfl)) rfl ?_
     exact out_ok HR.out.symm HF.out ⟨_,_,_,_,rfl,HF.out.rep 0 rfl,Rep.nil none 0⟩
   | true =>
     replace HR : Hid (((kindM 3).then fun t => (skipM [79,70,70,83,69,84]).then fun b => if b then (kindM 3).then fun u => leaveM.then fun _ => PM.ret (⟨x2,Sl.none,t.n,u.n⟩ : Qy) else leaveM.then fun _ => PM.ret (⟨x2,Sl.none,t.n,0⟩ : Qy)) S4 = r) := HR.out
     go_wp2_with fail
     refine DoesI.go (kind_does 3 (by decide)) (HF.out) (trivial) HR.out HN.out ?_ ?_
     · intro a er wN hb hk
       have HB : Hid (r = .bad a er ∧ Kept (On F) w wN) := ⟨hb,hk⟩
       clear hb hk
       go_wp2_with fail
       exact ⟨rfl,out_bad HB.out.1 HB.out.2⟩
     intro x5 S5 v5 w5 hv hk hf
     cases hv
     clear HF HR
     have HF := hidF <| hf
     clear hf
     have HR : Hid (_ = r) := hk
     clear hk
     go_wp2_with (first | (refine wl_store1 HF 0 sv3 ?_; clear HF; intro wN hN; have HF : Hid (FR w F A [(b3,44,#[.slice p2 x2.n c2,.slice none 0 0,.int .i64 x5.n,.int .i64 0]),(b2,44,#[.slice none 0 0,.slice none 0 0,.int .i64 0,.int .i64 0])] _ _ wN) := hN; clear hN))
     refine DoesI.go (skip_does [79,70,70,83,69,84]) (HF.out) (trivial) HR.out HN.out ?_ ?_
     · intro a er wN hb hk
       have HB : Hid (r = .bad a er ∧ Kept (On F) w wN) := ⟨hb,hk⟩
       clear hb hk
       go_wp2_with fail
       exact ⟨rfl,out_bad HB.out.1 HB.out.2⟩
     intro x6 S6 v6 w6 hv hk hf
     cases hv
     clear HF HR
     have HF := hidF <| hf
     clear hf
     have HR : Hid (_ = r) := hk
     clear hk
     cases x6 with
     | false =>
       replace HR : Hid ((leaveM.then fun _ => PM.ret (⟨x2,Sl.none,x5.n,0⟩ : Qy)) S6 = r) := HR.out
       go_wp2_with fail
       refine DoesI.go (leave_does) (HF.out) (trivial) HR.out HN.out ?_ ?_
       · intro a er wN hb hk
         have HB : Hid (r = .bad a er ∧ Kept (On F) w wN) := ⟨hb,hk⟩
         clear hb hk
         go_wp2_with fail
         exact ⟨rfl,out_bad HB.out.1 HB.out.2⟩
       intro x7 S7 v7 w7 hv hk hf
       cases hv
       clear HF HR
       have HF := hidF <| hf
       clear hf
       have HR : Hid (_ = r) := hk
       clear hk
       go_wp2_with (first | (refine wl_load HF 0 Tryz.underlying44 ?_) | (refine wl_store HF 1 ?_; intro wN hN; clear HF; have HF := hidF <| hN; clear hN))
       refine bodyPost_ret (end_row HF.out 1 rfl rfl rfl Tryz.underlying44 rfl (by kernel_rfl)) rfl ?_
       exact out_ok HR.out.symm HF.out ⟨_,_,_,_,rfl,HF.out.rep 0 rfl,Rep.nil none 0⟩
     | true =>
       replace HR : Hid (((kindM 3).then fun u => leaveM.then fun _ => PM.ret (⟨x2,Sl.none,x5.n,u.n⟩ : Qy)) S6 = r) := HR.out
       go_wp2_with fail
       refine DoesI.go (kind_does 3 (by decide)) (HF.out) (trivial) HR.out HN.out ?_ ?_
       · intro a er wN hb hk
         have HB : Hid (r = .bad a er ∧ Kept (On F) w wN) := ⟨hb,hk⟩
         clear hb hk
         go_wp2_with fail
         exact ⟨rfl,out_bad HB.out.1 HB.out.2⟩
       intro x7 S7 v7 w7 hv hk hf
       cases hv
       clear HF HR
       have HF := hidF <| hf
       clear hf
       have HR : Hid (_ = r) := hk
       clear hk
       go_wp2_with (first | (refine wl_store1 HF 0 sv3 ?_; clear HF; intro wN hN; have HF : Hid (FR w F A [(b3,44,#[.slice p2 x2.n c2,.slice none 0 0,.int .i64 x5.n,.int .i64 x7.n]),(b2,44,#[.slice none 0 0,.slice none 0 0,.int .i64 0,.int .i64 0])] _ _ wN) := hN; clear hN))
       refine DoesI.go (leave_does) (HF.out) (trivial) HR.out HN.out ?_ ?_
       · intro a er wN hb hk
         have HB : Hid (r = .bad a er ∧ Kept (On F) w wN) := ⟨hb,hk⟩
         clear hb hk
         go_wp2_with fail
         exact ⟨rfl,out_bad HB.out.1 HB.out.2⟩
       intro x8 S8 v8 w8 hv hk hf
       cases hv
       clear HF HR
       have HF := hidF <| hf
       clear hf
       have HR : Hid (_ = r) := hk
       clear hk
       go_wp2_with (first | (refine wl_load HF 0 Tryz.underlying44 ?_) | (refine wl_store HF 1 ?_; intro wN hN; clear HF; have HF := hidF <| hN; clear hN))
       refine bodyPost_ret (end_row HF.out 1 rfl rfl rfl Tryz.underlying44 rfl (by kernel_rfl)) rfl ?_
       exact out_ok HR.out.symm HF.out ⟨_,_,_,_,rfl,HF.out.rep 0 rfl,Rep.nil none 0⟩
 | true =>
   replace HR : Hid (((needM [66,89]).then fun _ => (listM Ke.flat 16 keyM commaM f).then fun od => quT x2 od) S3 = r) := by
    have h := HR.out
    rw [← h]
    exact (PM.then_assoc _ _ _ _).symm
   go_wp2_with fail
   refine DoesI.go (need_does [66,89]) (HF.out) (trivial) HR.out HN.out ?_ ?_
   · intro a er wN hb hk
     have HB : Hid (r = .bad a er ∧ Kept (On F) w wN) := ⟨hb,hk⟩
     clear hb hk
     go_wp2_with fail
     exact ⟨rfl,out_bad HB.out.1 HB.out.2⟩
   intro x4 S4 v4 w4 hv hk hf
   cases hv
   clear HF HR
   have HF := hidF <| hf
   clear hf
   have HR : Hid (_ = r) := hk
   clear hk
   go_wp2_with fail
   refine DoesI.go (HLK.out) (HF.out) (trivial) HR.out HN.out ?_ ?_
   · intro a er wN hb hk
     have HB : Hid (r = .bad a er ∧ Kept (On F) w wN) := ⟨hb,hk⟩
     clear hb hk
     go_wp2_with fail
     exact ⟨rfl,out_bad HB.out.1 HB.out.2⟩
   intro x5 S5 v5 w5 hv hk hf
   obtain ⟨⟨p5,c5,rfl,h1⟩,_,_,_⟩ := hv
   clear HF HR
   have HF := hidF <| hf.tree h1
   clear h1
   clear hf
   have HR : Hid (_ = r) := hk
   clear hk
   replace HR : Hid (quT x2 x5 S5 = r) := HR.out
   rw [qu_no] at HR
   go_wp2_with (first | (refine wl_store1 HF 0 sv42 ?_; clear HF; intro wN hN; have HF : Hid (FR w F A [(b3,44,#[.slice p2 x2.n c2,.slice p5 x5.n c5,.int .i64 (-1),.int .i64 0]),(b2,44,#[.slice none 0 0,.slice none 0 0,.int .i64 0,.int .i64 0])] _ _ wN) := hN; clear hN))
   refine DoesI.go (skip_does [76,73,77,73,84]) (HF.out) (trivial) HR.out HN.out ?_ ?_
   · intro a er wN hb hk
     have HB : Hid (r = .bad a er ∧ Kept (On F) w wN) := ⟨hb,hk⟩
     clear hb hk
     go_wp2_with fail
     exact ⟨rfl,out_bad HB.out.1 HB.out.2⟩
   intro x6 S6 v6 w6 hv hk hf
   cases hv
   clear HF HR
   have HF := hidF <| hf
   clear hf
   have HR : Hid (_ = r) := hk
   clear hk
   replace HF : Hid (FR w F A [(b3,44,#[.slice p2 x2.n c2,.slice p5 x5.n c5,.int .i64 (-1),.int .i64 0]),(b2,44,#[.slice none 0 0,.slice none 0 0,.int .i64 0,.int .i64 0])] _ S6 w6) := HF.out
   cases x6 with
   | false =>
     replace HR : Hid ((leaveM.then fun _ => PM.ret (⟨x2,x5, -1,0⟩ : Qy)) S6 = r) := HR.out
     go_wp2_with fail
     refine DoesI.go (leave_does) (HF.out) (trivial) HR.out HN.out ?_ ?_
     · intro a er wN hb hk
       have HB : Hid (r = .bad a er ∧ Kept (On F) w wN) := ⟨hb,hk⟩
       clear hb hk
       go_wp2_with fail
       exact ⟨rfl,out_bad HB.out.1 HB.out.2⟩
     intro x7 S7 v7 w7 hv hk hf
     cases hv
     clear HF HR
     have HF := hidF <| hf
     clear hf
     have HR : Hid (_ = r) := hk
     clear hk
     go_wp2_with (first | (refine wl_load HF 0 Tryz.underlying44 ?_) | (refine wl_store HF 1 ?_; intro wN hN; clear HF; have HF := hidF <| hN; clear hN))
     refine bodyPost_ret (end_row HF.out 1 rfl rfl rfl Tryz.underlying44 rfl (by kernel_rfl)) rfl ?_
     exact out_ok HR.out.symm HF.out ⟨_,_,_,_,rfl,HF.out.rep 1 rfl,HF.out.rep 0 rfl⟩
   | true =>
     replace HR : Hid (((kindM 3).then fun t => (skipM [79,70,70,83,69,84]).then fun b => if b then (kindM 3).then fun u => leaveM.then fun _ => PM.ret (⟨x2,x5,t.n,u.n⟩ : Qy) else leaveM.then fun _ => PM.ret (⟨x2,x5,t.n,0⟩ : Qy)) S6 = r) := HR.out
     go_wp2_with fail
     refine DoesI.go (kind_does 3 (by decide)) (HF.out) (trivial) HR.out HN.out ?_ ?_
     · intro a er wN hb hk
       have HB : Hid (r = .bad a er ∧ Kept (On F) w wN) := ⟨hb,hk⟩
       clear hb hk
       go_wp2_with fail
       exact ⟨rfl,out_bad HB.out.1 HB.out.2⟩
     intro x7 S7 v7 w7 hv hk hf
     cases hv
     clear HF HR
     have HF := hidF <| hf
     clear hf
     have HR : Hid (_ = r) := hk
     clear hk
     go_wp2_with (first | (refine wl_store1 HF 0 sv3 ?_; clear HF; intro wN hN; have HF : Hid (FR w F A [(b3,44,#[.slice p2 x2.n c2,.slice p5 x5.n c5,.int .i64 x7.n,.int .i64 0]),(b2,44,#[.slice none 0 0,.slice none 0 0,.int .i64 0,.int .i64 0])] _ _ wN) := hN; clear hN))
     refine DoesI.go (skip_does [79,70,70,83,69,84]) (HF.out) (trivial) HR.out HN.out ?_ ?_
     · intro a er wN hb hk
       have HB : Hid (r = .bad a er ∧ Kept (On F) w wN) := ⟨hb,hk⟩
       clear hb hk
       go_wp2_with fail
       exact ⟨rfl,out_bad HB.out.1 HB.out.2⟩
     intro x8 S8 v8 w8 hv hk hf
     cases hv
     clear HF HR
     have HF := hidF <| hf
     clear hf
     have HR : Hid (_ = r) := hk
     clear hk
     cases x8 with
     | false =>
       replace HR : Hid ((leaveM.then fun _ => PM.ret (⟨x2,x5,x7.n,0⟩ : Qy)) S8 = r) := HR.out
       go_wp2_with fail
       refine DoesI.go (leave_does) (HF.out) (trivial) HR.out HN.out ?_ ?_
       · intro a er wN hb hk
         have HB : Hid (r = .bad a er ∧ Kept (On F) w wN) := ⟨hb,hk⟩
         clear hb hk
         go_wp2_with fail
         exact ⟨rfl,out_bad HB.out.1 HB.out.2⟩
       intro x9 S9 v9 w9 hv hk hf
       cases hv
       clear HF HR
       have HF := hidF <| hf
       clear hf
       have HR : Hid (_ = r) := hk
       clear hk
       go_wp2_with (first | (refine wl_load HF 0 Tryz.underlying44 ?_) | (refine wl_store HF 1 ?_; intro wN hN; clear HF; have HF := hidF <| hN; clear hN))
       refine bodyPost_ret (end_row HF.out 1 rfl rfl rfl Tryz.underlying44 rfl (by kernel_rfl)) rfl ?_
       exact out_ok HR.out.symm HF.out ⟨_,_,_,_,rfl,HF.out.rep 1 rfl,HF.out.rep 0 rfl⟩
     | true =>
       replace HR : Hid (((kindM 3).then fun u => leaveM.then fun _ => PM.ret (⟨x2,x5,x7.n,u.n⟩ : Qy)) S8 = r) := HR.out
       go_wp2_with fail
       refine DoesI.go (kind_does 3 (by decide)) (HF.out) (trivial) HR.out HN.out ?_ ?_
       · intro a er wN hb hk
         have HB : Hid (r = .bad a er ∧ Kept (On F) w wN) := ⟨hb,hk⟩
         clear hb hk
         go_wp2_with fail
         exact ⟨rfl,out_bad HB.out.1 HB.out.2⟩
       intro x9 S9 v9 w9 hv hk hf
       cases hv
       clear HF HR
       have HF := hidF <| hf
       clear hf
       have HR : Hid (_ = r) := hk
       clear hk
       go_wp2_with (first | (refine wl_store1 HF 0 sv3 ?_; clear HF; intro wN hN; have HF : Hid (FR w F A [(b3,44,#[.slice p2 x2.n c2,.slice p5 x5.n c5,.int .i64 x7.n,.int .i64 x9.n]),(b2,44,#[.slice none 0 0,.slice none 0 0,.int .i64 0,.int .i64 0])] _ _ wN) := hN; clear hN))
       refine DoesI.go (leave_does) (HF.out) (trivial) HR.out HN.out ?_ ?_
       · intro a er wN hb hk
         have HB : Hid (r = .bad a er ∧ Kept (On F) w wN) := ⟨hb,hk⟩
         clear hb hk
         go_wp2_with fail
         exact ⟨rfl,out_bad HB.out.1 HB.out.2⟩
       intro x10 S10 v10 w10 hv hk hf
       cases hv
       clear HF HR
       have HF := hidF <| hf
       clear hf
       have HR : Hid (_ = r) := hk
       clear hk
       go_wp2_with (first | (refine wl_load HF 0 Tryz.underlying44 ?_) | (refine wl_store HF 1 ?_; intro wN hN; clear HF; have HF := hidF <| hN; clear hN))
       refine bodyPost_ret (end_row HF.out 1 rfl rfl rfl Tryz.underlying44 rfl (by kernel_rfl)) rfl ?_
       exact out_ok HR.out.symm HF.out ⟨_,_,_,_,rfl,HF.out.rep 1 rfl,HF.out.rep 0 rfl⟩
def SeR (A : Nat → Prop) (w : World) (v : Value) (x : Se) : Prop := ∃ p1 c1 p2 c2 p3 c3 p4 c4 p5 c5,v = .agg #[.int .i64 x.how,.bool x.di,.slice p1 x.it.n c1,.slice p2 x.fr.n c2,.slice p3 x.wh.n c3,.slice p4 x.gr.n c4,.slice p5 x.hv.n c5] ∧ Rep A w (.slice p1 x.it.n c1) x.it.dt ∧ Rep A w (.slice p2 x.fr.n c2) x.fr.dt ∧ Rep A w (.slice p3 x.wh.n c3) x.wh.dt ∧ Rep A w (.slice p4 x.gr.n c4) x.gr.dt ∧ Rep A w (.slice p5 x.hv.n c5) x.hv.dt
theorem se_rep {A : Nat → Prop} {w : World} {x : Se} {a b c d e : Value} (h1 : Rep A w a x.it.dt) (h2 : Rep A w b x.fr.dt) (h3 : Rep A w c x.wh.dt) (h4 : Rep A w d x.gr.dt) (h5 : Rep A w e x.hv.dt) : RepL A w [.int .i64 x.how,.bool x.di,a,b,c,d,e] x.flat := .cons (.i _) (.cons (.b _) (.cons h1 (.cons h2 (.cons h3 (.cons h4 (.cons h5 .nil))))))
def seT1 (E : PM X) (f : Nat) (how : Int) (di : Bool) (it fr : Sl) : PM Se := (conditionM E [87,72,69,82,69]).then fun wh => (skipM [71,82,79,85,80]).then fun b => (if b then (needM [66,89]).then fun _ => exprsM E f else PM.ret .none).then fun gr => (conditionM E [72,65,86,73,78,71]).then fun hv => PM.ret ⟨how,di,it,fr,wh,gr,hv⟩
theorem se_eq (E : PM X) (f : Nat) (how : Int) (S : PS) : selectOneM E f how S = ((needM [83,69,76,69,67,84]).then fun _ => (skipM [68,73,83,84,73,78,67,84]).then fun di => (listM It.flat 16 (itemM E) commaM f).then fun it => (skipM [70,82,79,77]).then fun b => (if b then sourcesM E f else PM.ret .none).then fun fr => seT1 E f how di it fr) S := rfl
set_option maxHeartbeats 8000000 in
theorem selectOne_does (E : PM X) (f : Nat) (hf0 : f ≤ 100000) (how : Int) (HE : Does XR 19 (fun F => #[ptr F]) E) (HSO : Does SR 123 (fun F => #[ptr F]) (sourcesM E f)) : Does SeR 88 (fun F => #[ptr F,.int .i64 how]) (selectOneM E f how) := by
 intro w F A S hp hA hF hpre hn
 have HF : Hid (FR w F A [] [] S w) := FR.init [] hp hA hF (fun y h => (by cases h))
 obtain ⟨r,hr⟩ : ∃ r,(selectOneM E f how) S = r := ⟨_,rfl⟩
 have HR : Hid ((selectOneM E f how) S = r) := hr
 rw [hr] at hn ⊢
 have HN : Hid (r ≠ .out) := hn
 rw [se_eq] at HR
 clear hp hA hF hr hn
 have hmf : ∀ (fn : Fn) (first cap : Array Value) (w : World),(Instr.makeFunc fn first cap).run Tryz.prog w = .ok (.func fn first cap) w := fun _ _ _ _ => rfl
 have HIL : Hid (Does (SN 14) 121 (fun F => #[ptr F,.int .i64 16,.func (.func 122) #[ptr F] #[],.func (.func 64) #[ptr F] #[]]) (listM It.flat 16 (itemM E) commaM f)) := list121_does (itemM E) f hf0 (item_does E HE)
 have HLS : Hid (Does (SN 12) 125 (fun F => #[ptr F,.int .i64 16,.func (.func 19) #[ptr F] #[],.func (.func 64) #[ptr F] #[]]) (exprsM E f)) := list125_does E f hf0 HE
 have HCO : Hid (∀ wd : List UInt8,Does SR 124 (fun F => #[ptr F,.string ⟨wd.toArray⟩]) (conditionM E wd)) := fun wd => condition_does E wd HE
 have HSS : Hid (Does SR 123 (fun F => #[ptr F]) (sourcesM E f)) := HSO
 clear HE HSO hf0
 go_enter Tryz.func88,Tryz.ntmps88
 go_wp2_with (first | (refine wl_alloc HF al53 ?_; intro wN b4 hN; clear HF; have HF := hidF <| hN; clear hN))
 refine DoesI.go (need_does [83,69,76,69,67,84]) (HF.out) (trivial) HR.out HN.out ?_ ?_
 · intro a er wN hb hk
   have HB : Hid (r = .bad a er ∧ Kept (On F) w wN) := ⟨hb,hk⟩
   clear hb hk
   go_wp2_with fail
   exact ⟨rfl,out_bad HB.out.1 HB.out.2⟩
 intro x1 S1 v1 w1 hv hk hf
 cases hv
 clear HF HR
 have HF := hidF <| hf
 clear hf
 have HR : Hid (_ = r) := hk
 clear hk
 go_wp2_with fail
 refine DoesI.go (skip_does [68,73,83,84,73,78,67,84]) (HF.out) (trivial) HR.out HN.out ?_ ?_
 · intro a er wN hb hk
   have HB : Hid (r = .bad a er ∧ Kept (On F) w wN) := ⟨hb,hk⟩
   clear hb hk
   go_wp2_with fail
   exact ⟨rfl,out_bad HB.out.1 HB.out.2⟩
 intro x2 S2 v2 w2 hv hk hf
 cases hv
 clear HF HR
 have HF := hidF <| hf
 clear hf
 have HR : Hid (_ = r) := hk
 clear hk
 go_wp2_with (first | (refine wl_alloc HF al53 ?_; intro wN b5 hN; clear HF; have HF := hidF <| hN; clear hN) | (refine wl_store HF 0 ?_; intro wN hN; clear HF; have HF := hidF <| hN; clear hN))
 refine DoesI.go (HIL.out) (HF.out) (trivial) HR.out HN.out ?_ ?_
 · intro a er wN hb hk
   have HB : Hid (r = .bad a er ∧ Kept (On F) w wN) := ⟨hb,hk⟩
   clear hb hk
   go_wp2_with fail
   exact ⟨rfl,out_bad HB.out.1 HB.out.2⟩
 intro x3 S3 v3 w3 hv hk hf
 obtain ⟨⟨p3,c3,rfl,h1⟩,_,_,_⟩ := hv
 clear HF HR
 have HF := hidF <| hf.tree h1
 clear h1
 clear hf
 have HR : Hid (_ = r) := hk
 clear hk
 go_wp2_with (first | (refine wl_store1 HF 0 sv50 ?_; clear HF; intro wN hN; have HF : Hid (FR w F A [(b5,53,#[.int .i64 how,.bool x2,.slice p3 x3.n c3,.slice none 0 0,.slice none 0 0,.slice none 0 0,.slice none 0 0]),(b4,53,#[.int .i64 0,.bool false,.slice none 0 0,.slice none 0 0,.slice none 0 0,.slice none 0 0,.slice none 0 0])] _ _ wN) := hN; clear hN))
 refine DoesI.go (skip_does [70,82,79,77]) (HF.out) (trivial) HR.out HN.out ?_ ?_
 · intro a er wN hb hk
   have HB : Hid (r = .bad a er ∧ Kept (On F) w wN) := ⟨hb,hk⟩
   clear hb hk
   go_wp2_with fail
   exact ⟨rfl,out_bad HB.out.1 HB.out.2⟩
 intro x4 S4 v4 w4 hv hk hf
 cases hv
 clear HF HR
 have HF := hidF <| hf
 clear hf
 have HR : Hid (_ = r) := hk
 clear hk
 replace HF : Hid (FR w F A [(b5,53,#[.int .i64 how,.bool x2,.slice p3 x3.n c3,.slice none 0 0,.slice none 0 0,.slice none 0 0,.slice none 0 0]),(b4,53,#[.int .i64 0,.bool false,.slice none 0 0,.slice none 0 0,.slice none 0 0,.slice none 0 0,.slice none 0 0])] _ S4 w4) := HF.out
 cases x4 with
 | false =>
   replace HR : Hid (seT1 E f how x2 x3 .none S4 = r) := HR.out
   replace HR : Hid (((conditionM E [87,72,69,82,69]).then fun wh => (skipM [71,82,79,85,80]).then fun b => (if b then (needM [66,89]).then fun _ => exprsM E f else PM.ret .none).then fun gr => (conditionM E [72,65,86,73,78,71]).then fun hv => PM.ret (⟨how,x2,x3,Sl.none,wh,gr,hv⟩ : Se)) S4 = r) := HR.out
   go_wp2_with fail
   refine DoesI.go (HCO.out [87,72,69,82,69]) (HF.out) (trivial) HR.out HN.out ?_ ?_
   · intro a er wN hb hk
     have HB : Hid (r = .bad a er ∧ Kept (On F) w wN) := ⟨hb,hk⟩
     clear hb hk
     go_wp2_with fail
     exact ⟨rfl,out_bad HB.out.1 HB.out.2⟩
   intro x5 S5 v5 w5 hv hk hf
   obtain ⟨p5,c5,rfl,h1⟩ := hv
   clear HF HR
   have HF := hidF <| hf.tree h1
   clear h1
   clear hf
   have HR : Hid (_ = r) := hk
   clear hk
   go_wp2_with (first | (refine wl_store1 HF 0 sv24 ?_; clear HF; intro wN hN; have HF : Hid (FR w F A [(b5,53,#[.int .i64 how,.bool x2,.slice p3 x3.n c3,.slice none 0 0,.slice p5 x5.n c5,.slice none 0 0,.slice none 0 0]),(b4,53,#[.int .i64 0,.bool false,.slice none 0 0,.slice none 0 0,.slice none 0 0,.slice none 0 0,.slice none 0 0])] _ _ wN) := hN; clear hN))
   refine DoesI.go (skip_does [71,82,79,85,80]) (HF.out) (trivial) HR.out HN.out ?_ ?_
   · intro a er wN hb hk
     have HB : Hid (r = .bad a er ∧ Kept (On F) w wN) := ⟨hb,hk⟩
     clear hb hk
     go_wp2_with fail
     exact ⟨rfl,out_bad HB.out.1 HB.out.2⟩
   intro x6 S6 v6 w6 hv hk hf
   cases hv
   clear HF HR
   have HF := hidF <| hf
   clear hf
   have HR : Hid (_ = r) := hk
   clear hk
   replace HF : Hid (FR w F A [(b5,53,#[.int .i64 how,.bool x2,.slice p3 x3.n c3,.slice none 0 0,.slice p5 x5.n c5,.slice none 0 0,.slice none 0 0]),(b4,53,#[.int .i64 0,.bool false,.slice none 0 0,.slice none 0 0,.slice none 0 0,.slice none 0 0,.slice none 0 0])] _ S6 w6) := HF.out
   cases x6 with
   | false =>
     replace HR : Hid (((conditionM E [72,65,86,73,78,71]).then fun hv => PM.ret (⟨how,x2,x3,Sl.none,x5,Sl.none,hv⟩ : Se)) S6 = r) := HR.out
     go_wp2_with fail
     refine DoesI.go (HCO.out [72,65,86,73,78,71]) (HF.out) (trivial) HR.out HN.out ?_ ?_
     · intro a er wN hb hk
       have HB : Hid (r = .bad a er ∧ Kept (On F) w wN) := ⟨hb,hk⟩
       clear hb hk
       go_wp2_with fail
       exact ⟨rfl,out_bad HB.out.1 HB.out.2⟩
     intro x7 S7 v7 w7 hv hk hf
     obtain ⟨p7,c7,rfl,h1⟩ := hv
     clear HF HR
     have HF := hidF <| hf.tree h1
     clear h1
     clear hf
     have HR : Hid (_ = r) := hk
     clear hk
     go_wp2_with (first | (refine wl_store1 HF 0 sv24 ?_; clear HF; intro wN hN; have HF : Hid (FR w F A [(b5,53,#[.int .i64 how,.bool x2,.slice p3 x3.n c3,.slice none 0 0,.slice p5 x5.n c5,.slice none 0 0,.slice p7 x7.n c7]),(b4,53,#[.int .i64 0,.bool false,.slice none 0 0,.slice none 0 0,.slice none 0 0,.slice none 0 0,.slice none 0 0])] _ _ wN) := hN; clear hN) | (refine wl_load HF 0 Tryz.underlying53 ?_) | (refine wl_store HF 1 ?_; intro wN hN; clear HF; have HF := hidF <| hN; clear hN))
     refine bodyPost_ret (end_row HF.out 1 rfl rfl rfl Tryz.underlying53 rfl (by kernel_rfl)) rfl ?_
     exact out_ok HR.out.symm HF.out ⟨_,_,_,_,_,_,_,_,_,_,rfl,HF.out.rep 2 rfl,Rep.nil none 0,HF.out.rep 1 rfl,Rep.nil none 0,HF.out.rep 0 rfl⟩
   | true =>
     replace HR : Hid (((needM [66,89]).then fun _ => (exprsM E f).then fun gr => (conditionM E [72,65,86,73,78,71]).then fun hv => PM.ret (⟨how,x2,x3,Sl.none,x5,gr,hv⟩ : Se)) S6 = r) := by
      have h := HR.out
      rw [← h]
      exact (PM.then_assoc _ _ _ _).symm
     go_wp2_with fail
     refine DoesI.go (need_does [66,89]) (HF.out) (trivial) HR.out HN.out ?_ ?_
     · intro a er wN hb hk
       have HB : Hid (r = .bad a er ∧ Kept (On F) w wN) := ⟨hb,hk⟩
       clear hb hk
       go_wp2_with fail
       exact ⟨rfl,out_bad HB.out.1 HB.out.2⟩
     intro x7 S7 v7 w7 hv hk hf
     cases hv
     clear HF HR
     have HF := hidF <| hf
     clear hf
     have HR : Hid (_ = r) := hk
     clear hk
     go_wp2_with fail
     refine DoesI.go (HLS.out) (HF.out) (trivial) HR.out HN.out ?_ ?_
     · intro a er wN hb hk
       have HB : Hid (r = .bad a er ∧ Kept (On F) w wN) := ⟨hb,hk⟩
       clear hb hk
       go_wp2_with fail
       exact ⟨rfl,out_bad HB.out.1 HB.out.2⟩
     intro x8 S8 v8 w8 hv hk hf
     obtain ⟨⟨p8,c8,rfl,h1⟩,_,_,_⟩ := hv
     clear HF HR
     have HF := hidF <| hf.tree h1
     clear h1
     clear hf
     have HR : Hid (_ = r) := hk
     clear hk
     replace HR : Hid (((conditionM E [72,65,86,73,78,71]).then fun hv => PM.ret (⟨how,x2,x3,Sl.none,x5,x8,hv⟩ : Se)) S8 = r) := HR.out
     go_wp2_with (first | (refine wl_store1 HF 0 sv24 ?_; clear HF; intro wN hN; have HF : Hid (FR w F A [(b5,53,#[.int .i64 how,.bool x2,.slice p3 x3.n c3,.slice none 0 0,.slice p5 x5.n c5,.slice p8 x8.n c8,.slice none 0 0]),(b4,53,#[.int .i64 0,.bool false,.slice none 0 0,.slice none 0 0,.slice none 0 0,.slice none 0 0,.slice none 0 0])] _ _ wN) := hN; clear hN))
     refine DoesI.go (HCO.out [72,65,86,73,78,71]) (HF.out) (trivial) HR.out HN.out ?_ ?_
     · intro a er wN hb hk
       have HB : Hid (r = .bad a er ∧ Kept (On F) w wN) := ⟨hb,hk⟩
       clear hb hk
       go_wp2_with fail
       exact ⟨rfl,out_bad HB.out.1 HB.out.2⟩
     intro x9 S9 v9 w9 hv hk hf
     obtain ⟨p9,c9,rfl,h1⟩ := hv
     clear HF HR
     have HF := hidF <| hf.tree h1
     clear h1
     clear hf
     have HR : Hid (_ = r) := hk
     clear hk
     go_wp2_with (first | (refine wl_store1 HF 0 sv24 ?_; clear HF; intro wN hN; have HF : Hid (FR w F A [(b5,53,#[.int .i64 how,.bool x2,.slice p3 x3.n c3,.slice none 0 0,.slice p5 x5.n c5,.slice p8 x8.n c8,.slice p9 x9.n c9]),(b4,53,#[.int .i64 0,.bool false,.slice none 0 0,.slice none 0 0,.slice none 0 0,.slice none 0 0,.slice none 0 0])] _ _ wN) := hN; clear hN) | (refine wl_load HF 0 Tryz.underlying53 ?_) | (refine wl_store HF 1 ?_; intro wN hN; clear HF; have HF := hidF <| hN; clear hN))
     refine bodyPost_ret (end_row HF.out 1 rfl rfl rfl Tryz.underlying53 rfl (by kernel_rfl)) rfl ?_
     exact out_ok HR.out.symm HF.out ⟨_,_,_,_,_,_,_,_,_,_,rfl,HF.out.rep 3 rfl,Rep.nil none 0,HF.out.rep 2 rfl,HF.out.rep 1 rfl,HF.out.rep 0 rfl⟩
 | true =>
   replace HR : Hid (((sourcesM E f).then fun fr => seT1 E f how x2 x3 fr) S4 = r) := HR.out
   go_wp2_with fail
   refine DoesI.go (HSS.out) (HF.out) (trivial) HR.out HN.out ?_ ?_
   · intro a er wN hb hk
     have HB : Hid (r = .bad a er ∧ Kept (On F) w wN) := ⟨hb,hk⟩
     clear hb hk
     go_wp2_with fail
     exact ⟨rfl,out_bad HB.out.1 HB.out.2⟩
   intro x5 S5 v5 w5 hv hk hf
   obtain ⟨p5,c5,rfl,h1⟩ := hv
   clear HF HR
   have HF := hidF <| hf.tree h1
   clear h1
   clear hf
   have HR : Hid (_ = r) := hk
   clear hk
   replace HR : Hid (((conditionM E [87,72,69,82,69]).then fun wh => (skipM [71,82,79,85,80]).then fun b => (if b then (needM [66,89]).then fun _ => exprsM E f else PM.ret .none).then fun gr => (conditionM E [72,65,86,73,78,71]).then fun hv => PM.ret (⟨how,x2,x3,x5,wh,gr,hv⟩ : Se)) S5 = r) := HR.out
   go_wp2_with (first | (refine wl_store1 HF 0 sv51 ?_; clear HF; intro wN hN; have HF : Hid (FR w F A [(b5,53,#[.int .i64 how,.bool x2,.slice p3 x3.n c3,.slice p5 x5.n c5,.slice none 0 0,.slice none 0 0,.slice none 0 0]),(b4,53,#[.int .i64 0,.bool false,.slice none 0 0,.slice none 0 0,.slice none 0 0,.slice none 0 0,.slice none 0 0])] _ _ wN) := hN; clear hN))
   refine DoesI.go (HCO.out [87,72,69,82,69]) (HF.out) (trivial) HR.out HN.out ?_ ?_
   · intro a er wN hb hk
     have HB : Hid (r = .bad a er ∧ Kept (On F) w wN) := ⟨hb,hk⟩
     clear hb hk
     go_wp2_with fail
     exact ⟨rfl,out_bad HB.out.1 HB.out.2⟩
   intro x6 S6 v6 w6 hv hk hf
   obtain ⟨p6,c6,rfl,h1⟩ := hv
   clear HF HR
   have HF := hidF <| hf.tree h1
   clear h1
   clear hf
   have HR : Hid (_ = r) := hk
   clear hk
   go_wp2_with (first | (refine wl_store1 HF 0 sv24 ?_; clear HF; intro wN hN; have HF : Hid (FR w F A [(b5,53,#[.int .i64 how,.bool x2,.slice p3 x3.n c3,.slice p5 x5.n c5,.slice p6 x6.n c6,.slice none 0 0,.slice none 0 0]),(b4,53,#[.int .i64 0,.bool false,.slice none 0 0,.slice none 0 0,.slice none 0 0,.slice none 0 0,.slice none 0 0])] _ _ wN) := hN; clear hN))
   refine DoesI.go (skip_does [71,82,79,85,80]) (HF.out) (trivial) HR.out HN.out ?_ ?_
   · intro a er wN hb hk
     have HB : Hid (r = .bad a er ∧ Kept (On F) w wN) := ⟨hb,hk⟩
     clear hb hk
     go_wp2_with fail
     exact ⟨rfl,out_bad HB.out.1 HB.out.2⟩
   intro x7 S7 v7 w7 hv hk hf
   cases hv
   clear HF HR
   have HF := hidF <| hf
   clear hf
   have HR : Hid (_ = r) := hk
   clear hk
   replace HF : Hid (FR w F A [(b5,53,#[.int .i64 how,.bool x2,.slice p3 x3.n c3,.slice p5 x5.n c5,.slice p6 x6.n c6,.slice none 0 0,.slice none 0 0]),(b4,53,#[.int .i64 0,.bool false,.slice none 0 0,.slice none 0 0,.slice none 0 0,.slice none 0 0,.slice none 0 0])] _ S7 w7) := HF.out
   cases x7 with
   | false =>
     replace HR : Hid (((conditionM E [72,65,86,73,78,71]).then fun hv => PM.ret (⟨how,x2,x3,x5,x6,Sl.none,hv⟩ : Se)) S7 = r) := HR.out
     go_wp2_with fail
     refine DoesI.go (HCO.out [72,65,86,73,78,71]) (HF.out) (trivial) HR.out HN.out ?_ ?_
     · intro a er wN hb hk
       have HB : Hid (r = .bad a er ∧ Kept (On F) w wN) := ⟨hb,hk⟩
       clear hb hk
       go_wp2_with fail
       exact ⟨rfl,out_bad HB.out.1 HB.out.2⟩
     intro x8 S8 v8 w8 hv hk hf
     obtain ⟨p8,c8,rfl,h1⟩ := hv
     clear HF HR
     have HF := hidF <| hf.tree h1
     clear h1
     clear hf
     have HR : Hid (_ = r) := hk
     clear hk
     go_wp2_with (first | (refine wl_store1 HF 0 sv24 ?_; clear HF; intro wN hN; have HF : Hid (FR w F A [(b5,53,#[.int .i64 how,.bool x2,.slice p3 x3.n c3,.slice p5 x5.n c5,.slice p6 x6.n c6,.slice none 0 0,.slice p8 x8.n c8]),(b4,53,#[.int .i64 0,.bool false,.slice none 0 0,.slice none 0 0,.slice none 0 0,.slice none 0 0,.slice none 0 0])] _ _ wN) := hN; clear hN) | (refine wl_load HF 0 Tryz.underlying53 ?_) | (refine wl_store HF 1 ?_; intro wN hN; clear HF; have HF := hidF <| hN; clear hN))
     refine bodyPost_ret (end_row HF.out 1 rfl rfl rfl Tryz.underlying53 rfl (by kernel_rfl)) rfl ?_
     exact out_ok HR.out.symm HF.out ⟨_,_,_,_,_,_,_,_,_,_,rfl,HF.out.rep 3 rfl,HF.out.rep 2 rfl,HF.out.rep 1 rfl,Rep.nil none 0,HF.out.rep 0 rfl⟩
   | true =>
     replace HR : Hid (((needM [66,89]).then fun _ => (exprsM E f).then fun gr => (conditionM E [72,65,86,73,78,71]).then fun hv => PM.ret (⟨how,x2,x3,x5,x6,gr,hv⟩ : Se)) S7 = r) := by
      have h := HR.out
      rw [← h]
      exact (PM.then_assoc _ _ _ _).symm
     go_wp2_with fail
     refine DoesI.go (need_does [66,89]) (HF.out) (trivial) HR.out HN.out ?_ ?_
     · intro a er wN hb hk
       have HB : Hid (r = .bad a er ∧ Kept (On F) w wN) := ⟨hb,hk⟩
       clear hb hk
       go_wp2_with fail
       exact ⟨rfl,out_bad HB.out.1 HB.out.2⟩
     intro x8 S8 v8 w8 hv hk hf
     cases hv
     clear HF HR
     have HF := hidF <| hf
     clear hf
     have HR : Hid (_ = r) := hk
     clear hk
     go_wp2_with fail
     refine DoesI.go (HLS.out) (HF.out) (trivial) HR.out HN.out ?_ ?_
     · intro a er wN hb hk
       have HB : Hid (r = .bad a er ∧ Kept (On F) w wN) := ⟨hb,hk⟩
       clear hb hk
       go_wp2_with fail
       exact ⟨rfl,out_bad HB.out.1 HB.out.2⟩
     intro x9 S9 v9 w9 hv hk hf
     obtain ⟨⟨p9,c9,rfl,h1⟩,_,_,_⟩ := hv
     clear HF HR
     have HF := hidF <| hf.tree h1
     clear h1
     clear hf
     have HR : Hid (_ = r) := hk
     clear hk
     replace HR : Hid (((conditionM E [72,65,86,73,78,71]).then fun hv => PM.ret (⟨how,x2,x3,x5,x6,x9,hv⟩ : Se)) S9 = r) := HR.out
     go_wp2_with (first | (refine wl_store1 HF 0 sv24 ?_; clear HF; intro wN hN; have HF : Hid (FR w F A [(b5,53,#[.int .i64 how,.bool x2,.slice p3 x3.n c3,.slice p5 x5.n c5,.slice p6 x6.n c6,.slice p9 x9.n c9,.slice none 0 0]),(b4,53,#[.int .i64 0,.bool false,.slice none 0 0,.slice none 0 0,.slice none 0 0,.slice none 0 0,.slice none 0 0])] _ _ wN) := hN; clear hN))
     refine DoesI.go (HCO.out [72,65,86,73,78,71]) (HF.out) (trivial) HR.out HN.out ?_ ?_
     · intro a er wN hb hk
       have HB : Hid (r = .bad a er ∧ Kept (On F) w wN) := ⟨hb,hk⟩
       clear hb hk
       go_wp2_with fail
       exact ⟨rfl,out_bad HB.out.1 HB.out.2⟩
     intro x10 S10 v10 w10 hv hk hf
     obtain ⟨p10,c10,rfl,h1⟩ := hv
     clear HF HR
     have HF := hidF <| hf.tree h1
     clear h1
     clear hf
     have HR : Hid (_ = r) := hk
     clear hk
     go_wp2_with (first | (refine wl_store1 HF 0 sv24 ?_; clear HF; intro wN hN; have HF : Hid (FR w F A [(b5,53,#[.int .i64 how,.bool x2,.slice p3 x3.n c3,.slice p5 x5.n c5,.slice p6 x6.n c6,.slice p9 x9.n c9,.slice p10 x10.n c10]),(b4,53,#[.int .i64 0,.bool false,.slice none 0 0,.slice none 0 0,.slice none 0 0,.slice none 0 0,.slice none 0 0])] _ _ wN) := hN; clear hN) | (refine wl_load HF 0 Tryz.underlying53 ?_) | (refine wl_store HF 1 ?_; intro wN hN; clear HF; have HF := hidF <| hN; clear hN))
     refine bodyPost_ret (end_row HF.out 1 rfl rfl rfl Tryz.underlying53 rfl (by kernel_rfl)) rfl ?_
     exact out_ok HR.out.symm HF.out ⟨_,_,_,_,_,_,_,_,_,_,rfl,HF.out.rep 4 rfl,HF.out.rep 3 rfl,HF.out.rep 2 rfl,HF.out.rep 1 rfl,HF.out.rep 0 rfl⟩
end Go.Proofs.YtlgkghebemfpjaaGreatDoor.Pa
