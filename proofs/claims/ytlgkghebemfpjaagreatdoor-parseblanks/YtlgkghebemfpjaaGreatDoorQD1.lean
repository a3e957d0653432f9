/- literal, product, sum, and, isNull. expr. made. -/
import Derived.Test.YtlgkghebemfpjaaGreatDoorQC41
import Derived.Test.YtlgkghebemfpjaaGreatDoorQLn
namespace Go.Proofs.YtlgkghebemfpjaaGreatDoor.Pa
open Go.ChangeShapes Go.WideShapes Go.ChangeAt Go.RowKit
set_option linter.unusedVariables false
set_option maxRecDepth 100000
def QR (A : Nat → Prop) (w : World) (v : Value) (x : Qy) : Prop := ∃ p c q d,v = .agg #[.slice p x.se.n c,.slice q x.od.n d,.int .i64 x.li,.int .i64 x.off] ∧ Rep A w (.slice p x.se.n c) x.se.dt ∧ Rep A w (.slice q x.od.n d) x.od.dt
theorem qc_rep {A : Nat → Prop} {w : World} {x : Qy} {a b : Value} (ha : Rep A w a x.se.dt) (hb : Rep A w b x.od.dt) : RepL A w [a,b,.int .i64 x.li,.int .i64 x.off] x.flat := .cons ha (.cons hb (.cons (.i _) (.cons (.i _) .nil)))
def SR (A : Nat → Prop) (w : World) (v : Value) (s : Sl) : Prop := ∃ p c,v = .slice p s.n c ∧ Rep A w (.slice p s.n c) s.dt
theorem literal_is (a vk vn : Int) (vs : List UInt8) (w : World) : Calls Tryz.prog 189 #[.int .i64 a,.agg #[.int .i64 vk,.int .i64 vn,.string ⟨vs.toArray⟩]] w fun e w' => e = .returned (.agg #[.int .i64 1,.int .i64 0,.int .i64 vk,.int .i64 vn,.string ⟨vs.toArray⟩,.string ⟨#[]⟩,.string ⟨#[]⟩,.int .i64 0,.bool false,.int .i64 a,.slice none 0 0,.slice none 0 0]) ∧ Kept (fun _ => False) w w' := by
 go_enter Tryz.func189,Tryz.ntmps189
 go_wp2_with fail
 have h0 : w.heap.size < (w.alloc (.cells #[.int .i64 vk,.int .i64 vn,.string ⟨vs.toArray⟩] 23)).heap.size := by simp
 refine bodyPost_ret (end_cell rfl rfl (run_loadVar_row _ _ 27 27 _ (0,0) _ ?_ Tryz.underlying27 rfl (by kernel_rfl))) rfl ⟨rfl,((Kept.refl _ w).alloc _).alloc _⟩
 exact heap_alloc2_new w _ _
theorem product_does (m : PM X) (f : Nat) (HM : MadeC) (H : Does XR 178 (fun F => #[ptr F]) m) : Does XR 163 (fun F => #[ptr F]) (chainM m 5 f) := by
 intro w F A S hp hA hF hpre hn
 have HF : Hid (FR w F A [] [] S w) := FR.init [] hp hA hF (fun y h => (by cases h))
 obtain ⟨r,hr⟩ : ∃ r,(chainM m 5 f) S = r := ⟨_,rfl⟩
 have HR : Hid ((chainM m 5 f) S = r) := hr
 rw [hr] at hn ⊢
 have HN : Hid (r ≠ .out) := hn
 clear hp hA hF hr hn
 have hmf : ∀ (fn : Fn) (first cap : Array Value) (w : World),(Instr.makeFunc fn first cap).run Tryz.prog w = .ok (.func fn first cap) w := fun _ _ _ _ => rfl
 have HC : Hid (Does XR 40 (fun F => #[ptr F,.func (.func 178) #[ptr F] #[],.int .i64 5]) (chainM m 5 f)) := chain178_does m 5 f HM H
 clear H HM
 go_enter Tryz.func163,Tryz.ntmps163
 go_wp2_with (first | (refine wl_alloc HF al27 ?_; intro wN bN hN; clear HF; have HF := hidF <| hN; clear hN))
 refine DoesI.go (k := PM.ret) (HC.out) (HF.out) (trivial) (by rw [PM.then_ret]; exact HR.out) HN.out ?_ ?_
 · intro a er wN hb hk
   have HB : Hid (r = .bad a er ∧ Kept (On F) w wN) := ⟨hb,hk⟩
   clear hb hk
   go_wp2_with fail
   exact ⟨rfl,out_bad HB.out.1 HB.out.2⟩
 intro x1 S1 v1 w1 hv hk hf
 obtain ⟨p1,c1,q1,d1,rfl,h1,h2⟩ := hv
 clear HF HR
 have HF := hidF <| (hf.tree h2).tree h1
 clear h1 h2
 clear hf
 have HR : Hid (_ = r) := hk
 clear hk
 go_wp2_with (first | (refine wl_store HF 0 ?_; intro wN hN; clear HF; have HF := hidF <| hN; clear hN))
 refine bodyPost_ret (end_row HF.out 0 rfl rfl rfl Tryz.underlying27 rfl (by kernel_rfl)) rfl ?_
 exact out_ok HR.out.symm HF.out (⟨p1,c1,q1,d1,rfl,HF.out.rep 0 rfl,HF.out.rep 1 rfl⟩)
theorem sum_does (m : PM X) (f : Nat) (HM : MadeC) (H : Does XR 163 (fun F => #[ptr F]) m) : Does XR 139 (fun F => #[ptr F]) (chainM m 4 f) := by
 intro w F A S hp hA hF hpre hn
 have HF : Hid (FR w F A [] [] S w) := FR.init [] hp hA hF (fun y h => (by cases h))
 obtain ⟨r,hr⟩ : ∃ r,(chainM m 4 f) S = r := ⟨_,rfl⟩
 have HR : Hid ((chainM m 4 f) S = r) := hr
 rw [hr] at hn ⊢
 have HN : Hid (r ≠ .out) := hn
 clear hp hA hF hr hn
 have hmf : ∀ (fn : Fn) (first cap : Array Value) (w : World),(Instr.makeFunc fn first cap).run Tryz.prog w = .ok (.func fn first cap) w := fun _ _ _ _ => rfl
 have HC : Hid (Does XR 40 (fun F => #[ptr F,.func (.func 163) #[ptr F] #[],.int .i64 4]) (chainM m 4 f)) := chain163_does m 4 f HM H
 clear H HM
 go_enter Tryz.func139,Tryz.ntmps139
 go_wp2_with (first | (refine wl_alloc HF al27 ?_; intro wN bN hN; clear HF; have HF := hidF <| hN; clear hN))
 refine DoesI.go (k := PM.ret) (HC.out) (HF.out) (trivial) (by rw [PM.then_ret]; exact HR.out) HN.out ?_ ?_
 · intro a er wN hb hk
   have HB : Hid (r = .bad a er ∧ Kept (On F) w wN) := ⟨hb,hk⟩
   clear hb hk
   go_wp2_with fail
   exact ⟨rfl,out_bad HB.out.1 HB.out.2⟩
 intro x1 S1 v1 w1 hv hk hf
 obtain ⟨p1,c1,q1,d1,rfl,h1,h2⟩ := hv
 clear HF HR
 have HF := hidF <| (hf.tree h2).tree h1
 clear h1 h2
 clear hf
 have HR : Hid (_ = r) := hk
 clear hk
 go_wp2_with (first | (refine wl_store HF 0 ?_; intro wN hN; clear HF; have HF := hidF <| hN; clear hN))
 refine bodyPost_ret (end_row HF.out 0 rfl rfl rfl Tryz.underlying27 rfl (by kernel_rfl)) rfl ?_
 exact out_ok HR.out.symm HF.out (⟨p1,c1,q1,d1,rfl,HF.out.rep 0 rfl,HF.out.rep 1 rfl⟩)
theorem and_does (m : PM X) (f : Nat) (HM : MadeC) (H : Does XR 79 (fun F => #[ptr F]) m) : Does XR 41 (fun F => #[ptr F]) (chainM m 2 f) := by
 intro w F A S hp hA hF hpre hn
 have HF : Hid (FR w F A [] [] S w) := FR.init [] hp hA hF (fun y h => (by cases h))
 obtain ⟨r,hr⟩ : ∃ r,(chainM m 2 f) S = r := ⟨_,rfl⟩
 have HR : Hid ((chainM m 2 f) S = r) := hr
 rw [hr] at hn ⊢
 have HN : Hid (r ≠ .out) := hn
 clear hp hA hF hr hn
 have hmf : ∀ (fn : Fn) (first cap : Array Value) (w : World),(Instr.makeFunc fn first cap).run Tryz.prog w = .ok (.func fn first cap) w := fun _ _ _ _ => rfl
 have HC : Hid (Does XR 40 (fun F => #[ptr F,.func (.func 79) #[ptr F] #[],.int .i64 2]) (chainM m 2 f)) := chain79_does m 2 f HM H
 clear H HM
 go_enter Tryz.func41,Tryz.ntmps41
 go_wp2_with (first | (refine wl_alloc HF al27 ?_; intro wN bN hN; clear HF; have HF := hidF <| hN; clear hN))
 refine DoesI.go (k := PM.ret) (HC.out) (HF.out) (trivial) (by rw [PM.then_ret]; exact HR.out) HN.out ?_ ?_
 · intro a er wN hb hk
   have HB : Hid (r = .bad a er ∧ Kept (On F) w wN) := ⟨hb,hk⟩
   clear hb hk
   go_wp2_with fail
   exact ⟨rfl,out_bad HB.out.1 HB.out.2⟩
 intro x1 S1 v1 w1 hv hk hf
 obtain ⟨p1,c1,q1,d1,rfl,h1,h2⟩ := hv
 clear HF HR
 have HF := hidF <| (hf.tree h2).tree h1
 clear h1 h2
 clear hf
 have HR : Hid (_ = r) := hk
 clear hk
 go_wp2_with (first | (refine wl_store HF 0 ?_; intro wN hN; clear HF; have HF := hidF <| hN; clear hN))
 refine bodyPost_ret (end_row HF.out 0 rfl rfl rfl Tryz.underlying27 rfl (by kernel_rfl)) rfl ?_
 exact out_ok HR.out.symm HF.out (⟨p1,c1,q1,d1,rfl,HF.out.rep 0 rfl,HF.out.rep 1 rfl⟩)
theorem isNull_does (e : X) (p : Option Addr) (c : Nat) (q : Option Addr) (d : Nat) (HM : MadeC) : DoesI (fun A w _ => Rep A w (.slice p e.ar.n c) e.ar.dt ∧ Rep A w (.slice q e.sb.n d) e.sb.dt) XR 140 (fun F => #[ptr F,.agg #[.int .i64 e.k,.int .i64 e.op,.int .i64 e.vk,.int .i64 e.vn,.string ⟨e.vs.toArray⟩,.string ⟨e.tb.toArray⟩,.string ⟨e.nm.toArray⟩,.int .i64 e.col,.bool e.dn,.int .i64 e.a,.slice p e.ar.n c,.slice q e.sb.n d]]) (isNullM e) := by
 intro w F A S hp hA hF hpre hn
 have HF : Hid (FR w F A [] [(.slice p e.ar.n c,e.ar.dt),(.slice q e.sb.n d,e.sb.dt)] S w) := FR.init [(.slice p e.ar.n c,e.ar.dt),(.slice q e.sb.n d,e.sb.dt)] hp hA hF (fun y h => by rcases List.mem_cons.1 h with rfl | h; exact hpre.1; rcases List.mem_cons.1 h with rfl | h; exact hpre.2; cases h)
 obtain ⟨r,hr⟩ : ∃ r,(isNullM e) S = r := ⟨_,rfl⟩
 have HR : Hid ((isNullM e) S = r) := hr
 rw [hr] at hn ⊢
 have HN : Hid (r ≠ .out) := hn
 clear hp hA hF hr hn
 have HMH : Hid MadeC := HM
 clear HM
 go_enter Tryz.func140,Tryz.ntmps140
 go_wp2_with (first | (refine wl_box HF (bx27 _ _ _ _ _ _ _ _ _ _ _ _ ) ?_; intro wN bN hN; clear HF; have HF := hidF <| hN; clear hN) | (refine wl_alloc HF al27 ?_; intro wN bN hN; clear HF; have HF := hidF <| hN; clear hN))
 refine DoesI.go (skip_does [78,79,84]) (HF.out) (trivial) HR.out HN.out ?_ ?_
 · intro a er wN hb hk
   have HB : Hid (r = .bad a er ∧ Kept (On F) w wN) := ⟨hb,hk⟩
   clear hb hk
   go_wp2_with fail
   exact ⟨rfl,out_bad HB.out.1 HB.out.2⟩
 intro x1 S1 v1 w1 hv hk hf
 cases hv
 clear HF HR
 have HF := hidF <| hf
 clear hf
 have HR : Hid (_ = r) := hk
 clear hk
 cases x1 with
 | true =>
   have HR : Hid ((((needM [78,85,76,76]).then fun _ => madeM (opX 3 4 false e.a 1 e.flat .none)) S1) = r) := HR.out
   go_wp2_with fail
   refine DoesI.go (need_does [78,85,76,76]) (HF.out) (trivial) HR.out HN.out ?_ ?_
   · intro a er wN hb hk
     have HB : Hid (r = .bad a er ∧ Kept (On F) w wN) := ⟨hb,hk⟩
     clear hb hk
     go_wp2_with fail
     exact ⟨rfl,out_bad HB.out.1 HB.out.2⟩
   intro x2 S2 v2 w2 hv hk hf
   cases hv
   clear HF HR
   have HF := hidF <| hf
   clear hf
   have HR : Hid (_ = r) := hk
   clear hk
   go_wp2_with (first | (refine wl_load1 HF 1 lv3 ?_) | (refine wl_load HF 1 Tryz.underlying27 ?_) | (refine wl_row HF (el := 27) (xc_rep (HF.out.trep 0 rfl) (HF.out.trep 1 rfl)) (bs24 _ _ _ _ _ _ _ _ _ _ _ _ ) ?_; intro wN bN hN; clear HF; have HF := hidF <| hN; clear hN))
   refine DoesI.go (k := PM.ret) (HMH.out (opX 3 4 false e.a 1 e.flat .none) _ _ none 0) (HF.out) (⟨HF.out.trep 0 rfl,Rep.nil none 0⟩) (by rw [PM.then_ret]; exact HR.out) HN.out ?_ ?_
   · intro a er wN hb hk
     have HB : Hid (r = .bad a er ∧ Kept (On F) w wN) := ⟨hb,hk⟩
     clear hb hk
     go_wp2_with fail
     exact ⟨rfl,out_bad HB.out.1 HB.out.2⟩
   intro x3 S3 v3 w3 hv hk hf
   obtain ⟨p3,c3,q3,d3,rfl,h1,h2⟩ := hv
   clear HF HR
   have HF := hidF <| (hf.tree h2).tree h1
   clear h1 h2
   clear hf
   have HR : Hid (_ = r) := hk
   clear hk
   go_wp2_with (first | (refine wl_store HF 0 ?_; intro wN hN; clear HF; have HF := hidF <| hN; clear hN))
   refine bodyPost_ret (end_row HF.out 0 rfl rfl rfl Tryz.underlying27 rfl (by kernel_rfl)) rfl ?_
   exact out_ok HR.out.symm HF.out (⟨p3,c3,q3,d3,rfl,HF.out.rep 0 rfl,HF.out.rep 1 rfl⟩)
 | false =>
   have HR : Hid ((((needM [78,85,76,76]).then fun _ => madeM (opX 3 3 false e.a 1 e.flat .none)) S1) = r) := HR.out
   go_wp2_with fail
   refine DoesI.go (need_does [78,85,76,76]) (HF.out) (trivial) HR.out HN.out ?_ ?_
   · intro a er wN hb hk
     have HB : Hid (r = .bad a er ∧ Kept (On F) w wN) := ⟨hb,hk⟩
     clear hb hk
     go_wp2_with fail
     exact ⟨rfl,out_bad HB.out.1 HB.out.2⟩
   intro x2 S2 v2 w2 hv hk hf
   cases hv
   clear HF HR
   have HF := hidF <| hf
   clear hf
   have HR : Hid (_ = r) := hk
   clear hk
   go_wp2_with (first | (refine wl_load1 HF 1 lv3 ?_) | (refine wl_load HF 1 Tryz.underlying27 ?_) | (refine wl_row HF (el := 27) (xc_rep (HF.out.trep 0 rfl) (HF.out.trep 1 rfl)) (bs24 _ _ _ _ _ _ _ _ _ _ _ _ ) ?_; intro wN bN hN; clear HF; have HF := hidF <| hN; clear hN))
   refine DoesI.go (k := PM.ret) (HMH.out (opX 3 3 false e.a 1 e.flat .none) _ _ none 0) (HF.out) (⟨HF.out.trep 0 rfl,Rep.nil none 0⟩) (by rw [PM.then_ret]; exact HR.out) HN.out ?_ ?_
   · intro a er wN hb hk
     have HB : Hid (r = .bad a er ∧ Kept (On F) w wN) := ⟨hb,hk⟩
     clear hb hk
     go_wp2_with fail
     exact ⟨rfl,out_bad HB.out.1 HB.out.2⟩
   intro x3 S3 v3 w3 hv hk hf
   obtain ⟨p3,c3,q3,d3,rfl,h1,h2⟩ := hv
   clear HF HR
   have HF := hidF <| (hf.tree h2).tree h1
   clear h1 h2
   clear hf
   have HR : Hid (_ = r) := hk
   clear hk
   go_wp2_with (first | (refine wl_store HF 0 ?_; intro wN hN; clear HF; have HF := hidF <| hN; clear hN))
   refine bodyPost_ret (end_row HF.out 0 rfl rfl rfl Tryz.underlying27 rfl (by kernel_rfl)) rfl ?_
   exact out_ok HR.out.symm HF.out (⟨p3,c3,q3,d3,rfl,HF.out.rep 0 rfl,HF.out.rep 1 rfl⟩)
theorem expr_does (E : PM X) (Q : PM Qy) (f : Nat) (HM : MadeC) (HA : Does XR 41 (fun F => #[ptr F]) (andM E Q f)) : Does XR 19 (fun F => #[ptr F]) (exprM E Q f) := by
 intro w F A S hp hA hF hpre hn
 have HF : Hid (FR w F A [] [] S w) := FR.init [] hp hA hF (fun y h => (by cases h))
 obtain ⟨r,hr⟩ : ∃ r,(exprM E Q f) S = r := ⟨_,rfl⟩
 have HR : Hid ((exprM E Q f) S = r) := hr
 rw [hr] at hn ⊢
 have HN : Hid (r ≠ .out) := hn
 clear hp hA hF hr hn
 have hmf : ∀ (fn : Fn) (first cap : Array Value) (w : World),(Instr.makeFunc fn first cap).run Tryz.prog w = .ok (.func fn first cap) w := fun _ _ _ _ => rfl
 have HC : Hid (Does XR 40 (fun F => #[ptr F,.func (.func 41) #[ptr F] #[],.int .i64 1]) (chainM (andM E Q f) 1 f)) := chain41_does (andM E Q f) 1 f HM HA
 clear HA HM
 go_enter Tryz.func19,Tryz.ntmps19
 go_wp2_with (first | (refine wl_alloc HF al27 ?_; intro wN b2 hN; clear HF; have HF := hidF <| hN; clear hN))
 refine DoesI.go (enter_does) (HF.out) (trivial) HR.out HN.out ?_ ?_
 · intro a er wN hb hk
   have HB : Hid (r = .bad a er ∧ Kept (On F) w wN) := ⟨hb,hk⟩
   clear hb hk
   go_wp2_with fail
   exact ⟨rfl,out_bad HB.out.1 HB.out.2⟩
 intro x1 S1 v1 w1 hv hk hf
 cases hv
 clear HF HR
 have HF := hidF <| hf
 clear hf
 have HR : Hid (_ = r) := hk
 clear hk
 go_wp2_with fail
 refine DoesI.go (HC.out) (HF.out) (trivial) HR.out HN.out ?_ ?_
 · intro a er wN hb hk
   have HB : Hid (r = .bad a er ∧ Kept (On F) w wN) := ⟨hb,hk⟩
   clear hb hk
   go_wp2_with fail
   exact ⟨rfl,out_bad HB.out.1 HB.out.2⟩
 intro x2 S2 v2 w2 hv hk hf
 obtain ⟨p2,c2,q2,d2,rfl,h1,h2⟩ := hv
 clear HF HR
 have HF := hidF <| (hf.tree h2).tree h1
 clear h1 h2
 clear hf
 have HR : Hid (_ = r) := hk
 clear hk
 go_wp2_with (first | (refine wl_alloc HF al27 ?_; intro wN b3 hN; clear HF; have HF := hidF <| hN; clear hN) | (refine wl_store HF 0 ?_; intro wN hN; clear HF; have HF := hidF <| hN; clear hN))
 refine DoesI.go (leave_does) (HF.out) (trivial) HR.out HN.out ?_ ?_
 · intro a er wN hb hk
   have HB : Hid (r = .bad a er ∧ Kept (On F) w wN) := ⟨hb,hk⟩
   clear hb hk
   go_wp2_with fail
   exact ⟨rfl,out_bad HB.out.1 HB.out.2⟩
 intro x3 S3 v3 w3 hv hk hf
 cases hv
 clear HF HR
 have HF := hidF <| hf
 clear hf
 have HR : Hid (_ = r) := hk
 clear hk
 go_wp2_with (first | (refine wl_load HF 0 Tryz.underlying27 ?_) | (refine wl_store HF 1 ?_; intro wN hN; clear HF; have HF := hidF <| hN; clear hN))
 refine bodyPost_ret (end_row HF.out 1 rfl rfl rfl Tryz.underlying27 rfl (by kernel_rfl)) rfl ?_
 exact out_ok HR.out.symm HF.out (⟨p2,c2,q2,d2,rfl,HF.out.rep 0 rfl,HF.out.rep 1 rfl⟩)
def DeepC : Prop := ∀ (x : X) (p : Option Addr) (c : Nat) (q : Option Addr) (d : Nat) (A : Nat → Prop) (w : World),x.ar.dt.okE = true → Rep A w (.slice p x.ar.n c) x.ar.dt → Rep A w (.slice q x.sb.n d) x.sb.dt →
 Calls Tryz.prog 9 #[.agg #[.int .i64 x.k,.int .i64 x.op,.int .i64 x.vk,.int .i64 x.vn,.string ⟨x.vs.toArray⟩,.string ⟨x.tb.toArray⟩,.string ⟨x.nm.toArray⟩,.int .i64 x.col,.bool x.dn,.int .i64 x.a,.slice p x.ar.n c,.slice q x.sb.n d]] w fun e w' => (∃ n : Int,e = .returned (.int .i64 n) ∧ (32 < n ↔ 32 < x.deep)) ∧ Kept (fun _ => False) w w'
set_option maxHeartbeats 2000000 in
theorem made_does (HD : DeepC) : MadeC := by
 intro x p c q d
 intro w F A S hp hA hF hpre hn
 have HF : Hid (FR w F A [] [(.slice p x.ar.n c,x.ar.dt),(.slice q x.sb.n d,x.sb.dt)] S w) := FR.init [(.slice p x.ar.n c,x.ar.dt),(.slice q x.sb.n d,x.sb.dt)] hp hA hF (fun y hy => by rcases List.mem_cons.1 hy with rfl | hy; exact hpre.1; rw [List.mem_singleton] at hy; subst hy; exact hpre.2)
 obtain ⟨r,hr⟩ : ∃ r,(madeM x) S = r := ⟨_,rfl⟩
 have HR : Hid ((madeM x) S = r) := hr
 rw [hr] at hn ⊢
 have HN : Hid (r ≠ .out) := hn
 clear hp hA hF hr hn
 have HDH : Hid DeepC := HD
 clear HD hpre
 have HOK : Hid (x.ar.dt.okE = true) := by
  cases ho : x.ar.dt.okE with
  | true => rfl
  | false => exact absurd (HR.out.symm.trans (if_neg (by simp [ho]))) HN.out
 go_enter Tryz.func78,Tryz.ntmps78
 go_wp2_with (first | (refine wl_box HF (bx27 _ _ _ _ _ _ _ _ _ _ _ _ ) ?_; intro wN b3 hN; clear HF; have HF := hidF <| hN; clear hN) | (refine wl_alloc HF al27 ?_; intro wN b4 hN; clear HF; have HF := hidF <| hN; clear hN) | (refine wl_load HF 1 Tryz.underlying27 ?_))
 refine Calls.mono (HDH.out x p c q d _ _ HOK.out (HF.out.trep 0 rfl) (HF.out.trep 1 rfl)) ?_; rintro e wQ ⟨⟨n,rfl,hn⟩,kQ⟩
 replace HF : Hid (FR _ _ _ _ _ _ _) := (HF.out).call (kQ.mono (fun i q => q.elim)) ((HF.out).pa.same kQ)
 clear kQ
 by_cases hd : 32 < x.deep
 · have hni : (32 : Int) < n := hn.2 hd
   replace HR : Hid (PR.bad x.a 171 = r) := by have h := HR.out; unfold madeM at h; rw [if_pos HOK.out,if_pos hd] at h; exact h
   clear hn hd
   go_wp2_with (first | (refine wl_load1 HF 1 lv3 ?_))
   exact ⟨rfl,out_bad HR.out.symm HF.out.kp⟩
 · have hni : ¬ (32 : Int) < n := fun h => hd (hn.1 h)
   replace HR : Hid (PR.ok x S = r) := by have h := HR.out; unfold madeM at h; rw [if_pos HOK.out,if_neg hd] at h; exact h
   clear hn hd
   go_wp2_with (first | (refine wl_load HF 1 Tryz.underlying27 ?_) | (refine wl_store HF 0 ?_; intro wN hN; clear HF; have HF := hidF <| hN; clear hN))
   refine bodyPost_ret (end_row HF.out 0 rfl rfl rfl Tryz.underlying27 rfl (by kernel_rfl)) rfl ?_
   exact out_ok HR.out.symm HF.out (⟨p,c,q,d,rfl,HF.out.rep 0 rfl,HF.out.rep 1 rfl⟩)
end Go.Proofs.YtlgkghebemfpjaaGreatDoor.Pa
