/- need, comma, takeKind, between. The deferred closures that recover. made. A region that draws, whose last operation ends what was held. -/
import Derived.Test.YtlgkghebemfpjaaGreatDoorQAr
import Derived.Defers
import Derived.Recover
import Derived.Laws.Pointers
import Derived.Deep.RegionHeld
namespace Go.Proofs.YtlgkghebemfpjaaGreatDoor.Pa
open Go.ChangeShapes Go.WideShapes Go.ChangeAt Go.RowKit
set_option linter.unusedVariables false
set_option maxRecDepth 100000
theorem need_eq (x : List UInt8) (S : PS) : needM x S = ((skipM x).then fun b => if b then PM.ret () else refuseM) S := rfl
theorem need_does (x : List UInt8) : Does UR 61 (fun F => #[ptr F,.string ⟨x.toArray⟩]) (needM x) := by
 intro w F A S hp hA hF hpre hn
 rw [need_eq] at hn ⊢
 have HF : Hid (FR w F A [] [] S w) := FR.init [] hp hA hF (fun y h => (by cases h))
 obtain ⟨r,hr⟩ : ∃ r,((skipM x).then fun b => if b then PM.ret () else refuseM) S = r := ⟨_,rfl⟩
 have HR : Hid (((skipM x).then fun b => if b then PM.ret () else refuseM) S = r) := hr
 rw [hr] at hn ⊢
 have HN : Hid (r ≠ .out) := hn
 clear hp hA hF hr hn
 go_enter Tryz.func61,Tryz.ntmps61
 go_wp2_with fail
 refine DoesI.go (skip_does x) (HF.out) (trivial) HR.out HN.out ?_ ?_
 · intro a er wN hb hk
   have HB : Hid (r = .bad a er ∧ Kept (On F) w wN) := ⟨hb,hk⟩
   clear hb hk
   go_wp2_with fail
   exact ⟨rfl,out_bad HB.out.1 HB.out.2⟩
 intro x1 S1 v1 w1 hv hk hf
 cases hv
 clear HF HR
 have HF := hidF <| hf
 clear hf
 have HR : Hid (_ = r) := hk
 clear hk
 cases x1 with
 | true =>
   have HR : Hid (PM.ret () S1 = r) := HR.out
   go_wp2_with fail
   go_end0
   exact out_ok HR.out.symm HF.out rfl
 | false =>
   have HR : Hid ((refuseM : PM Unit) S1 = r) := HR.out
   go_wp2_with fail
   refine Calls.mono (refuse_is _ _ _ (HF.out).pa) ?_; rintro e wR ⟨rfl,kR⟩
   have HB : Hid (Kept (On F) w wR) := (HF.out).kp.trans (kR.mono (fun i q => q.elim) : Kept (On F) _ _) (fun i q => .inl q)
   clear kR
   go_wp2_with fail
   exact ⟨rfl,out_bad HR.out.symm HB.out⟩
theorem comma_does : Does BR 64 (fun F => #[ptr F]) commaM := by
 intro w F A S hp hA hF hpre hn
 unfold commaM at hn ⊢
 have HF : Hid (FR w F A [] [] S w) := FR.init [] hp hA hF (fun y h => (by cases h))
 obtain ⟨r,hr⟩ : ∃ r,(skipM [44]) S = r := ⟨_,rfl⟩
 have HR : Hid ((skipM [44]) S = r) := hr
 rw [hr] at hn ⊢
 have HN : Hid (r ≠ .out) := hn
 clear hp hA hF hr hn
 go_enter Tryz.func64,Tryz.ntmps64
 go_wp2_with fail
 refine DoesI.go (k := PM.ret) (skip_does [44]) (HF.out) (trivial) (by rw [PM.then_ret]; exact HR.out) HN.out ?_ ?_
 · intro a er wN hb hk
   have HB : Hid (r = .bad a er ∧ Kept (On F) w wN) := ⟨hb,hk⟩
   clear hb hk
   go_wp2_with fail
   exact ⟨rfl,out_bad HB.out.1 HB.out.2⟩
 intro x1 S1 v1 w1 hv hk hf
 cases hv
 clear HF HR
 have HF := hidF <| hf
 clear hf
 have HR : Hid (_ = r) := hk
 clear hk
 go_wp2_with fail
 go_ret
 exact out_ok HR.out.symm HF.out rfl
theorem kind_does (k : Int) (hk0 : k ≠ 0) : Does TR 65 (fun F => #[ptr F,.int .i64 k]) (kindM k) := by
 intro w F A S hp hA hF hpre hn
 have HF : Hid (FR w F A [] [] S w) := FR.init [] hp hA hF (fun y h => (by cases h))
 obtain ⟨r,hr⟩ : ∃ r,(kindM k) S = r := ⟨_,rfl⟩
 have HR : Hid ((kindM k) S = r) := hr
 rw [hr] at hn ⊢
 have HN : Hid (r ≠ .out) := hn
 clear hp hA hF hr hn
 have hfd := @fd0
 go_enter Tryz.func65,Tryz.ntmps65
 go_wp2_with (first | (refine wl_alloc HF al40 ?_; intro wN bN hN; clear HF; have HF := hidF <| hN; clear hN))
 refine Calls.mono (next_is _ _ _ HF.out.pa) ?_; rintro e wQ ⟨rfl,kQ⟩
 have HF := hidF <| (HF.out).call (kQ.mono (fun i q => q.elim)) ((HF.out).pa.same kQ)
 clear kQ
 by_cases hk : S.hd.k = k
 · have HK : Hid (S.hd.k ≠ 0) := by show _ ≠ _; rw [hk]; exact hk0
   have HR : Hid (takeM S = r) := by have h := HR.out; unfold kindM at h; rw [if_neg (by simpa using hk)] at h; exact h
   go_wp2_with fail
   refine DoesI.go (k := PM.ret) (take_does) (HF.out) (HK.out) (by rw [PM.then_ret]; exact HR.out) HN.out ?_ ?_
   · intro a er wN hb hk
     have HB : Hid (r = .bad a er ∧ Kept (On F) w wN) := ⟨hb,hk⟩
     clear hb hk
     go_wp2_with fail
     exact ⟨rfl,out_bad HB.out.1 HB.out.2⟩
   intro x1 S1 v1 w1 hv hk hf
   cases hv
   clear HF HR
   have HF := hidF <| hf
   clear hf
   have HR : Hid (_ = r) := hk
   clear hk
   go_wp2_with (first | (refine wl_store HF 0 ?_; intro wN hN; clear HF; have HF := hidF <| hN; clear hN))
   refine bodyPost_ret (end_row HF.out 0 rfl rfl rfl Tryz.underlying40 rfl (by kernel_rfl)) rfl ?_
   exact out_ok HR.out.symm HF.out (rfl)
 · have HR : Hid (PR.bad S.hd.a 170 = r) := by have h := HR.out; unfold kindM at h; rw [if_pos (by simpa using hk)] at h; exact h
   go_wp2_with fail
   refine Calls.mono (refuse_is _ _ _ (HF.out).pa) ?_; rintro e wR ⟨rfl,kR⟩
   have HB : Hid (Kept (On F) w wR) := (HF.out).kp.trans (kR.mono (fun i q => q.elim) : Kept (On F) _ _) (fun i q => .inl q)
   clear kR
   go_wp2_with fail
   exact ⟨rfl,out_bad HR.out.symm HB.out⟩
theorem between_is (t : List UInt8) (w : World) : Calls Tryz.prog 112 #[.string ⟨t.toArray⟩] w fun e w' => e = .returned (.tuple #[.int .i64 (betweenF t).1,.int .i64 (betweenF t).2]) ∧ w' = w := by
 obtain ⟨b,hb⟩ : ∃ b,betweenF t = b := ⟨_,rfl⟩
 have HB : Hid (betweenF t = b) := hb
 rw [hb]
 clear hb
 go_enter Tryz.func112,Tryz.ntmps112
 go_wp2_with fail
 all_goals go_ret2
 all_goals refine ⟨?_,rfl⟩
 all_goals (have h := HB.out; simp only [betweenF, *] at h; simp at h; subst h; rfl)
theorem operation_does (lv : Int) : Does IR 77 (fun F => #[ptr F,.int .i64 lv]) (operationM lv) := by
 intro w F A S hp hA hF hpre hn
 have HF : Hid (FR w F A [] [] S w) := FR.init [] hp hA hF (fun y h => (by cases h))
 obtain ⟨r,hr⟩ : ∃ r,(operationM lv) S = r := ⟨_,rfl⟩
 have HR : Hid ((operationM lv) S = r) := hr
 rw [hr] at hn ⊢
 have HN : Hid (r ≠ .out) := hn
 have hbt := between_is S.hd.t
 clear hp hA hF hr hn
 go_enter Tryz.func77,Tryz.ntmps77
 go_wp2_with fail
 refine Calls.mono (next_is _ _ _ HF.out.pa) ?_; rintro e wQ ⟨rfl,kQ⟩
 have HF := hidF <| (HF.out).call (kQ.mono (fun i q => q.elim)) ((HF.out).pa.same kQ)
 clear kQ
 go_wp2_with fail
 refine Calls.mono (hbt _) ?_; rintro e wN ⟨rfl,rfl⟩
 by_cases hc : (betweenF S.hd.t).2 = lv ∧ keysign S.hd = true
 · have HK : Hid (S.hd.k ≠ 0) := by
    show _ ≠ _
    intro e
    have := hc.2
    unfold keysign at this
    rw [e] at this
    simp at this
   have HR : Hid ((takeM.then fun _ => PM.ret (betweenF S.hd.t).1) S = r) := by have h := HR.out; unfold operationM at h; rw [if_pos hc] at h; exact h
   have h1 : (betweenF S.hd.t).2 = lv := hc.1
   have h2 : S.hd.k = 2 ∨ S.hd.k = 5 := by have := hc.2; unfold keysign at this; simpa using this
   clear hc
   rcases h2 with h2 | h2
   · go_wp2_with fail
     refine DoesI.go (take_does) (HF.out.alloc _ _) (HK.out) HR.out HN.out ?_ ?_
     · intro a er wN hb hk
       have HB : Hid (r = .bad a er ∧ Kept (On F) w wN) := ⟨hb,hk⟩
       clear hb hk
       go_wp2_with fail
       exact ⟨rfl,out_bad HB.out.1 HB.out.2⟩
     intro x1 S1 v1 w1 hv hk hf
     cases hv
     clear HF HR
     have HF := hidF <| hf
     clear hf
     have HR : Hid (_ = r) := hk
     clear hk
     go_wp2_with fail
     go_ret
     exact out_ok HR.out.symm HF.out rfl
   · go_wp2_with fail
     refine DoesI.go (take_does) (HF.out.alloc _ _) (HK.out) HR.out HN.out ?_ ?_
     · intro a er wN hb hk
       have HB : Hid (r = .bad a er ∧ Kept (On F) w wN) := ⟨hb,hk⟩
       clear hb hk
       go_wp2_with fail
       exact ⟨rfl,out_bad HB.out.1 HB.out.2⟩
     intro x1 S1 v1 w1 hv hk hf
     cases hv
     clear HF HR
     have HF := hidF <| hf
     clear hf
     have HR : Hid (_ = r) := hk
     clear hk
     go_wp2_with fail
     go_ret
     exact out_ok HR.out.symm HF.out rfl
 · have HR : Hid (PR.ok 0 S = r) := by have h := HR.out; unfold operationM at h; rw [if_neg hc] at h; exact h
   have HC : Hid (¬ ((betweenF S.hd.t).2 = lv ∧ keysign S.hd = true)) := hc
   clear hc
   by_cases h1 : (betweenF S.hd.t).2 = lv
   · have h2 : ¬ S.hd.k = 2 := fun e => HC.out ⟨h1,by simp [keysign,e]⟩
     have h3 : ¬ S.hd.k = 5 := fun e => HC.out ⟨h1,by simp [keysign,e]⟩
     go_wp2_with fail
     all_goals first | (go_ret; exact out_ok HR.out.symm (HF.out.alloc _ _) rfl) | (exfalso; rename_i hx _ _ _ _; simp [h2,h3] at hx)
   · skip
     go_wp2_with fail
     go_ret
     exact out_ok HR.out.symm (HF.out.alloc _ _) rfl
theorem catch36_idle (b5 b6 : Nat) (w : World) : CallsD Tryz.prog 36 #[ptr b5,ptr b6] .returning w fun e u' w' => e = .returned (.tuple #[]) ∧ u' = .returning ∧ w' = w := by
 refine callsD_of_wpS Tryz.func36 rfl fun c₀ cs hu => ?_
 apply wpS_seq
 apply wpS_region
 simp [wpOpsS,go_sem,recoverD,hu,Tryz.ntmps36,Exit.thenS]
 apply wpS_seq
 apply wpS_region
 simp [wpOpsS,go_sem,Exit.thenS]
 refine wpS_cond (t := false) (by simp [Act.eval,Array.replicate]) ?_
 simp only [Bool.false_eq_true,if_false]
 refine wpS_of_wp (wp_skip ?_)
 cases c₀
 simp_all [bodyPostS,results,Tryz.results36]
theorem catch58_idle (b5 b6 : Nat) (w : World) : CallsD Tryz.prog 58 #[ptr b5,ptr b6] .returning w fun e u' w' => e = .returned (.tuple #[]) ∧ u' = .returning ∧ w' = w := by
 refine callsD_of_wpS Tryz.func58 rfl fun c₀ cs hu => ?_
 apply wpS_seq
 apply wpS_region
 simp [wpOpsS,go_sem,recoverD,hu,Tryz.ntmps58,Exit.thenS]
 apply wpS_seq
 apply wpS_region
 simp [wpOpsS,go_sem,Exit.thenS]
 refine wpS_cond (t := false) (by simp [Act.eval,Array.replicate]) ?_
 simp only [Bool.false_eq_true,if_false]
 refine wpS_of_wp (wp_skip ?_)
 cases c₀
 simp_all [bodyPostS,results,Tryz.results58]
def MadeC : Prop := ∀ (x : X) (p : Option Addr) (c : Nat) (q : Option Addr) (d : Nat),DoesI (fun A w _ => Rep A w (.slice p x.ar.n c) x.ar.dt ∧ Rep A w (.slice q x.sb.n d) x.sb.dt) XR 78 (fun F => #[ptr F,.agg #[.int .i64 x.k,.int .i64 x.op,.int .i64 x.vk,.int .i64 x.vn,.string ⟨x.vs.toArray⟩,.string ⟨x.tb.toArray⟩,.string ⟨x.nm.toArray⟩,.int .i64 x.col,.bool x.dn,.int .i64 x.a,.slice p x.ar.n c,.slice q x.sb.n d]]) (madeM x)
def chainH (one : PM X) (lv : Int) (f : Nat) (op : Int) (e : X) : PM X := if op = 0 then PM.ret e else one.then fun b => (madeM (opX 4 op false e.a 2 (e.flat ++ b.flat) .none)).then fun e' => chainG one lv f e'
theorem chainG_eq (one : PM X) (lv : Int) (f : Nat) (e : X) : chainG one lv (f + 1) e = (operationM lv).then fun op => chainH one lv f op e := rfl
section
variable {P : Program} {ops : Array Oper} {Q : Exit → Act → World → Prop} {md : Region.Mode} {S : World → Prop} {k : Nat}
def AnyL (P : Program) (md : Region.Mode) (ops : Array Oper) (Q : Exit → Act → World → Prop) (S : World → Prop) (k : Nat) : Nat → Array Bool → Act → World → Prop
 | 0,l,a,w => Region.ready md ops l = [] ∧ Q .normal a w
 | n + 1,l,a,w => (Region.ready md ops l = [] → Q .normal a w) ∧ ∀ j ∈ Region.ready md ops l,wpOp P ops Q j (fun a' w' => (j ≠ k → S w') ∧ AnyL P md ops Q S k n (l.setIfInBounds j true) a' w') a w
theorem anyL_any : ∀ (n : Nat) (l : Array Bool) (a : Act) (w : World),AnyL P md ops Q S k n l a w → wpAny P md ops Q n l a w
 | 0,_,_,_,h => h
 | n + 1,_,_,_,h => ⟨h.1,fun j hj => wpOp_mono (fun a' w' q => anyL_any n _ a' w' q.2) (h.2 j hj)⟩
theorem region_L {id : Nat} {a : Act} {w : World} (hm : P.follows .mixedOrders = true) (h : AnyL P .any ops Q S k ops.size (Array.replicate ops.size false) a w.drew) : (Code.region id ops true).wp P Q a w :=
 wp_region_any hm (anyL_any _ _ _ _ h)
def waitsB (md : Region.Mode) (ops : Array Oper) (k i : Nat) : Bool := ((ops[k]?).map fun o => o.after.any fun e => Region.binds md e && e.on == i).getD false
theorem not_ready {i j : Nat} {l : Array Bool} (hw : waitsB md ops k i = true) (hi : i ∈ Region.ready md ops l) (hj : j ∈ Region.ready md ops l) : j ≠ k := by
 rintro rfl
 obtain ⟨_,oj,hoj,hall⟩ := mem_ready.1 hj
 have hni := (mem_ready.1 hi).1
 have hil := (mem_ready.1 hi).2
 unfold waitsB at hw
 rw [hoj] at hw
 simp only [Option.map_some,Option.getD_some] at hw
 obtain ⟨e,he,hb⟩ := Array.any_eq_true'.1 hw
 simp only [Bool.and_eq_true,beq_iff_eq] at hb
 have h1 := hall e he hb.1
 rw [hb.2] at h1
 rcases Nat.lt_or_ge i l.size with q | q
 · simp [q] at hni h1
   rw [hni] at h1
   cases h1
 · simp [Array.getElem?_eq_none q] at h1
theorem takeL {i : Nat} {oi : Oper} {v : Value} (hi : ops[i]? = some oi) (hs : Region.noSelect ops = true) (hw : waitsB md ops k i = true) (hQ : ∀ c a w,Q (.panic c) (a.put oi.dst v) w → Q (.panic c) a w) :
 ∀ (n : Nat) (l : Array Bool) (a : Act) (w : World),(∀ j oj,ops[j]? = some oj → j ≠ i → l.getD j true = false → (∀ e ∈ oj.after,Region.binds md e = true → e.on ≠ i) → oi.apart ops oj = true) →
  i ∈ Region.ready md ops l → YieldsIf P ops S oi v a → S w → AnyL P md ops Q S k n (l.setIfInBounds i true) (a.put oi.dst v) w → AnyL P md ops Q S k (n + 1) l a w := by
 intro n
 induction n with
 | zero =>
   intro l a w _ hr hy hS H
   refine ⟨fun e => absurd hr (by rw [e]; exact List.not_mem_nil),fun j hj => ?_⟩
   by_cases e : j = i
   · subst e
     exact hy.wpOp hi hS ⟨fun _ => hS,H⟩
   · exact absurd (ready_mono hj e) (by rw [H.1]; exact List.not_mem_nil)
 | succ n ih =>
   intro l a w hap hr hy hS H
   refine ⟨fun e => absurd hr (by rw [e]; exact List.not_mem_nil),fun j hj => ?_⟩
   by_cases e : j = i
   · subst e
     exact hy.wpOp hi hS ⟨fun _ => hS,H⟩
   have hjk := not_ready hw hr hj
   obtain ⟨hju,oj,hoj,hall⟩ := mem_ready.1 hj
   have hno : ∀ e ∈ oj.after,Region.binds md e = true → e.on ≠ i := by
    intro d hd hb q
    have h1 := hall d hd hb
    have h0 := (mem_ready.1 hr).1
    rw [q] at h1
    rcases Nat.lt_or_ge i l.size with z | z
    · simp [z] at h0 h1
      rw [h0] at h1
      cases h1
    · simp [Array.getElem?_eq_none z] at h1
   have step := wpOp_putIf hoj (hap j oj hoj e hju hno) (fun cs b => Region.noSelect_spec hs i oi cs b hi) (fun cs b => Region.noSelect_spec hs j oj cs b hoj) hQ hy (H.2 j (ready_mono hj e))
   refine wpOp_mono (fun a' w' q => ⟨q.2.1,ih (l.setIfInBounds j true) a' w' (fun m om hm hmi hun hn => hap m om hm hmi ?_ hn) (ready_mono hr (Ne.symm e)) q.1 (q.2.1 hjk) ?_⟩) step
   · by_cases hjm : j = m
     · subst hjm; exact hju
     · rw [getD_set_ne true hjm] at hun; exact hun
   · rw [Array.setIfInBounds_comm _ _ e]
     exact q.2.2
theorem tkL {i : Nat} {oi : Oper} {v : Value} {n : Nat} {l : Array Bool} {a : Act} {w : World} (hS : S w) (hy : YieldsIf P ops S oi v a) (h : AnyL P md ops Q S k n (l.setIfInBounds i true) (a.put oi.dst v) w)
 (hi : ops[i]? = some oi := by rfl) (hs : Region.noSelect ops = true := by kernel_rfl) (hw : waitsB md ops k i = true := by kernel_rfl) (hf : Region.free md ops l i = true := by kernel_rfl) (hr : (Region.ready md ops l).contains i = true := by kernel_rfl)
 (hQ : ∀ c a w,Q (.panic c) (a.put oi.dst v) w → Q (.panic c) a w := by exact (fun _ _ _ h => h)) : AnyL P md ops Q S k (n + 1) l a w :=
 takeL hi hs hw hQ n l a w (Region.free_spec hi hf) (by simpa using hr) hy hS h
theorem onL {j : Nat} {o : Oper} {n : Nat} {l : Array Bool} {a : Act} {w : World} (h : ∀ K : Act → World → Prop,Shut (∀ a w,((j ≠ k → S w) ∧ AnyL P md ops Q S k n (l.setIfInBounds j true) a w) → K a w) → Oper.wp P o a w K Q)
 (hr : Region.ready md ops l = [j] := by kernel_rfl) (ho : ops[j]? = some o := by rfl) (hw : Region.wanted o (yielded ops a.tmps) = true := by rfl) : AnyL P md ops Q S k (n + 1) l a w := by
 refine ⟨fun e => absurd (hr.symm.trans e) (by simp),fun i hi => ?_⟩
 rw [hr,List.mem_singleton] at hi
 subst hi
 exact wpOp_step ho (fun K hK => by rw [if_pos hw]; exact h K (fun a w q => hK a w q))
theorem doneL {l : Array Bool} {a : Act} {w : World} {n : Nat} (h : Q .normal a w) (hr : Region.ready md ops l = [] := by kernel_rfl) : AnyL P md ops Q S k n l a w := by
 cases n with
 | zero => exact ⟨hr,h⟩
 | succ n => exact ⟨fun _ => h,by rw [hr]; intro j hj; cases hj⟩
end
section
variable {w0 : World} {F : Nat} {A : Nat → Prop} {bs : List (Nat × TypeId × Array Value)} {ts : List (Value × DT)} {S : PS} {w : World}
variable {ops : Array Oper} {o : Oper} {a : Act} {Q : Exit → Act → World → Prop}
def SFR (w0 : World) (F : Nat) (A : Nat → Prop) (bs : List (Nat × TypeId × Array Value)) (w : World) : Prop := ∃ ts S,FR w0 F A bs ts S w
theorem FR.s (h : FR w0 F A bs ts S w) : SFR w0 F A bs w := ⟨ts,S,h⟩
theorem yl_load (i : Nat) {b : Nat} {t : TypeId} {cs : Array Value} {ty : TypeId} {x : Operand} {d : TypeDesc} (hu : Tryz.prog.underlying ty = some d) (ho : o.op = .load ty x := by rfl) (hx : a.eval x = ptr b := by rfl) (hi : bs[i]? = some (b,t,cs) := by rfl)
 (hd : rowy d = true := by rfl) (hs : (Tryz.prog.info? ty).map (·.size) = some cs.size := by kernel_rfl) (hw : Region.wanted o (yielded ops a.tmps) = true := by rfl) : YieldsIf Tryz.prog ops (SFR w0 F A bs) o (.agg cs) a :=
 .inl ⟨hw,fun w ⟨ts,S,h⟩ => by
  unfold execOp
  simp only [ho,hx,Instr.loadAt,Instr.sureAddr,Sem.run_bind,Sem.run_pure,Result.andThen_ok,h.loads i hi ty hu hd hs]⟩
theorem yl_load1 (i : Nat) {b j : Nat} {t : TypeId} {cs : Array Value} {v : Value} {ty : TypeId} {x : Operand} (hl : ∀ {w : World} {b j : Nat} {v : Value},w.cell? ⟨b,j,none⟩ = some v → (loadVar ty ⟨b,j,none⟩).run Tryz.prog w = .ok v w) (ho : o.op = .load ty x := by rfl)
 (hx : a.eval x = .pointer (some ⟨b,j,none⟩) := by rfl) (hi : bs[i]? = some (b,t,cs) := by rfl) (hv : cs[j]? = some v := by rfl) (hw : Region.wanted o (yielded ops a.tmps) = true := by rfl) : YieldsIf Tryz.prog ops (SFR w0 F A bs) o v a :=
 .inl ⟨hw,fun w ⟨ts,S,h⟩ => by
  unfold execOp
  simp only [ho,hx,Instr.loadAt,Instr.sureAddr,Sem.run_bind,Sem.run_pure,Result.andThen_ok,hl ((h.cell i hi j).trans hv)]⟩
theorem op_store {K : Act → World → Prop} (HF : Hid (FR w0 F A bs ts S w)) (i : Nat) {b : Nat} {t : TypeId} {old cs : Array Value} {ty : TypeId} {x y : Operand} (h : ∀ w',FR w0 F A (bs.set i (b,t,cs)) ts S w' → K (a.put o.dst undef) w')
 (ho : o.op = .store ty x y := by rfl) (hx : a.eval x = ptr b := by rfl) (hy : a.eval y = .agg cs := by rfl) (hi : bs[i]? = some (b,t,old) := by rfl)
 (hs : (Tryz.prog.info? ty).map (·.size) = some cs.size := by kernel_rfl) (hn : old.size = cs.size := by rfl) (h1 : cs.toList.all (·.oneCell') = true := by rfl) : Oper.wp Tryz.prog o a w K Q := by
 obtain ⟨w',hr,hf⟩ := HF.out.stores i hi (apart_ne HF.out.ap hi) ty hs hn (by rw [← Array.all_toList]; exact h1)
 unfold Oper.wp execOp
 simp only [ho,hx,hy,Instr.storeAt,Instr.sureAddr,Sem.run_bind,Sem.run_pure,Result.andThen_ok,hr]
 exact h w' hf
theorem op_store1 {K : Act → World → Prop} (HF : Hid (FR w0 F A bs ts S w)) (i : Nat) {b j : Nat} {t : TypeId} {old : Array Value} {u v : Value} {ty : TypeId} {x y : Operand} (hl : ∀ {w : World} {b j : Nat} {u v : Value},w.cell? ⟨b,j,none⟩ = some u → w.frozen? ⟨b,j,none⟩ = false → Lf v = true → (storeVar ty ⟨b,j,none⟩ v).run Tryz.prog w = .ok () (w.setCell ⟨b,j,none⟩ v))
 (h : ∀ w',FR w0 F A (bs.set i (b,t,old.setIfInBounds j v)) ts S w' → K (a.put o.dst undef) w')
 (ho : o.op = .store ty x y := by rfl) (hx : a.eval x = .pointer (some ⟨b,j,none⟩) := by rfl) (hy : a.eval y = v := by rfl) (hi : bs[i]? = some (b,t,old) := by rfl) (hu : old[j]? = some u := by rfl) (h1 : Lf v = true := by rfl) : Oper.wp Tryz.prog o a w K Q := by
 unfold Oper.wp execOp
 simp only [ho,hx,hy,Instr.storeAt,Instr.sureAddr,Sem.run_bind,Sem.run_pure,Result.andThen_ok,hl ((HF.out.cell i hi j).trans hu) (HF.out.froz i hi j) h1]
 exact h _ (HF.out.set i hi (apart_ne HF.out.ap hi) (cells_set w b j old t v (HF.out.bx _ (List.mem_of_getElem? hi)).2) (kept_set w b j v))
end
section
variable {P : Program} {ops : Array Oper} {Q : Exit → Act → World → Prop} {md : Region.Mode} {S : World → Prop} {k n : Nat} {l : Array Bool} {a : Act} {w : World}
theorem pL (i : Nat) {oi : Oper} (v : Value) (hS : S w) (h : AnyL P md ops Q S k n (l.setIfInBounds i true) (a.put oi.dst v) w) (hi : ops[i]? = some oi := by rfl) (hy : ∀ w,(execOp a.eval oi).run P w = .ok (.value v) w := by intro w; first | rfl | go_simp) (hwt : Region.wanted oi (yielded ops a.tmps) = true := by rfl)
 (hs : Region.noSelect ops = true := by kernel_rfl) (hw : waitsB md ops k i = true := by kernel_rfl) (hf : Region.free md ops l i = true := by kernel_rfl) (hr : (Region.ready md ops l).contains i = true := by kernel_rfl)
 (hQ : ∀ c a w,Q (.panic c) (a.put oi.dst v) w → Q (.panic c) a w := by exact (fun _ _ _ h => h)) : AnyL P md ops Q S k (n + 1) l a w :=
 tkL hS (.inl ⟨hwt,fun w _ => hy w⟩) h hi hs hw hf hr hQ
end
section
variable {w0 : World} {F : Nat} {A : Nat → Prop} {bs : List (Nat × TypeId × Array Value)} {ts : List (Value × DT)} {S : PS} {w : World}
variable {ops : Array Oper} {Q : Exit → Act → World → Prop} {md : Region.Mode} {k n : Nat} {l : Array Bool} {a : Act}
theorem lL (i bi : Nat) {oi : Oper} {b : Nat} {t : TypeId} {cs : Array Value} {ty : TypeId} {x : Operand} {d : TypeDesc} (hu : Tryz.prog.underlying ty = some d) (HF : Hid (FR w0 F A bs ts S w)) (h : AnyL Tryz.prog md ops Q (SFR w0 F A bs) k n (l.setIfInBounds i true) (a.put oi.dst (.agg cs)) w)
 (hi : ops[i]? = some oi := by rfl) (ho : oi.op = .load ty x := by rfl) (hx : a.eval x = ptr b := by rfl) (hb : bs[bi]? = some (b,t,cs) := by rfl) (hd : rowy d = true := by rfl) (hsz : (Tryz.prog.info? ty).map (·.size) = some cs.size := by kernel_rfl) (hwt : Region.wanted oi (yielded ops a.tmps) = true := by rfl)
 (hs : Region.noSelect ops = true := by kernel_rfl) (hw : waitsB md ops k i = true := by kernel_rfl) (hf : Region.free md ops l i = true := by kernel_rfl) (hr : (Region.ready md ops l).contains i = true := by kernel_rfl)
 (hQ : ∀ c a w,Q (.panic c) (a.put oi.dst (.agg cs)) w → Q (.panic c) a w := by exact (fun _ _ _ h => h)) : AnyL Tryz.prog md ops Q (SFR w0 F A bs) k (n + 1) l a w :=
 tkL HF.out.s (yl_load bi hu ho hx hb hd hsz hwt) h hi hs hw hf hr hQ
theorem fL (i bi : Nat) {oi : Oper} {b j : Nat} {t : TypeId} {cs : Array Value} {v : Value} {ty : TypeId} {x : Operand} (hl : ∀ {w : World} {b j : Nat} {v : Value},w.cell? ⟨b,j,none⟩ = some v → (loadVar ty ⟨b,j,none⟩).run Tryz.prog w = .ok v w) (HF : Hid (FR w0 F A bs ts S w)) (h : AnyL Tryz.prog md ops Q (SFR w0 F A bs) k n (l.setIfInBounds i true) (a.put oi.dst v) w)
 (hi : ops[i]? = some oi := by rfl) (ho : oi.op = .load ty x := by rfl) (hx : a.eval x = .pointer (some ⟨b,j,none⟩) := by rfl) (hb : bs[bi]? = some (b,t,cs) := by rfl) (hv : cs[j]? = some v := by rfl) (hwt : Region.wanted oi (yielded ops a.tmps) = true := by rfl)
 (hs : Region.noSelect ops = true := by kernel_rfl) (hw : waitsB md ops k i = true := by kernel_rfl) (hf : Region.free md ops l i = true := by kernel_rfl) (hr : (Region.ready md ops l).contains i = true := by kernel_rfl)
 (hQ : ∀ c a w,Q (.panic c) (a.put oi.dst v) w → Q (.panic c) a w := by exact (fun _ _ _ h => h)) : AnyL Tryz.prog md ops Q (SFR w0 F A bs) k (n + 1) l a w :=
 tkL HF.out.s (yl_load1 bi hl ho hx hb hv hwt) h hi hs hw hf hr hQ
end
end Go.Proofs.YtlgkghebemfpjaaGreatDoor.Pa
