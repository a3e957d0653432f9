/- call. -/
import Derived.Test.YtlgkghebemfpjaaGreatDoorQLXs
import Derived.Test.YtlgkghebemfpjaaGreatDoorQD4
namespace Go.Proofs.YtlgkghebemfpjaaGreatDoor.Pa
open Go.ChangeShapes Go.WideShapes Go.ChangeAt Go.RowKit
set_option linter.unusedVariables false
set_option maxRecDepth 100000
def FuncC : Prop := ∀ (t : List UInt8) (w : World),t.length ≤ 5000 → Lib.Utf8Tabs 2 3 w → Calls Tryz.prog 206 #[.string ⟨t.toArray⟩] w fun e w' => e = .returned (.agg #[.int .i64 (functionF t).kind,.int .i64 (functionF t).op,.int .i64 (functionF t).least,.int .i64 (functionF t).most]) ∧ Kept (fun _ => False) w w'
theorem al206 (w : World) : (Instr.alloc 206 true (.tuple #[])).run Tryz.prog w = .ok (ptr w.heap.size) (w.alloc (.cells #[.int .i64 0,.int .i64 0,.int .i64 0,.int .i64 0] 206)) := by
 simp [go_sem]
theorem call_none {E : PM X} {f : Nat} {S : PS} (h : (functionF S.hd.t).op = 0) : callM E f S = .bad S.hd.a 170 := if_pos h
theorem call_some {E : PM X} {f : Nat} {S : PS} (h : ¬ (functionF S.hd.t).op = 0) : callM E f S = (takeM.then fun _ => (needM [40]).then fun _ => (skipM [42]).then fun all => (argsM E f all).then fun l => (needM [41]).then fun _ =>
 if all = true ∧ (functionF S.hd.t).op = 20 then PM.ret (opX (functionF S.hd.t).kind 19 false S.hd.a l.n l.l .none) else
 if (l.n : Int) < (functionF S.hd.t).least ∨ (functionF S.hd.t).most < (l.n : Int) then (fun _ => .bad S.hd.a 170) else madeM (opX (functionF S.hd.t).kind (functionF S.hd.t).op false S.hd.a l.n l.l .none)) S := if_neg h
def callZ (u : Fu) (a : Int) (all : Bool) (l : Sl) : PM X := if all = true ∧ u.op = 20 then PM.ret (opX u.kind 19 false a l.n l.l .none) else if (l.n : Int) < u.least ∨ u.most < (l.n : Int) then (fun _ => .bad a 170) else madeM (opX u.kind u.op false a l.n l.l .none)
def callT (u : Fu) (a : Int) (all : Bool) (l : Sl) : PM X := (needM [41]).then fun _ => callZ u a all l
theorem callZ_star {u : Fu} {a : Int} {l : Sl} (h : u.op = 20) : callZ u a true l = PM.ret (opX u.kind 19 false a l.n l.l .none) := if_pos ⟨rfl,h⟩
theorem callZ_bad {u : Fu} {a : Int} {all : Bool} {l : Sl} (h : all = false ∨ ¬ u.op = 20) (hb : (l.n : Int) < u.least ∨ u.most < (l.n : Int)) : callZ u a all l = (fun _ => .bad a 170) := by
 exact (if_neg (by rcases h with h | h <;> simp [h])).trans (if_pos hb)
theorem callZ_ok {u : Fu} {a : Int} {all : Bool} {l : Sl} (h : all = false ∨ ¬ u.op = 20) (hb : ¬ ((l.n : Int) < u.least ∨ u.most < (l.n : Int))) : callZ u a all l = madeM (opX u.kind u.op false a l.n l.l .none) := by
 exact (if_neg (by rcases h with h | h <;> simp [h])).trans (if_neg hb)
theorem args_list {E : PM X} {f : Nat} {S : PS} {β : Type} {G : Sl → PM β} (h : seesB [41] S = false) : ((argsM E f false).then G) S = ((exprsM E f).then G) S := by
 unfold PM.then argsM
 rw [if_pos ⟨rfl,h⟩]
theorem args_none {E : PM X} {f : Nat} {S : PS} {β : Type} {G : Sl → PM β} {all : Bool} (h : all = true ∨ seesB [41] S = true) : ((argsM E f all).then G) S = G .none S := by
 unfold PM.then argsM
 rw [if_neg (by rcases h with h | h <;> simp [h])]
set_option maxHeartbeats 8000000 in
theorem call_does (E : PM X) (f : Nat) (hf0 : f ≤ 100000) (HM : MadeC) (HU : FuncC) (HE : Does XR 19 (fun F => #[ptr F]) E) : DoesI (fun _ _ S => S.hd.k ≠ 0) XR 202 (fun F => #[ptr F]) (callM E f) := by
 intro w F A S hp hA hF hpre hn
 have HF : Hid (FR w F A [] [] S w) := FR.init [] hp hA hF (fun y h => (by cases h))
 obtain ⟨r,hr⟩ : ∃ r,(callM E f) S = r := ⟨_,rfl⟩
 have HR : Hid ((callM E f) S = r) := hr
 rw [hr] at hn ⊢
 have HN : Hid (r ≠ .out) := hn
 clear hp hA hF hr hn
 have HEH : Hid (Does XR 19 (fun F => #[ptr F]) E) := HE
 have HMH : Hid MadeC := HM
 have hmf : ∀ (fn : Fn) (first cap : Array Value) (w : World),(Instr.makeFunc fn first cap).run Tryz.prog w = .ok (.func fn first cap) w := fun _ _ _ _ => rfl
 have HLS : Hid (Does (SN 12) 125 (fun F => #[ptr F,.int .i64 16,.func (.func 19) #[ptr F] #[],.func (.func 64) #[ptr F] #[]]) (exprsM E f)) := list125_does E f hf0 HE
 have HK : Hid (S.hd.k ≠ 0) := hpre
 have HFN : Hid FuncC := HU
 clear HE HM HU hf0 hpre
 go_enter Tryz.func202,Tryz.ntmps202
 go_wp2_with (first | (refine wl_alloc HF al27 ?_; intro wN b2 hN; clear HF; have HF := hidF <| hN; clear hN))
 refine Calls.mono (next_is _ _ _ HF.out.pa) ?_; rintro e wQ ⟨rfl,kQ⟩
 have HF := hidF <| (HF.out).call (kQ.mono (fun i q => q.elim)) ((HF.out).pa.same kQ)
 clear kQ
 go_wp2_with (first | (refine wl_alloc HF al40 ?_; intro wN b3 hN; clear HF; have HF := hidF <| hN; clear hN) | (refine wl_store HF 0 ?_; intro wN hN; clear HF; have HF := hidF <| hN; clear hN) | (refine wl_load1 HF 0 lv9 ?_))
 obtain ⟨T,o,cap,hpt⟩ := HF.out.pa
 refine Calls.mono (HFN.out S.hd.t _ hpt.hdx hpt.gl) ?_; rintro e wQ ⟨rfl,kQ⟩
 clear hpt
 replace HF : Hid (FR _ _ _ _ _ _ _) := HF.out.call (kQ.mono (fun i q => q.elim)) (HF.out.pa.same kQ)
 clear kQ
 obtain ⟨u,hu⟩ : ∃ u,functionF S.hd.t = u := ⟨_,rfl⟩
 have HU : Hid (functionF S.hd.t = u) := hu
 rw [hu]
 clear hu
 by_cases hop : u.op = 0
 · replace HR : Hid (PR.bad S.hd.a 170 = r) := by have h := HR.out; rw [call_none (by rw [HU.out]; exact hop)] at h; exact h
   go_wp2_with (first | (refine wl_alloc HF al206 ?_; intro wN b4 hN; clear HF; have HF := hidF <| hN; clear hN) | (refine wl_store HF 0 ?_; intro wN hN; clear HF; have HF := hidF <| hN; clear hN) | (refine wl_load1 HF 0 lv3 ?_))
   refine Calls.mono (refuse_is _ _ _ (HF.out).pa) ?_; rintro e wR ⟨rfl,kR⟩
   have HB : Hid (Kept (On F) w wR) := (HF.out).kp.trans (kR.mono (fun i q => q.elim) : Kept (On F) _ _) (fun i q => .inl q)
   clear kR
   go_wp2_with fail
   exact ⟨rfl,out_bad HR.out.symm HB.out⟩
 · skip
   replace HR : Hid ((takeM.then fun _ => (needM [40]).then fun _ => (skipM [42]).then fun all => (argsM E f all).then fun l => callT u S.hd.a all l) S = r) := by
    have h := HR.out
    rw [call_some (by rw [HU.out]; exact hop),HU.out] at h
    exact h
   go_wp2_with (first | (refine wl_alloc HF al206 ?_; intro wN b4 hN; clear HF; have HF := hidF <| hN; clear hN) | (refine wl_store HF 0 ?_; intro wN hN; clear HF; have HF := hidF <| hN; clear hN) | (refine wl_load1 HF 0 lv3 ?_))
   refine DoesI.go (take_does) (HF.out) (HK.out) HR.out HN.out ?_ ?_
   · intro a er wN hb hk
     have HB : Hid (r = .bad a er ∧ Kept (On F) w wN) := ⟨hb,hk⟩
     clear hb hk
     go_wp2_with fail
     exact ⟨rfl,out_bad HB.out.1 HB.out.2⟩
   intro x1 S1 v1 w1 hv hk hf
   cases hv
   clear HF HR
   have HF := hidF <| hf
   clear hf
   have HR : Hid (_ = r) := hk
   clear hk
   go_wp2_with fail
   refine DoesI.go (need_does [40]) (HF.out) (trivial) HR.out HN.out ?_ ?_
   · intro a er wN hb hk
     have HB : Hid (r = .bad a er ∧ Kept (On F) w wN) := ⟨hb,hk⟩
     clear hb hk
     go_wp2_with fail
     exact ⟨rfl,out_bad HB.out.1 HB.out.2⟩
   intro x2 S2 v2 w2 hv hk hf
   cases hv
   clear HF HR
   have HF := hidF <| hf
   clear hf
   have HR : Hid (_ = r) := hk
   clear hk
   replace HF : Hid (FR w F A [(b4,206,#[.int .i64 u.kind,.int .i64 u.op,.int .i64 u.least,.int .i64 u.most]),(b3,40,#[.int .i64 S.hd.k,.string ⟨S.hd.t.toArray⟩,.int .i64 S.hd.n,.int .i64 S.hd.a]),(b2,27,#[.int .i64 0,.int .i64 0,.int .i64 0,.int .i64 0,.string ⟨#[]⟩,.string ⟨#[]⟩,.string ⟨#[]⟩,.int .i64 0,.bool false,.int .i64 0,.slice none 0 0,.slice none 0 0])] [] S2 w2) := HF.out
   go_wp2_with (first | (refine wl_load1 HF 0 lv3 ?_) | (refine wl_load1 HF 1 lv3 ?_) | (refine wl_alloc HF al27 ?_; intro wN b5 hN; clear HF; have HF := hidF <| hN; clear hN) | (refine wl_store HF 0 ?_; intro wN hN; clear HF; have HF := hidF <| hN; clear hN))
   refine DoesI.go (skip_does [42]) (HF.out) (trivial) HR.out HN.out ?_ ?_
   · intro a er wN hb hk
     have HB : Hid (r = .bad a er ∧ Kept (On F) w wN) := ⟨hb,hk⟩
     clear hb hk
     go_wp2_with fail
     exact ⟨rfl,out_bad HB.out.1 HB.out.2⟩
   intro x3 S3 v3 w3 hv hk hf
   cases hv
   clear HF HR
   have HF := hidF <| hf
   clear hf
   have HR : Hid (_ = r) := hk
   clear hk
   replace HF : Hid (FR w F A [(b5,27,#[.int .i64 u.kind,.int .i64 u.op,.int .i64 0,.int .i64 0,.string ⟨#[]⟩,.string ⟨#[]⟩,.string ⟨#[]⟩,.int .i64 0,.bool false,.int .i64 S.hd.a,.slice none 0 0,.slice none 0 0]),(b4,206,#[.int .i64 u.kind,.int .i64 u.op,.int .i64 u.least,.int .i64 u.most]),(b3,40,#[.int .i64 S.hd.k,.string ⟨S.hd.t.toArray⟩,.int .i64 S.hd.n,.int .i64 S.hd.a]),(b2,27,#[.int .i64 0,.int .i64 0,.int .i64 0,.int .i64 0,.string ⟨#[]⟩,.string ⟨#[]⟩,.string ⟨#[]⟩,.int .i64 0,.bool false,.int .i64 0,.slice none 0 0,.slice none 0 0])] [] S3 w3) := HF.out
   cases x3 with
   | true =>
     replace HR : Hid ((callT u S.hd.a true .none) S3 = r) := by have h := HR.out; rw [args_none (.inl rfl)] at h; exact h
     go_wp2_with fail
     replace HR : Hid (((needM [41]).then fun _ => callZ u S.hd.a true Sl.none) S3 = r) := HR.out
     go_wp2_with fail
     refine DoesI.go (need_does [41]) (HF.out) (trivial) HR.out HN.out ?_ ?_
     · intro a er wN hb hk
       have HB : Hid (r = .bad a er ∧ Kept (On F) w wN) := ⟨hb,hk⟩
       clear hb hk
       go_wp2_with fail
       exact ⟨rfl,out_bad HB.out.1 HB.out.2⟩
     intro x4 S4 v4 w4 hv hk hf
     cases hv
     clear HF HR
     have HF := hidF <| hf
     clear hf
     have HR : Hid (_ = r) := hk
     clear hk
     by_cases h20 : u.op = 20
     · replace HR : Hid (PM.ret (opX u.kind 19 false S.hd.a Sl.none.n Sl.none.l .none) S4 = r) := by have h := HR.out; rw [callZ_star h20] at h; exact h
       have hq1 := HF.out.cell 1 rfl 1
       simp only [List.getElem?_toArray,List.getElem?_cons_succ,List.getElem?_cons_zero] at hq1
       go_wp2_with (first | (refine wl_store1 HF 0 sv3 ?_; clear HF; intro wN hN; have HF : Hid (FR w F A [(b5,27,#[.int .i64 u.kind,.int .i64 19,.int .i64 0,.int .i64 0,.string ⟨#[]⟩,.string ⟨#[]⟩,.string ⟨#[]⟩,.int .i64 0,.bool false,.int .i64 S.hd.a,.slice none 0 0,.slice none 0 0]),(b4,206,#[.int .i64 u.kind,.int .i64 u.op,.int .i64 u.least,.int .i64 u.most]),(b3,40,#[.int .i64 S.hd.k,.string ⟨S.hd.t.toArray⟩,.int .i64 S.hd.n,.int .i64 S.hd.a]),(b2,27,#[.int .i64 0,.int .i64 0,.int .i64 0,.int .i64 0,.string ⟨#[]⟩,.string ⟨#[]⟩,.string ⟨#[]⟩,.int .i64 0,.bool false,.int .i64 0,.slice none 0 0,.slice none 0 0])] _ _ wN) := hN; clear hN) | (refine wl_load HF 0 Tryz.underlying27 ?_) | (refine wl_store HF 3 ?_; intro wN hN; clear HF; have HF := hidF <| hN; clear hN))
       refine bodyPost_ret (end_row HF.out 3 rfl rfl rfl Tryz.underlying27 rfl (by kernel_rfl)) rfl ?_
       exact out_ok HR.out.symm HF.out (⟨none,0,none,0,rfl,Rep.nil none 0,Rep.nil none 0⟩)
     · have hq4 := HF.out.cell 1 rfl 1
       simp only [List.getElem?_toArray,List.getElem?_cons_succ,List.getElem?_cons_zero] at hq4
       by_cases hb : (0 : Int) < u.least ∨ u.most < (0 : Int)
       · replace HR : Hid (PR.bad S.hd.a 170 = r) := by have h := HR.out; rw [callZ_bad (.inr h20) (by simpa [Sl.none] using hb)] at h; exact h
         by_cases hb1 : (0 : Int) < u.least
         · have hq0 := HF.out.cell 0 rfl 10
           have hq1 := HF.out.cell 1 rfl 2
           have hq2 := HF.out.cell 1 rfl 3
           have hq3 := HF.out.cell 2 rfl 3
           simp only [List.getElem?_toArray,List.getElem?_cons_succ,List.getElem?_cons_zero] at hq0 hq1 hq2 hq3
           go_wp2_with (first | (refine wl_load1 HF 0 lv24 ?_) | (refine wl_load1 HF 1 lv3 ?_) | (refine wl_load1 HF 2 lv3 ?_))
           exact ⟨rfl,out_bad HR.out.symm HF.out.kp⟩
         · have hb2 : u.most < (0 : Int) := by omega
           have hq0 := HF.out.cell 0 rfl 10
           have hq1 := HF.out.cell 1 rfl 2
           have hq2 := HF.out.cell 1 rfl 3
           have hq3 := HF.out.cell 2 rfl 3
           simp only [List.getElem?_toArray,List.getElem?_cons_succ,List.getElem?_cons_zero] at hq0 hq1 hq2 hq3
           go_wp2_with (first | (refine wl_load1 HF 0 lv24 ?_) | (refine wl_load1 HF 1 lv3 ?_) | (refine wl_load1 HF 2 lv3 ?_))
           exact ⟨rfl,out_bad HR.out.symm HF.out.kp⟩
       · replace HR : Hid (madeM (opX u.kind u.op false S.hd.a Sl.none.n Sl.none.l .none) S4 = r) := by have h := HR.out; rw [callZ_ok (.inr h20) (by simpa [Sl.none] using hb)] at h; exact h
         have hb1 : ¬ (0 : Int) < u.least := by omega
         have hb2 : ¬ u.most < (0 : Int) := by omega
         clear hb
         have hq0 := HF.out.cell 0 rfl 10
         have hq1 := HF.out.cell 1 rfl 2
         have hq2 := HF.out.cell 1 rfl 3
         have hq3 := HF.out.cell 2 rfl 3
         simp only [List.getElem?_toArray,List.getElem?_cons_succ,List.getElem?_cons_zero] at hq0 hq1 hq2 hq3
         go_wp2_with (first | (refine wl_load HF 0 Tryz.underlying27 ?_))
         clear hq0 hq1 hq2 hq3
         refine DoesI.go (k := PM.ret) (HMH.out (opX u.kind u.op false S.hd.a Sl.none.n Sl.none.l .none) _ _ none 0) (HF.out) (⟨Rep.nil none 0,Rep.nil none 0⟩) (by rw [PM.then_ret]; exact HR.out) HN.out ?_ ?_
         · intro a er wN hb hk
           have HB : Hid (r = .bad a er ∧ Kept (On F) w wN) := ⟨hb,hk⟩
           clear hb hk
           go_wp2_with fail
           exact ⟨rfl,out_bad HB.out.1 HB.out.2⟩
         intro x5 S5 v5 w5 hv hk hf
         obtain ⟨p5,c5,q5,d5,rfl,h1,h2⟩ := hv
         clear HF HR
         have HF := hidF <| (hf.tree h2).tree h1
         clear h1 h2
         clear hf
         have HR : Hid (_ = r) := hk
         clear hk
         go_wp2_with (first | (refine wl_store HF 3 ?_; intro wN hN; clear HF; have HF := hidF <| hN; clear hN))
         refine bodyPost_ret (end_row HF.out 3 rfl rfl rfl Tryz.underlying27 rfl (by kernel_rfl)) rfl ?_
         exact out_ok HR.out.symm HF.out (⟨p5,c5,q5,d5,rfl,HF.out.rep 0 rfl,HF.out.rep 1 rfl⟩)
   | false =>
     go_wp2_with fail
     refine Calls.mono (sees_is [41] _ _ _ (HF.out).pa) ?_; rintro e wQ ⟨rfl,kQ⟩
     replace HF : Hid (FR _ _ _ _ _ _ _) := (HF.out).call (kQ.mono (fun i q => q.elim)) ((HF.out).pa.same kQ)
     clear kQ
     obtain ⟨bq,hbq⟩ : ∃ b,seesB [41] S3 = b := ⟨_,rfl⟩
     rw [hbq]
     have HBQ : Hid (seesB [41] S3 = bq) := hbq
     clear hbq
     cases bq with
     | true =>
       replace HR : Hid ((callT u S.hd.a false .none) S3 = r) := by have h := HR.out; rw [args_none (.inr HBQ.out)] at h; exact h
       go_wp2_with fail
       replace HR : Hid (((needM [41]).then fun _ => callZ u S.hd.a false Sl.none) S3 = r) := HR.out
       go_wp2_with fail
       refine DoesI.go (need_does [41]) (HF.out) (trivial) HR.out HN.out ?_ ?_
       · intro a er wN hb hk
         have HB : Hid (r = .bad a er ∧ Kept (On F) w wN) := ⟨hb,hk⟩
         clear hb hk
         go_wp2_with fail
         exact ⟨rfl,out_bad HB.out.1 HB.out.2⟩
       intro x4 S4 v4 w4 hv hk hf
       cases hv
       clear HF HR
       have HF := hidF <| hf
       clear hf
       have HR : Hid (_ = r) := hk
       clear hk
       by_cases hb : (0 : Int) < u.least ∨ u.most < (0 : Int)
       · replace HR : Hid (PR.bad S.hd.a 170 = r) := by have h := HR.out; rw [callZ_bad (.inl rfl) (by simpa [Sl.none] using hb)] at h; exact h
         by_cases hb1 : (0 : Int) < u.least
         · have hq0 := HF.out.cell 0 rfl 10
           have hq1 := HF.out.cell 1 rfl 2
           have hq2 := HF.out.cell 1 rfl 3
           have hq3 := HF.out.cell 2 rfl 3
           simp only [List.getElem?_toArray,List.getElem?_cons_succ,List.getElem?_cons_zero] at hq0 hq1 hq2 hq3
           go_wp2_with (first | (refine wl_load1 HF 0 lv24 ?_) | (refine wl_load1 HF 1 lv3 ?_) | (refine wl_load1 HF 2 lv3 ?_))
           exact ⟨rfl,out_bad HR.out.symm HF.out.kp⟩
         · have hb2 : u.most < (0 : Int) := by omega
           have hq0 := HF.out.cell 0 rfl 10
           have hq1 := HF.out.cell 1 rfl 2
           have hq2 := HF.out.cell 1 rfl 3
           have hq3 := HF.out.cell 2 rfl 3
           simp only [List.getElem?_toArray,List.getElem?_cons_succ,List.getElem?_cons_zero] at hq0 hq1 hq2 hq3
           go_wp2_with (first | (refine wl_load1 HF 0 lv24 ?_) | (refine wl_load1 HF 1 lv3 ?_) | (refine wl_load1 HF 2 lv3 ?_))
           exact ⟨rfl,out_bad HR.out.symm HF.out.kp⟩
       · replace HR : Hid (madeM (opX u.kind u.op false S.hd.a Sl.none.n Sl.none.l .none) S4 = r) := by have h := HR.out; rw [callZ_ok (.inl rfl) (by simpa [Sl.none] using hb)] at h; exact h
         have hb1 : ¬ (0 : Int) < u.least := by omega
         have hb2 : ¬ u.most < (0 : Int) := by omega
         clear hb
         have hq0 := HF.out.cell 0 rfl 10
         have hq1 := HF.out.cell 1 rfl 2
         have hq2 := HF.out.cell 1 rfl 3
         have hq3 := HF.out.cell 2 rfl 3
         simp only [List.getElem?_toArray,List.getElem?_cons_succ,List.getElem?_cons_zero] at hq0 hq1 hq2 hq3
         go_wp2_with (first | (refine wl_load HF 0 Tryz.underlying27 ?_))
         clear hq0 hq1 hq2 hq3
         refine DoesI.go (k := PM.ret) (HMH.out (opX u.kind u.op false S.hd.a Sl.none.n Sl.none.l .none) _ _ none 0) (HF.out) (⟨Rep.nil none 0,Rep.nil none 0⟩) (by rw [PM.then_ret]; exact HR.out) HN.out ?_ ?_
         · intro a er wN hb hk
           have HB : Hid (r = .bad a er ∧ Kept (On F) w wN) := ⟨hb,hk⟩
           clear hb hk
           go_wp2_with fail
           exact ⟨rfl,out_bad HB.out.1 HB.out.2⟩
         intro x5 S5 v5 w5 hv hk hf
         obtain ⟨p5,c5,q5,d5,rfl,h1,h2⟩ := hv
         clear HF HR
         have HF := hidF <| (hf.tree h2).tree h1
         clear h1 h2
         clear hf
         have HR : Hid (_ = r) := hk
         clear hk
         go_wp2_with (first | (refine wl_store HF 3 ?_; intro wN hN; clear HF; have HF := hidF <| hN; clear hN))
         refine bodyPost_ret (end_row HF.out 3 rfl rfl rfl Tryz.underlying27 rfl (by kernel_rfl)) rfl ?_
         exact out_ok HR.out.symm HF.out (⟨p5,c5,q5,d5,rfl,HF.out.rep 0 rfl,HF.out.rep 1 rfl⟩)
     | false =>
       replace HR : Hid (((exprsM E f).then fun l => callT u S.hd.a false l) S3 = r) := by have h := HR.out; rw [args_list HBQ.out] at h; exact h
       go_wp2_with fail
       refine DoesI.go (HLS.out) (HF.out) (trivial) HR.out HN.out ?_ ?_
       · intro a er wN hb hk
         have HB : Hid (r = .bad a er ∧ Kept (On F) w wN) := ⟨hb,hk⟩
         clear hb hk
         go_wp2_with fail
         exact ⟨rfl,out_bad HB.out.1 HB.out.2⟩
       intro x4 S4 v4 w4 hv hk hf
       obtain ⟨⟨p4,c4,rfl,h1⟩,hl4,hn4,hm4⟩ := hv
       have HL4 : Hid (x4.l.length = x4.n * 12 ∧ 0 < x4.n ∧ x4.n ≤ 200000) := ⟨hl4,hn4,hm4⟩
       clear hl4 hn4 hm4 HF HR
       have HF := hidF <| hf.tree h1
       clear h1
       clear hf
       have HR : Hid (_ = r) := hk
       clear hk
       go_wp2_with (first | (refine wl_store1 HF 0 sv24 ?_; clear HF; intro wN hN; have HF : Hid (FR w F A [(b5,27,#[.int .i64 u.kind,.int .i64 u.op,.int .i64 0,.int .i64 0,.string ⟨#[]⟩,.string ⟨#[]⟩,.string ⟨#[]⟩,.int .i64 0,.bool false,.int .i64 S.hd.a,.slice p4 x4.n c4,.slice none 0 0]),(b4,206,#[.int .i64 u.kind,.int .i64 u.op,.int .i64 u.least,.int .i64 u.most]),(b3,40,#[.int .i64 S.hd.k,.string ⟨S.hd.t.toArray⟩,.int .i64 S.hd.n,.int .i64 S.hd.a]),(b2,27,#[.int .i64 0,.int .i64 0,.int .i64 0,.int .i64 0,.string ⟨#[]⟩,.string ⟨#[]⟩,.string ⟨#[]⟩,.int .i64 0,.bool false,.int .i64 0,.slice none 0 0,.slice none 0 0])] _ _ wN) := hN; clear hN))
       replace HR : Hid (((needM [41]).then fun _ => callZ u S.hd.a false x4) S4 = r) := HR.out
       go_wp2_with fail
       refine DoesI.go (need_does [41]) (HF.out) (trivial) HR.out HN.out ?_ ?_
       · intro a er wN hb hk
         have HB : Hid (r = .bad a er ∧ Kept (On F) w wN) := ⟨hb,hk⟩
         clear hb hk
         go_wp2_with fail
         exact ⟨rfl,out_bad HB.out.1 HB.out.2⟩
       intro x5 S5 v5 w5 hv hk hf
       cases hv
       clear HF HR
       have HF := hidF <| hf
       clear hf
       have HR : Hid (_ = r) := hk
       clear hk
       by_cases hb : (x4.n : Int) < u.least ∨ u.most < (x4.n : Int)
       · replace HR : Hid (PR.bad S.hd.a 170 = r) := by have h := HR.out; rw [callZ_bad (.inl rfl) hb] at h; exact h
         by_cases hb1 : (x4.n : Int) < u.least
         · have hq0 := HF.out.cell 0 rfl 10
           have hq1 := HF.out.cell 1 rfl 2
           have hq2 := HF.out.cell 1 rfl 3
           have hq3 := HF.out.cell 2 rfl 3
           simp only [List.getElem?_toArray,List.getElem?_cons_succ,List.getElem?_cons_zero] at hq0 hq1 hq2 hq3
           go_wp2_with (first | (refine wl_load1 HF 0 lv24 ?_) | (refine wl_load1 HF 1 lv3 ?_) | (refine wl_load1 HF 2 lv3 ?_))
           exact ⟨rfl,out_bad HR.out.symm HF.out.kp⟩
         · have hb2 : u.most < (x4.n : Int) := by omega
           have hq0 := HF.out.cell 0 rfl 10
           have hq1 := HF.out.cell 1 rfl 2
           have hq2 := HF.out.cell 1 rfl 3
           have hq3 := HF.out.cell 2 rfl 3
           simp only [List.getElem?_toArray,List.getElem?_cons_succ,List.getElem?_cons_zero] at hq0 hq1 hq2 hq3
           go_wp2_with (first | (refine wl_load1 HF 0 lv24 ?_) | (refine wl_load1 HF 1 lv3 ?_) | (refine wl_load1 HF 2 lv3 ?_))
           exact ⟨rfl,out_bad HR.out.symm HF.out.kp⟩
       · replace HR : Hid (madeM (opX u.kind u.op false S.hd.a x4.n x4.l .none) S5 = r) := by have h := HR.out; rw [callZ_ok (.inl rfl) hb] at h; exact h
         have hb1 : ¬ (x4.n : Int) < u.least := by omega
         have hb2 : ¬ u.most < (x4.n : Int) := by omega
         clear hb
         have hq0 := HF.out.cell 0 rfl 10
         have hq1 := HF.out.cell 1 rfl 2
         have hq2 := HF.out.cell 1 rfl 3
         have hq3 := HF.out.cell 2 rfl 3
         simp only [List.getElem?_toArray,List.getElem?_cons_succ,List.getElem?_cons_zero] at hq0 hq1 hq2 hq3
         go_wp2_with (first | (refine wl_load HF 0 Tryz.underlying27 ?_))
         clear hq0 hq1 hq2 hq3
         refine DoesI.go (k := PM.ret) (HMH.out (opX u.kind u.op false S.hd.a x4.n x4.l .none) _ _ none 0) (HF.out) (⟨HF.out.trep 0 rfl,Rep.nil none 0⟩) (by rw [PM.then_ret]; exact HR.out) HN.out ?_ ?_
         · intro a er wN hb hk
           have HB : Hid (r = .bad a er ∧ Kept (On F) w wN) := ⟨hb,hk⟩
           clear hb hk
           go_wp2_with fail
           exact ⟨rfl,out_bad HB.out.1 HB.out.2⟩
         intro x6 S6 v6 w6 hv hk hf
         obtain ⟨p6,c6,q6,d6,rfl,h1,h2⟩ := hv
         clear HF HR
         have HF := hidF <| (hf.tree h2).tree h1
         clear h1 h2
         clear hf
         have HR : Hid (_ = r) := hk
         clear hk
         go_wp2_with (first | (refine wl_store HF 3 ?_; intro wN hN; clear HF; have HF := hidF <| hN; clear hN))
         refine bodyPost_ret (end_row HF.out 3 rfl rfl rfl Tryz.underlying27 rfl (by kernel_rfl)) rfl ?_
         exact out_ok HR.out.symm HF.out (⟨p6,c6,q6,d6,rfl,HF.out.rep 0 rfl,HF.out.rep 1 rfl⟩)
end Go.Proofs.YtlgkghebemfpjaaGreatDoor.Pa
