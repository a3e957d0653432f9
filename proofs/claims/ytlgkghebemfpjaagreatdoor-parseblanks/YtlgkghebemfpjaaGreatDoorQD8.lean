/- minus. -/
import Derived.Test.YtlgkghebemfpjaaGreatDoorQRw
import Derived.Test.YtlgkghebemfpjaaGreatDoorQD1
import Derived.Test.YtlgkghebemfpjaaGreatDoorQA79
namespace Go.Proofs.YtlgkghebemfpjaaGreatDoor.Pa
open Go.ChangeShapes Go.WideShapes Go.ChangeAt Go.RowKit
set_option linter.unusedVariables false
set_option linter.unusedSimpArgs false
set_option maxRecDepth 100000
theorem minus_no {E : PM X} {Q : PM Qy} {f g : Nat} {S : PS} (h : seesB [45] S = false) : minusM E Q f (g + 1) S = atomM E Q f S := if_neg (by simp [h])
theorem minus_int {E : PM X} {Q : PM Qy} {f g : Nat} {S : PS} (h : seesB [45] S = true) (h3 : (tail1 S).k = 3) : minusM E Q f (g + 1) S = (takeM.then fun t => takeM.then fun u => PM.ret (litX t.a 1 (wrap64 (-u.n)) [])) S := by
 show (if seesB [45] S = true then _ else _) = _
 rw [if_pos h,if_pos h3]
theorem minus_yes {E : PM X} {Q : PM Qy} {f g : Nat} {S : PS} (h : seesB [45] S = true) (h3 : ¬ (tail1 S).k = 3) : minusM E Q f (g + 1) S = aheadM 2 (minusM E Q f g) S := by
 show (if seesB [45] S = true then _ else _) = _
 rw [if_pos h,if_neg h3]
theorem neg_wrap (n : Int) : IntKind.i64.wrap n = wrap64 n := by simp [IntKind.wrap_i64,wrap64]
theorem take_eq {S S1 : PS} {t : Tk} (h : takeM S = .ok t S1) : t = S.hd ∧ S1 = { S with ts := S.ts.tail } := by
 unfold takeM at h
 split at h
 · cases h
 · cases h; exact ⟨rfl,rfl⟩
set_option maxHeartbeats 4000000 in
theorem minus_does (E : PM X) (Q : PM Qy) (f : Nat) (HM : MadeC) (HT : Does XR 188 (fun F => #[ptr F]) (atomM E Q f)) : ∀ g,Does XR 178 (fun F => #[ptr F]) (minusM E Q f g)
 | 0 => fun w F A S _ _ _ _ hn => absurd rfl hn
 | g + 1 => by
   intro w F A S hp hA hF hpre hn
   have HF : Hid (FR w F A [] [] S w) := FR.init [] hp hA hF (fun y h => (by cases h))
   obtain ⟨r,hr⟩ : ∃ r,(minusM E Q f (g + 1)) S = r := ⟨_,rfl⟩
   have HR : Hid ((minusM E Q f (g + 1)) S = r) := hr
   rw [hr] at hn ⊢
   have HN : Hid (r ≠ .out) := hn
   clear hp hA hF hr hn
   have hmf : ∀ (fn : Fn) (first cap : Array Value) (w : World),(Instr.makeFunc fn first cap).run Tryz.prog w = .ok (.func fn first cap) w := fun _ _ _ _ => rfl
   have HTH : Hid (Does XR 188 (fun F => #[ptr F]) (atomM E Q f)) := HT
   have HAH : Hid (DoesI (fun _ _ S => S.hd.k ≠ 0) XR 114 (fun F => #[ptr F,.int .i64 2,.func (.func 178) #[ptr F] #[]]) (aheadM 2 (minusM E Q f g))) := ahead178_does 2 _ HM (minus_does E Q f HM HT g)
   clear HM HT
   go_enter Tryz.func178,Tryz.ntmps178
   go_wp2_with (first | (refine wl_alloc HF al27 ?_; intro wN b2 hN; clear HF; have HF := hidF <| hN; clear hN))
   refine Calls.mono (sees_is [45] _ _ _ (HF.out).pa) ?_; rintro e wQ ⟨rfl,kQ⟩
   replace HF : Hid (FR _ _ _ _ _ _ _) := (HF.out).call (kQ.mono (fun i q => q.elim)) ((HF.out).pa.same kQ)
   clear kQ
   obtain ⟨bq,hbq⟩ : ∃ b,seesB [45] S = b := ⟨_,rfl⟩
   rw [hbq]
   have HBQ : Hid (seesB [45] S = bq) := hbq
   clear hbq
   cases bq with
   | false =>
     replace HR : Hid (atomM E Q f S = r) := by have h := HR.out; rw [minus_no HBQ.out] at h; exact h
     go_wp2_with fail
     refine DoesI.go (k := PM.ret) (HTH.out) (HF.out) (trivial) (by rw [PM.then_ret]; exact HR.out) HN.out ?_ ?_
     · intro a er wN hb hk
       have HB : Hid (r = .bad a er ∧ Kept (On F) w wN) := ⟨hb,hk⟩
       clear hb hk
       go_wp2_with fail
       exact ⟨rfl,out_bad HB.out.1 HB.out.2⟩
     intro x1 S1 v1 w1 hv hk hf
     obtain ⟨p1,c1,q1,d1,rfl,h1,h2⟩ := hv
     clear HF HR
     have HF := hidF <| (hf.tree h2).tree h1
     clear h1 h2
     clear hf
     have HR : Hid (_ = r) := hk
     clear hk
     go_wp2_with (first | (refine wl_store HF 0 ?_; intro wN hN; clear HF; have HF := hidF <| hN; clear hN))
     refine bodyPost_ret (end_row HF.out 0 rfl rfl rfl Tryz.underlying27 rfl (by kernel_rfl)) rfl ?_
     exact out_ok HR.out.symm HF.out (⟨p1,c1,q1,d1,rfl,HF.out.rep 0 rfl,HF.out.rep 1 rfl⟩)
   | true =>
     have HK : Hid (S.hd.k ≠ 0) := sees_key HBQ.out
     obtain ⟨T,o,cap,hpt⟩ := HF.out.pa
     have c0 := hpt.bx.cs 0 _ rfl
     obtain ⟨hT2,hlen⟩ := hpt.second HK.out
     have hlen : (1 : Int) < (S.ts.length : Int) := by omega
     have d0 := hT2.c0
     have d1 := hT2.c1
     have d2 := hT2.c2
     have d3 := hT2.c3
     clear hT2 hpt
     have hF0 := HF.out.pa.lt
     by_cases h3 : (tail1 S).k = 3
     · replace HR : Hid ((takeM.then fun t => takeM.then fun u => PM.ret (litX t.a 1 (wrap64 (-u.n)) [])) S = r) := by have h := HR.out; rw [minus_int HBQ.out h3] at h; exact h
       have H3 : Hid ((tail1 S).k = 3) := h3
       go_wp2_with fail
       clear c0 d0 d1 d2 d3 hlen hF0 h3
       refine DoesI.goE (take_does) (HF.out) (HK.out) HR.out HN.out ?_ ?_
       · intro a er wN hb hk
         have HB : Hid (r = .bad a er ∧ Kept (On F) w wN) := ⟨hb,hk⟩
         clear hb hk
         go_wp2_with fail
         exact ⟨rfl,out_bad HB.out.1 HB.out.2⟩
       intro x1 S1 v1 w1 he hv hk hf
       cases hv
       clear HF HR
       have HF := hidF <| hf
       clear hf
       have HR : Hid (_ = r) := hk
       clear hk
       obtain ⟨e1,e2⟩ := take_eq he
       have HK1 : Hid (S1.hd.k ≠ 0) := by show _ ≠ _; rw [e2]; have h := H3.out; show (tail1 S).k ≠ 0; omega
       clear e1 e2
       clear he
       go_wp2_with (first | (refine wl_alloc HF al40 ?_; intro wN b3 hN; clear HF; have HF := hidF <| hN; clear hN) | (refine wl_store HF 0 ?_; intro wN hN; clear HF; have HF := hidF <| hN; clear hN))
       have HF := hidF <| (HF.out).drew
       refine region_L (k := 8) (S := SFR w F A [(b3,40,#[.int .i64 x1.k,.string ⟨x1.t.toArray⟩,.int .i64 x1.n,.int .i64 x1.a]),(b2,27,#[.int .i64 0,.int .i64 0,.int .i64 0,.int .i64 0,.string ⟨#[]⟩,.string ⟨#[]⟩,.string ⟨#[]⟩,.int .i64 0,.bool false,.int .i64 0,.slice none 0 0,.slice none 0 0])]) (by kernel_rfl) ?_
       simp only [List.size_toArray,List.length_cons,List.length_nil,Nat.zero_add,Nat.reduceAdd,Array.replicate]
       refine pL 0 (.pointer (some ⟨b3,3,none⟩)) HF.out.s ?_
       try simp only [Act.put,sI,sS,sZ]
       refine fL 1 0 lv3 HF ?_
       try simp only [Act.put,sI,sS,sZ]
       refine pL 2 (ptr F) HF.out.s ?_
       try simp only [Act.put,sI,sS,sZ]
       refine onL (j := 3) (fun K hK => ?_)
       go_wp2_with fail
       refine DoesI.go (take_does) (HF.out) (HK1.out) HR.out HN.out ?_ ?_
       · intro a er wN hb hk
         have HB : Hid (r = .bad a er ∧ Kept (On F) w wN) := ⟨hb,hk⟩
         clear hb hk
         go_wp2_with fail
         exact ⟨rfl,out_bad HB.out.1 HB.out.2⟩
       intro x2 S2 v2 w2 hv hk hf
       cases hv
       clear HF HR
       have HF := hidF <| hf
       clear hf
       have HR : Hid (_ = r) := hk
       clear hk
       go_wp2_with fail
       refine hK.out _ _ ⟨fun _ => HF.out.s, ?_⟩
       clear hK K
       try simp only [Act.put,sI,sS,sZ]
       refine pL 4 (.int .i64 x2.n) HF.out.s ?_
       try simp only [Act.put,sI,sS,sZ]
       refine pL 5 (.int .i64 (wrap64 (-x2.n))) HF.out.s ?_ (hy := by intro w; go_simp; exact neg_wrap _)
       try simp only [Act.put,sI,sS,sZ]
       refine pL 6 (.agg #[.int .i64 1,.int .i64 (wrap64 (-x2.n)),.string ⟨#[]⟩]) HF.out.s ?_
       try simp only [Act.put,sI,sS,sZ]
       refine onL (j := 7) (fun K hK => ?_)
       go_wp2_with fail
       refine Calls.mono (literal_is x1.a 1 (wrap64 (-x2.n)) [] _) ?_; rintro e wQ ⟨rfl,kQ⟩
       replace HF : Hid (FR _ _ _ _ _ _ _) := HF.out.call (kQ.mono (fun i q => q.elim)) (HF.out.pa.same kQ)
       clear kQ
       go_wp2_with fail
       refine hK.out _ _ ⟨fun _ => HF.out.s, ?_⟩
       clear hK K
       try simp only [Act.put,sI,sS,sZ]
       refine onL (j := 8) (fun K hK => ?_)
       refine op_store HF 1 ?_
       intro wS hS
       clear HF
       have HF := hidF <| hS
       clear hS
       refine hK.out _ _ ⟨fun e => absurd rfl e, ?_⟩
       clear hK K
       try simp only [Act.put,sI,sS,sZ]
       refine doneL ?_
       (try simp only [List.getElem_toArray,List.getElem_cons_succ,List.getElem_cons_zero])
       go_wp2_with fail
       refine bodyPost_ret (end_row HF.out 1 rfl rfl rfl Tryz.underlying27 rfl (by kernel_rfl)) rfl ?_
       exact out_ok HR.out.symm HF.out (⟨none,0,none,0,rfl,Rep.nil none 0,Rep.nil none 0⟩)
     · replace HR : Hid (aheadM 2 (minusM E Q f g) S = r) := by have h := HR.out; rw [minus_yes HBQ.out h3] at h; exact h
       go_wp2_with fail
       clear c0 d0 d1 d2 d3 hlen hF0 h3
       refine DoesI.go (k := PM.ret) (HAH.out) (HF.out) (HK.out) (by rw [PM.then_ret]; exact HR.out) HN.out ?_ ?_
       · intro a er wN hb hk
         have HB : Hid (r = .bad a er ∧ Kept (On F) w wN) := ⟨hb,hk⟩
         clear hb hk
         go_wp2_with fail
         exact ⟨rfl,out_bad HB.out.1 HB.out.2⟩
       intro x1 S1 v1 w1 hv hk hf
       obtain ⟨p1,c1,q1,d1,rfl,h1,h2⟩ := hv
       clear HF HR
       have HF := hidF <| (hf.tree h2).tree h1
       clear h1 h2
       clear hf
       have HR : Hid (_ = r) := hk
       clear hk
       go_wp2_with (first | (refine wl_store HF 0 ?_; intro wN hN; clear HF; have HF := hidF <| hN; clear hN))
       refine bodyPost_ret (end_row HF.out 0 rfl rfl rfl Tryz.underlying27 rfl (by kernel_rfl)) rfl ?_
       exact out_ok HR.out.symm HF.out (⟨p1,c1,q1,d1,rfl,HF.out.rep 0 rfl,HF.out.rep 1 rfl⟩)
end Go.Proofs.YtlgkghebemfpjaaGreatDoor.Pa
