/- The closures of a list of selects. The list of selects. selects. -/
import Derived.Test.YtlgkghebemfpjaaGreatDoorQK1
import Derived.Test.YtlgkghebemfpjaaGreatDoorQJ1
import Derived.Test.YtlgkghebemfpjaaGreatDoorQS1
namespace Go.Proofs.YtlgkghebemfpjaaGreatDoor.Pa
open Go.ChangeShapes Go.WideShapes Go.ChangeAt Go.RowKit
set_option linter.unusedVariables false
set_option maxRecDepth 100000
def moreSel : PM (Option Int) := joiningM.then fun how => PM.ret (if how = 0 then none else some how)
theorem SeR.mono {A A' : Nat → Prop} {w w' : World} {v : Value} {x : Se} (h : SeR A w v x) (hs : w.heap.size ≤ w'.heap.size) (hA : ∀ g,A g → g < w.heap.size → A' g ∧ w'.heap[g]? = w.heap[g]?) : SeR A' w' v x := by
 obtain ⟨p1,c1,p2,c2,p3,c3,p4,c4,p5,c5,e,h1,h2,h3,h4,h5⟩ := h
 exact ⟨p1,c1,p2,c2,p3,c3,p4,c4,p5,c5,e,h1.mono hs hA,h2.mono hs hA,h3.mono hs hA,h4.mono hs hA,h5.mono hs hA⟩
set_option maxHeartbeats 2000000 in
theorem sel1 {w0 : World} {F : Nat} {A : Nat → Prop} {bs : List (Nat × TypeId × Array Value)} {ts : List (Value × DT)} {S : PS} {w : World} {b1 b3 i1 i3 : Nat} {l : Int} {E : PM X} {f : Nat} {β : Type} {k : Se → PM β} {r : PR β} (HF : Hid (FR w0 F A bs ts S w)) (h1 : bs[i1]? = some (b1,63,#[ptr F])) (h3 : bs[i3]? = some (b3,3,#[.int .i64 l])) (HS : Does SeR 88 (fun F => #[ptr F,.int .i64 l]) (selectOneM E f l))
 (HR0 : ((selectOneM E f l).then k) S = r) (hr : r ≠ .out) {Post : Ending → World → Prop} (hbad : ∀ a er w1,r = .bad a er → Kept (On F) w0 w1 → Post (.panicked (flt a er)) w1)
 (hok : ∀ (x : Se) S1 v w1,SeR (fun g => A g ∧ ∀ x ∈ bs,x.1 ≠ g) w1 v x → k x S1 = r → FR w0 F A bs ts S1 w1 → Post (.returned v) w1) : Calls Tryz.prog 87 #[ptr b1,ptr b3] w Post := by
 have HSH : Hid (Does SeR 88 (fun F => #[ptr F,.int .i64 l]) (selectOneM E f l)) := HS
 have HR : Hid (((selectOneM E f l).then k) S = r) := HR0
 have HN : Hid (r ≠ .out) := hr
 clear HS HR0 hr
 go_enter Tryz.func87,Tryz.ntmps87
 go_wp2_with (first | (refine wl_alloc HF al53 ?_; intro wN b9 hN; clear HF; have HF := hidF <| hN; clear hN) | (refine wl_load1 HF (i1 + 1) lv63 ?_ (hi := h1)) | (refine wl_load1 HF (i3 + 1) lv3 ?_ (hi := h3)))
 refine DoesI.go (HSH.out) (HF.out) (trivial) HR.out HN.out ?_ ?_
 · intro a er wN hb hk
   have HB : Hid (r = .bad a er ∧ Kept (On F) w0 wN) := ⟨hb,hk⟩
   clear hb hk
   go_wp2_with fail
   exact ⟨rfl,hbad _ _ _ HB.out.1 HB.out.2⟩
 intro x1 S1 v1 w1 hv hk hf
 obtain ⟨p1,c1,p2,c2,p3,c3,p4,c4,p5,c5,rfl,hq1,hq2,hq3,hq4,hq5⟩ := hv
 clear HF HR
 have HF : Hid (FR w0 F A _ _ S1 w1) := ((((hf.tree hq5).tree hq4).tree hq3).tree hq2).tree hq1
 clear hf hq1 hq2 hq3 hq4 hq5
 have HR : Hid (k x1 S1 = r) := hk
 clear hk
 go_wp2_with (first | (refine wl_store HF 0 ?_; intro wN hN; clear HF; have HF := hidF <| hN; clear hN))
 refine bodyPost_ret (end_row HF.out 0 rfl rfl rfl Tryz.underlying53 rfl (by kernel_rfl)) rfl ?_
 exact hok x1 S1 _ _ ⟨p1,c1,p2,c2,p3,c3,p4,c4,p5,c5,rfl,HF.out.tl.trep 0 rfl,HF.out.tl.trep 1 rfl,HF.out.tl.trep 2 rfl,HF.out.tl.trep 3 rfl,HF.out.tl.trep 4 rfl⟩ HR.out (HF.out.tl.less (fun x h => h) (fun y h => List.mem_cons_of_mem _ (List.mem_cons_of_mem _ (List.mem_cons_of_mem _ (List.mem_cons_of_mem _ (List.mem_cons_of_mem _ h))))) HF.out.tl.ap)
theorem moreSel_eq {β : Type} (G : Option Int → PM β) (S : PS) : (moreSel.then G) S = (joiningM.then fun l => G (if l = 0 then none else some l)) S := PM.then_assoc joiningM _ _ S
set_option maxHeartbeats 4000000 in
theorem sel2 {w0 : World} {F : Nat} {A : Nat → Prop} {ts : List (Value × DT)} {S : PS} {w : World} {g : Nat} {cur : Array Value} {b1 b3 : Nat} {l : Int} {β : Type} {k : Option Int → PM β} {r : PR β} (HF : Hid (FR w0 F A [(g,53,cur),(b3,3,#[.int .i64 l]),(b1,63,#[ptr F])] ts S w))
 (HR0 : (moreSel.then k) S = r) (hr : r ≠ .out) {Post : Ending → World → Prop} (hbad : ∀ a er w1,r = .bad a er → Kept (On F) w0 w1 → Post (.panicked (flt a er)) w1)
 (hok : ∀ (l' : Int) (b : Bool) S1 w1,k (if b then some l' else none) S1 = r → FR w0 F A [(g,53,cur),(b3,3,#[.int .i64 l']),(b1,63,#[ptr F])] ts S1 w1 → Post (.returned (.bool b)) w1) : Calls Tryz.prog 90 #[ptr b1,ptr b3] w Post := by
 rw [moreSel_eq] at HR0
 have HR : Hid ((joiningM.then fun l => k (if l = 0 then none else some l)) S = r) := HR0
 have HN : Hid (r ≠ .out) := hr
 clear HR0 hr
 go_enter Tryz.func90,Tryz.ntmps90
 go_wp2_with (first | (refine wl_load1 HF 2 lv63 ?_))
 refine DoesI.go (joining_does) (HF.out) (trivial) HR.out HN.out ?_ ?_
 · intro a er wN hb hk
   have HB : Hid (r = .bad a er ∧ Kept (On F) w0 wN) := ⟨hb,hk⟩
   clear hb hk
   go_wp2_with fail
   exact ⟨rfl,hbad _ _ _ HB.out.1 HB.out.2⟩
 intro l2 S1 v1 w1 hv hk hf
 cases hv
 clear HF HR
 have HF : Hid (FR w0 F A [(g,53,cur),(b3,3,#[.int .i64 l]),(b1,63,#[ptr F])] ts S1 w1) := hf
 clear hf
 have HR : Hid (k (if l2 = 0 then none else some l2) S1 = r) := hk
 clear hk
 by_cases h0 : l2 = 0
 · replace HR : Hid (k (if false = true then some l2 else none) S1 = r) := by have h := HR.out; rw [if_pos h0] at h; exact h
   have HH0 : Hid (l2 = 0) := h0
   clear h0
   go_wp2_with (first | (refine wl_store1 HF 1 sv3 ?_; clear HF; intro wN hN; have HF : Hid (FR w0 F A [(g,53,cur),(b3,3,#[.int .i64 l2]),(b1,63,#[ptr F])] ts S1 wN) := hN; clear hN) | (refine wl_load1 HF 1 lv3 ?_))
   have e : (l2 != 0) = false := by rw [HH0.out]; decide
   show Post (.returned (.bool (l2 != 0))) _
   rw [e]
   exact hok l2 false S1 _ HR.out HF.out
 · replace HR : Hid (k (if true = true then some l2 else none) S1 = r) := by have h := HR.out; rw [if_neg h0] at h; exact h
   have HH0 : Hid (¬ l2 = 0) := h0
   clear h0
   go_wp2_with (first | (refine wl_store1 HF 1 sv3 ?_; clear HF; intro wN hN; have HF : Hid (FR w0 F A [(g,53,cur),(b3,3,#[.int .i64 l2]),(b1,63,#[ptr F])] ts S1 wN) := hN; clear hN) | (refine wl_load1 HF 1 lv3 ?_))
   have e : (l2 != 0) = true := bne_iff_ne.2 HH0.out
   show Post (.returned (.bool (l2 != 0))) _
   rw [e]
   exact hok l2 true S1 _ HR.out HF.out
theorem inf53 : (Tryz.prog.info? 53).map (fun i => (i.zero,i.size,i.bytes)) = some (some (.agg #[.int .i64 0,.bool false,.slice none 0 0,.slice none 0 0,.slice none 0 0,.slice none 0 0,.slice none 0 0]),7,136) := by kernel_rfl
theorem app53 {w0 : World} {F : Nat} {A : Nat → Prop} {bs : List (Nat × TypeId × Array Value)} {ts : List (Value × DT)} {S : PS} {w : World} {g k cap b : Nat} {cur : Array Value} {xs news : List Value} (h : FR w0 F A ((b,53,news.toArray) :: (g,53,cur) :: bs) ts S w) (o : Own 7 g k cap cur xs) (hk : k ≤ 200000) (hn : news.length = 7) (h1 : ∀ u ∈ news,u.oneCell' = true) :
 ∃ g' cap' cur' w',(Builtin.append_ #[41,41] 41 #[.slice (some ⟨g,0,none⟩) k cap,.slice (some ⟨b,0,none⟩) 1 1]).run Tryz.prog w = .ok (.slice (some ⟨g',0,none⟩) (k + 1) cap') w' ∧ FR w0 F A ((g',53,cur') :: bs) ts S w' ∧ Own 7 g' (k + 1) cap' cur' (xs ++ news) ∧ Kept (On g) w w' := by
 obtain ⟨i,hi,hz,h2,h3⟩ := info_of inf53
 refine FR.append h.tl o i _ Tryz.underlying41 hi hz h2 h3 rfl b 1 1 0 news (by rw [hn]) (fun j u q => ?_) h1 (by omega) (by unfold maxLen; omega) (by omega)
 rw [Nat.zero_add,h.cell 0 rfl j]
 simpa using q
set_option maxHeartbeats 8000000 in
theorem list89_go {w0 : World} {F : Nat} {A : Nat → Prop} {S : PS} {w : World} {b1 b3 : Nat} (E : PM X) (f : Nat) (hf0 : f ≤ 100000) {r : PR Sl} (HF : Hid (FR w0 F A [(b3,3,#[.int .i64 0]),(b1,63,#[ptr F])] [] S w)) (HS : ∀ l : Int,Does SeR 88 (fun F => #[ptr F,.int .i64 l]) (selectOneM E f l))
 (HR0 : selectsM E f S = r) (hr : r ≠ .out) {Post : Ending → World → Prop} (hbad : ∀ a er w1,r = .bad a er → Kept (On F) w0 w1 → Post (.panicked (flt a er)) w1)
 (hok : ∀ (x : Sl) S1 v w1 bs' ts',r = .ok x S1 → FR w0 F A bs' ts' S1 w1 → SR A w1 v x → Post (.returned v) w1) : Calls Tryz.prog 89 #[ptr F,.int .i64 8,.func (.func 87) #[] #[ptr b1,ptr b3],.func (.func 90) #[] #[ptr b1,ptr b3]] w Post := by
 have HSH : Hid (∀ l : Int,Does SeR 88 (fun F => #[ptr F,.int .i64 l]) (selectOneM E f l)) := HS
 have HR : Hid (((selectOneM E f 0).then fun x => listT Se.flat 8 (fun how => selectOneM E f how) moreSel f ⟨1,x.flat⟩) S = r) := HR0
 have HN : Hid (r ≠ .out) := hr
 have HL : Hid (f ≤ 100000) := hf0
 clear HS HR0 hr hf0
 go_enter Tryz.func89,Tryz.ntmps89
 go_wp2_with fail
 refine sel1 (i1 := 1) (i3 := 0) HF rfl rfl (HSH.out _) HR.out HN.out ?_ ?_
 · intro a er wN hb hk
   have HB : Hid (r = .bad a er ∧ Kept (On F) w0 wN) := ⟨hb,hk⟩
   clear hb hk
   go_wp2_with fail
   exact ⟨rfl,hbad _ _ _ HB.out.1 HB.out.2⟩
 intro x1 S1 v1 w1 hv hk hf
 obtain ⟨p11,c11,p21,c21,p31,c31,p41,c41,p51,c51,rfl,h1,h2,h3,h4,h5⟩ := hv
 clear HF HR
 have HF : Hid (FR w0 F A _ _ S1 w1) := ((((hf.tree h5).tree h4).tree h3).tree h2).tree h1
 clear h1 h2 h3 h4 h5
 clear hf
 have HR : Hid ((listT Se.flat 8 (fun how => selectOneM E f how) moreSel f ⟨1,x1.flat⟩) S1 = r) := hk
 clear hk
 have HF0 : Hid (FR w0 F A [(b3,3,#[.int .i64 0]),(b1,63,#[ptr F])] _ S1 w1) := HF.out
 have HP : Hid (RepL (fun g => A g ∧ ∀ x ∈ [(b3,3,#[.int .i64 0]),(b1,63,#[ptr F])],x.1 ≠ g) w1 ([.int .i64 x1.how,.bool x1.di,.slice p11 x1.it.n c11,.slice p21 x1.fr.n c21,.slice p31 x1.wh.n c31,.slice p41 x1.gr.n c41,.slice p51 x1.hv.n c51] : List Value) x1.flat) := se_rep (HF.out.trep 0 rfl) (HF.out.trep 1 rfl) (HF.out.trep 2 rfl) (HF.out.trep 3 rfl) (HF.out.trep 4 rfl)
 have HF : Hid (FR w0 F A [(b3,3,#[.int .i64 0]),(b1,63,#[ptr F])] (([.int .i64 x1.how,.bool x1.di,.slice p11 x1.it.n c11,.slice p21 x1.fr.n c21,.slice p31 x1.wh.n c31,.slice p41 x1.gr.n c41,.slice p51 x1.hv.n c51] : List Value).zip x1.flat) S1 w1) := HF0.out.zip HP.out
 clear HF0 HP
 go_wp2_with (first | (refine wl_rowbox HF (el := 53) (bs41 _ _ _ _ _ _ _ ) ?_; clear HF; intro wN g0 hN; have HF : Hid (FR w0 F A [(g0,53,#[.int .i64 x1.how,.bool x1.di,.slice p11 x1.it.n c11,.slice p21 x1.fr.n c21,.slice p31 x1.wh.n c31,.slice p41 x1.gr.n c41,.slice p51 x1.hv.n c51]),(b3,3,#[.int .i64 0]),(b1,63,#[ptr F])] (([.int .i64 x1.how,.bool x1.di,.slice p11 x1.it.n c11,.slice p21 x1.fr.n c21,.slice p31 x1.wh.n c31,.slice p41 x1.gr.n c41,.slice p51 x1.hv.n c51] : List Value).zip x1.flat) S1 wN) := hN; clear hN))
 have HO : Hid (Own 7 g0 1 1 #[.int .i64 x1.how,.bool x1.di,.slice p11 x1.it.n c11,.slice p21 x1.fr.n c21,.slice p31 x1.wh.n c31,.slice p41 x1.gr.n c41,.slice p51 x1.hv.n c51] ([.int .i64 x1.how,.bool x1.di,.slice p11 x1.it.n c11,.slice p21 x1.fr.n c21,.slice p31 x1.wh.n c31,.slice p41 x1.gr.n c41,.slice p51 x1.hv.n c51] : List Value)) := Own.one rfl
 go_loopg [9] f (fun (gk : Nat) (v9 : Value) (wr : World) => ∃ (g cap : Nat) (cur : Array Value) (xs : List Value) (l : Sl) (lf : Int) (Sr : PS),v9 = .slice (some ⟨g,0,none⟩) l.n cap ∧ Hid (FR w0 F A [(g,53,cur),(b3,3,#[.int .i64 lf]),(b1,63,#[ptr F])] (xs.zip l.l) Sr wr) ∧ Hid (Own 7 g l.n cap cur xs ∧ xs.length = l.l.length ∧ l.n ≤ 1 + f ∧ l.n + gk = 1 + f ∧ 0 < l.n) ∧ Hid (listT Se.flat 8 (fun how => selectOneM E f how) moreSel gk l Sr = r))
 case atStart => exact ⟨g0,1,_,_,⟨1,x1.flat⟩,0,S1,rfl,HF,⟨HO.out,rfl,Nat.le_add_right _ _,rfl,Nat.one_pos⟩,HR⟩
 case round =>
  obtain ⟨g,cap,cur,xs,l,lf,Sr,rfl,HF,HO,HR⟩ := hrel
  obtain ⟨gk,rfl⟩ : ∃ k,gk = k + 1 := by
   cases gk with
   | zero => exact absurd HR.out.symm HN.out
   | succ k => exact ⟨k,rfl⟩
  replace HR : Hid ((moreSel.then (listK Se.flat 8 (fun how => selectOneM E f how) moreSel gk l)) Sr = r) := by
   have h := HR.out
   rw [listT_eq] at h
   exact h
  go_wp2_with fail
  refine sel2 HF HR.out HN.out ?_ ?_
  · intro a er wN hb hk
    have HB : Hid (r = .bad a er ∧ Kept (On F) w0 wN) := ⟨hb,hk⟩
    clear hb hk
    go_wp2_with fail
    exact ⟨rfl,hbad _ _ _ HB.out.1 HB.out.2⟩
  intro lf2 x2 S2 w2 hk hf
  clear HF HR
  have HF : Hid (FR w0 F A [(g,53,cur),(b3,3,#[.int .i64 lf2]),(b1,63,#[ptr F])] (xs.zip l.l) S2 w2) := hf
  clear hf
  have HR : Hid ((listK Se.flat 8 (fun how => selectOneM E f how) moreSel gk l (if x2 then some lf2 else none)) S2 = r) := hk
  clear hk
  cases x2 with
  | false =>
    replace HR : Hid ((PM.ret l S2) = r) := HR.out
    go_wp2_with fail
    have HS2 : Hid (FR w0 F A [(b3,3,#[.int .i64 lf2]),(b1,63,#[ptr F])] _ S2 w2) := HF.out.shut HO.out.1 (HF.out.unzip (fun y hy => hy) HO.out.2.1)
    exact hok l S2 _ _ _ _ HR.out.symm HS2.out ⟨_,_,rfl,HS2.out.rep 0 rfl⟩
  | true =>
    replace HR : Hid ((((if l.n = 8 then barM 2 else PM.ret ()).then fun _ => (selectOneM E f lf2).then fun x => listT Se.flat 8 (fun how => selectOneM E f how) moreSel gk ⟨l.n + 1,l.l ++ Se.flat x⟩) S2) = r) := HR.out
    by_cases h16 : l.n = 8
    · replace HR : Hid (((barM 2).then fun _ => (selectOneM E f lf2).then fun x => listT Se.flat 8 (fun how => selectOneM E f how) moreSel gk ⟨l.n + 1,l.l ++ Se.flat x⟩) S2 = r) := by have h := HR.out; rw [if_pos h16] at h; exact h
      have hli : (l.n : Int) = 8 := by omega
      clear h16
      go_wp2_with fail
      refine DoesI.go (bar_does 2) (HF.out) (trivial) HR.out HN.out ?_ ?_
      · intro a er wN hb hk
        have HB : Hid (r = .bad a er ∧ Kept (On F) w0 wN) := ⟨hb,hk⟩
        clear hb hk
        go_wp2_with fail
        exact ⟨rfl,hbad _ _ _ HB.out.1 HB.out.2⟩
      intro x3 S3 v3 w3 hv hk hf
      cases hv
      clear HF HR
      have HF := hidF <| hf
      clear hf
      have HR : Hid (_ = r) := hk
      clear hk
      clear hli
      replace HF : Hid (FR w0 F A [(g,53,cur),(b3,3,#[.int .i64 lf2]),(b1,63,#[ptr F])] (xs.zip l.l) S3 w3) := HF.out
      go_wp2_with fail
      refine sel1 (i1 := 2) (i3 := 1) HF rfl rfl (HSH.out _) HR.out HN.out ?_ ?_
      · intro a er wN hb hk
        have HB : Hid (r = .bad a er ∧ Kept (On F) w0 wN) := ⟨hb,hk⟩
        clear hb hk
        go_wp2_with fail
        exact ⟨rfl,hbad _ _ _ HB.out.1 HB.out.2⟩
      intro x4 S4 v4 w4 hv hk hf
      obtain ⟨p14,c14,p24,c24,p34,c34,p44,c44,p54,c54,rfl,h1,h2,h3,h4,h5⟩ := hv
      clear HF HR
      have HF : Hid (FR w0 F A _ _ S4 w4) := ((((hf.tree h5).tree h4).tree h3).tree h2).tree h1
      clear h1 h2 h3 h4 h5
      clear hf
      have HR : Hid ((listT Se.flat 8 (fun how => selectOneM E f how) moreSel gk ⟨l.n + 1,l.l ++ x4.flat⟩) S4 = r) := hk
      clear hk
      have HF0 : Hid (FR w0 F A [(g,53,cur),(b3,3,#[.int .i64 lf2]),(b1,63,#[ptr F])] _ S4 w4) := HF.out
      have HP : Hid (RepL (fun g' => A g' ∧ ∀ x ∈ [(g,53,cur),(b3,3,#[.int .i64 lf2]),(b1,63,#[ptr F])],x.1 ≠ g') w4 ([.int .i64 x4.how,.bool x4.di,.slice p14 x4.it.n c14,.slice p24 x4.fr.n c24,.slice p34 x4.wh.n c34,.slice p44 x4.gr.n c44,.slice p54 x4.hv.n c54] : List Value) x4.flat) := se_rep (HF.out.trep 0 rfl) (HF.out.trep 1 rfl) (HF.out.trep 2 rfl) (HF.out.trep 3 rfl) (HF.out.trep 4 rfl)
      have HQ : Hid (RepL (fun g' => A g' ∧ ∀ x ∈ [(g,53,cur),(b3,3,#[.int .i64 lf2]),(b1,63,#[ptr F])],x.1 ≠ g') w4 (xs ++ ([.int .i64 x4.how,.bool x4.di,.slice p14 x4.it.n c14,.slice p24 x4.fr.n c24,.slice p34 x4.wh.n c34,.slice p44 x4.gr.n c44,.slice p54 x4.hv.n c54] : List Value)) (l.l ++ x4.flat)) := (HF.out.unzip (fun y hy => List.mem_cons_of_mem _ (List.mem_cons_of_mem _ (List.mem_cons_of_mem _ (List.mem_cons_of_mem _ (List.mem_cons_of_mem _ (hy)))))) HO.out.2.1).append HP.out
      have HF : Hid (FR w0 F A [(g,53,cur),(b3,3,#[.int .i64 lf2]),(b1,63,#[ptr F])] ((xs ++ ([.int .i64 x4.how,.bool x4.di,.slice p14 x4.it.n c14,.slice p24 x4.fr.n c24,.slice p34 x4.wh.n c34,.slice p44 x4.gr.n c44,.slice p54 x4.hv.n c54] : List Value)).zip (l.l ++ x4.flat)) S4 w4) := HF0.out.zip HQ.out
      clear HF0
      go_wp2_with (first | (refine wl_rowbox HF (el := 53) (bs41 _ _ _ _ _ _ _ ) ?_; clear HF; intro wN b5 hN; obtain ⟨g5,cap5,cur5,w5,hA,hF5,hO5,hK5⟩ := app53 (news := ([.int .i64 x4.how,.bool x4.di,.slice p14 x4.it.n c14,.slice p24 x4.fr.n c24,.slice p34 x4.wh.n c34,.slice p44 x4.gr.n c44,.slice p54 x4.hv.n c54] : List Value)) hN HO.out.1 (by have := HO.out.2.2.1; have := HL.out; omega) rfl (repL_one HP.out); have HF : Hid (FR w0 F A [(g5,53,cur5),(b3,3,#[.int .i64 lf2]),(b1,63,#[ptr F])] ((xs ++ ([.int .i64 x4.how,.bool x4.di,.slice p14 x4.it.n c14,.slice p24 x4.fr.n c24,.slice p34 x4.wh.n c34,.slice p44 x4.gr.n c44,.slice p54 x4.hv.n c54] : List Value)).zip (l.l ++ x4.flat)) S4 w5) := hF5; have HO5 : Hid (Own 7 g5 (l.n + 1) cap5 cur5 (xs ++ ([.int .i64 x4.how,.bool x4.di,.slice p14 x4.it.n c14,.slice p24 x4.fr.n c24,.slice p34 x4.wh.n c34,.slice p44 x4.gr.n c44,.slice p54 x4.hv.n c54] : List Value))) := hO5; clear hN hF5 hO5 hK5) | (refine st_append rfl rfl hA ?_; clear hA))
      go_roundg gk
      case measure => omega
      case rel => exact ⟨g5,cap5,cur5,_,⟨l.n + 1,l.l ++ x4.flat⟩,lf2,S4,rfl,HF,⟨HO5.out,by rw [List.length_append,List.length_append,HO.out.2.1,HP.out.1],by show l.n + 1 ≤ 1 + f; have := HO.out.2.2.2.1; omega,by show l.n + 1 + gk = 1 + f; have := HO.out.2.2.2.1; omega,Nat.succ_pos _⟩,HR⟩
    · replace HR : Hid (((selectOneM E f lf2).then fun x => listT Se.flat 8 (fun how => selectOneM E f how) moreSel gk ⟨l.n + 1,l.l ++ Se.flat x⟩) S2 = r) := by have h := HR.out; rw [if_neg h16] at h; exact h
      have hli : ¬ (l.n : Int) = 8 := by omega
      go_wp2_with fail
      refine sel1 (i1 := 2) (i3 := 1) HF rfl rfl (HSH.out _) HR.out HN.out ?_ ?_
      · intro a er wN hb hk
        have HB : Hid (r = .bad a er ∧ Kept (On F) w0 wN) := ⟨hb,hk⟩
        clear hb hk
        go_wp2_with fail
        exact ⟨rfl,hbad _ _ _ HB.out.1 HB.out.2⟩
      intro x4 S4 v4 w4 hv hk hf
      obtain ⟨p14,c14,p24,c24,p34,c34,p44,c44,p54,c54,rfl,h1,h2,h3,h4,h5⟩ := hv
      clear HF HR
      have HF : Hid (FR w0 F A _ _ S4 w4) := ((((hf.tree h5).tree h4).tree h3).tree h2).tree h1
      clear h1 h2 h3 h4 h5
      clear hf
      have HR : Hid ((listT Se.flat 8 (fun how => selectOneM E f how) moreSel gk ⟨l.n + 1,l.l ++ x4.flat⟩) S4 = r) := hk
      clear hk
      have HF0 : Hid (FR w0 F A [(g,53,cur),(b3,3,#[.int .i64 lf2]),(b1,63,#[ptr F])] _ S4 w4) := HF.out
      have HP : Hid (RepL (fun g' => A g' ∧ ∀ x ∈ [(g,53,cur),(b3,3,#[.int .i64 lf2]),(b1,63,#[ptr F])],x.1 ≠ g') w4 ([.int .i64 x4.how,.bool x4.di,.slice p14 x4.it.n c14,.slice p24 x4.fr.n c24,.slice p34 x4.wh.n c34,.slice p44 x4.gr.n c44,.slice p54 x4.hv.n c54] : List Value) x4.flat) := se_rep (HF.out.trep 0 rfl) (HF.out.trep 1 rfl) (HF.out.trep 2 rfl) (HF.out.trep 3 rfl) (HF.out.trep 4 rfl)
      have HQ : Hid (RepL (fun g' => A g' ∧ ∀ x ∈ [(g,53,cur),(b3,3,#[.int .i64 lf2]),(b1,63,#[ptr F])],x.1 ≠ g') w4 (xs ++ ([.int .i64 x4.how,.bool x4.di,.slice p14 x4.it.n c14,.slice p24 x4.fr.n c24,.slice p34 x4.wh.n c34,.slice p44 x4.gr.n c44,.slice p54 x4.hv.n c54] : List Value)) (l.l ++ x4.flat)) := (HF.out.unzip (fun y hy => List.mem_cons_of_mem _ (List.mem_cons_of_mem _ (List.mem_cons_of_mem _ (List.mem_cons_of_mem _ (List.mem_cons_of_mem _ (hy)))))) HO.out.2.1).append HP.out
      have HF : Hid (FR w0 F A [(g,53,cur),(b3,3,#[.int .i64 lf2]),(b1,63,#[ptr F])] ((xs ++ ([.int .i64 x4.how,.bool x4.di,.slice p14 x4.it.n c14,.slice p24 x4.fr.n c24,.slice p34 x4.wh.n c34,.slice p44 x4.gr.n c44,.slice p54 x4.hv.n c54] : List Value)).zip (l.l ++ x4.flat)) S4 w4) := HF0.out.zip HQ.out
      clear HF0
      go_wp2_with (first | (refine wl_rowbox HF (el := 53) (bs41 _ _ _ _ _ _ _ ) ?_; clear HF; intro wN b5 hN; obtain ⟨g5,cap5,cur5,w5,hA,hF5,hO5,hK5⟩ := app53 (news := ([.int .i64 x4.how,.bool x4.di,.slice p14 x4.it.n c14,.slice p24 x4.fr.n c24,.slice p34 x4.wh.n c34,.slice p44 x4.gr.n c44,.slice p54 x4.hv.n c54] : List Value)) hN HO.out.1 (by have := HO.out.2.2.1; have := HL.out; omega) rfl (repL_one HP.out); have HF : Hid (FR w0 F A [(g5,53,cur5),(b3,3,#[.int .i64 lf2]),(b1,63,#[ptr F])] ((xs ++ ([.int .i64 x4.how,.bool x4.di,.slice p14 x4.it.n c14,.slice p24 x4.fr.n c24,.slice p34 x4.wh.n c34,.slice p44 x4.gr.n c44,.slice p54 x4.hv.n c54] : List Value)).zip (l.l ++ x4.flat)) S4 w5) := hF5; have HO5 : Hid (Own 7 g5 (l.n + 1) cap5 cur5 (xs ++ ([.int .i64 x4.how,.bool x4.di,.slice p14 x4.it.n c14,.slice p24 x4.fr.n c24,.slice p34 x4.wh.n c34,.slice p44 x4.gr.n c44,.slice p54 x4.hv.n c54] : List Value))) := hO5; clear hN hF5 hO5 hK5) | (refine st_append rfl rfl hA ?_; clear hA))
      go_roundg gk
      case measure => omega
      case rel => exact ⟨g5,cap5,cur5,_,⟨l.n + 1,l.l ++ x4.flat⟩,lf2,S4,rfl,HF,⟨HO5.out,by rw [List.length_append,List.length_append,HO.out.2.1,HP.out.1],by show l.n + 1 ≤ 1 + f; have := HO.out.2.2.2.1; omega,by show l.n + 1 + gk = 1 + f; have := HO.out.2.2.2.1; omega,Nat.succ_pos _⟩,HR⟩
set_option maxHeartbeats 4000000 in
theorem selects_does (E : PM X) (f : Nat) (hf0 : f ≤ 100000) (HE : Does XR 19 (fun F => #[ptr F]) E) : Does SR 59 (fun F => #[ptr F]) (selectsM E f) := by
 intro w F A S hp hA hF hpre hn
 have HF : Hid (FR w F A [] [] S w) := FR.init [] hp hA hF (fun y h => (by cases h))
 obtain ⟨r,hr⟩ : ∃ r,(selectsM E f) S = r := ⟨_,rfl⟩
 have HR : Hid ((selectsM E f) S = r) := hr
 rw [hr] at hn ⊢
 have HN : Hid (r ≠ .out) := hn
 clear hp hA hF hr hn
 have hmf : ∀ (fn : Fn) (first cap : Array Value) (w : World),(Instr.makeFunc fn first cap).run Tryz.prog w = .ok (.func fn first cap) w := fun _ _ _ _ => rfl
 have HSO : Hid (∀ l : Int,Does SeR 88 (fun F => #[ptr F,.int .i64 l]) (selectOneM E f l)) := fun l => selectOne_does E f hf0 l HE (sources_does E f hf0 HE)
 have HFF : Hid (f ≤ 100000) := hf0
 clear HE hf0
 go_enter Tryz.func59,Tryz.ntmps59
 go_wp2_with (first | (refine wl_box HF (bx63 _) ?_; intro wN b1 hN; clear HF; have HF := hidF <| hN; clear hN) | (refine wl_alloc HF al3 ?_; intro wN b3 hN; clear HF; have HF := hidF <| hN; clear hN) | (refine wl_store1 HF 0 sv3 ?_; clear HF; intro wN hN; have HF : Hid (FR w F A [(b3,3,#[.int .i64 0]),(b1,63,#[ptr F])] [] S wN) := hN; clear hN) | (refine wl_load1 HF 1 lv63 ?_))
 refine list89_go E f HFF.out HF HSO.out HR.out HN.out ?_ ?_
 · intro a er wN hb hk
   have HB : Hid (r = .bad a er ∧ Kept (On F) w wN) := ⟨hb,hk⟩
   clear hb hk
   go_wp2_with fail
   exact ⟨rfl,out_bad HB.out.1 HB.out.2⟩
 intro x S1 v w1 bs' ts' e hf hs
 have HZ : Hid (r = .ok x S1 ∧ FR w F A bs' ts' S1 w1 ∧ SR A w1 v x) := ⟨e,hf,hs⟩
 clear HF HR e hf hs
 go_wp2_with fail
 go_ret
 exact out_ok HZ.out.1 HZ.out.2.1 HZ.out.2.2
end Go.Proofs.YtlgkghebemfpjaaGreatDoor.Pa
