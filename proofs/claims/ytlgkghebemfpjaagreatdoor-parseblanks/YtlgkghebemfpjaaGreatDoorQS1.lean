/- The closures of a list of sources. The list of sources. sources. -/
import Derived.Test.YtlgkghebemfpjaaGreatDoorQJ2
import Derived.Test.YtlgkghebemfpjaaGreatDoorQJ1
import Derived.Test.YtlgkghebemfpjaaGreatDoorQRw
import Derived.Test.YtlgkghebemfpjaaGreatDoorQD1
import Derived.Deep.LoopGhost
namespace Go.Proofs.YtlgkghebemfpjaaGreatDoor.Pa
open Go.ChangeShapes Go.WideShapes Go.ChangeAt Go.RowKit
set_option linter.unusedVariables false
set_option maxRecDepth 100000
theorem SoR.mono {A A' : Nat → Prop} {w w' : World} {v : Value} {x : So} (h : SoR A w v x) (hs : w.heap.size ≤ w'.heap.size) (hA : ∀ g,A g → g < w.heap.size → A' g ∧ w'.heap[g]? = w.heap[g]?) : SoR A' w' v x := by
 obtain ⟨p,c,e,h1⟩ := h
 exact ⟨p,c,e,h1.mono hs hA⟩
set_option maxHeartbeats 2000000 in
theorem src1 {w0 : World} {F : Nat} {A : Nat → Prop} {bs : List (Nat × TypeId × Array Value)} {ts : List (Value × DT)} {S : PS} {w : World} {b1 b3 b4 i1 i3 i4 : Nat} {l j : Bool} {E : PM X} {β : Type} {k : So → PM β} {r : PR β} (HF : Hid (FR w0 F A bs ts S w)) (h1 : bs[i1]? = some (b1,63,#[ptr F])) (h3 : bs[i3]? = some (b3,4,#[.bool l])) (h4 : bs[i4]? = some (b4,4,#[.bool j])) (HS : Does SoR 146 (fun F => #[ptr F,.bool l,.bool j]) (sourceM E l j))
 (HR0 : ((sourceM E l j).then k) S = r) (hr : r ≠ .out) {Post : Ending → World → Prop} (hbad : ∀ a er w1,r = .bad a er → Kept (On F) w0 w1 → Post (.panicked (flt a er)) w1)
 (hok : ∀ (x : So) S1 v w1,SoR (fun g => A g ∧ ∀ x ∈ bs,x.1 ≠ g) w1 v x → k x S1 = r → FR w0 F A bs ts S1 w1 → Post (.returned v) w1) : Calls Tryz.prog 145 #[ptr b1,ptr b3,ptr b4] w Post := by
 have HSH : Hid (Does SoR 146 (fun F => #[ptr F,.bool l,.bool j]) (sourceM E l j)) := HS
 have HR : Hid (((sourceM E l j).then k) S = r) := HR0
 have HN : Hid (r ≠ .out) := hr
 clear HS HR0 hr
 go_enter Tryz.func145,Tryz.ntmps145
 go_wp2_with (first | (refine wl_alloc HF al55 ?_; intro wN b9 hN; clear HF; have HF := hidF <| hN; clear hN) | (refine wl_load1 HF (i1 + 1) lv63 ?_ (hi := h1)) | (refine wl_load1 HF (i3 + 1) lv4 ?_ (hi := h3)) | (refine wl_load1 HF (i4 + 1) lv4 ?_ (hi := h4)))
 refine DoesI.go (HSH.out) (HF.out) (trivial) HR.out HN.out ?_ ?_
 · intro a er wN hb hk
   have HB : Hid (r = .bad a er ∧ Kept (On F) w0 wN) := ⟨hb,hk⟩
   clear hb hk
   go_wp2_with fail
   exact ⟨rfl,hbad _ _ _ HB.out.1 HB.out.2⟩
 intro x1 S1 v1 w1 hv hk hf
 obtain ⟨p1,c1,rfl,hq⟩ := hv
 clear HF HR
 have HF : Hid (FR w0 F A _ _ S1 w1) := hf.tree hq
 clear hf hq
 have HR : Hid (k x1 S1 = r) := hk
 clear hk
 go_wp2_with (first | (refine wl_store HF 0 ?_; intro wN hN; clear HF; have HF := hidF <| hN; clear hN))
 refine bodyPost_ret (end_row HF.out 0 rfl rfl rfl Tryz.underlying55 rfl (by kernel_rfl)) rfl ?_
 exact hok x1 S1 _ _ ⟨p1,c1,rfl,HF.out.tl.trep 0 rfl⟩ HR.out (HF.out.tl.less (fun x h => h) (fun y h => List.mem_cons_of_mem _ h) HF.out.tl.ap)
theorem moreSrc_eq {β : Type} (G : Option (Bool × Bool) → PM β) (S : PS) : (moreSrc.then G) S = (joinM.then fun lj => if lj.2 then G (some lj) else commaM.then fun b => G (if b then some lj else none)) S := by
 unfold moreSrc
 rw [PM.then_assoc]
 refine congrArg (fun k => PM.then joinM k S) (funext fun lj => ?_)
 obtain ⟨l,j⟩ := lj
 cases j with
 | false => funext S1; exact PM.then_assoc commaM _ _ S1
 | true => rfl
set_option maxHeartbeats 4000000 in
theorem src2 {w0 : World} {F : Nat} {A : Nat → Prop} {ts : List (Value × DT)} {S : PS} {w : World} {g : Nat} {cur : Array Value} {b1 b3 b4 : Nat} {l j : Bool} {β : Type} {k : Option (Bool × Bool) → PM β} {r : PR β} (HF : Hid (FR w0 F A [(g,55,cur),(b4,4,#[.bool j]),(b3,4,#[.bool l]),(b1,63,#[ptr F])] ts S w))
 (HR0 : (moreSrc.then k) S = r) (hr : r ≠ .out) {Post : Ending → World → Prop} (hbad : ∀ a er w1,r = .bad a er → Kept (On F) w0 w1 → Post (.panicked (flt a er)) w1)
 (hok : ∀ (l' j' b : Bool) S1 w1,k (if b then some (l',j') else none) S1 = r → FR w0 F A [(g,55,cur),(b4,4,#[.bool j']),(b3,4,#[.bool l']),(b1,63,#[ptr F])] ts S1 w1 → Post (.returned (.bool b)) w1) : Calls Tryz.prog 148 #[ptr b1,ptr b3,ptr b4] w Post := by
 rw [moreSrc_eq] at HR0
 have HR : Hid ((joinM.then fun lj => if lj.2 then k (some lj) else commaM.then fun b => k (if b then some lj else none)) S = r) := HR0
 have HN : Hid (r ≠ .out) := hr
 clear HR0 hr
 go_enter Tryz.func148,Tryz.ntmps148
 go_wp2_with (first | (refine wl_load1 HF 3 lv63 ?_))
 refine DoesI.go (join_does) (HF.out) (trivial) HR.out HN.out ?_ ?_
 · intro a er wN hb hk
   have HB : Hid (r = .bad a er ∧ Kept (On F) w0 wN) := ⟨hb,hk⟩
   clear hb hk
   go_wp2_with fail
   exact ⟨rfl,hbad _ _ _ HB.out.1 HB.out.2⟩
 rintro ⟨l2,j2⟩ S1 v1 w1 hv hk hf
 cases hv
 clear HF HR
 have HF : Hid (FR w0 F A [(g,55,cur),(b4,4,#[.bool j]),(b3,4,#[.bool l]),(b1,63,#[ptr F])] ts S1 w1) := hf
 clear hf
 have HR : Hid ((if j2 = true then k (some (l2,j2)) else commaM.then fun b => k (if b then some (l2,j2) else none)) S1 = r) := hk
 clear hk
 cases j2 with
 | true =>
   replace HR : Hid (k (some (l2,true)) S1 = r) := HR.out
   go_wp2_with (first | (refine wl_store1 HF 2 sv4 ?_; clear HF; intro wN hN; have HF : Hid (FR w0 F A [(g,55,cur),(b4,4,#[.bool j]),(b3,4,#[.bool l2]),(b1,63,#[ptr F])] ts S1 wN) := hN; clear hN) | (refine wl_store1 HF 1 sv4 ?_; clear HF; intro wN hN; have HF : Hid (FR w0 F A [(g,55,cur),(b4,4,#[.bool true]),(b3,4,#[.bool l2]),(b1,63,#[ptr F])] ts S1 wN) := hN; clear hN; have hq1 := HF.out.cell 3 rfl 0; simp only [List.getElem?_toArray,List.getElem?_cons_zero] at hq1) | (refine wl_load1 HF 1 lv4 ?_))
   exact hok l2 true true S1 _ HR.out HF.out
 | false =>
   replace HR : Hid ((commaM.then fun b => k (if b then some (l2,false) else none)) S1 = r) := HR.out
   go_wp2_with (first | (refine wl_store1 HF 2 sv4 ?_; clear HF; intro wN hN; have HF : Hid (FR w0 F A [(g,55,cur),(b4,4,#[.bool j]),(b3,4,#[.bool l2]),(b1,63,#[ptr F])] ts S1 wN) := hN; clear hN) | (refine wl_store1 HF 1 sv4 ?_; clear HF; intro wN hN; have HF : Hid (FR w0 F A [(g,55,cur),(b4,4,#[.bool false]),(b3,4,#[.bool l2]),(b1,63,#[ptr F])] ts S1 wN) := hN; clear hN; have hq1 := HF.out.cell 3 rfl 0; simp only [List.getElem?_toArray,List.getElem?_cons_zero] at hq1) | (refine wl_load1 HF 1 lv4 ?_))
   clear hq1
   refine DoesI.go (comma_does) (HF.out) (trivial) HR.out HN.out ?_ ?_
   · intro a er wN hb hk
     have HB : Hid (r = .bad a er ∧ Kept (On F) w0 wN) := ⟨hb,hk⟩
     clear hb hk
     go_wp2_with fail
     exact ⟨rfl,hbad _ _ _ HB.out.1 HB.out.2⟩
   intro x2 S2 v2 w2 hv hk hf
   cases hv
   clear HF HR
   have HF : Hid (FR w0 F A [(g,55,cur),(b4,4,#[.bool false]),(b3,4,#[.bool l2]),(b1,63,#[ptr F])] ts S2 w2) := hf
   clear hf
   have HR : Hid (k (if x2 then some (l2,false) else none) S2 = r) := hk
   clear hk
   go_wp2_with fail
   exact hok l2 false x2 S2 _ HR.out HF.out
def listK {α σ : Type} (fl : α → List DT) (most : Nat) (one : σ → PM α) (more : PM (Option σ)) (g : Nat) (l : Sl) : Option σ → PM Sl
 | none => PM.ret l
 | some x => (if l.n = most then barM 2 else PM.ret ()).then fun _ => (one x).then fun y => listT fl most one more g ⟨l.n + 1,l.l ++ fl y⟩
theorem listT_eq {α σ : Type} {fl : α → List DT} {most : Nat} {one : σ → PM α} {more : PM (Option σ)} {g : Nat} {l : Sl} {S : PS} : listT fl most one more (g + 1) l S = (more.then (listK fl most one more g l)) S := by
 show (more.then _) S = _
 refine congrArg (fun k => PM.then more k S) (funext fun o => ?_)
 cases o <;> rfl
theorem inf55 : (Tryz.prog.info? 55).map (fun i => (i.zero,i.size,i.bytes)) = some (some (.agg #[.string ⟨#[]⟩,.string ⟨#[]⟩,.bool false,.slice none 0 0,.int .i64 0]),5,72) := by kernel_rfl
theorem app55 {w0 : World} {F : Nat} {A : Nat → Prop} {bs : List (Nat × TypeId × Array Value)} {ts : List (Value × DT)} {S : PS} {w : World} {g k cap b : Nat} {cur : Array Value} {xs news : List Value} (h : FR w0 F A ((b,55,news.toArray) :: (g,55,cur) :: bs) ts S w) (o : Own 5 g k cap cur xs) (hk : k ≤ 200000) (hn : news.length = 5) (h1 : ∀ u ∈ news,u.oneCell' = true) :
 ∃ g' cap' cur' w',(Builtin.append_ #[51,51] 51 #[.slice (some ⟨g,0,none⟩) k cap,.slice (some ⟨b,0,none⟩) 1 1]).run Tryz.prog w = .ok (.slice (some ⟨g',0,none⟩) (k + 1) cap') w' ∧ FR w0 F A ((g',55,cur') :: bs) ts S w' ∧ Own 5 g' (k + 1) cap' cur' (xs ++ news) ∧ Kept (On g) w w' := by
 obtain ⟨i,hi,hz,h2,h3⟩ := info_of inf55
 refine FR.append h.tl o i _ Tryz.underlying51 hi hz h2 h3 rfl b 1 1 0 news (by rw [hn]) (fun j u q => ?_) h1 (by omega) (by unfold maxLen; omega) (by omega)
 rw [Nat.zero_add,h.cell 0 rfl j]
 simpa using q
set_option maxHeartbeats 8000000 in
theorem list147_go {w0 : World} {F : Nat} {A : Nat → Prop} {S : PS} {w : World} {b1 b3 b4 : Nat} (E : PM X) (f : Nat) (hf0 : f ≤ 100000) {r : PR Sl} (HF : Hid (FR w0 F A [(b4,4,#[.bool false]),(b3,4,#[.bool false]),(b1,63,#[ptr F])] [] S w)) (HS : ∀ l j,Does SoR 146 (fun F => #[ptr F,.bool l,.bool j]) (sourceM E l j))
 (HR0 : sourcesM E f S = r) (hr : r ≠ .out) {Post : Ending → World → Prop} (hbad : ∀ a er w1,r = .bad a er → Kept (On F) w0 w1 → Post (.panicked (flt a er)) w1)
 (hok : ∀ (x : Sl) S1 v w1 bs' ts',r = .ok x S1 → FR w0 F A bs' ts' S1 w1 → SR A w1 v x → Post (.returned v) w1) : Calls Tryz.prog 147 #[ptr F,.int .i64 6,.func (.func 145) #[] #[ptr b1,ptr b3,ptr b4],.func (.func 148) #[] #[ptr b1,ptr b3,ptr b4]] w Post := by
 have HSH : Hid (∀ l j,Does SoR 146 (fun F => #[ptr F,.bool l,.bool j]) (sourceM E l j)) := HS
 have HR : Hid (((sourceM E false false).then fun x => listT So.flat 6 (fun lj => sourceM E lj.1 lj.2) moreSrc f ⟨1,x.flat⟩) S = r) := HR0
 have HN : Hid (r ≠ .out) := hr
 have HL : Hid (f ≤ 100000) := hf0
 clear HS HR0 hr hf0
 go_enter Tryz.func147,Tryz.ntmps147
 go_wp2_with fail
 refine src1 (i1 := 2) (i3 := 1) (i4 := 0) HF rfl rfl rfl (HSH.out _ _) HR.out HN.out ?_ ?_
 · intro a er wN hb hk
   have HB : Hid (r = .bad a er ∧ Kept (On F) w0 wN) := ⟨hb,hk⟩
   clear hb hk
   go_wp2_with fail
   exact ⟨rfl,hbad _ _ _ HB.out.1 HB.out.2⟩
 intro x1 S1 v1 w1 hv hk hf
 obtain ⟨p1,c1,rfl,h1⟩ := hv
 clear HF HR
 have HF : Hid (FR w0 F A _ _ S1 w1) := hf.tree h1
 clear h1
 clear hf
 have HR : Hid ((listT So.flat 6 (fun lj => sourceM E lj.1 lj.2) moreSrc f ⟨1,x1.flat⟩) S1 = r) := hk
 clear hk
 have HF0 : Hid (FR w0 F A [(b4,4,#[.bool false]),(b3,4,#[.bool false]),(b1,63,#[ptr F])] _ S1 w1) := HF.out
 have HP : Hid (RepL (fun g => A g ∧ ∀ x ∈ [(b4,4,#[.bool false]),(b3,4,#[.bool false]),(b1,63,#[ptr F])],x.1 ≠ g) w1 ([.string ⟨x1.tb.toArray⟩,.string ⟨x1.asn.toArray⟩,.bool x1.left,.slice p1 x1.on.n c1,.int .i64 x1.a] : List Value) x1.flat) := so_rep (HF.out.trep 0 rfl)
 have HF : Hid (FR w0 F A [(b4,4,#[.bool false]),(b3,4,#[.bool false]),(b1,63,#[ptr F])] (([.string ⟨x1.tb.toArray⟩,.string ⟨x1.asn.toArray⟩,.bool x1.left,.slice p1 x1.on.n c1,.int .i64 x1.a] : List Value).zip x1.flat) S1 w1) := HF0.out.zip HP.out
 clear HF0 HP
 go_wp2_with (first | (refine wl_rowbox HF (el := 55) (bs51 _ _ _ _ _ ) ?_; clear HF; intro wN g0 hN; have HF : Hid (FR w0 F A [(g0,55,#[.string ⟨x1.tb.toArray⟩,.string ⟨x1.asn.toArray⟩,.bool x1.left,.slice p1 x1.on.n c1,.int .i64 x1.a]),(b4,4,#[.bool false]),(b3,4,#[.bool false]),(b1,63,#[ptr F])] (([.string ⟨x1.tb.toArray⟩,.string ⟨x1.asn.toArray⟩,.bool x1.left,.slice p1 x1.on.n c1,.int .i64 x1.a] : List Value).zip x1.flat) S1 wN) := hN; clear hN))
 have HO : Hid (Own 5 g0 1 1 #[.string ⟨x1.tb.toArray⟩,.string ⟨x1.asn.toArray⟩,.bool x1.left,.slice p1 x1.on.n c1,.int .i64 x1.a] ([.string ⟨x1.tb.toArray⟩,.string ⟨x1.asn.toArray⟩,.bool x1.left,.slice p1 x1.on.n c1,.int .i64 x1.a] : List Value)) := Own.one rfl
 go_loopg [9] f (fun (gk : Nat) (v9 : Value) (wr : World) => ∃ (g cap : Nat) (cur : Array Value) (xs : List Value) (l : Sl) (lf : Bool) (j : Bool) (Sr : PS),v9 = .slice (some ⟨g,0,none⟩) l.n cap ∧ Hid (FR w0 F A [(g,55,cur),(b4,4,#[.bool j]),(b3,4,#[.bool lf]),(b1,63,#[ptr F])] (xs.zip l.l) Sr wr) ∧ Hid (Own 5 g l.n cap cur xs ∧ xs.length = l.l.length ∧ l.n ≤ 1 + f ∧ l.n + gk = 1 + f ∧ 0 < l.n) ∧ Hid (listT So.flat 6 (fun lj => sourceM E lj.1 lj.2) moreSrc gk l Sr = r))
 case atStart => exact ⟨g0,1,_,_,⟨1,x1.flat⟩,false,false,S1,rfl,HF,⟨HO.out,rfl,Nat.le_add_right _ _,rfl,Nat.one_pos⟩,HR⟩
 case round =>
  obtain ⟨g,cap,cur,xs,l,lf,j,Sr,rfl,HF,HO,HR⟩ := hrel
  obtain ⟨gk,rfl⟩ : ∃ k,gk = k + 1 := by
   cases gk with
   | zero => exact absurd HR.out.symm HN.out
   | succ k => exact ⟨k,rfl⟩
  replace HR : Hid ((moreSrc.then (listK So.flat 6 (fun lj => sourceM E lj.1 lj.2) moreSrc gk l)) Sr = r) := by
   have h := HR.out
   rw [listT_eq] at h
   exact h
  go_wp2_with fail
  refine src2 HF HR.out HN.out ?_ ?_
  · intro a er wN hb hk
    have HB : Hid (r = .bad a er ∧ Kept (On F) w0 wN) := ⟨hb,hk⟩
    clear hb hk
    go_wp2_with fail
    exact ⟨rfl,hbad _ _ _ HB.out.1 HB.out.2⟩
  intro lf2 j2 x2 S2 w2 hk hf
  clear HF HR
  have HF : Hid (FR w0 F A [(g,55,cur),(b4,4,#[.bool j2]),(b3,4,#[.bool lf2]),(b1,63,#[ptr F])] (xs.zip l.l) S2 w2) := hf
  clear hf
  have HR : Hid ((listK So.flat 6 (fun lj => sourceM E lj.1 lj.2) moreSrc gk l (if x2 then some (lf2,j2) else none)) S2 = r) := hk
  clear hk
  cases x2 with
  | false =>
    replace HR : Hid ((PM.ret l S2) = r) := HR.out
    go_wp2_with fail
    have HS2 : Hid (FR w0 F A [(b4,4,#[.bool j2]),(b3,4,#[.bool lf2]),(b1,63,#[ptr F])] _ S2 w2) := HF.out.shut HO.out.1 (HF.out.unzip (fun y hy => hy) HO.out.2.1)
    exact hok l S2 _ _ _ _ HR.out.symm HS2.out ⟨_,_,rfl,HS2.out.rep 0 rfl⟩
  | true =>
    replace HR : Hid ((((if l.n = 6 then barM 2 else PM.ret ()).then fun _ => (sourceM E lf2 j2).then fun x => listT So.flat 6 (fun lj => sourceM E lj.1 lj.2) moreSrc gk ⟨l.n + 1,l.l ++ So.flat x⟩) S2) = r) := HR.out
    by_cases h16 : l.n = 6
    · replace HR : Hid (((barM 2).then fun _ => (sourceM E lf2 j2).then fun x => listT So.flat 6 (fun lj => sourceM E lj.1 lj.2) moreSrc gk ⟨l.n + 1,l.l ++ So.flat x⟩) S2 = r) := by have h := HR.out; rw [if_pos h16] at h; exact h
      have hli : (l.n : Int) = 6 := by omega
      clear h16
      go_wp2_with fail
      refine DoesI.go (bar_does 2) (HF.out) (trivial) HR.out HN.out ?_ ?_
      · intro a er wN hb hk
        have HB : Hid (r = .bad a er ∧ Kept (On F) w0 wN) := ⟨hb,hk⟩
        clear hb hk
        go_wp2_with fail
        exact ⟨rfl,hbad _ _ _ HB.out.1 HB.out.2⟩
      intro x3 S3 v3 w3 hv hk hf
      cases hv
      clear HF HR
      have HF := hidF <| hf
      clear hf
      have HR : Hid (_ = r) := hk
      clear hk
      clear hli
      replace HF : Hid (FR w0 F A [(g,55,cur),(b4,4,#[.bool j2]),(b3,4,#[.bool lf2]),(b1,63,#[ptr F])] (xs.zip l.l) S3 w3) := HF.out
      go_wp2_with fail
      refine src1 (i1 := 3) (i3 := 2) (i4 := 1) HF rfl rfl rfl (HSH.out _ _) HR.out HN.out ?_ ?_
      · intro a er wN hb hk
        have HB : Hid (r = .bad a er ∧ Kept (On F) w0 wN) := ⟨hb,hk⟩
        clear hb hk
        go_wp2_with fail
        exact ⟨rfl,hbad _ _ _ HB.out.1 HB.out.2⟩
      intro x4 S4 v4 w4 hv hk hf
      obtain ⟨p4,c4,rfl,h1⟩ := hv
      clear HF HR
      have HF : Hid (FR w0 F A _ _ S4 w4) := hf.tree h1
      clear h1
      clear hf
      have HR : Hid ((listT So.flat 6 (fun lj => sourceM E lj.1 lj.2) moreSrc gk ⟨l.n + 1,l.l ++ x4.flat⟩) S4 = r) := hk
      clear hk
      have HF0 : Hid (FR w0 F A [(g,55,cur),(b4,4,#[.bool j2]),(b3,4,#[.bool lf2]),(b1,63,#[ptr F])] _ S4 w4) := HF.out
      have HP : Hid (RepL (fun g' => A g' ∧ ∀ x ∈ [(g,55,cur),(b4,4,#[.bool j2]),(b3,4,#[.bool lf2]),(b1,63,#[ptr F])],x.1 ≠ g') w4 ([.string ⟨x4.tb.toArray⟩,.string ⟨x4.asn.toArray⟩,.bool x4.left,.slice p4 x4.on.n c4,.int .i64 x4.a] : List Value) x4.flat) := so_rep (HF.out.trep 0 rfl)
      have HQ : Hid (RepL (fun g' => A g' ∧ ∀ x ∈ [(g,55,cur),(b4,4,#[.bool j2]),(b3,4,#[.bool lf2]),(b1,63,#[ptr F])],x.1 ≠ g') w4 (xs ++ ([.string ⟨x4.tb.toArray⟩,.string ⟨x4.asn.toArray⟩,.bool x4.left,.slice p4 x4.on.n c4,.int .i64 x4.a] : List Value)) (l.l ++ x4.flat)) := (HF.out.unzip (fun y hy => List.mem_cons_of_mem _ (hy)) HO.out.2.1).append HP.out
      have HF : Hid (FR w0 F A [(g,55,cur),(b4,4,#[.bool j2]),(b3,4,#[.bool lf2]),(b1,63,#[ptr F])] ((xs ++ ([.string ⟨x4.tb.toArray⟩,.string ⟨x4.asn.toArray⟩,.bool x4.left,.slice p4 x4.on.n c4,.int .i64 x4.a] : List Value)).zip (l.l ++ x4.flat)) S4 w4) := HF0.out.zip HQ.out
      clear HF0
      go_wp2_with (first | (refine wl_rowbox HF (el := 55) (bs51 _ _ _ _ _ ) ?_; clear HF; intro wN b5 hN; obtain ⟨g5,cap5,cur5,w5,hA,hF5,hO5,hK5⟩ := app55 (news := ([.string ⟨x4.tb.toArray⟩,.string ⟨x4.asn.toArray⟩,.bool x4.left,.slice p4 x4.on.n c4,.int .i64 x4.a] : List Value)) hN HO.out.1 (by have := HO.out.2.2.1; have := HL.out; omega) rfl (repL_one HP.out); have HF : Hid (FR w0 F A [(g5,55,cur5),(b4,4,#[.bool j2]),(b3,4,#[.bool lf2]),(b1,63,#[ptr F])] ((xs ++ ([.string ⟨x4.tb.toArray⟩,.string ⟨x4.asn.toArray⟩,.bool x4.left,.slice p4 x4.on.n c4,.int .i64 x4.a] : List Value)).zip (l.l ++ x4.flat)) S4 w5) := hF5; have HO5 : Hid (Own 5 g5 (l.n + 1) cap5 cur5 (xs ++ ([.string ⟨x4.tb.toArray⟩,.string ⟨x4.asn.toArray⟩,.bool x4.left,.slice p4 x4.on.n c4,.int .i64 x4.a] : List Value))) := hO5; clear hN hF5 hO5 hK5) | (refine st_append rfl rfl hA ?_; clear hA))
      go_roundg gk
      case measure => omega
      case rel => exact ⟨g5,cap5,cur5,_,⟨l.n + 1,l.l ++ x4.flat⟩,lf2,j2,S4,rfl,HF,⟨HO5.out,by rw [List.length_append,List.length_append,HO.out.2.1,HP.out.1],by show l.n + 1 ≤ 1 + f; have := HO.out.2.2.2.1; omega,by show l.n + 1 + gk = 1 + f; have := HO.out.2.2.2.1; omega,Nat.succ_pos _⟩,HR⟩
    · replace HR : Hid (((sourceM E lf2 j2).then fun x => listT So.flat 6 (fun lj => sourceM E lj.1 lj.2) moreSrc gk ⟨l.n + 1,l.l ++ So.flat x⟩) S2 = r) := by have h := HR.out; rw [if_neg h16] at h; exact h
      have hli : ¬ (l.n : Int) = 6 := by omega
      go_wp2_with fail
      refine src1 (i1 := 3) (i3 := 2) (i4 := 1) HF rfl rfl rfl (HSH.out _ _) HR.out HN.out ?_ ?_
      · intro a er wN hb hk
        have HB : Hid (r = .bad a er ∧ Kept (On F) w0 wN) := ⟨hb,hk⟩
        clear hb hk
        go_wp2_with fail
        exact ⟨rfl,hbad _ _ _ HB.out.1 HB.out.2⟩
      intro x4 S4 v4 w4 hv hk hf
      obtain ⟨p4,c4,rfl,h1⟩ := hv
      clear HF HR
      have HF : Hid (FR w0 F A _ _ S4 w4) := hf.tree h1
      clear h1
      clear hf
      have HR : Hid ((listT So.flat 6 (fun lj => sourceM E lj.1 lj.2) moreSrc gk ⟨l.n + 1,l.l ++ x4.flat⟩) S4 = r) := hk
      clear hk
      have HF0 : Hid (FR w0 F A [(g,55,cur),(b4,4,#[.bool j2]),(b3,4,#[.bool lf2]),(b1,63,#[ptr F])] _ S4 w4) := HF.out
      have HP : Hid (RepL (fun g' => A g' ∧ ∀ x ∈ [(g,55,cur),(b4,4,#[.bool j2]),(b3,4,#[.bool lf2]),(b1,63,#[ptr F])],x.1 ≠ g') w4 ([.string ⟨x4.tb.toArray⟩,.string ⟨x4.asn.toArray⟩,.bool x4.left,.slice p4 x4.on.n c4,.int .i64 x4.a] : List Value) x4.flat) := so_rep (HF.out.trep 0 rfl)
      have HQ : Hid (RepL (fun g' => A g' ∧ ∀ x ∈ [(g,55,cur),(b4,4,#[.bool j2]),(b3,4,#[.bool lf2]),(b1,63,#[ptr F])],x.1 ≠ g') w4 (xs ++ ([.string ⟨x4.tb.toArray⟩,.string ⟨x4.asn.toArray⟩,.bool x4.left,.slice p4 x4.on.n c4,.int .i64 x4.a] : List Value)) (l.l ++ x4.flat)) := (HF.out.unzip (fun y hy => List.mem_cons_of_mem _ (hy)) HO.out.2.1).append HP.out
      have HF : Hid (FR w0 F A [(g,55,cur),(b4,4,#[.bool j2]),(b3,4,#[.bool lf2]),(b1,63,#[ptr F])] ((xs ++ ([.string ⟨x4.tb.toArray⟩,.string ⟨x4.asn.toArray⟩,.bool x4.left,.slice p4 x4.on.n c4,.int .i64 x4.a] : List Value)).zip (l.l ++ x4.flat)) S4 w4) := HF0.out.zip HQ.out
      clear HF0
      go_wp2_with (first | (refine wl_rowbox HF (el := 55) (bs51 _ _ _ _ _ ) ?_; clear HF; intro wN b5 hN; obtain ⟨g5,cap5,cur5,w5,hA,hF5,hO5,hK5⟩ := app55 (news := ([.string ⟨x4.tb.toArray⟩,.string ⟨x4.asn.toArray⟩,.bool x4.left,.slice p4 x4.on.n c4,.int .i64 x4.a] : List Value)) hN HO.out.1 (by have := HO.out.2.2.1; have := HL.out; omega) rfl (repL_one HP.out); have HF : Hid (FR w0 F A [(g5,55,cur5),(b4,4,#[.bool j2]),(b3,4,#[.bool lf2]),(b1,63,#[ptr F])] ((xs ++ ([.string ⟨x4.tb.toArray⟩,.string ⟨x4.asn.toArray⟩,.bool x4.left,.slice p4 x4.on.n c4,.int .i64 x4.a] : List Value)).zip (l.l ++ x4.flat)) S4 w5) := hF5; have HO5 : Hid (Own 5 g5 (l.n + 1) cap5 cur5 (xs ++ ([.string ⟨x4.tb.toArray⟩,.string ⟨x4.asn.toArray⟩,.bool x4.left,.slice p4 x4.on.n c4,.int .i64 x4.a] : List Value))) := hO5; clear hN hF5 hO5 hK5) | (refine st_append rfl rfl hA ?_; clear hA))
      go_roundg gk
      case measure => omega
      case rel => exact ⟨g5,cap5,cur5,_,⟨l.n + 1,l.l ++ x4.flat⟩,lf2,j2,S4,rfl,HF,⟨HO5.out,by rw [List.length_append,List.length_append,HO.out.2.1,HP.out.1],by show l.n + 1 ≤ 1 + f; have := HO.out.2.2.2.1; omega,by show l.n + 1 + gk = 1 + f; have := HO.out.2.2.2.1; omega,Nat.succ_pos _⟩,HR⟩
theorem bx63 (F : Nat) (w : World) : (Instr.box 63 (ptr F)).run Tryz.prog w = .ok (ptr w.heap.size) (w.alloc (.cells #[ptr F] 63)) := by
 simp [go_sem]
set_option maxHeartbeats 4000000 in
theorem sources_does (E : PM X) (f : Nat) (hf0 : f ≤ 100000) (HE : Does XR 19 (fun F => #[ptr F]) E) : Does SR 123 (fun F => #[ptr F]) (sourcesM E f) := by
 intro w F A S hp hA hF hpre hn
 have HF : Hid (FR w F A [] [] S w) := FR.init [] hp hA hF (fun y h => (by cases h))
 obtain ⟨r,hr⟩ : ∃ r,(sourcesM E f) S = r := ⟨_,rfl⟩
 have HR : Hid ((sourcesM E f) S = r) := hr
 rw [hr] at hn ⊢
 have HN : Hid (r ≠ .out) := hn
 clear hp hA hF hr hn
 have hmf : ∀ (fn : Fn) (first cap : Array Value) (w : World),(Instr.makeFunc fn first cap).run Tryz.prog w = .ok (.func fn first cap) w := fun _ _ _ _ => rfl
 have HSO : Hid (∀ l j,Does SoR 146 (fun F => #[ptr F,.bool l,.bool j]) (sourceM E l j)) := fun l j => source_does E l j HE
 have HFF : Hid (f ≤ 100000) := hf0
 clear HE hf0
 go_enter Tryz.func123,Tryz.ntmps123
 go_wp2_with (first | (refine wl_box HF (bx63 _) ?_; intro wN b1 hN; clear HF; have HF := hidF <| hN; clear hN) | (have hq : Nat := b3; clear hq; refine wl_alloc HF al4 ?_; intro wN b4 hN; clear HF; have HF := hidF <| hN; clear hN) | (refine wl_alloc HF al4 ?_; intro wN b3 hN; clear HF; have HF := hidF <| hN; clear hN) | (refine wl_store1 HF 1 sv4 ?_; clear HF; intro wN hN; have HF : Hid (FR w F A [(b4,4,#[.bool false]),(b3,4,#[.bool false]),(b1,63,#[ptr F])] [] S wN) := hN; clear hN) | (refine wl_store1 HF 0 sv4 ?_; clear HF; intro wN hN; have HF : Hid (FR w F A [(b4,4,#[.bool false]),(b3,4,#[.bool false]),(b1,63,#[ptr F])] [] S wN) := hN; clear hN) | (refine wl_load1 HF 2 lv63 ?_))
 refine list147_go E f HFF.out HF HSO.out HR.out HN.out ?_ ?_
 · intro a er wN hb hk
   have HB : Hid (r = .bad a er ∧ Kept (On F) w wN) := ⟨hb,hk⟩
   clear hb hk
   go_wp2_with fail
   exact ⟨rfl,out_bad HB.out.1 HB.out.2⟩
 intro x S1 v w1 bs' ts' e hf hs
 have HZ : Hid (r = .ok x S1 ∧ FR w F A bs' ts' S1 w1 ∧ SR A w1 v x) := ⟨e,hf,hs⟩
 clear HF HR e hf hs
 go_wp2_with fail
 go_ret
 exact out_ok HZ.out.1 HZ.out.2.1 HZ.out.2.2
end Go.Proofs.YtlgkghebemfpjaaGreatDoor.Pa
