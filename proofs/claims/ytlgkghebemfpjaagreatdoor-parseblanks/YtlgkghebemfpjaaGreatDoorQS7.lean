/- The list of cases. -/
import Derived.Test.YtlgkghebemfpjaaGreatDoorQD4
import Derived.Test.YtlgkghebemfpjaaGreatDoorQRw
import Derived.Deep.LoopGhost
namespace Go.Proofs.YtlgkghebemfpjaaGreatDoor.Pa
open Go.ChangeShapes Go.WideShapes Go.ChangeAt Go.RowKit
set_option linter.unusedVariables false
set_option maxRecDepth 100000
def moreW : PM Bool := fun s => .ok (seesB [87,72,69,78] s) s
theorem inf211 : (Tryz.prog.info? 211).map (fun i => (i.zero,i.size,i.bytes)) = some (some (.agg #[.int .i64 0,.int .i64 0,.int .i64 0,.int .i64 0,.string ⟨#[]⟩,.string ⟨#[]⟩,.string ⟨#[]⟩,.int .i64 0,.bool false,.int .i64 0,.slice none 0 0,.slice none 0 0,.int .i64 0,.int .i64 0,.int .i64 0,.int .i64 0,.string ⟨#[]⟩,.string ⟨#[]⟩,.string ⟨#[]⟩,.int .i64 0,.bool false,.int .i64 0,.slice none 0 0,.slice none 0 0]),24,304) := by kernel_rfl
theorem app211 {w0 : World} {F : Nat} {A : Nat → Prop} {bs : List (Nat × TypeId × Array Value)} {ts : List (Value × DT)} {S : PS} {w : World} {g k cap b : Nat} {cur : Array Value} {xs news : List Value} (h : FR w0 F A ((b,211,news.toArray) :: (g,211,cur) :: bs) ts S w) (o : Own 24 g k cap cur xs) (hk : k ≤ 200000) (hn : news.length = 24) (h1 : ∀ u ∈ news,u.oneCell' = true) :
 ∃ g' cap' cur' w',(Builtin.append_ #[208,208] 208 #[.slice (some ⟨g,0,none⟩) k cap,.slice (some ⟨b,0,none⟩) 1 1]).run Tryz.prog w = .ok (.slice (some ⟨g',0,none⟩) (k + 1) cap') w' ∧ FR w0 F A ((g',211,cur') :: bs) ts S w' ∧ Own 24 g' (k + 1) cap' cur' (xs ++ news) ∧ Kept (On g) w w' := by
 obtain ⟨i,hi,hz,h2,h3⟩ := info_of inf211
 refine FR.append h.tl o i _ Tryz.underlying208 hi hz h2 h3 rfl b 1 1 0 news (by rw [hn]) (fun j u q => ?_) h1 (by omega) (by unfold maxLen; omega) (by omega)
 rw [Nat.zero_add,h.cell 0 rfl j]
 simpa using q
theorem cho2 {w0 : World} {F : Nat} {A : Nat → Prop} {bs : List (Nat × TypeId × Array Value)} {ts : List (Value × DT)} {S : PS} {w : World} {b2 i2 : Nat} (HF : Hid (FR w0 F A bs ts S w)) (h2 : bs[i2]? = some (b2,63,#[ptr F])) : Calls Tryz.prog 209 #[ptr b2] w fun e w' => e = .returned (.bool (seesB [87,72,69,78] S)) ∧ Kept (fun _ => False) w w' := by
 go_enter Tryz.func209,Tryz.ntmps209
 go_wp2_with (first | (refine wl_load1 HF i2 lv63 ?_ (hi := h2)))
 refine Calls.mono (sees_is [87,72,69,78] _ _ _ HF.out.pa) ?_; rintro e wQ ⟨rfl,kQ⟩
 go_wp2_with fail
 go_ret
 exact ⟨rfl,kQ⟩
theorem listW_eq {β : Type} {E : PM X} {g : Nat} {l : Sl} {S : PS} {k : Sl → PM β} : ((listG Wh.flat 16 (whenM E) moreW (g + 1) l).then k) S = ((if seesB [87,72,69,78] S then ((if l.n = 16 then barM 2 else PM.ret ()).then fun _ => (whenM E).then fun x => listG Wh.flat 16 (whenM E) moreW g ⟨l.n + 1,l.l ++ x.flat⟩) else PM.ret l : PM Sl).then k) S := rfl
theorem then_as3 {α β γ δ : Type} (m : PM α) (a : α → PM β) (b : β → PM γ) (k : γ → PM δ) (S : PS) : ((m.then fun u => (a u).then b).then k) S = (m.then fun u => (a u).then fun x => (b x).then k) S := by
 rw [PM.then_assoc]
 refine congrArg (fun k => PM.then m k S) (funext fun u => ?_)
 funext S'
 exact PM.then_assoc _ _ _ S'
set_option maxHeartbeats 8000000 in
theorem list207_go {β : Type} {w0 : World} {F : Nat} {A : Nat → Prop} {bs : List (Nat × TypeId × Array Value)} {S : PS} {w : World} {b2 i2 : Nat} (E : PM X) (f : Nat) (hf0 : f ≤ 100000) {k : Sl → PM β} {r : PR β} (HF : Hid (FR w0 F A bs [] S w)) (h2 : bs[i2]? = some (b2,63,#[ptr F])) (HS : Does WhR 208 (fun F => #[ptr F]) (whenM E))
 (HR0 : ((listM Wh.flat 16 (whenM E) moreW f).then k) S = r) (hr : r ≠ .out) {Post : Ending → World → Prop} (hbad : ∀ a er w1,r = .bad a er → Kept (On F) w0 w1 → Post (.panicked (flt a er)) w1)
 (hok : ∀ (l : Sl) S1 g cap cur xs w1,k l S1 = r → FR w0 F A ((g,211,cur) :: bs) (xs.zip l.l) S1 w1 → Own 24 g l.n cap cur xs → xs.length = l.l.length → l.n ≤ 1 + f → 0 < l.n → Post (.returned (.slice (some ⟨g,0,none⟩) l.n cap)) w1) : Calls Tryz.prog 207 #[ptr F,.int .i64 16,.func (.func 208) #[ptr F] #[],.func (.func 209) #[] #[ptr b2]] w Post := by
 have HSH : Hid (Does WhR 208 (fun F => #[ptr F]) (whenM E)) := HS
 have HR : Hid (((whenM E).then fun x => (listG Wh.flat 16 (whenM E) moreW f ⟨1,x.flat⟩).then k) S = r) := by
  rw [← HR0]
  exact (PM.then_assoc _ _ _ _).symm
 have HN : Hid (r ≠ .out) := hr
 have HL : Hid (f ≤ 100000) := hf0
 clear HS HR0 hr hf0
 go_enter Tryz.func207,Tryz.ntmps207
 go_wp2_with fail
 refine DoesI.go (HSH.out) (HF.out) (trivial) HR.out HN.out ?_ ?_
 · intro a er wN hb hk
   have HB : Hid (r = .bad a er ∧ Kept (On F) w0 wN) := ⟨hb,hk⟩
   clear hb hk
   go_wp2_with fail
   exact ⟨rfl,hbad _ _ _ HB.out.1 HB.out.2⟩
 intro x1 S1 v1 w1 hv hk hf
 obtain ⟨p1,c1,q1,d1,p1',c1',q1',d1',rfl,⟨h1,h2⟩,h3,h4⟩ := hv
 clear HF HR
 have HF : Hid (FR w0 F A _ _ S1 w1) := (((hf.tree h4).tree h3).tree h2).tree h1
 clear h1 h2 h3 h4
 clear hf
 have HR : Hid (((listG Wh.flat 16 (whenM E) moreW f ⟨1,x1.flat⟩).then k) S1 = r) := hk
 clear hk
 have HF0 : Hid (FR w0 F A bs _ S1 w1) := HF.out
 have HP : Hid (RepL (fun g => A g ∧ ∀ x ∈ bs,x.1 ≠ g) w1 ([.int .i64 x1.c.k,.int .i64 x1.c.op,.int .i64 x1.c.vk,.int .i64 x1.c.vn,.string ⟨x1.c.vs.toArray⟩,.string ⟨x1.c.tb.toArray⟩,.string ⟨x1.c.nm.toArray⟩,.int .i64 x1.c.col,.bool x1.c.dn,.int .i64 x1.c.a,.slice p1 x1.c.ar.n c1,.slice q1 x1.c.sb.n d1,.int .i64 x1.v.k,.int .i64 x1.v.op,.int .i64 x1.v.vk,.int .i64 x1.v.vn,.string ⟨x1.v.vs.toArray⟩,.string ⟨x1.v.tb.toArray⟩,.string ⟨x1.v.nm.toArray⟩,.int .i64 x1.v.col,.bool x1.v.dn,.int .i64 x1.v.a,.slice p1' x1.v.ar.n c1',.slice q1' x1.v.sb.n d1'] : List Value) x1.flat) := wh_rep (HF.out.trep 0 rfl) (HF.out.trep 1 rfl) (HF.out.trep 2 rfl) (HF.out.trep 3 rfl)
 have HF : Hid (FR w0 F A bs (([.int .i64 x1.c.k,.int .i64 x1.c.op,.int .i64 x1.c.vk,.int .i64 x1.c.vn,.string ⟨x1.c.vs.toArray⟩,.string ⟨x1.c.tb.toArray⟩,.string ⟨x1.c.nm.toArray⟩,.int .i64 x1.c.col,.bool x1.c.dn,.int .i64 x1.c.a,.slice p1 x1.c.ar.n c1,.slice q1 x1.c.sb.n d1,.int .i64 x1.v.k,.int .i64 x1.v.op,.int .i64 x1.v.vk,.int .i64 x1.v.vn,.string ⟨x1.v.vs.toArray⟩,.string ⟨x1.v.tb.toArray⟩,.string ⟨x1.v.nm.toArray⟩,.int .i64 x1.v.col,.bool x1.v.dn,.int .i64 x1.v.a,.slice p1' x1.v.ar.n c1',.slice q1' x1.v.sb.n d1'] : List Value).zip x1.flat) S1 w1) := HF0.out.zip HP.out
 clear HF0 HP
 go_wp2_with (first | (refine wl_rowbox HF (el := 211) (bs208 _ _ _ _ _ _ _ _ _ _ _ _ _ _ _ _ _ _ _ _ _ _ _ _ ) ?_; clear HF; intro wN g0 hN; have HF : Hid (FR w0 F A ((g0,211,#[.int .i64 x1.c.k,.int .i64 x1.c.op,.int .i64 x1.c.vk,.int .i64 x1.c.vn,.string ⟨x1.c.vs.toArray⟩,.string ⟨x1.c.tb.toArray⟩,.string ⟨x1.c.nm.toArray⟩,.int .i64 x1.c.col,.bool x1.c.dn,.int .i64 x1.c.a,.slice p1 x1.c.ar.n c1,.slice q1 x1.c.sb.n d1,.int .i64 x1.v.k,.int .i64 x1.v.op,.int .i64 x1.v.vk,.int .i64 x1.v.vn,.string ⟨x1.v.vs.toArray⟩,.string ⟨x1.v.tb.toArray⟩,.string ⟨x1.v.nm.toArray⟩,.int .i64 x1.v.col,.bool x1.v.dn,.int .i64 x1.v.a,.slice p1' x1.v.ar.n c1',.slice q1' x1.v.sb.n d1']) :: bs) (([.int .i64 x1.c.k,.int .i64 x1.c.op,.int .i64 x1.c.vk,.int .i64 x1.c.vn,.string ⟨x1.c.vs.toArray⟩,.string ⟨x1.c.tb.toArray⟩,.string ⟨x1.c.nm.toArray⟩,.int .i64 x1.c.col,.bool x1.c.dn,.int .i64 x1.c.a,.slice p1 x1.c.ar.n c1,.slice q1 x1.c.sb.n d1,.int .i64 x1.v.k,.int .i64 x1.v.op,.int .i64 x1.v.vk,.int .i64 x1.v.vn,.string ⟨x1.v.vs.toArray⟩,.string ⟨x1.v.tb.toArray⟩,.string ⟨x1.v.nm.toArray⟩,.int .i64 x1.v.col,.bool x1.v.dn,.int .i64 x1.v.a,.slice p1' x1.v.ar.n c1',.slice q1' x1.v.sb.n d1'] : List Value).zip x1.flat) S1 wN) := hN; clear hN))
 have HO : Hid (Own 24 g0 1 1 #[.int .i64 x1.c.k,.int .i64 x1.c.op,.int .i64 x1.c.vk,.int .i64 x1.c.vn,.string ⟨x1.c.vs.toArray⟩,.string ⟨x1.c.tb.toArray⟩,.string ⟨x1.c.nm.toArray⟩,.int .i64 x1.c.col,.bool x1.c.dn,.int .i64 x1.c.a,.slice p1 x1.c.ar.n c1,.slice q1 x1.c.sb.n d1,.int .i64 x1.v.k,.int .i64 x1.v.op,.int .i64 x1.v.vk,.int .i64 x1.v.vn,.string ⟨x1.v.vs.toArray⟩,.string ⟨x1.v.tb.toArray⟩,.string ⟨x1.v.nm.toArray⟩,.int .i64 x1.v.col,.bool x1.v.dn,.int .i64 x1.v.a,.slice p1' x1.v.ar.n c1',.slice q1' x1.v.sb.n d1'] ([.int .i64 x1.c.k,.int .i64 x1.c.op,.int .i64 x1.c.vk,.int .i64 x1.c.vn,.string ⟨x1.c.vs.toArray⟩,.string ⟨x1.c.tb.toArray⟩,.string ⟨x1.c.nm.toArray⟩,.int .i64 x1.c.col,.bool x1.c.dn,.int .i64 x1.c.a,.slice p1 x1.c.ar.n c1,.slice q1 x1.c.sb.n d1,.int .i64 x1.v.k,.int .i64 x1.v.op,.int .i64 x1.v.vk,.int .i64 x1.v.vn,.string ⟨x1.v.vs.toArray⟩,.string ⟨x1.v.tb.toArray⟩,.string ⟨x1.v.nm.toArray⟩,.int .i64 x1.v.col,.bool x1.v.dn,.int .i64 x1.v.a,.slice p1' x1.v.ar.n c1',.slice q1' x1.v.sb.n d1'] : List Value)) := Own.one rfl
 go_loopg [9] f (fun (gk : Nat) (v9 : Value) (wr : World) => ∃ (g cap : Nat) (cur : Array Value) (xs : List Value) (l : Sl) (Sr : PS),v9 = .slice (some ⟨g,0,none⟩) l.n cap ∧ Hid (FR w0 F A ((g,211,cur) :: bs) (xs.zip l.l) Sr wr) ∧ Hid (Own 24 g l.n cap cur xs ∧ xs.length = l.l.length ∧ l.n ≤ 1 + f ∧ l.n + gk = 1 + f ∧ 0 < l.n) ∧ Hid (((listG Wh.flat 16 (whenM E) moreW gk l).then k) Sr = r))
 case atStart => exact ⟨g0,1,_,_,⟨1,x1.flat⟩,S1,rfl,HF,⟨HO.out,rfl,Nat.le_add_right _ _,rfl,Nat.one_pos⟩,HR⟩
 case round =>
  obtain ⟨g,cap,cur,xs,l,Sr,rfl,HF,HO,HR⟩ := hrel
  obtain ⟨gk,rfl⟩ : ∃ k,gk = k + 1 := by
   cases gk with
   | zero => exact absurd HR.out.symm HN.out
   | succ k => exact ⟨k,rfl⟩
  obtain ⟨x2,hx2⟩ : ∃ b,seesB [87,72,69,78] Sr = b := ⟨_,rfl⟩
  replace HR : Hid (((if x2 then ((if l.n = 16 then barM 2 else PM.ret ()).then fun _ => (whenM E).then fun x => listG Wh.flat 16 (whenM E) moreW gk ⟨l.n + 1,l.l ++ x.flat⟩) else PM.ret l : PM Sl).then k) Sr = r) := by
   have h := HR.out
   rw [listW_eq,hx2] at h
   exact h
  have HX2 : Hid (seesB [87,72,69,78] Sr = x2) := hx2
  clear hx2
  go_wp2_with fail
  refine Calls.mono (cho2 (i2 := i2 + 1) HF h2) ?_; rintro e wQ ⟨rfl,kQ⟩
  rw [HX2.out]
  replace HF : Hid (FR w0 F A ((g,211,cur) :: bs) (xs.zip l.l) Sr wQ) := (HF.out).call (kQ.mono (fun i q => q.elim)) ((HF.out).pa.same kQ)
  clear kQ HX2
  cases x2 with
  | false =>
    replace HR : Hid (k l Sr = r) := HR.out
    go_wp2_with fail
    exact hok l Sr _ _ _ _ _ HR.out HF.out HO.out.1 HO.out.2.1 HO.out.2.2.1 HO.out.2.2.2.2
  | true =>
    replace HR : Hid (((if l.n = 16 then barM 2 else PM.ret ()).then fun _ => (whenM E).then fun x => (listG Wh.flat 16 (whenM E) moreW gk ⟨l.n + 1,l.l ++ x.flat⟩).then k) Sr = r) := by
     rw [← HR.out]
     exact (then_as3 _ _ _ _ _).symm
    by_cases h16 : l.n = 16
    · replace HR : Hid (((barM 2).then fun _ => (whenM E).then fun x => (listG Wh.flat 16 (whenM E) moreW gk ⟨l.n + 1,l.l ++ x.flat⟩).then k) Sr = r) := by have h := HR.out; rw [if_pos h16] at h; exact h
      have hli : (l.n : Int) = 16 := by omega
      clear h16
      go_wp2_with fail
      refine DoesI.go (bar_does 2) (HF.out) (trivial) HR.out HN.out ?_ ?_
      · intro a er wN hb hk
        have HB : Hid (r = .bad a er ∧ Kept (On F) w0 wN) := ⟨hb,hk⟩
        clear hb hk
        go_wp2_with fail
        exact ⟨rfl,hbad _ _ _ HB.out.1 HB.out.2⟩
      intro x3 S3 v3 w3 hv hk hf
      cases hv
      clear HF HR
      have HF := hidF <| hf
      clear hf
      have HR : Hid (_ = r) := hk
      clear hk
      clear hli
      replace HF : Hid (FR w0 F A ((g,211,cur) :: bs) (xs.zip l.l) S3 w3) := HF.out
      go_wp2_with fail
      refine DoesI.go (HSH.out) (HF.out) (trivial) HR.out HN.out ?_ ?_
      · intro a er wN hb hk
        have HB : Hid (r = .bad a er ∧ Kept (On F) w0 wN) := ⟨hb,hk⟩
        clear hb hk
        go_wp2_with fail
        exact ⟨rfl,hbad _ _ _ HB.out.1 HB.out.2⟩
      intro x4 S4 v4 w4 hv hk hf
      obtain ⟨p4,c4,q4,d4,p4',c4',q4',d4',rfl,⟨h1,h2⟩,h3,h4⟩ := hv
      clear HF HR
      have HF : Hid (FR w0 F A _ _ S4 w4) := (((hf.tree h4).tree h3).tree h2).tree h1
      clear h1 h2 h3 h4
      clear hf
      have HR : Hid (((listG Wh.flat 16 (whenM E) moreW gk ⟨l.n + 1,l.l ++ x4.flat⟩).then k) S4 = r) := hk
      clear hk
      have HF0 : Hid (FR w0 F A ((g,211,cur) :: bs) _ S4 w4) := HF.out
      have HP : Hid (RepL (fun g' => A g' ∧ ∀ x ∈ (g,211,cur) :: bs,x.1 ≠ g') w4 ([.int .i64 x4.c.k,.int .i64 x4.c.op,.int .i64 x4.c.vk,.int .i64 x4.c.vn,.string ⟨x4.c.vs.toArray⟩,.string ⟨x4.c.tb.toArray⟩,.string ⟨x4.c.nm.toArray⟩,.int .i64 x4.c.col,.bool x4.c.dn,.int .i64 x4.c.a,.slice p4 x4.c.ar.n c4,.slice q4 x4.c.sb.n d4,.int .i64 x4.v.k,.int .i64 x4.v.op,.int .i64 x4.v.vk,.int .i64 x4.v.vn,.string ⟨x4.v.vs.toArray⟩,.string ⟨x4.v.tb.toArray⟩,.string ⟨x4.v.nm.toArray⟩,.int .i64 x4.v.col,.bool x4.v.dn,.int .i64 x4.v.a,.slice p4' x4.v.ar.n c4',.slice q4' x4.v.sb.n d4'] : List Value) x4.flat) := wh_rep (HF.out.trep 0 rfl) (HF.out.trep 1 rfl) (HF.out.trep 2 rfl) (HF.out.trep 3 rfl)
      have HQ : Hid (RepL (fun g' => A g' ∧ ∀ x ∈ (g,211,cur) :: bs,x.1 ≠ g') w4 (xs ++ ([.int .i64 x4.c.k,.int .i64 x4.c.op,.int .i64 x4.c.vk,.int .i64 x4.c.vn,.string ⟨x4.c.vs.toArray⟩,.string ⟨x4.c.tb.toArray⟩,.string ⟨x4.c.nm.toArray⟩,.int .i64 x4.c.col,.bool x4.c.dn,.int .i64 x4.c.a,.slice p4 x4.c.ar.n c4,.slice q4 x4.c.sb.n d4,.int .i64 x4.v.k,.int .i64 x4.v.op,.int .i64 x4.v.vk,.int .i64 x4.v.vn,.string ⟨x4.v.vs.toArray⟩,.string ⟨x4.v.tb.toArray⟩,.string ⟨x4.v.nm.toArray⟩,.int .i64 x4.v.col,.bool x4.v.dn,.int .i64 x4.v.a,.slice p4' x4.v.ar.n c4',.slice q4' x4.v.sb.n d4'] : List Value)) (l.l ++ x4.flat)) := (HF.out.unzip (fun y hy => List.mem_cons_of_mem _ (List.mem_cons_of_mem _ (List.mem_cons_of_mem _ (List.mem_cons_of_mem _ (hy))))) HO.out.2.1).append HP.out
      have HF : Hid (FR w0 F A ((g,211,cur) :: bs) ((xs ++ ([.int .i64 x4.c.k,.int .i64 x4.c.op,.int .i64 x4.c.vk,.int .i64 x4.c.vn,.string ⟨x4.c.vs.toArray⟩,.string ⟨x4.c.tb.toArray⟩,.string ⟨x4.c.nm.toArray⟩,.int .i64 x4.c.col,.bool x4.c.dn,.int .i64 x4.c.a,.slice p4 x4.c.ar.n c4,.slice q4 x4.c.sb.n d4,.int .i64 x4.v.k,.int .i64 x4.v.op,.int .i64 x4.v.vk,.int .i64 x4.v.vn,.string ⟨x4.v.vs.toArray⟩,.string ⟨x4.v.tb.toArray⟩,.string ⟨x4.v.nm.toArray⟩,.int .i64 x4.v.col,.bool x4.v.dn,.int .i64 x4.v.a,.slice p4' x4.v.ar.n c4',.slice q4' x4.v.sb.n d4'] : List Value)).zip (l.l ++ x4.flat)) S4 w4) := HF0.out.zip HQ.out
      clear HF0
      go_wp2_with (first | (refine wl_rowbox HF (el := 211) (bs208 _ _ _ _ _ _ _ _ _ _ _ _ _ _ _ _ _ _ _ _ _ _ _ _ ) ?_; clear HF; intro wN b5 hN; obtain ⟨g5,cap5,cur5,w5,hA,hF5,hO5,hK5⟩ := app211 (news := ([.int .i64 x4.c.k,.int .i64 x4.c.op,.int .i64 x4.c.vk,.int .i64 x4.c.vn,.string ⟨x4.c.vs.toArray⟩,.string ⟨x4.c.tb.toArray⟩,.string ⟨x4.c.nm.toArray⟩,.int .i64 x4.c.col,.bool x4.c.dn,.int .i64 x4.c.a,.slice p4 x4.c.ar.n c4,.slice q4 x4.c.sb.n d4,.int .i64 x4.v.k,.int .i64 x4.v.op,.int .i64 x4.v.vk,.int .i64 x4.v.vn,.string ⟨x4.v.vs.toArray⟩,.string ⟨x4.v.tb.toArray⟩,.string ⟨x4.v.nm.toArray⟩,.int .i64 x4.v.col,.bool x4.v.dn,.int .i64 x4.v.a,.slice p4' x4.v.ar.n c4',.slice q4' x4.v.sb.n d4'] : List Value)) hN HO.out.1 (by have := HO.out.2.2.1; have := HL.out; omega) rfl (repL_one HP.out); have HF : Hid (FR w0 F A ((g5,211,cur5) :: bs) ((xs ++ ([.int .i64 x4.c.k,.int .i64 x4.c.op,.int .i64 x4.c.vk,.int .i64 x4.c.vn,.string ⟨x4.c.vs.toArray⟩,.string ⟨x4.c.tb.toArray⟩,.string ⟨x4.c.nm.toArray⟩,.int .i64 x4.c.col,.bool x4.c.dn,.int .i64 x4.c.a,.slice p4 x4.c.ar.n c4,.slice q4 x4.c.sb.n d4,.int .i64 x4.v.k,.int .i64 x4.v.op,.int .i64 x4.v.vk,.int .i64 x4.v.vn,.string ⟨x4.v.vs.toArray⟩,.string ⟨x4.v.tb.toArray⟩,.string ⟨x4.v.nm.toArray⟩,.int .i64 x4.v.col,.bool x4.v.dn,.int .i64 x4.v.a,.slice p4' x4.v.ar.n c4',.slice q4' x4.v.sb.n d4'] : List Value)).zip (l.l ++ x4.flat)) S4 w5) := hF5; have HO5 : Hid (Own 24 g5 (l.n + 1) cap5 cur5 (xs ++ ([.int .i64 x4.c.k,.int .i64 x4.c.op,.int .i64 x4.c.vk,.int .i64 x4.c.vn,.string ⟨x4.c.vs.toArray⟩,.string ⟨x4.c.tb.toArray⟩,.string ⟨x4.c.nm.toArray⟩,.int .i64 x4.c.col,.bool x4.c.dn,.int .i64 x4.c.a,.slice p4 x4.c.ar.n c4,.slice q4 x4.c.sb.n d4,.int .i64 x4.v.k,.int .i64 x4.v.op,.int .i64 x4.v.vk,.int .i64 x4.v.vn,.string ⟨x4.v.vs.toArray⟩,.string ⟨x4.v.tb.toArray⟩,.string ⟨x4.v.nm.toArray⟩,.int .i64 x4.v.col,.bool x4.v.dn,.int .i64 x4.v.a,.slice p4' x4.v.ar.n c4',.slice q4' x4.v.sb.n d4'] : List Value))) := hO5; clear hN hF5 hO5 hK5) | (refine st_append rfl rfl hA ?_; clear hA))
      go_roundg gk
      case measure => omega
      case rel => exact ⟨g5,cap5,cur5,_,⟨l.n + 1,l.l ++ x4.flat⟩,S4,rfl,HF,⟨HO5.out,by rw [List.length_append,List.length_append,HO.out.2.1,HP.out.1],by show l.n + 1 ≤ 1 + f; have := HO.out.2.2.2.1; omega,by show l.n + 1 + gk = 1 + f; have := HO.out.2.2.2.1; omega,Nat.succ_pos _⟩,HR⟩
    · replace HR : Hid (((whenM E).then fun x => (listG Wh.flat 16 (whenM E) moreW gk ⟨l.n + 1,l.l ++ x.flat⟩).then k) Sr = r) := by have h := HR.out; rw [if_neg h16] at h; exact h
      have hli : ¬ (l.n : Int) = 16 := by omega
      go_wp2_with fail
      refine DoesI.go (HSH.out) (HF.out) (trivial) HR.out HN.out ?_ ?_
      · intro a er wN hb hk
        have HB : Hid (r = .bad a er ∧ Kept (On F) w0 wN) := ⟨hb,hk⟩
        clear hb hk
        go_wp2_with fail
        exact ⟨rfl,hbad _ _ _ HB.out.1 HB.out.2⟩
      intro x4 S4 v4 w4 hv hk hf
      obtain ⟨p4,c4,q4,d4,p4',c4',q4',d4',rfl,⟨h1,h2⟩,h3,h4⟩ := hv
      clear HF HR
      have HF : Hid (FR w0 F A _ _ S4 w4) := (((hf.tree h4).tree h3).tree h2).tree h1
      clear h1 h2 h3 h4
      clear hf
      have HR : Hid (((listG Wh.flat 16 (whenM E) moreW gk ⟨l.n + 1,l.l ++ x4.flat⟩).then k) S4 = r) := hk
      clear hk
      have HF0 : Hid (FR w0 F A ((g,211,cur) :: bs) _ S4 w4) := HF.out
      have HP : Hid (RepL (fun g' => A g' ∧ ∀ x ∈ (g,211,cur) :: bs,x.1 ≠ g') w4 ([.int .i64 x4.c.k,.int .i64 x4.c.op,.int .i64 x4.c.vk,.int .i64 x4.c.vn,.string ⟨x4.c.vs.toArray⟩,.string ⟨x4.c.tb.toArray⟩,.string ⟨x4.c.nm.toArray⟩,.int .i64 x4.c.col,.bool x4.c.dn,.int .i64 x4.c.a,.slice p4 x4.c.ar.n c4,.slice q4 x4.c.sb.n d4,.int .i64 x4.v.k,.int .i64 x4.v.op,.int .i64 x4.v.vk,.int .i64 x4.v.vn,.string ⟨x4.v.vs.toArray⟩,.string ⟨x4.v.tb.toArray⟩,.string ⟨x4.v.nm.toArray⟩,.int .i64 x4.v.col,.bool x4.v.dn,.int .i64 x4.v.a,.slice p4' x4.v.ar.n c4',.slice q4' x4.v.sb.n d4'] : List Value) x4.flat) := wh_rep (HF.out.trep 0 rfl) (HF.out.trep 1 rfl) (HF.out.trep 2 rfl) (HF.out.trep 3 rfl)
      have HQ : Hid (RepL (fun g' => A g' ∧ ∀ x ∈ (g,211,cur) :: bs,x.1 ≠ g') w4 (xs ++ ([.int .i64 x4.c.k,.int .i64 x4.c.op,.int .i64 x4.c.vk,.int .i64 x4.c.vn,.string ⟨x4.c.vs.toArray⟩,.string ⟨x4.c.tb.toArray⟩,.string ⟨x4.c.nm.toArray⟩,.int .i64 x4.c.col,.bool x4.c.dn,.int .i64 x4.c.a,.slice p4 x4.c.ar.n c4,.slice q4 x4.c.sb.n d4,.int .i64 x4.v.k,.int .i64 x4.v.op,.int .i64 x4.v.vk,.int .i64 x4.v.vn,.string ⟨x4.v.vs.toArray⟩,.string ⟨x4.v.tb.toArray⟩,.string ⟨x4.v.nm.toArray⟩,.int .i64 x4.v.col,.bool x4.v.dn,.int .i64 x4.v.a,.slice p4' x4.v.ar.n c4',.slice q4' x4.v.sb.n d4'] : List Value)) (l.l ++ x4.flat)) := (HF.out.unzip (fun y hy => List.mem_cons_of_mem _ (List.mem_cons_of_mem _ (List.mem_cons_of_mem _ (List.mem_cons_of_mem _ (hy))))) HO.out.2.1).append HP.out
      have HF : Hid (FR w0 F A ((g,211,cur) :: bs) ((xs ++ ([.int .i64 x4.c.k,.int .i64 x4.c.op,.int .i64 x4.c.vk,.int .i64 x4.c.vn,.string ⟨x4.c.vs.toArray⟩,.string ⟨x4.c.tb.toArray⟩,.string ⟨x4.c.nm.toArray⟩,.int .i64 x4.c.col,.bool x4.c.dn,.int .i64 x4.c.a,.slice p4 x4.c.ar.n c4,.slice q4 x4.c.sb.n d4,.int .i64 x4.v.k,.int .i64 x4.v.op,.int .i64 x4.v.vk,.int .i64 x4.v.vn,.string ⟨x4.v.vs.toArray⟩,.string ⟨x4.v.tb.toArray⟩,.string ⟨x4.v.nm.toArray⟩,.int .i64 x4.v.col,.bool x4.v.dn,.int .i64 x4.v.a,.slice p4' x4.v.ar.n c4',.slice q4' x4.v.sb.n d4'] : List Value)).zip (l.l ++ x4.flat)) S4 w4) := HF0.out.zip HQ.out
      clear HF0
      go_wp2_with (first | (refine wl_rowbox HF (el := 211) (bs208 _ _ _ _ _ _ _ _ _ _ _ _ _ _ _ _ _ _ _ _ _ _ _ _ ) ?_; clear HF; intro wN b5 hN; obtain ⟨g5,cap5,cur5,w5,hA,hF5,hO5,hK5⟩ := app211 (news := ([.int .i64 x4.c.k,.int .i64 x4.c.op,.int .i64 x4.c.vk,.int .i64 x4.c.vn,.string ⟨x4.c.vs.toArray⟩,.string ⟨x4.c.tb.toArray⟩,.string ⟨x4.c.nm.toArray⟩,.int .i64 x4.c.col,.bool x4.c.dn,.int .i64 x4.c.a,.slice p4 x4.c.ar.n c4,.slice q4 x4.c.sb.n d4,.int .i64 x4.v.k,.int .i64 x4.v.op,.int .i64 x4.v.vk,.int .i64 x4.v.vn,.string ⟨x4.v.vs.toArray⟩,.string ⟨x4.v.tb.toArray⟩,.string ⟨x4.v.nm.toArray⟩,.int .i64 x4.v.col,.bool x4.v.dn,.int .i64 x4.v.a,.slice p4' x4.v.ar.n c4',.slice q4' x4.v.sb.n d4'] : List Value)) hN HO.out.1 (by have := HO.out.2.2.1; have := HL.out; omega) rfl (repL_one HP.out); have HF : Hid (FR w0 F A ((g5,211,cur5) :: bs) ((xs ++ ([.int .i64 x4.c.k,.int .i64 x4.c.op,.int .i64 x4.c.vk,.int .i64 x4.c.vn,.string ⟨x4.c.vs.toArray⟩,.string ⟨x4.c.tb.toArray⟩,.string ⟨x4.c.nm.toArray⟩,.int .i64 x4.c.col,.bool x4.c.dn,.int .i64 x4.c.a,.slice p4 x4.c.ar.n c4,.slice q4 x4.c.sb.n d4,.int .i64 x4.v.k,.int .i64 x4.v.op,.int .i64 x4.v.vk,.int .i64 x4.v.vn,.string ⟨x4.v.vs.toArray⟩,.string ⟨x4.v.tb.toArray⟩,.string ⟨x4.v.nm.toArray⟩,.int .i64 x4.v.col,.bool x4.v.dn,.int .i64 x4.v.a,.slice p4' x4.v.ar.n c4',.slice q4' x4.v.sb.n d4'] : List Value)).zip (l.l ++ x4.flat)) S4 w5) := hF5; have HO5 : Hid (Own 24 g5 (l.n + 1) cap5 cur5 (xs ++ ([.int .i64 x4.c.k,.int .i64 x4.c.op,.int .i64 x4.c.vk,.int .i64 x4.c.vn,.string ⟨x4.c.vs.toArray⟩,.string ⟨x4.c.tb.toArray⟩,.string ⟨x4.c.nm.toArray⟩,.int .i64 x4.c.col,.bool x4.c.dn,.int .i64 x4.c.a,.slice p4 x4.c.ar.n c4,.slice q4 x4.c.sb.n d4,.int .i64 x4.v.k,.int .i64 x4.v.op,.int .i64 x4.v.vk,.int .i64 x4.v.vn,.string ⟨x4.v.vs.toArray⟩,.string ⟨x4.v.tb.toArray⟩,.string ⟨x4.v.nm.toArray⟩,.int .i64 x4.v.col,.bool x4.v.dn,.int .i64 x4.v.a,.slice p4' x4.v.ar.n c4',.slice q4' x4.v.sb.n d4'] : List Value))) := hO5; clear hN hF5 hO5 hK5) | (refine st_append rfl rfl hA ?_; clear hA))
      go_roundg gk
      case measure => omega
      case rel => exact ⟨g5,cap5,cur5,_,⟨l.n + 1,l.l ++ x4.flat⟩,S4,rfl,HF,⟨HO5.out,by rw [List.length_append,List.length_append,HO.out.2.1,HP.out.1],by show l.n + 1 ≤ 1 + f; have := HO.out.2.2.2.1; omega,by show l.n + 1 + gk = 1 + f; have := HO.out.2.2.2.1; omega,Nat.succ_pos _⟩,HR⟩
end Go.Proofs.YtlgkghebemfpjaaGreatDoor.Pa
