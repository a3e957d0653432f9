/- list of It. list of X. list of Ke. -/
import Derived.Test.YtlgkghebemfpjaaGreatDoorQRw
import Derived.Deep.LoopGhost
namespace Go.Proofs.YtlgkghebemfpjaaGreatDoor.Pa
open Go.ChangeShapes Go.WideShapes Go.ChangeAt Go.RowKit
set_option linter.unusedVariables false
set_option maxRecDepth 100000
def ItR (A : Nat → Prop) (w : World) (v : Value) (x : It) : Prop := ∃ p c q d,v = .agg #[.bool x.star,.int .i64 x.x.k,.int .i64 x.x.op,.int .i64 x.x.vk,.int .i64 x.x.vn,.string ⟨x.x.vs.toArray⟩,.string ⟨x.x.tb.toArray⟩,.string ⟨x.x.nm.toArray⟩,.int .i64 x.x.col,.bool x.x.dn,.int .i64 x.x.a,.slice p x.x.ar.n c,.slice q x.x.sb.n d,.string ⟨x.asn.toArray⟩] ∧ Rep A w (.slice p x.x.ar.n c) x.x.ar.dt ∧ Rep A w (.slice q x.x.sb.n d) x.x.sb.dt
theorem it_rep {A : Nat → Prop} {w : World} {x : It} {a b : Value} (ha : Rep A w a x.x.ar.dt) (hb : Rep A w b x.x.sb.dt) : RepL A w (.bool x.star :: (xc x.x a b ++ [.string ⟨x.asn.toArray⟩])) x.flat := .cons (.b _) ((xc_rep ha hb).append (.cons (.s _) .nil))
theorem inf57 : (Tryz.prog.info? 57).map (fun i => (i.zero,i.size,i.bytes)) = some (some (.agg #[.bool false,.int .i64 0,.int .i64 0,.int .i64 0,.int .i64 0,.string ⟨#[]⟩,.string ⟨#[]⟩,.string ⟨#[]⟩,.int .i64 0,.bool false,.int .i64 0,.slice none 0 0,.slice none 0 0,.string ⟨#[]⟩]),14,176) := by kernel_rfl
theorem app57 {w0 : World} {F : Nat} {A : Nat → Prop} {bs : List (Nat × TypeId × Array Value)} {ts : List (Value × DT)} {S : PS} {w : World} {g k cap b : Nat} {cur : Array Value} {xs news : List Value} (h : FR w0 F A ((b,57,news.toArray) :: (g,57,cur) :: bs) ts S w) (o : Own 14 g k cap cur xs) (hk : k ≤ 200000) (hn : news.length = 14) (h1 : ∀ u ∈ news,u.oneCell' = true) :
 ∃ g' cap' cur' w',(Builtin.append_ #[50,50] 50 #[.slice (some ⟨g,0,none⟩) k cap,.slice (some ⟨b,0,none⟩) 1 1]).run Tryz.prog w = .ok (.slice (some ⟨g',0,none⟩) (k + 1) cap') w' ∧ FR w0 F A ((g',57,cur') :: bs) ts S w' ∧ Own 14 g' (k + 1) cap' cur' (xs ++ news) ∧ Kept (On g) w w' := by
 obtain ⟨i,hi,hz,h2,h3⟩ := info_of inf57
 refine FR.append h.tl o i _ Tryz.underlying50 hi hz h2 h3 rfl b 1 1 0 news (by rw [hn]) (fun j u q => ?_) h1 (by omega) (by unfold maxLen; omega) (by omega)
 rw [Nat.zero_add,h.cell 0 rfl j]
 simpa using q
set_option maxHeartbeats 4000000 in
theorem list121_does (m : PM It) (f : Nat) (hf0 : f ≤ 100000) (H : Does ItR 122 (fun F => #[ptr F]) m) : Does (SN 14) 121 (fun F => #[ptr F,.int .i64 16,.func (.func 122) #[ptr F] #[],.func (.func 64) #[ptr F] #[]]) (listM It.flat 16 m commaM f) := by
 intro w F A S hp hA hF hpre hn
 have HF : Hid (FR w F A [] [] S w) := FR.init [] hp hA hF (fun y h => (by cases h))
 obtain ⟨r,hr⟩ : ∃ r,(listM It.flat 16 m commaM f) S = r := ⟨_,rfl⟩
 have HR : Hid ((listM It.flat 16 m commaM f) S = r) := hr
 rw [hr] at hn ⊢
 have HN : Hid (r ≠ .out) := hn
 unfold listM at HR
 clear hp hA hF hr hn
 have HH : Hid (Does ItR 122 (fun F => #[ptr F]) m) := H
 have HL : Hid (f ≤ 100000) := hf0
 clear H hf0
 go_enter Tryz.func121,Tryz.ntmps121
 go_wp2_with fail
 refine DoesI.go (HH.out) (HF.out) (trivial) HR.out HN.out ?_ ?_
 · intro a er wN hb hk
   have HB : Hid (r = .bad a er ∧ Kept (On F) w wN) := ⟨hb,hk⟩
   clear hb hk
   go_wp2_with fail
   exact ⟨rfl,out_bad HB.out.1 HB.out.2⟩
 intro x1 S1 v1 w1 hv hk hf
 obtain ⟨p1,c1,q1,d1,rfl,h1,h2⟩ := hv
 clear HF HR
 have HF := hidF <| (hf.tree h2).tree h1
 clear h1 h2
 clear hf
 have HR : Hid (_ = r) := hk
 clear hk
 have HF0 : Hid (FR w F A [] _ S1 w1) := HF.out
 have HP : Hid (RepL (fun g => A g ∧ ∀ x ∈ ([] : List (Nat × TypeId × Array Value)),x.1 ≠ g) w1 ([.bool x1.star,.int .i64 x1.x.k,.int .i64 x1.x.op,.int .i64 x1.x.vk,.int .i64 x1.x.vn,.string ⟨x1.x.vs.toArray⟩,.string ⟨x1.x.tb.toArray⟩,.string ⟨x1.x.nm.toArray⟩,.int .i64 x1.x.col,.bool x1.x.dn,.int .i64 x1.x.a,.slice p1 x1.x.ar.n c1,.slice q1 x1.x.sb.n d1,.string ⟨x1.asn.toArray⟩] : List Value) x1.flat) := it_rep (HF.out.trep 0 rfl) (HF.out.trep 1 rfl)
 have HF : Hid (FR w F A [] (([.bool x1.star,.int .i64 x1.x.k,.int .i64 x1.x.op,.int .i64 x1.x.vk,.int .i64 x1.x.vn,.string ⟨x1.x.vs.toArray⟩,.string ⟨x1.x.tb.toArray⟩,.string ⟨x1.x.nm.toArray⟩,.int .i64 x1.x.col,.bool x1.x.dn,.int .i64 x1.x.a,.slice p1 x1.x.ar.n c1,.slice q1 x1.x.sb.n d1,.string ⟨x1.asn.toArray⟩] : List Value).zip x1.flat) S1 w1) := HF0.out.zip HP.out
 clear HF0 HP
 go_wp2_with (first | (refine wl_rowbox HF (el := 57) (bs50 _ _ _ _ _ _ _ _ _ _ _ _ _ _ ) ?_; clear HF; intro wN g0 hN; have HF : Hid (FR w F A [(g0,57,#[.bool x1.star,.int .i64 x1.x.k,.int .i64 x1.x.op,.int .i64 x1.x.vk,.int .i64 x1.x.vn,.string ⟨x1.x.vs.toArray⟩,.string ⟨x1.x.tb.toArray⟩,.string ⟨x1.x.nm.toArray⟩,.int .i64 x1.x.col,.bool x1.x.dn,.int .i64 x1.x.a,.slice p1 x1.x.ar.n c1,.slice q1 x1.x.sb.n d1,.string ⟨x1.asn.toArray⟩])] (([.bool x1.star,.int .i64 x1.x.k,.int .i64 x1.x.op,.int .i64 x1.x.vk,.int .i64 x1.x.vn,.string ⟨x1.x.vs.toArray⟩,.string ⟨x1.x.tb.toArray⟩,.string ⟨x1.x.nm.toArray⟩,.int .i64 x1.x.col,.bool x1.x.dn,.int .i64 x1.x.a,.slice p1 x1.x.ar.n c1,.slice q1 x1.x.sb.n d1,.string ⟨x1.asn.toArray⟩] : List Value).zip x1.flat) S1 wN) := hN; clear hN))
 have HO : Hid (Own 14 g0 1 1 #[.bool x1.star,.int .i64 x1.x.k,.int .i64 x1.x.op,.int .i64 x1.x.vk,.int .i64 x1.x.vn,.string ⟨x1.x.vs.toArray⟩,.string ⟨x1.x.tb.toArray⟩,.string ⟨x1.x.nm.toArray⟩,.int .i64 x1.x.col,.bool x1.x.dn,.int .i64 x1.x.a,.slice p1 x1.x.ar.n c1,.slice q1 x1.x.sb.n d1,.string ⟨x1.asn.toArray⟩] ([.bool x1.star,.int .i64 x1.x.k,.int .i64 x1.x.op,.int .i64 x1.x.vk,.int .i64 x1.x.vn,.string ⟨x1.x.vs.toArray⟩,.string ⟨x1.x.tb.toArray⟩,.string ⟨x1.x.nm.toArray⟩,.int .i64 x1.x.col,.bool x1.x.dn,.int .i64 x1.x.a,.slice p1 x1.x.ar.n c1,.slice q1 x1.x.sb.n d1,.string ⟨x1.asn.toArray⟩] : List Value)) := Own.one rfl
 go_loopg [9] f (fun (gk : Nat) (v9 : Value) (wr : World) => ∃ (g cap : Nat) (cur : Array Value) (xs : List Value) (l : Sl) (Sr : PS),v9 = .slice (some ⟨g,0,none⟩) l.n cap ∧ Hid (FR w F A [(g,57,cur)] (xs.zip l.l) Sr wr) ∧ Hid (Own 14 g l.n cap cur xs ∧ xs.length = l.l.length ∧ l.n ≤ 1 + f ∧ l.n + gk = 1 + f ∧ 0 < l.n) ∧ Hid (listG It.flat 16 m commaM gk l Sr = r))
 case atStart => exact ⟨g0,1,_,_,⟨1,x1.flat⟩,S1,rfl,HF,⟨HO.out,rfl,Nat.le_add_right _ _,rfl,Nat.one_pos⟩,HR⟩
 case round =>
  obtain ⟨g,cap,cur,xs,l,Sr,rfl,HF,HO,HR⟩ := hrel
  obtain ⟨gk,rfl⟩ : ∃ k,gk = k + 1 := by
   cases gk with
   | zero => exact absurd HR.out.symm HN.out
   | succ k => exact ⟨k,rfl⟩
  replace HR : Hid ((commaM.then fun b => if b then ((if l.n = 16 then barM 2 else PM.ret ()).then fun _ => m.then fun x => listG It.flat 16 m commaM gk ⟨l.n + 1,l.l ++ It.flat x⟩) else PM.ret l) Sr = r) := HR.out
  go_wp2_with fail
  refine DoesI.go (comma_does) (HF.out) (trivial) HR.out HN.out ?_ ?_
  · intro a er wN hb hk
    have HB : Hid (r = .bad a er ∧ Kept (On F) w wN) := ⟨hb,hk⟩
    clear hb hk
    go_wp2_with fail
    exact ⟨rfl,out_bad HB.out.1 HB.out.2⟩
  intro x2 S2 v2 w2 hv hk hf
  cases hv
  clear HF HR
  have HF := hidF <| hf
  clear hf
  have HR : Hid (_ = r) := hk
  clear hk
  cases x2 with
  | false =>
    replace HR : Hid ((PM.ret l S2) = r) := HR.out
    go_wp2_with fail
    go_ret
    have HS2 : Hid (FR w F A [] _ S2 w2) := HF.out.shut HO.out.1 (HF.out.unzip (fun y hy => hy) HO.out.2.1)
    exact out_ok HR.out.symm HS2.out ⟨⟨_,_,rfl,HS2.out.rep 0 rfl⟩,by rw [← HO.out.2.1,HO.out.1.ln],HO.out.2.2.2.2,by have := HO.out.2.2.1; have := HL.out; omega⟩
  | true =>
    replace HR : Hid ((((if l.n = 16 then barM 2 else PM.ret ()).then fun _ => m.then fun x => listG It.flat 16 m commaM gk ⟨l.n + 1,l.l ++ It.flat x⟩) S2) = r) := HR.out
    by_cases h16 : l.n = 16
    · replace HR : Hid (((barM 2).then fun _ => m.then fun x => listG It.flat 16 m commaM gk ⟨l.n + 1,l.l ++ It.flat x⟩) S2 = r) := by have h := HR.out; rw [if_pos h16] at h; exact h
      have hli : (l.n : Int) = 16 := by omega
      clear h16
      go_wp2_with fail
      refine DoesI.go (bar_does 2) (HF.out) (trivial) HR.out HN.out ?_ ?_
      · intro a er wN hb hk
        have HB : Hid (r = .bad a er ∧ Kept (On F) w wN) := ⟨hb,hk⟩
        clear hb hk
        go_wp2_with fail
        exact ⟨rfl,out_bad HB.out.1 HB.out.2⟩
      intro x3 S3 v3 w3 hv hk hf
      cases hv
      clear HF HR
      have HF := hidF <| hf
      clear hf
      have HR : Hid (_ = r) := hk
      clear hk
      clear hli
      go_wp2_with fail
      refine DoesI.go (HH.out) (HF.out) (trivial) HR.out HN.out ?_ ?_
      · intro a er wN hb hk
        have HB : Hid (r = .bad a er ∧ Kept (On F) w wN) := ⟨hb,hk⟩
        clear hb hk
        go_wp2_with fail
        exact ⟨rfl,out_bad HB.out.1 HB.out.2⟩
      intro x4 S4 v4 w4 hv hk hf
      obtain ⟨p4,c4,q4,d4,rfl,h1,h2⟩ := hv
      clear HF HR
      have HF := hidF <| (hf.tree h2).tree h1
      clear h1 h2
      clear hf
      have HR : Hid (_ = r) := hk
      clear hk
      have HF0 : Hid (FR w F A [(g,57,cur)] _ S4 w4) := HF.out
      have HP : Hid (RepL (fun g' => A g' ∧ ∀ x ∈ [(g,57,cur)],x.1 ≠ g') w4 ([.bool x4.star,.int .i64 x4.x.k,.int .i64 x4.x.op,.int .i64 x4.x.vk,.int .i64 x4.x.vn,.string ⟨x4.x.vs.toArray⟩,.string ⟨x4.x.tb.toArray⟩,.string ⟨x4.x.nm.toArray⟩,.int .i64 x4.x.col,.bool x4.x.dn,.int .i64 x4.x.a,.slice p4 x4.x.ar.n c4,.slice q4 x4.x.sb.n d4,.string ⟨x4.asn.toArray⟩] : List Value) x4.flat) := it_rep (HF.out.trep 0 rfl) (HF.out.trep 1 rfl)
      have HQ : Hid (RepL (fun g' => A g' ∧ ∀ x ∈ [(g,57,cur)],x.1 ≠ g') w4 (xs ++ ([.bool x4.star,.int .i64 x4.x.k,.int .i64 x4.x.op,.int .i64 x4.x.vk,.int .i64 x4.x.vn,.string ⟨x4.x.vs.toArray⟩,.string ⟨x4.x.tb.toArray⟩,.string ⟨x4.x.nm.toArray⟩,.int .i64 x4.x.col,.bool x4.x.dn,.int .i64 x4.x.a,.slice p4 x4.x.ar.n c4,.slice q4 x4.x.sb.n d4,.string ⟨x4.asn.toArray⟩] : List Value)) (l.l ++ x4.flat)) := (HF.out.unzip (fun y hy => List.mem_cons_of_mem _ (List.mem_cons_of_mem _ hy)) HO.out.2.1).append HP.out
      have HF : Hid (FR w F A [(g,57,cur)] ((xs ++ ([.bool x4.star,.int .i64 x4.x.k,.int .i64 x4.x.op,.int .i64 x4.x.vk,.int .i64 x4.x.vn,.string ⟨x4.x.vs.toArray⟩,.string ⟨x4.x.tb.toArray⟩,.string ⟨x4.x.nm.toArray⟩,.int .i64 x4.x.col,.bool x4.x.dn,.int .i64 x4.x.a,.slice p4 x4.x.ar.n c4,.slice q4 x4.x.sb.n d4,.string ⟨x4.asn.toArray⟩] : List Value)).zip (l.l ++ x4.flat)) S4 w4) := HF0.out.zip HQ.out
      clear HF0
      go_wp2_with (first | (refine wl_rowbox HF (el := 57) (bs50 _ _ _ _ _ _ _ _ _ _ _ _ _ _ ) ?_; clear HF; intro wN b5 hN; obtain ⟨g5,cap5,cur5,w5,hA,hF5,hO5,hK5⟩ := app57 (news := ([.bool x4.star,.int .i64 x4.x.k,.int .i64 x4.x.op,.int .i64 x4.x.vk,.int .i64 x4.x.vn,.string ⟨x4.x.vs.toArray⟩,.string ⟨x4.x.tb.toArray⟩,.string ⟨x4.x.nm.toArray⟩,.int .i64 x4.x.col,.bool x4.x.dn,.int .i64 x4.x.a,.slice p4 x4.x.ar.n c4,.slice q4 x4.x.sb.n d4,.string ⟨x4.asn.toArray⟩] : List Value)) hN HO.out.1 (by have := HO.out.2.2.1; have := HL.out; omega) rfl (repL_one HP.out); have HF : Hid (FR w F A [(g5,57,cur5)] ((xs ++ ([.bool x4.star,.int .i64 x4.x.k,.int .i64 x4.x.op,.int .i64 x4.x.vk,.int .i64 x4.x.vn,.string ⟨x4.x.vs.toArray⟩,.string ⟨x4.x.tb.toArray⟩,.string ⟨x4.x.nm.toArray⟩,.int .i64 x4.x.col,.bool x4.x.dn,.int .i64 x4.x.a,.slice p4 x4.x.ar.n c4,.slice q4 x4.x.sb.n d4,.string ⟨x4.asn.toArray⟩] : List Value)).zip (l.l ++ x4.flat)) S4 w5) := hF5; have HO5 : Hid (Own 14 g5 (l.n + 1) cap5 cur5 (xs ++ ([.bool x4.star,.int .i64 x4.x.k,.int .i64 x4.x.op,.int .i64 x4.x.vk,.int .i64 x4.x.vn,.string ⟨x4.x.vs.toArray⟩,.string ⟨x4.x.tb.toArray⟩,.string ⟨x4.x.nm.toArray⟩,.int .i64 x4.x.col,.bool x4.x.dn,.int .i64 x4.x.a,.slice p4 x4.x.ar.n c4,.slice q4 x4.x.sb.n d4,.string ⟨x4.asn.toArray⟩] : List Value))) := hO5; clear hN hF5 hO5 hK5) | (refine st_append rfl rfl hA ?_; clear hA))
      go_roundg gk
      case measure => omega
      case rel => exact ⟨g5,cap5,cur5,_,⟨l.n + 1,l.l ++ x4.flat⟩,S4,rfl,HF,⟨HO5.out,by rw [List.length_append,List.length_append,HO.out.2.1,HP.out.1],by show l.n + 1 ≤ 1 + f; have := HO.out.2.2.2.1; omega,by show l.n + 1 + gk = 1 + f; have := HO.out.2.2.2.1; omega,Nat.succ_pos _⟩,HR⟩
    · replace HR : Hid ((m.then fun x => listG It.flat 16 m commaM gk ⟨l.n + 1,l.l ++ It.flat x⟩) S2 = r) := by have h := HR.out; rw [if_neg h16] at h; exact h
      have hli : ¬ (l.n : Int) = 16 := by omega
      go_wp2_with fail
      refine DoesI.go (HH.out) (HF.out) (trivial) HR.out HN.out ?_ ?_
      · intro a er wN hb hk
        have HB : Hid (r = .bad a er ∧ Kept (On F) w wN) := ⟨hb,hk⟩
        clear hb hk
        go_wp2_with fail
        exact ⟨rfl,out_bad HB.out.1 HB.out.2⟩
      intro x4 S4 v4 w4 hv hk hf
      obtain ⟨p4,c4,q4,d4,rfl,h1,h2⟩ := hv
      clear HF HR
      have HF := hidF <| (hf.tree h2).tree h1
      clear h1 h2
      clear hf
      have HR : Hid (_ = r) := hk
      clear hk
      have HF0 : Hid (FR w F A [(g,57,cur)] _ S4 w4) := HF.out
      have HP : Hid (RepL (fun g' => A g' ∧ ∀ x ∈ [(g,57,cur)],x.1 ≠ g') w4 ([.bool x4.star,.int .i64 x4.x.k,.int .i64 x4.x.op,.int .i64 x4.x.vk,.int .i64 x4.x.vn,.string ⟨x4.x.vs.toArray⟩,.string ⟨x4.x.tb.toArray⟩,.string ⟨x4.x.nm.toArray⟩,.int .i64 x4.x.col,.bool x4.x.dn,.int .i64 x4.x.a,.slice p4 x4.x.ar.n c4,.slice q4 x4.x.sb.n d4,.string ⟨x4.asn.toArray⟩] : List Value) x4.flat) := it_rep (HF.out.trep 0 rfl) (HF.out.trep 1 rfl)
      have HQ : Hid (RepL (fun g' => A g' ∧ ∀ x ∈ [(g,57,cur)],x.1 ≠ g') w4 (xs ++ ([.bool x4.star,.int .i64 x4.x.k,.int .i64 x4.x.op,.int .i64 x4.x.vk,.int .i64 x4.x.vn,.string ⟨x4.x.vs.toArray⟩,.string ⟨x4.x.tb.toArray⟩,.string ⟨x4.x.nm.toArray⟩,.int .i64 x4.x.col,.bool x4.x.dn,.int .i64 x4.x.a,.slice p4 x4.x.ar.n c4,.slice q4 x4.x.sb.n d4,.string ⟨x4.asn.toArray⟩] : List Value)) (l.l ++ x4.flat)) := (HF.out.unzip (fun y hy => List.mem_cons_of_mem _ (List.mem_cons_of_mem _ hy)) HO.out.2.1).append HP.out
      have HF : Hid (FR w F A [(g,57,cur)] ((xs ++ ([.bool x4.star,.int .i64 x4.x.k,.int .i64 x4.x.op,.int .i64 x4.x.vk,.int .i64 x4.x.vn,.string ⟨x4.x.vs.toArray⟩,.string ⟨x4.x.tb.toArray⟩,.string ⟨x4.x.nm.toArray⟩,.int .i64 x4.x.col,.bool x4.x.dn,.int .i64 x4.x.a,.slice p4 x4.x.ar.n c4,.slice q4 x4.x.sb.n d4,.string ⟨x4.asn.toArray⟩] : List Value)).zip (l.l ++ x4.flat)) S4 w4) := HF0.out.zip HQ.out
      clear HF0
      go_wp2_with (first | (refine wl_rowbox HF (el := 57) (bs50 _ _ _ _ _ _ _ _ _ _ _ _ _ _ ) ?_; clear HF; intro wN b5 hN; obtain ⟨g5,cap5,cur5,w5,hA,hF5,hO5,hK5⟩ := app57 (news := ([.bool x4.star,.int .i64 x4.x.k,.int .i64 x4.x.op,.int .i64 x4.x.vk,.int .i64 x4.x.vn,.string ⟨x4.x.vs.toArray⟩,.string ⟨x4.x.tb.toArray⟩,.string ⟨x4.x.nm.toArray⟩,.int .i64 x4.x.col,.bool x4.x.dn,.int .i64 x4.x.a,.slice p4 x4.x.ar.n c4,.slice q4 x4.x.sb.n d4,.string ⟨x4.asn.toArray⟩] : List Value)) hN HO.out.1 (by have := HO.out.2.2.1; have := HL.out; omega) rfl (repL_one HP.out); have HF : Hid (FR w F A [(g5,57,cur5)] ((xs ++ ([.bool x4.star,.int .i64 x4.x.k,.int .i64 x4.x.op,.int .i64 x4.x.vk,.int .i64 x4.x.vn,.string ⟨x4.x.vs.toArray⟩,.string ⟨x4.x.tb.toArray⟩,.string ⟨x4.x.nm.toArray⟩,.int .i64 x4.x.col,.bool x4.x.dn,.int .i64 x4.x.a,.slice p4 x4.x.ar.n c4,.slice q4 x4.x.sb.n d4,.string ⟨x4.asn.toArray⟩] : List Value)).zip (l.l ++ x4.flat)) S4 w5) := hF5; have HO5 : Hid (Own 14 g5 (l.n + 1) cap5 cur5 (xs ++ ([.bool x4.star,.int .i64 x4.x.k,.int .i64 x4.x.op,.int .i64 x4.x.vk,.int .i64 x4.x.vn,.string ⟨x4.x.vs.toArray⟩,.string ⟨x4.x.tb.toArray⟩,.string ⟨x4.x.nm.toArray⟩,.int .i64 x4.x.col,.bool x4.x.dn,.int .i64 x4.x.a,.slice p4 x4.x.ar.n c4,.slice q4 x4.x.sb.n d4,.string ⟨x4.asn.toArray⟩] : List Value))) := hO5; clear hN hF5 hO5 hK5) | (refine st_append rfl rfl hA ?_; clear hA))
      go_roundg gk
      case measure => omega
      case rel => exact ⟨g5,cap5,cur5,_,⟨l.n + 1,l.l ++ x4.flat⟩,S4,rfl,HF,⟨HO5.out,by rw [List.length_append,List.length_append,HO.out.2.1,HP.out.1],by show l.n + 1 ≤ 1 + f; have := HO.out.2.2.2.1; omega,by show l.n + 1 + gk = 1 + f; have := HO.out.2.2.2.1; omega,Nat.succ_pos _⟩,HR⟩
theorem inf27 : (Tryz.prog.info? 27).map (fun i => (i.zero,i.size,i.bytes)) = some (some (.agg #[.int .i64 0,.int .i64 0,.int .i64 0,.int .i64 0,.string ⟨#[]⟩,.string ⟨#[]⟩,.string ⟨#[]⟩,.int .i64 0,.bool false,.int .i64 0,.slice none 0 0,.slice none 0 0]),12,152) := by kernel_rfl
theorem app27 {w0 : World} {F : Nat} {A : Nat → Prop} {bs : List (Nat × TypeId × Array Value)} {ts : List (Value × DT)} {S : PS} {w : World} {g k cap b : Nat} {cur : Array Value} {xs news : List Value} (h : FR w0 F A ((b,27,news.toArray) :: (g,27,cur) :: bs) ts S w) (o : Own 12 g k cap cur xs) (hk : k ≤ 200000) (hn : news.length = 12) (h1 : ∀ u ∈ news,u.oneCell' = true) :
 ∃ g' cap' cur' w',(Builtin.append_ #[24,24] 24 #[.slice (some ⟨g,0,none⟩) k cap,.slice (some ⟨b,0,none⟩) 1 1]).run Tryz.prog w = .ok (.slice (some ⟨g',0,none⟩) (k + 1) cap') w' ∧ FR w0 F A ((g',27,cur') :: bs) ts S w' ∧ Own 12 g' (k + 1) cap' cur' (xs ++ news) ∧ Kept (On g) w w' := by
 obtain ⟨i,hi,hz,h2,h3⟩ := info_of inf27
 refine FR.append h.tl o i _ Tryz.underlying24 hi hz h2 h3 rfl b 1 1 0 news (by rw [hn]) (fun j u q => ?_) h1 (by omega) (by unfold maxLen; omega) (by omega)
 rw [Nat.zero_add,h.cell 0 rfl j]
 simpa using q
set_option maxHeartbeats 4000000 in
theorem list125_does (m : PM X) (f : Nat) (hf0 : f ≤ 100000) (H : Does XR 19 (fun F => #[ptr F]) m) : Does (SN 12) 125 (fun F => #[ptr F,.int .i64 16,.func (.func 19) #[ptr F] #[],.func (.func 64) #[ptr F] #[]]) (listM X.flat 16 m commaM f) := by
 intro w F A S hp hA hF hpre hn
 have HF : Hid (FR w F A [] [] S w) := FR.init [] hp hA hF (fun y h => (by cases h))
 obtain ⟨r,hr⟩ : ∃ r,(listM X.flat 16 m commaM f) S = r := ⟨_,rfl⟩
 have HR : Hid ((listM X.flat 16 m commaM f) S = r) := hr
 rw [hr] at hn ⊢
 have HN : Hid (r ≠ .out) := hn
 unfold listM at HR
 clear hp hA hF hr hn
 have HH : Hid (Does XR 19 (fun F => #[ptr F]) m) := H
 have HL : Hid (f ≤ 100000) := hf0
 clear H hf0
 go_enter Tryz.func125,Tryz.ntmps125
 go_wp2_with fail
 refine DoesI.go (HH.out) (HF.out) (trivial) HR.out HN.out ?_ ?_
 · intro a er wN hb hk
   have HB : Hid (r = .bad a er ∧ Kept (On F) w wN) := ⟨hb,hk⟩
   clear hb hk
   go_wp2_with fail
   exact ⟨rfl,out_bad HB.out.1 HB.out.2⟩
 intro x1 S1 v1 w1 hv hk hf
 obtain ⟨p1,c1,q1,d1,rfl,h1,h2⟩ := hv
 clear HF HR
 have HF := hidF <| (hf.tree h2).tree h1
 clear h1 h2
 clear hf
 have HR : Hid (_ = r) := hk
 clear hk
 have HF0 : Hid (FR w F A [] _ S1 w1) := HF.out
 have HP : Hid (RepL (fun g => A g ∧ ∀ x ∈ ([] : List (Nat × TypeId × Array Value)),x.1 ≠ g) w1 ([.int .i64 x1.k,.int .i64 x1.op,.int .i64 x1.vk,.int .i64 x1.vn,.string ⟨x1.vs.toArray⟩,.string ⟨x1.tb.toArray⟩,.string ⟨x1.nm.toArray⟩,.int .i64 x1.col,.bool x1.dn,.int .i64 x1.a,.slice p1 x1.ar.n c1,.slice q1 x1.sb.n d1] : List Value) x1.flat) := xc_rep (HF.out.trep 0 rfl) (HF.out.trep 1 rfl)
 have HF : Hid (FR w F A [] (([.int .i64 x1.k,.int .i64 x1.op,.int .i64 x1.vk,.int .i64 x1.vn,.string ⟨x1.vs.toArray⟩,.string ⟨x1.tb.toArray⟩,.string ⟨x1.nm.toArray⟩,.int .i64 x1.col,.bool x1.dn,.int .i64 x1.a,.slice p1 x1.ar.n c1,.slice q1 x1.sb.n d1] : List Value).zip x1.flat) S1 w1) := HF0.out.zip HP.out
 clear HF0 HP
 go_wp2_with (first | (refine wl_rowbox HF (el := 27) (bs24 _ _ _ _ _ _ _ _ _ _ _ _ ) ?_; clear HF; intro wN g0 hN; have HF : Hid (FR w F A [(g0,27,#[.int .i64 x1.k,.int .i64 x1.op,.int .i64 x1.vk,.int .i64 x1.vn,.string ⟨x1.vs.toArray⟩,.string ⟨x1.tb.toArray⟩,.string ⟨x1.nm.toArray⟩,.int .i64 x1.col,.bool x1.dn,.int .i64 x1.a,.slice p1 x1.ar.n c1,.slice q1 x1.sb.n d1])] (([.int .i64 x1.k,.int .i64 x1.op,.int .i64 x1.vk,.int .i64 x1.vn,.string ⟨x1.vs.toArray⟩,.string ⟨x1.tb.toArray⟩,.string ⟨x1.nm.toArray⟩,.int .i64 x1.col,.bool x1.dn,.int .i64 x1.a,.slice p1 x1.ar.n c1,.slice q1 x1.sb.n d1] : List Value).zip x1.flat) S1 wN) := hN; clear hN))
 have HO : Hid (Own 12 g0 1 1 #[.int .i64 x1.k,.int .i64 x1.op,.int .i64 x1.vk,.int .i64 x1.vn,.string ⟨x1.vs.toArray⟩,.string ⟨x1.tb.toArray⟩,.string ⟨x1.nm.toArray⟩,.int .i64 x1.col,.bool x1.dn,.int .i64 x1.a,.slice p1 x1.ar.n c1,.slice q1 x1.sb.n d1] ([.int .i64 x1.k,.int .i64 x1.op,.int .i64 x1.vk,.int .i64 x1.vn,.string ⟨x1.vs.toArray⟩,.string ⟨x1.tb.toArray⟩,.string ⟨x1.nm.toArray⟩,.int .i64 x1.col,.bool x1.dn,.int .i64 x1.a,.slice p1 x1.ar.n c1,.slice q1 x1.sb.n d1] : List Value)) := Own.one rfl
 go_loopg [9] f (fun (gk : Nat) (v9 : Value) (wr : World) => ∃ (g cap : Nat) (cur : Array Value) (xs : List Value) (l : Sl) (Sr : PS),v9 = .slice (some ⟨g,0,none⟩) l.n cap ∧ Hid (FR w F A [(g,27,cur)] (xs.zip l.l) Sr wr) ∧ Hid (Own 12 g l.n cap cur xs ∧ xs.length = l.l.length ∧ l.n ≤ 1 + f ∧ l.n + gk = 1 + f ∧ 0 < l.n) ∧ Hid (listG X.flat 16 m commaM gk l Sr = r))
 case atStart => exact ⟨g0,1,_,_,⟨1,x1.flat⟩,S1,rfl,HF,⟨HO.out,rfl,Nat.le_add_right _ _,rfl,Nat.one_pos⟩,HR⟩
 case round =>
  obtain ⟨g,cap,cur,xs,l,Sr,rfl,HF,HO,HR⟩ := hrel
  obtain ⟨gk,rfl⟩ : ∃ k,gk = k + 1 := by
   cases gk with
   | zero => exact absurd HR.out.symm HN.out
   | succ k => exact ⟨k,rfl⟩
  replace HR : Hid ((commaM.then fun b => if b then ((if l.n = 16 then barM 2 else PM.ret ()).then fun _ => m.then fun x => listG X.flat 16 m commaM gk ⟨l.n + 1,l.l ++ X.flat x⟩) else PM.ret l) Sr = r) := HR.out
  go_wp2_with fail
  refine DoesI.go (comma_does) (HF.out) (trivial) HR.out HN.out ?_ ?_
  · intro a er wN hb hk
    have HB : Hid (r = .bad a er ∧ Kept (On F) w wN) := ⟨hb,hk⟩
    clear hb hk
    go_wp2_with fail
    exact ⟨rfl,out_bad HB.out.1 HB.out.2⟩
  intro x2 S2 v2 w2 hv hk hf
  cases hv
  clear HF HR
  have HF := hidF <| hf
  clear hf
  have HR : Hid (_ = r) := hk
  clear hk
  cases x2 with
  | false =>
    replace HR : Hid ((PM.ret l S2) = r) := HR.out
    go_wp2_with fail
    go_ret
    have HS2 : Hid (FR w F A [] _ S2 w2) := HF.out.shut HO.out.1 (HF.out.unzip (fun y hy => hy) HO.out.2.1)
    exact out_ok HR.out.symm HS2.out ⟨⟨_,_,rfl,HS2.out.rep 0 rfl⟩,by rw [← HO.out.2.1,HO.out.1.ln],HO.out.2.2.2.2,by have := HO.out.2.2.1; have := HL.out; omega⟩
  | true =>
    replace HR : Hid ((((if l.n = 16 then barM 2 else PM.ret ()).then fun _ => m.then fun x => listG X.flat 16 m commaM gk ⟨l.n + 1,l.l ++ X.flat x⟩) S2) = r) := HR.out
    by_cases h16 : l.n = 16
    · replace HR : Hid (((barM 2).then fun _ => m.then fun x => listG X.flat 16 m commaM gk ⟨l.n + 1,l.l ++ X.flat x⟩) S2 = r) := by have h := HR.out; rw [if_pos h16] at h; exact h
      have hli : (l.n : Int) = 16 := by omega
      clear h16
      go_wp2_with fail
      refine DoesI.go (bar_does 2) (HF.out) (trivial) HR.out HN.out ?_ ?_
      · intro a er wN hb hk
        have HB : Hid (r = .bad a er ∧ Kept (On F) w wN) := ⟨hb,hk⟩
        clear hb hk
        go_wp2_with fail
        exact ⟨rfl,out_bad HB.out.1 HB.out.2⟩
      intro x3 S3 v3 w3 hv hk hf
      cases hv
      clear HF HR
      have HF := hidF <| hf
      clear hf
      have HR : Hid (_ = r) := hk
      clear hk
      clear hli
      go_wp2_with fail
      refine DoesI.go (HH.out) (HF.out) (trivial) HR.out HN.out ?_ ?_
      · intro a er wN hb hk
        have HB : Hid (r = .bad a er ∧ Kept (On F) w wN) := ⟨hb,hk⟩
        clear hb hk
        go_wp2_with fail
        exact ⟨rfl,out_bad HB.out.1 HB.out.2⟩
      intro x4 S4 v4 w4 hv hk hf
      obtain ⟨p4,c4,q4,d4,rfl,h1,h2⟩ := hv
      clear HF HR
      have HF := hidF <| (hf.tree h2).tree h1
      clear h1 h2
      clear hf
      have HR : Hid (_ = r) := hk
      clear hk
      have HF0 : Hid (FR w F A [(g,27,cur)] _ S4 w4) := HF.out
      have HP : Hid (RepL (fun g' => A g' ∧ ∀ x ∈ [(g,27,cur)],x.1 ≠ g') w4 ([.int .i64 x4.k,.int .i64 x4.op,.int .i64 x4.vk,.int .i64 x4.vn,.string ⟨x4.vs.toArray⟩,.string ⟨x4.tb.toArray⟩,.string ⟨x4.nm.toArray⟩,.int .i64 x4.col,.bool x4.dn,.int .i64 x4.a,.slice p4 x4.ar.n c4,.slice q4 x4.sb.n d4] : List Value) x4.flat) := xc_rep (HF.out.trep 0 rfl) (HF.out.trep 1 rfl)
      have HQ : Hid (RepL (fun g' => A g' ∧ ∀ x ∈ [(g,27,cur)],x.1 ≠ g') w4 (xs ++ ([.int .i64 x4.k,.int .i64 x4.op,.int .i64 x4.vk,.int .i64 x4.vn,.string ⟨x4.vs.toArray⟩,.string ⟨x4.tb.toArray⟩,.string ⟨x4.nm.toArray⟩,.int .i64 x4.col,.bool x4.dn,.int .i64 x4.a,.slice p4 x4.ar.n c4,.slice q4 x4.sb.n d4] : List Value)) (l.l ++ x4.flat)) := (HF.out.unzip (fun y hy => List.mem_cons_of_mem _ (List.mem_cons_of_mem _ hy)) HO.out.2.1).append HP.out
      have HF : Hid (FR w F A [(g,27,cur)] ((xs ++ ([.int .i64 x4.k,.int .i64 x4.op,.int .i64 x4.vk,.int .i64 x4.vn,.string ⟨x4.vs.toArray⟩,.string ⟨x4.tb.toArray⟩,.string ⟨x4.nm.toArray⟩,.int .i64 x4.col,.bool x4.dn,.int .i64 x4.a,.slice p4 x4.ar.n c4,.slice q4 x4.sb.n d4] : List Value)).zip (l.l ++ x4.flat)) S4 w4) := HF0.out.zip HQ.out
      clear HF0
      go_wp2_with (first | (refine wl_rowbox HF (el := 27) (bs24 _ _ _ _ _ _ _ _ _ _ _ _ ) ?_; clear HF; intro wN b5 hN; obtain ⟨g5,cap5,cur5,w5,hA,hF5,hO5,hK5⟩ := app27 (news := ([.int .i64 x4.k,.int .i64 x4.op,.int .i64 x4.vk,.int .i64 x4.vn,.string ⟨x4.vs.toArray⟩,.string ⟨x4.tb.toArray⟩,.string ⟨x4.nm.toArray⟩,.int .i64 x4.col,.bool x4.dn,.int .i64 x4.a,.slice p4 x4.ar.n c4,.slice q4 x4.sb.n d4] : List Value)) hN HO.out.1 (by have := HO.out.2.2.1; have := HL.out; omega) rfl (repL_one HP.out); have HF : Hid (FR w F A [(g5,27,cur5)] ((xs ++ ([.int .i64 x4.k,.int .i64 x4.op,.int .i64 x4.vk,.int .i64 x4.vn,.string ⟨x4.vs.toArray⟩,.string ⟨x4.tb.toArray⟩,.string ⟨x4.nm.toArray⟩,.int .i64 x4.col,.bool x4.dn,.int .i64 x4.a,.slice p4 x4.ar.n c4,.slice q4 x4.sb.n d4] : List Value)).zip (l.l ++ x4.flat)) S4 w5) := hF5; have HO5 : Hid (Own 12 g5 (l.n + 1) cap5 cur5 (xs ++ ([.int .i64 x4.k,.int .i64 x4.op,.int .i64 x4.vk,.int .i64 x4.vn,.string ⟨x4.vs.toArray⟩,.string ⟨x4.tb.toArray⟩,.string ⟨x4.nm.toArray⟩,.int .i64 x4.col,.bool x4.dn,.int .i64 x4.a,.slice p4 x4.ar.n c4,.slice q4 x4.sb.n d4] : List Value))) := hO5; clear hN hF5 hO5 hK5) | (refine st_append rfl rfl hA ?_; clear hA))
      go_roundg gk
      case measure => omega
      case rel => exact ⟨g5,cap5,cur5,_,⟨l.n + 1,l.l ++ x4.flat⟩,S4,rfl,HF,⟨HO5.out,by rw [List.length_append,List.length_append,HO.out.2.1,HP.out.1],by show l.n + 1 ≤ 1 + f; have := HO.out.2.2.2.1; omega,by show l.n + 1 + gk = 1 + f; have := HO.out.2.2.2.1; omega,Nat.succ_pos _⟩,HR⟩
    · replace HR : Hid ((m.then fun x => listG X.flat 16 m commaM gk ⟨l.n + 1,l.l ++ X.flat x⟩) S2 = r) := by have h := HR.out; rw [if_neg h16] at h; exact h
      have hli : ¬ (l.n : Int) = 16 := by omega
      go_wp2_with fail
      refine DoesI.go (HH.out) (HF.out) (trivial) HR.out HN.out ?_ ?_
      · intro a er wN hb hk
        have HB : Hid (r = .bad a er ∧ Kept (On F) w wN) := ⟨hb,hk⟩
        clear hb hk
        go_wp2_with fail
        exact ⟨rfl,out_bad HB.out.1 HB.out.2⟩
      intro x4 S4 v4 w4 hv hk hf
      obtain ⟨p4,c4,q4,d4,rfl,h1,h2⟩ := hv
      clear HF HR
      have HF := hidF <| (hf.tree h2).tree h1
      clear h1 h2
      clear hf
      have HR : Hid (_ = r) := hk
      clear hk
      have HF0 : Hid (FR w F A [(g,27,cur)] _ S4 w4) := HF.out
      have HP : Hid (RepL (fun g' => A g' ∧ ∀ x ∈ [(g,27,cur)],x.1 ≠ g') w4 ([.int .i64 x4.k,.int .i64 x4.op,.int .i64 x4.vk,.int .i64 x4.vn,.string ⟨x4.vs.toArray⟩,.string ⟨x4.tb.toArray⟩,.string ⟨x4.nm.toArray⟩,.int .i64 x4.col,.bool x4.dn,.int .i64 x4.a,.slice p4 x4.ar.n c4,.slice q4 x4.sb.n d4] : List Value) x4.flat) := xc_rep (HF.out.trep 0 rfl) (HF.out.trep 1 rfl)
      have HQ : Hid (RepL (fun g' => A g' ∧ ∀ x ∈ [(g,27,cur)],x.1 ≠ g') w4 (xs ++ ([.int .i64 x4.k,.int .i64 x4.op,.int .i64 x4.vk,.int .i64 x4.vn,.string ⟨x4.vs.toArray⟩,.string ⟨x4.tb.toArray⟩,.string ⟨x4.nm.toArray⟩,.int .i64 x4.col,.bool x4.dn,.int .i64 x4.a,.slice p4 x4.ar.n c4,.slice q4 x4.sb.n d4] : List Value)) (l.l ++ x4.flat)) := (HF.out.unzip (fun y hy => List.mem_cons_of_mem _ (List.mem_cons_of_mem _ hy)) HO.out.2.1).append HP.out
      have HF : Hid (FR w F A [(g,27,cur)] ((xs ++ ([.int .i64 x4.k,.int .i64 x4.op,.int .i64 x4.vk,.int .i64 x4.vn,.string ⟨x4.vs.toArray⟩,.string ⟨x4.tb.toArray⟩,.string ⟨x4.nm.toArray⟩,.int .i64 x4.col,.bool x4.dn,.int .i64 x4.a,.slice p4 x4.ar.n c4,.slice q4 x4.sb.n d4] : List Value)).zip (l.l ++ x4.flat)) S4 w4) := HF0.out.zip HQ.out
      clear HF0
      go_wp2_with (first | (refine wl_rowbox HF (el := 27) (bs24 _ _ _ _ _ _ _ _ _ _ _ _ ) ?_; clear HF; intro wN b5 hN; obtain ⟨g5,cap5,cur5,w5,hA,hF5,hO5,hK5⟩ := app27 (news := ([.int .i64 x4.k,.int .i64 x4.op,.int .i64 x4.vk,.int .i64 x4.vn,.string ⟨x4.vs.toArray⟩,.string ⟨x4.tb.toArray⟩,.string ⟨x4.nm.toArray⟩,.int .i64 x4.col,.bool x4.dn,.int .i64 x4.a,.slice p4 x4.ar.n c4,.slice q4 x4.sb.n d4] : List Value)) hN HO.out.1 (by have := HO.out.2.2.1; have := HL.out; omega) rfl (repL_one HP.out); have HF : Hid (FR w F A [(g5,27,cur5)] ((xs ++ ([.int .i64 x4.k,.int .i64 x4.op,.int .i64 x4.vk,.int .i64 x4.vn,.string ⟨x4.vs.toArray⟩,.string ⟨x4.tb.toArray⟩,.string ⟨x4.nm.toArray⟩,.int .i64 x4.col,.bool x4.dn,.int .i64 x4.a,.slice p4 x4.ar.n c4,.slice q4 x4.sb.n d4] : List Value)).zip (l.l ++ x4.flat)) S4 w5) := hF5; have HO5 : Hid (Own 12 g5 (l.n + 1) cap5 cur5 (xs ++ ([.int .i64 x4.k,.int .i64 x4.op,.int .i64 x4.vk,.int .i64 x4.vn,.string ⟨x4.vs.toArray⟩,.string ⟨x4.tb.toArray⟩,.string ⟨x4.nm.toArray⟩,.int .i64 x4.col,.bool x4.dn,.int .i64 x4.a,.slice p4 x4.ar.n c4,.slice q4 x4.sb.n d4] : List Value))) := hO5; clear hN hF5 hO5 hK5) | (refine st_append rfl rfl hA ?_; clear hA))
      go_roundg gk
      case measure => omega
      case rel => exact ⟨g5,cap5,cur5,_,⟨l.n + 1,l.l ++ x4.flat⟩,S4,rfl,HF,⟨HO5.out,by rw [List.length_append,List.length_append,HO.out.2.1,HP.out.1],by show l.n + 1 ≤ 1 + f; have := HO.out.2.2.2.1; omega,by show l.n + 1 + gk = 1 + f; have := HO.out.2.2.2.1; omega,Nat.succ_pos _⟩,HR⟩
def KeR (A : Nat → Prop) (w : World) (v : Value) (x : Ke) : Prop := v = .agg #[.int .i64 x.pl,.string ⟨x.nm.toArray⟩,.bool x.dn,.int .i64 x.a]
theorem ke_rep {A : Nat → Prop} {w : World} {x : Ke} : RepL A w [.int .i64 x.pl,.string ⟨x.nm.toArray⟩,.bool x.dn,.int .i64 x.a] x.flat := .cons (.i _) (.cons (.s _) (.cons (.b _) (.cons (.p _) .nil)))
theorem inf59 : (Tryz.prog.info? 59).map (fun i => (i.zero,i.size,i.bytes)) = some (some (.agg #[.int .i64 0,.string ⟨#[]⟩,.bool false,.int .i64 0]),4,40) := by kernel_rfl
theorem app59 {w0 : World} {F : Nat} {A : Nat → Prop} {bs : List (Nat × TypeId × Array Value)} {ts : List (Value × DT)} {S : PS} {w : World} {g k cap b : Nat} {cur : Array Value} {xs news : List Value} (h : FR w0 F A ((b,59,news.toArray) :: (g,59,cur) :: bs) ts S w) (o : Own 4 g k cap cur xs) (hk : k ≤ 200000) (hn : news.length = 4) (h1 : ∀ u ∈ news,u.oneCell' = true) :
 ∃ g' cap' cur' w',(Builtin.append_ #[42,42] 42 #[.slice (some ⟨g,0,none⟩) k cap,.slice (some ⟨b,0,none⟩) 1 1]).run Tryz.prog w = .ok (.slice (some ⟨g',0,none⟩) (k + 1) cap') w' ∧ FR w0 F A ((g',59,cur') :: bs) ts S w' ∧ Own 4 g' (k + 1) cap' cur' (xs ++ news) ∧ Kept (On g) w w' := by
 obtain ⟨i,hi,hz,h2,h3⟩ := info_of inf59
 refine FR.append h.tl o i _ Tryz.underlying42 hi hz h2 h3 rfl b 1 1 0 news (by rw [hn]) (fun j u q => ?_) h1 (by omega) (by unfold maxLen; omega) (by omega)
 rw [Nat.zero_add,h.cell 0 rfl j]
 simpa using q
set_option maxHeartbeats 4000000 in
theorem list62_does (m : PM Ke) (f : Nat) (hf0 : f ≤ 100000) (H : Does KeR 63 (fun F => #[ptr F]) m) : Does (SN 4) 62 (fun F => #[ptr F,.int .i64 16,.func (.func 63) #[ptr F] #[],.func (.func 64) #[ptr F] #[]]) (listM Ke.flat 16 m commaM f) := by
 intro w F A S hp hA hF hpre hn
 have HF : Hid (FR w F A [] [] S w) := FR.init [] hp hA hF (fun y h => (by cases h))
 obtain ⟨r,hr⟩ : ∃ r,(listM Ke.flat 16 m commaM f) S = r := ⟨_,rfl⟩
 have HR : Hid ((listM Ke.flat 16 m commaM f) S = r) := hr
 rw [hr] at hn ⊢
 have HN : Hid (r ≠ .out) := hn
 unfold listM at HR
 clear hp hA hF hr hn
 have HH : Hid (Does KeR 63 (fun F => #[ptr F]) m) := H
 have HL : Hid (f ≤ 100000) := hf0
 clear H hf0
 go_enter Tryz.func62,Tryz.ntmps62
 go_wp2_with fail
 refine DoesI.go (HH.out) (HF.out) (trivial) HR.out HN.out ?_ ?_
 · intro a er wN hb hk
   have HB : Hid (r = .bad a er ∧ Kept (On F) w wN) := ⟨hb,hk⟩
   clear hb hk
   go_wp2_with fail
   exact ⟨rfl,out_bad HB.out.1 HB.out.2⟩
 intro x1 S1 v1 w1 hv hk hf
 cases hv
 clear HF HR
 have HF := hidF <| hf
 clear hf
 have HR : Hid (_ = r) := hk
 clear hk
 have HF0 : Hid (FR w F A [] _ S1 w1) := HF.out
 have HP : Hid (RepL (fun g => A g ∧ ∀ x ∈ ([] : List (Nat × TypeId × Array Value)),x.1 ≠ g) w1 ([.int .i64 x1.pl,.string ⟨x1.nm.toArray⟩,.bool x1.dn,.int .i64 x1.a] : List Value) x1.flat) := ke_rep
 have HF : Hid (FR w F A [] (([.int .i64 x1.pl,.string ⟨x1.nm.toArray⟩,.bool x1.dn,.int .i64 x1.a] : List Value).zip x1.flat) S1 w1) := HF0.out.zip HP.out
 clear HF0 HP
 go_wp2_with (first | (refine wl_rowbox HF (el := 59) (bs42 _ _ _ _ ) ?_; clear HF; intro wN g0 hN; have HF : Hid (FR w F A [(g0,59,#[.int .i64 x1.pl,.string ⟨x1.nm.toArray⟩,.bool x1.dn,.int .i64 x1.a])] (([.int .i64 x1.pl,.string ⟨x1.nm.toArray⟩,.bool x1.dn,.int .i64 x1.a] : List Value).zip x1.flat) S1 wN) := hN; clear hN))
 have HO : Hid (Own 4 g0 1 1 #[.int .i64 x1.pl,.string ⟨x1.nm.toArray⟩,.bool x1.dn,.int .i64 x1.a] ([.int .i64 x1.pl,.string ⟨x1.nm.toArray⟩,.bool x1.dn,.int .i64 x1.a] : List Value)) := Own.one rfl
 go_loopg [9] f (fun (gk : Nat) (v9 : Value) (wr : World) => ∃ (g cap : Nat) (cur : Array Value) (xs : List Value) (l : Sl) (Sr : PS),v9 = .slice (some ⟨g,0,none⟩) l.n cap ∧ Hid (FR w F A [(g,59,cur)] (xs.zip l.l) Sr wr) ∧ Hid (Own 4 g l.n cap cur xs ∧ xs.length = l.l.length ∧ l.n ≤ 1 + f ∧ l.n + gk = 1 + f ∧ 0 < l.n) ∧ Hid (listG Ke.flat 16 m commaM gk l Sr = r))
 case atStart => exact ⟨g0,1,_,_,⟨1,x1.flat⟩,S1,rfl,HF,⟨HO.out,rfl,Nat.le_add_right _ _,rfl,Nat.one_pos⟩,HR⟩
 case round =>
  obtain ⟨g,cap,cur,xs,l,Sr,rfl,HF,HO,HR⟩ := hrel
  obtain ⟨gk,rfl⟩ : ∃ k,gk = k + 1 := by
   cases gk with
   | zero => exact absurd HR.out.symm HN.out
   | succ k => exact ⟨k,rfl⟩
  replace HR : Hid ((commaM.then fun b => if b then ((if l.n = 16 then barM 2 else PM.ret ()).then fun _ => m.then fun x => listG Ke.flat 16 m commaM gk ⟨l.n + 1,l.l ++ Ke.flat x⟩) else PM.ret l) Sr = r) := HR.out
  go_wp2_with fail
  refine DoesI.go (comma_does) (HF.out) (trivial) HR.out HN.out ?_ ?_
  · intro a er wN hb hk
    have HB : Hid (r = .bad a er ∧ Kept (On F) w wN) := ⟨hb,hk⟩
    clear hb hk
    go_wp2_with fail
    exact ⟨rfl,out_bad HB.out.1 HB.out.2⟩
  intro x2 S2 v2 w2 hv hk hf
  cases hv
  clear HF HR
  have HF := hidF <| hf
  clear hf
  have HR : Hid (_ = r) := hk
  clear hk
  cases x2 with
  | false =>
    replace HR : Hid ((PM.ret l S2) = r) := HR.out
    go_wp2_with fail
    go_ret
    have HS2 : Hid (FR w F A [] _ S2 w2) := HF.out.shut HO.out.1 (HF.out.unzip (fun y hy => hy) HO.out.2.1)
    exact out_ok HR.out.symm HS2.out ⟨⟨_,_,rfl,HS2.out.rep 0 rfl⟩,by rw [← HO.out.2.1,HO.out.1.ln],HO.out.2.2.2.2,by have := HO.out.2.2.1; have := HL.out; omega⟩
  | true =>
    replace HR : Hid ((((if l.n = 16 then barM 2 else PM.ret ()).then fun _ => m.then fun x => listG Ke.flat 16 m commaM gk ⟨l.n + 1,l.l ++ Ke.flat x⟩) S2) = r) := HR.out
    by_cases h16 : l.n = 16
    · replace HR : Hid (((barM 2).then fun _ => m.then fun x => listG Ke.flat 16 m commaM gk ⟨l.n + 1,l.l ++ Ke.flat x⟩) S2 = r) := by have h := HR.out; rw [if_pos h16] at h; exact h
      have hli : (l.n : Int) = 16 := by omega
      clear h16
      go_wp2_with fail
      refine DoesI.go (bar_does 2) (HF.out) (trivial) HR.out HN.out ?_ ?_
      · intro a er wN hb hk
        have HB : Hid (r = .bad a er ∧ Kept (On F) w wN) := ⟨hb,hk⟩
        clear hb hk
        go_wp2_with fail
        exact ⟨rfl,out_bad HB.out.1 HB.out.2⟩
      intro x3 S3 v3 w3 hv hk hf
      cases hv
      clear HF HR
      have HF := hidF <| hf
      clear hf
      have HR : Hid (_ = r) := hk
      clear hk
      clear hli
      go_wp2_with fail
      refine DoesI.go (HH.out) (HF.out) (trivial) HR.out HN.out ?_ ?_
      · intro a er wN hb hk
        have HB : Hid (r = .bad a er ∧ Kept (On F) w wN) := ⟨hb,hk⟩
        clear hb hk
        go_wp2_with fail
        exact ⟨rfl,out_bad HB.out.1 HB.out.2⟩
      intro x4 S4 v4 w4 hv hk hf
      cases hv
      clear HF HR
      have HF := hidF <| hf
      clear hf
      have HR : Hid (_ = r) := hk
      clear hk
      have HF0 : Hid (FR w F A [(g,59,cur)] _ S4 w4) := HF.out
      have HP : Hid (RepL (fun g' => A g' ∧ ∀ x ∈ [(g,59,cur)],x.1 ≠ g') w4 ([.int .i64 x4.pl,.string ⟨x4.nm.toArray⟩,.bool x4.dn,.int .i64 x4.a] : List Value) x4.flat) := ke_rep
      have HQ : Hid (RepL (fun g' => A g' ∧ ∀ x ∈ [(g,59,cur)],x.1 ≠ g') w4 (xs ++ ([.int .i64 x4.pl,.string ⟨x4.nm.toArray⟩,.bool x4.dn,.int .i64 x4.a] : List Value)) (l.l ++ x4.flat)) := (HF.out.unzip (fun y hy => hy) HO.out.2.1).append HP.out
      have HF : Hid (FR w F A [(g,59,cur)] ((xs ++ ([.int .i64 x4.pl,.string ⟨x4.nm.toArray⟩,.bool x4.dn,.int .i64 x4.a] : List Value)).zip (l.l ++ x4.flat)) S4 w4) := HF0.out.zip HQ.out
      clear HF0
      go_wp2_with (first | (refine wl_rowbox HF (el := 59) (bs42 _ _ _ _ ) ?_; clear HF; intro wN b5 hN; obtain ⟨g5,cap5,cur5,w5,hA,hF5,hO5,hK5⟩ := app59 (news := ([.int .i64 x4.pl,.string ⟨x4.nm.toArray⟩,.bool x4.dn,.int .i64 x4.a] : List Value)) hN HO.out.1 (by have := HO.out.2.2.1; have := HL.out; omega) rfl (repL_one HP.out); have HF : Hid (FR w F A [(g5,59,cur5)] ((xs ++ ([.int .i64 x4.pl,.string ⟨x4.nm.toArray⟩,.bool x4.dn,.int .i64 x4.a] : List Value)).zip (l.l ++ x4.flat)) S4 w5) := hF5; have HO5 : Hid (Own 4 g5 (l.n + 1) cap5 cur5 (xs ++ ([.int .i64 x4.pl,.string ⟨x4.nm.toArray⟩,.bool x4.dn,.int .i64 x4.a] : List Value))) := hO5; clear hN hF5 hO5 hK5) | (refine st_append rfl rfl hA ?_; clear hA))
      go_roundg gk
      case measure => omega
      case rel => exact ⟨g5,cap5,cur5,_,⟨l.n + 1,l.l ++ x4.flat⟩,S4,rfl,HF,⟨HO5.out,by rw [List.length_append,List.length_append,HO.out.2.1,HP.out.1],by show l.n + 1 ≤ 1 + f; have := HO.out.2.2.2.1; omega,by show l.n + 1 + gk = 1 + f; have := HO.out.2.2.2.1; omega,Nat.succ_pos _⟩,HR⟩
    · replace HR : Hid ((m.then fun x => listG Ke.flat 16 m commaM gk ⟨l.n + 1,l.l ++ Ke.flat x⟩) S2 = r) := by have h := HR.out; rw [if_neg h16] at h; exact h
      have hli : ¬ (l.n : Int) = 16 := by omega
      go_wp2_with fail
      refine DoesI.go (HH.out) (HF.out) (trivial) HR.out HN.out ?_ ?_
      · intro a er wN hb hk
        have HB : Hid (r = .bad a er ∧ Kept (On F) w wN) := ⟨hb,hk⟩
        clear hb hk
        go_wp2_with fail
        exact ⟨rfl,out_bad HB.out.1 HB.out.2⟩
      intro x4 S4 v4 w4 hv hk hf
      cases hv
      clear HF HR
      have HF := hidF <| hf
      clear hf
      have HR : Hid (_ = r) := hk
      clear hk
      have HF0 : Hid (FR w F A [(g,59,cur)] _ S4 w4) := HF.out
      have HP : Hid (RepL (fun g' => A g' ∧ ∀ x ∈ [(g,59,cur)],x.1 ≠ g') w4 ([.int .i64 x4.pl,.string ⟨x4.nm.toArray⟩,.bool x4.dn,.int .i64 x4.a] : List Value) x4.flat) := ke_rep
      have HQ : Hid (RepL (fun g' => A g' ∧ ∀ x ∈ [(g,59,cur)],x.1 ≠ g') w4 (xs ++ ([.int .i64 x4.pl,.string ⟨x4.nm.toArray⟩,.bool x4.dn,.int .i64 x4.a] : List Value)) (l.l ++ x4.flat)) := (HF.out.unzip (fun y hy => hy) HO.out.2.1).append HP.out
      have HF : Hid (FR w F A [(g,59,cur)] ((xs ++ ([.int .i64 x4.pl,.string ⟨x4.nm.toArray⟩,.bool x4.dn,.int .i64 x4.a] : List Value)).zip (l.l ++ x4.flat)) S4 w4) := HF0.out.zip HQ.out
      clear HF0
      go_wp2_with (first | (refine wl_rowbox HF (el := 59) (bs42 _ _ _ _ ) ?_; clear HF; intro wN b5 hN; obtain ⟨g5,cap5,cur5,w5,hA,hF5,hO5,hK5⟩ := app59 (news := ([.int .i64 x4.pl,.string ⟨x4.nm.toArray⟩,.bool x4.dn,.int .i64 x4.a] : List Value)) hN HO.out.1 (by have := HO.out.2.2.1; have := HL.out; omega) rfl (repL_one HP.out); have HF : Hid (FR w F A [(g5,59,cur5)] ((xs ++ ([.int .i64 x4.pl,.string ⟨x4.nm.toArray⟩,.bool x4.dn,.int .i64 x4.a] : List Value)).zip (l.l ++ x4.flat)) S4 w5) := hF5; have HO5 : Hid (Own 4 g5 (l.n + 1) cap5 cur5 (xs ++ ([.int .i64 x4.pl,.string ⟨x4.nm.toArray⟩,.bool x4.dn,.int .i64 x4.a] : List Value))) := hO5; clear hN hF5 hO5 hK5) | (refine st_append rfl rfl hA ?_; clear hA))
      go_roundg gk
      case measure => omega
      case rel => exact ⟨g5,cap5,cur5,_,⟨l.n + 1,l.l ++ x4.flat⟩,S4,rfl,HF,⟨HO5.out,by rw [List.length_append,List.length_append,HO.out.2.1,HP.out.1],by show l.n + 1 ≤ 1 + f; have := HO.out.2.2.2.1; omega,by show l.n + 1 + gk = 1 + f; have := HO.out.2.2.2.1; omega,Nat.succ_pos _⟩,HR⟩
end Go.Proofs.YtlgkghebemfpjaaGreatDoor.Pa
