/- choice. -/
import Derived.Test.YtlgkghebemfpjaaGreatDoorQJ1
import Derived.Test.YtlgkghebemfpjaaGreatDoorQS1
namespace Go.Proofs.YtlgkghebemfpjaaGreatDoor.Pa
open Go.ChangeShapes Go.WideShapes Go.ChangeAt Go.RowKit
set_option linter.unusedVariables false
set_option maxRecDepth 100000
set_option maxHeartbeats 8000000 in
theorem choice_does (E : PM X) (f : Nat) (hf0 : f ≤ 100000) (HM : MadeC) (HE : Does XR 19 (fun F => #[ptr F]) E) (a : Int) : Does XR 203 (fun F => #[ptr F,.int .i64 a]) (choiceM E f a) := by
 intro w F A S hp hA hF hpre hn
 have HF : Hid (FR w F A [] [] S w) := FR.init [] hp hA hF (fun y h => (by cases h))
 obtain ⟨r,hr⟩ : ∃ r,(choiceM E f a) S = r := ⟨_,rfl⟩
 have HR : Hid ((choiceM E f a) S = r) := hr
 rw [hr] at hn ⊢
 have HN : Hid (r ≠ .out) := hn
 clear hp hA hF hr hn
 have HEH : Hid (Does XR 19 (fun F => #[ptr F]) E) := HE
 have HMH : Hid MadeC := HM
 have hmf : ∀ (fn : Fn) (first cap : Array Value) (w : World),(Instr.makeFunc fn first cap).run Tryz.prog w = .ok (.func fn first cap) w := fun _ _ _ _ => rfl
 have HWH : Hid (Does WhR 208 (fun F => #[ptr F]) (whenM E)) := when_does E HE
 have HFF : Hid (f ≤ 100000) := hf0
 clear HE HM hf0
 go_enter Tryz.func203,Tryz.ntmps203
 go_wp2_with (first | (refine wl_box HF (bx63 _) ?_; intro wN b2 hN; clear HF; have HF := hidF <| hN; clear hN) | (have hq : Nat := b4; clear hq; refine wl_alloc HF al27 ?_; intro wN b5 hN; clear HF; have HF := hidF <| hN; clear hN) | (refine wl_alloc HF al27 ?_; intro wN b4 hN; clear HF; have HF := hidF <| hN; clear hN) | (refine wl_store HF 0 ?_; intro wN hN; clear HF; have HF := hidF <| hN; clear hN) | (refine wl_load1 HF 2 lv63 ?_))
 replace HF : Hid (FR w F A [(b5,27,#[.int .i64 6,.int .i64 0,.int .i64 0,.int .i64 0,.string ⟨#[]⟩,.string ⟨#[]⟩,.string ⟨#[]⟩,.int .i64 0,.bool false,.int .i64 a,.slice none 0 0,.slice none 0 0]),(b4,27,#[.int .i64 0,.int .i64 0,.int .i64 0,.int .i64 0,.string ⟨#[]⟩,.string ⟨#[]⟩,.string ⟨#[]⟩,.int .i64 0,.bool false,.int .i64 0,.slice none 0 0,.slice none 0 0]),(b2,63,#[ptr F])] [] S _) := HF.out
 replace HR : Hid (((listM Wh.flat 16 (whenM E) moreW f).then fun l => (skipM [69,76,83,69]).then fun b => (if b then E else PM.ret (litX 0 0 0 [])).then fun last => (needM [69,78,68]).then fun _ => madeM (opX 6 0 false a (2 * l.n + 1) (l.l ++ last.flat) .none)) S = r) := HR.out
 refine list207_go (i2 := 2) E f HFF.out HF rfl HWH.out HR.out HN.out ?_ ?_
 · intro a er wN hb hk
   have HB : Hid (r = .bad a er ∧ Kept (On F) w wN) := ⟨hb,hk⟩
   clear hb hk
   go_wp2_with fail
   exact ⟨rfl,out_bad HB.out.1 HB.out.2⟩
 intro l S1 g cap cur xs w1 hk hf ho hx hl h0
 clear HF HR
 have HF : Hid (FR w F A [(g,211,cur),(b5,27,#[.int .i64 6,.int .i64 0,.int .i64 0,.int .i64 0,.string ⟨#[]⟩,.string ⟨#[]⟩,.string ⟨#[]⟩,.int .i64 0,.bool false,.int .i64 a,.slice none 0 0,.slice none 0 0]),(b4,27,#[.int .i64 0,.int .i64 0,.int .i64 0,.int .i64 0,.string ⟨#[]⟩,.string ⟨#[]⟩,.string ⟨#[]⟩,.int .i64 0,.bool false,.int .i64 0,.slice none 0 0,.slice none 0 0]),(b2,63,#[ptr F])] (xs.zip l.l) S1 w1) := hf
 have HO : Hid (Own 24 g l.n cap cur xs ∧ xs.length = l.l.length ∧ l.n ≤ 1 + f ∧ 0 < l.n) := ⟨ho,hx,hl,h0⟩
 have HR : Hid (((skipM [69,76,83,69]).then fun b => (if b then E else PM.ret (litX 0 0 0 [])).then fun last => (needM [69,78,68]).then fun _ => madeM (opX 6 0 false a (2 * l.n + 1) (l.l ++ last.flat) .none)) S1 = r) := hk
 clear hf ho hx hl h0 hk
 go_wp2_with fail
 go_loopg [19] l.n (fun (gk : Nat) (v19 : Value) (wr : World) => ∃ j : Nat,v19 = .int .i64 j ∧ Hid (j + gk = l.n) ∧ Hid ((j = 0 ∧ FR w F A [(g,211,cur),(b5,27,#[.int .i64 6,.int .i64 0,.int .i64 0,.int .i64 0,.string ⟨#[]⟩,.string ⟨#[]⟩,.string ⟨#[]⟩,.int .i64 0,.bool false,.int .i64 a,.slice none 0 0,.slice none 0 0]),(b4,27,#[.int .i64 0,.int .i64 0,.int .i64 0,.int .i64 0,.string ⟨#[]⟩,.string ⟨#[]⟩,.string ⟨#[]⟩,.int .i64 0,.bool false,.int .i64 0,.slice none 0 0,.slice none 0 0]),(b2,63,#[ptr F])] (xs.zip l.l) S1 wr) ∨ (0 < j ∧ ∃ h ch curh,FR w F A [(h,27,curh),(g,211,cur),(b5,27,#[.int .i64 6,.int .i64 0,.int .i64 0,.int .i64 0,.string ⟨#[]⟩,.string ⟨#[]⟩,.string ⟨#[]⟩,.int .i64 0,.bool false,.int .i64 a,.slice (some ⟨h,0,none⟩) (2 * j) ch,.slice none 0 0]),(b4,27,#[.int .i64 0,.int .i64 0,.int .i64 0,.int .i64 0,.string ⟨#[]⟩,.string ⟨#[]⟩,.string ⟨#[]⟩,.int .i64 0,.bool false,.int .i64 0,.slice none 0 0,.slice none 0 0]),(b2,63,#[ptr F])] (xs.zip l.l) S1 wr ∧ Own 12 h (2 * j) ch curh (xs.take (24 * j)))))
 case atStart => exact ⟨0,rfl,Nat.zero_add _,Or.inl ⟨rfl,HF.out⟩⟩
 case round =>
  obtain ⟨j,rfl,HJ,HD⟩ := hrel
  clear HF
  by_cases hj : j < l.n
  · obtain ⟨gk,rfl⟩ : ∃ k,gk = k + 1 := ⟨gk - 1,by have := HJ.out; omega⟩
    have hji : (j : Int) < (l.n : Int) := by omega
    have hln : (l.n : Int) ≤ 100001 := by have := HO.out.2.2.1; have := HFF.out; omega
    obtain ⟨y0,y1,y2,y3,y4,y5,y6,y7,y8,y9,y10,y11,y12,y13,y14,y15,y16,y17,y18,y19,y20,y21,y22,y23,hT,hY⟩ := cut24 HO.out.1.ln hj
    have HT : Hid (xs.take (24 * (j + 1)) = xs.take (24 * j) ++ [y0,y1,y2,y3,y4,y5,y6,y7,y8,y9,y10,y11,y12,y13,y14,y15,y16,y17,y18,y19,y20,y21,y22,y23]) := hT
    have HY : Hid (∀ k u, [y0,y1,y2,y3,y4,y5,y6,y7,y8,y9,y10,y11,y12,y13,y14,y15,y16,y17,y18,y19,y20,y21,y22,y23][k]? = some u → cur[j * 24 + k]? = some u) := fun k u q => by
     have h1 := hY k u q
     rw [← HO.out.1.tk,List.getElem?_take] at h1
     split at h1
     · simpa using h1
     · cases h1
    have HX : Hid (∀ u ∈ [y0,y1,y2,y3,y4,y5,y6,y7,y8,y9,y10,y11,y12,y13,y14,y15,y16,y17,y18,y19,y20,y21,y22,y23],u.oneCell' = true) := by
     have HFX : ∃ wr' bs',FR w F A bs' (xs.zip l.l) S1 wr' := by
      rcases HD.out with ⟨_,h1⟩ | ⟨_,_,_,_,h1,_⟩
      · exact ⟨_,_,h1⟩
      · exact ⟨_,_,h1⟩
     obtain ⟨wr',bs',h1⟩ := HFX
     intro u hu
     refine repL_one (h1.unzip (fun y hy => hy) HO.out.2.1) u ?_
     obtain ⟨k,hk⟩ := List.getElem?_of_mem hu
     exact List.mem_of_getElem? (hY k u hk)
    have HA : Hid ((#[y0,y1,y2,y3,y4,y5,y6,y7,y8,y9,y10,y11,y12,y13,y14,y15,y16,y17,y18,y19,y20,y21,y22,y23] : Array Value).toList.all (·.oneCell') = true) := List.all_eq_true.2 (fun u hu => HX.out u hu)
    clear hT hY
    rcases HD.out with ⟨rfl,hd⟩ | ⟨hjp,h,ch,curh,hd,hown⟩
    · clear HD
      have HF : Hid (FR w F A [(g,211,cur),(b5,27,#[.int .i64 6,.int .i64 0,.int .i64 0,.int .i64 0,.string ⟨#[]⟩,.string ⟨#[]⟩,.string ⟨#[]⟩,.int .i64 0,.bool false,.int .i64 a,.slice none 0 0,.slice none 0 0]),(b4,27,#[.int .i64 0,.int .i64 0,.int .i64 0,.int .i64 0,.string ⟨#[]⟩,.string ⟨#[]⟩,.string ⟨#[]⟩,.int .i64 0,.bool false,.int .i64 0,.slice none 0 0,.slice none 0 0]),(b2,63,#[ptr F])] (xs.zip l.l) S1 wr) := hd
      clear hd
      go_wp2_with (first | (refine wl_mid HF 0 (p := 0 * 24) [y0,y1,y2,y3,y4,y5,y6,y7,y8,y9,y10,y11,y12,y13,y14,y15,y16,y17,y18,y19,y20,y21,y22,y23] Tryz.underlying211 ?_ HY.out rfl rfl) | (refine wl_alloc HF al211 ?_; intro wN b8 hN; clear HF; have HF := hidF <| hN; clear hN) | (refine wl_store HF 0 ?_ (h1 := HA.out); intro wN hN; clear HF; have HF := hidF <| hN; clear hN) | (refine wl_load1 HF 2 lv24 ?_) | (refine wl_mid HF 0 (p := 0) [y0,y1,y2,y3,y4,y5,y6,y7,y8,y9,y10,y11] Tryz.underlying27 ?_ (mid12a _ _ _ _ _ _ _ _ _ _ _ _ _ _ _ _ _ _ _ _ _ _ _ _) rfl rfl) | (refine wl_mid HF 0 (p := 12) [y12,y13,y14,y15,y16,y17,y18,y19,y20,y21,y22,y23] Tryz.underlying27 ?_ (mid12b _ _ _ _ _ _ _ _ _ _ _ _ _ _ _ _ _ _ _ _ _ _ _ _) rfl rfl) | (refine wl_rowbox2 HF (el := 27) (bs24w _ _ _ _ _ _ _ _ _ _ _ _ _ _ _ _ _ _ _ _ _ _ _ _ ) ?_; clear HF; intro wN b9 hN; obtain ⟨h5,c5,cur5,w5,hA,hF5,hO5⟩ := app20 (news := [y0,y1,y2,y3,y4,y5,y6,y7,y8,y9,y10,y11,y12,y13,y14,y15,y16,y17,y18,y19,y20,y21,y22,y23]) hN rfl; have HF : Hid (FR w F A [(h5,27,cur5),(b8,211,#[y0,y1,y2,y3,y4,y5,y6,y7,y8,y9,y10,y11,y12,y13,y14,y15,y16,y17,y18,y19,y20,y21,y22,y23]),(g,211,cur),(b5,27,#[.int .i64 6,.int .i64 0,.int .i64 0,.int .i64 0,.string ⟨#[]⟩,.string ⟨#[]⟩,.string ⟨#[]⟩,.int .i64 0,.bool false,.int .i64 a,.slice none 0 0,.slice none 0 0]),(b4,27,#[.int .i64 0,.int .i64 0,.int .i64 0,.int .i64 0,.string ⟨#[]⟩,.string ⟨#[]⟩,.string ⟨#[]⟩,.int .i64 0,.bool false,.int .i64 0,.slice none 0 0,.slice none 0 0]),(b2,63,#[ptr F])] (xs.zip l.l) S1 w5) := hF5; have HO5 : Hid (Own 12 h5 (2 * 0 + 2) c5 cur5 (xs.take (24 * 0) ++ [y0,y1,y2,y3,y4,y5,y6,y7,y8,y9,y10,y11,y12,y13,y14,y15,y16,y17,y18,y19,y20,y21,y22,y23])) := hO5; clear hN hF5 hO5) | (refine st_append rfl rfl hA ?_; clear hA) | (refine wl_store1 HF 3 sv24 ?_; clear HF; intro wN hN; have HF : Hid (FR w F A [(h5,27,cur5),(b8,211,#[y0,y1,y2,y3,y4,y5,y6,y7,y8,y9,y10,y11,y12,y13,y14,y15,y16,y17,y18,y19,y20,y21,y22,y23]),(g,211,cur),(b5,27,#[.int .i64 6,.int .i64 0,.int .i64 0,.int .i64 0,.string ⟨#[]⟩,.string ⟨#[]⟩,.string ⟨#[]⟩,.int .i64 0,.bool false,.int .i64 a,.slice (some ⟨h5,0,none⟩) (2 * 0 + 2) c5,.slice none 0 0]),(b4,27,#[.int .i64 0,.int .i64 0,.int .i64 0,.int .i64 0,.string ⟨#[]⟩,.string ⟨#[]⟩,.string ⟨#[]⟩,.int .i64 0,.bool false,.int .i64 0,.slice none 0 0,.slice none 0 0]),(b2,63,#[ptr F])] (xs.zip l.l) S1 wN) := hN; clear hN))
      go_roundg gk
      case measure => omega
      case rel => exact ⟨0 + 1,by simp,by show 0 + 1 + gk = l.n; have := HJ.out; omega,Or.inr ⟨Nat.succ_pos _,h5,c5,cur5,HF.out.swap.tl,by rw [HT.out]; exact HO5.out⟩⟩
    · clear HD
      have HF : Hid (FR w F A [(h,27,curh),(g,211,cur),(b5,27,#[.int .i64 6,.int .i64 0,.int .i64 0,.int .i64 0,.string ⟨#[]⟩,.string ⟨#[]⟩,.string ⟨#[]⟩,.int .i64 0,.bool false,.int .i64 a,.slice (some ⟨h,0,none⟩) (2 * j) ch,.slice none 0 0]),(b4,27,#[.int .i64 0,.int .i64 0,.int .i64 0,.int .i64 0,.string ⟨#[]⟩,.string ⟨#[]⟩,.string ⟨#[]⟩,.int .i64 0,.bool false,.int .i64 0,.slice none 0 0,.slice none 0 0]),(b2,63,#[ptr F])] (xs.zip l.l) S1 wr) := hd
      have HW : Hid (Own 12 h (2 * j) ch curh (xs.take (24 * j))) := hown
      clear hd hown hjp
      go_wp2_with (first | (refine wl_mid HF 1 (p := j * 24) [y0,y1,y2,y3,y4,y5,y6,y7,y8,y9,y10,y11,y12,y13,y14,y15,y16,y17,y18,y19,y20,y21,y22,y23] Tryz.underlying211 ?_ HY.out rfl rfl) | (refine wl_alloc HF al211 ?_; intro wN b8 hN; clear HF; have HF := hidF <| hN; clear hN) | (refine wl_store HF 0 ?_ (h1 := HA.out); intro wN hN; clear HF; have HF := hidF <| hN; clear hN) | (refine wl_load1 HF 3 lv24 ?_) | (refine wl_mid HF 0 (p := 0) [y0,y1,y2,y3,y4,y5,y6,y7,y8,y9,y10,y11] Tryz.underlying27 ?_ (mid12a _ _ _ _ _ _ _ _ _ _ _ _ _ _ _ _ _ _ _ _ _ _ _ _) rfl rfl) | (refine wl_mid HF 0 (p := 12) [y12,y13,y14,y15,y16,y17,y18,y19,y20,y21,y22,y23] Tryz.underlying27 ?_ (mid12b _ _ _ _ _ _ _ _ _ _ _ _ _ _ _ _ _ _ _ _ _ _ _ _) rfl rfl) | (refine wl_rowbox2 HF (el := 27) (bs24w _ _ _ _ _ _ _ _ _ _ _ _ _ _ _ _ _ _ _ _ _ _ _ _ ) ?_; clear HF; intro wN b9 hN; obtain ⟨h5,c5,cur5,w5,hA,hF5,hO5⟩ := app2 (news := [y0,y1,y2,y3,y4,y5,y6,y7,y8,y9,y10,y11,y12,y13,y14,y15,y16,y17,y18,y19,y20,y21,y22,y23]) (hN.perm ((List.Perm.swap _ _ _).cons _)) HW.out (by have := HO.out.2.2.1; have := HFF.out; omega) rfl HX.out; have HF : Hid (FR w F A [(h5,27,cur5),(b8,211,#[y0,y1,y2,y3,y4,y5,y6,y7,y8,y9,y10,y11,y12,y13,y14,y15,y16,y17,y18,y19,y20,y21,y22,y23]),(g,211,cur),(b5,27,#[.int .i64 6,.int .i64 0,.int .i64 0,.int .i64 0,.string ⟨#[]⟩,.string ⟨#[]⟩,.string ⟨#[]⟩,.int .i64 0,.bool false,.int .i64 a,.slice (some ⟨h,0,none⟩) (2 * j) ch,.slice none 0 0]),(b4,27,#[.int .i64 0,.int .i64 0,.int .i64 0,.int .i64 0,.string ⟨#[]⟩,.string ⟨#[]⟩,.string ⟨#[]⟩,.int .i64 0,.bool false,.int .i64 0,.slice none 0 0,.slice none 0 0]),(b2,63,#[ptr F])] (xs.zip l.l) S1 w5) := hF5; have HO5 : Hid (Own 12 h5 (2 * j + 2) c5 cur5 (xs.take (24 * j) ++ [y0,y1,y2,y3,y4,y5,y6,y7,y8,y9,y10,y11,y12,y13,y14,y15,y16,y17,y18,y19,y20,y21,y22,y23])) := hO5; clear hN hF5 hO5) | (refine st_append rfl rfl hA ?_; clear hA) | (refine wl_store1 HF 3 sv24 ?_; clear HF; intro wN hN; have HF : Hid (FR w F A [(h5,27,cur5),(b8,211,#[y0,y1,y2,y3,y4,y5,y6,y7,y8,y9,y10,y11,y12,y13,y14,y15,y16,y17,y18,y19,y20,y21,y22,y23]),(g,211,cur),(b5,27,#[.int .i64 6,.int .i64 0,.int .i64 0,.int .i64 0,.string ⟨#[]⟩,.string ⟨#[]⟩,.string ⟨#[]⟩,.int .i64 0,.bool false,.int .i64 a,.slice (some ⟨h5,0,none⟩) (2 * j + 2) c5,.slice none 0 0]),(b4,27,#[.int .i64 0,.int .i64 0,.int .i64 0,.int .i64 0,.string ⟨#[]⟩,.string ⟨#[]⟩,.string ⟨#[]⟩,.int .i64 0,.bool false,.int .i64 0,.slice none 0 0,.slice none 0 0]),(b2,63,#[ptr F])] (xs.zip l.l) S1 wN) := hN; clear hN))
      go_roundg gk
      case measure => omega
      case rel => exact ⟨j + 1,by simp,by show j + 1 + gk = l.n; have := HJ.out; omega,Or.inr ⟨Nat.succ_pos _,h5,c5,cur5,HF.out.swap.tl,by rw [HT.out]; exact HO5.out⟩⟩
  · have hjl : j = l.n := by have := HJ.out; omega
    have hji : ¬ (j : Int) < (l.n : Int) := by omega
    rcases HD.out with ⟨e0,hd⟩ | ⟨hjp,h,ch,curh,hd,hown⟩
    · exact absurd e0 (by have := HO.out.2.2.2; omega)
    have htk : xs.take (24 * j) = xs := List.take_of_length_le (by rw [HO.out.1.ln,hjl]; omega)
    rw [htk] at hown
    clear htk
    clear HD
    have HF : Hid (FR w F A [(h,27,curh),(g,211,cur),(b5,27,#[.int .i64 6,.int .i64 0,.int .i64 0,.int .i64 0,.string ⟨#[]⟩,.string ⟨#[]⟩,.string ⟨#[]⟩,.int .i64 0,.bool false,.int .i64 a,.slice (some ⟨h,0,none⟩) (2 * j) ch,.slice none 0 0]),(b4,27,#[.int .i64 0,.int .i64 0,.int .i64 0,.int .i64 0,.string ⟨#[]⟩,.string ⟨#[]⟩,.string ⟨#[]⟩,.int .i64 0,.bool false,.int .i64 0,.slice none 0 0,.slice none 0 0]),(b2,63,#[ptr F])] (xs.zip l.l) S1 wr) := hd
    have HW : Hid (Own 12 h (2 * j) ch curh xs) := hown
    have HJL : Hid (j = l.n) := hjl
    clear hd hown hjp hjl
    go_wp2_with fail
    refine Calls.mono (literal_is 0 0 0 [] _) ?_; rintro e wQ ⟨rfl,kQ⟩
    have HF := hidF <| (HF.out).call (kQ.mono (fun i q => q.elim)) ((HF.out).pa.same kQ)
    clear kQ
    go_wp2_with (first | (refine wl_alloc HF al27 ?_; intro wN b9 hN; clear HF; have HF := hidF <| hN; clear hN) | (refine wl_store HF 0 ?_; intro wN hN; clear HF; have HF := hidF <| hN; clear hN) | (refine wl_load1 HF 5 lv63 ?_))
    refine DoesI.go (skip_does [69,76,83,69]) (HF.out) (trivial) HR.out HN.out ?_ ?_
    · intro a er wN hb hk
      have HB : Hid (r = .bad a er ∧ Kept (On F) w wN) := ⟨hb,hk⟩
      clear hb hk
      go_wp2_with fail
      exact ⟨rfl,out_bad HB.out.1 HB.out.2⟩
    intro x5 S5 v5 w5 hv hk hf
    cases hv
    clear HF HR
    have HF := hidF <| hf
    clear hf
    have HR : Hid (_ = r) := hk
    clear hk
    cases x5 with
    | false =>
      replace HR : Hid ((((needM [69,78,68]).then fun _ => madeM (opX 6 0 false a (2 * l.n + 1) (l.l ++ (litX 0 0 0 []).flat) .none)) S5) = r) := HR.out
      go_wp2_with (first | (refine wl_load1 HF 3 lv24 ?_) | (refine wl_load HF 0 Tryz.underlying27 ?_) | (have HX1 : Hid (∀ u ∈ ([.int .i64 1,.int .i64 0,.int .i64 0,.int .i64 0,.string ⟨#[]⟩,.string ⟨#[]⟩,.string ⟨#[]⟩,.int .i64 0,.bool false,.int .i64 0,.slice none 0 0,.slice none 0 0] : List Value),u.oneCell' = true) := fun u hu => List.all_eq_true.1 (show ([.int .i64 1,.int .i64 0,.int .i64 0,.int .i64 0,.string ⟨#[]⟩,.string ⟨#[]⟩,.string ⟨#[]⟩,.int .i64 0,.bool false,.int .i64 0,.slice none 0 0,.slice none 0 0] : List Value).all (·.oneCell') = true from rfl) u hu; refine wl_rowbox HF (el := 27) (bs24 _ _ _ _ _ _ _ _ _ _ _ _ ) ?_; clear HF; intro wN bR hN; obtain ⟨h5,c5,cur5,w5,hA,hF5,hO5,_⟩ := app27w (news := [.int .i64 1,.int .i64 0,.int .i64 0,.int .i64 0,.string ⟨#[]⟩,.string ⟨#[]⟩,.string ⟨#[]⟩,.int .i64 0,.bool false,.int .i64 0,.slice none 0 0,.slice none 0 0]) (hN.perm ((List.Perm.swap _ _ _).cons _)) HW.out (by have := HJL.out; have := HO.out.2.2.1; have := HFF.out; omega) rfl HX1.out; have HF : Hid (FR w F A [(h5,27,cur5),(b9,27,#[.int .i64 1,.int .i64 0,.int .i64 0,.int .i64 0,.string ⟨#[]⟩,.string ⟨#[]⟩,.string ⟨#[]⟩,.int .i64 0,.bool false,.int .i64 0,.slice none 0 0,.slice none 0 0]),(g,211,cur),(b5,27,#[.int .i64 6,.int .i64 0,.int .i64 0,.int .i64 0,.string ⟨#[]⟩,.string ⟨#[]⟩,.string ⟨#[]⟩,.int .i64 0,.bool false,.int .i64 a,.slice (some ⟨h,0,none⟩) (2 * j) ch,.slice none 0 0]),(b4,27,#[.int .i64 0,.int .i64 0,.int .i64 0,.int .i64 0,.string ⟨#[]⟩,.string ⟨#[]⟩,.string ⟨#[]⟩,.int .i64 0,.bool false,.int .i64 0,.slice none 0 0,.slice none 0 0]),(b2,63,#[ptr F])] _ S5 w5) := hF5; have HO5 : Hid (Own 12 h5 (2 * j + 1) c5 cur5 (xs ++ [.int .i64 1,.int .i64 0,.int .i64 0,.int .i64 0,.string ⟨#[]⟩,.string ⟨#[]⟩,.string ⟨#[]⟩,.int .i64 0,.bool false,.int .i64 0,.slice none 0 0,.slice none 0 0])) := hO5; clear hN hF5 hO5) | (refine st_append rfl rfl hA ?_; clear hA) | (refine wl_store1 HF 3 sv24 ?_; clear HF; intro wN hN; have HF : Hid (FR w F A [(h5,27,cur5),(b9,27,#[.int .i64 1,.int .i64 0,.int .i64 0,.int .i64 0,.string ⟨#[]⟩,.string ⟨#[]⟩,.string ⟨#[]⟩,.int .i64 0,.bool false,.int .i64 0,.slice none 0 0,.slice none 0 0]),(g,211,cur),(b5,27,#[.int .i64 6,.int .i64 0,.int .i64 0,.int .i64 0,.string ⟨#[]⟩,.string ⟨#[]⟩,.string ⟨#[]⟩,.int .i64 0,.bool false,.int .i64 a,.slice (some ⟨h5,0,none⟩) (2 * j + 1) c5,.slice none 0 0]),(b4,27,#[.int .i64 0,.int .i64 0,.int .i64 0,.int .i64 0,.string ⟨#[]⟩,.string ⟨#[]⟩,.string ⟨#[]⟩,.int .i64 0,.bool false,.int .i64 0,.slice none 0 0,.slice none 0 0]),(b2,63,#[ptr F])] _ S5 wN) := hN; clear hN; have HP : Hid True := trivial) | (have hq : Hid True := HP; clear hq; refine wl_load1 HF 5 lv63 ?_))
      have HQ : Hid (RepL (fun g' => A g' ∧ ∀ x ∈ [(h5,27,cur5),(b9,27,#[.int .i64 1,.int .i64 0,.int .i64 0,.int .i64 0,.string ⟨#[]⟩,.string ⟨#[]⟩,.string ⟨#[]⟩,.int .i64 0,.bool false,.int .i64 0,.slice none 0 0,.slice none 0 0]),(g,211,cur),(b5,27,#[.int .i64 6,.int .i64 0,.int .i64 0,.int .i64 0,.string ⟨#[]⟩,.string ⟨#[]⟩,.string ⟨#[]⟩,.int .i64 0,.bool false,.int .i64 a,.slice (some ⟨h5,0,none⟩) (2 * j + 1) c5,.slice none 0 0]),(b4,27,#[.int .i64 0,.int .i64 0,.int .i64 0,.int .i64 0,.string ⟨#[]⟩,.string ⟨#[]⟩,.string ⟨#[]⟩,.int .i64 0,.bool false,.int .i64 0,.slice none 0 0,.slice none 0 0]),(b2,63,#[ptr F])],x.1 ≠ g') _ (xs ++ [.int .i64 1,.int .i64 0,.int .i64 0,.int .i64 0,.string ⟨#[]⟩,.string ⟨#[]⟩,.string ⟨#[]⟩,.int .i64 0,.bool false,.int .i64 0,.slice none 0 0,.slice none 0 0]) (l.l ++ (litX 0 0 0 []).flat)) := (HF.out.unzip (fun y hy => hy) HO.out.2.1).append (xc_rep (x := litX 0 0 0 []) (Rep.nil none 0) (Rep.nil none 0))
      have HF1 : Hid (FR w F A _ _ S5 _) := HF.out.shut HO5.out HQ.out
      clear HF HQ HP
      have HF : Hid (FR w F A [(b9,27,#[.int .i64 1,.int .i64 0,.int .i64 0,.int .i64 0,.string ⟨#[]⟩,.string ⟨#[]⟩,.string ⟨#[]⟩,.int .i64 0,.bool false,.int .i64 0,.slice none 0 0,.slice none 0 0]),(g,211,cur),(b5,27,#[.int .i64 6,.int .i64 0,.int .i64 0,.int .i64 0,.string ⟨#[]⟩,.string ⟨#[]⟩,.string ⟨#[]⟩,.int .i64 0,.bool false,.int .i64 a,.slice (some ⟨h5,0,none⟩) (2 * j + 1) c5,.slice none 0 0]),(b4,27,#[.int .i64 0,.int .i64 0,.int .i64 0,.int .i64 0,.string ⟨#[]⟩,.string ⟨#[]⟩,.string ⟨#[]⟩,.int .i64 0,.bool false,.int .i64 0,.slice none 0 0,.slice none 0 0]),(b2,63,#[ptr F])] _ S5 _) := HF1.out
      clear HF1
      rw [HJL.out] at HF
      refine DoesI.go (need_does [69,78,68]) (HF.out) (trivial) HR.out HN.out ?_ ?_
      · intro a er wN hb hk
        have HB : Hid (r = .bad a er ∧ Kept (On F) w wN) := ⟨hb,hk⟩
        clear hb hk
        go_wp2_with fail
        exact ⟨rfl,out_bad HB.out.1 HB.out.2⟩
      intro x7 S7 v7 w7 hv hk hf
      cases hv
      clear HF HR
      have HF := hidF <| hf
      clear hf
      have HR : Hid (_ = r) := hk
      clear hk
      go_wp2_with (first | (refine wl_load1 HF 4 lv63 ?_) | (refine wl_load HF 2 Tryz.underlying27 ?_))
      refine DoesI.go (k := PM.ret) (HMH.out (opX 6 0 false a (2 * l.n + 1) (l.l ++ (litX 0 0 0 []).flat) .none) _ _ none 0) (HF.out) (⟨HF.out.trep 0 rfl,Rep.nil none 0⟩) (by rw [PM.then_ret]; exact HR.out) HN.out ?_ ?_
      · intro a er wN hb hk
        have HB : Hid (r = .bad a er ∧ Kept (On F) w wN) := ⟨hb,hk⟩
        clear hb hk
        go_wp2_with fail
        exact ⟨rfl,out_bad HB.out.1 HB.out.2⟩
      intro x8 S8 v8 w8 hv hk hf
      obtain ⟨p8,c8,q8,d8,rfl,h1,h2⟩ := hv
      clear HF HR
      have HF := hidF <| (hf.tree h2).tree h1
      clear h1 h2
      clear hf
      have HR : Hid (_ = r) := hk
      clear hk
      go_wp2_with (first | (refine wl_store HF 3 ?_; intro wN hN; clear HF; have HF := hidF <| hN; clear hN))
      refine bodyPost_ret (end_row HF.out 3 rfl rfl rfl Tryz.underlying27 rfl (by kernel_rfl)) rfl ?_
      exact out_ok HR.out.symm HF.out (⟨p8,c8,q8,d8,rfl,HF.out.rep 0 rfl,HF.out.rep 1 rfl⟩)
    | true =>
      replace HR : Hid (((E.then fun last => (needM [69,78,68]).then fun _ => madeM (opX 6 0 false a (2 * l.n + 1) (l.l ++ last.flat) .none)) S5) = r) := HR.out
      go_wp2_with (first | (refine wl_load1 HF 5 lv63 ?_))
      refine DoesI.go (HEH.out) (HF.out) (trivial) HR.out HN.out ?_ ?_
      · intro a er wN hb hk
        have HB : Hid (r = .bad a er ∧ Kept (On F) w wN) := ⟨hb,hk⟩
        clear hb hk
        go_wp2_with fail
        exact ⟨rfl,out_bad HB.out.1 HB.out.2⟩
      intro x6 S6 v6 w6 hv hk hf
      obtain ⟨p6,c6,q6,d6,rfl,h1,h2⟩ := hv
      clear HF HR
      have HF := hidF <| (hf.tree h2).tree h1
      clear h1 h2
      clear hf
      have HR : Hid (_ = r) := hk
      clear hk
      go_wp2_with (first | (refine wl_store HF 0 ?_; intro wN hN; clear HF; have HF := hidF <| hN; clear hN) | (refine wl_load1 HF 3 lv24 ?_) | (refine wl_load HF 0 Tryz.underlying27 ?_) | (have HX1 : Hid (∀ u ∈ ([.int .i64 x6.k,.int .i64 x6.op,.int .i64 x6.vk,.int .i64 x6.vn,.string ⟨x6.vs.toArray⟩,.string ⟨x6.tb.toArray⟩,.string ⟨x6.nm.toArray⟩,.int .i64 x6.col,.bool x6.dn,.int .i64 x6.a,.slice p6 x6.ar.n c6,.slice q6 x6.sb.n d6] : List Value),u.oneCell' = true) := (repL_one (A := fun g' => A g' ∧ ∀ x ∈ [(b9,27,#[.int .i64 x6.k,.int .i64 x6.op,.int .i64 x6.vk,.int .i64 x6.vn,.string ⟨x6.vs.toArray⟩,.string ⟨x6.tb.toArray⟩,.string ⟨x6.nm.toArray⟩,.int .i64 x6.col,.bool x6.dn,.int .i64 x6.a,.slice p6 x6.ar.n c6,.slice q6 x6.sb.n d6]),(h,27,curh),(g,211,cur),(b5,27,#[.int .i64 6,.int .i64 0,.int .i64 0,.int .i64 0,.string ⟨#[]⟩,.string ⟨#[]⟩,.string ⟨#[]⟩,.int .i64 0,.bool false,.int .i64 a,.slice (some ⟨h,0,none⟩) (2 * j) ch,.slice none 0 0]),(b4,27,#[.int .i64 0,.int .i64 0,.int .i64 0,.int .i64 0,.string ⟨#[]⟩,.string ⟨#[]⟩,.string ⟨#[]⟩,.int .i64 0,.bool false,.int .i64 0,.slice none 0 0,.slice none 0 0]),(b2,63,#[ptr F])],x.1 ≠ g') (xc_rep (HF.out.trep 0 rfl) (HF.out.trep 1 rfl))); refine wl_rowbox HF (el := 27) (bs24 _ _ _ _ _ _ _ _ _ _ _ _ ) ?_; clear HF; intro wN bR hN; obtain ⟨h5,c5,cur5,w5,hA,hF5,hO5,_⟩ := app27w (news := [.int .i64 x6.k,.int .i64 x6.op,.int .i64 x6.vk,.int .i64 x6.vn,.string ⟨x6.vs.toArray⟩,.string ⟨x6.tb.toArray⟩,.string ⟨x6.nm.toArray⟩,.int .i64 x6.col,.bool x6.dn,.int .i64 x6.a,.slice p6 x6.ar.n c6,.slice q6 x6.sb.n d6]) (hN.perm ((List.Perm.swap _ _ _).cons _)) HW.out (by have := HJL.out; have := HO.out.2.2.1; have := HFF.out; omega) rfl HX1.out; have HF : Hid (FR w F A [(h5,27,cur5),(b9,27,#[.int .i64 x6.k,.int .i64 x6.op,.int .i64 x6.vk,.int .i64 x6.vn,.string ⟨x6.vs.toArray⟩,.string ⟨x6.tb.toArray⟩,.string ⟨x6.nm.toArray⟩,.int .i64 x6.col,.bool x6.dn,.int .i64 x6.a,.slice p6 x6.ar.n c6,.slice q6 x6.sb.n d6]),(g,211,cur),(b5,27,#[.int .i64 6,.int .i64 0,.int .i64 0,.int .i64 0,.string ⟨#[]⟩,.string ⟨#[]⟩,.string ⟨#[]⟩,.int .i64 0,.bool false,.int .i64 a,.slice (some ⟨h,0,none⟩) (2 * j) ch,.slice none 0 0]),(b4,27,#[.int .i64 0,.int .i64 0,.int .i64 0,.int .i64 0,.string ⟨#[]⟩,.string ⟨#[]⟩,.string ⟨#[]⟩,.int .i64 0,.bool false,.int .i64 0,.slice none 0 0,.slice none 0 0]),(b2,63,#[ptr F])] _ S6 w5) := hF5; have HO5 : Hid (Own 12 h5 (2 * j + 1) c5 cur5 (xs ++ [.int .i64 x6.k,.int .i64 x6.op,.int .i64 x6.vk,.int .i64 x6.vn,.string ⟨x6.vs.toArray⟩,.string ⟨x6.tb.toArray⟩,.string ⟨x6.nm.toArray⟩,.int .i64 x6.col,.bool x6.dn,.int .i64 x6.a,.slice p6 x6.ar.n c6,.slice q6 x6.sb.n d6])) := hO5; clear hN hF5 hO5) | (refine st_append rfl rfl hA ?_; clear hA) | (refine wl_store1 HF 3 sv24 ?_; clear HF; intro wN hN; have HF : Hid (FR w F A [(h5,27,cur5),(b9,27,#[.int .i64 x6.k,.int .i64 x6.op,.int .i64 x6.vk,.int .i64 x6.vn,.string ⟨x6.vs.toArray⟩,.string ⟨x6.tb.toArray⟩,.string ⟨x6.nm.toArray⟩,.int .i64 x6.col,.bool x6.dn,.int .i64 x6.a,.slice p6 x6.ar.n c6,.slice q6 x6.sb.n d6]),(g,211,cur),(b5,27,#[.int .i64 6,.int .i64 0,.int .i64 0,.int .i64 0,.string ⟨#[]⟩,.string ⟨#[]⟩,.string ⟨#[]⟩,.int .i64 0,.bool false,.int .i64 a,.slice (some ⟨h5,0,none⟩) (2 * j + 1) c5,.slice none 0 0]),(b4,27,#[.int .i64 0,.int .i64 0,.int .i64 0,.int .i64 0,.string ⟨#[]⟩,.string ⟨#[]⟩,.string ⟨#[]⟩,.int .i64 0,.bool false,.int .i64 0,.slice none 0 0,.slice none 0 0]),(b2,63,#[ptr F])] _ S6 wN) := hN; clear hN; have HP : Hid True := trivial) | (have hq : Hid True := HP; clear hq; refine wl_load1 HF 5 lv63 ?_))
      have HQ : Hid (RepL (fun g' => A g' ∧ ∀ x ∈ [(h5,27,cur5),(b9,27,#[.int .i64 x6.k,.int .i64 x6.op,.int .i64 x6.vk,.int .i64 x6.vn,.string ⟨x6.vs.toArray⟩,.string ⟨x6.tb.toArray⟩,.string ⟨x6.nm.toArray⟩,.int .i64 x6.col,.bool x6.dn,.int .i64 x6.a,.slice p6 x6.ar.n c6,.slice q6 x6.sb.n d6]),(g,211,cur),(b5,27,#[.int .i64 6,.int .i64 0,.int .i64 0,.int .i64 0,.string ⟨#[]⟩,.string ⟨#[]⟩,.string ⟨#[]⟩,.int .i64 0,.bool false,.int .i64 a,.slice (some ⟨h5,0,none⟩) (2 * j + 1) c5,.slice none 0 0]),(b4,27,#[.int .i64 0,.int .i64 0,.int .i64 0,.int .i64 0,.string ⟨#[]⟩,.string ⟨#[]⟩,.string ⟨#[]⟩,.int .i64 0,.bool false,.int .i64 0,.slice none 0 0,.slice none 0 0]),(b2,63,#[ptr F])],x.1 ≠ g') _ (xs ++ [.int .i64 x6.k,.int .i64 x6.op,.int .i64 x6.vk,.int .i64 x6.vn,.string ⟨x6.vs.toArray⟩,.string ⟨x6.tb.toArray⟩,.string ⟨x6.nm.toArray⟩,.int .i64 x6.col,.bool x6.dn,.int .i64 x6.a,.slice p6 x6.ar.n c6,.slice q6 x6.sb.n d6]) (l.l ++ x6.flat)) := (HF.out.unzip (fun y hy => List.mem_cons_of_mem _ (List.mem_cons_of_mem _ (hy))) HO.out.2.1).append (xc_rep (HF.out.trep 0 rfl) (HF.out.trep 1 rfl))
      have HF1 : Hid (FR w F A _ _ S6 _) := HF.out.shut HO5.out HQ.out
      clear HF HQ HP
      have HF : Hid (FR w F A [(b9,27,#[.int .i64 x6.k,.int .i64 x6.op,.int .i64 x6.vk,.int .i64 x6.vn,.string ⟨x6.vs.toArray⟩,.string ⟨x6.tb.toArray⟩,.string ⟨x6.nm.toArray⟩,.int .i64 x6.col,.bool x6.dn,.int .i64 x6.a,.slice p6 x6.ar.n c6,.slice q6 x6.sb.n d6]),(g,211,cur),(b5,27,#[.int .i64 6,.int .i64 0,.int .i64 0,.int .i64 0,.string ⟨#[]⟩,.string ⟨#[]⟩,.string ⟨#[]⟩,.int .i64 0,.bool false,.int .i64 a,.slice (some ⟨h5,0,none⟩) (2 * j + 1) c5,.slice none 0 0]),(b4,27,#[.int .i64 0,.int .i64 0,.int .i64 0,.int .i64 0,.string ⟨#[]⟩,.string ⟨#[]⟩,.string ⟨#[]⟩,.int .i64 0,.bool false,.int .i64 0,.slice none 0 0,.slice none 0 0]),(b2,63,#[ptr F])] _ S6 _) := HF1.out
      clear HF1
      rw [HJL.out] at HF
      refine DoesI.go (need_does [69,78,68]) (HF.out) (trivial) HR.out HN.out ?_ ?_
      · intro a er wN hb hk
        have HB : Hid (r = .bad a er ∧ Kept (On F) w wN) := ⟨hb,hk⟩
        clear hb hk
        go_wp2_with fail
        exact ⟨rfl,out_bad HB.out.1 HB.out.2⟩
      intro x7 S7 v7 w7 hv hk hf
      cases hv
      clear HF HR
      have HF := hidF <| hf
      clear hf
      have HR : Hid (_ = r) := hk
      clear hk
      go_wp2_with (first | (refine wl_load1 HF 4 lv63 ?_) | (refine wl_load HF 2 Tryz.underlying27 ?_))
      refine DoesI.go (k := PM.ret) (HMH.out (opX 6 0 false a (2 * l.n + 1) (l.l ++ x6.flat) .none) _ _ none 0) (HF.out) (⟨HF.out.trep 0 rfl,Rep.nil none 0⟩) (by rw [PM.then_ret]; exact HR.out) HN.out ?_ ?_
      · intro a er wN hb hk
        have HB : Hid (r = .bad a er ∧ Kept (On F) w wN) := ⟨hb,hk⟩
        clear hb hk
        go_wp2_with fail
        exact ⟨rfl,out_bad HB.out.1 HB.out.2⟩
      intro x8 S8 v8 w8 hv hk hf
      obtain ⟨p8,c8,q8,d8,rfl,h1,h2⟩ := hv
      clear HF HR
      have HF := hidF <| (hf.tree h2).tree h1
      clear h1 h2
      clear hf
      have HR : Hid (_ = r) := hk
      clear hk
      go_wp2_with (first | (refine wl_store HF 3 ?_; intro wN hN; clear HF; have HF := hidF <| hN; clear hN))
      refine bodyPost_ret (end_row HF.out 3 rfl rfl rfl Tryz.underlying27 rfl (by kernel_rfl)) rfl ?_
      exact out_ok HR.out.symm HF.out (⟨p8,c8,q8,d8,rfl,HF.out.rep 0 rfl,HF.out.rep 1 rfl⟩)
end Go.Proofs.YtlgkghebemfpjaaGreatDoor.Pa
