/- chain, of function 41. chain, of function 79. chain, of function 163. chain, of function 178. -/
import Derived.Test.YtlgkghebemfpjaaGreatDoorQLn
import Derived.Deep.LoopGhost
namespace Go.Proofs.YtlgkghebemfpjaaGreatDoor.Pa
open Go.ChangeShapes Go.WideShapes Go.ChangeAt Go.RowKit
set_option linter.unusedVariables false
set_option linter.unusedSimpArgs false
set_option maxRecDepth 100000
set_option maxHeartbeats 8000000 in
theorem chain41_does (m : PM X) (lv : Int) (f : Nat) (HM : MadeC) (H : Does XR 41 (fun F => #[ptr F]) m) : Does XR 40 (fun F => #[ptr F,.func (.func 41) #[ptr F] #[],.int .i64 lv]) (chainM m lv f) := by
 intro w F A S hp hA hF hpre hn
 have HF : Hid (FR w F A [] [] S w) := FR.init [] hp hA hF (fun y h => (by cases h))
 obtain ⟨r,hr⟩ : ∃ r,(chainM m lv f) S = r := ⟨_,rfl⟩
 have HR : Hid ((chainM m lv f) S = r) := hr
 rw [hr] at hn ⊢
 have HN : Hid (r ≠ .out) := hn
 unfold chainM at HR
 clear hp hA hF hr hn
 have HH : Hid (Does XR 41 (fun F => #[ptr F]) m) := H
 have HMH : Hid MadeC := HM
 clear H HM
 go_enter Tryz.func40,Tryz.ntmps40
 go_wp2_with (first | (refine wl_alloc HF al27 ?_; intro wN b6 hN; clear HF; have HF := hidF <| hN; clear hN))
 refine DoesI.go (HH.out) (HF.out) (trivial) HR.out HN.out ?_ ?_
 · intro a er wN hb hk
   have HB : Hid (r = .bad a er ∧ Kept (On F) w wN) := ⟨hb,hk⟩
   clear hb hk
   go_wp2_with fail
   exact ⟨rfl,out_bad HB.out.1 HB.out.2⟩
 intro x1 S1 v1 w1 hv hk hf
 obtain ⟨p1,c1,q1,d1,rfl,h1,h2⟩ := hv
 clear HF HR
 have HF := hidF <| (hf.tree h2).tree h1
 clear h1 h2
 clear hf
 have HR : Hid (_ = r) := hk
 clear hk
 go_wp2_with (first | (refine wl_alloc HF al27 ?_; intro wN b7 hN; clear HF; have HF := hidF <| hN; clear hN) | (refine wl_store HF 0 ?_; intro wN hN; clear HF; have HF := hidF <| hN; clear hN))
 obtain ⟨f,rfl⟩ : ∃ g,f = g + 1 := by
  cases f with
  | zero => exact absurd HR.out.symm HN.out
  | succ g => exact ⟨g,rfl⟩
 rw [chainG_eq] at HR
 refine DoesI.go (operation_does lv) (HF.out) (trivial) HR.out HN.out ?_ ?_
 · intro a er wN hb hk
   have HB : Hid (r = .bad a er ∧ Kept (On F) w wN) := ⟨hb,hk⟩
   clear hb hk
   go_wp2_with fail
   exact ⟨rfl,out_bad HB.out.1 HB.out.2⟩
 intro x2 S2 v2 w2 hv hk hf
 cases hv
 clear HF HR
 have HF := hidF <| hf
 clear hf
 have HR : Hid (_ = r) := hk
 clear hk
 have HF1 : Hid (FR w F A [(b7,27,#[.int .i64 x1.k,.int .i64 x1.op,.int .i64 x1.vk,.int .i64 x1.vn,.string ⟨x1.vs.toArray⟩,.string ⟨x1.tb.toArray⟩,.string ⟨x1.nm.toArray⟩,.int .i64 x1.col,.bool x1.dn,.int .i64 x1.a,.slice p1 x1.ar.n c1,.slice q1 x1.sb.n d1]),(b6,27,#[.int .i64 0,.int .i64 0,.int .i64 0,.int .i64 0,.string ⟨#[]⟩,.string ⟨#[]⟩,.string ⟨#[]⟩,.int .i64 0,.bool false,.int .i64 0,.slice none 0 0,.slice none 0 0])] _ S2 w2) := HF.out
 clear HF
 have HR : Hid (chainH m lv f x2 x1 S2 = r) := HR.out
 go_wp2_with fail
 go_loopg [8] f (fun (gk : Nat) (v8 : Value) (wr : World) => ∃ (op : Int) (e : X) (Sr : PS) (p q : Option Addr) (c d : Nat),v8 = .int .i64 op ∧ Hid (FR w F A [(b7,27,#[.int .i64 e.k,.int .i64 e.op,.int .i64 e.vk,.int .i64 e.vn,.string ⟨e.vs.toArray⟩,.string ⟨e.tb.toArray⟩,.string ⟨e.nm.toArray⟩,.int .i64 e.col,.bool e.dn,.int .i64 e.a,.slice p e.ar.n c,.slice q e.sb.n d]),(b6,27,#[.int .i64 0,.int .i64 0,.int .i64 0,.int .i64 0,.string ⟨#[]⟩,.string ⟨#[]⟩,.string ⟨#[]⟩,.int .i64 0,.bool false,.int .i64 0,.slice none 0 0,.slice none 0 0])] [(.slice p e.ar.n c,e.ar.dt),(.slice q e.sb.n d,e.sb.dt)] Sr wr) ∧ Hid (chainH m lv gk op e Sr = r))
 case atStart => exact ⟨x2,x1,S2,p1,q1,c1,d1,rfl,HF1,HR⟩
 case round =>
  obtain ⟨op,e,Sr,p,q,c,d,rfl,HF,HR⟩ := hrel
  clear HF1
  by_cases hop : op = 0
  · subst hop
    have HR : Hid (PM.ret e Sr = r) := HR.out
    go_wp2_with (first | (refine wl_load HF 0 Tryz.underlying27 ?_) | (refine wl_store HF 1 ?_; intro wN hN; clear HF; have HF := hidF <| hN; clear hN))
    refine bodyPost_ret (end_row HF.out 1 rfl rfl rfl Tryz.underlying27 rfl (by kernel_rfl)) rfl ?_
    exact out_ok HR.out.symm HF.out (⟨p,c,q,d,rfl,HF.out.rep 0 rfl,HF.out.rep 1 rfl⟩)
  · have HR : Hid ((m.then fun b => (madeM (opX 4 op false e.a 2 (e.flat ++ b.flat) .none)).then fun e' => chainG m lv gk e') Sr = r) := by have h := HR.out; unfold chainH at h; rw [if_neg hop] at h; exact h
    go_wp2_with fail
    have HF := hidF <| (HF.out).drew
    refine region_L (k := 10) (S := SFR w F A [(b7,27,#[.int .i64 e.k,.int .i64 e.op,.int .i64 e.vk,.int .i64 e.vn,.string ⟨e.vs.toArray⟩,.string ⟨e.tb.toArray⟩,.string ⟨e.nm.toArray⟩,.int .i64 e.col,.bool e.dn,.int .i64 e.a,.slice p e.ar.n c,.slice q e.sb.n d]),(b6,27,#[.int .i64 0,.int .i64 0,.int .i64 0,.int .i64 0,.string ⟨#[]⟩,.string ⟨#[]⟩,.string ⟨#[]⟩,.int .i64 0,.bool false,.int .i64 0,.slice none 0 0,.slice none 0 0])]) (by kernel_rfl) ?_
    simp only [List.size_toArray,List.length_cons,List.length_nil,Nat.zero_add,Nat.reduceAdd,Array.replicate]
    refine pL 0 (ptr F) HF.out.s ?_
    try simp only [Act.put,sI,sS,sZ]
    refine pL 1 (.int .i64 op) HF.out.s ?_
    try simp only [Act.put,sI,sS,sZ]
    refine pL 2 (.pointer (some ⟨b7,9,none⟩)) HF.out.s ?_
    try simp only [Act.put,sI,sS,sZ]
    refine fL 3 0 lv3 HF ?_
    try simp only [Act.put,sI,sS,sZ]
    refine lL 4 0 Tryz.underlying27 HF ?_
    try simp only [Act.put,sI,sS,sZ]
    refine pL 5 (.func (.func 41) #[ptr F] #[]) HF.out.s ?_
    try simp only [Act.put,sI,sS,sZ]
    refine onL (j := 6) (fun K hK => ?_)
    go_wp2_with fail
    refine DoesI.go (HH.out) (HF.out) (trivial) HR.out HN.out ?_ ?_
    · intro a er wN hb hk
      have HB : Hid (r = .bad a er ∧ Kept (On F) w wN) := ⟨hb,hk⟩
      clear hb hk
      go_wp2_with fail
      exact ⟨rfl,out_bad HB.out.1 HB.out.2⟩
    intro x3 S3 v3 w3 hv hk hf
    obtain ⟨p3,c3,q3,d3,rfl,h1,h2⟩ := hv
    clear HF HR
    have HF := hidF <| (hf.tree h2).tree h1
    clear h1 h2
    clear hf
    have HR : Hid (_ = r) := hk
    clear hk
    go_wp2_with fail
    refine hK.out _ _ ⟨fun _ => HF.out.s, ?_⟩
    clear hK K
    try simp only [Act.put,sI,sS,sZ]
    refine onL (j := 7) (fun K hK => ?_)
    go_wp2_with fail
    have HF2 : Hid (FR _ _ _ _ _ _ _) := HF.out.row _ 27 2 (e.flat ++ x3.flat) ((xc_rep (HF.out.trep 2 rfl) (HF.out.trep 3 rfl)).append (xc_rep (HF.out.trep 0 rfl) (HF.out.trep 1 rfl)))
    clear HF
    have HF := hidF <| HF2.out
    clear HF2
    refine hK.out _ _ ⟨fun _ => HF.out.s, ?_⟩
    clear hK K
    try simp only [Act.put,sI,sS,sZ]
    refine pL 8 (.agg #[.int .i64 4,.int .i64 op,.int .i64 0,.int .i64 0,.string ⟨#[]⟩,.string ⟨#[]⟩,.string ⟨#[]⟩,.int .i64 0,.bool false,.int .i64 e.a,.slice (some ⟨w3.heap.size,0,none⟩) 2 2,.slice none 0 0]) HF.out.s ?_
    try simp only [Act.put,sI,sS,sZ]
    refine onL (j := 9) (fun K hK => ?_)
    go_wp2_with fail
    refine DoesI.go (HMH.out (opX 4 op false e.a 2 (e.flat ++ x3.flat) .none) _ _ none 0) (HF.out) (⟨HF.out.trep 0 rfl,Rep.nil none 0⟩) HR.out HN.out ?_ ?_
    · intro a er wN hb hk
      have HB : Hid (r = .bad a er ∧ Kept (On F) w wN) := ⟨hb,hk⟩
      clear hb hk
      go_wp2_with fail
      exact ⟨rfl,out_bad HB.out.1 HB.out.2⟩
    intro x4 S4 v4 w4 hv hk hf
    obtain ⟨p4,c4,q4,d4,rfl,h1,h2⟩ := hv
    clear HF HR
    have HF := hidF <| (hf.tree h2).tree h1
    clear h1 h2
    clear hf
    have HR : Hid (_ = r) := hk
    clear hk
    go_wp2_with fail
    refine hK.out _ _ ⟨fun _ => HF.out.s, ?_⟩
    clear hK K
    try simp only [Act.put,sI,sS,sZ]
    refine onL (j := 10) (fun K hK => ?_)
    refine op_store HF 0 ?_
    intro wS hS
    clear HF
    have HF := hidF <| hS
    clear hS
    refine hK.out _ _ ⟨fun e => absurd rfl e, ?_⟩
    clear hK K
    try simp only [Act.put,sI,sS,sZ]
    refine doneL ?_
    go_wp2_with fail
    have HR : Hid (chainG m lv gk x4 S4 = r) := HR.out
    obtain ⟨g,rfl⟩ : ∃ g,gk = g + 1 := by
     cases gk with
     | zero => exact absurd HR.out.symm HN.out
     | succ g => exact ⟨g,rfl⟩
    rw [chainG_eq] at HR
    refine DoesI.go (operation_does lv) (HF.out) (trivial) HR.out HN.out ?_ ?_
    · intro a er wN hb hk
      have HB : Hid (r = .bad a er ∧ Kept (On F) w wN) := ⟨hb,hk⟩
      clear hb hk
      go_wp2_with fail
      exact ⟨rfl,out_bad HB.out.1 HB.out.2⟩
    intro x5 S5 v5 w5 hv hk hf
    cases hv
    clear HF HR
    have HF := hidF <| hf
    clear hf
    have HR : Hid (_ = r) := hk
    clear hk
    go_wp2_with fail
    go_roundg g
    case measure => omega
    case rel => exact ⟨x5,x4,S5,p4,q4,c4,d4,rfl,HF.out.less (fun x h => h) (fun y h => by simp at h ⊢; rcases h with rfl | rfl <;> simp) HF.out.ap,HR⟩
set_option maxHeartbeats 8000000 in
theorem chain79_does (m : PM X) (lv : Int) (f : Nat) (HM : MadeC) (H : Does XR 79 (fun F => #[ptr F]) m) : Does XR 40 (fun F => #[ptr F,.func (.func 79) #[ptr F] #[],.int .i64 lv]) (chainM m lv f) := by
 intro w F A S hp hA hF hpre hn
 have HF : Hid (FR w F A [] [] S w) := FR.init [] hp hA hF (fun y h => (by cases h))
 obtain ⟨r,hr⟩ : ∃ r,(chainM m lv f) S = r := ⟨_,rfl⟩
 have HR : Hid ((chainM m lv f) S = r) := hr
 rw [hr] at hn ⊢
 have HN : Hid (r ≠ .out) := hn
 unfold chainM at HR
 clear hp hA hF hr hn
 have HH : Hid (Does XR 79 (fun F => #[ptr F]) m) := H
 have HMH : Hid MadeC := HM
 clear H HM
 go_enter Tryz.func40,Tryz.ntmps40
 go_wp2_with (first | (refine wl_alloc HF al27 ?_; intro wN b6 hN; clear HF; have HF := hidF <| hN; clear hN))
 refine DoesI.go (HH.out) (HF.out) (trivial) HR.out HN.out ?_ ?_
 · intro a er wN hb hk
   have HB : Hid (r = .bad a er ∧ Kept (On F) w wN) := ⟨hb,hk⟩
   clear hb hk
   go_wp2_with fail
   exact ⟨rfl,out_bad HB.out.1 HB.out.2⟩
 intro x1 S1 v1 w1 hv hk hf
 obtain ⟨p1,c1,q1,d1,rfl,h1,h2⟩ := hv
 clear HF HR
 have HF := hidF <| (hf.tree h2).tree h1
 clear h1 h2
 clear hf
 have HR : Hid (_ = r) := hk
 clear hk
 go_wp2_with (first | (refine wl_alloc HF al27 ?_; intro wN b7 hN; clear HF; have HF := hidF <| hN; clear hN) | (refine wl_store HF 0 ?_; intro wN hN; clear HF; have HF := hidF <| hN; clear hN))
 obtain ⟨f,rfl⟩ : ∃ g,f = g + 1 := by
  cases f with
  | zero => exact absurd HR.out.symm HN.out
  | succ g => exact ⟨g,rfl⟩
 rw [chainG_eq] at HR
 refine DoesI.go (operation_does lv) (HF.out) (trivial) HR.out HN.out ?_ ?_
 · intro a er wN hb hk
   have HB : Hid (r = .bad a er ∧ Kept (On F) w wN) := ⟨hb,hk⟩
   clear hb hk
   go_wp2_with fail
   exact ⟨rfl,out_bad HB.out.1 HB.out.2⟩
 intro x2 S2 v2 w2 hv hk hf
 cases hv
 clear HF HR
 have HF := hidF <| hf
 clear hf
 have HR : Hid (_ = r) := hk
 clear hk
 have HF1 : Hid (FR w F A [(b7,27,#[.int .i64 x1.k,.int .i64 x1.op,.int .i64 x1.vk,.int .i64 x1.vn,.string ⟨x1.vs.toArray⟩,.string ⟨x1.tb.toArray⟩,.string ⟨x1.nm.toArray⟩,.int .i64 x1.col,.bool x1.dn,.int .i64 x1.a,.slice p1 x1.ar.n c1,.slice q1 x1.sb.n d1]),(b6,27,#[.int .i64 0,.int .i64 0,.int .i64 0,.int .i64 0,.string ⟨#[]⟩,.string ⟨#[]⟩,.string ⟨#[]⟩,.int .i64 0,.bool false,.int .i64 0,.slice none 0 0,.slice none 0 0])] _ S2 w2) := HF.out
 clear HF
 have HR : Hid (chainH m lv f x2 x1 S2 = r) := HR.out
 go_wp2_with fail
 go_loopg [8] f (fun (gk : Nat) (v8 : Value) (wr : World) => ∃ (op : Int) (e : X) (Sr : PS) (p q : Option Addr) (c d : Nat),v8 = .int .i64 op ∧ Hid (FR w F A [(b7,27,#[.int .i64 e.k,.int .i64 e.op,.int .i64 e.vk,.int .i64 e.vn,.string ⟨e.vs.toArray⟩,.string ⟨e.tb.toArray⟩,.string ⟨e.nm.toArray⟩,.int .i64 e.col,.bool e.dn,.int .i64 e.a,.slice p e.ar.n c,.slice q e.sb.n d]),(b6,27,#[.int .i64 0,.int .i64 0,.int .i64 0,.int .i64 0,.string ⟨#[]⟩,.string ⟨#[]⟩,.string ⟨#[]⟩,.int .i64 0,.bool false,.int .i64 0,.slice none 0 0,.slice none 0 0])] [(.slice p e.ar.n c,e.ar.dt),(.slice q e.sb.n d,e.sb.dt)] Sr wr) ∧ Hid (chainH m lv gk op e Sr = r))
 case atStart => exact ⟨x2,x1,S2,p1,q1,c1,d1,rfl,HF1,HR⟩
 case round =>
  obtain ⟨op,e,Sr,p,q,c,d,rfl,HF,HR⟩ := hrel
  clear HF1
  by_cases hop : op = 0
  · subst hop
    have HR : Hid (PM.ret e Sr = r) := HR.out
    go_wp2_with (first | (refine wl_load HF 0 Tryz.underlying27 ?_) | (refine wl_store HF 1 ?_; intro wN hN; clear HF; have HF := hidF <| hN; clear hN))
    refine bodyPost_ret (end_row HF.out 1 rfl rfl rfl Tryz.underlying27 rfl (by kernel_rfl)) rfl ?_
    exact out_ok HR.out.symm HF.out (⟨p,c,q,d,rfl,HF.out.rep 0 rfl,HF.out.rep 1 rfl⟩)
  · have HR : Hid ((m.then fun b => (madeM (opX 4 op false e.a 2 (e.flat ++ b.flat) .none)).then fun e' => chainG m lv gk e') Sr = r) := by have h := HR.out; unfold chainH at h; rw [if_neg hop] at h; exact h
    go_wp2_with fail
    have HF := hidF <| (HF.out).drew
    refine region_L (k := 10) (S := SFR w F A [(b7,27,#[.int .i64 e.k,.int .i64 e.op,.int .i64 e.vk,.int .i64 e.vn,.string ⟨e.vs.toArray⟩,.string ⟨e.tb.toArray⟩,.string ⟨e.nm.toArray⟩,.int .i64 e.col,.bool e.dn,.int .i64 e.a,.slice p e.ar.n c,.slice q e.sb.n d]),(b6,27,#[.int .i64 0,.int .i64 0,.int .i64 0,.int .i64 0,.string ⟨#[]⟩,.string ⟨#[]⟩,.string ⟨#[]⟩,.int .i64 0,.bool false,.int .i64 0,.slice none 0 0,.slice none 0 0])]) (by kernel_rfl) ?_
    simp only [List.size_toArray,List.length_cons,List.length_nil,Nat.zero_add,Nat.reduceAdd,Array.replicate]
    refine pL 0 (ptr F) HF.out.s ?_
    try simp only [Act.put,sI,sS,sZ]
    refine pL 1 (.int .i64 op) HF.out.s ?_
    try simp only [Act.put,sI,sS,sZ]
    refine pL 2 (.pointer (some ⟨b7,9,none⟩)) HF.out.s ?_
    try simp only [Act.put,sI,sS,sZ]
    refine fL 3 0 lv3 HF ?_
    try simp only [Act.put,sI,sS,sZ]
    refine lL 4 0 Tryz.underlying27 HF ?_
    try simp only [Act.put,sI,sS,sZ]
    refine pL 5 (.func (.func 79) #[ptr F] #[]) HF.out.s ?_
    try simp only [Act.put,sI,sS,sZ]
    refine onL (j := 6) (fun K hK => ?_)
    go_wp2_with fail
    refine DoesI.go (HH.out) (HF.out) (trivial) HR.out HN.out ?_ ?_
    · intro a er wN hb hk
      have HB : Hid (r = .bad a er ∧ Kept (On F) w wN) := ⟨hb,hk⟩
      clear hb hk
      go_wp2_with fail
      exact ⟨rfl,out_bad HB.out.1 HB.out.2⟩
    intro x3 S3 v3 w3 hv hk hf
    obtain ⟨p3,c3,q3,d3,rfl,h1,h2⟩ := hv
    clear HF HR
    have HF := hidF <| (hf.tree h2).tree h1
    clear h1 h2
    clear hf
    have HR : Hid (_ = r) := hk
    clear hk
    go_wp2_with fail
    refine hK.out _ _ ⟨fun _ => HF.out.s, ?_⟩
    clear hK K
    try simp only [Act.put,sI,sS,sZ]
    refine onL (j := 7) (fun K hK => ?_)
    go_wp2_with fail
    have HF2 : Hid (FR _ _ _ _ _ _ _) := HF.out.row _ 27 2 (e.flat ++ x3.flat) ((xc_rep (HF.out.trep 2 rfl) (HF.out.trep 3 rfl)).append (xc_rep (HF.out.trep 0 rfl) (HF.out.trep 1 rfl)))
    clear HF
    have HF := hidF <| HF2.out
    clear HF2
    refine hK.out _ _ ⟨fun _ => HF.out.s, ?_⟩
    clear hK K
    try simp only [Act.put,sI,sS,sZ]
    refine pL 8 (.agg #[.int .i64 4,.int .i64 op,.int .i64 0,.int .i64 0,.string ⟨#[]⟩,.string ⟨#[]⟩,.string ⟨#[]⟩,.int .i64 0,.bool false,.int .i64 e.a,.slice (some ⟨w3.heap.size,0,none⟩) 2 2,.slice none 0 0]) HF.out.s ?_
    try simp only [Act.put,sI,sS,sZ]
    refine onL (j := 9) (fun K hK => ?_)
    go_wp2_with fail
    refine DoesI.go (HMH.out (opX 4 op false e.a 2 (e.flat ++ x3.flat) .none) _ _ none 0) (HF.out) (⟨HF.out.trep 0 rfl,Rep.nil none 0⟩) HR.out HN.out ?_ ?_
    · intro a er wN hb hk
      have HB : Hid (r = .bad a er ∧ Kept (On F) w wN) := ⟨hb,hk⟩
      clear hb hk
      go_wp2_with fail
      exact ⟨rfl,out_bad HB.out.1 HB.out.2⟩
    intro x4 S4 v4 w4 hv hk hf
    obtain ⟨p4,c4,q4,d4,rfl,h1,h2⟩ := hv
    clear HF HR
    have HF := hidF <| (hf.tree h2).tree h1
    clear h1 h2
    clear hf
    have HR : Hid (_ = r) := hk
    clear hk
    go_wp2_with fail
    refine hK.out _ _ ⟨fun _ => HF.out.s, ?_⟩
    clear hK K
    try simp only [Act.put,sI,sS,sZ]
    refine onL (j := 10) (fun K hK => ?_)
    refine op_store HF 0 ?_
    intro wS hS
    clear HF
    have HF := hidF <| hS
    clear hS
    refine hK.out _ _ ⟨fun e => absurd rfl e, ?_⟩
    clear hK K
    try simp only [Act.put,sI,sS,sZ]
    refine doneL ?_
    go_wp2_with fail
    have HR : Hid (chainG m lv gk x4 S4 = r) := HR.out
    obtain ⟨g,rfl⟩ : ∃ g,gk = g + 1 := by
     cases gk with
     | zero => exact absurd HR.out.symm HN.out
     | succ g => exact ⟨g,rfl⟩
    rw [chainG_eq] at HR
    refine DoesI.go (operation_does lv) (HF.out) (trivial) HR.out HN.out ?_ ?_
    · intro a er wN hb hk
      have HB : Hid (r = .bad a er ∧ Kept (On F) w wN) := ⟨hb,hk⟩
      clear hb hk
      go_wp2_with fail
      exact ⟨rfl,out_bad HB.out.1 HB.out.2⟩
    intro x5 S5 v5 w5 hv hk hf
    cases hv
    clear HF HR
    have HF := hidF <| hf
    clear hf
    have HR : Hid (_ = r) := hk
    clear hk
    go_wp2_with fail
    go_roundg g
    case measure => omega
    case rel => exact ⟨x5,x4,S5,p4,q4,c4,d4,rfl,HF.out.less (fun x h => h) (fun y h => by simp at h ⊢; rcases h with rfl | rfl <;> simp) HF.out.ap,HR⟩
set_option maxHeartbeats 8000000 in
theorem chain163_does (m : PM X) (lv : Int) (f : Nat) (HM : MadeC) (H : Does XR 163 (fun F => #[ptr F]) m) : Does XR 40 (fun F => #[ptr F,.func (.func 163) #[ptr F] #[],.int .i64 lv]) (chainM m lv f) := by
 intro w F A S hp hA hF hpre hn
 have HF : Hid (FR w F A [] [] S w) := FR.init [] hp hA hF (fun y h => (by cases h))
 obtain ⟨r,hr⟩ : ∃ r,(chainM m lv f) S = r := ⟨_,rfl⟩
 have HR : Hid ((chainM m lv f) S = r) := hr
 rw [hr] at hn ⊢
 have HN : Hid (r ≠ .out) := hn
 unfold chainM at HR
 clear hp hA hF hr hn
 have HH : Hid (Does XR 163 (fun F => #[ptr F]) m) := H
 have HMH : Hid MadeC := HM
 clear H HM
 go_enter Tryz.func40,Tryz.ntmps40
 go_wp2_with (first | (refine wl_alloc HF al27 ?_; intro wN b6 hN; clear HF; have HF := hidF <| hN; clear hN))
 refine DoesI.go (HH.out) (HF.out) (trivial) HR.out HN.out ?_ ?_
 · intro a er wN hb hk
   have HB : Hid (r = .bad a er ∧ Kept (On F) w wN) := ⟨hb,hk⟩
   clear hb hk
   go_wp2_with fail
   exact ⟨rfl,out_bad HB.out.1 HB.out.2⟩
 intro x1 S1 v1 w1 hv hk hf
 obtain ⟨p1,c1,q1,d1,rfl,h1,h2⟩ := hv
 clear HF HR
 have HF := hidF <| (hf.tree h2).tree h1
 clear h1 h2
 clear hf
 have HR : Hid (_ = r) := hk
 clear hk
 go_wp2_with (first | (refine wl_alloc HF al27 ?_; intro wN b7 hN; clear HF; have HF := hidF <| hN; clear hN) | (refine wl_store HF 0 ?_; intro wN hN; clear HF; have HF := hidF <| hN; clear hN))
 obtain ⟨f,rfl⟩ : ∃ g,f = g + 1 := by
  cases f with
  | zero => exact absurd HR.out.symm HN.out
  | succ g => exact ⟨g,rfl⟩
 rw [chainG_eq] at HR
 refine DoesI.go (operation_does lv) (HF.out) (trivial) HR.out HN.out ?_ ?_
 · intro a er wN hb hk
   have HB : Hid (r = .bad a er ∧ Kept (On F) w wN) := ⟨hb,hk⟩
   clear hb hk
   go_wp2_with fail
   exact ⟨rfl,out_bad HB.out.1 HB.out.2⟩
 intro x2 S2 v2 w2 hv hk hf
 cases hv
 clear HF HR
 have HF := hidF <| hf
 clear hf
 have HR : Hid (_ = r) := hk
 clear hk
 have HF1 : Hid (FR w F A [(b7,27,#[.int .i64 x1.k,.int .i64 x1.op,.int .i64 x1.vk,.int .i64 x1.vn,.string ⟨x1.vs.toArray⟩,.string ⟨x1.tb.toArray⟩,.string ⟨x1.nm.toArray⟩,.int .i64 x1.col,.bool x1.dn,.int .i64 x1.a,.slice p1 x1.ar.n c1,.slice q1 x1.sb.n d1]),(b6,27,#[.int .i64 0,.int .i64 0,.int .i64 0,.int .i64 0,.string ⟨#[]⟩,.string ⟨#[]⟩,.string ⟨#[]⟩,.int .i64 0,.bool false,.int .i64 0,.slice none 0 0,.slice none 0 0])] _ S2 w2) := HF.out
 clear HF
 have HR : Hid (chainH m lv f x2 x1 S2 = r) := HR.out
 go_wp2_with fail
 go_loopg [8] f (fun (gk : Nat) (v8 : Value) (wr : World) => ∃ (op : Int) (e : X) (Sr : PS) (p q : Option Addr) (c d : Nat),v8 = .int .i64 op ∧ Hid (FR w F A [(b7,27,#[.int .i64 e.k,.int .i64 e.op,.int .i64 e.vk,.int .i64 e.vn,.string ⟨e.vs.toArray⟩,.string ⟨e.tb.toArray⟩,.string ⟨e.nm.toArray⟩,.int .i64 e.col,.bool e.dn,.int .i64 e.a,.slice p e.ar.n c,.slice q e.sb.n d]),(b6,27,#[.int .i64 0,.int .i64 0,.int .i64 0,.int .i64 0,.string ⟨#[]⟩,.string ⟨#[]⟩,.string ⟨#[]⟩,.int .i64 0,.bool false,.int .i64 0,.slice none 0 0,.slice none 0 0])] [(.slice p e.ar.n c,e.ar.dt),(.slice q e.sb.n d,e.sb.dt)] Sr wr) ∧ Hid (chainH m lv gk op e Sr = r))
 case atStart => exact ⟨x2,x1,S2,p1,q1,c1,d1,rfl,HF1,HR⟩
 case round =>
  obtain ⟨op,e,Sr,p,q,c,d,rfl,HF,HR⟩ := hrel
  clear HF1
  by_cases hop : op = 0
  · subst hop
    have HR : Hid (PM.ret e Sr = r) := HR.out
    go_wp2_with (first | (refine wl_load HF 0 Tryz.underlying27 ?_) | (refine wl_store HF 1 ?_; intro wN hN; clear HF; have HF := hidF <| hN; clear hN))
    refine bodyPost_ret (end_row HF.out 1 rfl rfl rfl Tryz.underlying27 rfl (by kernel_rfl)) rfl ?_
    exact out_ok HR.out.symm HF.out (⟨p,c,q,d,rfl,HF.out.rep 0 rfl,HF.out.rep 1 rfl⟩)
  · have HR : Hid ((m.then fun b => (madeM (opX 4 op false e.a 2 (e.flat ++ b.flat) .none)).then fun e' => chainG m lv gk e') Sr = r) := by have h := HR.out; unfold chainH at h; rw [if_neg hop] at h; exact h
    go_wp2_with fail
    have HF := hidF <| (HF.out).drew
    refine region_L (k := 10) (S := SFR w F A [(b7,27,#[.int .i64 e.k,.int .i64 e.op,.int .i64 e.vk,.int .i64 e.vn,.string ⟨e.vs.toArray⟩,.string ⟨e.tb.toArray⟩,.string ⟨e.nm.toArray⟩,.int .i64 e.col,.bool e.dn,.int .i64 e.a,.slice p e.ar.n c,.slice q e.sb.n d]),(b6,27,#[.int .i64 0,.int .i64 0,.int .i64 0,.int .i64 0,.string ⟨#[]⟩,.string ⟨#[]⟩,.string ⟨#[]⟩,.int .i64 0,.bool false,.int .i64 0,.slice none 0 0,.slice none 0 0])]) (by kernel_rfl) ?_
    simp only [List.size_toArray,List.length_cons,List.length_nil,Nat.zero_add,Nat.reduceAdd,Array.replicate]
    refine pL 0 (ptr F) HF.out.s ?_
    try simp only [Act.put,sI,sS,sZ]
    refine pL 1 (.int .i64 op) HF.out.s ?_
    try simp only [Act.put,sI,sS,sZ]
    refine pL 2 (.pointer (some ⟨b7,9,none⟩)) HF.out.s ?_
    try simp only [Act.put,sI,sS,sZ]
    refine fL 3 0 lv3 HF ?_
    try simp only [Act.put,sI,sS,sZ]
    refine lL 4 0 Tryz.underlying27 HF ?_
    try simp only [Act.put,sI,sS,sZ]
    refine pL 5 (.func (.func 163) #[ptr F] #[]) HF.out.s ?_
    try simp only [Act.put,sI,sS,sZ]
    refine onL (j := 6) (fun K hK => ?_)
    go_wp2_with fail
    refine DoesI.go (HH.out) (HF.out) (trivial) HR.out HN.out ?_ ?_
    · intro a er wN hb hk
      have HB : Hid (r = .bad a er ∧ Kept (On F) w wN) := ⟨hb,hk⟩
      clear hb hk
      go_wp2_with fail
      exact ⟨rfl,out_bad HB.out.1 HB.out.2⟩
    intro x3 S3 v3 w3 hv hk hf
    obtain ⟨p3,c3,q3,d3,rfl,h1,h2⟩ := hv
    clear HF HR
    have HF := hidF <| (hf.tree h2).tree h1
    clear h1 h2
    clear hf
    have HR : Hid (_ = r) := hk
    clear hk
    go_wp2_with fail
    refine hK.out _ _ ⟨fun _ => HF.out.s, ?_⟩
    clear hK K
    try simp only [Act.put,sI,sS,sZ]
    refine onL (j := 7) (fun K hK => ?_)
    go_wp2_with fail
    have HF2 : Hid (FR _ _ _ _ _ _ _) := HF.out.row _ 27 2 (e.flat ++ x3.flat) ((xc_rep (HF.out.trep 2 rfl) (HF.out.trep 3 rfl)).append (xc_rep (HF.out.trep 0 rfl) (HF.out.trep 1 rfl)))
    clear HF
    have HF := hidF <| HF2.out
    clear HF2
    refine hK.out _ _ ⟨fun _ => HF.out.s, ?_⟩
    clear hK K
    try simp only [Act.put,sI,sS,sZ]
    refine pL 8 (.agg #[.int .i64 4,.int .i64 op,.int .i64 0,.int .i64 0,.string ⟨#[]⟩,.string ⟨#[]⟩,.string ⟨#[]⟩,.int .i64 0,.bool false,.int .i64 e.a,.slice (some ⟨w3.heap.size,0,none⟩) 2 2,.slice none 0 0]) HF.out.s ?_
    try simp only [Act.put,sI,sS,sZ]
    refine onL (j := 9) (fun K hK => ?_)
    go_wp2_with fail
    refine DoesI.go (HMH.out (opX 4 op false e.a 2 (e.flat ++ x3.flat) .none) _ _ none 0) (HF.out) (⟨HF.out.trep 0 rfl,Rep.nil none 0⟩) HR.out HN.out ?_ ?_
    · intro a er wN hb hk
      have HB : Hid (r = .bad a er ∧ Kept (On F) w wN) := ⟨hb,hk⟩
      clear hb hk
      go_wp2_with fail
      exact ⟨rfl,out_bad HB.out.1 HB.out.2⟩
    intro x4 S4 v4 w4 hv hk hf
    obtain ⟨p4,c4,q4,d4,rfl,h1,h2⟩ := hv
    clear HF HR
    have HF := hidF <| (hf.tree h2).tree h1
    clear h1 h2
    clear hf
    have HR : Hid (_ = r) := hk
    clear hk
    go_wp2_with fail
    refine hK.out _ _ ⟨fun _ => HF.out.s, ?_⟩
    clear hK K
    try simp only [Act.put,sI,sS,sZ]
    refine onL (j := 10) (fun K hK => ?_)
    refine op_store HF 0 ?_
    intro wS hS
    clear HF
    have HF := hidF <| hS
    clear hS
    refine hK.out _ _ ⟨fun e => absurd rfl e, ?_⟩
    clear hK K
    try simp only [Act.put,sI,sS,sZ]
    refine doneL ?_
    go_wp2_with fail
    have HR : Hid (chainG m lv gk x4 S4 = r) := HR.out
    obtain ⟨g,rfl⟩ : ∃ g,gk = g + 1 := by
     cases gk with
     | zero => exact absurd HR.out.symm HN.out
     | succ g => exact ⟨g,rfl⟩
    rw [chainG_eq] at HR
    refine DoesI.go (operation_does lv) (HF.out) (trivial) HR.out HN.out ?_ ?_
    · intro a er wN hb hk
      have HB : Hid (r = .bad a er ∧ Kept (On F) w wN) := ⟨hb,hk⟩
      clear hb hk
      go_wp2_with fail
      exact ⟨rfl,out_bad HB.out.1 HB.out.2⟩
    intro x5 S5 v5 w5 hv hk hf
    cases hv
    clear HF HR
    have HF := hidF <| hf
    clear hf
    have HR : Hid (_ = r) := hk
    clear hk
    go_wp2_with fail
    go_roundg g
    case measure => omega
    case rel => exact ⟨x5,x4,S5,p4,q4,c4,d4,rfl,HF.out.less (fun x h => h) (fun y h => by simp at h ⊢; rcases h with rfl | rfl <;> simp) HF.out.ap,HR⟩
set_option maxHeartbeats 8000000 in
theorem chain178_does (m : PM X) (lv : Int) (f : Nat) (HM : MadeC) (H : Does XR 178 (fun F => #[ptr F]) m) : Does XR 40 (fun F => #[ptr F,.func (.func 178) #[ptr F] #[],.int .i64 lv]) (chainM m lv f) := by
 intro w F A S hp hA hF hpre hn
 have HF : Hid (FR w F A [] [] S w) := FR.init [] hp hA hF (fun y h => (by cases h))
 obtain ⟨r,hr⟩ : ∃ r,(chainM m lv f) S = r := ⟨_,rfl⟩
 have HR : Hid ((chainM m lv f) S = r) := hr
 rw [hr] at hn ⊢
 have HN : Hid (r ≠ .out) := hn
 unfold chainM at HR
 clear hp hA hF hr hn
 have HH : Hid (Does XR 178 (fun F => #[ptr F]) m) := H
 have HMH : Hid MadeC := HM
 clear H HM
 go_enter Tryz.func40,Tryz.ntmps40
 go_wp2_with (first | (refine wl_alloc HF al27 ?_; intro wN b6 hN; clear HF; have HF := hidF <| hN; clear hN))
 refine DoesI.go (HH.out) (HF.out) (trivial) HR.out HN.out ?_ ?_
 · intro a er wN hb hk
   have HB : Hid (r = .bad a er ∧ Kept (On F) w wN) := ⟨hb,hk⟩
   clear hb hk
   go_wp2_with fail
   exact ⟨rfl,out_bad HB.out.1 HB.out.2⟩
 intro x1 S1 v1 w1 hv hk hf
 obtain ⟨p1,c1,q1,d1,rfl,h1,h2⟩ := hv
 clear HF HR
 have HF := hidF <| (hf.tree h2).tree h1
 clear h1 h2
 clear hf
 have HR : Hid (_ = r) := hk
 clear hk
 go_wp2_with (first | (refine wl_alloc HF al27 ?_; intro wN b7 hN; clear HF; have HF := hidF <| hN; clear hN) | (refine wl_store HF 0 ?_; intro wN hN; clear HF; have HF := hidF <| hN; clear hN))
 obtain ⟨f,rfl⟩ : ∃ g,f = g + 1 := by
  cases f with
  | zero => exact absurd HR.out.symm HN.out
  | succ g => exact ⟨g,rfl⟩
 rw [chainG_eq] at HR
 refine DoesI.go (operation_does lv) (HF.out) (trivial) HR.out HN.out ?_ ?_
 · intro a er wN hb hk
   have HB : Hid (r = .bad a er ∧ Kept (On F) w wN) := ⟨hb,hk⟩
   clear hb hk
   go_wp2_with fail
   exact ⟨rfl,out_bad HB.out.1 HB.out.2⟩
 intro x2 S2 v2 w2 hv hk hf
 cases hv
 clear HF HR
 have HF := hidF <| hf
 clear hf
 have HR : Hid (_ = r) := hk
 clear hk
 have HF1 : Hid (FR w F A [(b7,27,#[.int .i64 x1.k,.int .i64 x1.op,.int .i64 x1.vk,.int .i64 x1.vn,.string ⟨x1.vs.toArray⟩,.string ⟨x1.tb.toArray⟩,.string ⟨x1.nm.toArray⟩,.int .i64 x1.col,.bool x1.dn,.int .i64 x1.a,.slice p1 x1.ar.n c1,.slice q1 x1.sb.n d1]),(b6,27,#[.int .i64 0,.int .i64 0,.int .i64 0,.int .i64 0,.string ⟨#[]⟩,.string ⟨#[]⟩,.string ⟨#[]⟩,.int .i64 0,.bool false,.int .i64 0,.slice none 0 0,.slice none 0 0])] _ S2 w2) := HF.out
 clear HF
 have HR : Hid (chainH m lv f x2 x1 S2 = r) := HR.out
 go_wp2_with fail
 go_loopg [8] f (fun (gk : Nat) (v8 : Value) (wr : World) => ∃ (op : Int) (e : X) (Sr : PS) (p q : Option Addr) (c d : Nat),v8 = .int .i64 op ∧ Hid (FR w F A [(b7,27,#[.int .i64 e.k,.int .i64 e.op,.int .i64 e.vk,.int .i64 e.vn,.string ⟨e.vs.toArray⟩,.string ⟨e.tb.toArray⟩,.string ⟨e.nm.toArray⟩,.int .i64 e.col,.bool e.dn,.int .i64 e.a,.slice p e.ar.n c,.slice q e.sb.n d]),(b6,27,#[.int .i64 0,.int .i64 0,.int .i64 0,.int .i64 0,.string ⟨#[]⟩,.string ⟨#[]⟩,.string ⟨#[]⟩,.int .i64 0,.bool false,.int .i64 0,.slice none 0 0,.slice none 0 0])] [(.slice p e.ar.n c,e.ar.dt),(.slice q e.sb.n d,e.sb.dt)] Sr wr) ∧ Hid (chainH m lv gk op e Sr = r))
 case atStart => exact ⟨x2,x1,S2,p1,q1,c1,d1,rfl,HF1,HR⟩
 case round =>
  obtain ⟨op,e,Sr,p,q,c,d,rfl,HF,HR⟩ := hrel
  clear HF1
  by_cases hop : op = 0
  · subst hop
    have HR : Hid (PM.ret e Sr = r) := HR.out
    go_wp2_with (first | (refine wl_load HF 0 Tryz.underlying27 ?_) | (refine wl_store HF 1 ?_; intro wN hN; clear HF; have HF := hidF <| hN; clear hN))
    refine bodyPost_ret (end_row HF.out 1 rfl rfl rfl Tryz.underlying27 rfl (by kernel_rfl)) rfl ?_
    exact out_ok HR.out.symm HF.out (⟨p,c,q,d,rfl,HF.out.rep 0 rfl,HF.out.rep 1 rfl⟩)
  · have HR : Hid ((m.then fun b => (madeM (opX 4 op false e.a 2 (e.flat ++ b.flat) .none)).then fun e' => chainG m lv gk e') Sr = r) := by have h := HR.out; unfold chainH at h; rw [if_neg hop] at h; exact h
    go_wp2_with fail
    have HF := hidF <| (HF.out).drew
    refine region_L (k := 10) (S := SFR w F A [(b7,27,#[.int .i64 e.k,.int .i64 e.op,.int .i64 e.vk,.int .i64 e.vn,.string ⟨e.vs.toArray⟩,.string ⟨e.tb.toArray⟩,.string ⟨e.nm.toArray⟩,.int .i64 e.col,.bool e.dn,.int .i64 e.a,.slice p e.ar.n c,.slice q e.sb.n d]),(b6,27,#[.int .i64 0,.int .i64 0,.int .i64 0,.int .i64 0,.string ⟨#[]⟩,.string ⟨#[]⟩,.string ⟨#[]⟩,.int .i64 0,.bool false,.int .i64 0,.slice none 0 0,.slice none 0 0])]) (by kernel_rfl) ?_
    simp only [List.size_toArray,List.length_cons,List.length_nil,Nat.zero_add,Nat.reduceAdd,Array.replicate]
    refine pL 0 (ptr F) HF.out.s ?_
    try simp only [Act.put,sI,sS,sZ]
    refine pL 1 (.int .i64 op) HF.out.s ?_
    try simp only [Act.put,sI,sS,sZ]
    refine pL 2 (.pointer (some ⟨b7,9,none⟩)) HF.out.s ?_
    try simp only [Act.put,sI,sS,sZ]
    refine fL 3 0 lv3 HF ?_
    try simp only [Act.put,sI,sS,sZ]
    refine lL 4 0 Tryz.underlying27 HF ?_
    try simp only [Act.put,sI,sS,sZ]
    refine pL 5 (.func (.func 178) #[ptr F] #[]) HF.out.s ?_
    try simp only [Act.put,sI,sS,sZ]
    refine onL (j := 6) (fun K hK => ?_)
    go_wp2_with fail
    refine DoesI.go (HH.out) (HF.out) (trivial) HR.out HN.out ?_ ?_
    · intro a er wN hb hk
      have HB : Hid (r = .bad a er ∧ Kept (On F) w wN) := ⟨hb,hk⟩
      clear hb hk
      go_wp2_with fail
      exact ⟨rfl,out_bad HB.out.1 HB.out.2⟩
    intro x3 S3 v3 w3 hv hk hf
    obtain ⟨p3,c3,q3,d3,rfl,h1,h2⟩ := hv
    clear HF HR
    have HF := hidF <| (hf.tree h2).tree h1
    clear h1 h2
    clear hf
    have HR : Hid (_ = r) := hk
    clear hk
    go_wp2_with fail
    refine hK.out _ _ ⟨fun _ => HF.out.s, ?_⟩
    clear hK K
    try simp only [Act.put,sI,sS,sZ]
    refine onL (j := 7) (fun K hK => ?_)
    go_wp2_with fail
    have HF2 : Hid (FR _ _ _ _ _ _ _) := HF.out.row _ 27 2 (e.flat ++ x3.flat) ((xc_rep (HF.out.trep 2 rfl) (HF.out.trep 3 rfl)).append (xc_rep (HF.out.trep 0 rfl) (HF.out.trep 1 rfl)))
    clear HF
    have HF := hidF <| HF2.out
    clear HF2
    refine hK.out _ _ ⟨fun _ => HF.out.s, ?_⟩
    clear hK K
    try simp only [Act.put,sI,sS,sZ]
    refine pL 8 (.agg #[.int .i64 4,.int .i64 op,.int .i64 0,.int .i64 0,.string ⟨#[]⟩,.string ⟨#[]⟩,.string ⟨#[]⟩,.int .i64 0,.bool false,.int .i64 e.a,.slice (some ⟨w3.heap.size,0,none⟩) 2 2,.slice none 0 0]) HF.out.s ?_
    try simp only [Act.put,sI,sS,sZ]
    refine onL (j := 9) (fun K hK => ?_)
    go_wp2_with fail
    refine DoesI.go (HMH.out (opX 4 op false e.a 2 (e.flat ++ x3.flat) .none) _ _ none 0) (HF.out) (⟨HF.out.trep 0 rfl,Rep.nil none 0⟩) HR.out HN.out ?_ ?_
    · intro a er wN hb hk
      have HB : Hid (r = .bad a er ∧ Kept (On F) w wN) := ⟨hb,hk⟩
      clear hb hk
      go_wp2_with fail
      exact ⟨rfl,out_bad HB.out.1 HB.out.2⟩
    intro x4 S4 v4 w4 hv hk hf
    obtain ⟨p4,c4,q4,d4,rfl,h1,h2⟩ := hv
    clear HF HR
    have HF := hidF <| (hf.tree h2).tree h1
    clear h1 h2
    clear hf
    have HR : Hid (_ = r) := hk
    clear hk
    go_wp2_with fail
    refine hK.out _ _ ⟨fun _ => HF.out.s, ?_⟩
    clear hK K
    try simp only [Act.put,sI,sS,sZ]
    refine onL (j := 10) (fun K hK => ?_)
    refine op_store HF 0 ?_
    intro wS hS
    clear HF
    have HF := hidF <| hS
    clear hS
    refine hK.out _ _ ⟨fun e => absurd rfl e, ?_⟩
    clear hK K
    try simp only [Act.put,sI,sS,sZ]
    refine doneL ?_
    go_wp2_with fail
    have HR : Hid (chainG m lv gk x4 S4 = r) := HR.out
    obtain ⟨g,rfl⟩ : ∃ g,gk = g + 1 := by
     cases gk with
     | zero => exact absurd HR.out.symm HN.out
     | succ g => exact ⟨g,rfl⟩
    rw [chainG_eq] at HR
    refine DoesI.go (operation_does lv) (HF.out) (trivial) HR.out HN.out ?_ ?_
    · intro a er wN hb hk
      have HB : Hid (r = .bad a er ∧ Kept (On F) w wN) := ⟨hb,hk⟩
      clear hb hk
      go_wp2_with fail
      exact ⟨rfl,out_bad HB.out.1 HB.out.2⟩
    intro x5 S5 v5 w5 hv hk hf
    cases hv
    clear HF HR
    have HF := hidF <| hf
    clear hf
    have HR : Hid (_ = r) := hk
    clear hk
    go_wp2_with fail
    go_roundg g
    case measure => omega
    case rel => exact ⟨x5,x4,S5,p4,q4,c4,d4,rfl,HF.out.less (fun x h => h) (fun y h => by simp at h ⊢; rcases h with rfl | rfl <;> simp) HF.out.ap,HR⟩
end Go.Proofs.YtlgkghebemfpjaaGreatDoor.Pa
