/- whole, of an expression. whole, of a query. -/
import Derived.Test.YtlgkghebemfpjaaGreatDoorQWt
import Derived.Test.YtlgkghebemfpjaaGreatDoorQKn
namespace Go.Proofs.YtlgkghebemfpjaaGreatDoor.Pa
open Go.ChangeShapes Go.WideShapes Go.ChangeAt Go.RowKit
set_option linter.unusedVariables false
set_option maxRecDepth 100000
set_option maxHeartbeats 4000000 in
theorem whole18_lex (m : PM X) (s : ByteArray) (w : World) (hG : Glob w) (her : ¬ (tokV s.data.toList).2.2 = 0) : Calls Tryz.prog 18 #[.string s,.func (.func 19) #[] #[]] w (fun e w' => WOut (.agg #[.int .i64 0,.int .i64 0,.int .i64 0,.int .i64 0,.string ⟨#[]⟩,.string ⟨#[]⟩,.string ⟨#[]⟩,.int .i64 0,.bool false,.int .i64 0,.slice none 0 0,.slice none 0 0]) XR w (wholeM m s.data.toList) e w') := by
 obtain ⟨W1,hW1⟩ : ∃ W1,W1 = w.alloc (.cells #[.int .i64 0,.int .i64 0,.int .i64 0,.int .i64 0,.string ⟨#[]⟩,.string ⟨#[]⟩,.string ⟨#[]⟩,.int .i64 0,.bool false,.int .i64 0,.slice none 0 0,.slice none 0 0] 27) := ⟨_,rfl⟩
 obtain ⟨W2,hW2⟩ : ∃ W2,W2 = W1.alloc (.cells #[.int .i64 0] 3) := ⟨_,rfl⟩
 obtain ⟨W3,hW3⟩ : ∃ W3,W3 = W2.alloc (.cells #[.int .i64 0] 29) := ⟨_,rfl⟩
 have k1 : Kept (fun _ => False) w W1 := by rw [hW1]; exact (Kept.refl _ _).alloc _
 have k2 : Kept (fun _ => False) W1 W2 := by rw [hW2]; exact (Kept.refl _ _).alloc _
 have k3 : Kept (fun _ => False) W2 W3 := by rw [hW3]; exact (Kept.refl _ _).alloc _
 have s1 : W1.heap.size = w.heap.size + 1 := by rw [hW1]; exact Array.size_push _
 have s2 : W2.heap.size = W1.heap.size + 1 := by rw [hW2]; exact Array.size_push _
 have s3 : W3.heap.size = W2.heap.size + 1 := by rw [hW3]; exact Array.size_push _
 have kk : Kept (fun _ => False) w W3 := (k1.trans k2 (fun i q => .inl q)).trans k3 (fun i q => .inl q)
 have r3 : R3 W3 w.heap.size W1.heap.size W2.heap.size 27 #[.int .i64 0,.int .i64 0,.int .i64 0,.int .i64 0,.string ⟨#[]⟩,.string ⟨#[]⟩,.string ⟨#[]⟩,.int .i64 0,.bool false,.int .i64 0,.slice none 0 0,.slice none 0 0] 0 0 := by
  refine ⟨(k3.block _ (by omega) (fun z => z)).trans ((k2.block _ (by omega) (fun z => z)).trans ?_),(k3.block _ (by omega) (fun z => z)).trans ?_, ?_⟩
  · rw [hW1]; exact heap_alloc_new w _
  · rw [hW2]; exact heap_alloc_new W1 _
  · rw [hW3]; exact heap_alloc_new W2 _
 have HT : Hid (Calls Tryz.prog 35 #[.string s] W3 fun e w' => TokR W3 w' s.data.toList e) := tokens_is s W3 (hG.next (kk.below (Nat.le_refl _) (fun k q => q.elim)))
 have H1 : Hid (W1 = w.alloc (.cells #[.int .i64 0,.int .i64 0,.int .i64 0,.int .i64 0,.string ⟨#[]⟩,.string ⟨#[]⟩,.string ⟨#[]⟩,.int .i64 0,.bool false,.int .i64 0,.slice none 0 0,.slice none 0 0] 27)) := hW1
 have H2 : Hid (W2 = W1.alloc (.cells #[.int .i64 0] 3)) := hW2
 have H3 : Hid (W3 = W2.alloc (.cells #[.int .i64 0] 29)) := hW3
 have HR : Hid (R3 W3 w.heap.size W1.heap.size W2.heap.size 27 #[.int .i64 0,.int .i64 0,.int .i64 0,.int .i64 0,.string ⟨#[]⟩,.string ⟨#[]⟩,.string ⟨#[]⟩,.int .i64 0,.bool false,.int .i64 0,.slice none 0 0,.slice none 0 0] 0 0 ∧ Kept (fun _ => False) w W3 ∧ w.heap.size < W1.heap.size ∧ W1.heap.size < W2.heap.size) := ⟨r3,kk,by omega,by omega⟩
 have HWM : Hid (wholeM m s.data.toList = .no (tokV s.data.toList).2.1 (tokV s.data.toList).2.2) := if_pos her
 clear hW1 hW2 hW3 k1 k2 k3 s1 s2 s3 kk r3 hG
 go_enter_defers Tryz.func18,Tryz.ntmps18
 go_wp2_with (first | (refine st_al al27 ?_; rw [← H1.out]) | (refine st_al al3 ?_; rw [← H2.out]) | (refine st_al al29 ?_; rw [← H3.out]))
 refine Calls.mono HT.out ?_; rintro e w4 ⟨v,rfl,ho,kb⟩
 obtain ⟨x,hx⟩ : ∃ x,(tokV s.data.toList).2.1 = x := ⟨_,rfl⟩
 obtain ⟨y,hy⟩ : ∃ y,(tokV s.data.toList).2.2 = y := ⟨_,rfl⟩
 rw [hx,hy] at HWM
 rw [hy] at her
 rw [hx,hy]
 have k4 := kept_of kb
 have r4 := HR.out.1.kept k4 (fun z => z) (fun z => z) (fun z => z)
 have hne := HR.out.2.2
 obtain ⟨W5,e5,f5,k5,s5⟩ := one_store w4 _ 3 3 (.int .i64 0) (.int .i64 x) r4.h5 sv3 rfl
 have r5 : R3 W5 w.heap.size W1.heap.size W2.heap.size 27 #[.int .i64 0,.int .i64 0,.int .i64 0,.int .i64 0,.string ⟨#[]⟩,.string ⟨#[]⟩,.string ⟨#[]⟩,.int .i64 0,.bool false,.int .i64 0,.slice none 0 0,.slice none 0 0] x 0 := ⟨(k5.block _ (blk_lt r4.h4) (fun q => by have q' : w.heap.size = W1.heap.size := q; omega)).trans r4.h4,f5,(k5.block _ (blk_lt r4.h6) (fun q => by have q' : W2.heap.size = W1.heap.size := q; omega)).trans r4.h6⟩
 obtain ⟨W6,e6,f6,k6,s6⟩ := one_store W5 _ 29 29 (.int .i64 0) (.int .i64 y) r5.h6 sv29 rfl
 have r6 : R3 W6 w.heap.size W1.heap.size W2.heap.size 27 #[.int .i64 0,.int .i64 0,.int .i64 0,.int .i64 0,.string ⟨#[]⟩,.string ⟨#[]⟩,.string ⟨#[]⟩,.int .i64 0,.bool false,.int .i64 0,.slice none 0 0,.slice none 0 0] x y := ⟨(k6.block _ (blk_lt r5.h4) (fun q => by have q' : w.heap.size = W2.heap.size := q; omega)).trans r5.h4,(k6.block _ (blk_lt r5.h5) (fun q => by have q' : W1.heap.size = W2.heap.size := q; omega)).trans r5.h5,f6⟩
 have kall : Kept (fun _ => False) w W6 := by
  have q4 := HR.out.2.1.trans k4 (fun i q => .inl q)
  have q5 := (q4.trans k5 (fun i q => .inr (by have q' : i = W1.heap.size := q; omega)) : Kept (fun _ => False) w W5)
  exact q5.trans k6 (fun i q => .inr (by have q' : i = W2.heap.size := q; omega))
 have E5 : Hid ((storeVar 3 ⟨W1.heap.size,0,none⟩ (.int .i64 x)).run Tryz.prog w4 = .ok () W5) := e5
 have E6 : Hid ((storeVar 29 ⟨W2.heap.size,0,none⟩ (.int .i64 y)).run Tryz.prog W5 = .ok () W6) := e6
 have L6 : Hid ((loadVar 29 ⟨W2.heap.size,0,none⟩).run Tryz.prog W6 = .ok (.int .i64 y) W6) := lv29 ((cell_of_row W6 _ 0 _ 29 (0,0) r6.h6).trans rfl)
 have R6 : Hid (R3 W6 w.heap.size W1.heap.size W2.heap.size 27 #[.int .i64 0,.int .i64 0,.int .i64 0,.int .i64 0,.string ⟨#[]⟩,.string ⟨#[]⟩,.string ⟨#[]⟩,.int .i64 0,.bool false,.int .i64 0,.slice none 0 0,.slice none 0 0] x y ∧ Kept (fun _ => False) w W6) := ⟨r6,kall⟩
 clear hx hy k4 r4 hne e5 f5 k5 s5 r5 e6 f6 k6 s6 r6 kall kb ho HT
 go_wp2_with (first | (refine st_sto E5.out ?_) | (refine st_sto E6.out ?_) | (refine st_ld L6.out ?_))
 have RD : Hid (R3 W6.drew w.heap.size W1.heap.size W2.heap.size 27 #[.int .i64 0,.int .i64 0,.int .i64 0,.int .i64 0,.string ⟨#[]⟩,.string ⟨#[]⟩,.string ⟨#[]⟩,.int .i64 0,.bool false,.int .i64 0,.slice none 0 0,.slice none 0 0] x y) := ⟨R6.out.1.h4,R6.out.1.h5,R6.out.1.h6⟩
 refine wp_only ?_
 refine wp_region_held_drew (S := fun W => R3 W w.heap.size W1.heap.size W2.heap.size 27 #[.int .i64 0,.int .i64 0,.int .i64 0,.int .i64 0,.string ⟨#[]⟩,.string ⟨#[]⟩,.string ⟨#[]⟩,.int .i64 0,.bool false,.int .i64 0,.slice none 0 0,.slice none 0 0] x y) (by kernel_rfl) RD.out (fun hHeld => ?_)
 simp only [List.size_toArray,List.length_cons,List.length_nil,Nat.zero_add,Nat.reduceAdd,Array.replicate]
 refine tH 0 (.agg #[.int .i64 0,.int .i64 0,.int .i64 0,.int .i64 0,.string ⟨#[]⟩,.string ⟨#[]⟩,.string ⟨#[]⟩,.int .i64 0,.bool false,.int .i64 0,.slice none 0 0,.slice none 0 0]) RD.out ?_ ?_
 · exact fun W h => ex_load (run_loadVar_row W _ 27 27 _ (0,0) _ h.h4 Tryz.underlying27 rfl (by kernel_rfl))
 refine tH 1 (.int .i64 x) RD.out ?_ ?_
 · exact fun W h => ex_load (lv3 ((cell_of_row W _ 0 _ 3 (0,0) h.h5).trans rfl))
 refine tH 2 (.int .i64 y) RD.out ?_ ?_
 · exact fun W h => ex_load (lv29 ((cell_of_row W _ 0 _ 29 (0,0) h.h6).trans rfl))
 clear hHeld
 refine wpAnyH_ready (rs := [3]) (by kernel_rfl) (by simp) ?_
 refine AllReadyH.cons rfl (fun K hK => ?_) AllReadyH.nil
 rw [if_pos (by rfl)]
 have hst := row_again _ _ 27 27 _ RD.out.h4 (by kernel_rfl) (by rfl)
 refine op_sto hst ?_
 refine hK.out _ _ RD.out (fun _ => ?_)
 clear hK K hst
 refine wpAnyH_ready (rs := [4]) (by kernel_rfl) (by simp) ?_
 refine AllReadyH.cons rfl (fun K hK => ?_) AllReadyH.nil
 rw [if_pos (by rfl)]
 have hst := one_again _ _ 3 3 _ RD.out.h5 sv3 rfl
 refine op_sto hst ?_
 refine hK.out _ _ RD.out (fun _ => ?_)
 clear hK K hst
 refine wpAnyH_ready (rs := [5]) (by kernel_rfl) (by simp) ?_
 refine AllReadyH.cons rfl (fun K hK => ?_) AllReadyH.nil
 rw [if_pos (by rfl)]
 have hst := one_again _ _ 29 29 _ RD.out.h6 sv29 rfl
 refine op_sto hst ?_
 refine hK.out _ _ RD.out (fun _ => ?_)
 clear hK K hst
 refine wpAnyH_done (by kernel_rfl) ?_ _
 unfold OnlyN
 go_wp2_with fail
 refine ⟨_,res3 RD.out rfl rfl rfl rfl Tryz.underlying27 rfl (by kernel_rfl),R6.out.2.drew, ?_⟩
 rw [HWM.out]
theorem caught36 {w w8 : World} {m : PM X} {l : List UInt8} {b5 b6 : Nat} {x y a er : Int} (h : R3 w8 w.heap.size b5 b6 27 #[.int .i64 0,.int .i64 0,.int .i64 0,.int .i64 0,.string ⟨#[]⟩,.string ⟨#[]⟩,.string ⟨#[]⟩,.int .i64 0,.bool false,.int .i64 0,.slice none 0 0,.slice none 0 0] x y) (hk : Kept (fun _ => False) w w8) (hm : wholeM m l = .no a er) (hb : w.heap.size < b5 ∧ b5 < b6) {tmps : Array Value} {dargs : Array Value} (h4 : tmps.getD 4 undef = ptr w.heap.size) (h5 : tmps.getD 5 undef = ptr b5) (h6 : tmps.getD 6 undef = ptr b6) (hd : dargs = #[]) :
 Leaves Tryz.prog Tryz.f18 tmps (fun e w' => WOut (.agg #[.int .i64 0,.int .i64 0,.int .i64 0,.int .i64 0,.string ⟨#[]⟩,.string ⟨#[]⟩,.string ⟨#[]⟩,.int .i64 0,.bool false,.int .i64 0,.slice none 0 0,.slice none 0 0]) XR w (wholeM m l) e w') [{ target := .fn (.func 36) #[ptr b5,ptr b6],args := dargs }] (.panicking (flt a er)) w8 := by
 subst hd
 refine leaves_cons (f := 36) (args := #[ptr b5,ptr b6]) (by simp) (by simp [go_sem]) ?_
 refine (catch36_panicking b5 b6 x y a er w8 h.h5 h.h6 (by omega)).mono ?_
 rintro e u' w9 ⟨rfl,rfl,g5,g6,k9⟩
 have r9 : R3 w9 w.heap.size b5 b6 27 #[.int .i64 0,.int .i64 0,.int .i64 0,.int .i64 0,.string ⟨#[]⟩,.string ⟨#[]⟩,.string ⟨#[]⟩,.int .i64 0,.bool false,.int .i64 0,.slice none 0 0,.slice none 0 0] a er := ⟨(k9.block _ (blk_lt h.h4) (by omega)).trans h.h4,g5,g6⟩
 refine ⟨_,res3 r9 rfl h4 h5 h6 Tryz.underlying27 rfl (by kernel_rfl),hk.trans k9 (fun i q => .inr (by omega)), ?_⟩
 rw [hm]
set_option maxHeartbeats 4000000 in
theorem whole18_run (m : PM X) (HM : Does XR 19 (fun F => #[ptr F]) m) (s : ByteArray) (w : World) (hG : Glob w) (hT : Lib.Utf8Tabs 2 3 w) (her : (tokV s.data.toList).2.2 = 0) (hout : wholeM m s.data.toList ≠ .out) : Calls Tryz.prog 18 #[.string s,.func (.func 19) #[] #[]] w (fun e w' => WOut (.agg #[.int .i64 0,.int .i64 0,.int .i64 0,.int .i64 0,.string ⟨#[]⟩,.string ⟨#[]⟩,.string ⟨#[]⟩,.int .i64 0,.bool false,.int .i64 0,.slice none 0 0,.slice none 0 0]) XR w (wholeM m s.data.toList) e w') := by
 have h4w : 4 ≤ w.heap.size := by
  have := World.block_lt_of_cell? w _ (hT.2 0 (by omega)).1
  simp at this
  omega
 obtain ⟨W1,hW1⟩ : ∃ W1,W1 = w.alloc (.cells #[.int .i64 0,.int .i64 0,.int .i64 0,.int .i64 0,.string ⟨#[]⟩,.string ⟨#[]⟩,.string ⟨#[]⟩,.int .i64 0,.bool false,.int .i64 0,.slice none 0 0,.slice none 0 0] 27) := ⟨_,rfl⟩
 obtain ⟨W2,hW2⟩ : ∃ W2,W2 = W1.alloc (.cells #[.int .i64 0] 3) := ⟨_,rfl⟩
 obtain ⟨W3,hW3⟩ : ∃ W3,W3 = W2.alloc (.cells #[.int .i64 0] 29) := ⟨_,rfl⟩
 have k1 : Kept (fun _ => False) w W1 := by rw [hW1]; exact (Kept.refl _ _).alloc _
 have k2 : Kept (fun _ => False) W1 W2 := by rw [hW2]; exact (Kept.refl _ _).alloc _
 have k3 : Kept (fun _ => False) W2 W3 := by rw [hW3]; exact (Kept.refl _ _).alloc _
 have s1 : W1.heap.size = w.heap.size + 1 := by rw [hW1]; exact Array.size_push _
 have s2 : W2.heap.size = W1.heap.size + 1 := by rw [hW2]; exact Array.size_push _
 have s3 : W3.heap.size = W2.heap.size + 1 := by rw [hW3]; exact Array.size_push _
 have kk : Kept (fun _ => False) w W3 := (k1.trans k2 (fun i q => .inl q)).trans k3 (fun i q => .inl q)
 have r3 : R3 W3 w.heap.size W1.heap.size W2.heap.size 27 #[.int .i64 0,.int .i64 0,.int .i64 0,.int .i64 0,.string ⟨#[]⟩,.string ⟨#[]⟩,.string ⟨#[]⟩,.int .i64 0,.bool false,.int .i64 0,.slice none 0 0,.slice none 0 0] 0 0 := by
  refine ⟨(k3.block _ (by omega) (fun z => z)).trans ((k2.block _ (by omega) (fun z => z)).trans ?_),(k3.block _ (by omega) (fun z => z)).trans ?_, ?_⟩
  · rw [hW1]; exact heap_alloc_new w _
  · rw [hW2]; exact heap_alloc_new W1 _
  · rw [hW3]; exact heap_alloc_new W2 _
 have HT : Hid (Calls Tryz.prog 35 #[.string s] W3 fun e w' => TokR W3 w' s.data.toList e) := tokens_is s W3 (hG.next (kk.below (Nat.le_refl _) (fun k q => q.elim)))
 have H1 : Hid (W1 = w.alloc (.cells #[.int .i64 0,.int .i64 0,.int .i64 0,.int .i64 0,.string ⟨#[]⟩,.string ⟨#[]⟩,.string ⟨#[]⟩,.int .i64 0,.bool false,.int .i64 0,.slice none 0 0,.slice none 0 0] 27)) := hW1
 have H2 : Hid (W2 = W1.alloc (.cells #[.int .i64 0] 3)) := hW2
 have H3 : Hid (W3 = W2.alloc (.cells #[.int .i64 0] 29)) := hW3
 have HR : Hid (R3 W3 w.heap.size W1.heap.size W2.heap.size 27 #[.int .i64 0,.int .i64 0,.int .i64 0,.int .i64 0,.string ⟨#[]⟩,.string ⟨#[]⟩,.string ⟨#[]⟩,.int .i64 0,.bool false,.int .i64 0,.slice none 0 0,.slice none 0 0] 0 0 ∧ Kept (fun _ => False) w W3 ∧ w.heap.size < W1.heap.size ∧ W1.heap.size < W2.heap.size) := ⟨r3,kk,by omega,by omega⟩
 have hTk : ∀ W,Kept (fun _ => False) w W → Lib.Utf8Tabs 2 3 W := fun W kW => tabs_stay hT (kW.block 2 (by omega) (fun z => z)) (kW.block 3 (by omega) (fun z => z))
 have HTT : Hid ((∀ W,Kept (fun _ => False) w W → Lib.Utf8Tabs 2 3 W) ∧ 4 ≤ W3.heap.size) := ⟨hTk,by omega⟩
 have HTK : Hid (wholeM m s.data.toList = toWR (m ⟨tks (tokV s.data.toList).1,0,0⟩)) := if_neg (fun h => h her)
 have HER : Hid ((tokV s.data.toList).2.2 = 0) := her
 have HMH : Hid (Does XR 19 (fun F => #[ptr F]) m) := HM
 have HOUT : Hid (wholeM m s.data.toList ≠ .out) := hout
 have hmf : ∀ (fn : Fn) (first cap : Array Value) (w : World),(Instr.makeFunc fn first cap).run Tryz.prog w = .ok (.func fn first cap) w := fun _ _ _ _ => rfl
 clear hT hTk h4w her HM hout
 clear hW1 hW2 hW3 k1 k2 k3 s1 s2 s3 kk r3 hG
 go_enter_defers Tryz.func18,Tryz.ntmps18
 go_wp2_with (first | (refine st_al al27 ?_; rw [← H1.out]) | (refine st_al al3 ?_; rw [← H2.out]) | (refine st_al al29 ?_; rw [← H3.out]))
 refine Calls.mono HT.out ?_; rintro e w4 ⟨v,rfl,ho,kb⟩
 obtain ⟨x,hx⟩ : ∃ x,(tokV s.data.toList).2.1 = x := ⟨_,rfl⟩
 obtain ⟨y,hy⟩ : ∃ y : Int,y = (tokV s.data.toList).2.2 := ⟨_,rfl⟩
 rw [hx, ← hy]
 have k4 := kept_of kb
 have r4 := HR.out.1.kept k4 (fun z => z) (fun z => z) (fun z => z)
 have hne := HR.out.2.2
 obtain ⟨W5,e5,f5,k5,s5⟩ := one_store w4 _ 3 3 (.int .i64 0) (.int .i64 x) r4.h5 sv3 rfl
 have r5 : R3 W5 w.heap.size W1.heap.size W2.heap.size 27 #[.int .i64 0,.int .i64 0,.int .i64 0,.int .i64 0,.string ⟨#[]⟩,.string ⟨#[]⟩,.string ⟨#[]⟩,.int .i64 0,.bool false,.int .i64 0,.slice none 0 0,.slice none 0 0] x 0 := ⟨(k5.block _ (blk_lt r4.h4) (fun q => by have q' : w.heap.size = W1.heap.size := q; omega)).trans r4.h4,f5,(k5.block _ (blk_lt r4.h6) (fun q => by have q' : W2.heap.size = W1.heap.size := q; omega)).trans r4.h6⟩
 obtain ⟨W6,e6,f6,k6,s6⟩ := one_store W5 _ 29 29 (.int .i64 0) (.int .i64 y) r5.h6 sv29 rfl
 have r6 : R3 W6 w.heap.size W1.heap.size W2.heap.size 27 #[.int .i64 0,.int .i64 0,.int .i64 0,.int .i64 0,.string ⟨#[]⟩,.string ⟨#[]⟩,.string ⟨#[]⟩,.int .i64 0,.bool false,.int .i64 0,.slice none 0 0,.slice none 0 0] x y := ⟨(k6.block _ (blk_lt r5.h4) (fun q => by have q' : w.heap.size = W2.heap.size := q; omega)).trans r5.h4,(k6.block _ (blk_lt r5.h5) (fun q => by have q' : W1.heap.size = W2.heap.size := q; omega)).trans r5.h5,f6⟩
 have kall : Kept (fun _ => False) w W6 := by
  have q4 := HR.out.2.1.trans k4 (fun i q => .inl q)
  have q5 := (q4.trans k5 (fun i q => .inr (by have q' : i = W1.heap.size := q; omega)) : Kept (fun _ => False) w W5)
  exact q5.trans k6 (fun i q => .inr (by have q' : i = W2.heap.size := q; omega))
 have E5 : Hid ((storeVar 3 ⟨W1.heap.size,0,none⟩ (.int .i64 x)).run Tryz.prog w4 = .ok () W5) := e5
 have E6 : Hid ((storeVar 29 ⟨W2.heap.size,0,none⟩ (.int .i64 y)).run Tryz.prog W5 = .ok () W6) := e6
 have L6 : Hid ((loadVar 29 ⟨W2.heap.size,0,none⟩).run Tryz.prog W6 = .ok (.int .i64 y) W6) := lv29 ((cell_of_row W6 _ 0 _ 29 (0,0) r6.h6).trans rfl)
 have R6 : Hid (R3 W6 w.heap.size W1.heap.size W2.heap.size 27 #[.int .i64 0,.int .i64 0,.int .i64 0,.int .i64 0,.string ⟨#[]⟩,.string ⟨#[]⟩,.string ⟨#[]⟩,.int .i64 0,.bool false,.int .i64 0,.slice none 0 0,.slice none 0 0] x y ∧ Kept (fun _ => False) w W6) := ⟨r6,kall⟩
 have hsz : W6.heap.size = w4.heap.size := by omega
 have ho6 : OwnT W6 W3.heap.size v (tokV s.data.toList).1 := by
  refine ho.far (fun g hg => ?_)
  have hgl := World.ownsRow.lt ho g hg
  have q1 : g ≠ W1.heap.size := by have := HR.out.2.2; have := HR.out.1.h6; have := blk_lt this; omega
  have q2 : g ≠ W2.heap.size := by have := HR.out.1.h6; have := blk_lt this; omega
  exact (k6.block g (by omega) q2).trans (k5.block g hgl.2 q1)
 obtain ⟨W7,hW7⟩ : ∃ W7,W7 = W6.alloc (.cells #[v,.int .i64 0,.int .i64 0] 88) := ⟨_,rfl⟩
 have k7 : Kept (fun _ => False) W6 W7 := by rw [hW7]; exact (Kept.refl _ _).alloc _
 have s7 : W7.heap.size = W6.heap.size + 1 := by rw [hW7]; exact Array.size_push _
 have pa7 : PA W7 W6.heap.size ⟨tks (tokV s.data.toList).1,0,0⟩ := by rw [hW7]; exact pa_new ho6 HER.out (HTT.out.1 W6 kall) HTT.out.2
 have r7 := r6.kept k7 (fun z => z) (fun z => z) (fun z => z)
 have hb6 := blk_lt r6.h6
 have h7 : Kept (fun _ => False) w W7 := kall.trans k7 (fun i q => .inl q)
 have H7 : Hid (W7 = W6.alloc (.cells #[v,.int .i64 0,.int .i64 0] 88)) := hW7
 have HP : Hid (PA W7 W6.heap.size ⟨tks (tokV s.data.toList).1,0,0⟩ ∧ R3 W7 w.heap.size W1.heap.size W2.heap.size 27 #[.int .i64 0,.int .i64 0,.int .i64 0,.int .i64 0,.string ⟨#[]⟩,.string ⟨#[]⟩,.string ⟨#[]⟩,.int .i64 0,.bool false,.int .i64 0,.slice none 0 0,.slice none 0 0] x y ∧ Kept (fun _ => False) w W7 ∧ w.heap.size < W1.heap.size ∧ W1.heap.size < W2.heap.size ∧ W2.heap.size < W6.heap.size ∧ W6.heap.size < W7.heap.size) := ⟨pa7,r7,h7,HR.out.2.2.1,HR.out.2.2.2,hb6,by omega⟩
 have HC : Hid (m ⟨tks (tokV s.data.toList).1,0,0⟩ ≠ .out → Calls Tryz.prog 19 #[ptr W6.heap.size] W7 (Out XR W6.heap.size (fun g => W7.heap.size ≤ g) W7 (m ⟨tks (tokV s.data.toList).1,0,0⟩))) := fun hn => HMH.out W7 W6.heap.size (fun g => W7.heap.size ≤ g) _ pa7 (fun g hg => hg) (by omega) trivial hn
 have hy0 : y = 0 := hy.trans HER.out
 obtain ⟨gp,gn,gc,rfl⟩ : ∃ p n c,v = .slice p n c := by
  obtain ⟨g,c,q,_⟩ := OwnT.cells ho (fun e => (tok_wf HER.out).ne (by rw [e]; rfl))
  exact ⟨_,_,_,q⟩
 clear k4 r4 hne e5 f5 k5 s5 r5 e6 f6 k6 s6 r6 kall kb ho HT hsz ho6 hW7 k7 s7 pa7 r7 hb6 h7 R6 HR HTT hx hy HMH
 subst hy0
 go_wp2_with (first | (refine st_sto E5.out ?_) | (refine st_sto E6.out ?_) | (refine st_ld L6.out ?_) | (refine st_bx (bx88 _ _ _) ?_; rw [← H7.out]))
 generalize hm : m ⟨tks (tokV s.data.toList).1,0,0⟩ = r at HC HTK
 cases r with
 | out => exact absurd HTK.out HOUT.out
 | bad a er =>
   have HTK : Hid (wholeM m s.data.toList = .no a er) := HTK.out
   clear hm HOUT
   refine Calls.mono (HC.out (by intro q; cases q)) ?_; rintro e w8 ⟨rfl,k8⟩
   have r8 := HP.out.2.1.kept k8 (fun q => by have q' : w.heap.size = W6.heap.size := q; have := HP.out.2.2.2; omega) (fun q => by have q' : W1.heap.size = W6.heap.size := q; have := HP.out.2.2.2; omega) (fun q => by have q' : W2.heap.size = W6.heap.size := q; have := HP.out.2.2.2; omega)
   have K8 : Hid (R3 w8 w.heap.size W1.heap.size W2.heap.size 27 #[.int .i64 0,.int .i64 0,.int .i64 0,.int .i64 0,.string ⟨#[]⟩,.string ⟨#[]⟩,.string ⟨#[]⟩,.int .i64 0,.bool false,.int .i64 0,.slice none 0 0,.slice none 0 0] x 0 ∧ Kept (fun _ => False) w w8) := ⟨r8,HP.out.2.2.1.trans k8 (fun i q => .inr (by have q' : i = W6.heap.size := q; have := HP.out.2.2.2; omega))⟩
   clear k8 r8 HC
   go_wp2_with fail
   exact caught36 K8.out.1 K8.out.2 HTK.out (by have := HP.out.2.2.2; omega) rfl rfl rfl rfl
 | ok x' S' =>
   have HTK : Hid (wholeM m s.data.toList = if S'.hd.k ≠ 0 then .no S'.hd.a 170 else .yes x') := HTK.out
   clear hm HOUT
   refine Calls.mono (HC.out (by intro q; cases q)) ?_; rintro e w8 ⟨v8,rfl,hv8,pa8,k8⟩
   have r8 := HP.out.2.1.kept k8 (fun q => by have q' : w.heap.size = W6.heap.size := q; have := HP.out.2.2.2; omega) (fun q => by have q' : W1.heap.size = W6.heap.size := q; have := HP.out.2.2.2; omega) (fun q => by have q' : W2.heap.size = W6.heap.size := q; have := HP.out.2.2.2; omega)
   obtain ⟨p,c,q,d,rfl,hr1,hr2⟩ := hv8
   obtain ⟨W9,hW9⟩ : ∃ W9,W9 = w8.alloc (.cells #[.int .i64 0,.int .i64 0,.int .i64 0,.int .i64 0,.string ⟨#[]⟩,.string ⟨#[]⟩,.string ⟨#[]⟩,.int .i64 0,.bool false,.int .i64 0,.slice none 0 0,.slice none 0 0] 27) := ⟨_,rfl⟩
   have hb9 : W9.heap[w8.heap.size]? = some (.cells #[.int .i64 0,.int .i64 0,.int .i64 0,.int .i64 0,.string ⟨#[]⟩,.string ⟨#[]⟩,.string ⟨#[]⟩,.int .i64 0,.bool false,.int .i64 0,.slice none 0 0,.slice none 0 0] 27 (0,0)) := by rw [hW9]; exact heap_alloc_new w8 _
   have k9 : Kept (fun _ => False) w8 W9 := by rw [hW9]; exact (Kept.refl _ _).alloc _
   have s9 : W9.heap.size = w8.heap.size + 1 := by rw [hW9]; exact Array.size_push _
   have s8 := k8.size
   obtain ⟨W10,e10,f10,k10,s10⟩ := row_store W9 w8.heap.size 27 27 _ #[.int .i64 x'.k,.int .i64 x'.op,.int .i64 x'.vk,.int .i64 x'.vn,.string ⟨x'.vs.toArray⟩,.string ⟨x'.tb.toArray⟩,.string ⟨x'.nm.toArray⟩,.int .i64 x'.col,.bool x'.dn,.int .i64 x'.a,.slice p x'.ar.n c,.slice q x'.sb.n d] hb9 (by kernel_rfl) rfl (by rfl)
   have pa10 : PA W10 W6.heap.size S' := by
    obtain ⟨T,o,cap,hp⟩ := pa8
    have q1 := hp.lt
    have q2 := hp.bx.lt
    have q3 := hp.g3
    exact ⟨T,o,cap,(hp.same k9).kept k10 (fun q => by have q' : W6.heap.size = w8.heap.size := q; omega) (fun q => by have q' : T = w8.heap.size := q; omega) (fun q => by have q' : 2 = w8.heap.size := q; omega) (fun q => by have q' : 3 = w8.heap.size := q; omega)⟩
   have r10 := (r8.kept k9 (fun z => z) (fun z => z) (fun z => z)).kept k10 (fun q => by have q' : w.heap.size = w8.heap.size := q; have := HP.out.2.2.2; omega) (fun q => by have q' : W1.heap.size = w8.heap.size := q; have := HP.out.2.2.2; omega) (fun q => by have q' : W2.heap.size = w8.heap.size := q; have := HP.out.2.2.2; omega)
   have kw10 : Kept (fun _ => False) w W10 := ((HP.out.2.2.1.trans k8 (fun i q => .inr (by have q' : i = W6.heap.size := q; have := HP.out.2.2.2; omega))).trans k9 (fun i q => .inl q)).trans k10 (fun i q => .inr (by have q' : i = w8.heap.size := q; have := HP.out.2.2.2; omega))
   have H9 : Hid (W9 = w8.alloc (.cells #[.int .i64 0,.int .i64 0,.int .i64 0,.int .i64 0,.string ⟨#[]⟩,.string ⟨#[]⟩,.string ⟨#[]⟩,.int .i64 0,.bool false,.int .i64 0,.slice none 0 0,.slice none 0 0] 27)) := hW9
   have E10 : Hid ((storeVar 27 ⟨w8.heap.size,0,none⟩ (.agg #[.int .i64 x'.k,.int .i64 x'.op,.int .i64 x'.vk,.int .i64 x'.vn,.string ⟨x'.vs.toArray⟩,.string ⟨x'.tb.toArray⟩,.string ⟨x'.nm.toArray⟩,.int .i64 x'.col,.bool x'.dn,.int .i64 x'.a,.slice p x'.ar.n c,.slice q x'.sb.n d])).run Tryz.prog W9 = .ok () W10) := e10
   have K10 : Hid (R3 W10 w.heap.size W1.heap.size W2.heap.size 27 #[.int .i64 0,.int .i64 0,.int .i64 0,.int .i64 0,.string ⟨#[]⟩,.string ⟨#[]⟩,.string ⟨#[]⟩,.int .i64 0,.bool false,.int .i64 0,.slice none 0 0,.slice none 0 0] x 0 ∧ Kept (fun _ => False) w W10 ∧ W10.heap[w8.heap.size]? = some (.cells #[.int .i64 x'.k,.int .i64 x'.op,.int .i64 x'.vk,.int .i64 x'.vn,.string ⟨x'.vs.toArray⟩,.string ⟨x'.tb.toArray⟩,.string ⟨x'.nm.toArray⟩,.int .i64 x'.col,.bool x'.dn,.int .i64 x'.a,.slice p x'.ar.n c,.slice q x'.sb.n d] 27 (0,0)) ∧ W2.heap.size < w8.heap.size ∧ w8.heap.size < W10.heap.size) := ⟨r10,kw10,f10,by have := HP.out.2.2.2; omega,by omega⟩
   have kr : Kept (On w8.heap.size) w8 W10 := (k9.mono (fun i q => q.elim)).trans k10 (fun i q => .inl q)
   have HX : Hid ((Rep (fun g => W7.heap.size ≤ g) W10 (.slice p x'.ar.n c) x'.ar.dt) ∧ (Rep (fun g => W7.heap.size ≤ g) W10 (.slice q x'.sb.n d) x'.sb.dt)) := ⟨(hr1.mono kr.size (fun g a hg => ⟨a,kr.block g hg (fun q => by have q2 : g = w8.heap.size := q; omega)⟩)),(hr2.mono kr.size (fun g a hg => ⟨a,kr.block g hg (fun q => by have q2 : g = w8.heap.size := q; omega)⟩))⟩
   have HN : Hid (Calls Tryz.prog 37 #[ptr W6.heap.size] W10 fun e w' => e = .returned (.agg #[.int .i64 S'.hd.k,.string ⟨S'.hd.t.toArray⟩,.int .i64 S'.hd.n,.int .i64 S'.hd.a]) ∧ Kept (fun _ => False) W10 w') := next_is _ _ _ pa10
   have HRF : Hid (PA W10 W6.heap.size S') := pa10
   clear k8 r8 hr1 hr2 pa8 hW9 hb9 k9 s9 s8 e10 f10 k10 s10 pa10 r10 kw10 kr HC
   go_wp2_with (first | (refine st_al al27 ?_; rw [← H9.out]) | (refine st_sto E10.out ?_))
   refine Calls.mono HN.out ?_; rintro e w11 ⟨rfl,k11⟩
   obtain ⟨hk,hhk⟩ : ∃ k : Int,k = S'.hd.k := ⟨_,rfl⟩
   rw [← hhk]
   have fd := fd0 (.int .i64 hk) (.string ⟨S'.hd.t.toArray⟩) (.int .i64 S'.hd.n) (.int .i64 S'.hd.a)
   have K11 : Hid (Kept (fun _ => False) W10 w11) := k11
   have HK : Hid (hk = S'.hd.k) := hhk
   clear k11 hhk HN
   by_cases hz : hk = 0
   · subst hz
     have HTK : Hid (wholeM m s.data.toList = .yes x') := HTK.out.trans (if_neg (fun q => q HK.out.symm))
     have r11 := K10.out.1.kept K11.out (fun z => z) (fun z => z) (fun z => z)
     have f11 := (K11.out.block _ K10.out.2.2.2.2 (fun z => z)).trans K10.out.2.2.1
     have L11 : Hid ((loadVar 27 ⟨w8.heap.size,0,none⟩).run Tryz.prog w11 = .ok (.agg #[.int .i64 x'.k,.int .i64 x'.op,.int .i64 x'.vk,.int .i64 x'.vn,.string ⟨x'.vs.toArray⟩,.string ⟨x'.tb.toArray⟩,.string ⟨x'.nm.toArray⟩,.int .i64 x'.col,.bool x'.dn,.int .i64 x'.a,.slice p x'.ar.n c,.slice q x'.sb.n d]) w11) := run_loadVar_row w11 _ 27 27 _ (0,0) _ f11 Tryz.underlying27 rfl (by kernel_rfl)
     obtain ⟨W12,e12,f12,k12,s12⟩ := row_store w11 w.heap.size 27 27 _ #[.int .i64 x'.k,.int .i64 x'.op,.int .i64 x'.vk,.int .i64 x'.vn,.string ⟨x'.vs.toArray⟩,.string ⟨x'.tb.toArray⟩,.string ⟨x'.nm.toArray⟩,.int .i64 x'.col,.bool x'.dn,.int .i64 x'.a,.slice p x'.ar.n c,.slice q x'.sb.n d] r11.h4 (by kernel_rfl) rfl (by rfl)
     have hord := HP.out.2.2.2
     have h5' := (k12.block _ (blk_lt r11.h5) (fun q => by have q' : W1.heap.size = w.heap.size := q; omega)).trans r11.h5
     have h6' := (k12.block _ (blk_lt r11.h6) (fun q => by have q' : W2.heap.size = w.heap.size := q; omega)).trans r11.h6
     obtain ⟨W13,e13,f13,k13,s13⟩ := one_store W12 W1.heap.size 3 3 (.int .i64 x) (.int .i64 0) h5' sv3 rfl
     obtain ⟨W14,e14,f14,k14,s14⟩ := one_store W13 W2.heap.size 29 29 (.int .i64 0) (.int .i64 0) ((k13.block _ (blk_lt h6') (fun q => by have q' : W2.heap.size = W1.heap.size := q; omega)).trans h6') sv29 rfl
     have r14 : R3 W14 w.heap.size W1.heap.size W2.heap.size 27 #[.int .i64 x'.k,.int .i64 x'.op,.int .i64 x'.vk,.int .i64 x'.vn,.string ⟨x'.vs.toArray⟩,.string ⟨x'.tb.toArray⟩,.string ⟨x'.nm.toArray⟩,.int .i64 x'.col,.bool x'.dn,.int .i64 x'.a,.slice p x'.ar.n c,.slice q x'.sb.n d] 0 0 := ⟨(k14.block _ (by have := blk_lt f12; have := k13.size; omega) (fun q => by have q' : w.heap.size = W2.heap.size := q; omega)).trans ((k13.block _ (blk_lt f12) (fun q => by have q' : w.heap.size = W1.heap.size := q; omega)).trans f12),(k14.block _ (blk_lt f13) (fun q => by have q' : W1.heap.size = W2.heap.size := q; omega)).trans f13,f14⟩
     have kz : Kept (fun g => g = w.heap.size ∨ g = W1.heap.size ∨ g = W2.heap.size) W10 W14 := (((K11.out.mono (fun i q => q.elim)).trans k12 (fun i q => .inl (.inl q))).trans k13 (fun i q => .inl (.inr (.inl q)))).trans k14 (fun i q => .inl (.inr (.inr q)))
     have E12 : Hid ((storeVar 27 ⟨w.heap.size,0,none⟩ (.agg #[.int .i64 x'.k,.int .i64 x'.op,.int .i64 x'.vk,.int .i64 x'.vn,.string ⟨x'.vs.toArray⟩,.string ⟨x'.tb.toArray⟩,.string ⟨x'.nm.toArray⟩,.int .i64 x'.col,.bool x'.dn,.int .i64 x'.a,.slice p x'.ar.n c,.slice q x'.sb.n d])).run Tryz.prog w11 = .ok () W12) := e12
     have E13 : Hid ((storeVar 3 ⟨W1.heap.size,0,none⟩ (.int .i64 0)).run Tryz.prog W12 = .ok () W13) := e13
     have E14 : Hid ((storeVar 29 ⟨W2.heap.size,0,none⟩ (.int .i64 0)).run Tryz.prog W13 = .ok () W14) := e14
     have HZ : Hid (R3 W14 w.heap.size W1.heap.size W2.heap.size 27 #[.int .i64 x'.k,.int .i64 x'.op,.int .i64 x'.vk,.int .i64 x'.vn,.string ⟨x'.vs.toArray⟩,.string ⟨x'.tb.toArray⟩,.string ⟨x'.nm.toArray⟩,.int .i64 x'.col,.bool x'.dn,.int .i64 x'.a,.slice p x'.ar.n c,.slice q x'.sb.n d] 0 0 ∧ Kept (fun g => g = w.heap.size ∨ g = W1.heap.size ∨ g = W2.heap.size) W10 W14) := ⟨r14,kz⟩
     clear r11 f11 e12 f12 k12 s12 h5' h6' e13 f13 k13 s13 e14 f14 k14 s14 r14 kz hord HRF
     go_wp2_with (first | (refine st_ld L11.out ?_) | (refine st_sto E12.out ?_) | (refine st_sto E13.out ?_) | (refine st_sto E14.out ?_))
     refine leaves_cons (f := 36) (args := #[ptr W1.heap.size,ptr W2.heap.size]) (by simp) (by simp [go_sem]) ?_
     refine (catch36_idle W1.heap.size W2.heap.size W14).mono ?_
     rintro e u' w15 ⟨rfl,rfl,rfl⟩
     have hord := HP.out.2.2.2
     refine ⟨_,res3 HZ.out.1 rfl rfl rfl rfl Tryz.underlying27 rfl (by kernel_rfl),K10.out.2.1.trans HZ.out.2 (fun i q => .inr (by rcases q with q | q | q <;> omega)), ?_⟩
     rw [HTK.out]
     exact ⟨_,rfl,p,c,q,d,rfl,(HX.out.1.mono HZ.out.2.size (fun g a hg => ⟨by show w.heap.size ≤ g; omega,HZ.out.2.block g hg (fun q => by rcases q with q | q | q <;> omega)⟩)),(HX.out.2.mono HZ.out.2.size (fun g a hg => ⟨by show w.heap.size ≤ g; omega,HZ.out.2.block g hg (fun q => by rcases q with q | q | q <;> omega)⟩))⟩
   · have HTK : Hid (wholeM m s.data.toList = .no S'.hd.a 170) := HTK.out.trans (if_pos (fun q => hz (HK.out.trans q)))
     have HRF2 : Hid (Calls Tryz.prog 38 #[ptr W6.heap.size] w11 fun e w' => e = .panicked (flt S'.hd.a 170) ∧ Kept (fun _ => False) w11 w') := refuse_is _ _ _ (HRF.out.same K11.out)
     go_wp2_with fail
     refine Calls.mono HRF2.out ?_; rintro e w12 ⟨rfl,k12⟩
     have K12 : Hid (R3 w12 w.heap.size W1.heap.size W2.heap.size 27 #[.int .i64 0,.int .i64 0,.int .i64 0,.int .i64 0,.string ⟨#[]⟩,.string ⟨#[]⟩,.string ⟨#[]⟩,.int .i64 0,.bool false,.int .i64 0,.slice none 0 0,.slice none 0 0] x 0 ∧ Kept (fun _ => False) w w12) := ⟨(K10.out.1.kept K11.out (fun z => z) (fun z => z) (fun z => z)).kept k12 (fun z => z) (fun z => z) (fun z => z),(K10.out.2.1.trans K11.out (fun i q => .inl q)).trans k12 (fun i q => .inl q)⟩
     clear k12 HRF HRF2
     go_wp2_with fail
     exact caught36 K12.out.1 K12.out.2 HTK.out (by have := HP.out.2.2.2; omega) rfl rfl rfl rfl
theorem whole18_is (m : PM X) (HM : Does XR 19 (fun F => #[ptr F]) m) (s : ByteArray) (w : World) (hG : Glob w) (hT : Lib.Utf8Tabs 2 3 w) (hout : wholeM m s.data.toList ≠ .out) : Calls Tryz.prog 18 #[.string s,.func (.func 19) #[] #[]] w (fun e w' => WOut (.agg #[.int .i64 0,.int .i64 0,.int .i64 0,.int .i64 0,.string ⟨#[]⟩,.string ⟨#[]⟩,.string ⟨#[]⟩,.int .i64 0,.bool false,.int .i64 0,.slice none 0 0,.slice none 0 0]) XR w (wholeM m s.data.toList) e w') := by
 by_cases h : (tokV s.data.toList).2.2 = 0
 · exact whole18_run m HM s w hG hT h hout
 · exact whole18_lex m s w hG h
set_option maxHeartbeats 4000000 in
theorem whole30_lex (m : PM Qy) (s : ByteArray) (w : World) (hG : Glob w) (her : ¬ (tokV s.data.toList).2.2 = 0) : Calls Tryz.prog 30 #[.string s,.func (.func 31) #[] #[]] w (fun e w' => WOut (.agg #[.slice none 0 0,.slice none 0 0,.int .i64 0,.int .i64 0]) QR w (wholeM m s.data.toList) e w') := by
 obtain ⟨W1,hW1⟩ : ∃ W1,W1 = w.alloc (.cells #[.slice none 0 0,.slice none 0 0,.int .i64 0,.int .i64 0] 44) := ⟨_,rfl⟩
 obtain ⟨W2,hW2⟩ : ∃ W2,W2 = W1.alloc (.cells #[.int .i64 0] 3) := ⟨_,rfl⟩
 obtain ⟨W3,hW3⟩ : ∃ W3,W3 = W2.alloc (.cells #[.int .i64 0] 29) := ⟨_,rfl⟩
 have k1 : Kept (fun _ => False) w W1 := by rw [hW1]; exact (Kept.refl _ _).alloc _
 have k2 : Kept (fun _ => False) W1 W2 := by rw [hW2]; exact (Kept.refl _ _).alloc _
 have k3 : Kept (fun _ => False) W2 W3 := by rw [hW3]; exact (Kept.refl _ _).alloc _
 have s1 : W1.heap.size = w.heap.size + 1 := by rw [hW1]; exact Array.size_push _
 have s2 : W2.heap.size = W1.heap.size + 1 := by rw [hW2]; exact Array.size_push _
 have s3 : W3.heap.size = W2.heap.size + 1 := by rw [hW3]; exact Array.size_push _
 have kk : Kept (fun _ => False) w W3 := (k1.trans k2 (fun i q => .inl q)).trans k3 (fun i q => .inl q)
 have r3 : R3 W3 w.heap.size W1.heap.size W2.heap.size 44 #[.slice none 0 0,.slice none 0 0,.int .i64 0,.int .i64 0] 0 0 := by
  refine ⟨(k3.block _ (by omega) (fun z => z)).trans ((k2.block _ (by omega) (fun z => z)).trans ?_),(k3.block _ (by omega) (fun z => z)).trans ?_, ?_⟩
  · rw [hW1]; exact heap_alloc_new w _
  · rw [hW2]; exact heap_alloc_new W1 _
  · rw [hW3]; exact heap_alloc_new W2 _
 have HT : Hid (Calls Tryz.prog 35 #[.string s] W3 fun e w' => TokR W3 w' s.data.toList e) := tokens_is s W3 (hG.next (kk.below (Nat.le_refl _) (fun k q => q.elim)))
 have H1 : Hid (W1 = w.alloc (.cells #[.slice none 0 0,.slice none 0 0,.int .i64 0,.int .i64 0] 44)) := hW1
 have H2 : Hid (W2 = W1.alloc (.cells #[.int .i64 0] 3)) := hW2
 have H3 : Hid (W3 = W2.alloc (.cells #[.int .i64 0] 29)) := hW3
 have HR : Hid (R3 W3 w.heap.size W1.heap.size W2.heap.size 44 #[.slice none 0 0,.slice none 0 0,.int .i64 0,.int .i64 0] 0 0 ∧ Kept (fun _ => False) w W3 ∧ w.heap.size < W1.heap.size ∧ W1.heap.size < W2.heap.size) := ⟨r3,kk,by omega,by omega⟩
 have HWM : Hid (wholeM m s.data.toList = .no (tokV s.data.toList).2.1 (tokV s.data.toList).2.2) := if_pos her
 clear hW1 hW2 hW3 k1 k2 k3 s1 s2 s3 kk r3 hG
 go_enter_defers Tryz.func30,Tryz.ntmps30
 go_wp2_with (first | (refine st_al al44 ?_; rw [← H1.out]) | (refine st_al al3 ?_; rw [← H2.out]) | (refine st_al al29 ?_; rw [← H3.out]))
 refine Calls.mono HT.out ?_; rintro e w4 ⟨v,rfl,ho,kb⟩
 obtain ⟨x,hx⟩ : ∃ x,(tokV s.data.toList).2.1 = x := ⟨_,rfl⟩
 obtain ⟨y,hy⟩ : ∃ y,(tokV s.data.toList).2.2 = y := ⟨_,rfl⟩
 rw [hx,hy] at HWM
 rw [hy] at her
 rw [hx,hy]
 have k4 := kept_of kb
 have r4 := HR.out.1.kept k4 (fun z => z) (fun z => z) (fun z => z)
 have hne := HR.out.2.2
 obtain ⟨W5,e5,f5,k5,s5⟩ := one_store w4 _ 3 3 (.int .i64 0) (.int .i64 x) r4.h5 sv3 rfl
 have r5 : R3 W5 w.heap.size W1.heap.size W2.heap.size 44 #[.slice none 0 0,.slice none 0 0,.int .i64 0,.int .i64 0] x 0 := ⟨(k5.block _ (blk_lt r4.h4) (fun q => by have q' : w.heap.size = W1.heap.size := q; omega)).trans r4.h4,f5,(k5.block _ (blk_lt r4.h6) (fun q => by have q' : W2.heap.size = W1.heap.size := q; omega)).trans r4.h6⟩
 obtain ⟨W6,e6,f6,k6,s6⟩ := one_store W5 _ 29 29 (.int .i64 0) (.int .i64 y) r5.h6 sv29 rfl
 have r6 : R3 W6 w.heap.size W1.heap.size W2.heap.size 44 #[.slice none 0 0,.slice none 0 0,.int .i64 0,.int .i64 0] x y := ⟨(k6.block _ (blk_lt r5.h4) (fun q => by have q' : w.heap.size = W2.heap.size := q; omega)).trans r5.h4,(k6.block _ (blk_lt r5.h5) (fun q => by have q' : W1.heap.size = W2.heap.size := q; omega)).trans r5.h5,f6⟩
 have kall : Kept (fun _ => False) w W6 := by
  have q4 := HR.out.2.1.trans k4 (fun i q => .inl q)
  have q5 := (q4.trans k5 (fun i q => .inr (by have q' : i = W1.heap.size := q; omega)) : Kept (fun _ => False) w W5)
  exact q5.trans k6 (fun i q => .inr (by have q' : i = W2.heap.size := q; omega))
 have E5 : Hid ((storeVar 3 ⟨W1.heap.size,0,none⟩ (.int .i64 x)).run Tryz.prog w4 = .ok () W5) := e5
 have E6 : Hid ((storeVar 29 ⟨W2.heap.size,0,none⟩ (.int .i64 y)).run Tryz.prog W5 = .ok () W6) := e6
 have L6 : Hid ((loadVar 29 ⟨W2.heap.size,0,none⟩).run Tryz.prog W6 = .ok (.int .i64 y) W6) := lv29 ((cell_of_row W6 _ 0 _ 29 (0,0) r6.h6).trans rfl)
 have R6 : Hid (R3 W6 w.heap.size W1.heap.size W2.heap.size 44 #[.slice none 0 0,.slice none 0 0,.int .i64 0,.int .i64 0] x y ∧ Kept (fun _ => False) w W6) := ⟨r6,kall⟩
 clear hx hy k4 r4 hne e5 f5 k5 s5 r5 e6 f6 k6 s6 r6 kall kb ho HT
 go_wp2_with (first | (refine st_sto E5.out ?_) | (refine st_sto E6.out ?_) | (refine st_ld L6.out ?_))
 have RD : Hid (R3 W6.drew w.heap.size W1.heap.size W2.heap.size 44 #[.slice none 0 0,.slice none 0 0,.int .i64 0,.int .i64 0] x y) := ⟨R6.out.1.h4,R6.out.1.h5,R6.out.1.h6⟩
 refine wp_only ?_
 refine wp_region_held_drew (S := fun W => R3 W w.heap.size W1.heap.size W2.heap.size 44 #[.slice none 0 0,.slice none 0 0,.int .i64 0,.int .i64 0] x y) (by kernel_rfl) RD.out (fun hHeld => ?_)
 simp only [List.size_toArray,List.length_cons,List.length_nil,Nat.zero_add,Nat.reduceAdd,Array.replicate]
 refine tH 0 (.agg #[.slice none 0 0,.slice none 0 0,.int .i64 0,.int .i64 0]) RD.out ?_ ?_
 · exact fun W h => ex_load (run_loadVar_row W _ 44 44 _ (0,0) _ h.h4 Tryz.underlying44 rfl (by kernel_rfl))
 refine tH 1 (.int .i64 x) RD.out ?_ ?_
 · exact fun W h => ex_load (lv3 ((cell_of_row W _ 0 _ 3 (0,0) h.h5).trans rfl))
 refine tH 2 (.int .i64 y) RD.out ?_ ?_
 · exact fun W h => ex_load (lv29 ((cell_of_row W _ 0 _ 29 (0,0) h.h6).trans rfl))
 clear hHeld
 refine wpAnyH_ready (rs := [3]) (by kernel_rfl) (by simp) ?_
 refine AllReadyH.cons rfl (fun K hK => ?_) AllReadyH.nil
 rw [if_pos (by rfl)]
 have hst := row_again _ _ 44 44 _ RD.out.h4 (by kernel_rfl) (by rfl)
 refine op_sto hst ?_
 refine hK.out _ _ RD.out (fun _ => ?_)
 clear hK K hst
 refine wpAnyH_ready (rs := [4]) (by kernel_rfl) (by simp) ?_
 refine AllReadyH.cons rfl (fun K hK => ?_) AllReadyH.nil
 rw [if_pos (by rfl)]
 have hst := one_again _ _ 3 3 _ RD.out.h5 sv3 rfl
 refine op_sto hst ?_
 refine hK.out _ _ RD.out (fun _ => ?_)
 clear hK K hst
 refine wpAnyH_ready (rs := [5]) (by kernel_rfl) (by simp) ?_
 refine AllReadyH.cons rfl (fun K hK => ?_) AllReadyH.nil
 rw [if_pos (by rfl)]
 have hst := one_again _ _ 29 29 _ RD.out.h6 sv29 rfl
 refine op_sto hst ?_
 refine hK.out _ _ RD.out (fun _ => ?_)
 clear hK K hst
 refine wpAnyH_done (by kernel_rfl) ?_ _
 unfold OnlyN
 go_wp2_with fail
 refine ⟨_,res3 RD.out rfl rfl rfl rfl Tryz.underlying44 rfl (by kernel_rfl),R6.out.2.drew, ?_⟩
 rw [HWM.out]
theorem caught58 {w w8 : World} {m : PM Qy} {l : List UInt8} {b5 b6 : Nat} {x y a er : Int} (h : R3 w8 w.heap.size b5 b6 44 #[.slice none 0 0,.slice none 0 0,.int .i64 0,.int .i64 0] x y) (hk : Kept (fun _ => False) w w8) (hm : wholeM m l = .no a er) (hb : w.heap.size < b5 ∧ b5 < b6) {tmps : Array Value} {dargs : Array Value} (h4 : tmps.getD 4 undef = ptr w.heap.size) (h5 : tmps.getD 5 undef = ptr b5) (h6 : tmps.getD 6 undef = ptr b6) (hd : dargs = #[]) :
 Leaves Tryz.prog Tryz.f30 tmps (fun e w' => WOut (.agg #[.slice none 0 0,.slice none 0 0,.int .i64 0,.int .i64 0]) QR w (wholeM m l) e w') [{ target := .fn (.func 58) #[ptr b5,ptr b6],args := dargs }] (.panicking (flt a er)) w8 := by
 subst hd
 refine leaves_cons (f := 58) (args := #[ptr b5,ptr b6]) (by simp) (by simp [go_sem]) ?_
 refine (catch58_panicking b5 b6 x y a er w8 h.h5 h.h6 (by omega)).mono ?_
 rintro e u' w9 ⟨rfl,rfl,g5,g6,k9⟩
 have r9 : R3 w9 w.heap.size b5 b6 44 #[.slice none 0 0,.slice none 0 0,.int .i64 0,.int .i64 0] a er := ⟨(k9.block _ (blk_lt h.h4) (by omega)).trans h.h4,g5,g6⟩
 refine ⟨_,res3 r9 rfl h4 h5 h6 Tryz.underlying44 rfl (by kernel_rfl),hk.trans k9 (fun i q => .inr (by omega)), ?_⟩
 rw [hm]
set_option maxHeartbeats 4000000 in
theorem whole30_run (m : PM Qy) (HM : Does QR 31 (fun F => #[ptr F]) m) (s : ByteArray) (w : World) (hG : Glob w) (hT : Lib.Utf8Tabs 2 3 w) (her : (tokV s.data.toList).2.2 = 0) (hout : wholeM m s.data.toList ≠ .out) : Calls Tryz.prog 30 #[.string s,.func (.func 31) #[] #[]] w (fun e w' => WOut (.agg #[.slice none 0 0,.slice none 0 0,.int .i64 0,.int .i64 0]) QR w (wholeM m s.data.toList) e w') := by
 have h4w : 4 ≤ w.heap.size := by
  have := World.block_lt_of_cell? w _ (hT.2 0 (by omega)).1
  simp at this
  omega
 obtain ⟨W1,hW1⟩ : ∃ W1,W1 = w.alloc (.cells #[.slice none 0 0,.slice none 0 0,.int .i64 0,.int .i64 0] 44) := ⟨_,rfl⟩
 obtain ⟨W2,hW2⟩ : ∃ W2,W2 = W1.alloc (.cells #[.int .i64 0] 3) := ⟨_,rfl⟩
 obtain ⟨W3,hW3⟩ : ∃ W3,W3 = W2.alloc (.cells #[.int .i64 0] 29) := ⟨_,rfl⟩
 have k1 : Kept (fun _ => False) w W1 := by rw [hW1]; exact (Kept.refl _ _).alloc _
 have k2 : Kept (fun _ => False) W1 W2 := by rw [hW2]; exact (Kept.refl _ _).alloc _
 have k3 : Kept (fun _ => False) W2 W3 := by rw [hW3]; exact (Kept.refl _ _).alloc _
 have s1 : W1.heap.size = w.heap.size + 1 := by rw [hW1]; exact Array.size_push _
 have s2 : W2.heap.size = W1.heap.size + 1 := by rw [hW2]; exact Array.size_push _
 have s3 : W3.heap.size = W2.heap.size + 1 := by rw [hW3]; exact Array.size_push _
 have kk : Kept (fun _ => False) w W3 := (k1.trans k2 (fun i q => .inl q)).trans k3 (fun i q => .inl q)
 have r3 : R3 W3 w.heap.size W1.heap.size W2.heap.size 44 #[.slice none 0 0,.slice none 0 0,.int .i64 0,.int .i64 0] 0 0 := by
  refine ⟨(k3.block _ (by omega) (fun z => z)).trans ((k2.block _ (by omega) (fun z => z)).trans ?_),(k3.block _ (by omega) (fun z => z)).trans ?_, ?_⟩
  · rw [hW1]; exact heap_alloc_new w _
  · rw [hW2]; exact heap_alloc_new W1 _
  · rw [hW3]; exact heap_alloc_new W2 _
 have HT : Hid (Calls Tryz.prog 35 #[.string s] W3 fun e w' => TokR W3 w' s.data.toList e) := tokens_is s W3 (hG.next (kk.below (Nat.le_refl _) (fun k q => q.elim)))
 have H1 : Hid (W1 = w.alloc (.cells #[.slice none 0 0,.slice none 0 0,.int .i64 0,.int .i64 0] 44)) := hW1
 have H2 : Hid (W2 = W1.alloc (.cells #[.int .i64 0] 3)) := hW2
 have H3 : Hid (W3 = W2.alloc (.cells #[.int .i64 0] 29)) := hW3
 have HR : Hid (R3 W3 w.heap.size W1.heap.size W2.heap.size 44 #[.slice none 0 0,.slice none 0 0,.int .i64 0,.int .i64 0] 0 0 ∧ Kept (fun _ => False) w W3 ∧ w.heap.size < W1.heap.size ∧ W1.heap.size < W2.heap.size) := ⟨r3,kk,by omega,by omega⟩
 have hTk : ∀ W,Kept (fun _ => False) w W → Lib.Utf8Tabs 2 3 W := fun W kW => tabs_stay hT (kW.block 2 (by omega) (fun z => z)) (kW.block 3 (by omega) (fun z => z))
 have HTT : Hid ((∀ W,Kept (fun _ => False) w W → Lib.Utf8Tabs 2 3 W) ∧ 4 ≤ W3.heap.size) := ⟨hTk,by omega⟩
 have HTK : Hid (wholeM m s.data.toList = toWR (m ⟨tks (tokV s.data.toList).1,0,0⟩)) := if_neg (fun h => h her)
 have HER : Hid ((tokV s.data.toList).2.2 = 0) := her
 have HMH : Hid (Does QR 31 (fun F => #[ptr F]) m) := HM
 have HOUT : Hid (wholeM m s.data.toList ≠ .out) := hout
 have hmf : ∀ (fn : Fn) (first cap : Array Value) (w : World),(Instr.makeFunc fn first cap).run Tryz.prog w = .ok (.func fn first cap) w := fun _ _ _ _ => rfl
 clear hT hTk h4w her HM hout
 clear hW1 hW2 hW3 k1 k2 k3 s1 s2 s3 kk r3 hG
 go_enter_defers Tryz.func30,Tryz.ntmps30
 go_wp2_with (first | (refine st_al al44 ?_; rw [← H1.out]) | (refine st_al al3 ?_; rw [← H2.out]) | (refine st_al al29 ?_; rw [← H3.out]))
 refine Calls.mono HT.out ?_; rintro e w4 ⟨v,rfl,ho,kb⟩
 obtain ⟨x,hx⟩ : ∃ x,(tokV s.data.toList).2.1 = x := ⟨_,rfl⟩
 obtain ⟨y,hy⟩ : ∃ y : Int,y = (tokV s.data.toList).2.2 := ⟨_,rfl⟩
 rw [hx, ← hy]
 have k4 := kept_of kb
 have r4 := HR.out.1.kept k4 (fun z => z) (fun z => z) (fun z => z)
 have hne := HR.out.2.2
 obtain ⟨W5,e5,f5,k5,s5⟩ := one_store w4 _ 3 3 (.int .i64 0) (.int .i64 x) r4.h5 sv3 rfl
 have r5 : R3 W5 w.heap.size W1.heap.size W2.heap.size 44 #[.slice none 0 0,.slice none 0 0,.int .i64 0,.int .i64 0] x 0 := ⟨(k5.block _ (blk_lt r4.h4) (fun q => by have q' : w.heap.size = W1.heap.size := q; omega)).trans r4.h4,f5,(k5.block _ (blk_lt r4.h6) (fun q => by have q' : W2.heap.size = W1.heap.size := q; omega)).trans r4.h6⟩
 obtain ⟨W6,e6,f6,k6,s6⟩ := one_store W5 _ 29 29 (.int .i64 0) (.int .i64 y) r5.h6 sv29 rfl
 have r6 : R3 W6 w.heap.size W1.heap.size W2.heap.size 44 #[.slice none 0 0,.slice none 0 0,.int .i64 0,.int .i64 0] x y := ⟨(k6.block _ (blk_lt r5.h4) (fun q => by have q' : w.heap.size = W2.heap.size := q; omega)).trans r5.h4,(k6.block _ (blk_lt r5.h5) (fun q => by have q' : W1.heap.size = W2.heap.size := q; omega)).trans r5.h5,f6⟩
 have kall : Kept (fun _ => False) w W6 := by
  have q4 := HR.out.2.1.trans k4 (fun i q => .inl q)
  have q5 := (q4.trans k5 (fun i q => .inr (by have q' : i = W1.heap.size := q; omega)) : Kept (fun _ => False) w W5)
  exact q5.trans k6 (fun i q => .inr (by have q' : i = W2.heap.size := q; omega))
 have E5 : Hid ((storeVar 3 ⟨W1.heap.size,0,none⟩ (.int .i64 x)).run Tryz.prog w4 = .ok () W5) := e5
 have E6 : Hid ((storeVar 29 ⟨W2.heap.size,0,none⟩ (.int .i64 y)).run Tryz.prog W5 = .ok () W6) := e6
 have L6 : Hid ((loadVar 29 ⟨W2.heap.size,0,none⟩).run Tryz.prog W6 = .ok (.int .i64 y) W6) := lv29 ((cell_of_row W6 _ 0 _ 29 (0,0) r6.h6).trans rfl)
 have R6 : Hid (R3 W6 w.heap.size W1.heap.size W2.heap.size 44 #[.slice none 0 0,.slice none 0 0,.int .i64 0,.int .i64 0] x y ∧ Kept (fun _ => False) w W6) := ⟨r6,kall⟩
 have hsz : W6.heap.size = w4.heap.size := by omega
 have ho6 : OwnT W6 W3.heap.size v (tokV s.data.toList).1 := by
  refine ho.far (fun g hg => ?_)
  have hgl := World.ownsRow.lt ho g hg
  have q1 : g ≠ W1.heap.size := by have := HR.out.2.2; have := HR.out.1.h6; have := blk_lt this; omega
  have q2 : g ≠ W2.heap.size := by have := HR.out.1.h6; have := blk_lt this; omega
  exact (k6.block g (by omega) q2).trans (k5.block g hgl.2 q1)
 obtain ⟨W7,hW7⟩ : ∃ W7,W7 = W6.alloc (.cells #[v,.int .i64 0,.int .i64 0] 88) := ⟨_,rfl⟩
 have k7 : Kept (fun _ => False) W6 W7 := by rw [hW7]; exact (Kept.refl _ _).alloc _
 have s7 : W7.heap.size = W6.heap.size + 1 := by rw [hW7]; exact Array.size_push _
 have pa7 : PA W7 W6.heap.size ⟨tks (tokV s.data.toList).1,0,0⟩ := by rw [hW7]; exact pa_new ho6 HER.out (HTT.out.1 W6 kall) HTT.out.2
 have r7 := r6.kept k7 (fun z => z) (fun z => z) (fun z => z)
 have hb6 := blk_lt r6.h6
 have h7 : Kept (fun _ => False) w W7 := kall.trans k7 (fun i q => .inl q)
 have H7 : Hid (W7 = W6.alloc (.cells #[v,.int .i64 0,.int .i64 0] 88)) := hW7
 have HP : Hid (PA W7 W6.heap.size ⟨tks (tokV s.data.toList).1,0,0⟩ ∧ R3 W7 w.heap.size W1.heap.size W2.heap.size 44 #[.slice none 0 0,.slice none 0 0,.int .i64 0,.int .i64 0] x y ∧ Kept (fun _ => False) w W7 ∧ w.heap.size < W1.heap.size ∧ W1.heap.size < W2.heap.size ∧ W2.heap.size < W6.heap.size ∧ W6.heap.size < W7.heap.size) := ⟨pa7,r7,h7,HR.out.2.2.1,HR.out.2.2.2,hb6,by omega⟩
 have HC : Hid (m ⟨tks (tokV s.data.toList).1,0,0⟩ ≠ .out → Calls Tryz.prog 31 #[ptr W6.heap.size] W7 (Out QR W6.heap.size (fun g => W7.heap.size ≤ g) W7 (m ⟨tks (tokV s.data.toList).1,0,0⟩))) := fun hn => HMH.out W7 W6.heap.size (fun g => W7.heap.size ≤ g) _ pa7 (fun g hg => hg) (by omega) trivial hn
 have hy0 : y = 0 := hy.trans HER.out
 obtain ⟨gp,gn,gc,rfl⟩ : ∃ p n c,v = .slice p n c := by
  obtain ⟨g,c,q,_⟩ := OwnT.cells ho (fun e => (tok_wf HER.out).ne (by rw [e]; rfl))
  exact ⟨_,_,_,q⟩
 clear k4 r4 hne e5 f5 k5 s5 r5 e6 f6 k6 s6 r6 kall kb ho HT hsz ho6 hW7 k7 s7 pa7 r7 hb6 h7 R6 HR HTT hx hy HMH
 subst hy0
 go_wp2_with (first | (refine st_sto E5.out ?_) | (refine st_sto E6.out ?_) | (refine st_ld L6.out ?_) | (refine st_bx (bx88 _ _ _) ?_; rw [← H7.out]))
 generalize hm : m ⟨tks (tokV s.data.toList).1,0,0⟩ = r at HC HTK
 cases r with
 | out => exact absurd HTK.out HOUT.out
 | bad a er =>
   have HTK : Hid (wholeM m s.data.toList = .no a er) := HTK.out
   clear hm HOUT
   refine Calls.mono (HC.out (by intro q; cases q)) ?_; rintro e w8 ⟨rfl,k8⟩
   have r8 := HP.out.2.1.kept k8 (fun q => by have q' : w.heap.size = W6.heap.size := q; have := HP.out.2.2.2; omega) (fun q => by have q' : W1.heap.size = W6.heap.size := q; have := HP.out.2.2.2; omega) (fun q => by have q' : W2.heap.size = W6.heap.size := q; have := HP.out.2.2.2; omega)
   have K8 : Hid (R3 w8 w.heap.size W1.heap.size W2.heap.size 44 #[.slice none 0 0,.slice none 0 0,.int .i64 0,.int .i64 0] x 0 ∧ Kept (fun _ => False) w w8) := ⟨r8,HP.out.2.2.1.trans k8 (fun i q => .inr (by have q' : i = W6.heap.size := q; have := HP.out.2.2.2; omega))⟩
   clear k8 r8 HC
   go_wp2_with fail
   exact caught58 K8.out.1 K8.out.2 HTK.out (by have := HP.out.2.2.2; omega) rfl rfl rfl rfl
 | ok x' S' =>
   have HTK : Hid (wholeM m s.data.toList = if S'.hd.k ≠ 0 then .no S'.hd.a 170 else .yes x') := HTK.out
   clear hm HOUT
   refine Calls.mono (HC.out (by intro q; cases q)) ?_; rintro e w8 ⟨v8,rfl,hv8,pa8,k8⟩
   have r8 := HP.out.2.1.kept k8 (fun q => by have q' : w.heap.size = W6.heap.size := q; have := HP.out.2.2.2; omega) (fun q => by have q' : W1.heap.size = W6.heap.size := q; have := HP.out.2.2.2; omega) (fun q => by have q' : W2.heap.size = W6.heap.size := q; have := HP.out.2.2.2; omega)
   obtain ⟨p,c,q,d,rfl,hr1,hr2⟩ := hv8
   obtain ⟨W9,hW9⟩ : ∃ W9,W9 = w8.alloc (.cells #[.slice none 0 0,.slice none 0 0,.int .i64 0,.int .i64 0] 44) := ⟨_,rfl⟩
   have hb9 : W9.heap[w8.heap.size]? = some (.cells #[.slice none 0 0,.slice none 0 0,.int .i64 0,.int .i64 0] 44 (0,0)) := by rw [hW9]; exact heap_alloc_new w8 _
   have k9 : Kept (fun _ => False) w8 W9 := by rw [hW9]; exact (Kept.refl _ _).alloc _
   have s9 : W9.heap.size = w8.heap.size + 1 := by rw [hW9]; exact Array.size_push _
   have s8 := k8.size
   obtain ⟨W10,e10,f10,k10,s10⟩ := row_store W9 w8.heap.size 44 44 _ #[.slice p x'.se.n c,.slice q x'.od.n d,.int .i64 x'.li,.int .i64 x'.off] hb9 (by kernel_rfl) rfl (by rfl)
   have pa10 : PA W10 W6.heap.size S' := by
    obtain ⟨T,o,cap,hp⟩ := pa8
    have q1 := hp.lt
    have q2 := hp.bx.lt
    have q3 := hp.g3
    exact ⟨T,o,cap,(hp.same k9).kept k10 (fun q => by have q' : W6.heap.size = w8.heap.size := q; omega) (fun q => by have q' : T = w8.heap.size := q; omega) (fun q => by have q' : 2 = w8.heap.size := q; omega) (fun q => by have q' : 3 = w8.heap.size := q; omega)⟩
   have r10 := (r8.kept k9 (fun z => z) (fun z => z) (fun z => z)).kept k10 (fun q => by have q' : w.heap.size = w8.heap.size := q; have := HP.out.2.2.2; omega) (fun q => by have q' : W1.heap.size = w8.heap.size := q; have := HP.out.2.2.2; omega) (fun q => by have q' : W2.heap.size = w8.heap.size := q; have := HP.out.2.2.2; omega)
   have kw10 : Kept (fun _ => False) w W10 := ((HP.out.2.2.1.trans k8 (fun i q => .inr (by have q' : i = W6.heap.size := q; have := HP.out.2.2.2; omega))).trans k9 (fun i q => .inl q)).trans k10 (fun i q => .inr (by have q' : i = w8.heap.size := q; have := HP.out.2.2.2; omega))
   have H9 : Hid (W9 = w8.alloc (.cells #[.slice none 0 0,.slice none 0 0,.int .i64 0,.int .i64 0] 44)) := hW9
   have E10 : Hid ((storeVar 44 ⟨w8.heap.size,0,none⟩ (.agg #[.slice p x'.se.n c,.slice q x'.od.n d,.int .i64 x'.li,.int .i64 x'.off])).run Tryz.prog W9 = .ok () W10) := e10
   have K10 : Hid (R3 W10 w.heap.size W1.heap.size W2.heap.size 44 #[.slice none 0 0,.slice none 0 0,.int .i64 0,.int .i64 0] x 0 ∧ Kept (fun _ => False) w W10 ∧ W10.heap[w8.heap.size]? = some (.cells #[.slice p x'.se.n c,.slice q x'.od.n d,.int .i64 x'.li,.int .i64 x'.off] 44 (0,0)) ∧ W2.heap.size < w8.heap.size ∧ w8.heap.size < W10.heap.size) := ⟨r10,kw10,f10,by have := HP.out.2.2.2; omega,by omega⟩
   have kr : Kept (On w8.heap.size) w8 W10 := (k9.mono (fun i q => q.elim)).trans k10 (fun i q => .inl q)
   have HX : Hid ((Rep (fun g => W7.heap.size ≤ g) W10 (.slice p x'.se.n c) x'.se.dt) ∧ (Rep (fun g => W7.heap.size ≤ g) W10 (.slice q x'.od.n d) x'.od.dt)) := ⟨(hr1.mono kr.size (fun g a hg => ⟨a,kr.block g hg (fun q => by have q2 : g = w8.heap.size := q; omega)⟩)),(hr2.mono kr.size (fun g a hg => ⟨a,kr.block g hg (fun q => by have q2 : g = w8.heap.size := q; omega)⟩))⟩
   have HN : Hid (Calls Tryz.prog 37 #[ptr W6.heap.size] W10 fun e w' => e = .returned (.agg #[.int .i64 S'.hd.k,.string ⟨S'.hd.t.toArray⟩,.int .i64 S'.hd.n,.int .i64 S'.hd.a]) ∧ Kept (fun _ => False) W10 w') := next_is _ _ _ pa10
   have HRF : Hid (PA W10 W6.heap.size S') := pa10
   clear k8 r8 hr1 hr2 pa8 hW9 hb9 k9 s9 s8 e10 f10 k10 s10 pa10 r10 kw10 kr HC
   go_wp2_with (first | (refine st_al al44 ?_; rw [← H9.out]) | (refine st_sto E10.out ?_))
   refine Calls.mono HN.out ?_; rintro e w11 ⟨rfl,k11⟩
   obtain ⟨hk,hhk⟩ : ∃ k : Int,k = S'.hd.k := ⟨_,rfl⟩
   rw [← hhk]
   have fd := fd0 (.int .i64 hk) (.string ⟨S'.hd.t.toArray⟩) (.int .i64 S'.hd.n) (.int .i64 S'.hd.a)
   have K11 : Hid (Kept (fun _ => False) W10 w11) := k11
   have HK : Hid (hk = S'.hd.k) := hhk
   clear k11 hhk HN
   by_cases hz : hk = 0
   · subst hz
     have HTK : Hid (wholeM m s.data.toList = .yes x') := HTK.out.trans (if_neg (fun q => q HK.out.symm))
     have r11 := K10.out.1.kept K11.out (fun z => z) (fun z => z) (fun z => z)
     have f11 := (K11.out.block _ K10.out.2.2.2.2 (fun z => z)).trans K10.out.2.2.1
     have L11 : Hid ((loadVar 44 ⟨w8.heap.size,0,none⟩).run Tryz.prog w11 = .ok (.agg #[.slice p x'.se.n c,.slice q x'.od.n d,.int .i64 x'.li,.int .i64 x'.off]) w11) := run_loadVar_row w11 _ 44 44 _ (0,0) _ f11 Tryz.underlying44 rfl (by kernel_rfl)
     obtain ⟨W12,e12,f12,k12,s12⟩ := row_store w11 w.heap.size 44 44 _ #[.slice p x'.se.n c,.slice q x'.od.n d,.int .i64 x'.li,.int .i64 x'.off] r11.h4 (by kernel_rfl) rfl (by rfl)
     have hord := HP.out.2.2.2
     have h5' := (k12.block _ (blk_lt r11.h5) (fun q => by have q' : W1.heap.size = w.heap.size := q; omega)).trans r11.h5
     have h6' := (k12.block _ (blk_lt r11.h6) (fun q => by have q' : W2.heap.size = w.heap.size := q; omega)).trans r11.h6
     obtain ⟨W13,e13,f13,k13,s13⟩ := one_store W12 W1.heap.size 3 3 (.int .i64 x) (.int .i64 0) h5' sv3 rfl
     obtain ⟨W14,e14,f14,k14,s14⟩ := one_store W13 W2.heap.size 29 29 (.int .i64 0) (.int .i64 0) ((k13.block _ (blk_lt h6') (fun q => by have q' : W2.heap.size = W1.heap.size := q; omega)).trans h6') sv29 rfl
     have r14 : R3 W14 w.heap.size W1.heap.size W2.heap.size 44 #[.slice p x'.se.n c,.slice q x'.od.n d,.int .i64 x'.li,.int .i64 x'.off] 0 0 := ⟨(k14.block _ (by have := blk_lt f12; have := k13.size; omega) (fun q => by have q' : w.heap.size = W2.heap.size := q; omega)).trans ((k13.block _ (blk_lt f12) (fun q => by have q' : w.heap.size = W1.heap.size := q; omega)).trans f12),(k14.block _ (blk_lt f13) (fun q => by have q' : W1.heap.size = W2.heap.size := q; omega)).trans f13,f14⟩
     have kz : Kept (fun g => g = w.heap.size ∨ g = W1.heap.size ∨ g = W2.heap.size) W10 W14 := (((K11.out.mono (fun i q => q.elim)).trans k12 (fun i q => .inl (.inl q))).trans k13 (fun i q => .inl (.inr (.inl q)))).trans k14 (fun i q => .inl (.inr (.inr q)))
     have E12 : Hid ((storeVar 44 ⟨w.heap.size,0,none⟩ (.agg #[.slice p x'.se.n c,.slice q x'.od.n d,.int .i64 x'.li,.int .i64 x'.off])).run Tryz.prog w11 = .ok () W12) := e12
     have E13 : Hid ((storeVar 3 ⟨W1.heap.size,0,none⟩ (.int .i64 0)).run Tryz.prog W12 = .ok () W13) := e13
     have E14 : Hid ((storeVar 29 ⟨W2.heap.size,0,none⟩ (.int .i64 0)).run Tryz.prog W13 = .ok () W14) := e14
     have HZ : Hid (R3 W14 w.heap.size W1.heap.size W2.heap.size 44 #[.slice p x'.se.n c,.slice q x'.od.n d,.int .i64 x'.li,.int .i64 x'.off] 0 0 ∧ Kept (fun g => g = w.heap.size ∨ g = W1.heap.size ∨ g = W2.heap.size) W10 W14) := ⟨r14,kz⟩
     clear r11 f11 e12 f12 k12 s12 h5' h6' e13 f13 k13 s13 e14 f14 k14 s14 r14 kz hord HRF
     go_wp2_with (first | (refine st_ld L11.out ?_) | (refine st_sto E12.out ?_) | (refine st_sto E13.out ?_) | (refine st_sto E14.out ?_))
     refine leaves_cons (f := 58) (args := #[ptr W1.heap.size,ptr W2.heap.size]) (by simp) (by simp [go_sem]) ?_
     refine (catch58_idle W1.heap.size W2.heap.size W14).mono ?_
     rintro e u' w15 ⟨rfl,rfl,rfl⟩
     have hord := HP.out.2.2.2
     refine ⟨_,res3 HZ.out.1 rfl rfl rfl rfl Tryz.underlying44 rfl (by kernel_rfl),K10.out.2.1.trans HZ.out.2 (fun i q => .inr (by rcases q with q | q | q <;> omega)), ?_⟩
     rw [HTK.out]
     exact ⟨_,rfl,p,c,q,d,rfl,(HX.out.1.mono HZ.out.2.size (fun g a hg => ⟨by show w.heap.size ≤ g; omega,HZ.out.2.block g hg (fun q => by rcases q with q | q | q <;> omega)⟩)),(HX.out.2.mono HZ.out.2.size (fun g a hg => ⟨by show w.heap.size ≤ g; omega,HZ.out.2.block g hg (fun q => by rcases q with q | q | q <;> omega)⟩))⟩
   · have HTK : Hid (wholeM m s.data.toList = .no S'.hd.a 170) := HTK.out.trans (if_pos (fun q => hz (HK.out.trans q)))
     have HRF2 : Hid (Calls Tryz.prog 38 #[ptr W6.heap.size] w11 fun e w' => e = .panicked (flt S'.hd.a 170) ∧ Kept (fun _ => False) w11 w') := refuse_is _ _ _ (HRF.out.same K11.out)
     go_wp2_with fail
     refine Calls.mono HRF2.out ?_; rintro e w12 ⟨rfl,k12⟩
     have K12 : Hid (R3 w12 w.heap.size W1.heap.size W2.heap.size 44 #[.slice none 0 0,.slice none 0 0,.int .i64 0,.int .i64 0] x 0 ∧ Kept (fun _ => False) w w12) := ⟨(K10.out.1.kept K11.out (fun z => z) (fun z => z) (fun z => z)).kept k12 (fun z => z) (fun z => z) (fun z => z),(K10.out.2.1.trans K11.out (fun i q => .inl q)).trans k12 (fun i q => .inl q)⟩
     clear k12 HRF HRF2
     go_wp2_with fail
     exact caught58 K12.out.1 K12.out.2 HTK.out (by have := HP.out.2.2.2; omega) rfl rfl rfl rfl
theorem whole30_is (m : PM Qy) (HM : Does QR 31 (fun F => #[ptr F]) m) (s : ByteArray) (w : World) (hG : Glob w) (hT : Lib.Utf8Tabs 2 3 w) (hout : wholeM m s.data.toList ≠ .out) : Calls Tryz.prog 30 #[.string s,.func (.func 31) #[] #[]] w (fun e w' => WOut (.agg #[.slice none 0 0,.slice none 0 0,.int .i64 0,.int .i64 0]) QR w (wholeM m s.data.toList) e w') := by
 by_cases h : (tokV s.data.toList).2.2 = 0
 · exact whole30_run m HM s w hG hT h hout
 · exact whole30_lex m s w hG h
end Go.Proofs.YtlgkghebemfpjaaGreatDoor.Pa
