/- functionOf. The deferred closures where the parser refused. -/
import Derived.Test.YtlgkghebemfpjaaGreatDoorQLn
import Derived.Test.YtlgkghebemfpjaaGreatDoorQLShelf
import Derived.Test.YtlgkghebemfpjaaGreatDoorQPm
import Derived.Defers
import Derived.Recover
import Derived.Laws.Pointers
import Derived.Deep.RegionHeld3
namespace Go.Proofs.YtlgkghebemfpjaaGreatDoor.Pa
open Go.ChangeShapes Go.WideShapes Go.ChangeAt Go.RowKit
set_option linter.unusedVariables false
set_option maxRecDepth 100000
open Go.Lib
theorem capital_is (x : Int) (h0 : 0 ≤ x) (h1 : x ≤ 1114111) (w : World) : Calls Tryz.prog 211 #[.int .i32 x] w fun e w' => e = .returned (.int .i32 (capI x)) ∧ w' = w := by
 by_cases ha : 97 ≤ x
 · by_cases hb : x ≤ 122
   · have hc : capI x = x - 97 + 65 := if_pos ⟨ha,hb⟩
     rw [hc]
     go_enter Tryz.func211,Tryz.ntmps211
     go_wp2_with fail
     go_ret
     exact ⟨rfl,rfl⟩
   · have hc : capI x = x := if_neg (fun q => hb q.2)
     rw [hc]
     go_enter Tryz.func211,Tryz.ntmps211
     go_wp2_with fail
     go_ret
     exact ⟨rfl,rfl⟩
 · have hc : capI x = x := if_neg (fun q => ha q.1)
   rw [hc]
   go_enter Tryz.func211,Tryz.ntmps211
   go_wp2_with fail
   go_ret
   exact ⟨rfl,rfl⟩
theorem capI_bound (x : Nat) (h : x ≤ 1114111) : 0 ≤ capI x ∧ capI x ≤ 2147483647 := by
 unfold capI
 split <;> omega
theorem mapped (t : List UInt8) (w : World) (hl : t.length ≤ 5000) (hT : Lib.Utf8Tabs 2 3 w) : Calls Tryz.prog 156 #[.func (.func 211) #[] #[],.string ⟨t.toArray⟩] w fun e w' => e = .returned (.string ⟨(Lib.mapD capI t).toArray⟩) ∧ Below w.heap.size w w' := by
 have h := Tryz.strings_Map_runes 211 #[] (fun args w => by kernel_rfl) capI ⟨t.toArray⟩ w (by show t.toArray.size < _; simp; omega) (fun W x hx hb => (capital_is (x : Int) (by omega) (by omega) W).mono (fun e w' q => ⟨q.1,0,q.2⟩)) (fun x hx => capI_bound x hx) hT
 exact h
theorem set4 {w : World} {b : Nat} {t : TypeId} {u0 u1 u2 u3 : Value} (h : w.heap[b]? = some (.cells #[u0,u1,u2,u3] t (0,0))) (v0 v1 v2 v3 : Value) :
 ((((w.setCell ⟨b,0,none⟩ v0).setCell ⟨b,1,none⟩ v1).setCell ⟨b,2,none⟩ v2).setCell ⟨b,3,none⟩ v3).heap[b]? = some (.cells #[v0,v1,v2,v3] t (0,0)) ∧ Kept (On b) w ((((w.setCell ⟨b,0,none⟩ v0).setCell ⟨b,1,none⟩ v1).setCell ⟨b,2,none⟩ v2).setCell ⟨b,3,none⟩ v3) :=
 ⟨cells_set _ b 3 _ t v3 (cells_set _ b 2 _ t v2 (cells_set _ b 1 _ t v1 (cells_set w b 0 _ t v0 h))),((((Kept.refl (On b) w).setCell (p := ⟨b,0,none⟩) (.inl rfl) v0).setCell (p := ⟨b,1,none⟩) (.inl rfl) v1).setCell (p := ⟨b,2,none⟩) (.inl rfl) v2).setCell (p := ⟨b,3,none⟩) (.inl rfl) v3⟩
set_option maxHeartbeats 8000000 in
theorem function_is (t : List UInt8) (w : World) (hl : t.length ≤ 5000) (hT : Lib.Utf8Tabs 2 3 w) : Calls Tryz.prog 206 #[.string ⟨t.toArray⟩] w fun e w' => e = .returned (.agg #[.int .i64 (functionF t).kind,.int .i64 (functionF t).op,.int .i64 (functionF t).least,.int .i64 (functionF t).most]) ∧ Kept (fun _ => False) w w' := by
 have HM : Hid (∀ w,Lib.Utf8Tabs 2 3 w → Calls Tryz.prog 156 #[.func (.func 211) #[] #[],.string ⟨t.toArray⟩] w fun e w' => e = .returned (.string ⟨(Lib.mapD capI t).toArray⟩) ∧ Below w.heap.size w w') := fun w hT => mapped t w hl hT
 obtain ⟨m,hm⟩ : ∃ m,Lib.mapD capI t = m := ⟨_,rfl⟩
 rw [hm] at HM
 obtain ⟨b,hb⟩ : ∃ b,functionF t = b := ⟨_,rfl⟩
 have HB : Hid (functionF t = b ∧ Lib.mapD capI t = m) := ⟨hb,hm⟩
 rw [hb]
 clear hb hm
 have k0 : Kept (fun _ => False) w (w.alloc (.cells #[.int .i64 0,.int .i64 0,.int .i64 0,.int .i64 0] 206)) := (Kept.refl _ w).alloc _
 have HT : Hid (Lib.Utf8Tabs 2 3 (w.alloc (.cells #[.int .i64 0,.int .i64 0,.int .i64 0,.int .i64 0] 206))) := Utf8Tabs_below hT ((Below.refl _ _).alloc (Nat.le_refl _) _)
 have HB0 : Hid ((w.alloc (.cells #[.int .i64 0,.int .i64 0,.int .i64 0,.int .i64 0] 206)).heap[w.heap.size]? = some (.cells #[.int .i64 0,.int .i64 0,.int .i64 0,.int .i64 0] 206 (0,0))) := heap_alloc_new w _
 have HK : Hid (Kept (fun _ => False) w (w.alloc (.cells #[.int .i64 0,.int .i64 0,.int .i64 0,.int .i64 0] 206))) := k0
 clear hT k0
 go_enter Tryz.func206,Tryz.ntmps206
 go_wp2_with fail
 refine Calls.mono (HM.out _ HT.out) ?_; rintro e w1 ⟨rfl,k1⟩
 have HK1 : Hid (Kept (fun _ => False) (w.alloc (.cells #[.int .i64 0,.int .i64 0,.int .i64 0,.int .i64 0] 206)) w1) := ⟨k1.os,k1.tape,k1.output,k1.size,fun k hk _ => k1.block k hk⟩
 have hb1 : w1.heap[w.heap.size]? = some (.cells #[.int .i64 0,.int .i64 0,.int .i64 0,.int .i64 0] 206 (0,0)) := (k1.block _ (blk_lt HB0.out)).trans HB0.out
 have q0 := cell_of_row w1 w.heap.size 0 _ _ _ hb1
 have q1 := cell_of_row w1 w.heap.size 1 _ _ _ hb1
 have q2 := cell_of_row w1 w.heap.size 2 _ _ _ hb1
 have q3 := cell_of_row w1 w.heap.size 3 _ _ _ hb1
 have hz : ∀ j,w1.frozen? ⟨w.heap.size,j,none⟩ = false := fun j => by simp [World.frozen?,hb1]
 simp only [List.getElem?_toArray,List.getElem?_cons_succ,List.getElem?_cons_zero] at q0 q1 q2 q3
 have HB1 : Hid (w1.heap[w.heap.size]? = some (.cells #[.int .i64 0,.int .i64 0,.int .i64 0,.int .i64 0] 206 (0,0)) ∧ Kept (fun _ => False) w w1) := ⟨hb1,HK.out.trans HK1.out (fun i q => q.elim)⟩
 clear k1 hb1 HK1 HK HB0 HT HM
 go_wp2_with fail
 all_goals
  have hs := set4 HB1.out.1
  refine bodyPost_ret (end_cell rfl rfl (run_loadVar_row _ _ 206 206 _ (0,0) _ (hs _ _ _ _).1 Tryz.underlying206 rfl (by kernel_rfl))) rfl ⟨?_,HB1.out.2.trans (hs _ _ _ _).2 (fun i q => .inr (by have e : i = w.heap.size := q; omega))⟩
  have h1 := HB.out.1
  have h2 := HB.out.2
  unfold functionF at h1
  simp only [*] at h1
  simp at h1
  subst h1
  rfl
theorem catch36_panicking (b5 b6 : Nat) (x y a er : Int) (w : World) (h5 : w.heap[b5]? = some (.cells #[.int .i64 x] 3 (0,0))) (h6 : w.heap[b6]? = some (.cells #[.int .i64 y] 29 (0,0))) (hne : b5 ≠ b6) :
 CallsD Tryz.prog 36 #[ptr b5,ptr b6] (.panicking ({ v := .iface 86 (.agg #[.int .i64 a,.int .i64 er]),recovered := false } :: [])) w fun e u' w' =>
  e = .returned (.tuple #[]) ∧ u' = .panicking ({ v := .iface 86 (.agg #[.int .i64 a,.int .i64 er]),recovered := true } :: []) ∧ w'.heap[b5]? = some (.cells #[.int .i64 a] 3 (0,0)) ∧ w'.heap[b6]? = some (.cells #[.int .i64 er] 29 (0,0)) ∧ Kept (fun i => i = b5 ∨ i = b6) w w' := by
 have c5 : w.cell? ⟨b5,0,none⟩ = some (.int .i64 x) := cell_of_row w b5 0 _ 3 (0,0) h5
 have c6 : w.cell? ⟨b6,0,none⟩ = some (.int .i64 y) := cell_of_row w b6 0 _ 29 (0,0) h6
 refine callsD_of_wpS Tryz.func36 rfl fun c₀ cs hu => ?_
 apply wpS_seq
 apply wpS_region
 simp [wpOpsS,go_sem,recoverD,hu,Tryz.ntmps36,Exit.thenS]
 apply wpS_seq
 apply wpS_region
 simp [wpOpsS,go_sem,Exit.thenS]
 refine wpS_cond (t := true) (by simp [Act.eval,Array.replicate]) ?_
 simp only [if_true]
 refine wpS_of_wp ?_
 have f5 : w.frozen? ⟨b5,0,none⟩ = false := frozen_of_row w _ _ _ _ h5
 have f6 : w.frozen? ⟨b6,0,none⟩ = false := frozen_of_row w _ _ _ _ h6
 have hta : ∀ (v : Value) (w : World),(Instr.typeAssert (.iface 86 v) 20 86 false).run Tryz.prog w = .ok v w := fun v w => by simp [go_sem,Instr.typeAssert]
 simp [Array.replicate]
 go_wp2_with fail
 obtain ⟨W,hW⟩ : ∃ W,w.alloc (.cells #[.int .i64 a,.int .i64 er] 86) = W := ⟨_,rfl⟩
 have l5 : b5 < w.heap.size := (Array.getElem?_eq_some_iff.1 h5).1
 have l6 : b6 < w.heap.size := (Array.getElem?_eq_some_iff.1 h6).1
 have hk : Kept (fun i => i = b5 ∨ i = b6) w W := by rw [← hW]; exact (Kept.refl _ w).alloc _
 have hk0 : Kept (fun _ => False) w W := by rw [← hW]; exact (Kept.refl _ w).alloc _
 have hN : W.heap[w.heap.size]? = some (.cells #[.int .i64 a,.int .i64 er] 86 (0,0)) := by rw [← hW]; exact heap_alloc_new w _
 have d0 : W.cell? ⟨w.heap.size,0,none⟩ = some (.int .i64 a) := cell_of_row W _ 0 _ 86 (0,0) hN
 have d1 : W.cell? ⟨w.heap.size,1,none⟩ = some (.int .i64 er) := cell_of_row W _ 1 _ 86 (0,0) hN
 have g5 := (hk0.block b5 l5 (fun q => q)).trans h5
 have g6 := (hk0.block b6 l6 (fun q => q)).trans h6
 have e5 : W.cell? ⟨b5,0,none⟩ = some (.int .i64 x) := cell_of_row W _ 0 _ 3 (0,0) g5
 have e6 : W.cell? ⟨b6,0,none⟩ = some (.int .i64 y) := cell_of_row W _ 0 _ 29 (0,0) g6
 have i5 : W.frozen? ⟨b5,0,none⟩ = false := frozen_of_row W _ _ _ _ g5
 have i6 : W.frozen? ⟨b6,0,none⟩ = false := frozen_of_row W _ _ _ _ g6
 have n5 : ¬ w.heap.size = b5 := by omega
 have n6 : ¬ w.heap.size = b6 := by omega
 have n5' : ¬ b5 = w.heap.size := by omega
 have n6' : ¬ b6 = w.heap.size := by omega
 have n56 : ¬ b5 = b6 := hne
 have n65 : ¬ b6 = b5 := fun h => hne h.symm
 rw [hW]
 have HZ : Hid (W.heap[b5]? = some (.cells #[.int .i64 x] 3 (0,0)) ∧ W.heap[b6]? = some (.cells #[.int .i64 y] 29 (0,0)) ∧ Kept (fun i => i = b5 ∨ i = b6) w W) := ⟨g5,g6,hk⟩
 have HU : Hid (((W.setCell ⟨b5,0,none⟩ (.int .i64 a)).setCell ⟨b6,0,none⟩ (.int .i64 er)).drew.heap[b5]? = some (.cells #[.int .i64 a] 3 (0,0)) ∧ ((W.setCell ⟨b5,0,none⟩ (.int .i64 a)).setCell ⟨b6,0,none⟩ (.int .i64 er)).drew.heap[b6]? = some (.cells #[.int .i64 er] 29 (0,0)) ∧ Kept (fun i => i = b5 ∨ i = b6) w ((W.setCell ⟨b5,0,none⟩ (.int .i64 a)).setCell ⟨b6,0,none⟩ (.int .i64 er)).drew) :=
  ⟨(heap_setCell_other _ ⟨b6,0,none⟩ b5 _ n56).trans (cells_set W b5 0 _ 3 (.int .i64 a) g5),cells_set _ b6 0 _ 29 (.int .i64 er) ((heap_setCell_other W ⟨b5,0,none⟩ b6 _ n65).trans g6),((hk.setCell (p := ⟨b5,0,none⟩) (.inl (.inl rfl)) _).setCell (p := ⟨b6,0,none⟩) (.inl (.inr rfl)) _).drew⟩
 clear h5 h6 c5 c6 f5 f6 hW hk hk0 hN g5 g6 l5 l6 hne
 go_region_with (fail)
 all_goals (clear d0 d1 e5 e6 i5 i6 n5 n6 n5' n6' n56 n65 HZ; simp +zetaDelta [bodyPostS,results,Tryz.results36]; exact HU.out)
theorem catch58_panicking (b5 b6 : Nat) (x y a er : Int) (w : World) (h5 : w.heap[b5]? = some (.cells #[.int .i64 x] 3 (0,0))) (h6 : w.heap[b6]? = some (.cells #[.int .i64 y] 29 (0,0))) (hne : b5 ≠ b6) :
 CallsD Tryz.prog 58 #[ptr b5,ptr b6] (.panicking ({ v := .iface 86 (.agg #[.int .i64 a,.int .i64 er]),recovered := false } :: [])) w fun e u' w' =>
  e = .returned (.tuple #[]) ∧ u' = .panicking ({ v := .iface 86 (.agg #[.int .i64 a,.int .i64 er]),recovered := true } :: []) ∧ w'.heap[b5]? = some (.cells #[.int .i64 a] 3 (0,0)) ∧ w'.heap[b6]? = some (.cells #[.int .i64 er] 29 (0,0)) ∧ Kept (fun i => i = b5 ∨ i = b6) w w' := by
 have c5 : w.cell? ⟨b5,0,none⟩ = some (.int .i64 x) := cell_of_row w b5 0 _ 3 (0,0) h5
 have c6 : w.cell? ⟨b6,0,none⟩ = some (.int .i64 y) := cell_of_row w b6 0 _ 29 (0,0) h6
 refine callsD_of_wpS Tryz.func58 rfl fun c₀ cs hu => ?_
 apply wpS_seq
 apply wpS_region
 simp [wpOpsS,go_sem,recoverD,hu,Tryz.ntmps58,Exit.thenS]
 apply wpS_seq
 apply wpS_region
 simp [wpOpsS,go_sem,Exit.thenS]
 refine wpS_cond (t := true) (by simp [Act.eval,Array.replicate]) ?_
 simp only [if_true]
 refine wpS_of_wp ?_
 have f5 : w.frozen? ⟨b5,0,none⟩ = false := frozen_of_row w _ _ _ _ h5
 have f6 : w.frozen? ⟨b6,0,none⟩ = false := frozen_of_row w _ _ _ _ h6
 have hta : ∀ (v : Value) (w : World),(Instr.typeAssert (.iface 86 v) 20 86 false).run Tryz.prog w = .ok v w := fun v w => by simp [go_sem,Instr.typeAssert]
 simp [Array.replicate]
 go_wp2_with fail
 obtain ⟨W,hW⟩ : ∃ W,w.alloc (.cells #[.int .i64 a,.int .i64 er] 86) = W := ⟨_,rfl⟩
 have l5 : b5 < w.heap.size := (Array.getElem?_eq_some_iff.1 h5).1
 have l6 : b6 < w.heap.size := (Array.getElem?_eq_some_iff.1 h6).1
 have hk : Kept (fun i => i = b5 ∨ i = b6) w W := by rw [← hW]; exact (Kept.refl _ w).alloc _
 have hk0 : Kept (fun _ => False) w W := by rw [← hW]; exact (Kept.refl _ w).alloc _
 have hN : W.heap[w.heap.size]? = some (.cells #[.int .i64 a,.int .i64 er] 86 (0,0)) := by rw [← hW]; exact heap_alloc_new w _
 have d0 : W.cell? ⟨w.heap.size,0,none⟩ = some (.int .i64 a) := cell_of_row W _ 0 _ 86 (0,0) hN
 have d1 : W.cell? ⟨w.heap.size,1,none⟩ = some (.int .i64 er) := cell_of_row W _ 1 _ 86 (0,0) hN
 have g5 := (hk0.block b5 l5 (fun q => q)).trans h5
 have g6 := (hk0.block b6 l6 (fun q => q)).trans h6
 have e5 : W.cell? ⟨b5,0,none⟩ = some (.int .i64 x) := cell_of_row W _ 0 _ 3 (0,0) g5
 have e6 : W.cell? ⟨b6,0,none⟩ = some (.int .i64 y) := cell_of_row W _ 0 _ 29 (0,0) g6
 have i5 : W.frozen? ⟨b5,0,none⟩ = false := frozen_of_row W _ _ _ _ g5
 have i6 : W.frozen? ⟨b6,0,none⟩ = false := frozen_of_row W _ _ _ _ g6
 have n5 : ¬ w.heap.size = b5 := by omega
 have n6 : ¬ w.heap.size = b6 := by omega
 have n5' : ¬ b5 = w.heap.size := by omega
 have n6' : ¬ b6 = w.heap.size := by omega
 have n56 : ¬ b5 = b6 := hne
 have n65 : ¬ b6 = b5 := fun h => hne h.symm
 rw [hW]
 have HZ : Hid (W.heap[b5]? = some (.cells #[.int .i64 x] 3 (0,0)) ∧ W.heap[b6]? = some (.cells #[.int .i64 y] 29 (0,0)) ∧ Kept (fun i => i = b5 ∨ i = b6) w W) := ⟨g5,g6,hk⟩
 have HU : Hid (((W.setCell ⟨b5,0,none⟩ (.int .i64 a)).setCell ⟨b6,0,none⟩ (.int .i64 er)).drew.heap[b5]? = some (.cells #[.int .i64 a] 3 (0,0)) ∧ ((W.setCell ⟨b5,0,none⟩ (.int .i64 a)).setCell ⟨b6,0,none⟩ (.int .i64 er)).drew.heap[b6]? = some (.cells #[.int .i64 er] 29 (0,0)) ∧ Kept (fun i => i = b5 ∨ i = b6) w ((W.setCell ⟨b5,0,none⟩ (.int .i64 a)).setCell ⟨b6,0,none⟩ (.int .i64 er)).drew) :=
  ⟨(heap_setCell_other _ ⟨b6,0,none⟩ b5 _ n56).trans (cells_set W b5 0 _ 3 (.int .i64 a) g5),cells_set _ b6 0 _ 29 (.int .i64 er) ((heap_setCell_other W ⟨b5,0,none⟩ b6 _ n65).trans g6),((hk.setCell (p := ⟨b5,0,none⟩) (.inl (.inl rfl)) _).setCell (p := ⟨b6,0,none⟩) (.inl (.inr rfl)) _).drew⟩
 clear h5 h6 c5 c6 f5 f6 hW hk hk0 hN g5 g6 l5 l6 hne
 go_region_with (fail)
 all_goals (clear d0 d1 e5 e6 i5 i6 n5 n6 n5' n6' n56 n65 HZ; simp +zetaDelta [bodyPostS,results,Tryz.results58]; exact HU.out)
end Go.Proofs.YtlgkghebemfpjaaGreatDoor.Pa
