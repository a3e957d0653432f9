/- A sign, by the document. One token, by the document, whatever it is. -/
import Derived.Test.YtlgkghebemfpjaaGreatDoorQLRo
namespace Go.Proofs.YtlgkghebemfpjaaGreatDoor
open Go.ChangeShapes Go.WideShapes Go.ChangeAt Go.RowKit
set_option linter.unusedVariables false
set_option maxRecDepth 100000
set_option maxRecDepth 100000
set_option maxHeartbeats 8000000 in
theorem one_sign (s : ByteArray) (a : Nat) (ha : a < s.size) (hs : s.size ≤ 100000) (hr : Lib.hasPrefix (s.data.toList.drop a) [47,42] = false) (H1 : Hid (∀ w,Calls Tryz.prog 50 #[.int .u8 (s[a].toNat : Int),.bool true] w fun e w' => e = .returned (.bool false) ∧ w' = w)) (h34 : ((s[a].toNat : Int) == 34) = false) (h39 : ((s[a].toNat : Int) == 39) = false) (hd : ¬ ((48 : Int) ≤ (s[a].toNat : Int) ∧ (s[a].toNat : Int) ≤ 57)) (w : World) :
 Calls Tryz.prog 26 #[.string s,.int .i64 (a : Int)] w fun e w' => OneR a (signV (s.data.toList.drop a)) e ∧ Below w.heap.size w w' := by
 have hai : (a : Int) < (s.size : Int) := by omega
 have HRR : Hid (Lib.hasPrefix (s.data.toList.drop a) [47,42] = false) := hr
 have H50 : Hid (∀ w,Calls Tryz.prog 56 #[] w fun e w' => e = .returned (.slice (some ⟨w.heap.size,0,none⟩) 17 17) ∧ w' = w.alloc (.cells (sgL.map (fun k => Value.string ⟨k.toArray⟩)).toArray 9)) := fun w => signs_ref w
 have HRow : Hid (∀ (V : World) (i : Nat) (h : i < 17),(V.alloc (.cells (sgL.map (fun k => Value.string ⟨k.toArray⟩)).toArray 9)).cell? ⟨V.heap.size,i,none⟩ = some (.string ⟨(sgL[i]'(by exact h)).toArray⟩)) := fun V i h => row_cell sgL V i (by exact h)
 obtain ⟨X,hX⟩ : ∃ X,signV (s.data.toList.drop a) = X := ⟨_,rfl⟩
 rw [hX]
 have HX : Hid (signV (s.data.toList.drop a) = X) := hX
 clear hX hr
 by_cases d1 : (48 : Int) ≤ (s[a].toNat : Int)
 · have d2 : ¬ (s[a].toNat : Int) ≤ 57 := fun q => hd ⟨d1,q⟩
   clear hd
   have HZ : Hid (CellsF (w.alloc (.cells #[.int .i64 0,.string ⟨#[]⟩,.int .i64 0,.int .i64 0] 40)) w.heap.size nilT) := CellsF.new w nilT 40 (by simp)
   have HW : Hid (Below w.heap.size w (w.alloc (.cells #[.int .i64 0,.string ⟨#[]⟩,.int .i64 0,.int .i64 0] 40))) := below1 _ _
   go_enter Tryz.func26,Tryz.ntmps26
   go_wp2_with fail
   generalize (sgL.map (fun k => Value.string ⟨k.toArray⟩)).toArray = KC at *
   refine (H1.out _).mono ?_; rintro e w1 ⟨rfl,rfl⟩
   generalize (w.alloc (.cells #[.int .i64 0,.string ⟨#[]⟩,.int .i64 0,.int .i64 0] 40)) = W at *
   go_wp2_with fail
   refine (H50.out _).mono ?_; rintro e w2 ⟨rfl,rfl⟩
   have HZ2 : Hid (CellsF (W.alloc (.cells KC 9)) w.heap.size nilT) := HZ.out.next (below1 _ _)
   have HB2 : Hid (Below w.heap.size w (W.alloc (.cells KC 9))) := Below.next HW.out (below1 _ _)
   have HC2 : Hid (∀ (i : Nat) (h : i < 17),(W.alloc (.cells KC 9)).cell? ⟨W.heap.size,i,none⟩ = some (.string ⟨(sgL[i]'(by exact h)).toArray⟩)) := fun i h => HRow.out W i h
   have hgn : ¬ w.heap.size = W.heap.size := by have := HZ.out.lt; omega
   generalize W.heap.size = g at *
   generalize W.alloc (.cells KC 9) = V at *
   clear HRow H50
   go_wp2_with fail
   go_loop [16] (fun i => ∃ j : Nat,j ≤ 17 ∧ i = .int .i64 j ∧ Hid (∀ k (hk : k < 17),k < j → Lib.hasPrefix (s.data.toList.drop a) (sgL[k]'(by exact hk)) = false)) (fun i => 17 - (intOf i).toNat)
   case atStart => exact ⟨0,by omega,rfl,fun k hk h => by omega⟩
   case round =>
    obtain ⟨j,hj,rfl,HP⟩ := hrel
    by_cases hlt : j < 17
    · have hlti : (j : Int) < 17 := by omega
      have c0 := HC2.out j hlt
      obtain ⟨A,hA⟩ : ∃ A : ByteArray,A = ⟨(sgL[j]'(by exact hlt)).toArray⟩ := ⟨_,rfl⟩
      rw [← hA] at c0
      have hAd : A.data.toList = sgL[j]'(by exact hlt) := by rw [hA]
      have hAs : A.size ≤ 2 := by
       have : ∀ j (h : j < 17),(sgL[j]'(by exact h)).length ≤ 2 := by decide
       rw [← len_of,hAd]
       exact this j hlt
      have H47 : Hid (∀ w,Calls Tryz.prog 49 #[.string s,.int .i64 (a : Int),.string A] w fun e w' => e = .returned (.bool (Lib.hasPrefix (s.data.toList.drop a) A.data.toList)) ∧ w' = w) := fun w => begins_ref s A hs (by omega) a (by omega) w
      rw [hAd] at H47
      cases hq : Lib.hasPrefix (s.data.toList.drop a) (sgL[j]'(by exact hlt))
      · rw [hq] at H47
        have HP2 : Hid (∀ k (hk : k < 17),k < j + 1 → Lib.hasPrefix (s.data.toList.drop a) (sgL[k]'(by exact hk)) = false) := fun k hk h => by
         by_cases e : k = j
         · subst e; exact hq
         · exact HP.out k hk (by omega)
        clear hA hAd hq HP
        go_wp2_with fail
        refine (H47.out _).mono ?_; rintro e w3 ⟨rfl,rfl⟩
        go_wp2_with fail
        go_round
        case rel => exact ⟨j + 1,by omega,by go_num,HP2⟩
        case measure => simp [intOf]; omega
      · rw [hq] at H47
        have HSg : Hid (X = ⟨5,sgnT A.data.toList,0,A.size⟩) := by
         show _ = _
         rw [← HX.out,sign_hit j hlt hq (fun k hk h => HP.out k hk h) HRR.out, ← hAd,len_of]
        have HA0 : Hid (A.size ≠ 0) := by
         have : ∀ j (h : j < 17),(sgL[j]'(by exact h)).length ≠ 0 := by decide
         show A.size ≠ 0
         rw [← len_of,hAd]
         exact this j hlt
        have HWr : Hid (wrap64 ((a : Int) + (A.size : Int)) = ((a + A.size : Nat) : Int)) := by show _ = _; unfold wrap64; omega
        have hwr2 : IntKind.i64.wrap ((a : Int) + (A.size : Int)) = (a : Int) + (A.size : Int) := by rw [IntKind.wrap_i64]; omega
        clear hA hq HP
        by_cases hne : A.data.toList = [33,61]
        · have hb : (A.toList == [33,61]) = true := by rw [ByteArray.toList_eq,hne]; rfl
          have HR : Hid (OneR a X (.returned (.tuple #[tv 5 ⟨#[60,62]⟩ 0 (a : Int),.int .i64 ((a + A.size : Nat) : Int)]))) := by
           rw [HSg.out]
           refine .inl ⟨HA0.out, ?_⟩
           unfold sgnT
           rw [if_pos hne]
          clear hAd hne
          go_wp2_with fail
          refine (H47.out _).mono ?_; rintro e w3 ⟨rfl,rfl⟩
          have z0 : w3.cell? ⟨w.heap.size,0,none⟩ = some (.int .i64 0) := HZ2.out.cs 0 _ rfl
          have z1 : w3.cell? ⟨w.heap.size,1,none⟩ = some (.string ⟨#[]⟩) := HZ2.out.cs 1 _ rfl
          have z2 : w3.cell? ⟨w.heap.size,2,none⟩ = some (.int .i64 0) := HZ2.out.cs 2 _ rfl
          have z3 : w3.cell? ⟨w.heap.size,3,none⟩ = some (.int .i64 0) := HZ2.out.cs 3 _ rfl
          have f0 := HZ2.out.fz 0
          have f1 := HZ2.out.fz 1
          have f2 := HZ2.out.fz 2
          have f3 := HZ2.out.fz 3
          have HKE : Hid (∀ v0 v1 v2 v3,((((w3.setCell ⟨w.heap.size,0,none⟩ v0).setCell ⟨w.heap.size,1,none⟩ v1).setCell ⟨w.heap.size,2,none⟩ v2).setCell ⟨w.heap.size,3,none⟩ v3).drew.cell? ⟨g,j,none⟩ = some (.string A)) := fun v0 v1 v2 v3 => by
           have e := (cell_put (w := ((w3.setCell ⟨w.heap.size,0,none⟩ v0).setCell ⟨w.heap.size,1,none⟩ v1).setCell ⟨w.heap.size,2,none⟩ v2) (b := w.heap.size) (c := g) (i := 3) (j := j) v3 (fun h => hgn h.1)).trans ((cell_put (w := (w3.setCell ⟨w.heap.size,0,none⟩ v0).setCell ⟨w.heap.size,1,none⟩ v1) (b := w.heap.size) (c := g) (i := 2) (j := j) v2 (fun h => hgn h.1)).trans ((cell_put (w := w3.setCell ⟨w.heap.size,0,none⟩ v0) (b := w.heap.size) (c := g) (i := 1) (j := j) v1 (fun h => hgn h.1)).trans (cell_put (w := w3) (b := w.heap.size) (c := g) (i := 0) (j := j) v0 (fun h => hgn h.1))))
           exact e.trans c0
          go_wp2_with fail
          go_region_held (fun (U : World) => U.cell? ⟨g,j,none⟩ = some (.string A)) (first | exact c0 | with_reducible assumption | exact HKE.out _ _ _ _) (fail)
          clear HKE
          go_wp2_with fail
          try simp only [Exit.inBlock,Exit.then]
          refine bodyPost_ret (end_cell_tmp rfl rfl (loadTok _ ((HZ2.out.four rfl _ _ _ _).next (Below.refl _ _).drew) rfl)) rfl ?_
          exact ⟨by first | exact HR.out | (have h := HR.out; rw [show ((a + A.size : Nat) : Int) = (a : Int) + (A.size : Int) by omega] at h; exact h),(below_four HB2.out _ (Nat.le_refl _) _ _ _ _).drew⟩
        · have hb : (A.toList == [33,61]) = false := by rw [ByteArray.toList_eq]; simpa using hne
          have HR : Hid (OneR a X (.returned (.tuple #[tv 5 A 0 (a : Int),.int .i64 ((a + A.size : Nat) : Int)]))) := by
           rw [HSg.out]
           refine .inl ⟨HA0.out, ?_⟩
           unfold sgnT
           rw [if_neg hne]
          clear hAd hne
          go_wp2_with fail
          refine (H47.out _).mono ?_; rintro e w3 ⟨rfl,rfl⟩
          have z0 : w3.cell? ⟨w.heap.size,0,none⟩ = some (.int .i64 0) := HZ2.out.cs 0 _ rfl
          have z1 : w3.cell? ⟨w.heap.size,1,none⟩ = some (.string ⟨#[]⟩) := HZ2.out.cs 1 _ rfl
          have z2 : w3.cell? ⟨w.heap.size,2,none⟩ = some (.int .i64 0) := HZ2.out.cs 2 _ rfl
          have z3 : w3.cell? ⟨w.heap.size,3,none⟩ = some (.int .i64 0) := HZ2.out.cs 3 _ rfl
          have f0 := HZ2.out.fz 0
          have f1 := HZ2.out.fz 1
          have f2 := HZ2.out.fz 2
          have f3 := HZ2.out.fz 3
          have HKE : Hid (∀ v0 v1 v2 v3,((((w3.setCell ⟨w.heap.size,0,none⟩ v0).setCell ⟨w.heap.size,1,none⟩ v1).setCell ⟨w.heap.size,2,none⟩ v2).setCell ⟨w.heap.size,3,none⟩ v3).drew.cell? ⟨g,j,none⟩ = some (.string A)) := fun v0 v1 v2 v3 => by
           have e := (cell_put (w := ((w3.setCell ⟨w.heap.size,0,none⟩ v0).setCell ⟨w.heap.size,1,none⟩ v1).setCell ⟨w.heap.size,2,none⟩ v2) (b := w.heap.size) (c := g) (i := 3) (j := j) v3 (fun h => hgn h.1)).trans ((cell_put (w := (w3.setCell ⟨w.heap.size,0,none⟩ v0).setCell ⟨w.heap.size,1,none⟩ v1) (b := w.heap.size) (c := g) (i := 2) (j := j) v2 (fun h => hgn h.1)).trans ((cell_put (w := w3.setCell ⟨w.heap.size,0,none⟩ v0) (b := w.heap.size) (c := g) (i := 1) (j := j) v1 (fun h => hgn h.1)).trans (cell_put (w := w3) (b := w.heap.size) (c := g) (i := 0) (j := j) v0 (fun h => hgn h.1))))
           exact e.trans c0
          go_wp2_with fail
          go_region_held (fun (U : World) => U.cell? ⟨g,j,none⟩ = some (.string A)) (first | exact c0 | with_reducible assumption | exact HKE.out _ _ _ _) (fail)
          clear HKE
          go_wp2_with fail
          try simp only [Exit.inBlock,Exit.then]
          refine bodyPost_ret (end_cell_tmp rfl rfl (loadTok _ ((HZ2.out.four rfl _ _ _ _).next (Below.refl _ _).drew) rfl)) rfl ?_
          exact ⟨by first | exact HR.out | (have h := HR.out; rw [show ((a + A.size : Nat) : Int) = (a : Int) + (A.size : Int) by omega] at h; exact h),(below_four HB2.out _ (Nat.le_refl _) _ _ _ _).drew⟩
    · have hlti : ¬ (j : Int) < 17 := by omega
      have HR : Hid (OneR a X (.returned (.tuple #[tv 0 ⟨#[]⟩ 0 0,.int .i64 (-1)]))) := by
       refine .inr ⟨?_,_,_,_,_,rfl⟩
       rw [← HX.out,sign_miss (rest_ne ha) (fun k hk => HP.out k hk (by omega)) HRR.out]
       rfl
      clear HP
      have z0 : V.cell? ⟨w.heap.size,0,none⟩ = some (.int .i64 0) := HZ2.out.cs 0 _ rfl
      have z1 : V.cell? ⟨w.heap.size,1,none⟩ = some (.string ⟨#[]⟩) := HZ2.out.cs 1 _ rfl
      have z2 : V.cell? ⟨w.heap.size,2,none⟩ = some (.int .i64 0) := HZ2.out.cs 2 _ rfl
      have z3 : V.cell? ⟨w.heap.size,3,none⟩ = some (.int .i64 0) := HZ2.out.cs 3 _ rfl
      have f0 := HZ2.out.fz 0
      have f1 := HZ2.out.fz 1
      have f2 := HZ2.out.fz 2
      have f3 := HZ2.out.fz 3
      go_wp2_with fail
      try simp only [Exit.inBlock,Exit.then]
      refine bodyPost_ret (end_cell_tmp rfl rfl (loadTok _ (HZ2.out.four rfl _ _ _ _) rfl)) rfl ?_
      exact ⟨HR.out,below_four HB2.out _ (Nat.le_refl _) _ _ _ _⟩
 · clear hd
   have HZ : Hid (CellsF (w.alloc (.cells #[.int .i64 0,.string ⟨#[]⟩,.int .i64 0,.int .i64 0] 40)) w.heap.size nilT) := CellsF.new w nilT 40 (by simp)
   have HW : Hid (Below w.heap.size w (w.alloc (.cells #[.int .i64 0,.string ⟨#[]⟩,.int .i64 0,.int .i64 0] 40))) := below1 _ _
   go_enter Tryz.func26,Tryz.ntmps26
   go_wp2_with fail
   generalize (sgL.map (fun k => Value.string ⟨k.toArray⟩)).toArray = KC at *
   refine (H1.out _).mono ?_; rintro e w1 ⟨rfl,rfl⟩
   generalize (w.alloc (.cells #[.int .i64 0,.string ⟨#[]⟩,.int .i64 0,.int .i64 0] 40)) = W at *
   go_wp2_with fail
   refine (H50.out _).mono ?_; rintro e w2 ⟨rfl,rfl⟩
   have HZ2 : Hid (CellsF (W.alloc (.cells KC 9)) w.heap.size nilT) := HZ.out.next (below1 _ _)
   have HB2 : Hid (Below w.heap.size w (W.alloc (.cells KC 9))) := Below.next HW.out (below1 _ _)
   have HC2 : Hid (∀ (i : Nat) (h : i < 17),(W.alloc (.cells KC 9)).cell? ⟨W.heap.size,i,none⟩ = some (.string ⟨(sgL[i]'(by exact h)).toArray⟩)) := fun i h => HRow.out W i h
   have hgn : ¬ w.heap.size = W.heap.size := by have := HZ.out.lt; omega
   generalize W.heap.size = g at *
   generalize W.alloc (.cells KC 9) = V at *
   clear HRow H50
   go_wp2_with fail
   go_loop [16] (fun i => ∃ j : Nat,j ≤ 17 ∧ i = .int .i64 j ∧ Hid (∀ k (hk : k < 17),k < j → Lib.hasPrefix (s.data.toList.drop a) (sgL[k]'(by exact hk)) = false)) (fun i => 17 - (intOf i).toNat)
   case atStart => exact ⟨0,by omega,rfl,fun k hk h => by omega⟩
   case round =>
    obtain ⟨j,hj,rfl,HP⟩ := hrel
    by_cases hlt : j < 17
    · have hlti : (j : Int) < 17 := by omega
      have c0 := HC2.out j hlt
      obtain ⟨A,hA⟩ : ∃ A : ByteArray,A = ⟨(sgL[j]'(by exact hlt)).toArray⟩ := ⟨_,rfl⟩
      rw [← hA] at c0
      have hAd : A.data.toList = sgL[j]'(by exact hlt) := by rw [hA]
      have hAs : A.size ≤ 2 := by
       have : ∀ j (h : j < 17),(sgL[j]'(by exact h)).length ≤ 2 := by decide
       rw [← len_of,hAd]
       exact this j hlt
      have H47 : Hid (∀ w,Calls Tryz.prog 49 #[.string s,.int .i64 (a : Int),.string A] w fun e w' => e = .returned (.bool (Lib.hasPrefix (s.data.toList.drop a) A.data.toList)) ∧ w' = w) := fun w => begins_ref s A hs (by omega) a (by omega) w
      rw [hAd] at H47
      cases hq : Lib.hasPrefix (s.data.toList.drop a) (sgL[j]'(by exact hlt))
      · rw [hq] at H47
        have HP2 : Hid (∀ k (hk : k < 17),k < j + 1 → Lib.hasPrefix (s.data.toList.drop a) (sgL[k]'(by exact hk)) = false) := fun k hk h => by
         by_cases e : k = j
         · subst e; exact hq
         · exact HP.out k hk (by omega)
        clear hA hAd hq HP
        go_wp2_with fail
        refine (H47.out _).mono ?_; rintro e w3 ⟨rfl,rfl⟩
        go_wp2_with fail
        go_round
        case rel => exact ⟨j + 1,by omega,by go_num,HP2⟩
        case measure => simp [intOf]; omega
      · rw [hq] at H47
        have HSg : Hid (X = ⟨5,sgnT A.data.toList,0,A.size⟩) := by
         show _ = _
         rw [← HX.out,sign_hit j hlt hq (fun k hk h => HP.out k hk h) HRR.out, ← hAd,len_of]
        have HA0 : Hid (A.size ≠ 0) := by
         have : ∀ j (h : j < 17),(sgL[j]'(by exact h)).length ≠ 0 := by decide
         show A.size ≠ 0
         rw [← len_of,hAd]
         exact this j hlt
        have HWr : Hid (wrap64 ((a : Int) + (A.size : Int)) = ((a + A.size : Nat) : Int)) := by show _ = _; unfold wrap64; omega
        have hwr2 : IntKind.i64.wrap ((a : Int) + (A.size : Int)) = (a : Int) + (A.size : Int) := by rw [IntKind.wrap_i64]; omega
        clear hA hq HP
        by_cases hne : A.data.toList = [33,61]
        · have hb : (A.toList == [33,61]) = true := by rw [ByteArray.toList_eq,hne]; rfl
          have HR : Hid (OneR a X (.returned (.tuple #[tv 5 ⟨#[60,62]⟩ 0 (a : Int),.int .i64 ((a + A.size : Nat) : Int)]))) := by
           rw [HSg.out]
           refine .inl ⟨HA0.out, ?_⟩
           unfold sgnT
           rw [if_pos hne]
          clear hAd hne
          go_wp2_with fail
          refine (H47.out _).mono ?_; rintro e w3 ⟨rfl,rfl⟩
          have z0 : w3.cell? ⟨w.heap.size,0,none⟩ = some (.int .i64 0) := HZ2.out.cs 0 _ rfl
          have z1 : w3.cell? ⟨w.heap.size,1,none⟩ = some (.string ⟨#[]⟩) := HZ2.out.cs 1 _ rfl
          have z2 : w3.cell? ⟨w.heap.size,2,none⟩ = some (.int .i64 0) := HZ2.out.cs 2 _ rfl
          have z3 : w3.cell? ⟨w.heap.size,3,none⟩ = some (.int .i64 0) := HZ2.out.cs 3 _ rfl
          have f0 := HZ2.out.fz 0
          have f1 := HZ2.out.fz 1
          have f2 := HZ2.out.fz 2
          have f3 := HZ2.out.fz 3
          have HKE : Hid (∀ v0 v1 v2 v3,((((w3.setCell ⟨w.heap.size,0,none⟩ v0).setCell ⟨w.heap.size,1,none⟩ v1).setCell ⟨w.heap.size,2,none⟩ v2).setCell ⟨w.heap.size,3,none⟩ v3).drew.cell? ⟨g,j,none⟩ = some (.string A)) := fun v0 v1 v2 v3 => by
           have e := (cell_put (w := ((w3.setCell ⟨w.heap.size,0,none⟩ v0).setCell ⟨w.heap.size,1,none⟩ v1).setCell ⟨w.heap.size,2,none⟩ v2) (b := w.heap.size) (c := g) (i := 3) (j := j) v3 (fun h => hgn h.1)).trans ((cell_put (w := (w3.setCell ⟨w.heap.size,0,none⟩ v0).setCell ⟨w.heap.size,1,none⟩ v1) (b := w.heap.size) (c := g) (i := 2) (j := j) v2 (fun h => hgn h.1)).trans ((cell_put (w := w3.setCell ⟨w.heap.size,0,none⟩ v0) (b := w.heap.size) (c := g) (i := 1) (j := j) v1 (fun h => hgn h.1)).trans (cell_put (w := w3) (b := w.heap.size) (c := g) (i := 0) (j := j) v0 (fun h => hgn h.1))))
           exact e.trans c0
          go_wp2_with fail
          go_region_held (fun (U : World) => U.cell? ⟨g,j,none⟩ = some (.string A)) (first | exact c0 | with_reducible assumption | exact HKE.out _ _ _ _) (fail)
          clear HKE
          go_wp2_with fail
          try simp only [Exit.inBlock,Exit.then]
          refine bodyPost_ret (end_cell_tmp rfl rfl (loadTok _ ((HZ2.out.four rfl _ _ _ _).next (Below.refl _ _).drew) rfl)) rfl ?_
          exact ⟨by first | exact HR.out | (have h := HR.out; rw [show ((a + A.size : Nat) : Int) = (a : Int) + (A.size : Int) by omega] at h; exact h),(below_four HB2.out _ (Nat.le_refl _) _ _ _ _).drew⟩
        · have hb : (A.toList == [33,61]) = false := by rw [ByteArray.toList_eq]; simpa using hne
          have HR : Hid (OneR a X (.returned (.tuple #[tv 5 A 0 (a : Int),.int .i64 ((a + A.size : Nat) : Int)]))) := by
           rw [HSg.out]
           refine .inl ⟨HA0.out, ?_⟩
           unfold sgnT
           rw [if_neg hne]
          clear hAd hne
          go_wp2_with fail
          refine (H47.out _).mono ?_; rintro e w3 ⟨rfl,rfl⟩
          have z0 : w3.cell? ⟨w.heap.size,0,none⟩ = some (.int .i64 0) := HZ2.out.cs 0 _ rfl
          have z1 : w3.cell? ⟨w.heap.size,1,none⟩ = some (.string ⟨#[]⟩) := HZ2.out.cs 1 _ rfl
          have z2 : w3.cell? ⟨w.heap.size,2,none⟩ = some (.int .i64 0) := HZ2.out.cs 2 _ rfl
          have z3 : w3.cell? ⟨w.heap.size,3,none⟩ = some (.int .i64 0) := HZ2.out.cs 3 _ rfl
          have f0 := HZ2.out.fz 0
          have f1 := HZ2.out.fz 1
          have f2 := HZ2.out.fz 2
          have f3 := HZ2.out.fz 3
          have HKE : Hid (∀ v0 v1 v2 v3,((((w3.setCell ⟨w.heap.size,0,none⟩ v0).setCell ⟨w.heap.size,1,none⟩ v1).setCell ⟨w.heap.size,2,none⟩ v2).setCell ⟨w.heap.size,3,none⟩ v3).drew.cell? ⟨g,j,none⟩ = some (.string A)) := fun v0 v1 v2 v3 => by
           have e := (cell_put (w := ((w3.setCell ⟨w.heap.size,0,none⟩ v0).setCell ⟨w.heap.size,1,none⟩ v1).setCell ⟨w.heap.size,2,none⟩ v2) (b := w.heap.size) (c := g) (i := 3) (j := j) v3 (fun h => hgn h.1)).trans ((cell_put (w := (w3.setCell ⟨w.heap.size,0,none⟩ v0).setCell ⟨w.heap.size,1,none⟩ v1) (b := w.heap.size) (c := g) (i := 2) (j := j) v2 (fun h => hgn h.1)).trans ((cell_put (w := w3.setCell ⟨w.heap.size,0,none⟩ v0) (b := w.heap.size) (c := g) (i := 1) (j := j) v1 (fun h => hgn h.1)).trans (cell_put (w := w3) (b := w.heap.size) (c := g) (i := 0) (j := j) v0 (fun h => hgn h.1))))
           exact e.trans c0
          go_wp2_with fail
          go_region_held (fun (U : World) => U.cell? ⟨g,j,none⟩ = some (.string A)) (first | exact c0 | with_reducible assumption | exact HKE.out _ _ _ _) (fail)
          clear HKE
          go_wp2_with fail
          try simp only [Exit.inBlock,Exit.then]
          refine bodyPost_ret (end_cell_tmp rfl rfl (loadTok _ ((HZ2.out.four rfl _ _ _ _).next (Below.refl _ _).drew) rfl)) rfl ?_
          exact ⟨by first | exact HR.out | (have h := HR.out; rw [show ((a + A.size : Nat) : Int) = (a : Int) + (A.size : Int) by omega] at h; exact h),(below_four HB2.out _ (Nat.le_refl _) _ _ _ _).drew⟩
    · have hlti : ¬ (j : Int) < 17 := by omega
      have HR : Hid (OneR a X (.returned (.tuple #[tv 0 ⟨#[]⟩ 0 0,.int .i64 (-1)]))) := by
       refine .inr ⟨?_,_,_,_,_,rfl⟩
       rw [← HX.out,sign_miss (rest_ne ha) (fun k hk => HP.out k hk (by omega)) HRR.out]
       rfl
      clear HP
      have z0 : V.cell? ⟨w.heap.size,0,none⟩ = some (.int .i64 0) := HZ2.out.cs 0 _ rfl
      have z1 : V.cell? ⟨w.heap.size,1,none⟩ = some (.string ⟨#[]⟩) := HZ2.out.cs 1 _ rfl
      have z2 : V.cell? ⟨w.heap.size,2,none⟩ = some (.int .i64 0) := HZ2.out.cs 2 _ rfl
      have z3 : V.cell? ⟨w.heap.size,3,none⟩ = some (.int .i64 0) := HZ2.out.cs 3 _ rfl
      have f0 := HZ2.out.fz 0
      have f1 := HZ2.out.fz 1
      have f2 := HZ2.out.fz 2
      have f3 := HZ2.out.fz 3
      go_wp2_with fail
      try simp only [Exit.inBlock,Exit.then]
      refine bodyPost_ret (end_cell_tmp rfl rfl (loadTok _ (HZ2.out.four rfl _ _ _ _) rfl)) rfl ?_
      exact ⟨HR.out,below_four HB2.out _ (Nat.le_refl _) _ _ _ _⟩
theorem one_z {a : Nat} {X : TK} (h : X.z ≠ 0) {e : Ending} (he : e = .returned (.tuple #[tv X.k ⟨X.t.toArray⟩ X.n (a : Int),.int .i64 ((a + X.z : Nat) : Int)])) : OneR a X e := .inl ⟨h,he⟩
theorem one_ref (s : ByteArray) (a : Nat) (ha : a < s.size) (hs : s.size ≤ 100000) (hr : Lib.hasPrefix (s.data.toList.drop a) [47,42] = false) (w : World) :
 Calls Tryz.prog 26 #[.string s,.int .i64 (a : Int)] w fun e w' => OneR a (firstV (s.data.toList.drop a)) e ∧ Below w.heap.size w w' := by
 have hd := drop_at s a ha
 have hh : (s.data.toList.drop a).headD 0 = s[a] := by rw [hd]; rfl
 have hL := fun w => letter_ref s[a] true w
 have e1 : letB s[a] true = ltB s[a] := by unfold letB; simp
 rw [e1] at hL
 have q34 : ((s[a].toNat : Int) == 34) = decide (s[a] = 34) := by
  rw [beq_eq,decide_eq_decide]
  constructor
  · intro e; exact UInt8.toNat_inj.1 (by simpa using Int.ofNat_inj.1 e)
  · intro e; rw [e]; rfl
 have q39 : ((s[a].toNat : Int) == 39) = decide (s[a] = 39) := by
  rw [beq_eq,decide_eq_decide]
  constructor
  · intro e; exact UInt8.toNat_inj.1 (by simpa using Int.ofNat_inj.1 e)
  · intro e; rw [e]; rfl
 have hext : ∀ p : UInt8 → Bool,s.extract a (a + ((s.data.toList.drop a).takeWhile p).length) = ⟨((s.data.toList.drop a).takeWhile p).toArray⟩ := fun p => ba_ext (by
  rw [ext_list,List.drop_take,Nat.add_sub_cancel_left,take_tw])
 have htl : ∀ p : UInt8 → Bool,a + ((s.data.toList.drop a).takeWhile p).length ≤ s.size := fun p => by
  have := (List.takeWhile_prefix (l := s.data.toList.drop a) p).length_le
  rw [List.length_drop,len_of] at this
  omega
 have hrest : (s.data.toList.drop a).drop 1 = s.data.toList.drop (a + 1) := by rw [List.drop_drop]
 unfold firstV
 rw [hh]
 cases hf : ltB s[a]
 · rw [hf] at hL
   simp only [Bool.false_eq_true,if_false]
   by_cases c34 : s[a] = 34
   · rw [if_pos c34]
     have h34 : ((s[a].toNat : Int) == 34) = true := by rw [q34,decide_eq_true c34]
     have hQ := fun w => quoted_ref s hs a ha 34 c34 w
     unfold nameV
     rw [hrest]
     unfold quoV at hQ
     cases hq : quo 34 (s.data.toList.drop (a + 1)) with
     | none =>
       rw [hq] at hQ
       exact (one_qnone s a ha hs hL h34 ⟨#[]⟩ (-1) hQ w).mono (fun e w' k => ⟨.inr ⟨rfl,_,_,_,_,k.1⟩,k.2⟩)
     | some x =>
       obtain ⟨t,m⟩ := x
       rw [hq] at hQ
       simp only
       by_cases ct : t = []
       · subst ct
         rw [if_pos (.inl rfl)]
         exact (one_qnone s a ha hs hL h34 ⟨#[]⟩ _ hQ w).mono (fun e w' k => ⟨.inr ⟨rfl,_,_,_,_,k.1⟩,k.2⟩)
       · have h1 : ¬ (⟨t.toArray⟩ : ByteArray).toList = [] := by rw [toList_ba]; exact ct
         have h0 : (⟨t.toArray⟩ : ByteArray).toList.isEmpty = false := by rw [toList_ba]; simpa using ct
         by_cases cl : 64 < t.length
         · rw [if_pos (.inr cl)]
           exact (one_qlong s a ha hs hL h34 ⟨t.toArray⟩ _ hQ (by rw [size_ba]; omega) w).mono (fun e w' k => ⟨.inr ⟨rfl,_,_,_,_,k.1⟩,k.2⟩)
         · rw [if_neg (fun e => e.elim ct cl)]
           refine (one_qname s a ha hs hL h34 ⟨t.toArray⟩ _ hQ (by rw [size_ba]; omega) h0 h1 w).mono (fun e w' k => ⟨one_z (by simp) ?_,k.2⟩)
           rw [k.1]
           show Ending.returned (.tuple #[_,.int .i64 ((a + 1 + m : Nat) : Int)]) = .returned (.tuple #[_,.int .i64 ((a + (m + 1) : Nat) : Int)])
           rw [show a + 1 + m = a + (m + 1) by omega]
   · rw [if_neg c34]
     have h34 : ((s[a].toNat : Int) == 34) = false := by rw [q34,decide_eq_false c34]
     have hdg : dgB s[a] = decide ((48 : Int) ≤ (s[a].toNat : Int) ∧ (s[a].toNat : Int) ≤ 57) := by unfold dgB; rw [decide_eq_decide]; omega
     by_cases c39 : s[a] = 39
     · have h39 : ((s[a].toNat : Int) == 39) = true := by rw [q39,decide_eq_true c39]
       have hnd : dgB s[a] = false := by rw [c39]; rfl
       rw [hnd]
       simp only [Bool.false_eq_true,if_false]
       rw [if_pos c39]
       have hQ := fun w => quoted_ref s hs a ha 39 c39 w
       unfold textV
       rw [hrest]
       unfold quoV at hQ
       cases hq : quo 39 (s.data.toList.drop (a + 1)) with
       | none =>
         rw [hq] at hQ
         exact (one_tempty s a ha hs hL h34 h39 ⟨#[]⟩ (-1) hQ w).mono (fun e w' k => ⟨.inr ⟨rfl,_,_,_,_,k.1⟩,k.2⟩)
       | some x =>
         obtain ⟨t,m⟩ := x
         rw [hq] at hQ
         simp only
         have hfin : ∀ V : Value,Ending.returned (.tuple #[V,.int .i64 ((a + 1 + m : Nat) : Int)]) = .returned (.tuple #[V,.int .i64 ((a + (m + 1) : Nat) : Int)]) := fun V => by rw [show a + 1 + m = a + (m + 1) by omega]
         by_cases cl : 64 < t.length
         · rw [if_pos cl]
           exact (one_tlong s a ha hs hL h34 h39 ⟨t.toArray⟩ _ hQ (by rw [size_ba]; omega) w).mono (fun e w' k => ⟨.inr ⟨rfl,_,_,_,_,k.1⟩,k.2⟩)
         · rw [if_neg cl]
           by_cases ct : t = []
           · subst ct
             exact (one_tempty s a ha hs hL h34 h39 ⟨#[]⟩ _ hQ w).mono (fun e w' k => ⟨one_z (by simp) (k.1.trans (hfin _)),k.2⟩)
           · have h1 : ¬ (⟨t.toArray⟩ : ByteArray).toList = [] := by rw [toList_ba]; exact ct
             have h0 : (⟨t.toArray⟩ : ByteArray).toList.isEmpty = false := by rw [toList_ba]; simpa using ct
             exact (one_ttext s a ha hs hL h34 h39 ⟨t.toArray⟩ _ hQ (by rw [size_ba]; omega) h0 h1 w).mono (fun e w' k => ⟨one_z (by simp) (k.1.trans (hfin _)),k.2⟩)
     · have h39 : ((s[a].toNat : Int) == 39) = false := by rw [q39,decide_eq_false c39]
       by_cases cd : dgB s[a] = true
       · rw [if_pos cd]
         have cd2 := cd
         rw [hdg,decide_eq_true_eq] at cd2
         have hW := fun w => word_ref_true s hs a (by omega) w
         have hE := htl dgB
         have hA := hext dgB
         unfold digV
         have hz : ((s.data.toList.drop a).takeWhile dgB).length ≠ 0 := by
          rw [hd,List.takeWhile_cons_of_pos cd]; simp
         generalize (s.data.toList.drop a).takeWhile dgB = l at *
         have hD : ∀ w,Calls Tryz.prog 55 #[.string ⟨l.toArray⟩] w fun e w' => e = .returned (.tuple #[.int .i64 (Num.rdV l),.int .i64 (Num.rdE l)]) ∧ Below w.heap.size w w' := fun w => Num.refRead_any ⟨l.toArray⟩ (by rw [size_ba]; omega) w
         by_cases ce : Num.rdE l = 0
         · rw [if_pos ce]
           rw [ce] at hD
           exact (one_dok s a ha hs hL h34 h39 cd2.1 cd2.2 (a + l.length) ⟨by omega,hE⟩ _ hA (Num.rdV l) 0 hW hD w).mono (fun e w' k => ⟨one_z hz k.1,k.2⟩)
         · rw [if_neg ce]
           exact (one_dbad s a ha hs hL h34 h39 cd2.1 cd2.2 (a + l.length) ⟨by omega,hE⟩ _ hA (Num.rdV l) (Num.rdE l) (by simpa using ce) hW hD w).mono (fun e w' k => ⟨.inr ⟨rfl,_,_,_,_,k.1⟩,k.2⟩)
       · rw [if_neg cd,if_neg c39]
         exact one_sign s a ha hs hr hL h34 h39 (fun q => cd (by rw [hdg,decide_eq_true q])) w
 · rw [hf] at hL
   simp only [if_true]
   have hW := fun w => word_ref_false s hs a (by omega) w
   have hE := htl wdB
   have hA := hext wdB
   have hz : ((s.data.toList.drop a).takeWhile wdB).length ≠ 0 := by
    rw [hd,List.takeWhile_cons_of_pos (by unfold wdB; rw [hf]; rfl)]; simp
   unfold wordV
   generalize (s.data.toList.drop a).takeWhile wdB = l at *
   by_cases cl : 64 < l.length
   · rw [if_pos cl]
     exact (one_long s a ha hs hL (a + l.length) ⟨by omega,hE⟩ hW (by omega) w).mono (fun e w' k => ⟨.inr ⟨rfl,_,_,_,_,k.1⟩,k.2⟩)
   · rw [if_neg cl]
     have hC := fun w => capital_ref ⟨l.toArray⟩ (by rw [size_ba]; omega) w
     have hK := fun w => key_ref ⟨(up l).toArray⟩ w
     cases hk : keyB (up l)
     · have hK2 : ∀ w,Calls Tryz.prog 53 #[.string ⟨(up l).toArray⟩] w fun e w' => e = .returned (.bool false) ∧ Below w.heap.size w w' := fun w => hk ▸ hK w
       exact (one_name s a ha hs hL (a + l.length) ⟨by omega,hE⟩ _ _ hA hW (by omega) hC hK2 w).mono (fun e w' k => ⟨one_z hz k.1,k.2⟩)
     · have hK2 : ∀ w,Calls Tryz.prog 53 #[.string ⟨(up l).toArray⟩] w fun e w' => e = .returned (.bool true) ∧ Below w.heap.size w w' := fun w => hk ▸ hK w
       exact (one_key s a ha hs hL (a + l.length) ⟨by omega,hE⟩ _ _ hA hW (by omega) hC hK2 w).mono (fun e w' k => ⟨one_z hz (by rw [k.1]; simp),k.2⟩)
end Go.Proofs.YtlgkghebemfpjaaGreatDoor
