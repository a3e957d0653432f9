/- Expressions: the document's comparison. -/
import Derived.Test.YtlgkghebemfpjaaGreatDoorQVr
namespace Go.Proofs.YtlgkghebemfpjaaGreatDoor.Pa
open Go.ChangeShapes Go.WideShapes Go.ChangeAt Go.RowKit
set_option linter.unusedVariables false
set_option linter.unusedSimpArgs false
set_option maxRecDepth 100000
set_option maxHeartbeats 8000000 in
theorem expr_same (N : Nat) (H33 : C33 N) (H15 : C15 (N - 1)) : C16 N := by
 intro w u0 u1 u2 u3 u4 u5 u6 u7 u8 u9 u10 u11 v0 v1 v2 v3 v4 v5 v6 v7 v8 v9 v10 v11 hv
 obtain ⟨n0,rfl,rfl⟩ := hv.i 0 rfl rfl
 obtain ⟨n1,rfl,rfl⟩ := hv.i 1 rfl rfl
 obtain ⟨n2,rfl,rfl⟩ := hv.i 2 rfl rfl
 obtain ⟨n3,rfl,rfl⟩ := hv.i 3 rfl rfl
 obtain ⟨s4,rfl,rfl⟩ := hv.s 4 rfl rfl
 obtain ⟨s5,rfl,rfl⟩ := hv.s 5 rfl rfl
 obtain ⟨s6,rfl,rfl⟩ := hv.s 6 rfl rfl
 obtain ⟨n7,rfl,rfl⟩ := hv.i 7 rfl rfl
 obtain ⟨b8,rfl,rfl⟩ := hv.b 8 rfl rfl
 obtain ⟨m9,n9,rfl,rfl⟩ := hv.p 9 rfl rfl
 have h10 : VS .X N w u10 v10 := hv.sl 10 rfl rfl
 have h11 : VS .Q N w u11 v11 := hv.sl 11 rfl rfl
 obtain ⟨p10,c10,q10,d10,n10,l10,l10',rfl,rfl,_,_,_,hn10,_⟩ := h10.ex
 obtain ⟨p11,c11,q11,d11,n11,l11,l11',rfl,rfl,_,_,_,hn11,_⟩ := h11.ex
 have HX : Hid (VS .X N w (.slice p10 n10 c10) (.slice q10 n10 d10)) := h10
 have HQ : Hid (VS .Q N w (.slice p11 n11 c11) (.slice q11 n11 d11)) := h11
 have HC3 : Hid (C33 N) := H33
 have HC : Hid (C15 (N - 1)) := H15
 have hnb : (n11 : Int) ≤ 9223372036854775807 := by omega
 clear hv h10 h11 hn10 hn11 H33 H15
 obtain ⟨W1,hW1⟩ : ∃ W1,W1 = w.alloc (.cells #[.int .i64 n0,.int .i64 n1,.int .i64 n2,.int .i64 n3,.string s4,.string s5,.string s6,.int .i64 n7,.bool b8,.int .i64 m9,.slice p10 n10 c10,.slice p11 n11 c11] 27) := ⟨_,rfl⟩
 obtain ⟨W2,hW2⟩ : ∃ W2,W2 = W1.alloc (.cells #[.int .i64 n0,.int .i64 n1,.int .i64 n2,.int .i64 n3,.string s4,.string s5,.string s6,.int .i64 n7,.bool b8,.int .i64 n9,.slice q10 n10 d10,.slice q11 n11 d11] 27) := ⟨_,rfl⟩
 have k1 : Kept (fun _ => False) w W1 := by rw [hW1]; exact (Kept.refl _ _).alloc _
 have k2 : Kept (fun _ => False) W1 W2 := by rw [hW2]; exact (Kept.refl _ _).alloc _
 obtain ⟨b3,hb3⟩ : ∃ b3,b3 = w.heap.size := ⟨_,rfl⟩
 obtain ⟨b4,hb4⟩ : ∃ b4,b4 = W1.heap.size := ⟨_,rfl⟩
 have r3 : W2.heap[b3]? = some (.cells #[.int .i64 n0,.int .i64 n1,.int .i64 n2,.int .i64 n3,.string s4,.string s5,.string s6,.int .i64 n7,.bool b8,.int .i64 m9,.slice p10 n10 c10,.slice p11 n11 c11] 27 (0,0)) := by
  have : W1.heap[w.heap.size]? = some (.cells #[.int .i64 n0,.int .i64 n1,.int .i64 n2,.int .i64 n3,.string s4,.string s5,.string s6,.int .i64 n7,.bool b8,.int .i64 m9,.slice p10 n10 c10,.slice p11 n11 c11] 27 (0,0)) := by rw [hW1]; exact heap_alloc_new w _
  rw [hb3]
  exact (k2.block _ (blk_lt this) (fun z => z)).trans this
 have r4 : W2.heap[b4]? = some (.cells #[.int .i64 n0,.int .i64 n1,.int .i64 n2,.int .i64 n3,.string s4,.string s5,.string s6,.int .i64 n7,.bool b8,.int .i64 n9,.slice q10 n10 d10,.slice q11 n11 d11] 27 (0,0)) := by rw [hb4,hW2]; exact heap_alloc_new W1 _
 have K2 : Hid (Kept (fun _ => False) w W2) := k1.trans k2 (fun i q => .inl q)
 have H1 : Hid (W1 = w.alloc (.cells #[.int .i64 n0,.int .i64 n1,.int .i64 n2,.int .i64 n3,.string s4,.string s5,.string s6,.int .i64 n7,.bool b8,.int .i64 m9,.slice p10 n10 c10,.slice p11 n11 c11] 27)) := hW1
 have H2 : Hid (W2 = W1.alloc (.cells #[.int .i64 n0,.int .i64 n1,.int .i64 n2,.int .i64 n3,.string s4,.string s5,.string s6,.int .i64 n7,.bool b8,.int .i64 n9,.slice q10 n10 d10,.slice q11 n11 d11] 27)) := hW2
 have HB : Hid (b3 = w.heap.size ∧ b4 = W1.heap.size) := ⟨hb3,hb4⟩
 have x0 : W2.cell? ⟨b3,0,none⟩ = some (.int .i64 n0) := cell_of_row W2 _ 0 _ 27 (0,0) r3
 have y0 : W2.cell? ⟨b4,0,none⟩ = some (.int .i64 n0) := cell_of_row W2 _ 0 _ 27 (0,0) r4
 have x1 : W2.cell? ⟨b3,1,none⟩ = some (.int .i64 n1) := cell_of_row W2 _ 1 _ 27 (0,0) r3
 have y1 : W2.cell? ⟨b4,1,none⟩ = some (.int .i64 n1) := cell_of_row W2 _ 1 _ 27 (0,0) r4
 have x2 : W2.cell? ⟨b3,2,none⟩ = some (.int .i64 n2) := cell_of_row W2 _ 2 _ 27 (0,0) r3
 have y2 : W2.cell? ⟨b4,2,none⟩ = some (.int .i64 n2) := cell_of_row W2 _ 2 _ 27 (0,0) r4
 have x3 : W2.cell? ⟨b3,3,none⟩ = some (.int .i64 n3) := cell_of_row W2 _ 3 _ 27 (0,0) r3
 have y3 : W2.cell? ⟨b4,3,none⟩ = some (.int .i64 n3) := cell_of_row W2 _ 3 _ 27 (0,0) r4
 have x4 : W2.cell? ⟨b3,4,none⟩ = some (.string s4) := cell_of_row W2 _ 4 _ 27 (0,0) r3
 have y4 : W2.cell? ⟨b4,4,none⟩ = some (.string s4) := cell_of_row W2 _ 4 _ 27 (0,0) r4
 have x5 : W2.cell? ⟨b3,5,none⟩ = some (.string s5) := cell_of_row W2 _ 5 _ 27 (0,0) r3
 have y5 : W2.cell? ⟨b4,5,none⟩ = some (.string s5) := cell_of_row W2 _ 5 _ 27 (0,0) r4
 have x6 : W2.cell? ⟨b3,6,none⟩ = some (.string s6) := cell_of_row W2 _ 6 _ 27 (0,0) r3
 have y6 : W2.cell? ⟨b4,6,none⟩ = some (.string s6) := cell_of_row W2 _ 6 _ 27 (0,0) r4
 have x7 : W2.cell? ⟨b3,7,none⟩ = some (.int .i64 n7) := cell_of_row W2 _ 7 _ 27 (0,0) r3
 have y7 : W2.cell? ⟨b4,7,none⟩ = some (.int .i64 n7) := cell_of_row W2 _ 7 _ 27 (0,0) r4
 have x8 : W2.cell? ⟨b3,8,none⟩ = some (.bool b8) := cell_of_row W2 _ 8 _ 27 (0,0) r3
 have y8 : W2.cell? ⟨b4,8,none⟩ = some (.bool b8) := cell_of_row W2 _ 8 _ 27 (0,0) r4
 have x9 : W2.cell? ⟨b3,9,none⟩ = some (.int .i64 m9) := cell_of_row W2 _ 9 _ 27 (0,0) r3
 have y9 : W2.cell? ⟨b4,9,none⟩ = some (.int .i64 n9) := cell_of_row W2 _ 9 _ 27 (0,0) r4
 have x10 : W2.cell? ⟨b3,10,none⟩ = some (.slice p10 n10 c10) := cell_of_row W2 _ 10 _ 27 (0,0) r3
 have y10 : W2.cell? ⟨b4,10,none⟩ = some (.slice q10 n10 d10) := cell_of_row W2 _ 10 _ 27 (0,0) r4
 have x11 : W2.cell? ⟨b3,11,none⟩ = some (.slice p11 n11 c11) := cell_of_row W2 _ 11 _ 27 (0,0) r3
 have y11 : W2.cell? ⟨b4,11,none⟩ = some (.slice q11 n11 d11) := cell_of_row W2 _ 11 _ 27 (0,0) r4
 have RR : Hid (W2.heap[b3]? = some (.cells #[.int .i64 n0,.int .i64 n1,.int .i64 n2,.int .i64 n3,.string s4,.string s5,.string s6,.int .i64 n7,.bool b8,.int .i64 m9,.slice p10 n10 c10,.slice p11 n11 c11] 27 (0,0)) ∧ W2.heap[b4]? = some (.cells #[.int .i64 n0,.int .i64 n1,.int .i64 n2,.int .i64 n3,.string s4,.string s5,.string s6,.int .i64 n7,.bool b8,.int .i64 n9,.slice q10 n10 d10,.slice q11 n11 d11] 27 (0,0))) := ⟨r3,r4⟩
 clear hW1 hW2 k1 k2 hb3 hb4 r3 r4
 go_enter Tryz.func16,Tryz.ntmps16
 go_wp2_with (first | (refine st_bx (bx27 _ _ _ _ _ _ _ _ _ _ _ _) ?_; rw [← H1.out, ← HB.out.1]) | (refine st_bx (bx27 _ _ _ _ _ _ _ _ _ _ _ _) ?_; rw [← H2.out, ← HB.out.2]))
 clear x0 x1 x2 x3 x4 x5 x6 x7 x8 x9 x10 x11 y0 y1 y2 y3 y4 y5 y6 y7 y8 y9 y10 y11
 go_loopg [7] n11 (fun (gk : Nat) (v7 : Value) (wr : World) => ∃ i : Nat,v7 = .int .i64 (i : Int) ∧ Hid (i + gk = n11) ∧ Hid (Kept (fun _ => False) W2 wr))
 case atStart => exact ⟨0,rfl,Nat.zero_add _,Kept.refl _ _⟩
 case round =>
  obtain ⟨i,rfl,HI,HK⟩ := hrel
  have z3 : wr.cell? ⟨b3,11,none⟩ = some (.slice p11 n11 c11) := HK.out.cell (cell_of_row W2 _ 11 _ 27 (0,0) RR.out.1) (fun z => z)
  have z4 : wr.cell? ⟨b4,11,none⟩ = some (.slice q11 n11 d11) := HK.out.cell (cell_of_row W2 _ 11 _ 27 (0,0) RR.out.2) (fun z => z)
  by_cases hi : i < n11
  · have hii : (i : Int) < (n11 : Int) := by omega
    obtain ⟨gk,rfl⟩ : ∃ g,gk = g + 1 := ⟨gk - 1,by have := HI.out; omega⟩
    obtain ⟨g,o,g',o',us,vs,rfl,rfl,hu,hv,hcu,hcv,hr⟩ := ((HQ.out.kept K2.out).kept HK.out).elem hi
    obtain ⟨q0,q1,q2,q3,rfl⟩ := len4 hu
    obtain ⟨r0,r1,r2,r3,rfl⟩ := len4 hv
    have LU : Hid (∀ W,Kept (fun _ => False) wr W → (loadVar 44 ⟨g,o + i * 4,none⟩).run Tryz.prog W = .ok (.agg #[q0,q1,q2,q3]) W) := row_load hcu Tryz.underlying44 rfl (by kernel_rfl)
    have LV : Hid (∀ W,Kept (fun _ => False) wr W → (loadVar 44 ⟨g',o' + i * 4,none⟩).run Tryz.prog W = .ok (.agg #[r0,r1,r2,r3]) W) := row_load hcv Tryz.underlying44 rfl (by kernel_rfl)
    have HR : Hid (VR .Q (N - 1) wr [q0,q1,q2,q3] [r0,r1,r2,r3]) := hr
    clear hu hv hcu hcv hr hi
    go_wp2_with fail
    have HS : Hid (Kept (fun _ => False) wr wr.drew) := (Kept.refl _ wr).drew
    refine wp_only ?_
    refine wp_region_held_drew (S := Kept (fun _ => False) wr) (by kernel_rfl) HS.out (fun hHeld => ?_)
    clear hHeld
    simp only [List.size_toArray,List.length_cons,List.length_nil,Nat.zero_add,Nat.reduceAdd,Array.replicate]
    refine tH 0 (.pointer (some ⟨b3,11,none⟩)) HS.out ?_ ?_
    · intro W h; first | rfl | go_simp | (go_simp; rfl)
    try simp only [List.getElem_toArray,List.getElem_cons_succ,List.getElem_cons_zero,Act.put,sI,sS,sZ]
    refine tH 1 (.slice (some ⟨g,o,none⟩) n11 c11) HS.out ?_ ?_
    · exact fun W h => ex_load (lv25 (h.cell z3 (fun z => z)))
    try simp only [List.getElem_toArray,List.getElem_cons_succ,List.getElem_cons_zero,Act.put,sI,sS,sZ]
    refine tH 2 (.int .i64 (i : Int)) HS.out ?_ ?_
    · intro W h; first | rfl | go_simp | (go_simp; rfl)
    try simp only [List.getElem_toArray,List.getElem_cons_succ,List.getElem_cons_zero,Act.put,sI,sS,sZ]
    refine tH 3 (.pointer (some ⟨g,o + i * 4,none⟩)) HS.out ?_ ?_
    · intro W h; first | rfl | go_simp | (go_simp; rfl)
    try simp only [List.getElem_toArray,List.getElem_cons_succ,List.getElem_cons_zero,Act.put,sI,sS,sZ]
    refine tH 4 (.agg #[q0,q1,q2,q3]) HS.out ?_ ?_
    · exact fun W h => ex_load (LU.out W h)
    try simp only [List.getElem_toArray,List.getElem_cons_succ,List.getElem_cons_zero,Act.put,sI,sS,sZ]
    refine tH 5 (.pointer (some ⟨b4,11,none⟩)) HS.out ?_ ?_
    · intro W h; first | rfl | go_simp | (go_simp; rfl)
    try simp only [List.getElem_toArray,List.getElem_cons_succ,List.getElem_cons_zero,Act.put,sI,sS,sZ]
    refine tH 6 (.slice (some ⟨g',o',none⟩) n11 d11) HS.out ?_ ?_
    · exact fun W h => ex_load (lv25 (h.cell z4 (fun z => z)))
    try simp only [List.getElem_toArray,List.getElem_cons_succ,List.getElem_cons_zero,Act.put,sI,sS,sZ]
    refine tH 7 (.int .i64 (i : Int)) HS.out ?_ ?_
    · intro W h; first | rfl | go_simp | (go_simp; rfl)
    try simp only [List.getElem_toArray,List.getElem_cons_succ,List.getElem_cons_zero,Act.put,sI,sS,sZ]
    refine tH 8 (.pointer (some ⟨g',o' + i * 4,none⟩)) HS.out ?_ ?_
    · intro W h; first | rfl | go_simp | (go_simp; rfl)
    try simp only [List.getElem_toArray,List.getElem_cons_succ,List.getElem_cons_zero,Act.put,sI,sS,sZ]
    refine tH 9 (.agg #[r0,r1,r2,r3]) HS.out ?_ ?_
    · exact fun W h => ex_load (LV.out W h)
    try simp only [List.getElem_toArray,List.getElem_cons_succ,List.getElem_cons_zero,Act.put,sI,sS,sZ]
    refine tH 10 (.bool false) HS.out ?_ ?_
    · intro W h; first | rfl | go_simp | (go_simp; rfl)
    try simp only [List.getElem_toArray,List.getElem_cons_succ,List.getElem_cons_zero,Act.put,sI,sS,sZ]
    refine wpAnyH_ready (rs := [11]) (by kernel_rfl) (by simp) ?_
    refine AllReadyH.cons rfl (fun K hK => ?_) AllReadyH.nil
    rw [if_pos (by rfl)]
    go_wp2_with fail
    refine Calls.mono (HC.out _ q0 q1 q2 q3 r0 r1 r2 r3 (HR.out.kept HS.out)) ?_; rintro e w2 ⟨rfl,k2⟩
    have HS2 : Hid (Kept (fun _ => False) wr w2) := HS.out.trans k2 (fun i q => .inl q)
    clear HS k2
    have HS : Hid (Kept (fun _ => False) wr w2) := HS2.out
    clear HS2
    go_wp2_with fail
    refine hK.out _ _ HS.out (fun _ => ?_)
    clear hK K
    try simp only [List.getElem_toArray,List.getElem_cons_succ,List.getElem_cons_zero,Act.put,sI,sS,sZ]
    refine tH 12 (.bool false) HS.out ?_ ?_
    · intro W h; first | rfl | go_simp | (go_simp; rfl)
    try simp only [List.getElem_toArray,List.getElem_cons_succ,List.getElem_cons_zero,Act.put,sI,sS,sZ]
    refine wpAnyH_done (by kernel_rfl) ?_ _
    unfold OnlyN
    go_wp2_with fail
    go_roundg gk
    case measure => omega
    case rel => exact ⟨i + 1,by simp,by show i + 1 + gk = n11; have := HI.out; omega,HK.out.trans HS.out (fun i q => .inl q)⟩
  · have hii : ¬ (i : Int) < (n11 : Int) := by omega
    have z5 : wr.cell? ⟨b3,10,none⟩ = some (.slice p10 n10 c10) := HK.out.cell (cell_of_row W2 _ 10 _ 27 (0,0) RR.out.1) (fun z => z)
    have z6 : wr.cell? ⟨b4,10,none⟩ = some (.slice q10 n10 d10) := HK.out.cell (cell_of_row W2 _ 10 _ 27 (0,0) RR.out.2) (fun z => z)
    go_wp2_with fail
    refine Calls.mono (HC3.out _ _ _ ((HX.out.kept K2.out).kept HK.out)) ?_; rintro e w3 ⟨rfl,k3⟩
    have HF : Hid (Kept (fun _ => False) w w3) := (K2.out.trans HK.out (fun i q => .inl q)).trans k3 (fun i q => .inl q)
    clear k3
    go_wp2_with fail
    go_ret
    exact ⟨rfl,HF.out⟩
end Go.Proofs.YtlgkghebemfpjaaGreatDoor.Pa
