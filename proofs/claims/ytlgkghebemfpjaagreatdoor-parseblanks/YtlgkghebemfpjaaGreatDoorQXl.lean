/- Selects: the document's comparison. -/
import Derived.Test.YtlgkghebemfpjaaGreatDoorQVr
namespace Go.Proofs.YtlgkghebemfpjaaGreatDoor.Pa
open Go.ChangeShapes Go.WideShapes Go.ChangeAt Go.RowKit
set_option linter.unusedVariables false
set_option linter.unusedSimpArgs false
set_option maxRecDepth 100000
set_option maxHeartbeats 8000000 in
theorem select_same (N : Nat) (H16 : C16 (N - 1)) (H33 : C33 (N - 1)) (H33N : C33 N) : C32 N := by
 intro w u0 u1 u2 u3 u4 u5 u6 v0 v1 v2 v3 v4 v5 v6 hv
 obtain ⟨n0,rfl,rfl⟩ := hv.i 0 rfl rfl
 obtain ⟨n1,rfl,rfl⟩ := hv.b 1 rfl rfl
 have h2 : VS .It N w u2 v2 := hv.sl 2 rfl rfl
 obtain ⟨p2,c2,q2,d2,n2,l2,l2',rfl,rfl,_,_,_,hn2,_⟩ := h2.ex
 have HI2 : Hid (VS .It N w (.slice p2 n2 c2) (.slice q2 n2 d2)) := h2
 have h3 : VS .So N w u3 v3 := hv.sl 3 rfl rfl
 obtain ⟨p3,c3,q3,d3,n3,l3,l3',rfl,rfl,_,_,_,hn3,_⟩ := h3.ex
 have HI3 : Hid (VS .So N w (.slice p3 n3 c3) (.slice q3 n3 d3)) := h3
 have h4 : VS .X N w u4 v4 := hv.sl 4 rfl rfl
 obtain ⟨p4,c4,q4,d4,n4,l4,l4',rfl,rfl,_,_,_,hn4,_⟩ := h4.ex
 have HI4 : Hid (VS .X N w (.slice p4 n4 c4) (.slice q4 n4 d4)) := h4
 have h5 : VS .X N w u5 v5 := hv.sl 5 rfl rfl
 obtain ⟨p5,c5,q5,d5,n5,l5,l5',rfl,rfl,_,_,_,hn5,_⟩ := h5.ex
 have HI5 : Hid (VS .X N w (.slice p5 n5 c5) (.slice q5 n5 d5)) := h5
 have h6 : VS .X N w u6 v6 := hv.sl 6 rfl rfl
 obtain ⟨p6,c6,q6,d6,n6,l6,l6',rfl,rfl,_,_,_,hn6,_⟩ := h6.ex
 have HI6 : Hid (VS .X N w (.slice p6 n6 c6) (.slice q6 n6 d6)) := h6
 have HC16 : Hid (C16 (N - 1)) := H16
 have HC33 : Hid (C33 (N - 1)) := H33
 have HC3N : Hid (C33 N) := H33N
 have hnb : (n2 : Int) ≤ 9223372036854775807 := by omega
 have hnb1 : (n3 : Int) ≤ 9223372036854775807 := by omega
 clear hv h2 h3 h4 h5 h6 hn2 hn3 hn4 hn5 hn6 H16 H33 H33N
 obtain ⟨W1,hW1⟩ : ∃ W1,W1 = w.alloc (.cells #[.int .i64 n0,.bool n1,.slice p2 n2 c2,.slice p3 n3 c3,.slice p4 n4 c4,.slice p5 n5 c5,.slice p6 n6 c6] 53) := ⟨_,rfl⟩
 obtain ⟨W2,hW2⟩ : ∃ W2,W2 = W1.alloc (.cells #[.int .i64 n0,.bool n1,.slice q2 n2 d2,.slice q3 n3 d3,.slice q4 n4 d4,.slice q5 n5 d5,.slice q6 n6 d6] 53) := ⟨_,rfl⟩
 have k1 : Kept (fun _ => False) w W1 := by rw [hW1]; exact (Kept.refl _ _).alloc _
 have k2 : Kept (fun _ => False) W1 W2 := by rw [hW2]; exact (Kept.refl _ _).alloc _
 obtain ⟨b3,hb3⟩ : ∃ b3,b3 = w.heap.size := ⟨_,rfl⟩
 obtain ⟨b4,hb4⟩ : ∃ b4,b4 = W1.heap.size := ⟨_,rfl⟩
 have r3 : W2.heap[b3]? = some (.cells #[.int .i64 n0,.bool n1,.slice p2 n2 c2,.slice p3 n3 c3,.slice p4 n4 c4,.slice p5 n5 c5,.slice p6 n6 c6] 53 (0,0)) := by
  have : W1.heap[w.heap.size]? = some (.cells #[.int .i64 n0,.bool n1,.slice p2 n2 c2,.slice p3 n3 c3,.slice p4 n4 c4,.slice p5 n5 c5,.slice p6 n6 c6] 53 (0,0)) := by rw [hW1]; exact heap_alloc_new w _
  rw [hb3]
  exact (k2.block _ (blk_lt this) (fun z => z)).trans this
 have r4 : W2.heap[b4]? = some (.cells #[.int .i64 n0,.bool n1,.slice q2 n2 d2,.slice q3 n3 d3,.slice q4 n4 d4,.slice q5 n5 d5,.slice q6 n6 d6] 53 (0,0)) := by rw [hb4,hW2]; exact heap_alloc_new W1 _
 have K2 : Hid (Kept (fun _ => False) w W2) := k1.trans k2 (fun i q => .inl q)
 have H1 : Hid (W1 = w.alloc (.cells #[.int .i64 n0,.bool n1,.slice p2 n2 c2,.slice p3 n3 c3,.slice p4 n4 c4,.slice p5 n5 c5,.slice p6 n6 c6] 53)) := hW1
 have H2 : Hid (W2 = W1.alloc (.cells #[.int .i64 n0,.bool n1,.slice q2 n2 d2,.slice q3 n3 d3,.slice q4 n4 d4,.slice q5 n5 d5,.slice q6 n6 d6] 53)) := hW2
 have HB : Hid (b3 = w.heap.size ∧ b4 = W1.heap.size) := ⟨hb3,hb4⟩
 have x0 : W2.cell? ⟨b3,0,none⟩ = some (.int .i64 n0) := cell_of_row W2 _ 0 _ 53 (0,0) r3
 have y0 : W2.cell? ⟨b4,0,none⟩ = some (.int .i64 n0) := cell_of_row W2 _ 0 _ 53 (0,0) r4
 have x1 : W2.cell? ⟨b3,1,none⟩ = some (.bool n1) := cell_of_row W2 _ 1 _ 53 (0,0) r3
 have y1 : W2.cell? ⟨b4,1,none⟩ = some (.bool n1) := cell_of_row W2 _ 1 _ 53 (0,0) r4
 have x2 : W2.cell? ⟨b3,2,none⟩ = some (.slice p2 n2 c2) := cell_of_row W2 _ 2 _ 53 (0,0) r3
 have y2 : W2.cell? ⟨b4,2,none⟩ = some (.slice q2 n2 d2) := cell_of_row W2 _ 2 _ 53 (0,0) r4
 have x3 : W2.cell? ⟨b3,3,none⟩ = some (.slice p3 n3 c3) := cell_of_row W2 _ 3 _ 53 (0,0) r3
 have y3 : W2.cell? ⟨b4,3,none⟩ = some (.slice q3 n3 d3) := cell_of_row W2 _ 3 _ 53 (0,0) r4
 have x4 : W2.cell? ⟨b3,4,none⟩ = some (.slice p4 n4 c4) := cell_of_row W2 _ 4 _ 53 (0,0) r3
 have y4 : W2.cell? ⟨b4,4,none⟩ = some (.slice q4 n4 d4) := cell_of_row W2 _ 4 _ 53 (0,0) r4
 have x5 : W2.cell? ⟨b3,5,none⟩ = some (.slice p5 n5 c5) := cell_of_row W2 _ 5 _ 53 (0,0) r3
 have y5 : W2.cell? ⟨b4,5,none⟩ = some (.slice q5 n5 d5) := cell_of_row W2 _ 5 _ 53 (0,0) r4
 have x6 : W2.cell? ⟨b3,6,none⟩ = some (.slice p6 n6 c6) := cell_of_row W2 _ 6 _ 53 (0,0) r3
 have y6 : W2.cell? ⟨b4,6,none⟩ = some (.slice q6 n6 d6) := cell_of_row W2 _ 6 _ 53 (0,0) r4
 have RR : Hid (W2.heap[b3]? = some (.cells #[.int .i64 n0,.bool n1,.slice p2 n2 c2,.slice p3 n3 c3,.slice p4 n4 c4,.slice p5 n5 c5,.slice p6 n6 c6] 53 (0,0)) ∧ W2.heap[b4]? = some (.cells #[.int .i64 n0,.bool n1,.slice q2 n2 d2,.slice q3 n3 d3,.slice q4 n4 d4,.slice q5 n5 d5,.slice q6 n6 d6] 53 (0,0))) := ⟨r3,r4⟩
 clear hW1 hW2 k1 k2 hb3 hb4 r3 r4
 go_enter Tryz.func32,Tryz.ntmps32
 go_wp2_with (first | (refine st_bx (bx53 _ _ _ _ _ _ _) ?_; rw [← H1.out, ← HB.out.1]) | (refine st_bx (bx53 _ _ _ _ _ _ _) ?_; rw [← H2.out, ← HB.out.2]))
 clear x0 y0 x1 y1 x2 y2 x3 y3 x4 y4 x5 y5 x6 y6
 go_loopg [7] n2 (fun (gk : Nat) (v7 : Value) (wr : World) => ∃ i : Nat,v7 = .int .i64 (i : Int) ∧ Hid (i + gk = n2) ∧ Hid (Kept (fun _ => False) W2 wr))
 case atStart => exact ⟨0,rfl,Nat.zero_add _,Kept.refl _ _⟩
 case round =>
  obtain ⟨i,rfl,HI,HK⟩ := hrel
  have z3 : wr.cell? ⟨b3,2,none⟩ = some (.slice p2 n2 c2) := HK.out.cell (cell_of_row W2 _ 2 _ 53 (0,0) RR.out.1) (fun z => z)
  have z4 : wr.cell? ⟨b4,2,none⟩ = some (.slice q2 n2 d2) := HK.out.cell (cell_of_row W2 _ 2 _ 53 (0,0) RR.out.2) (fun z => z)
  by_cases hi : i < n2
  · have hii : (i : Int) < (n2 : Int) := by omega
    obtain ⟨gk,rfl⟩ : ∃ g,gk = g + 1 := ⟨gk - 1,by have := HI.out; omega⟩
    obtain ⟨g,o,g',o',us,vs,rfl,rfl,hu,hv,hcu,hcv,hr⟩ := ((HI2.out.kept K2.out).kept HK.out).elem hi
    obtain ⟨a0,a1,a2,a3,a4,a5,a6,a7,a8,a9,a10,a11,a12,a13,rfl⟩ := len14 hu
    obtain ⟨e0,e1,e2,e3,e4,e5,e6,e7,e8,e9,e10,e11,e12,e13,rfl⟩ := len14 hv
    have HR : Hid (VR .X (N - 1) wr [a1,a2,a3,a4,a5,a6,a7,a8,a9,a10,a11,a12] [e1,e2,e3,e4,e5,e6,e7,e8,e9,e10,e11,e12]) := hr.itx
    have HO9 : Hid ([a0,a1,a2,a3,a4,a5,a6,a7,a8,a9,a10,a11,a12,a13].all (·.oneCell') = true) := by show _ = true; exact hr.one1
    have HO10 : Hid ([e0,e1,e2,e3,e4,e5,e6,e7,e8,e9,e10,e11,e12,e13].all (·.oneCell') = true) := by show _ = true; exact hr.one2
    obtain ⟨ib,rfl,rfl⟩ := hr.b 0 rfl rfl
    obtain ⟨is,rfl,rfl⟩ := hr.s 13 rfl rfl
    have LU : Hid (∀ W,Kept (fun _ => False) wr W → (loadVar 57 ⟨g,o + i * 14,none⟩).run Tryz.prog W = .ok (.agg #[.bool ib,a1,a2,a3,a4,a5,a6,a7,a8,a9,a10,a11,a12,.string is]) W) := row_load hcu Tryz.underlying57 rfl (by kernel_rfl)
    have LV : Hid (∀ W,Kept (fun _ => False) wr W → (loadVar 57 ⟨g',o' + i * 14,none⟩).run Tryz.prog W = .ok (.agg #[.bool ib,e1,e2,e3,e4,e5,e6,e7,e8,e9,e10,e11,e12,.string is]) W) := row_load hcv Tryz.underlying57 rfl (by kernel_rfl)
    clear hu hv hcu hcv hr hi
    go_wp2_with fail
    have HS : Hid (Kept (fun _ => False) wr wr.drew) := (Kept.refl _ wr).drew
    refine wp_only ?_
    refine wp_region_held_drew (S := Kept (fun _ => False) wr) (by kernel_rfl) HS.out (fun hHeld => ?_)
    clear hHeld
    simp only [List.size_toArray,List.length_cons,List.length_nil,Nat.zero_add,Nat.reduceAdd,Array.replicate]
    refine tH 0 (.pointer (some ⟨b3,2,none⟩)) HS.out ?_ ?_
    · intro W h; first | rfl | go_simp | (go_simp; rfl)
    try simp only [List.getElem_toArray,List.getElem_cons_succ,List.getElem_cons_zero,Act.put,sI,sS,sZ]
    refine tH 1 (.slice (some ⟨g,o,none⟩) n2 c2) HS.out ?_ ?_
    · exact fun W h => ex_load (lv50 (h.cell z3 (fun z => z)))
    try simp only [List.getElem_toArray,List.getElem_cons_succ,List.getElem_cons_zero,Act.put,sI,sS,sZ]
    refine tH 2 (.int .i64 (i : Int)) HS.out ?_ ?_
    · intro W h; first | rfl | go_simp | (go_simp; rfl)
    try simp only [List.getElem_toArray,List.getElem_cons_succ,List.getElem_cons_zero,Act.put,sI,sS,sZ]
    refine tH 3 (.pointer (some ⟨g,o + i * 14,none⟩)) HS.out ?_ ?_
    · intro W h; first | rfl | go_simp | (go_simp; rfl)
    try simp only [List.getElem_toArray,List.getElem_cons_succ,List.getElem_cons_zero,Act.put,sI,sS,sZ]
    refine tH 4 (.agg #[.bool ib,a1,a2,a3,a4,a5,a6,a7,a8,a9,a10,a11,a12,.string is]) HS.out ?_ ?_
    · exact fun W h => ex_load (LU.out W h)
    try simp only [List.getElem_toArray,List.getElem_cons_succ,List.getElem_cons_zero,Act.put,sI,sS,sZ]
    refine tH 5 (.pointer (some ⟨b4,2,none⟩)) HS.out ?_ ?_
    · intro W h; first | rfl | go_simp | (go_simp; rfl)
    try simp only [List.getElem_toArray,List.getElem_cons_succ,List.getElem_cons_zero,Act.put,sI,sS,sZ]
    refine tH 6 (.slice (some ⟨g',o',none⟩) n2 d2) HS.out ?_ ?_
    · exact fun W h => ex_load (lv50 (h.cell z4 (fun z => z)))
    try simp only [List.getElem_toArray,List.getElem_cons_succ,List.getElem_cons_zero,Act.put,sI,sS,sZ]
    refine tH 7 (.int .i64 (i : Int)) HS.out ?_ ?_
    · intro W h; first | rfl | go_simp | (go_simp; rfl)
    try simp only [List.getElem_toArray,List.getElem_cons_succ,List.getElem_cons_zero,Act.put,sI,sS,sZ]
    refine tH 8 (.pointer (some ⟨g',o' + i * 14,none⟩)) HS.out ?_ ?_
    · intro W h; first | rfl | go_simp | (go_simp; rfl)
    try simp only [List.getElem_toArray,List.getElem_cons_succ,List.getElem_cons_zero,Act.put,sI,sS,sZ]
    refine tH 9 (.agg #[.bool ib,e1,e2,e3,e4,e5,e6,e7,e8,e9,e10,e11,e12,.string is]) HS.out ?_ ?_
    · exact fun W h => ex_load (LV.out W h)
    try simp only [List.getElem_toArray,List.getElem_cons_succ,List.getElem_cons_zero,Act.put,sI,sS,sZ]
    refine wpAnyH_ready (rs := [10,11]) (by kernel_rfl) (by simp) ?_
    refine AllReadyH.cons rfl (fun K hK => ?_) (AllReadyH.cons rfl (fun K hK => ?_) (AllReadyH.nil))
    · rw [if_pos (by rfl)]
      refine op_al al57 ?_
      intro X1 b9 kk hz hl
      have Z9 : Hid (X1.heap[b9]? = some (.cells #[.bool false,.int .i64 0,.int .i64 0,.int .i64 0,.int .i64 0,.string ⟨#[]⟩,.string ⟨#[]⟩,.string ⟨#[]⟩,.int .i64 0,.bool false,.int .i64 0,.slice none 0 0,.slice none 0 0,.string ⟨#[]⟩] 57 (0,0)) ∧ wr.heap.size ≤ b9) := ⟨hz,Nat.le_trans HS.out.size hl⟩
      have HS2 : Hid (Kept (fun _ => False) wr X1) := HS.out.trans kk (fun i q => .inl q)
      clear HS kk hz hl
      have HS : Hid (Kept (fun _ => False) wr X1) := HS2.out
      clear HS2
      refine hK.out _ _ HS.out (fun _ => ?_)
      clear hK K
      try simp only [List.getElem_toArray,List.getElem_cons_succ,List.getElem_cons_zero,Act.put,sI,sS,sZ]
      refine wpAnyH_ready (rs := [11]) (by kernel_rfl) (by simp) ?_
      refine AllReadyH.cons rfl (fun K hK => ?_) (AllReadyH.nil)
      rw [if_pos (by rfl)]
      refine op_al al57 ?_
      intro X2 b10 kk hz hl
      have Z10 : Hid (X2.heap[b10]? = some (.cells #[.bool false,.int .i64 0,.int .i64 0,.int .i64 0,.int .i64 0,.string ⟨#[]⟩,.string ⟨#[]⟩,.string ⟨#[]⟩,.int .i64 0,.bool false,.int .i64 0,.slice none 0 0,.slice none 0 0,.string ⟨#[]⟩] 57 (0,0)) ∧ wr.heap.size ≤ b10) := ⟨hz,Nat.le_trans HS.out.size hl⟩
      have HNE : Hid (b9 ≠ b10) := fun q => by have := blk_lt Z9.out.1; omega
      have Z92 := (kk.block _ (blk_lt Z9.out.1) (fun z => z)).trans Z9.out.1
      replace Z9 : Hid (X2.heap[b9]? = some _ ∧ wr.heap.size ≤ b9) := ⟨Z92,Z9.out.2⟩
      clear Z92
      have HS2 : Hid (Kept (fun _ => False) wr X2) := HS.out.trans kk (fun i q => .inl q)
      clear HS kk hz hl
      have HS : Hid (Kept (fun _ => False) wr X2) := HS2.out
      clear HS2
      refine hK.out _ _ HS.out (fun _ => ?_)
      clear hK K
      try simp only [List.getElem_toArray,List.getElem_cons_succ,List.getElem_cons_zero,Act.put,sI,sS,sZ]
      refine wpAnyH_ready (rs := [12]) (by kernel_rfl) (by simp) ?_
      refine AllReadyH.cons rfl (fun K hK => ?_) (AllReadyH.nil)
      rw [if_pos (by rfl)]
      refine op_st (cs := #[.bool ib,a1,a2,a3,a4,a5,a6,a7,a8,a9,a10,a11,a12,.string is]) Z9.out.1 (by kernel_rfl) rfl HO9.out ?_
      intro X3 kk hz
      have Z102 := (kk.block _ (blk_lt Z10.out.1) (fun q => HNE.out q.symm)).trans Z10.out.1
      replace Z10 : Hid (X3.heap[b10]? = some _ ∧ wr.heap.size ≤ b10) := ⟨Z102,Z10.out.2⟩
      clear Z102
      have HS2 : Hid (Kept (fun _ => False) wr X3) := HS.out.trans kk (fun i q => .inr (by have q2 : i = b9 := q; have := Z9.out.2; omega))
      replace Z9 : Hid (X3.heap[b9]? = some (.cells #[.bool ib,a1,a2,a3,a4,a5,a6,a7,a8,a9,a10,a11,a12,.string is] 57 (0,0)) ∧ wr.heap.size ≤ b9) := ⟨hz,Z9.out.2⟩
      clear HS kk hz
      have HS : Hid (Kept (fun _ => False) wr X3) := HS2.out
      clear HS2
      refine hK.out _ _ HS.out (fun _ => ?_)
      clear hK K
      try simp only [List.getElem_toArray,List.getElem_cons_succ,List.getElem_cons_zero,Act.put,sI,sS,sZ]
      refine wpAnyH_ready (rs := [13]) (by kernel_rfl) (by simp) ?_
      refine AllReadyH.cons rfl (fun K hK => ?_) (AllReadyH.nil)
      rw [if_pos (by rfl)]
      refine op_st (cs := #[.bool ib,e1,e2,e3,e4,e5,e6,e7,e8,e9,e10,e11,e12,.string is]) Z10.out.1 (by kernel_rfl) rfl HO10.out ?_
      intro X4 kk hz
      have Z92 := (kk.block _ (blk_lt Z9.out.1) (fun q => HNE.out q)).trans Z9.out.1
      replace Z9 : Hid (X4.heap[b9]? = some _ ∧ wr.heap.size ≤ b9) := ⟨Z92,Z9.out.2⟩
      clear Z92
      have HS2 : Hid (Kept (fun _ => False) wr X4) := HS.out.trans kk (fun i q => .inr (by have q2 : i = b10 := q; have := Z10.out.2; omega))
      replace Z10 : Hid (X4.heap[b10]? = some (.cells #[.bool ib,e1,e2,e3,e4,e5,e6,e7,e8,e9,e10,e11,e12,.string is] 57 (0,0)) ∧ wr.heap.size ≤ b10) := ⟨hz,Z10.out.2⟩
      clear HS kk hz
      have HS : Hid (Kept (fun _ => False) wr X4) := HS2.out
      clear HS2
      refine hK.out _ _ HS.out (fun _ => ?_)
      clear hK K
      try simp only [List.getElem_toArray,List.getElem_cons_succ,List.getElem_cons_zero,Act.put,sI,sS,sZ]
      refine wpAnyH_done (by kernel_rfl) ?_ _
      unfold OnlyN
      have f0 : X4.cell? ⟨b9,0,none⟩ = some (.bool ib) := cell_of_row X4 _ 0 _ 57 (0,0) Z9.out.1
      have h0 : X4.cell? ⟨b10,0,none⟩ = some (.bool ib) := cell_of_row X4 _ 0 _ 57 (0,0) Z10.out.1
      have f1 : X4.cell? ⟨b9,1,none⟩ = some (a1) := cell_of_row X4 _ 1 _ 57 (0,0) Z9.out.1
      have h1 : X4.cell? ⟨b10,1,none⟩ = some (e1) := cell_of_row X4 _ 1 _ 57 (0,0) Z10.out.1
      have f2 : X4.cell? ⟨b9,2,none⟩ = some (a2) := cell_of_row X4 _ 2 _ 57 (0,0) Z9.out.1
      have h2 : X4.cell? ⟨b10,2,none⟩ = some (e2) := cell_of_row X4 _ 2 _ 57 (0,0) Z10.out.1
      have f3 : X4.cell? ⟨b9,3,none⟩ = some (a3) := cell_of_row X4 _ 3 _ 57 (0,0) Z9.out.1
      have h3 : X4.cell? ⟨b10,3,none⟩ = some (e3) := cell_of_row X4 _ 3 _ 57 (0,0) Z10.out.1
      have f4 : X4.cell? ⟨b9,4,none⟩ = some (a4) := cell_of_row X4 _ 4 _ 57 (0,0) Z9.out.1
      have h4 : X4.cell? ⟨b10,4,none⟩ = some (e4) := cell_of_row X4 _ 4 _ 57 (0,0) Z10.out.1
      have f5 : X4.cell? ⟨b9,5,none⟩ = some (a5) := cell_of_row X4 _ 5 _ 57 (0,0) Z9.out.1
      have h5 : X4.cell? ⟨b10,5,none⟩ = some (e5) := cell_of_row X4 _ 5 _ 57 (0,0) Z10.out.1
      have f6 : X4.cell? ⟨b9,6,none⟩ = some (a6) := cell_of_row X4 _ 6 _ 57 (0,0) Z9.out.1
      have h6 : X4.cell? ⟨b10,6,none⟩ = some (e6) := cell_of_row X4 _ 6 _ 57 (0,0) Z10.out.1
      have f7 : X4.cell? ⟨b9,7,none⟩ = some (a7) := cell_of_row X4 _ 7 _ 57 (0,0) Z9.out.1
      have h7 : X4.cell? ⟨b10,7,none⟩ = some (e7) := cell_of_row X4 _ 7 _ 57 (0,0) Z10.out.1
      have f8 : X4.cell? ⟨b9,8,none⟩ = some (a8) := cell_of_row X4 _ 8 _ 57 (0,0) Z9.out.1
      have h8 : X4.cell? ⟨b10,8,none⟩ = some (e8) := cell_of_row X4 _ 8 _ 57 (0,0) Z10.out.1
      have f9 : X4.cell? ⟨b9,9,none⟩ = some (a9) := cell_of_row X4 _ 9 _ 57 (0,0) Z9.out.1
      have h9 : X4.cell? ⟨b10,9,none⟩ = some (e9) := cell_of_row X4 _ 9 _ 57 (0,0) Z10.out.1
      have f10 : X4.cell? ⟨b9,10,none⟩ = some (a10) := cell_of_row X4 _ 10 _ 57 (0,0) Z9.out.1
      have h10 : X4.cell? ⟨b10,10,none⟩ = some (e10) := cell_of_row X4 _ 10 _ 57 (0,0) Z10.out.1
      have f11 : X4.cell? ⟨b9,11,none⟩ = some (a11) := cell_of_row X4 _ 11 _ 57 (0,0) Z9.out.1
      have h11 : X4.cell? ⟨b10,11,none⟩ = some (e11) := cell_of_row X4 _ 11 _ 57 (0,0) Z10.out.1
      have f12 : X4.cell? ⟨b9,12,none⟩ = some (a12) := cell_of_row X4 _ 12 _ 57 (0,0) Z9.out.1
      have h12 : X4.cell? ⟨b10,12,none⟩ = some (e12) := cell_of_row X4 _ 12 _ 57 (0,0) Z10.out.1
      have f13 : X4.cell? ⟨b9,13,none⟩ = some (.string is) := cell_of_row X4 _ 13 _ 57 (0,0) Z9.out.1
      have h13 : X4.cell? ⟨b10,13,none⟩ = some (.string is) := cell_of_row X4 _ 13 _ 57 (0,0) Z10.out.1
      go_wp2_with fail
      refine Calls.mono (HC16.out _ a1 a2 a3 a4 a5 a6 a7 a8 a9 a10 a11 a12 e1 e2 e3 e4 e5 e6 e7 e8 e9 e10 e11 e12 (HR.out.kept HS.out)) ?_; rintro e w7 ⟨rfl,k7⟩
      have HS3 : Hid (Kept (fun _ => False) wr w7) := HS.out.trans k7 (fun i q => .inl q)
      clear HS k7
      have HS : Hid (Kept (fun _ => False) wr w7) := HS3.out
      clear HS3
      go_wp2_with fail
      go_roundg gk
      case measure => omega
      case rel => exact ⟨i + 1,by simp,by show i + 1 + gk = n2; have := HI.out; omega,HK.out.trans HS.out (fun i q => .inl q)⟩
    · rw [if_pos (by rfl)]
      refine op_al al57 ?_
      intro X1 b10 kk hz hl
      have Z10 : Hid (X1.heap[b10]? = some (.cells #[.bool false,.int .i64 0,.int .i64 0,.int .i64 0,.int .i64 0,.string ⟨#[]⟩,.string ⟨#[]⟩,.string ⟨#[]⟩,.int .i64 0,.bool false,.int .i64 0,.slice none 0 0,.slice none 0 0,.string ⟨#[]⟩] 57 (0,0)) ∧ wr.heap.size ≤ b10) := ⟨hz,Nat.le_trans HS.out.size hl⟩
      have HS2 : Hid (Kept (fun _ => False) wr X1) := HS.out.trans kk (fun i q => .inl q)
      clear HS kk hz hl
      have HS : Hid (Kept (fun _ => False) wr X1) := HS2.out
      clear HS2
      refine hK.out _ _ HS.out (fun _ => ?_)
      clear hK K
      try simp only [List.getElem_toArray,List.getElem_cons_succ,List.getElem_cons_zero,Act.put,sI,sS,sZ]
      refine wpAnyH_ready (rs := [10]) (by kernel_rfl) (by simp) ?_
      refine AllReadyH.cons rfl (fun K hK => ?_) (AllReadyH.nil)
      rw [if_pos (by rfl)]
      refine op_al al57 ?_
      intro X2 b9 kk hz hl
      have Z9 : Hid (X2.heap[b9]? = some (.cells #[.bool false,.int .i64 0,.int .i64 0,.int .i64 0,.int .i64 0,.string ⟨#[]⟩,.string ⟨#[]⟩,.string ⟨#[]⟩,.int .i64 0,.bool false,.int .i64 0,.slice none 0 0,.slice none 0 0,.string ⟨#[]⟩] 57 (0,0)) ∧ wr.heap.size ≤ b9) := ⟨hz,Nat.le_trans HS.out.size hl⟩
      have HNE : Hid (b9 ≠ b10) := fun q => by have := blk_lt Z10.out.1; omega
      have Z102 := (kk.block _ (blk_lt Z10.out.1) (fun z => z)).trans Z10.out.1
      replace Z10 : Hid (X2.heap[b10]? = some _ ∧ wr.heap.size ≤ b10) := ⟨Z102,Z10.out.2⟩
      clear Z102
      have HS2 : Hid (Kept (fun _ => False) wr X2) := HS.out.trans kk (fun i q => .inl q)
      clear HS kk hz hl
      have HS : Hid (Kept (fun _ => False) wr X2) := HS2.out
      clear HS2
      refine hK.out _ _ HS.out (fun _ => ?_)
      clear hK K
      try simp only [List.getElem_toArray,List.getElem_cons_succ,List.getElem_cons_zero,Act.put,sI,sS,sZ]
      refine wpAnyH_ready (rs := [12]) (by kernel_rfl) (by simp) ?_
      refine AllReadyH.cons rfl (fun K hK => ?_) (AllReadyH.nil)
      rw [if_pos (by rfl)]
      refine op_st (cs := #[.bool ib,a1,a2,a3,a4,a5,a6,a7,a8,a9,a10,a11,a12,.string is]) Z9.out.1 (by kernel_rfl) rfl HO9.out ?_
      intro X3 kk hz
      have Z102 := (kk.block _ (blk_lt Z10.out.1) (fun q => HNE.out q.symm)).trans Z10.out.1
      replace Z10 : Hid (X3.heap[b10]? = some _ ∧ wr.heap.size ≤ b10) := ⟨Z102,Z10.out.2⟩
      clear Z102
      have HS2 : Hid (Kept (fun _ => False) wr X3) := HS.out.trans kk (fun i q => .inr (by have q2 : i = b9 := q; have := Z9.out.2; omega))
      replace Z9 : Hid (X3.heap[b9]? = some (.cells #[.bool ib,a1,a2,a3,a4,a5,a6,a7,a8,a9,a10,a11,a12,.string is] 57 (0,0)) ∧ wr.heap.size ≤ b9) := ⟨hz,Z9.out.2⟩
      clear HS kk hz
      have HS : Hid (Kept (fun _ => False) wr X3) := HS2.out
      clear HS2
      refine hK.out _ _ HS.out (fun _ => ?_)
      clear hK K
      try simp only [List.getElem_toArray,List.getElem_cons_succ,List.getElem_cons_zero,Act.put,sI,sS,sZ]
      refine wpAnyH_ready (rs := [13]) (by kernel_rfl) (by simp) ?_
      refine AllReadyH.cons rfl (fun K hK => ?_) (AllReadyH.nil)
      rw [if_pos (by rfl)]
      refine op_st (cs := #[.bool ib,e1,e2,e3,e4,e5,e6,e7,e8,e9,e10,e11,e12,.string is]) Z10.out.1 (by kernel_rfl) rfl HO10.out ?_
      intro X4 kk hz
      have Z92 := (kk.block _ (blk_lt Z9.out.1) (fun q => HNE.out q)).trans Z9.out.1
      replace Z9 : Hid (X4.heap[b9]? = some _ ∧ wr.heap.size ≤ b9) := ⟨Z92,Z9.out.2⟩
      clear Z92
      have HS2 : Hid (Kept (fun _ => False) wr X4) := HS.out.trans kk (fun i q => .inr (by have q2 : i = b10 := q; have := Z10.out.2; omega))
      replace Z10 : Hid (X4.heap[b10]? = some (.cells #[.bool ib,e1,e2,e3,e4,e5,e6,e7,e8,e9,e10,e11,e12,.string is] 57 (0,0)) ∧ wr.heap.size ≤ b10) := ⟨hz,Z10.out.2⟩
      clear HS kk hz
      have HS : Hid (Kept (fun _ => False) wr X4) := HS2.out
      clear HS2
      refine hK.out _ _ HS.out (fun _ => ?_)
      clear hK K
      try simp only [List.getElem_toArray,List.getElem_cons_succ,List.getElem_cons_zero,Act.put,sI,sS,sZ]
      refine wpAnyH_done (by kernel_rfl) ?_ _
      unfold OnlyN
      have f0 : X4.cell? ⟨b9,0,none⟩ = some (.bool ib) := cell_of_row X4 _ 0 _ 57 (0,0) Z9.out.1
      have h0 : X4.cell? ⟨b10,0,none⟩ = some (.bool ib) := cell_of_row X4 _ 0 _ 57 (0,0) Z10.out.1
      have f1 : X4.cell? ⟨b9,1,none⟩ = some (a1) := cell_of_row X4 _ 1 _ 57 (0,0) Z9.out.1
      have h1 : X4.cell? ⟨b10,1,none⟩ = some (e1) := cell_of_row X4 _ 1 _ 57 (0,0) Z10.out.1
      have f2 : X4.cell? ⟨b9,2,none⟩ = some (a2) := cell_of_row X4 _ 2 _ 57 (0,0) Z9.out.1
      have h2 : X4.cell? ⟨b10,2,none⟩ = some (e2) := cell_of_row X4 _ 2 _ 57 (0,0) Z10.out.1
      have f3 : X4.cell? ⟨b9,3,none⟩ = some (a3) := cell_of_row X4 _ 3 _ 57 (0,0) Z9.out.1
      have h3 : X4.cell? ⟨b10,3,none⟩ = some (e3) := cell_of_row X4 _ 3 _ 57 (0,0) Z10.out.1
      have f4 : X4.cell? ⟨b9,4,none⟩ = some (a4) := cell_of_row X4 _ 4 _ 57 (0,0) Z9.out.1
      have h4 : X4.cell? ⟨b10,4,none⟩ = some (e4) := cell_of_row X4 _ 4 _ 57 (0,0) Z10.out.1
      have f5 : X4.cell? ⟨b9,5,none⟩ = some (a5) := cell_of_row X4 _ 5 _ 57 (0,0) Z9.out.1
      have h5 : X4.cell? ⟨b10,5,none⟩ = some (e5) := cell_of_row X4 _ 5 _ 57 (0,0) Z10.out.1
      have f6 : X4.cell? ⟨b9,6,none⟩ = some (a6) := cell_of_row X4 _ 6 _ 57 (0,0) Z9.out.1
      have h6 : X4.cell? ⟨b10,6,none⟩ = some (e6) := cell_of_row X4 _ 6 _ 57 (0,0) Z10.out.1
      have f7 : X4.cell? ⟨b9,7,none⟩ = some (a7) := cell_of_row X4 _ 7 _ 57 (0,0) Z9.out.1
      have h7 : X4.cell? ⟨b10,7,none⟩ = some (e7) := cell_of_row X4 _ 7 _ 57 (0,0) Z10.out.1
      have f8 : X4.cell? ⟨b9,8,none⟩ = some (a8) := cell_of_row X4 _ 8 _ 57 (0,0) Z9.out.1
      have h8 : X4.cell? ⟨b10,8,none⟩ = some (e8) := cell_of_row X4 _ 8 _ 57 (0,0) Z10.out.1
      have f9 : X4.cell? ⟨b9,9,none⟩ = some (a9) := cell_of_row X4 _ 9 _ 57 (0,0) Z9.out.1
      have h9 : X4.cell? ⟨b10,9,none⟩ = some (e9) := cell_of_row X4 _ 9 _ 57 (0,0) Z10.out.1
      have f10 : X4.cell? ⟨b9,10,none⟩ = some (a10) := cell_of_row X4 _ 10 _ 57 (0,0) Z9.out.1
      have h10 : X4.cell? ⟨b10,10,none⟩ = some (e10) := cell_of_row X4 _ 10 _ 57 (0,0) Z10.out.1
      have f11 : X4.cell? ⟨b9,11,none⟩ = some (a11) := cell_of_row X4 _ 11 _ 57 (0,0) Z9.out.1
      have h11 : X4.cell? ⟨b10,11,none⟩ = some (e11) := cell_of_row X4 _ 11 _ 57 (0,0) Z10.out.1
      have f12 : X4.cell? ⟨b9,12,none⟩ = some (a12) := cell_of_row X4 _ 12 _ 57 (0,0) Z9.out.1
      have h12 : X4.cell? ⟨b10,12,none⟩ = some (e12) := cell_of_row X4 _ 12 _ 57 (0,0) Z10.out.1
      have f13 : X4.cell? ⟨b9,13,none⟩ = some (.string is) := cell_of_row X4 _ 13 _ 57 (0,0) Z9.out.1
      have h13 : X4.cell? ⟨b10,13,none⟩ = some (.string is) := cell_of_row X4 _ 13 _ 57 (0,0) Z10.out.1
      go_wp2_with fail
      refine Calls.mono (HC16.out _ a1 a2 a3 a4 a5 a6 a7 a8 a9 a10 a11 a12 e1 e2 e3 e4 e5 e6 e7 e8 e9 e10 e11 e12 (HR.out.kept HS.out)) ?_; rintro e w7 ⟨rfl,k7⟩
      have HS3 : Hid (Kept (fun _ => False) wr w7) := HS.out.trans k7 (fun i q => .inl q)
      clear HS k7
      have HS : Hid (Kept (fun _ => False) wr w7) := HS3.out
      clear HS3
      go_wp2_with fail
      go_roundg gk
      case measure => omega
      case rel => exact ⟨i + 1,by simp,by show i + 1 + gk = n2; have := HI.out; omega,HK.out.trans HS.out (fun i q => .inl q)⟩
  · have hii : ¬ (i : Int) < (n2 : Int) := by omega
    go_wp2_with fail
    have HKW : Hid (Kept (fun _ => False) W2 wr) := HK
    clear z3 z4 HI hi hii HK
    obtain ⟨w5,hw5⟩ : ∃ w5,w5 = wr := ⟨_,rfl⟩
    rw [← hw5] at HKW ⊢
    clear hw5
    go_loopg [10] n3 (fun (gk : Nat) (v8 : Value) (wr : World) => ∃ i : Nat,v8 = .int .i64 (i : Int) ∧ Hid (i + gk = n3) ∧ Hid (Kept (fun _ => False) w5 wr))
    case atStart => exact ⟨0,rfl,Nat.zero_add _,Kept.refl _ _⟩
    case round =>
     obtain ⟨i,rfl,HI,HK⟩ := hrel
     have z3 : wr.cell? ⟨b3,3,none⟩ = some (.slice p3 n3 c3) := HK.out.cell (HKW.out.cell (cell_of_row W2 _ 3 _ 53 (0,0) RR.out.1) (fun z => z)) (fun z => z)
     have z4 : wr.cell? ⟨b4,3,none⟩ = some (.slice q3 n3 d3) := HK.out.cell (HKW.out.cell (cell_of_row W2 _ 3 _ 53 (0,0) RR.out.2) (fun z => z)) (fun z => z)
     by_cases hi : i < n3
     · have hii : (i : Int) < (n3 : Int) := by omega
       obtain ⟨gk,rfl⟩ : ∃ g,gk = g + 1 := ⟨gk - 1,by have := HI.out; omega⟩
       obtain ⟨g,o,g',o',us,vs,rfl,rfl,hu,hv,hcu,hcv,hr⟩ := (((HI3.out.kept K2.out).kept HKW.out).kept HK.out).elem hi
       obtain ⟨a0,a1,a2,a3,a4,rfl⟩ := len5 hu
       obtain ⟨e0,e1,e2,e3,e4,rfl⟩ := len5 hv
       have HR0 : VS .X (N - 1) wr a3 e3 := hr.sl 3 rfl rfl
       obtain ⟨st,rfl,rfl⟩ := hr.s 0 rfl rfl
       obtain ⟨sa,rfl,rfl⟩ := hr.s 1 rfl rfl
       obtain ⟨sl,rfl,rfl⟩ := hr.b 2 rfl rfl
       obtain ⟨sm,sk,rfl,rfl⟩ := hr.p 4 rfl rfl
       obtain ⟨po,co,qo,cp,no,lo,lo',rfl,rfl,_,_,_,hno,_⟩ := HR0.ex
       have HR : Hid (VS .X (N - 1) wr (.slice po no co) (.slice qo no cp)) := HR0
       clear HR0 hno
       have LU : Hid (∀ W,Kept (fun _ => False) wr W → (loadVar 55 ⟨g,o + i * 5,none⟩).run Tryz.prog W = .ok (.agg #[.string st,.string sa,.bool sl,.slice po no co,.int .i64 sm]) W) := row_load hcu Tryz.underlying55 rfl (by kernel_rfl)
       have LV : Hid (∀ W,Kept (fun _ => False) wr W → (loadVar 55 ⟨g',o' + i * 5,none⟩).run Tryz.prog W = .ok (.agg #[.string st,.string sa,.bool sl,.slice qo no cp,.int .i64 sk]) W) := row_load hcv Tryz.underlying55 rfl (by kernel_rfl)
       clear hu hv hcu hcv hr hi
       go_wp2_with fail
       have HS : Hid (Kept (fun _ => False) wr wr.drew) := (Kept.refl _ wr).drew
       refine wp_only ?_
       refine wp_region_held_drew (S := Kept (fun _ => False) wr) (by kernel_rfl) HS.out (fun hHeld => ?_)
       clear hHeld
       simp only [List.size_toArray,List.length_cons,List.length_nil,Nat.zero_add,Nat.reduceAdd,Array.replicate]
       refine tH 0 (.pointer (some ⟨b3,3,none⟩)) HS.out ?_ ?_
       · intro W h; first | rfl | go_simp | (go_simp; rfl)
       try simp only [List.getElem_toArray,List.getElem_cons_succ,List.getElem_cons_zero,Act.put,sI,sS,sZ]
       refine tH 1 (.slice (some ⟨g,o,none⟩) n3 c3) HS.out ?_ ?_
       · exact fun W h => ex_load (lv51 (h.cell z3 (fun z => z)))
       try simp only [List.getElem_toArray,List.getElem_cons_succ,List.getElem_cons_zero,Act.put,sI,sS,sZ]
       refine tH 2 (.int .i64 (i : Int)) HS.out ?_ ?_
       · intro W h; first | rfl | go_simp | (go_simp; rfl)
       try simp only [List.getElem_toArray,List.getElem_cons_succ,List.getElem_cons_zero,Act.put,sI,sS,sZ]
       refine tH 3 (.pointer (some ⟨g,o + i * 5,none⟩)) HS.out ?_ ?_
       · intro W h; first | rfl | go_simp | (go_simp; rfl)
       try simp only [List.getElem_toArray,List.getElem_cons_succ,List.getElem_cons_zero,Act.put,sI,sS,sZ]
       refine tH 4 (.agg #[.string st,.string sa,.bool sl,.slice po no co,.int .i64 sm]) HS.out ?_ ?_
       · exact fun W h => ex_load (LU.out W h)
       try simp only [List.getElem_toArray,List.getElem_cons_succ,List.getElem_cons_zero,Act.put,sI,sS,sZ]
       refine tH 5 (.pointer (some ⟨b4,3,none⟩)) HS.out ?_ ?_
       · intro W h; first | rfl | go_simp | (go_simp; rfl)
       try simp only [List.getElem_toArray,List.getElem_cons_succ,List.getElem_cons_zero,Act.put,sI,sS,sZ]
       refine tH 6 (.slice (some ⟨g',o',none⟩) n3 d3) HS.out ?_ ?_
       · exact fun W h => ex_load (lv51 (h.cell z4 (fun z => z)))
       try simp only [List.getElem_toArray,List.getElem_cons_succ,List.getElem_cons_zero,Act.put,sI,sS,sZ]
       refine tH 7 (.int .i64 (i : Int)) HS.out ?_ ?_
       · intro W h; first | rfl | go_simp | (go_simp; rfl)
       try simp only [List.getElem_toArray,List.getElem_cons_succ,List.getElem_cons_zero,Act.put,sI,sS,sZ]
       refine tH 8 (.pointer (some ⟨g',o' + i * 5,none⟩)) HS.out ?_ ?_
       · intro W h; first | rfl | go_simp | (go_simp; rfl)
       try simp only [List.getElem_toArray,List.getElem_cons_succ,List.getElem_cons_zero,Act.put,sI,sS,sZ]
       refine tH 9 (.agg #[.string st,.string sa,.bool sl,.slice qo no cp,.int .i64 sk]) HS.out ?_ ?_
       · exact fun W h => ex_load (LV.out W h)
       try simp only [List.getElem_toArray,List.getElem_cons_succ,List.getElem_cons_zero,Act.put,sI,sS,sZ]
       refine wpAnyH_ready (rs := [10,11]) (by kernel_rfl) (by simp) ?_
       refine AllReadyH.cons rfl (fun K hK => ?_) (AllReadyH.cons rfl (fun K hK => ?_) (AllReadyH.nil))
       · rw [if_pos (by rfl)]
         refine op_al al55 ?_
         intro X1 b9 kk hz hl
         have Z9 : Hid (X1.heap[b9]? = some (.cells #[.string ⟨#[]⟩,.string ⟨#[]⟩,.bool false,.slice none 0 0,.int .i64 0] 55 (0,0)) ∧ wr.heap.size ≤ b9) := ⟨hz,Nat.le_trans HS.out.size hl⟩
         have HS2 : Hid (Kept (fun _ => False) wr X1) := HS.out.trans kk (fun i q => .inl q)
         clear HS kk hz hl
         have HS : Hid (Kept (fun _ => False) wr X1) := HS2.out
         clear HS2
         refine hK.out _ _ HS.out (fun _ => ?_)
         clear hK K
         try simp only [List.getElem_toArray,List.getElem_cons_succ,List.getElem_cons_zero,Act.put,sI,sS,sZ]
         refine wpAnyH_ready (rs := [11]) (by kernel_rfl) (by simp) ?_
         refine AllReadyH.cons rfl (fun K hK => ?_) (AllReadyH.nil)
         rw [if_pos (by rfl)]
         refine op_al al55 ?_
         intro X2 b10 kk hz hl
         have Z10 : Hid (X2.heap[b10]? = some (.cells #[.string ⟨#[]⟩,.string ⟨#[]⟩,.bool false,.slice none 0 0,.int .i64 0] 55 (0,0)) ∧ wr.heap.size ≤ b10) := ⟨hz,Nat.le_trans HS.out.size hl⟩
         have HNE : Hid (b9 ≠ b10) := fun q => by have := blk_lt Z9.out.1; omega
         have Z92 := (kk.block _ (blk_lt Z9.out.1) (fun z => z)).trans Z9.out.1
         replace Z9 : Hid (X2.heap[b9]? = some _ ∧ wr.heap.size ≤ b9) := ⟨Z92,Z9.out.2⟩
         clear Z92
         have HS2 : Hid (Kept (fun _ => False) wr X2) := HS.out.trans kk (fun i q => .inl q)
         clear HS kk hz hl
         have HS : Hid (Kept (fun _ => False) wr X2) := HS2.out
         clear HS2
         refine hK.out _ _ HS.out (fun _ => ?_)
         clear hK K
         try simp only [List.getElem_toArray,List.getElem_cons_succ,List.getElem_cons_zero,Act.put,sI,sS,sZ]
         refine wpAnyH_ready (rs := [12]) (by kernel_rfl) (by simp) ?_
         refine AllReadyH.cons rfl (fun K hK => ?_) (AllReadyH.nil)
         rw [if_pos (by rfl)]
         refine op_st (cs := #[.string st,.string sa,.bool sl,.slice po no co,.int .i64 sm]) Z9.out.1 (by kernel_rfl) rfl (by rfl) ?_
         intro X3 kk hz
         have Z102 := (kk.block _ (blk_lt Z10.out.1) (fun q => HNE.out q.symm)).trans Z10.out.1
         replace Z10 : Hid (X3.heap[b10]? = some _ ∧ wr.heap.size ≤ b10) := ⟨Z102,Z10.out.2⟩
         clear Z102
         have HS2 : Hid (Kept (fun _ => False) wr X3) := HS.out.trans kk (fun i q => .inr (by have q2 : i = b9 := q; have := Z9.out.2; omega))
         replace Z9 : Hid (X3.heap[b9]? = some (.cells #[.string st,.string sa,.bool sl,.slice po no co,.int .i64 sm] 55 (0,0)) ∧ wr.heap.size ≤ b9) := ⟨hz,Z9.out.2⟩
         clear HS kk hz
         have HS : Hid (Kept (fun _ => False) wr X3) := HS2.out
         clear HS2
         refine hK.out _ _ HS.out (fun _ => ?_)
         clear hK K
         try simp only [List.getElem_toArray,List.getElem_cons_succ,List.getElem_cons_zero,Act.put,sI,sS,sZ]
         refine wpAnyH_ready (rs := [13]) (by kernel_rfl) (by simp) ?_
         refine AllReadyH.cons rfl (fun K hK => ?_) (AllReadyH.nil)
         rw [if_pos (by rfl)]
         refine op_st (cs := #[.string st,.string sa,.bool sl,.slice qo no cp,.int .i64 sk]) Z10.out.1 (by kernel_rfl) rfl (by rfl) ?_
         intro X4 kk hz
         have Z92 := (kk.block _ (blk_lt Z9.out.1) (fun q => HNE.out q)).trans Z9.out.1
         replace Z9 : Hid (X4.heap[b9]? = some _ ∧ wr.heap.size ≤ b9) := ⟨Z92,Z9.out.2⟩
         clear Z92
         have HS2 : Hid (Kept (fun _ => False) wr X4) := HS.out.trans kk (fun i q => .inr (by have q2 : i = b10 := q; have := Z10.out.2; omega))
         replace Z10 : Hid (X4.heap[b10]? = some (.cells #[.string st,.string sa,.bool sl,.slice qo no cp,.int .i64 sk] 55 (0,0)) ∧ wr.heap.size ≤ b10) := ⟨hz,Z10.out.2⟩
         clear HS kk hz
         have HS : Hid (Kept (fun _ => False) wr X4) := HS2.out
         clear HS2
         refine hK.out _ _ HS.out (fun _ => ?_)
         clear hK K
         try simp only [List.getElem_toArray,List.getElem_cons_succ,List.getElem_cons_zero,Act.put,sI,sS,sZ]
         refine wpAnyH_done (by kernel_rfl) ?_ _
         unfold OnlyN
         have f0 : X4.cell? ⟨b9,0,none⟩ = some (.string st) := cell_of_row X4 _ 0 _ 55 (0,0) Z9.out.1
         have h0 : X4.cell? ⟨b10,0,none⟩ = some (.string st) := cell_of_row X4 _ 0 _ 55 (0,0) Z10.out.1
         have f1 : X4.cell? ⟨b9,1,none⟩ = some (.string sa) := cell_of_row X4 _ 1 _ 55 (0,0) Z9.out.1
         have h1 : X4.cell? ⟨b10,1,none⟩ = some (.string sa) := cell_of_row X4 _ 1 _ 55 (0,0) Z10.out.1
         have f2 : X4.cell? ⟨b9,2,none⟩ = some (.bool sl) := cell_of_row X4 _ 2 _ 55 (0,0) Z9.out.1
         have h2 : X4.cell? ⟨b10,2,none⟩ = some (.bool sl) := cell_of_row X4 _ 2 _ 55 (0,0) Z10.out.1
         have f3 : X4.cell? ⟨b9,3,none⟩ = some (.slice po no co) := cell_of_row X4 _ 3 _ 55 (0,0) Z9.out.1
         have h3 : X4.cell? ⟨b10,3,none⟩ = some (.slice qo no cp) := cell_of_row X4 _ 3 _ 55 (0,0) Z10.out.1
         have f4 : X4.cell? ⟨b9,4,none⟩ = some (.int .i64 sm) := cell_of_row X4 _ 4 _ 55 (0,0) Z9.out.1
         have h4 : X4.cell? ⟨b10,4,none⟩ = some (.int .i64 sk) := cell_of_row X4 _ 4 _ 55 (0,0) Z10.out.1
         go_wp2_with fail
         refine Calls.mono (HC33.out _ _ _ (HR.out.kept HS.out)) ?_; rintro e w7 ⟨rfl,k7⟩
         have HS3 : Hid (Kept (fun _ => False) wr w7) := HS.out.trans k7 (fun i q => .inl q)
         clear HS k7
         have HS : Hid (Kept (fun _ => False) wr w7) := HS3.out
         clear HS3
         go_wp2_with fail
         go_roundg gk
         case measure => omega
         case rel => exact ⟨i + 1,by simp,by show i + 1 + gk = n3; have := HI.out; omega,HK.out.trans HS.out (fun i q => .inl q)⟩
       · rw [if_pos (by rfl)]
         refine op_al al55 ?_
         intro X1 b10 kk hz hl
         have Z10 : Hid (X1.heap[b10]? = some (.cells #[.string ⟨#[]⟩,.string ⟨#[]⟩,.bool false,.slice none 0 0,.int .i64 0] 55 (0,0)) ∧ wr.heap.size ≤ b10) := ⟨hz,Nat.le_trans HS.out.size hl⟩
         have HS2 : Hid (Kept (fun _ => False) wr X1) := HS.out.trans kk (fun i q => .inl q)
         clear HS kk hz hl
         have HS : Hid (Kept (fun _ => False) wr X1) := HS2.out
         clear HS2
         refine hK.out _ _ HS.out (fun _ => ?_)
         clear hK K
         try simp only [List.getElem_toArray,List.getElem_cons_succ,List.getElem_cons_zero,Act.put,sI,sS,sZ]
         refine wpAnyH_ready (rs := [10]) (by kernel_rfl) (by simp) ?_
         refine AllReadyH.cons rfl (fun K hK => ?_) (AllReadyH.nil)
         rw [if_pos (by rfl)]
         refine op_al al55 ?_
         intro X2 b9 kk hz hl
         have Z9 : Hid (X2.heap[b9]? = some (.cells #[.string ⟨#[]⟩,.string ⟨#[]⟩,.bool false,.slice none 0 0,.int .i64 0] 55 (0,0)) ∧ wr.heap.size ≤ b9) := ⟨hz,Nat.le_trans HS.out.size hl⟩
         have HNE : Hid (b9 ≠ b10) := fun q => by have := blk_lt Z10.out.1; omega
         have Z102 := (kk.block _ (blk_lt Z10.out.1) (fun z => z)).trans Z10.out.1
         replace Z10 : Hid (X2.heap[b10]? = some _ ∧ wr.heap.size ≤ b10) := ⟨Z102,Z10.out.2⟩
         clear Z102
         have HS2 : Hid (Kept (fun _ => False) wr X2) := HS.out.trans kk (fun i q => .inl q)
         clear HS kk hz hl
         have HS : Hid (Kept (fun _ => False) wr X2) := HS2.out
         clear HS2
         refine hK.out _ _ HS.out (fun _ => ?_)
         clear hK K
         try simp only [List.getElem_toArray,List.getElem_cons_succ,List.getElem_cons_zero,Act.put,sI,sS,sZ]
         refine wpAnyH_ready (rs := [12]) (by kernel_rfl) (by simp) ?_
         refine AllReadyH.cons rfl (fun K hK => ?_) (AllReadyH.nil)
         rw [if_pos (by rfl)]
         refine op_st (cs := #[.string st,.string sa,.bool sl,.slice po no co,.int .i64 sm]) Z9.out.1 (by kernel_rfl) rfl (by rfl) ?_
         intro X3 kk hz
         have Z102 := (kk.block _ (blk_lt Z10.out.1) (fun q => HNE.out q.symm)).trans Z10.out.1
         replace Z10 : Hid (X3.heap[b10]? = some _ ∧ wr.heap.size ≤ b10) := ⟨Z102,Z10.out.2⟩
         clear Z102
         have HS2 : Hid (Kept (fun _ => False) wr X3) := HS.out.trans kk (fun i q => .inr (by have q2 : i = b9 := q; have := Z9.out.2; omega))
         replace Z9 : Hid (X3.heap[b9]? = some (.cells #[.string st,.string sa,.bool sl,.slice po no co,.int .i64 sm] 55 (0,0)) ∧ wr.heap.size ≤ b9) := ⟨hz,Z9.out.2⟩
         clear HS kk hz
         have HS : Hid (Kept (fun _ => False) wr X3) := HS2.out
         clear HS2
         refine hK.out _ _ HS.out (fun _ => ?_)
         clear hK K
         try simp only [List.getElem_toArray,List.getElem_cons_succ,List.getElem_cons_zero,Act.put,sI,sS,sZ]
         refine wpAnyH_ready (rs := [13]) (by kernel_rfl) (by simp) ?_
         refine AllReadyH.cons rfl (fun K hK => ?_) (AllReadyH.nil)
         rw [if_pos (by rfl)]
         refine op_st (cs := #[.string st,.string sa,.bool sl,.slice qo no cp,.int .i64 sk]) Z10.out.1 (by kernel_rfl) rfl (by rfl) ?_
         intro X4 kk hz
         have Z92 := (kk.block _ (blk_lt Z9.out.1) (fun q => HNE.out q)).trans Z9.out.1
         replace Z9 : Hid (X4.heap[b9]? = some _ ∧ wr.heap.size ≤ b9) := ⟨Z92,Z9.out.2⟩
         clear Z92
         have HS2 : Hid (Kept (fun _ => False) wr X4) := HS.out.trans kk (fun i q => .inr (by have q2 : i = b10 := q; have := Z10.out.2; omega))
         replace Z10 : Hid (X4.heap[b10]? = some (.cells #[.string st,.string sa,.bool sl,.slice qo no cp,.int .i64 sk] 55 (0,0)) ∧ wr.heap.size ≤ b10) := ⟨hz,Z10.out.2⟩
         clear HS kk hz
         have HS : Hid (Kept (fun _ => False) wr X4) := HS2.out
         clear HS2
         refine hK.out _ _ HS.out (fun _ => ?_)
         clear hK K
         try simp only [List.getElem_toArray,List.getElem_cons_succ,List.getElem_cons_zero,Act.put,sI,sS,sZ]
         refine wpAnyH_done (by kernel_rfl) ?_ _
         unfold OnlyN
         have f0 : X4.cell? ⟨b9,0,none⟩ = some (.string st) := cell_of_row X4 _ 0 _ 55 (0,0) Z9.out.1
         have h0 : X4.cell? ⟨b10,0,none⟩ = some (.string st) := cell_of_row X4 _ 0 _ 55 (0,0) Z10.out.1
         have f1 : X4.cell? ⟨b9,1,none⟩ = some (.string sa) := cell_of_row X4 _ 1 _ 55 (0,0) Z9.out.1
         have h1 : X4.cell? ⟨b10,1,none⟩ = some (.string sa) := cell_of_row X4 _ 1 _ 55 (0,0) Z10.out.1
         have f2 : X4.cell? ⟨b9,2,none⟩ = some (.bool sl) := cell_of_row X4 _ 2 _ 55 (0,0) Z9.out.1
         have h2 : X4.cell? ⟨b10,2,none⟩ = some (.bool sl) := cell_of_row X4 _ 2 _ 55 (0,0) Z10.out.1
         have f3 : X4.cell? ⟨b9,3,none⟩ = some (.slice po no co) := cell_of_row X4 _ 3 _ 55 (0,0) Z9.out.1
         have h3 : X4.cell? ⟨b10,3,none⟩ = some (.slice qo no cp) := cell_of_row X4 _ 3 _ 55 (0,0) Z10.out.1
         have f4 : X4.cell? ⟨b9,4,none⟩ = some (.int .i64 sm) := cell_of_row X4 _ 4 _ 55 (0,0) Z9.out.1
         have h4 : X4.cell? ⟨b10,4,none⟩ = some (.int .i64 sk) := cell_of_row X4 _ 4 _ 55 (0,0) Z10.out.1
         go_wp2_with fail
         refine Calls.mono (HC33.out _ _ _ (HR.out.kept HS.out)) ?_; rintro e w7 ⟨rfl,k7⟩
         have HS3 : Hid (Kept (fun _ => False) wr w7) := HS.out.trans k7 (fun i q => .inl q)
         clear HS k7
         have HS : Hid (Kept (fun _ => False) wr w7) := HS3.out
         clear HS3
         go_wp2_with fail
         go_roundg gk
         case measure => omega
         case rel => exact ⟨i + 1,by simp,by show i + 1 + gk = n3; have := HI.out; omega,HK.out.trans HS.out (fun i q => .inl q)⟩
     · have hii : ¬ (i : Int) < (n3 : Int) := by omega
       have zz3 := z3
       have zz4 := z4
       clear z3 z4
       have z4 : wr.cell? ⟨b3,4,none⟩ = some (.slice p4 n4 c4) := HK.out.cell (HKW.out.cell (cell_of_row W2 _ 4 _ 53 (0,0) RR.out.1) (fun z => z)) (fun z => z)
       have y4 : wr.cell? ⟨b4,4,none⟩ = some (.slice q4 n4 d4) := HK.out.cell (HKW.out.cell (cell_of_row W2 _ 4 _ 53 (0,0) RR.out.2) (fun z => z)) (fun z => z)
       have z5 : wr.cell? ⟨b3,5,none⟩ = some (.slice p5 n5 c5) := HK.out.cell (HKW.out.cell (cell_of_row W2 _ 5 _ 53 (0,0) RR.out.1) (fun z => z)) (fun z => z)
       have y5 : wr.cell? ⟨b4,5,none⟩ = some (.slice q5 n5 d5) := HK.out.cell (HKW.out.cell (cell_of_row W2 _ 5 _ 53 (0,0) RR.out.2) (fun z => z)) (fun z => z)
       have z6 : wr.cell? ⟨b3,6,none⟩ = some (.slice p6 n6 c6) := HK.out.cell (HKW.out.cell (cell_of_row W2 _ 6 _ 53 (0,0) RR.out.1) (fun z => z)) (fun z => z)
       have y6 : wr.cell? ⟨b4,6,none⟩ = some (.slice q6 n6 d6) := HK.out.cell (HKW.out.cell (cell_of_row W2 _ 6 _ 53 (0,0) RR.out.2) (fun z => z)) (fun z => z)
       have HF : Hid (Kept (fun _ => False) w wr) := (K2.out.trans HKW.out (fun i q => .inl q)).trans HK.out (fun i q => .inl q)
       have HG : Hid (Kept (fun _ => False) W2 wr) := HKW.out.trans HK.out (fun i q => .inl q)
       go_wp2_with fail
       clear zz3 zz4
       refine Calls.mono (HC3N.out _ _ _ (HI4.out.kept HF.out)) ?_; rintro e x0 ⟨rfl,kx⟩
       have HF0 : Hid (Kept (fun _ => False) w x0) := HF.out.trans kx (fun i q => .inl q)
       have HG0 : Hid (Kept (fun _ => False) W2 x0) := HG.out.trans kx (fun i q => .inl q)
       clear kx z4 z5 z6 y4 y5 y6
       have z4 : x0.cell? ⟨b3,4,none⟩ = some (.slice p4 n4 c4) := HG0.out.cell (cell_of_row W2 _ 4 _ 53 (0,0) RR.out.1) (fun z => z)
       have y4 : x0.cell? ⟨b4,4,none⟩ = some (.slice q4 n4 d4) := HG0.out.cell (cell_of_row W2 _ 4 _ 53 (0,0) RR.out.2) (fun z => z)
       have z5 : x0.cell? ⟨b3,5,none⟩ = some (.slice p5 n5 c5) := HG0.out.cell (cell_of_row W2 _ 5 _ 53 (0,0) RR.out.1) (fun z => z)
       have y5 : x0.cell? ⟨b4,5,none⟩ = some (.slice q5 n5 d5) := HG0.out.cell (cell_of_row W2 _ 5 _ 53 (0,0) RR.out.2) (fun z => z)
       have z6 : x0.cell? ⟨b3,6,none⟩ = some (.slice p6 n6 c6) := HG0.out.cell (cell_of_row W2 _ 6 _ 53 (0,0) RR.out.1) (fun z => z)
       have y6 : x0.cell? ⟨b4,6,none⟩ = some (.slice q6 n6 d6) := HG0.out.cell (cell_of_row W2 _ 6 _ 53 (0,0) RR.out.2) (fun z => z)
       go_wp2_with fail
       refine Calls.mono (HC3N.out _ _ _ (HI5.out.kept HF0.out)) ?_; rintro e x1 ⟨rfl,kx⟩
       have HF1 : Hid (Kept (fun _ => False) w x1) := HF0.out.trans kx (fun i q => .inl q)
       have HG1 : Hid (Kept (fun _ => False) W2 x1) := HG0.out.trans kx (fun i q => .inl q)
       clear kx z4 z5 z6 y4 y5 y6
       have z4 : x1.cell? ⟨b3,4,none⟩ = some (.slice p4 n4 c4) := HG1.out.cell (cell_of_row W2 _ 4 _ 53 (0,0) RR.out.1) (fun z => z)
       have y4 : x1.cell? ⟨b4,4,none⟩ = some (.slice q4 n4 d4) := HG1.out.cell (cell_of_row W2 _ 4 _ 53 (0,0) RR.out.2) (fun z => z)
       have z5 : x1.cell? ⟨b3,5,none⟩ = some (.slice p5 n5 c5) := HG1.out.cell (cell_of_row W2 _ 5 _ 53 (0,0) RR.out.1) (fun z => z)
       have y5 : x1.cell? ⟨b4,5,none⟩ = some (.slice q5 n5 d5) := HG1.out.cell (cell_of_row W2 _ 5 _ 53 (0,0) RR.out.2) (fun z => z)
       have z6 : x1.cell? ⟨b3,6,none⟩ = some (.slice p6 n6 c6) := HG1.out.cell (cell_of_row W2 _ 6 _ 53 (0,0) RR.out.1) (fun z => z)
       have y6 : x1.cell? ⟨b4,6,none⟩ = some (.slice q6 n6 d6) := HG1.out.cell (cell_of_row W2 _ 6 _ 53 (0,0) RR.out.2) (fun z => z)
       go_wp2_with fail
       refine Calls.mono (HC3N.out _ _ _ (HI6.out.kept HF1.out)) ?_; rintro e x2 ⟨rfl,kx⟩
       have HF2 : Hid (Kept (fun _ => False) w x2) := HF1.out.trans kx (fun i q => .inl q)
       have HG2 : Hid (Kept (fun _ => False) W2 x2) := HG1.out.trans kx (fun i q => .inl q)
       clear kx z4 z5 z6 y4 y5 y6
       have z4 : x2.cell? ⟨b3,4,none⟩ = some (.slice p4 n4 c4) := HG2.out.cell (cell_of_row W2 _ 4 _ 53 (0,0) RR.out.1) (fun z => z)
       have y4 : x2.cell? ⟨b4,4,none⟩ = some (.slice q4 n4 d4) := HG2.out.cell (cell_of_row W2 _ 4 _ 53 (0,0) RR.out.2) (fun z => z)
       have z5 : x2.cell? ⟨b3,5,none⟩ = some (.slice p5 n5 c5) := HG2.out.cell (cell_of_row W2 _ 5 _ 53 (0,0) RR.out.1) (fun z => z)
       have y5 : x2.cell? ⟨b4,5,none⟩ = some (.slice q5 n5 d5) := HG2.out.cell (cell_of_row W2 _ 5 _ 53 (0,0) RR.out.2) (fun z => z)
       have z6 : x2.cell? ⟨b3,6,none⟩ = some (.slice p6 n6 c6) := HG2.out.cell (cell_of_row W2 _ 6 _ 53 (0,0) RR.out.1) (fun z => z)
       have y6 : x2.cell? ⟨b4,6,none⟩ = some (.slice q6 n6 d6) := HG2.out.cell (cell_of_row W2 _ 6 _ 53 (0,0) RR.out.2) (fun z => z)
       go_wp2_with fail
       go_ret
       exact ⟨rfl,HF2.out⟩
end Go.Proofs.YtlgkghebemfpjaaGreatDoor.Pa
