/- Queries: the document's comparison. -/
import Derived.Test.YtlgkghebemfpjaaGreatDoorQVr
namespace Go.Proofs.YtlgkghebemfpjaaGreatDoor.Pa
open Go.ChangeShapes Go.WideShapes Go.ChangeAt Go.RowKit
set_option linter.unusedVariables false
set_option linter.unusedSimpArgs false
set_option maxRecDepth 100000
set_option maxHeartbeats 8000000 in
theorem query_same (N : Nat) (H32 : C32 (N - 1)) : C15 N := by
 intro w u0 u1 u2 u3 v0 v1 v2 v3 hv
 have h0 : VS .Se N w u0 v0 := hv.sl 0 rfl rfl
 have h1 : VS .Ke N w u1 v1 := hv.sl 1 rfl rfl
 obtain ⟨n2,rfl,rfl⟩ := hv.i 2 rfl rfl
 obtain ⟨n3,rfl,rfl⟩ := hv.i 3 rfl rfl
 obtain ⟨p0,c0,q0,d0,n0,l0,l0',rfl,rfl,_,_,_,hn0,_⟩ := h0.ex
 obtain ⟨p1,c1,q1,d1,n1,l1,l1',rfl,rfl,_,_,_,hn1,_⟩ := h1.ex
 have HQ : Hid (VS .Se N w (.slice p0 n0 c0) (.slice q0 n0 d0)) := h0
 have HKK : Hid (VS .Ke N w (.slice p1 n1 c1) (.slice q1 n1 d1)) := h1
 have HC : Hid (C32 (N - 1)) := H32
 have hnb : (n0 : Int) ≤ 9223372036854775807 := by omega
 have hnb1 : (n1 : Int) ≤ 9223372036854775807 := by omega
 clear hv h0 h1 hn0 hn1 H32
 obtain ⟨W1,hW1⟩ : ∃ W1,W1 = w.alloc (.cells #[.slice p0 n0 c0,.slice p1 n1 c1,.int .i64 n2,.int .i64 n3] 44) := ⟨_,rfl⟩
 obtain ⟨W2,hW2⟩ : ∃ W2,W2 = W1.alloc (.cells #[.slice q0 n0 d0,.slice q1 n1 d1,.int .i64 n2,.int .i64 n3] 44) := ⟨_,rfl⟩
 have k1 : Kept (fun _ => False) w W1 := by rw [hW1]; exact (Kept.refl _ _).alloc _
 have k2 : Kept (fun _ => False) W1 W2 := by rw [hW2]; exact (Kept.refl _ _).alloc _
 obtain ⟨b3,hb3⟩ : ∃ b3,b3 = w.heap.size := ⟨_,rfl⟩
 obtain ⟨b4,hb4⟩ : ∃ b4,b4 = W1.heap.size := ⟨_,rfl⟩
 have r3 : W2.heap[b3]? = some (.cells #[.slice p0 n0 c0,.slice p1 n1 c1,.int .i64 n2,.int .i64 n3] 44 (0,0)) := by
  have : W1.heap[w.heap.size]? = some (.cells #[.slice p0 n0 c0,.slice p1 n1 c1,.int .i64 n2,.int .i64 n3] 44 (0,0)) := by rw [hW1]; exact heap_alloc_new w _
  rw [hb3]
  exact (k2.block _ (blk_lt this) (fun z => z)).trans this
 have r4 : W2.heap[b4]? = some (.cells #[.slice q0 n0 d0,.slice q1 n1 d1,.int .i64 n2,.int .i64 n3] 44 (0,0)) := by rw [hb4,hW2]; exact heap_alloc_new W1 _
 have K2 : Hid (Kept (fun _ => False) w W2) := k1.trans k2 (fun i q => .inl q)
 have H1 : Hid (W1 = w.alloc (.cells #[.slice p0 n0 c0,.slice p1 n1 c1,.int .i64 n2,.int .i64 n3] 44)) := hW1
 have H2 : Hid (W2 = W1.alloc (.cells #[.slice q0 n0 d0,.slice q1 n1 d1,.int .i64 n2,.int .i64 n3] 44)) := hW2
 have HB : Hid (b3 = w.heap.size ∧ b4 = W1.heap.size) := ⟨hb3,hb4⟩
 have x0 : W2.cell? ⟨b3,0,none⟩ = some (.slice p0 n0 c0) := cell_of_row W2 _ 0 _ 44 (0,0) r3
 have y0 : W2.cell? ⟨b4,0,none⟩ = some (.slice q0 n0 d0) := cell_of_row W2 _ 0 _ 44 (0,0) r4
 have x1 : W2.cell? ⟨b3,1,none⟩ = some (.slice p1 n1 c1) := cell_of_row W2 _ 1 _ 44 (0,0) r3
 have y1 : W2.cell? ⟨b4,1,none⟩ = some (.slice q1 n1 d1) := cell_of_row W2 _ 1 _ 44 (0,0) r4
 have x2 : W2.cell? ⟨b3,2,none⟩ = some (.int .i64 n2) := cell_of_row W2 _ 2 _ 44 (0,0) r3
 have y2 : W2.cell? ⟨b4,2,none⟩ = some (.int .i64 n2) := cell_of_row W2 _ 2 _ 44 (0,0) r4
 have x3 : W2.cell? ⟨b3,3,none⟩ = some (.int .i64 n3) := cell_of_row W2 _ 3 _ 44 (0,0) r3
 have y3 : W2.cell? ⟨b4,3,none⟩ = some (.int .i64 n3) := cell_of_row W2 _ 3 _ 44 (0,0) r4
 have RR : Hid (W2.heap[b3]? = some (.cells #[.slice p0 n0 c0,.slice p1 n1 c1,.int .i64 n2,.int .i64 n3] 44 (0,0)) ∧ W2.heap[b4]? = some (.cells #[.slice q0 n0 d0,.slice q1 n1 d1,.int .i64 n2,.int .i64 n3] 44 (0,0))) := ⟨r3,r4⟩
 clear hW1 hW2 k1 k2 hb3 hb4 r3 r4
 go_enter Tryz.func15,Tryz.ntmps15
 go_wp2_with (first | (refine st_bx (bx44 _ _ _ _) ?_; rw [← H1.out, ← HB.out.1]) | (refine st_bx (bx44 _ _ _ _) ?_; rw [← H2.out, ← HB.out.2]))
 clear x0 y0 x1 y1 x2 y2 x3 y3
 go_loopg [7] n0 (fun (gk : Nat) (v7 : Value) (wr : World) => ∃ i : Nat,v7 = .int .i64 (i : Int) ∧ Hid (i + gk = n0) ∧ Hid (Kept (fun _ => False) W2 wr))
 case atStart => exact ⟨0,rfl,Nat.zero_add _,Kept.refl _ _⟩
 case round =>
  obtain ⟨i,rfl,HI,HK⟩ := hrel
  have z3 : wr.cell? ⟨b3,0,none⟩ = some (.slice p0 n0 c0) := HK.out.cell (cell_of_row W2 _ 0 _ 44 (0,0) RR.out.1) (fun z => z)
  have z4 : wr.cell? ⟨b4,0,none⟩ = some (.slice q0 n0 d0) := HK.out.cell (cell_of_row W2 _ 0 _ 44 (0,0) RR.out.2) (fun z => z)
  by_cases hi : i < n0
  · have hii : (i : Int) < (n0 : Int) := by omega
    obtain ⟨gk,rfl⟩ : ∃ g,gk = g + 1 := ⟨gk - 1,by have := HI.out; omega⟩
    obtain ⟨g,o,g',o',us,vs,rfl,rfl,hu,hv,hcu,hcv,hr⟩ := ((HQ.out.kept K2.out).kept HK.out).elem hi
    obtain ⟨a0,a1,a2,a3,a4,a5,a6,rfl⟩ := len7 hu
    obtain ⟨e0,e1,e2,e3,e4,e5,e6,rfl⟩ := len7 hv
    have LU : Hid (∀ W,Kept (fun _ => False) wr W → (loadVar 53 ⟨g,o + i * 7,none⟩).run Tryz.prog W = .ok (.agg #[a0,a1,a2,a3,a4,a5,a6]) W) := row_load hcu Tryz.underlying53 rfl (by kernel_rfl)
    have LV : Hid (∀ W,Kept (fun _ => False) wr W → (loadVar 53 ⟨g',o' + i * 7,none⟩).run Tryz.prog W = .ok (.agg #[e0,e1,e2,e3,e4,e5,e6]) W) := row_load hcv Tryz.underlying53 rfl (by kernel_rfl)
    have HR : Hid (VR .Se (N - 1) wr [a0,a1,a2,a3,a4,a5,a6] [e0,e1,e2,e3,e4,e5,e6]) := hr
    clear hu hv hcu hcv hr hi
    go_wp2_with fail
    have HS : Hid (Kept (fun _ => False) wr wr.drew) := (Kept.refl _ wr).drew
    refine wp_only ?_
    refine wp_region_held_drew (S := Kept (fun _ => False) wr) (by kernel_rfl) HS.out (fun hHeld => ?_)
    clear hHeld
    simp only [List.size_toArray,List.length_cons,List.length_nil,Nat.zero_add,Nat.reduceAdd,Array.replicate]
    refine tH 0 (.pointer (some ⟨b3,0,none⟩)) HS.out ?_ ?_
    · intro W h; first | rfl | go_simp | (go_simp; rfl)
    try simp only [List.getElem_toArray,List.getElem_cons_succ,List.getElem_cons_zero,Act.put,sI,sS,sZ]
    refine tH 1 (.slice (some ⟨g,o,none⟩) n0 c0) HS.out ?_ ?_
    · exact fun W h => ex_load (lv41 (h.cell z3 (fun z => z)))
    try simp only [List.getElem_toArray,List.getElem_cons_succ,List.getElem_cons_zero,Act.put,sI,sS,sZ]
    refine tH 2 (.int .i64 (i : Int)) HS.out ?_ ?_
    · intro W h; first | rfl | go_simp | (go_simp; rfl)
    try simp only [List.getElem_toArray,List.getElem_cons_succ,List.getElem_cons_zero,Act.put,sI,sS,sZ]
    refine tH 3 (.pointer (some ⟨g,o + i * 7,none⟩)) HS.out ?_ ?_
    · intro W h; first | rfl | go_simp | (go_simp; rfl)
    try simp only [List.getElem_toArray,List.getElem_cons_succ,List.getElem_cons_zero,Act.put,sI,sS,sZ]
    refine tH 4 (.agg #[a0,a1,a2,a3,a4,a5,a6]) HS.out ?_ ?_
    · exact fun W h => ex_load (LU.out W h)
    try simp only [List.getElem_toArray,List.getElem_cons_succ,List.getElem_cons_zero,Act.put,sI,sS,sZ]
    refine tH 5 (.pointer (some ⟨b4,0,none⟩)) HS.out ?_ ?_
    · intro W h; first | rfl | go_simp | (go_simp; rfl)
    try simp only [List.getElem_toArray,List.getElem_cons_succ,List.getElem_cons_zero,Act.put,sI,sS,sZ]
    refine tH 6 (.slice (some ⟨g',o',none⟩) n0 d0) HS.out ?_ ?_
    · exact fun W h => ex_load (lv41 (h.cell z4 (fun z => z)))
    try simp only [List.getElem_toArray,List.getElem_cons_succ,List.getElem_cons_zero,Act.put,sI,sS,sZ]
    refine tH 7 (.int .i64 (i : Int)) HS.out ?_ ?_
    · intro W h; first | rfl | go_simp | (go_simp; rfl)
    try simp only [List.getElem_toArray,List.getElem_cons_succ,List.getElem_cons_zero,Act.put,sI,sS,sZ]
    refine tH 8 (.pointer (some ⟨g',o' + i * 7,none⟩)) HS.out ?_ ?_
    · intro W h; first | rfl | go_simp | (go_simp; rfl)
    try simp only [List.getElem_toArray,List.getElem_cons_succ,List.getElem_cons_zero,Act.put,sI,sS,sZ]
    refine tH 9 (.agg #[e0,e1,e2,e3,e4,e5,e6]) HS.out ?_ ?_
    · exact fun W h => ex_load (LV.out W h)
    try simp only [List.getElem_toArray,List.getElem_cons_succ,List.getElem_cons_zero,Act.put,sI,sS,sZ]
    refine tH 10 (.bool false) HS.out ?_ ?_
    · intro W h; first | rfl | go_simp | (go_simp; rfl)
    try simp only [List.getElem_toArray,List.getElem_cons_succ,List.getElem_cons_zero,Act.put,sI,sS,sZ]
    refine wpAnyH_ready (rs := [11]) (by kernel_rfl) (by simp) ?_
    refine AllReadyH.cons rfl (fun K hK => ?_) AllReadyH.nil
    rw [if_pos (by rfl)]
    go_wp2_with fail
    refine Calls.mono (HC.out _ a0 a1 a2 a3 a4 a5 a6 e0 e1 e2 e3 e4 e5 e6 (HR.out.kept HS.out)) ?_; rintro e w2 ⟨rfl,k2⟩
    have HS2 : Hid (Kept (fun _ => False) wr w2) := HS.out.trans k2 (fun i q => .inl q)
    clear HS k2
    have HS : Hid (Kept (fun _ => False) wr w2) := HS2.out
    clear HS2
    go_wp2_with fail
    refine hK.out _ _ HS.out (fun _ => ?_)
    clear hK K
    try simp only [List.getElem_toArray,List.getElem_cons_succ,List.getElem_cons_zero,Act.put,sI,sS,sZ]
    refine tH 12 (.bool false) HS.out ?_ ?_
    · intro W h; first | rfl | go_simp | (go_simp; rfl)
    try simp only [List.getElem_toArray,List.getElem_cons_succ,List.getElem_cons_zero,Act.put,sI,sS,sZ]
    refine wpAnyH_done (by kernel_rfl) ?_ _
    unfold OnlyN
    go_wp2_with fail
    go_roundg gk
    case measure => omega
    case rel => exact ⟨i + 1,by simp,by show i + 1 + gk = n0; have := HI.out; omega,HK.out.trans HS.out (fun i q => .inl q)⟩
  · have hii : ¬ (i : Int) < (n0 : Int) := by omega
    go_wp2_with fail
    have HKW : Hid (Kept (fun _ => False) W2 wr) := HK
    clear z3 z4 HI hi hii HK
    obtain ⟨w5,hw5⟩ : ∃ w5,w5 = wr := ⟨_,rfl⟩
    rw [← hw5] at HKW ⊢
    clear hw5
    go_loopg [8] n1 (fun (gk : Nat) (v8 : Value) (wr : World) => ∃ i : Nat,v8 = .int .i64 (i : Int) ∧ Hid (i + gk = n1) ∧ Hid (Kept (fun _ => False) w5 wr))
    case atStart => exact ⟨0,rfl,Nat.zero_add _,Kept.refl _ _⟩
    case round =>
     obtain ⟨i,rfl,HI,HK⟩ := hrel
     have z3 : wr.cell? ⟨b3,1,none⟩ = some (.slice p1 n1 c1) := HK.out.cell (HKW.out.cell (cell_of_row W2 _ 1 _ 44 (0,0) RR.out.1) (fun z => z)) (fun z => z)
     have z4 : wr.cell? ⟨b4,1,none⟩ = some (.slice q1 n1 d1) := HK.out.cell (HKW.out.cell (cell_of_row W2 _ 1 _ 44 (0,0) RR.out.2) (fun z => z)) (fun z => z)
     by_cases hi : i < n1
     · have hii : (i : Int) < (n1 : Int) := by omega
       obtain ⟨gk,rfl⟩ : ∃ g,gk = g + 1 := ⟨gk - 1,by have := HI.out; omega⟩
       obtain ⟨g,o,g',o',us,vs,rfl,rfl,hu,hv,hcu,hcv,hr⟩ := (((HKK.out.kept K2.out).kept HKW.out).kept HK.out).elem hi
       obtain ⟨a0,a1,a2,a3,rfl⟩ := len4 hu
       obtain ⟨e0,e1,e2,e3,rfl⟩ := len4 hv
       obtain ⟨kn,rfl,rfl⟩ := hr.i 0 rfl rfl
       obtain ⟨ks,rfl,rfl⟩ := hr.s 1 rfl rfl
       obtain ⟨kb,rfl,rfl⟩ := hr.b 2 rfl rfl
       obtain ⟨km,kl,rfl,rfl⟩ := hr.p 3 rfl rfl
       have LU : Hid (∀ W,Kept (fun _ => False) wr W → (loadVar 59 ⟨g,o + i * 4,none⟩).run Tryz.prog W = .ok (.agg #[.int .i64 kn,.string ks,.bool kb,.int .i64 km]) W) := row_load hcu Tryz.underlying59 rfl (by kernel_rfl)
       have LV : Hid (∀ W,Kept (fun _ => False) wr W → (loadVar 59 ⟨g',o' + i * 4,none⟩).run Tryz.prog W = .ok (.agg #[.int .i64 kn,.string ks,.bool kb,.int .i64 kl]) W) := row_load hcv Tryz.underlying59 rfl (by kernel_rfl)
       clear hu hv hcu hcv hr hi
       go_wp2_with fail
       have HS : Hid (Kept (fun _ => False) wr wr.drew) := (Kept.refl _ wr).drew
       refine wp_only ?_
       refine wp_region_held_drew (S := Kept (fun _ => False) wr) (by kernel_rfl) HS.out (fun hHeld => ?_)
       clear hHeld
       simp only [List.size_toArray,List.length_cons,List.length_nil,Nat.zero_add,Nat.reduceAdd,Array.replicate]
       refine tH 0 (.pointer (some ⟨b3,1,none⟩)) HS.out ?_ ?_
       · intro W h; first | rfl | go_simp | (go_simp; rfl)
       try simp only [List.getElem_toArray,List.getElem_cons_succ,List.getElem_cons_zero,Act.put,sI,sS,sZ]
       refine tH 1 (.slice (some ⟨g,o,none⟩) n1 c1) HS.out ?_ ?_
       · exact fun W h => ex_load (lv42 (h.cell z3 (fun z => z)))
       try simp only [List.getElem_toArray,List.getElem_cons_succ,List.getElem_cons_zero,Act.put,sI,sS,sZ]
       refine tH 2 (.int .i64 (i : Int)) HS.out ?_ ?_
       · intro W h; first | rfl | go_simp | (go_simp; rfl)
       try simp only [List.getElem_toArray,List.getElem_cons_succ,List.getElem_cons_zero,Act.put,sI,sS,sZ]
       refine tH 3 (.pointer (some ⟨g,o + i * 4,none⟩)) HS.out ?_ ?_
       · intro W h; first | rfl | go_simp | (go_simp; rfl)
       try simp only [List.getElem_toArray,List.getElem_cons_succ,List.getElem_cons_zero,Act.put,sI,sS,sZ]
       refine tH 4 (.agg #[.int .i64 kn,.string ks,.bool kb,.int .i64 km]) HS.out ?_ ?_
       · exact fun W h => ex_load (LU.out W h)
       try simp only [List.getElem_toArray,List.getElem_cons_succ,List.getElem_cons_zero,Act.put,sI,sS,sZ]
       refine tH 5 (.pointer (some ⟨b4,1,none⟩)) HS.out ?_ ?_
       · intro W h; first | rfl | go_simp | (go_simp; rfl)
       try simp only [List.getElem_toArray,List.getElem_cons_succ,List.getElem_cons_zero,Act.put,sI,sS,sZ]
       refine tH 6 (.slice (some ⟨g',o',none⟩) n1 d1) HS.out ?_ ?_
       · exact fun W h => ex_load (lv42 (h.cell z4 (fun z => z)))
       try simp only [List.getElem_toArray,List.getElem_cons_succ,List.getElem_cons_zero,Act.put,sI,sS,sZ]
       refine tH 7 (.int .i64 (i : Int)) HS.out ?_ ?_
       · intro W h; first | rfl | go_simp | (go_simp; rfl)
       try simp only [List.getElem_toArray,List.getElem_cons_succ,List.getElem_cons_zero,Act.put,sI,sS,sZ]
       refine tH 8 (.pointer (some ⟨g',o' + i * 4,none⟩)) HS.out ?_ ?_
       · intro W h; first | rfl | go_simp | (go_simp; rfl)
       try simp only [List.getElem_toArray,List.getElem_cons_succ,List.getElem_cons_zero,Act.put,sI,sS,sZ]
       refine tH 9 (.agg #[.int .i64 kn,.string ks,.bool kb,.int .i64 kl]) HS.out ?_ ?_
       · exact fun W h => ex_load (LV.out W h)
       try simp only [List.getElem_toArray,List.getElem_cons_succ,List.getElem_cons_zero,Act.put,sI,sS,sZ]
       refine wpAnyH_ready (rs := [10,11]) (by kernel_rfl) (by simp) ?_
       refine AllReadyH.cons rfl (fun K hK => ?_) (AllReadyH.cons rfl (fun K hK => ?_) (AllReadyH.nil))
       · rw [if_pos (by rfl)]
         refine op_al al59 ?_
         intro X1 b9 kk hz hl
         have Z9 : Hid (X1.heap[b9]? = some (.cells #[.int .i64 0,.string ⟨#[]⟩,.bool false,.int .i64 0] 59 (0,0)) ∧ wr.heap.size ≤ b9) := ⟨hz,Nat.le_trans HS.out.size hl⟩
         have HS2 : Hid (Kept (fun _ => False) wr X1) := HS.out.trans kk (fun i q => .inl q)
         clear HS kk hz hl
         have HS : Hid (Kept (fun _ => False) wr X1) := HS2.out
         clear HS2
         refine hK.out _ _ HS.out (fun _ => ?_)
         clear hK K
         try simp only [List.getElem_toArray,List.getElem_cons_succ,List.getElem_cons_zero,Act.put,sI,sS,sZ]
         refine wpAnyH_ready (rs := [11]) (by kernel_rfl) (by simp) ?_
         refine AllReadyH.cons rfl (fun K hK => ?_) (AllReadyH.nil)
         rw [if_pos (by rfl)]
         refine op_al al59 ?_
         intro X2 b10 kk hz hl
         have Z10 : Hid (X2.heap[b10]? = some (.cells #[.int .i64 0,.string ⟨#[]⟩,.bool false,.int .i64 0] 59 (0,0)) ∧ wr.heap.size ≤ b10) := ⟨hz,Nat.le_trans HS.out.size hl⟩
         have HNE : Hid (b9 ≠ b10) := fun q => by have := blk_lt Z9.out.1; omega
         have Z92 := (kk.block _ (blk_lt Z9.out.1) (fun z => z)).trans Z9.out.1
         replace Z9 : Hid (X2.heap[b9]? = some _ ∧ wr.heap.size ≤ b9) := ⟨Z92,Z9.out.2⟩
         clear Z92
         have HS2 : Hid (Kept (fun _ => False) wr X2) := HS.out.trans kk (fun i q => .inl q)
         clear HS kk hz hl
         have HS : Hid (Kept (fun _ => False) wr X2) := HS2.out
         clear HS2
         refine hK.out _ _ HS.out (fun _ => ?_)
         clear hK K
         try simp only [List.getElem_toArray,List.getElem_cons_succ,List.getElem_cons_zero,Act.put,sI,sS,sZ]
         refine wpAnyH_ready (rs := [12]) (by kernel_rfl) (by simp) ?_
         refine AllReadyH.cons rfl (fun K hK => ?_) (AllReadyH.nil)
         rw [if_pos (by rfl)]
         refine op_st (cs := #[.int .i64 kn,.string ks,.bool kb,.int .i64 km]) Z9.out.1 (by kernel_rfl) rfl (by rfl) ?_
         intro X3 kk hz
         have Z102 := (kk.block _ (blk_lt Z10.out.1) (fun q => HNE.out q.symm)).trans Z10.out.1
         replace Z10 : Hid (X3.heap[b10]? = some _ ∧ wr.heap.size ≤ b10) := ⟨Z102,Z10.out.2⟩
         clear Z102
         have HS2 : Hid (Kept (fun _ => False) wr X3) := HS.out.trans kk (fun i q => .inr (by have q2 : i = b9 := q; have := Z9.out.2; omega))
         replace Z9 : Hid (X3.heap[b9]? = some (.cells #[.int .i64 kn,.string ks,.bool kb,.int .i64 km] 59 (0,0)) ∧ wr.heap.size ≤ b9) := ⟨hz,Z9.out.2⟩
         clear HS kk hz
         have HS : Hid (Kept (fun _ => False) wr X3) := HS2.out
         clear HS2
         refine hK.out _ _ HS.out (fun _ => ?_)
         clear hK K
         try simp only [List.getElem_toArray,List.getElem_cons_succ,List.getElem_cons_zero,Act.put,sI,sS,sZ]
         refine wpAnyH_ready (rs := [13]) (by kernel_rfl) (by simp) ?_
         refine AllReadyH.cons rfl (fun K hK => ?_) (AllReadyH.nil)
         rw [if_pos (by rfl)]
         refine op_st (cs := #[.int .i64 kn,.string ks,.bool kb,.int .i64 kl]) Z10.out.1 (by kernel_rfl) rfl (by rfl) ?_
         intro X4 kk hz
         have Z92 := (kk.block _ (blk_lt Z9.out.1) (fun q => HNE.out q)).trans Z9.out.1
         replace Z9 : Hid (X4.heap[b9]? = some _ ∧ wr.heap.size ≤ b9) := ⟨Z92,Z9.out.2⟩
         clear Z92
         have HS2 : Hid (Kept (fun _ => False) wr X4) := HS.out.trans kk (fun i q => .inr (by have q2 : i = b10 := q; have := Z10.out.2; omega))
         replace Z10 : Hid (X4.heap[b10]? = some (.cells #[.int .i64 kn,.string ks,.bool kb,.int .i64 kl] 59 (0,0)) ∧ wr.heap.size ≤ b10) := ⟨hz,Z10.out.2⟩
         clear HS kk hz
         have HS : Hid (Kept (fun _ => False) wr X4) := HS2.out
         clear HS2
         refine hK.out _ _ HS.out (fun _ => ?_)
         clear hK K
         try simp only [List.getElem_toArray,List.getElem_cons_succ,List.getElem_cons_zero,Act.put,sI,sS,sZ]
         refine wpAnyH_done (by kernel_rfl) ?_ _
         unfold OnlyN
         have f0 : X4.cell? ⟨b9,0,none⟩ = some (.int .i64 kn) := cell_of_row X4 _ 0 _ 59 (0,0) Z9.out.1
         have h0 : X4.cell? ⟨b10,0,none⟩ = some (.int .i64 kn) := cell_of_row X4 _ 0 _ 59 (0,0) Z10.out.1
         have f1 : X4.cell? ⟨b9,1,none⟩ = some (.string ks) := cell_of_row X4 _ 1 _ 59 (0,0) Z9.out.1
         have h1 : X4.cell? ⟨b10,1,none⟩ = some (.string ks) := cell_of_row X4 _ 1 _ 59 (0,0) Z10.out.1
         have f2 : X4.cell? ⟨b9,2,none⟩ = some (.bool kb) := cell_of_row X4 _ 2 _ 59 (0,0) Z9.out.1
         have h2 : X4.cell? ⟨b10,2,none⟩ = some (.bool kb) := cell_of_row X4 _ 2 _ 59 (0,0) Z10.out.1
         have f3 : X4.cell? ⟨b9,3,none⟩ = some (.int .i64 km) := cell_of_row X4 _ 3 _ 59 (0,0) Z9.out.1
         have h3 : X4.cell? ⟨b10,3,none⟩ = some (.int .i64 kl) := cell_of_row X4 _ 3 _ 59 (0,0) Z10.out.1
         go_wp2_with fail
         go_roundg gk
         case measure => omega
         case rel => exact ⟨i + 1,by simp,by show i + 1 + gk = n1; have := HI.out; omega,HK.out.trans HS.out (fun i q => .inl q)⟩
       · rw [if_pos (by rfl)]
         refine op_al al59 ?_
         intro X1 b10 kk hz hl
         have Z10 : Hid (X1.heap[b10]? = some (.cells #[.int .i64 0,.string ⟨#[]⟩,.bool false,.int .i64 0] 59 (0,0)) ∧ wr.heap.size ≤ b10) := ⟨hz,Nat.le_trans HS.out.size hl⟩
         have HS2 : Hid (Kept (fun _ => False) wr X1) := HS.out.trans kk (fun i q => .inl q)
         clear HS kk hz hl
         have HS : Hid (Kept (fun _ => False) wr X1) := HS2.out
         clear HS2
         refine hK.out _ _ HS.out (fun _ => ?_)
         clear hK K
         try simp only [List.getElem_toArray,List.getElem_cons_succ,List.getElem_cons_zero,Act.put,sI,sS,sZ]
         refine wpAnyH_ready (rs := [10]) (by kernel_rfl) (by simp) ?_
         refine AllReadyH.cons rfl (fun K hK => ?_) (AllReadyH.nil)
         rw [if_pos (by rfl)]
         refine op_al al59 ?_
         intro X2 b9 kk hz hl
         have Z9 : Hid (X2.heap[b9]? = some (.cells #[.int .i64 0,.string ⟨#[]⟩,.bool false,.int .i64 0] 59 (0,0)) ∧ wr.heap.size ≤ b9) := ⟨hz,Nat.le_trans HS.out.size hl⟩
         have HNE : Hid (b9 ≠ b10) := fun q => by have := blk_lt Z10.out.1; omega
         have Z102 := (kk.block _ (blk_lt Z10.out.1) (fun z => z)).trans Z10.out.1
         replace Z10 : Hid (X2.heap[b10]? = some _ ∧ wr.heap.size ≤ b10) := ⟨Z102,Z10.out.2⟩
         clear Z102
         have HS2 : Hid (Kept (fun _ => False) wr X2) := HS.out.trans kk (fun i q => .inl q)
         clear HS kk hz hl
         have HS : Hid (Kept (fun _ => False) wr X2) := HS2.out
         clear HS2
         refine hK.out _ _ HS.out (fun _ => ?_)
         clear hK K
         try simp only [List.getElem_toArray,List.getElem_cons_succ,List.getElem_cons_zero,Act.put,sI,sS,sZ]
         refine wpAnyH_ready (rs := [12]) (by kernel_rfl) (by simp) ?_
         refine AllReadyH.cons rfl (fun K hK => ?_) (AllReadyH.nil)
         rw [if_pos (by rfl)]
         refine op_st (cs := #[.int .i64 kn,.string ks,.bool kb,.int .i64 km]) Z9.out.1 (by kernel_rfl) rfl (by rfl) ?_
         intro X3 kk hz
         have Z102 := (kk.block _ (blk_lt Z10.out.1) (fun q => HNE.out q.symm)).trans Z10.out.1
         replace Z10 : Hid (X3.heap[b10]? = some _ ∧ wr.heap.size ≤ b10) := ⟨Z102,Z10.out.2⟩
         clear Z102
         have HS2 : Hid (Kept (fun _ => False) wr X3) := HS.out.trans kk (fun i q => .inr (by have q2 : i = b9 := q; have := Z9.out.2; omega))
         replace Z9 : Hid (X3.heap[b9]? = some (.cells #[.int .i64 kn,.string ks,.bool kb,.int .i64 km] 59 (0,0)) ∧ wr.heap.size ≤ b9) := ⟨hz,Z9.out.2⟩
         clear HS kk hz
         have HS : Hid (Kept (fun _ => False) wr X3) := HS2.out
         clear HS2
         refine hK.out _ _ HS.out (fun _ => ?_)
         clear hK K
         try simp only [List.getElem_toArray,List.getElem_cons_succ,List.getElem_cons_zero,Act.put,sI,sS,sZ]
         refine wpAnyH_ready (rs := [13]) (by kernel_rfl) (by simp) ?_
         refine AllReadyH.cons rfl (fun K hK => ?_) (AllReadyH.nil)
         rw [if_pos (by rfl)]
         refine op_st (cs := #[.int .i64 kn,.string ks,.bool kb,.int .i64 kl]) Z10.out.1 (by kernel_rfl) rfl (by rfl) ?_
         intro X4 kk hz
         have Z92 := (kk.block _ (blk_lt Z9.out.1) (fun q => HNE.out q)).trans Z9.out.1
         replace Z9 : Hid (X4.heap[b9]? = some _ ∧ wr.heap.size ≤ b9) := ⟨Z92,Z9.out.2⟩
         clear Z92
         have HS2 : Hid (Kept (fun _ => False) wr X4) := HS.out.trans kk (fun i q => .inr (by have q2 : i = b10 := q; have := Z10.out.2; omega))
         replace Z10 : Hid (X4.heap[b10]? = some (.cells #[.int .i64 kn,.string ks,.bool kb,.int .i64 kl] 59 (0,0)) ∧ wr.heap.size ≤ b10) := ⟨hz,Z10.out.2⟩
         clear HS kk hz
         have HS : Hid (Kept (fun _ => False) wr X4) := HS2.out
         clear HS2
         refine hK.out _ _ HS.out (fun _ => ?_)
         clear hK K
         try simp only [List.getElem_toArray,List.getElem_cons_succ,List.getElem_cons_zero,Act.put,sI,sS,sZ]
         refine wpAnyH_done (by kernel_rfl) ?_ _
         unfold OnlyN
         have f0 : X4.cell? ⟨b9,0,none⟩ = some (.int .i64 kn) := cell_of_row X4 _ 0 _ 59 (0,0) Z9.out.1
         have h0 : X4.cell? ⟨b10,0,none⟩ = some (.int .i64 kn) := cell_of_row X4 _ 0 _ 59 (0,0) Z10.out.1
         have f1 : X4.cell? ⟨b9,1,none⟩ = some (.string ks) := cell_of_row X4 _ 1 _ 59 (0,0) Z9.out.1
         have h1 : X4.cell? ⟨b10,1,none⟩ = some (.string ks) := cell_of_row X4 _ 1 _ 59 (0,0) Z10.out.1
         have f2 : X4.cell? ⟨b9,2,none⟩ = some (.bool kb) := cell_of_row X4 _ 2 _ 59 (0,0) Z9.out.1
         have h2 : X4.cell? ⟨b10,2,none⟩ = some (.bool kb) := cell_of_row X4 _ 2 _ 59 (0,0) Z10.out.1
         have f3 : X4.cell? ⟨b9,3,none⟩ = some (.int .i64 km) := cell_of_row X4 _ 3 _ 59 (0,0) Z9.out.1
         have h3 : X4.cell? ⟨b10,3,none⟩ = some (.int .i64 kl) := cell_of_row X4 _ 3 _ 59 (0,0) Z10.out.1
         go_wp2_with fail
         go_roundg gk
         case measure => omega
         case rel => exact ⟨i + 1,by simp,by show i + 1 + gk = n1; have := HI.out; omega,HK.out.trans HS.out (fun i q => .inl q)⟩
     · have hii : ¬ (i : Int) < (n1 : Int) := by omega
       go_wp2_with fail
       go_ret
       exact ⟨rfl,(K2.out.trans HKW.out (fun i q => .inl q)).trans HK.out (fun i q => .inl q)⟩
end Go.Proofs.YtlgkghebemfpjaaGreatDoor.Pa
