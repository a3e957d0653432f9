/- without: a leaf, and on into a kid. -/
import Derived.Test.YtgebionlkmjfnaaFil
namespace Go.Proofs.Ytgebionlkmjfnaa
open Go.ChangeShapes Go.WideShapes Go.RowKit
set_option linter.unusedVariables false
set_option maxRecDepth 100000

set_option maxHeartbeats 4000000 in
theorem without_leaf (w : World) (b : Nat) (xs : List Itm) (h : NdAt itv w b xs []) (hs : Sorted xs) (hx : xs.length ≤ 50) (k : Int) (hh : has xs k = true) (hlt : pos xs k < xs.length) (i : Nat) (hi : pos xs k = i) :
    Calls Try.prog 24 #[.pointer (some ⟨b, 0, none⟩), .int .i64 k] w fun e w' => ∃ b', e = .returned (.pointer (some ⟨b', 0, none⟩)) ∧ Below w.heap.size w w' ∧ NdAt itv w' b' (xs.take i ++ [] ++ xs.drop (i + 1)) [] := by
  have hil : i < xs.length := by rw [← hi]; exact hlt
  have HFI : Hid (Calls Try.prog 25 #[.pointer (some ⟨b, 0, none⟩), .int .i64 k] w fun e w'' => e = .returned (.tuple #[.int .i64 i, .bool true]) ∧ Below w.heap.size w w'') := by
    have := find_is b xs [] hs (by omega) k w h
    rw [hi, hh] at this
    exact this
  have HLF : Hid (∀ w', Below w.heap.size w w' → Calls Try.prog 26 #[.pointer (some ⟨b, 0, none⟩)] w' fun e w'' => e = .returned (.bool true) ∧ w' = w'') := fun w' kk => (leaf_is b xs [] w' (h.next itv_ne kk)).mono (fun e w2 q => ⟨q.1, q.2.symm⟩)
  obtain ⟨u, pv, c0, c1, hu, hv⟩ := h
  obtain ⟨ia, ic, rfl⟩ := slices_shape hu
  obtain ⟨X5, hX5⟩ : ∃ X5, xs.take i ++ [] ++ xs.drop (i + 1) = X5 := ⟨_, rfl⟩
  rw [hX5]
  have HSW : Hid (∀ w', Below w.heap.size w w' → Calls Try.prog 38 #[.slice ia xs.length ic, .int .i64 i, .int .i64 ((i : Int) + 1), .slice none 0 0] w' fun e w'' => ∃ a5 c5, e = .returned (.slice a5 X5.length c5) ∧ Hid (Sl itv 2 w'' (.slice a5 X5.length c5) X5) ∧ Hid (Below w'.heap.size w' w'')) := fun w' kk => by
    have := swapped2_is w' _ xs (hu.next itv_ne kk) i (i + 1) (Nat.le_succ _) hil _ _ (Sl.nil itv 2 w') (by omega) (by simp) X5 hX5
    rw [show ((i + 1 : Nat) : Int) = (i : Int) + 1 from rfl] at this
    refine this.mono fun e w'' ⟨v, q1, q2⟩ => ?_
    have q3 := Fresh.sl itv_len q2
    obtain ⟨a5, c5, q4⟩ := slices_shape q3
    subst q4
    exact ⟨a5, c5, q1, q3, q2.bel⟩
  have HC : Hid (w.cell? ⟨b, 0, none⟩ = some (.slice ia xs.length ic)) := c0
  clear hs hh hi c0 c1 hu hv hX5
  go_enter Try.func24, Try.ntmps24
  go_wp2_with fail
  refine Calls.mono HFI.out ?_; rintro e w1 ⟨rfl, k1⟩
  have HB1 : Hid (Below w.heap.size w w1) := k1
  clear k1
  go_wp2_with fail
  refine Calls.mono (HLF.out _ HB1.out) ?_; rintro e w3 ⟨rfl, rfl⟩
  have d0 := (HB1.out.cell (p := ⟨b, 0, none⟩) (World.block_lt_of_cell? w _ HC.out)).trans HC.out
  have wi1 : IntKind.i64.wrap ((i : Int) + 1) = (i : Int) + 1 := by rw [IntKind.wrap_i64]; omega
  go_wp2_with fail
  with_reducible refine Calls.mono (HSW.out _ HB1.out) ?_; rintro e w5 ⟨a5, c5, rfl, HV5, HB5⟩
  go_wp2_with fail
  go_ret
  exact ⟨_, rfl, Below.next HB1.out (Below.next HB5.out (below1 _ _)), NdAt.of (CellsF.at _ 67 (by simp) rfl) (HV5.out.next itv_ne (below1 _ _)) (Sl.nil _ _ _)⟩

set_option maxHeartbeats 8000000 in
theorem without_down (w : World) (b : Nat) (xs : List Itm) (bs : List Nat) (h : NdAt itv w b xs bs) (hs : Sorted xs) (hx : xs.length ≤ 50) (hbl : bs.length ≤ 51) (k : Int) (hh : has xs k = false) (i : Nat) (hi : pos xs k = i) (kb : Nat) (hkb : bs[i]? = some kb)
    (Q : World → Nat → List Itm → Prop) (hQ : ∀ w w' b y, Q w b y → Below w.heap.size w w' → Q w' b y)
    (hrec : ∀ w', Below w.heap.size w w' → Calls Try.prog 24 #[.pointer (some ⟨kb, 0, none⟩), .int .i64 k] w' fun e w'' => ∃ b2 ys2 kbs2, e = .returned (.pointer (some ⟨b2, 0, none⟩)) ∧ Below w'.heap.size w' w'' ∧ NdAt itv w'' b2 ys2 kbs2 ∧ Q w'' b2 ys2)
    (R : World → Nat → Prop)
    (hfil : ∀ w' b3 b2 ys2, Below w.heap.size w w' → NdAt itv w' b3 xs (bs.take i ++ [b2] ++ bs.drop (i + 1)) → Q w' b2 ys2 → ys2.length < 6 → Calls Try.prog 43 #[.pointer (some ⟨b3, 0, none⟩), .int .i64 i] w' fun e w'' => ∃ b', e = .returned (.pointer (some ⟨b', 0, none⟩)) ∧ Below w'.heap.size w' w'' ∧ R w'' b')
    (hno : ∀ w' b3 b2 ys2, Below w.heap.size w w' → NdAt itv w' b3 xs (bs.take i ++ [b2] ++ bs.drop (i + 1)) → Q w' b2 ys2 → 6 ≤ ys2.length → R w' b3) :
    Calls Try.prog 24 #[.pointer (some ⟨b, 0, none⟩), .int .i64 k] w fun e w' => ∃ b', e = .returned (.pointer (some ⟨b', 0, none⟩)) ∧ Below w.heap.size w w' ∧ R w' b' := by
  have hib : i < bs.length := (List.getElem?_eq_some_iff.1 hkb).1
  have hbe : bs[i] = kb := (List.getElem?_eq_some_iff.1 hkb).2
  have hne : bs ≠ [] := fun e => by rw [e] at hib; simp at hib
  have HFI : Hid (Calls Try.prog 25 #[.pointer (some ⟨b, 0, none⟩), .int .i64 k] w fun e w'' => e = .returned (.tuple #[.int .i64 i, .bool false]) ∧ Below w.heap.size w w'') := by
    have := find_is b xs bs hs (by omega) k w h
    rw [hi, hh] at this
    exact this
  have HLF : Hid (∀ w', Below w.heap.size w w' → Calls Try.prog 26 #[.pointer (some ⟨b, 0, none⟩)] w' fun e w'' => e = .returned (.bool false) ∧ w' = w'') := fun w' kk => by
    have := leaf_is b xs bs w' (h.next itv_ne kk)
    rw [decide_eq_false hne] at this
    exact this.mono (fun e w2 q => ⟨q.1, q.2.symm⟩)
  obtain ⟨u, pv, c0, c1, hu, hv⟩ := h
  obtain ⟨ia, ic, rfl⟩ := slices_shape hu
  obtain ⟨pb, po, pc, rfl, hpc, hpb, hpt⟩ := hv.ptr hne
  have p0 := hpt i hib
  rw [hbe, Nat.mul_one] at p0
  have HUV : Hid (w.cell? ⟨b, 0, none⟩ = some (.slice ia xs.length ic) ∧ w.cell? ⟨b, 1, none⟩ = some (.slice (some ⟨pb, po, none⟩) bs.length pc) ∧ Sl itv 2 w (.slice ia xs.length ic) xs ∧ Sl ptv 1 w (.slice (some ⟨pb, po, none⟩) bs.length pc) bs ∧ w.cell? ⟨pb, po + i, none⟩ = some (.pointer (some ⟨kb, 0, none⟩))) := ⟨c0, c1, hu, hv, p0⟩
  have HRE : Hid _ := hrec
  have HHA : Hid _ := hfil
  have HNO : Hid _ := hno
  have HQQ : Hid _ := hQ
  have hilt : (i : Int) < (bs.length : Int) := by omega
  clear hs hh hi c0 c1 hu hv hpt hrec hfil hno hQ p0 hkb hbe hne
  go_enter Try.func24, Try.ntmps24
  go_wp2_with fail
  refine Calls.mono HFI.out ?_; rintro e wq ⟨rfl, k1⟩
  have HBQ : Hid (Below w.heap.size w wq) := k1
  have HQT : Hid (Below w.heap.size w wq ∧ wq.cell? ⟨b, 0, none⟩ = some (.slice ia xs.length ic) ∧ wq.cell? ⟨b, 1, none⟩ = some (.slice (some ⟨pb, po, none⟩) bs.length pc) ∧ wq.cell? ⟨pb, po + i, none⟩ = some (.pointer (some ⟨kb, 0, none⟩)) ∧ Sl itv 2 wq (.slice ia xs.length ic) xs ∧ Sl ptv 1 wq (.slice (some ⟨pb, po, none⟩) bs.length pc) bs) := ⟨k1, (k1.cell (p := ⟨b, 0, none⟩) (World.block_lt_of_cell? w _ HUV.out.1)).trans HUV.out.1, (k1.cell (p := ⟨b, 1, none⟩) (World.block_lt_of_cell? w _ HUV.out.2.1)).trans HUV.out.2.1, (k1.cell (p := ⟨pb, po + i, none⟩) (World.block_lt_of_cell? w _ HUV.out.2.2.2.2)).trans HUV.out.2.2.2.2, HUV.out.2.2.1.next itv_ne k1, HUV.out.2.2.2.1.next ptv_ne k1⟩
  clear k1
  go_upto_region 8 with fail
  have t1 := HQT.out.2.2.1
  have t2 := HQT.out.2.2.2.1
  have HRC : Hid _ := HRE.out wq HQT.out.1
  go_wp2_with fail
  refine Calls.mono HRC.out ?_; rintro e w4 ⟨b2, ys2, kbs2, rfl, k4, hnd4, hq4⟩
  have HB4 : Hid (Below wq.heap.size wq w4) := k4
  have HN4 : Hid (NdAt itv w4 b2 ys2 kbs2 ∧ Q w4 b2 ys2) := ⟨hnd4, hq4⟩
  clear t1 t2 k4 hnd4 hq4 HRC
  have HBW : Hid (Below w.heap.size w w4) := Below.next HQT.out.1 HB4.out
  have HQ : Hid (w4.cell? ⟨b, 0, none⟩ = some (.slice ia xs.length ic) ∧ w4.cell? ⟨b, 1, none⟩ = some (.slice (some ⟨pb, po, none⟩) bs.length pc)) := ⟨(HB4.out.cell (p := ⟨b, 0, none⟩) (World.block_lt_of_cell? wq _ HQT.out.2.1)).trans HQT.out.2.1, (HB4.out.cell (p := ⟨b, 1, none⟩) (World.block_lt_of_cell? wq _ HQT.out.2.2.1)).trans HQT.out.2.2.1⟩
  have HSL4 : Hid (Sl itv 2 w4 (.slice ia xs.length ic) xs ∧ Sl ptv 1 w4 (.slice (some ⟨pb, po, none⟩) bs.length pc) bs) := ⟨HQT.out.2.2.2.2.1.next itv_ne HB4.out, HQT.out.2.2.2.2.2.next ptv_ne HB4.out⟩
  obtain ⟨X6, hX6⟩ : ∃ X6, bs.take i ++ [b2] ++ bs.drop (i + 1) = X6 := ⟨_, rfl⟩
  have HX6 : Hid (bs.take i ++ [b2] ++ bs.drop (i + 1) = X6) := hX6
  have HL6 : Hid (X6.length = bs.length) := by show _ = _; rw [← hX6, List.length_append, List.length_append, List.length_take, List.length_drop]; simp; omega
  clear hX6
  have HS : Hid (∀ w' : World, Below w4.heap.size w4 w' → (Below w4.heap.size w4 w' ∧ w'.cell? ⟨b, 0, none⟩ = some (.slice ia xs.length ic) ∧ w'.cell? ⟨b, 1, none⟩ = some (.slice (some ⟨pb, po, none⟩) bs.length pc))) := fun w' kk => ⟨kk, (kk.cell (p := ⟨b, 0, none⟩) (World.block_lt_of_cell? w4 _ (HQ.out.1))).trans (HQ.out.1), (kk.cell (p := ⟨b, 1, none⟩) (World.block_lt_of_cell? w4 _ (HQ.out.2))).trans (HQ.out.2)⟩
  have HSN : Hid (∀ w' w'' : World, (Below w4.heap.size w4 w' ∧ w'.cell? ⟨b, 0, none⟩ = some (.slice ia xs.length ic) ∧ w'.cell? ⟨b, 1, none⟩ = some (.slice (some ⟨pb, po, none⟩) bs.length pc)) → Below w'.heap.size w' w'' → (Below w4.heap.size w4 w'' ∧ w''.cell? ⟨b, 0, none⟩ = some (.slice ia xs.length ic) ∧ w''.cell? ⟨b, 1, none⟩ = some (.slice (some ⟨pb, po, none⟩) bs.length pc))) := fun w' w'' h kk => HS.out w'' (Below.next h.1 kk)
  have HSD : Hid (∀ w' : World, (Below w4.heap.size w4 w' ∧ w'.cell? ⟨b, 0, none⟩ = some (.slice ia xs.length ic) ∧ w'.cell? ⟨b, 1, none⟩ = some (.slice (some ⟨pb, po, none⟩) bs.length pc)) → (Below w4.heap.size w4 w'.drew ∧ w'.drew.cell? ⟨b, 0, none⟩ = some (.slice ia xs.length ic) ∧ w'.drew.cell? ⟨b, 1, none⟩ = some (.slice (some ⟨pb, po, none⟩) bs.length pc))) := fun w' h => HSN.out w' _ h (Below.refl _ _).drew
  have HSA : Hid (∀ (w' : World) (z : Obj), (Below w4.heap.size w4 w' ∧ w'.cell? ⟨b, 0, none⟩ = some (.slice ia xs.length ic) ∧ w'.cell? ⟨b, 1, none⟩ = some (.slice (some ⟨pb, po, none⟩) bs.length pc)) → (Below w4.heap.size w4 (w'.alloc z) ∧ (w'.alloc z).cell? ⟨b, 0, none⟩ = some (.slice ia xs.length ic) ∧ (w'.alloc z).cell? ⟨b, 1, none⟩ = some (.slice (some ⟨pb, po, none⟩) bs.length pc))) := fun w' z h => HSN.out w' _ h (below1 _ _)
  have HSAD : Hid (∀ (w' : World) (z : Obj), (Below w4.heap.size w4 w'.drew ∧ w'.drew.cell? ⟨b, 0, none⟩ = some (.slice ia xs.length ic) ∧ w'.drew.cell? ⟨b, 1, none⟩ = some (.slice (some ⟨pb, po, none⟩) bs.length pc)) → (Below w4.heap.size w4 (w'.alloc z).drew ∧ (w'.alloc z).drew.cell? ⟨b, 0, none⟩ = some (.slice ia xs.length ic) ∧ (w'.alloc z).drew.cell? ⟨b, 1, none⟩ = some (.slice (some ⟨pb, po, none⟩) bs.length pc))) := fun w' z h => HS.out _ (Below.next (Below.of_drew' h.1) (below1 _ _).drew)
  have hS0 := HS.out w4 (Below.refl _ _)
  have HSWP : Hid (∀ (w' : World) (Y : Nat), (Below w4.heap.size w4 w' ∧ w'.cell? ⟨b, 0, none⟩ = some (.slice ia xs.length ic) ∧ w'.cell? ⟨b, 1, none⟩ = some (.slice (some ⟨pb, po, none⟩) bs.length pc)) → CellsF w' Y [.pointer (some ⟨b2, 0, none⟩)] → Calls Try.prog 39 #[.slice (some ⟨pb, po, none⟩) bs.length pc, .int .i64 i, .int .i64 (IntKind.i64.wrap ((i : Int) + 1)), .slice (some ⟨Y, 0, none⟩) 1 1] w' fun e w'' => ∃ a6 c6, e = .returned (.slice a6 bs.length c6) ∧ (Below w4.heap.size w4 w'' ∧ w''.cell? ⟨b, 0, none⟩ = some (.slice ia xs.length ic) ∧ w''.cell? ⟨b, 1, none⟩ = some (.slice (some ⟨pb, po, none⟩) bs.length pc)) ∧ Hid (Sl ptv 1 w'' (.slice a6 bs.length c6) X6) ∧ Hid (Below w4.heap.size w4 w'')) := fun w' Y h hc => by
    have h1 := HSL4.out.2.next ptv_ne h.1
    rw [show IntKind.i64.wrap ((i : Int) + 1) = ((i + 1 : Nat) : Int) by rw [IntKind.wrap_i64]; omega]
    have h2 : Sl ptv 1 w' (.slice (some ⟨Y, 0, none⟩) 1 1) [b2] := ⟨_, 1, rfl, rw_lit ptv_len hc, Nat.le_refl _, fun e => by cases e⟩
    have := swapped1_is w' _ bs h1 i (i + 1) (Nat.le_succ _) (by omega) _ _ h2 (by omega) (by simp) X6 HX6.out
    refine this.mono fun e w'' ⟨v, r1, r2⟩ => ?_
    have r3 := Fresh.sl ptv_len r2
    obtain ⟨a6, c6, r4⟩ := slices_shape r3
    rw [HL6.out] at r4
    subst r4
    exact ⟨a6, c6, r1, HSN.out _ _ h r2.bel, r3, Below.next h.1 r2.bel⟩
  clear HQ
  go_wp2_with fail
  go_region_held (fun (w' : World) => (Below w4.heap.size w4 w' ∧ w'.cell? ⟨b, 0, none⟩ = some (.slice ia xs.length ic) ∧ w'.cell? ⟨b, 1, none⟩ = some (.slice (some ⟨pb, po, none⟩) bs.length pc))) (first | (with_reducible assumption) | (with_reducible exact HSD.out _ (by with_reducible assumption)) | (with_reducible exact HSA.out _ _ (by with_reducible assumption)) | (with_reducible exact HSAD.out _ _ (by with_reducible assumption)))
    (first | ((with_reducible refine Calls.mono (HSWP.out _ _ (by with_reducible assumption) (by (first | exact (CellsF.at _ _ (by simp) rfl).next (Below.refl _ _).drew | exact CellsF.at _ _ (by simp) rfl))) ?_); rintro e w6 ⟨a6, c6, rfl, hS6, HV6, HB6⟩))
  obtain ⟨w7, hw7⟩ : ∃ w7, w6.alloc (.cells #[.slice ia xs.length ic, .slice a6 bs.length c6] 67) = w7 := ⟨_, rfl⟩
  have HB7 : Hid (Below w4.heap.size w4 w7) := by show Below _ _ _; rw [← hw7]; exact Below.next HB6.out (below1 _ _)
  have HN7 : Hid (NdAt itv w7 w6.heap.size xs (bs.take i ++ [b2] ++ bs.drop (i + 1))) := by
    show NdAt _ _ _ _ _
    rw [HX6.out, ← hw7]
    exact NdAt.of (CellsF.at _ 67 (by simp) rfl) (HSL4.out.1.next itv_ne (Below.next HB6.out (below1 _ _))) (HV6.out.next ptv_ne (below1 _ _))
  have HBT : Hid (Below w.heap.size w w7) := Below.next HBW.out HB7.out
  rw [hw7]
  have HM7 : Hid (NdAt itv w7 b2 ys2 kbs2 ∧ Q w7 b2 ys2) := ⟨HN4.out.1.next itv_ne HB7.out, HQQ.out _ _ _ _ HN4.out.2 HB7.out⟩
  obtain ⟨u2, v2, e0, _, hu2, _⟩ := HM7.out.1
  obtain ⟨a2, l2, rfl⟩ := slices_shape hu2
  clear hu2 hS0 hS6 HS HSN HSD HSA HSAD HSWP hw7
  by_cases hgt : ys2.length < 6
  · have hgti : (ys2.length : Int) < 6 := by omega
    have HFN : Hid _ := HHA.out w7 w6.heap.size b2 ys2 HBT.out HN7.out HM7.out.2 hgt
    go_wp2_with fail
    refine Calls.mono HFN.out ?_; rintro e w8 ⟨b', rfl, k8, r8⟩
    have HK8 : Hid (Below w7.heap.size w7 w8 ∧ R w8 b') := ⟨k8, r8⟩
    clear k8 r8
    go_wp2_with fail
    go_ret
    exact ⟨b', rfl, Below.next HBT.out HK8.out.1, HK8.out.2⟩
  · have hgti : ¬ (ys2.length : Int) < 6 := by omega
    have HFN : Hid (R w7 w6.heap.size) := HNO.out w7 w6.heap.size b2 ys2 HBT.out HN7.out HM7.out.2 (by omega)
    go_wp2_with fail
    go_ret
    exact ⟨_, rfl, HBT.out, HFN.out⟩
end Go.Proofs.Ytgebionlkmjfnaa
