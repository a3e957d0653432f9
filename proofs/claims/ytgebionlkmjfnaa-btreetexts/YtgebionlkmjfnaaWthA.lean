/- with, where the key comes into the node itself. -/
import Derived.Test.YtgebionlkmjfnaaHalL
namespace Go.Proofs.Ytgebionlkmjfnaa
open Go.ChangeShapes Go.WideShapes Go.RowKit
set_option linter.unusedVariables false
set_option maxRecDepth 100000

set_option maxHeartbeats 8000000 in
theorem with_leaf (w : World) (b : Nat) (xs : List Itm) (h : NdAt itv w b xs []) (hs : Sorted xs) (hx : xs.length ≤ 50) (k : Int) (v : ByteArray) (hh : has xs k = false) (i : Nat) (hi : pos xs k = i) :
    Calls Try.prog 22 #[.pointer (some ⟨b, 0, none⟩), .agg #[.int .i64 k, .string v]] w fun e w' => ∃ b', e = .returned (.pointer (some ⟨b', 0, none⟩)) ∧ Below w.heap.size w w' ∧ NdAt itv w' b' (xs.take i ++ [(k, v)] ++ xs.drop (i)) [] := by
  have hil : i ≤ xs.length := by rw [← hi]; exact pos_le _ _
  
  obtain ⟨X5, hX5⟩ : ∃ X5, xs.take i ++ [((k, v) : Itm)] ++ xs.drop (i) = X5 := ⟨_, rfl⟩
  have HX5 : Hid (xs.take i ++ [((k, v) : Itm)] ++ xs.drop (i) = X5) := hX5
  have HL5 : Hid (X5.length = xs.length + 1) := by show _ = _; rw [← hX5, List.length_append, List.length_append, List.length_take, List.length_drop]; simp; omega
  rw [hX5]
  have HFI : Hid (∀ w', Below w.heap.size w w' → Calls Try.prog 25 #[.pointer (some ⟨b, 0, none⟩), .int .i64 k] w' fun e w'' => e = .returned (.tuple #[.int .i64 i, .bool false]) ∧ Below w'.heap.size w' w'') := fun w' kk => by
    have := find_is b xs [] hs (by omega) k w' (h.next itv_ne kk)
    rw [hi, hh] at this
    exact this
  have HLF : Hid (∀ w', Below w.heap.size w w' → Calls Try.prog 26 #[.pointer (some ⟨b, 0, none⟩)] w' fun e w'' => e = .returned (.bool true) ∧ w' = w'') := fun w' kk => (leaf_is b xs [] w' (h.next itv_ne kk)).mono (fun e w2 q => ⟨q.1, q.2.symm⟩)
  have HH : Hid (NdAt itv w b xs []) := h
  obtain ⟨u, pv, c0, c1, hu, hv⟩ := h
  obtain ⟨ia, ic, rfl⟩ := slices_shape hu
  obtain ⟨pa, pc, rfl⟩ := slices_shape hv
  have HUV : Hid (w.cell? ⟨b, 0, none⟩ = some (.slice ia xs.length ic) ∧ w.cell? ⟨b, 1, none⟩ = some (.slice pa ([] : List Nat).length pc) ∧ Sl itv 2 w (.slice ia xs.length ic) xs ∧ Sl ptv 1 w (.slice pa ([] : List Nat).length pc) []) := ⟨c0, c1, hu, hv⟩
  have HB0 : Hid (∀ t, Below w.heap.size w (w.alloc t)) := fun t => below1 _ _
  have HC0 : Hid (CellsF (w.alloc (.cells #[.int .i64 k, .string v] 63)) w.heap.size [.int .i64 k, .string v]) := CellsF.at _ 63 (by simp) rfl
  clear hX5 hs hh hi c0 c1 hu hv
  go_enter Try.func22, Try.ntmps22
  go_wp2_with fail
  refine Calls.mono (HFI.out _ (HB0.out _)) ?_; rintro e wq ⟨rfl, k1⟩
  have HBQ : Hid (Below w.heap.size w wq) := Below.next (HB0.out _) k1
  have HCQ : Hid (CellsF wq w.heap.size [.int .i64 k, .string v]) := HC0.out.next k1
  clear k1 HC0
  go_wp2_with fail
  refine Calls.mono (HLF.out _ HBQ.out) ?_; rintro e w3 ⟨rfl, rfl⟩
  have HQ : Hid (wq.cell? ⟨b, 0, none⟩ = some (.slice ia xs.length ic) ∧ wq.cell? ⟨w.heap.size, 0, none⟩ = some (.int .i64 k) ∧ wq.cell? ⟨w.heap.size, 1, none⟩ = some (.string v)) := ⟨(HBQ.out.cell (p := ⟨b, 0, none⟩) (World.block_lt_of_cell? w _ HUV.out.1)).trans HUV.out.1, HCQ.out.cs 0 _ rfl, HCQ.out.cs 1 _ rfl⟩
  have HS : Hid (∀ w' : World, Below wq.heap.size wq w' → (Below wq.heap.size wq w' ∧ w'.cell? ⟨b, 0, none⟩ = some (.slice ia xs.length ic) ∧ w'.cell? ⟨w.heap.size, 0, none⟩ = some (.int .i64 k) ∧ w'.cell? ⟨w.heap.size, 1, none⟩ = some (.string v))) := fun w' kk => ⟨kk, (kk.cell (p := ⟨b, 0, none⟩) (World.block_lt_of_cell? wq _ (HQ.out.1))).trans (HQ.out.1), (kk.cell (p := ⟨w.heap.size, 0, none⟩) (World.block_lt_of_cell? wq _ (HQ.out.2.1))).trans (HQ.out.2.1), (kk.cell (p := ⟨w.heap.size, 1, none⟩) (World.block_lt_of_cell? wq _ (HQ.out.2.2))).trans (HQ.out.2.2)⟩
  have HSN : Hid (∀ w' w'' : World, (Below wq.heap.size wq w' ∧ w'.cell? ⟨b, 0, none⟩ = some (.slice ia xs.length ic) ∧ w'.cell? ⟨w.heap.size, 0, none⟩ = some (.int .i64 k) ∧ w'.cell? ⟨w.heap.size, 1, none⟩ = some (.string v)) → Below w'.heap.size w' w'' → (Below wq.heap.size wq w'' ∧ w''.cell? ⟨b, 0, none⟩ = some (.slice ia xs.length ic) ∧ w''.cell? ⟨w.heap.size, 0, none⟩ = some (.int .i64 k) ∧ w''.cell? ⟨w.heap.size, 1, none⟩ = some (.string v))) := fun w' w'' h kk => HS.out w'' (Below.next h.1 kk)
  have HSD : Hid (∀ w' : World, (Below wq.heap.size wq w' ∧ w'.cell? ⟨b, 0, none⟩ = some (.slice ia xs.length ic) ∧ w'.cell? ⟨w.heap.size, 0, none⟩ = some (.int .i64 k) ∧ w'.cell? ⟨w.heap.size, 1, none⟩ = some (.string v)) → (Below wq.heap.size wq w'.drew ∧ w'.drew.cell? ⟨b, 0, none⟩ = some (.slice ia xs.length ic) ∧ w'.drew.cell? ⟨w.heap.size, 0, none⟩ = some (.int .i64 k) ∧ w'.drew.cell? ⟨w.heap.size, 1, none⟩ = some (.string v))) := fun w' h => HSN.out w' _ h (Below.refl _ _).drew
  have HSA : Hid (∀ (w' : World) (z : Obj), (Below wq.heap.size wq w' ∧ w'.cell? ⟨b, 0, none⟩ = some (.slice ia xs.length ic) ∧ w'.cell? ⟨w.heap.size, 0, none⟩ = some (.int .i64 k) ∧ w'.cell? ⟨w.heap.size, 1, none⟩ = some (.string v)) → (Below wq.heap.size wq (w'.alloc z) ∧ (w'.alloc z).cell? ⟨b, 0, none⟩ = some (.slice ia xs.length ic) ∧ (w'.alloc z).cell? ⟨w.heap.size, 0, none⟩ = some (.int .i64 k) ∧ (w'.alloc z).cell? ⟨w.heap.size, 1, none⟩ = some (.string v))) := fun w' z h => HSN.out w' _ h (below1 _ _)
  have HSAD : Hid (∀ (w' : World) (z : Obj), (Below wq.heap.size wq w'.drew ∧ w'.drew.cell? ⟨b, 0, none⟩ = some (.slice ia xs.length ic) ∧ w'.drew.cell? ⟨w.heap.size, 0, none⟩ = some (.int .i64 k) ∧ w'.drew.cell? ⟨w.heap.size, 1, none⟩ = some (.string v)) → (Below wq.heap.size wq (w'.alloc z).drew ∧ (w'.alloc z).drew.cell? ⟨b, 0, none⟩ = some (.slice ia xs.length ic) ∧ (w'.alloc z).drew.cell? ⟨w.heap.size, 0, none⟩ = some (.int .i64 k) ∧ (w'.alloc z).drew.cell? ⟨w.heap.size, 1, none⟩ = some (.string v))) := fun w' z h => HS.out _ (Below.next (Below.of_drew' h.1) (below1 _ _).drew)
  have hS0 := HS.out wq (Below.refl _ _)
  have HSWI : Hid (∀ (w' : World) (X : Nat), (Below wq.heap.size wq w' ∧ w'.cell? ⟨b, 0, none⟩ = some (.slice ia xs.length ic) ∧ w'.cell? ⟨w.heap.size, 0, none⟩ = some (.int .i64 k) ∧ w'.cell? ⟨w.heap.size, 1, none⟩ = some (.string v)) → CellsF w' X [.int .i64 k, .string v] → Calls Try.prog 38 #[.slice ia xs.length ic, .int .i64 i, .int .i64 i, .slice (some ⟨X, 0, none⟩) 1 1] w' fun e w'' => ∃ a5 c5, e = .returned (.slice a5 (xs.length + 1) c5) ∧ (Below wq.heap.size wq w'' ∧ w''.cell? ⟨b, 0, none⟩ = some (.slice ia xs.length ic) ∧ w''.cell? ⟨w.heap.size, 0, none⟩ = some (.int .i64 k) ∧ w''.cell? ⟨w.heap.size, 1, none⟩ = some (.string v)) ∧ Hid (Sl itv 2 w'' (.slice a5 (xs.length + 1) c5) X5) ∧ Hid (Below w'.heap.size w' w'')) := fun w' X h hc => by
    have h1 := HUV.out.2.2.1.next itv_ne (Below.next HBQ.out h.1)
    
    have h2 : Sl itv 2 w' (.slice (some ⟨X, 0, none⟩) 1 1) [((k, v) : Itm)] := ⟨_, 1, rfl, rw_lit itv_len hc, Nat.le_refl _, fun e => by cases e⟩
    have := swapped2_is w' _ xs h1 i (i) (by omega) (by omega) _ _ h2 (by omega) (by simp) X5 HX5.out
    refine this.mono fun e w'' ⟨v, r1, r2⟩ => ?_
    have r3 := Fresh.sl itv_len r2
    obtain ⟨a5, c5, r4⟩ := slices_shape r3
    rw [HL5.out] at r4
    subst r4
    exact ⟨a5, c5, r1, HSN.out _ _ h r2.bel, r3, r2.bel⟩
  clear HQ HCQ
  go_wp2_with fail
  go_region_held (fun (w' : World) => (Below wq.heap.size wq w' ∧ w'.cell? ⟨b, 0, none⟩ = some (.slice ia xs.length ic) ∧ w'.cell? ⟨w.heap.size, 0, none⟩ = some (.int .i64 k) ∧ w'.cell? ⟨w.heap.size, 1, none⟩ = some (.string v))) (first | (with_reducible assumption) | (with_reducible exact HSD.out _ (by with_reducible assumption)) | (with_reducible exact HSA.out _ _ (by with_reducible assumption)) | (with_reducible exact HSAD.out _ _ (by with_reducible assumption)))
    (first | ((with_reducible refine Calls.mono (HSWI.out _ _ (by with_reducible assumption) (by (first | exact (CellsF.at _ _ (by simp) rfl).next (Below.refl _ _).drew | exact CellsF.at _ _ (by simp) rfl))) ?_); rintro e w5 ⟨a5, c5, rfl, hS5, HV5, HB5⟩; have HS5 : Hid (Below wq.heap.size wq w5) := hS5.1))
  all_goals go_wp2_with fail
  all_goals go_ret
  all_goals exact ⟨_, rfl, Below.next HBQ.out (Below.next HS5.out (below1 _ _)), NdAt.of (CellsF.at _ 67 (by simp) rfl) (HV5.out.next itv_ne (below1 _ _)) (Sl.nil _ _ _)⟩

set_option maxHeartbeats 8000000 in
theorem with_has (w : World) (b : Nat) (xs : List Itm) (bs : List Nat) (h : NdAt itv w b xs bs) (hs : Sorted xs) (hx : xs.length ≤ 50) (k : Int) (v : ByteArray) (hh : has xs k = true) (hlt : pos xs k < xs.length) (i : Nat) (hi : pos xs k = i) :
    Calls Try.prog 22 #[.pointer (some ⟨b, 0, none⟩), .agg #[.int .i64 k, .string v]] w fun e w' => ∃ b', e = .returned (.pointer (some ⟨b', 0, none⟩)) ∧ Below w.heap.size w w' ∧ NdAt itv w' b' (xs.take i ++ [(k, v)] ++ xs.drop (i + 1)) bs := by
  have hil : i ≤ xs.length := by rw [← hi]; exact pos_le _ _
  have hil2 : i < xs.length := by rw [← hi]; exact hlt
  obtain ⟨X5, hX5⟩ : ∃ X5, xs.take i ++ [((k, v) : Itm)] ++ xs.drop (i + 1) = X5 := ⟨_, rfl⟩
  have HX5 : Hid (xs.take i ++ [((k, v) : Itm)] ++ xs.drop (i + 1) = X5) := hX5
  have HL5 : Hid (X5.length = xs.length) := by show _ = _; rw [← hX5, List.length_append, List.length_append, List.length_take, List.length_drop]; simp; omega
  rw [hX5]
  have HFI : Hid (∀ w', Below w.heap.size w w' → Calls Try.prog 25 #[.pointer (some ⟨b, 0, none⟩), .int .i64 k] w' fun e w'' => e = .returned (.tuple #[.int .i64 i, .bool true]) ∧ Below w'.heap.size w' w'') := fun w' kk => by
    have := find_is b xs bs hs (by omega) k w' (h.next itv_ne kk)
    rw [hi, hh] at this
    exact this
  have HH : Hid (NdAt itv w b xs bs) := h
  obtain ⟨u, pv, c0, c1, hu, hv⟩ := h
  obtain ⟨ia, ic, rfl⟩ := slices_shape hu
  obtain ⟨pa, pc, rfl⟩ := slices_shape hv
  have HUV : Hid (w.cell? ⟨b, 0, none⟩ = some (.slice ia xs.length ic) ∧ w.cell? ⟨b, 1, none⟩ = some (.slice pa (bs : List Nat).length pc) ∧ Sl itv 2 w (.slice ia xs.length ic) xs ∧ Sl ptv 1 w (.slice pa (bs : List Nat).length pc) bs) := ⟨c0, c1, hu, hv⟩
  have HB0 : Hid (∀ t, Below w.heap.size w (w.alloc t)) := fun t => below1 _ _
  have HC0 : Hid (CellsF (w.alloc (.cells #[.int .i64 k, .string v] 63)) w.heap.size [.int .i64 k, .string v]) := CellsF.at _ 63 (by simp) rfl
  clear hX5 hs hh hi c0 c1 hu hv
  go_enter Try.func22, Try.ntmps22
  go_wp2_with fail
  refine Calls.mono (HFI.out _ (HB0.out _)) ?_; rintro e wq ⟨rfl, k1⟩
  have HBQ : Hid (Below w.heap.size w wq) := Below.next (HB0.out _) k1
  have HCQ : Hid (CellsF wq w.heap.size [.int .i64 k, .string v]) := HC0.out.next k1
  clear k1 HC0
  have HQ : Hid (wq.cell? ⟨b, 0, none⟩ = some (.slice ia xs.length ic) ∧ wq.cell? ⟨b, 1, none⟩ = some (.slice pa bs.length pc) ∧ wq.cell? ⟨w.heap.size, 0, none⟩ = some (.int .i64 k) ∧ wq.cell? ⟨w.heap.size, 1, none⟩ = some (.string v)) := ⟨(HBQ.out.cell (p := ⟨b, 0, none⟩) (World.block_lt_of_cell? w _ HUV.out.1)).trans HUV.out.1, (HBQ.out.cell (p := ⟨b, 1, none⟩) (World.block_lt_of_cell? w _ HUV.out.2.1)).trans HUV.out.2.1, HCQ.out.cs 0 _ rfl, HCQ.out.cs 1 _ rfl⟩
  have HS : Hid (∀ w' : World, Below wq.heap.size wq w' → (Below wq.heap.size wq w' ∧ w'.cell? ⟨b, 0, none⟩ = some (.slice ia xs.length ic) ∧ w'.cell? ⟨b, 1, none⟩ = some (.slice pa bs.length pc) ∧ w'.cell? ⟨w.heap.size, 0, none⟩ = some (.int .i64 k) ∧ w'.cell? ⟨w.heap.size, 1, none⟩ = some (.string v))) := fun w' kk => ⟨kk, (kk.cell (p := ⟨b, 0, none⟩) (World.block_lt_of_cell? wq _ (HQ.out.1))).trans (HQ.out.1), (kk.cell (p := ⟨b, 1, none⟩) (World.block_lt_of_cell? wq _ (HQ.out.2.1))).trans (HQ.out.2.1), (kk.cell (p := ⟨w.heap.size, 0, none⟩) (World.block_lt_of_cell? wq _ (HQ.out.2.2.1))).trans (HQ.out.2.2.1), (kk.cell (p := ⟨w.heap.size, 1, none⟩) (World.block_lt_of_cell? wq _ (HQ.out.2.2.2))).trans (HQ.out.2.2.2)⟩
  have HSN : Hid (∀ w' w'' : World, (Below wq.heap.size wq w' ∧ w'.cell? ⟨b, 0, none⟩ = some (.slice ia xs.length ic) ∧ w'.cell? ⟨b, 1, none⟩ = some (.slice pa bs.length pc) ∧ w'.cell? ⟨w.heap.size, 0, none⟩ = some (.int .i64 k) ∧ w'.cell? ⟨w.heap.size, 1, none⟩ = some (.string v)) → Below w'.heap.size w' w'' → (Below wq.heap.size wq w'' ∧ w''.cell? ⟨b, 0, none⟩ = some (.slice ia xs.length ic) ∧ w''.cell? ⟨b, 1, none⟩ = some (.slice pa bs.length pc) ∧ w''.cell? ⟨w.heap.size, 0, none⟩ = some (.int .i64 k) ∧ w''.cell? ⟨w.heap.size, 1, none⟩ = some (.string v))) := fun w' w'' h kk => HS.out w'' (Below.next h.1 kk)
  have HSD : Hid (∀ w' : World, (Below wq.heap.size wq w' ∧ w'.cell? ⟨b, 0, none⟩ = some (.slice ia xs.length ic) ∧ w'.cell? ⟨b, 1, none⟩ = some (.slice pa bs.length pc) ∧ w'.cell? ⟨w.heap.size, 0, none⟩ = some (.int .i64 k) ∧ w'.cell? ⟨w.heap.size, 1, none⟩ = some (.string v)) → (Below wq.heap.size wq w'.drew ∧ w'.drew.cell? ⟨b, 0, none⟩ = some (.slice ia xs.length ic) ∧ w'.drew.cell? ⟨b, 1, none⟩ = some (.slice pa bs.length pc) ∧ w'.drew.cell? ⟨w.heap.size, 0, none⟩ = some (.int .i64 k) ∧ w'.drew.cell? ⟨w.heap.size, 1, none⟩ = some (.string v))) := fun w' h => HSN.out w' _ h (Below.refl _ _).drew
  have HSA : Hid (∀ (w' : World) (z : Obj), (Below wq.heap.size wq w' ∧ w'.cell? ⟨b, 0, none⟩ = some (.slice ia xs.length ic) ∧ w'.cell? ⟨b, 1, none⟩ = some (.slice pa bs.length pc) ∧ w'.cell? ⟨w.heap.size, 0, none⟩ = some (.int .i64 k) ∧ w'.cell? ⟨w.heap.size, 1, none⟩ = some (.string v)) → (Below wq.heap.size wq (w'.alloc z) ∧ (w'.alloc z).cell? ⟨b, 0, none⟩ = some (.slice ia xs.length ic) ∧ (w'.alloc z).cell? ⟨b, 1, none⟩ = some (.slice pa bs.length pc) ∧ (w'.alloc z).cell? ⟨w.heap.size, 0, none⟩ = some (.int .i64 k) ∧ (w'.alloc z).cell? ⟨w.heap.size, 1, none⟩ = some (.string v))) := fun w' z h => HSN.out w' _ h (below1 _ _)
  have HSAD : Hid (∀ (w' : World) (z : Obj), (Below wq.heap.size wq w'.drew ∧ w'.drew.cell? ⟨b, 0, none⟩ = some (.slice ia xs.length ic) ∧ w'.drew.cell? ⟨b, 1, none⟩ = some (.slice pa bs.length pc) ∧ w'.drew.cell? ⟨w.heap.size, 0, none⟩ = some (.int .i64 k) ∧ w'.drew.cell? ⟨w.heap.size, 1, none⟩ = some (.string v)) → (Below wq.heap.size wq (w'.alloc z).drew ∧ (w'.alloc z).drew.cell? ⟨b, 0, none⟩ = some (.slice ia xs.length ic) ∧ (w'.alloc z).drew.cell? ⟨b, 1, none⟩ = some (.slice pa bs.length pc) ∧ (w'.alloc z).drew.cell? ⟨w.heap.size, 0, none⟩ = some (.int .i64 k) ∧ (w'.alloc z).drew.cell? ⟨w.heap.size, 1, none⟩ = some (.string v))) := fun w' z h => HS.out _ (Below.next (Below.of_drew' h.1) (below1 _ _).drew)
  have hS0 := HS.out wq (Below.refl _ _)
  have HSWI : Hid (∀ (w' : World) (X : Nat), (Below wq.heap.size wq w' ∧ w'.cell? ⟨b, 0, none⟩ = some (.slice ia xs.length ic) ∧ w'.cell? ⟨b, 1, none⟩ = some (.slice pa bs.length pc) ∧ w'.cell? ⟨w.heap.size, 0, none⟩ = some (.int .i64 k) ∧ w'.cell? ⟨w.heap.size, 1, none⟩ = some (.string v)) → CellsF w' X [.int .i64 k, .string v] → Calls Try.prog 38 #[.slice ia xs.length ic, .int .i64 i, .int .i64 (IntKind.i64.wrap ((i : Int) + 1)), .slice (some ⟨X, 0, none⟩) 1 1] w' fun e w'' => ∃ a5 c5, e = .returned (.slice a5 (xs.length) c5) ∧ (Below wq.heap.size wq w'' ∧ w''.cell? ⟨b, 0, none⟩ = some (.slice ia xs.length ic) ∧ w''.cell? ⟨b, 1, none⟩ = some (.slice pa bs.length pc) ∧ w''.cell? ⟨w.heap.size, 0, none⟩ = some (.int .i64 k) ∧ w''.cell? ⟨w.heap.size, 1, none⟩ = some (.string v)) ∧ Hid (Sl itv 2 w'' (.slice a5 (xs.length) c5) X5) ∧ Hid (Below w'.heap.size w' w'')) := fun w' X h hc => by
    have h1 := HUV.out.2.2.1.next itv_ne (Below.next HBQ.out h.1)
    rw [show IntKind.i64.wrap ((i : Int) + 1) = ((i + 1 : Nat) : Int) by rw [IntKind.wrap_i64]; omega]
    have h2 : Sl itv 2 w' (.slice (some ⟨X, 0, none⟩) 1 1) [((k, v) : Itm)] := ⟨_, 1, rfl, rw_lit itv_len hc, Nat.le_refl _, fun e => by cases e⟩
    have := swapped2_is w' _ xs h1 i (i + 1) (by omega) (by omega) _ _ h2 (by omega) (by simp) X5 HX5.out
    refine this.mono fun e w'' ⟨v, r1, r2⟩ => ?_
    have r3 := Fresh.sl itv_len r2
    obtain ⟨a5, c5, r4⟩ := slices_shape r3
    rw [HL5.out] at r4
    subst r4
    exact ⟨a5, c5, r1, HSN.out _ _ h r2.bel, r3, r2.bel⟩
  clear HQ HCQ
  go_wp2_with fail
  go_region_held (fun (w' : World) => (Below wq.heap.size wq w' ∧ w'.cell? ⟨b, 0, none⟩ = some (.slice ia xs.length ic) ∧ w'.cell? ⟨b, 1, none⟩ = some (.slice pa bs.length pc) ∧ w'.cell? ⟨w.heap.size, 0, none⟩ = some (.int .i64 k) ∧ w'.cell? ⟨w.heap.size, 1, none⟩ = some (.string v))) (first | (with_reducible assumption) | (with_reducible exact HSD.out _ (by with_reducible assumption)) | (with_reducible exact HSA.out _ _ (by with_reducible assumption)) | (with_reducible exact HSAD.out _ _ (by with_reducible assumption)))
    (first | ((with_reducible refine Calls.mono (HSWI.out _ _ (by with_reducible assumption) (by (first | exact (CellsF.at _ _ (by simp) rfl).next (Below.refl _ _).drew | exact CellsF.at _ _ (by simp) rfl))) ?_); rintro e w5 ⟨a5, c5, rfl, hS5, HV5, HB5⟩; have HS5 : Hid (Below wq.heap.size wq w5) := hS5.1))
  all_goals go_wp2_with fail
  all_goals go_ret
  all_goals exact ⟨_, rfl, Below.next HBQ.out (Below.next HS5.out (below1 _ _)), NdAt.of (CellsF.at _ 67 (by simp) rfl) (HV5.out.next itv_ne (below1 _ _)) ((HUV.out.2.2.2.next ptv_ne HBQ.out).next ptv_ne (Below.next HS5.out (below1 _ _)))⟩
end Go.Proofs.Ytgebionlkmjfnaa
