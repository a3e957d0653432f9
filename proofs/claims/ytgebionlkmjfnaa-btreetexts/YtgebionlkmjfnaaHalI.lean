/- halved, of a node with kids. -/
import Derived.Test.YtgebionlkmjfnaaHalL
namespace Go.Proofs.Ytgebionlkmjfnaa
open Go.ChangeShapes Go.WideShapes Go.RowKit
set_option linter.unusedVariables false
set_option maxRecDepth 100000

set_option maxHeartbeats 8000000 in
theorem halved_inner (w : World) (b : Nat) (xs : List Itm) (bs : List Nat) (i kb : Nat) (ys : List Itm) (kbs : List Nat) (hkl : kbs.length = ys.length + 1) (h : NdAt itv w b xs bs) (hk : NdAt itv w kb ys kbs) (hi : bs[i]? = some kb) (hix : i ≤ xs.length) (hx : xs.length ≤ 50) (hbl : bs.length ≤ 51) (hq1 : 13 ≤ ys.length) (hq2 : ys.length ≤ 18) (mid : Nat) (hmid : ys.length / 2 = mid) (m : Itm) (hm : ys[mid]? = some m) :
    Calls Try.prog 23 #[.pointer (some ⟨b, 0, none⟩), .int .i64 i] w fun e w' => ∃ b' LB RB, e = .returned (.pointer (some ⟨b', 0, none⟩)) ∧ Below w.heap.size w w' ∧ NdAt itv w' b' (xs.take i ++ [m] ++ xs.drop i) (bs.take i ++ [LB, RB] ++ bs.drop (i + 1)) ∧ NdAt itv w' LB (ys.take mid) (kbs.take (mid + 1)) ∧ NdAt itv w' RB (ys.drop (mid + 1)) (kbs.drop (mid + 1)) := by
  obtain ⟨u, v, c0, c1, hu, hv⟩ := h
  obtain ⟨ku, kv, d0, d1, hku, hkv⟩ := hk
  have hib : i < bs.length := (List.getElem?_eq_some_iff.1 hi).1
  have hkb : bs[i] = kb := (List.getElem?_eq_some_iff.1 hi).2
  have hmy : mid < ys.length := (List.getElem?_eq_some_iff.1 hm).1
  obtain ⟨pb, po, pc, rfl, hpc, hpb, hpt⟩ := hv.ptr (fun e => by rw [e] at hib; simp at hib)
  obtain ⟨yb, yo, yc, rfl, hyc, hyb, hyt⟩ := hku.itm (fun e => by rw [e] at hmy; simp at hmy)
  obtain ⟨ia, ic, rfl⟩ := slices_shape hu
  have p0 := hpt i hib
  rw [hkb, Nat.mul_one] at p0
  have y0 := (hyt mid hmy).1
  have y1 := (hyt mid hmy).2
  rw [(List.getElem?_eq_some_iff.1 hm).2] at y0 y1
  have hmv : ((ys.length : Nat) : Int) / 2 = (mid : Int) := by omega
  have hmt : ((ys.length : Nat) : Int).tdiv 2 = (mid : Int) := by rw [Int.tdiv_eq_ediv_of_nonneg (by omega)]; exact hmv
  have hmi : (mid : Int) ≤ (yc : Int) := by omega
  have HC1 : Hid (∀ w', Below w.heap.size w w' → Calls Try.prog 40 #[.slice (some ⟨yb, yo, none⟩) mid yc] w' fun e w'' => ∃ a' c', e = .returned (.slice a' mid c') ∧ Hid (Fresh 63 2 ((ys.take mid).flatMap itv) (ys.take mid).length w' w'' (.slice a' mid c'))) := fun w' k => clone2_at _ (ys.take mid) mid (by rw [List.length_take]; omega) (by omega) w' ((hku.head mid (by omega)).next itv_ne k)
  have HC2 : Hid (∀ w', Below w.heap.size w w' → Calls Try.prog 40 #[.slice (some ⟨yb, yo + (mid + 1) * 2, none⟩) (ys.length - (mid + 1)) (yc - (mid + 1))] w' fun e w'' => ∃ a' c', e = .returned (.slice a' (ys.length - (mid + 1)) c') ∧ Hid (Fresh 63 2 ((ys.drop (mid + 1)).flatMap itv) (ys.drop (mid + 1)).length w' w'' (.slice a' (ys.length - (mid + 1)) c'))) := fun w' k => clone2_at _ (ys.drop (mid + 1)) _ (by rw [List.length_drop]) (by omega) w' ((hku.tail (mid + 1) (by omega)).next itv_ne k)
  obtain ⟨m1, m2⟩ := m
  obtain ⟨X5, hX5⟩ : ∃ X5, xs.take i ++ [((m1, m2) : Itm)] ++ xs.drop i = X5 := ⟨_, rfl⟩
  have HX5 : Hid (xs.take i ++ [((m1, m2) : Itm)] ++ xs.drop i = X5) := hX5
  have HL5 : Hid (X5.length = xs.length + 1) := by show _ = _; rw [← hX5, List.length_append, List.length_append, List.length_take, List.length_drop]; simp; omega
  rw [hX5]
  have hilt : (i : Int) < (bs.length : Int) := by omega
  have hmlt : (mid : Int) < (ys.length : Int) := by omega
  have hm1 : (mid : Int) + 1 ≤ (ys.length : Int) := by omega
  have hmc : ¬ (yc : Int) = (mid : Int) + 1 := by omega
  obtain ⟨zb, zo, zc, rfl, hzc, hzb, hzt⟩ := hkv.ptr (fun e => by rw [e] at hkl; simp at hkl)
  have HW : Hid (w.cell? ⟨b, 0, none⟩ = some (.slice ia xs.length ic) ∧ w.cell? ⟨b, 1, none⟩ = some (.slice (some ⟨pb, po, none⟩) bs.length pc) ∧ w.cell? ⟨kb, 0, none⟩ = some (.slice (some ⟨yb, yo, none⟩) ys.length yc) ∧ w.cell? ⟨yb, yo + mid * 2, none⟩ = some (.int .i64 m1) ∧ w.cell? ⟨yb, yo + mid * 2 + 1, none⟩ = some (.string m2) ∧ w.cell? ⟨kb, 1, none⟩ = some (.slice (some ⟨zb, zo, none⟩) kbs.length zc)) := ⟨c0, c1, d0, y0, y1, d1⟩
  have HUV : Hid (Sl itv 2 w (.slice ia xs.length ic) xs ∧ Sl ptv 1 w (.slice (some ⟨pb, po, none⟩) bs.length pc) bs) := ⟨hu, hv⟩
  have HLF : Hid (NdAt itv w kb ys kbs) := ⟨_, _, d0, d1, hku, hkv⟩
  have HK1 : Hid (∀ w', Below w.heap.size w w' → Calls Try.prog 41 #[.slice (some ⟨zb, zo, none⟩) (mid + 1) zc] w' fun e w'' => ∃ a' c', e = .returned (.slice a' (mid + 1) c') ∧ Hid (Fresh 23 1 ((kbs.take (mid + 1)).flatMap ptv) (kbs.take (mid + 1)).length w' w'' (.slice a' (mid + 1) c'))) := fun w' k => clone1_at _ (kbs.take (mid + 1)) _ (by rw [List.length_take]; omega) (by omega) w' ((hkv.head (mid + 1) (by omega)).next ptv_ne k)
  have HK2 : Hid (∀ w', Below w.heap.size w w' → Calls Try.prog 41 #[.slice (some ⟨zb, zo + (mid + 1), none⟩) (kbs.length - (mid + 1)) (zc - (mid + 1))] w' fun e w'' => ∃ a' c', e = .returned (.slice a' (kbs.length - (mid + 1)) c') ∧ Hid (Fresh 23 1 ((kbs.drop (mid + 1)).flatMap ptv) (kbs.drop (mid + 1)).length w' w'' (.slice a' (kbs.length - (mid + 1)) c'))) := fun w' k => clone1_at _ (kbs.drop (mid + 1)) _ (by rw [List.length_drop]) (by omega) w' (by have := hkv.tail (mid + 1) (by omega); rw [Nat.mul_one] at this; exact this.next ptv_ne k)
  have HKL : Hid (kbs.length = ys.length + 1) := hkl
  clear hkl
  clear hpt hyt hX5 hm hmid hu hv hku hkv y0 y1
  go_enter Try.func23, Try.ntmps23
  go_wp2_with fail
  refine Calls.mono (HC1.out _ (Below.refl _ _)) ?_; rintro e w1 ⟨a1, l1, rfl, HF1⟩
  have HB1 : Hid (Below w.heap.size w (w1.alloc (.cells #[.slice a1 mid l1, .slice none 0 0] 67))) := Below.next HF1.out.bel (below1 _ _)
  have d0' := (HB1.out.cell (p := ⟨kb, 0, none⟩) (World.block_lt_of_cell? w _ d0)).trans d0
  have HA1 : Hid (CellsF (w1.alloc (.cells #[.slice a1 mid l1, .slice none 0 0] 67)) w1.heap.size [.slice a1 mid l1, .slice none 0 0]) := CellsF.at _ 67 (by simp) rfl
  clear c0 c1 d1 p0 d0
  go_wp2_with fail
  refine Calls.mono (HC2.out _ HB1.out) ?_; rintro e w2 ⟨a2, l2, rfl, HF2⟩
  have HB2 : Hid (Below w.heap.size w (w2.alloc (.cells #[.slice a2 (ys.length - (mid + 1)) l2, .slice none 0 0] 67))) := Below.next (Below.next HB1.out HF2.out.bel) (below1 _ _)
  have HA2 : Hid (CellsF (w2.alloc (.cells #[.slice a2 (ys.length - (mid + 1)) l2, .slice none 0 0] 67)) w2.heap.size [.slice a2 (ys.length - (mid + 1)) l2, .slice none 0 0] ∧ CellsF (w2.alloc (.cells #[.slice a2 (ys.length - (mid + 1)) l2, .slice none 0 0] 67)) w1.heap.size [.slice a1 mid l1, .slice none 0 0]) := ⟨CellsF.at _ 67 (by simp) rfl, (HA1.out.next HF2.out.bel).next (below1 _ _)⟩
  have HLE : Hid (w1.heap.size < w2.heap.size) := (HA1.out.next HF2.out.bel).lt
  have HLFC : Hid (∀ w', Below w.heap.size w w' → Calls Try.prog 26 #[.pointer (some ⟨kb, 0, none⟩)] w' fun e w'' => e = .returned (.bool false) ∧ w'' = w') := fun w' k => by
    have := leaf_is kb ys _ w' (HLF.out.next itv_ne k)
    rw [decide_eq_false (fun e => by have hkl := HKL.out; rw [e] at hkl; simp at hkl)] at this
    exact this
  clear d0' HC1 HC2
  go_wp2_with fail
  refine Calls.mono (HLFC.out _ HB2.out) ?_; rintro e w3 ⟨rfl, rfl⟩
  clear HLFC
  have hzi : (mid : Int) + 1 ≤ (zc : Int) := by have := HKL.out; omega
  have hzk : (mid : Int) + 1 ≤ (kbs.length : Int) := by have := HKL.out; omega
  have hzn : ¬ (zc : Int) = (mid : Int) + 1 := by have := HKL.out; omega
  have e0 := (HB2.out.cell (p := ⟨kb, 1, none⟩) (World.block_lt_of_cell? w _ HW.out.2.2.2.2.2)).trans HW.out.2.2.2.2.2
  go_wp2_with fail
  refine Calls.mono (HK1.out _ HB2.out) ?_; rintro e w3 ⟨a3, l3, rfl, HF3⟩
  have HB3 : Hid (Below w.heap.size w w3) := Below.next HB2.out HF3.out.bel
  have q1 := HA2.out.2.next HF3.out.bel
  have f1 := q1.cs 1 _ rfl
  have f2 := q1.fz 1
  have HQ1 : Hid (CellsF w3 w1.heap.size [.slice a1 mid l1, .slice none 0 0] ∧ CellsF w3 w2.heap.size [.slice a2 (ys.length - (mid + 1)) l2, .slice none 0 0]) := ⟨q1, HA2.out.1.next HF3.out.bel⟩
  clear q1 e0
  have HB4 : Hid (Below w.heap.size w (w3.setCell ⟨w1.heap.size, 1, none⟩ (.slice a3 (mid + 1) l3))) := below_set HB3.out _ _ _ HF1.out.bel.size
  have HA3 : Hid (CellsF (w3.setCell ⟨w1.heap.size, 1, none⟩ (.slice a3 (mid + 1) l3)) w1.heap.size [.slice a1 mid l1, .slice a3 (mid + 1) l3] ∧ CellsF (w3.setCell ⟨w1.heap.size, 1, none⟩ (.slice a3 (mid + 1) l3)) w2.heap.size [.slice a2 (ys.length - (mid + 1)) l2, .slice none 0 0]) := ⟨HQ1.out.1.set 1 _ (by simp), HQ1.out.2.far (heap_set _ _ _ (by have := HLE.out; omega))⟩
  have e0 := (HB4.out.cell (p := ⟨kb, 1, none⟩) (World.block_lt_of_cell? w _ HW.out.2.2.2.2.2)).trans HW.out.2.2.2.2.2
  go_wp2_with fail
  refine Calls.mono (HK2.out _ HB4.out) ?_; rintro e w4 ⟨a4, l4, rfl, HF4⟩
  have HB5 : Hid (Below w.heap.size w w4) := Below.next HB4.out HF4.out.bel
  have q1 := HA3.out.2.next HF4.out.bel
  clear f1 f2 e0
  have f1 := q1.cs 1 _ rfl
  have f2 := q1.fz 1
  obtain ⟨wq, hwq⟩ : ∃ wq, (w4.setCell ⟨w2.heap.size, 1, none⟩ (.slice a4 (kbs.length - (mid + 1)) l4)) = wq := ⟨_, rfl⟩
  have HQ0 : Hid (Below w.heap.size w wq ∧ NdAt itv wq w1.heap.size (ys.take mid) (kbs.take (mid + 1)) ∧ NdAt itv wq w2.heap.size (ys.drop (mid + 1)) (kbs.drop (mid + 1))) := by
    show _ ∧ _
    have hle := HLE.out
    have s1 := HF1.out.bel.size
    have s2 := HF2.out.bel.size
    have s3 := HF3.out.bel.size
    have s4 := HF4.out.bel.size
    rw [size_alloc] at s2 s3
    rw [size_set] at s4
    rw [← hwq]
    refine ⟨below_set HB5.out _ _ _ (by omega), NdAt.of ((HA3.out.1.next HF4.out.bel).far (heap_set _ _ _ (by omega))) ?_ ?_, NdAt.of (q1.set 1 _ (by simp)) ?_ ?_⟩
    · refine (Fresh.sl itv_len HF1.out).next itv_ne (below_set (Below.less (below_set (Below.next (Below.next (below1 _ _) (Below.next HF2.out.bel (below1 _ _))) HF3.out.bel) _ _ _ (Nat.le_refl _)) HF4.out.bel (by rw [size_set]; omega)) _ _ _ (by omega))
    · refine Sl.own ptv_len HF3.out.own (fun g hg => ?_)
      have g1 := HF3.out.new g hg
      rw [size_alloc] at g1
      rw [heap_set _ _ _ (by omega), HF4.out.bel.block g (by rw [size_set]; omega), heap_set _ _ _ (by omega)]
    · refine Sl.own itv_len HF2.out.own (fun g hg => ?_)
      have g1 := HF2.out.new g hg
      rw [size_alloc] at g1
      rw [heap_set _ _ _ (by omega), HF4.out.bel.block g (by rw [size_set]; omega), heap_set _ _ _ (by omega), HF3.out.bel.block g (by rw [size_alloc]; omega), Below.heap_alloc _ _ _ (by omega)]
    · refine Sl.own ptv_len HF4.out.own (fun g hg => ?_)
      have g1 := HF4.out.new g hg
      rw [size_set] at g1
      rw [heap_set _ _ _ (by omega)]
  have HWQ : Hid _ := hwq
  clear q1 hwq
  go_upto_region 8 with fail
  rw [HWQ.out]
  obtain ⟨LB, hLB⟩ : ∃ LB, w1.heap.size = LB := ⟨_, rfl⟩
  obtain ⟨RB, hRB⟩ : ∃ RB, w2.heap.size = RB := ⟨_, rfl⟩
  rw [hLB, hRB] at HQ0
  rw [hLB, hRB]
  clear HF1 HF2 HF3 HF4 HA1 HA2 HA3 HB1 HB2 HB3 HB4 HB5 HQ1 HLE HWQ hLB hRB f1 f2 HK1 HK2
  obtain ⟨X6, hX6⟩ : ∃ X6, bs.take i ++ [LB, RB] ++ bs.drop (i + 1) = X6 := ⟨_, rfl⟩
  have HX6 : Hid (bs.take i ++ [LB, RB] ++ bs.drop (i + 1) = X6) := hX6
  have HL6 : Hid (X6.length = bs.length + 1) := by show _ = _; rw [← hX6, List.length_append, List.length_append, List.length_take, List.length_drop]; simp; omega
  have HQ : Hid (wq.cell? ⟨b, 0, none⟩ = some (.slice ia xs.length ic) ∧ wq.cell? ⟨b, 1, none⟩ = some (.slice (some ⟨pb, po, none⟩) bs.length pc) ∧ wq.cell? ⟨kb, 0, none⟩ = some (.slice (some ⟨yb, yo, none⟩) ys.length yc) ∧ wq.cell? ⟨yb, yo + mid * 2, none⟩ = some (.int .i64 m1) ∧ wq.cell? ⟨yb, yo + mid * 2 + 1, none⟩ = some (.string m2)) := by
    have hb := HQ0.out.1
    have hw := HW.out
    exact ⟨(hb.cell (p := ⟨b, 0, none⟩) (World.block_lt_of_cell? w _ hw.1)).trans hw.1, (hb.cell (p := ⟨b, 1, none⟩) (World.block_lt_of_cell? w _ hw.2.1)).trans hw.2.1, (hb.cell (p := ⟨kb, 0, none⟩) (World.block_lt_of_cell? w _ hw.2.2.1)).trans hw.2.2.1, (hb.cell (p := ⟨yb, yo + mid * 2, none⟩) (World.block_lt_of_cell? w _ hw.2.2.2.1)).trans hw.2.2.2.1, (hb.cell (p := ⟨yb, yo + mid * 2 + 1, none⟩) (World.block_lt_of_cell? w _ hw.2.2.2.2.1)).trans hw.2.2.2.2.1⟩
  have HX : Hid (Sl itv 2 w (.slice ia xs.length ic) xs ∧ Sl ptv 1 w (.slice (some ⟨pb, po, none⟩) bs.length pc) bs ∧ i + 1 ≤ bs.length ∧ Below w.heap.size w wq ∧ i ≤ xs.length ∧ xs.length ≤ 100 ∧ bs.length ≤ 100 ∧ X5.length = xs.length + 1 ∧ X6.length = bs.length + 1) := ⟨HUV.out.1, HUV.out.2, hib, HQ0.out.1, hix, by omega, by omega, HL5.out, HL6.out⟩
  clear hX6 HW HUV HLF
  have HS : Hid (∀ w' : World, Below wq.heap.size wq w' → (Below wq.heap.size wq w' ∧ w'.cell? ⟨b, 0, none⟩ = some (.slice ia xs.length ic) ∧ w'.cell? ⟨b, 1, none⟩ = some (.slice (some ⟨pb, po, none⟩) bs.length pc) ∧ w'.cell? ⟨kb, 0, none⟩ = some (.slice (some ⟨yb, yo, none⟩) ys.length yc) ∧ w'.cell? ⟨yb, yo + mid * 2, none⟩ = some (.int .i64 m1) ∧ w'.cell? ⟨yb, yo + mid * 2 + 1, none⟩ = some (.string m2))) := fun w' kk => ⟨kk, (kk.cell (p := ⟨b, 0, none⟩) (World.block_lt_of_cell? wq _ HQ.out.1)).trans HQ.out.1, (kk.cell (p := ⟨b, 1, none⟩) (World.block_lt_of_cell? wq _ HQ.out.2.1)).trans HQ.out.2.1, (kk.cell (p := ⟨kb, 0, none⟩) (World.block_lt_of_cell? wq _ HQ.out.2.2.1)).trans HQ.out.2.2.1, (kk.cell (p := ⟨yb, yo + mid * 2, none⟩) (World.block_lt_of_cell? wq _ HQ.out.2.2.2.1)).trans HQ.out.2.2.2.1, (kk.cell (p := ⟨yb, yo + mid * 2 + 1, none⟩) (World.block_lt_of_cell? wq _ HQ.out.2.2.2.2)).trans HQ.out.2.2.2.2⟩
  have HSN : Hid (∀ w' w'' : World, (Below wq.heap.size wq w' ∧ w'.cell? ⟨b, 0, none⟩ = some (.slice ia xs.length ic) ∧ w'.cell? ⟨b, 1, none⟩ = some (.slice (some ⟨pb, po, none⟩) bs.length pc) ∧ w'.cell? ⟨kb, 0, none⟩ = some (.slice (some ⟨yb, yo, none⟩) ys.length yc) ∧ w'.cell? ⟨yb, yo + mid * 2, none⟩ = some (.int .i64 m1) ∧ w'.cell? ⟨yb, yo + mid * 2 + 1, none⟩ = some (.string m2)) → Below w'.heap.size w' w'' → (Below wq.heap.size wq w'' ∧ w''.cell? ⟨b, 0, none⟩ = some (.slice ia xs.length ic) ∧ w''.cell? ⟨b, 1, none⟩ = some (.slice (some ⟨pb, po, none⟩) bs.length pc) ∧ w''.cell? ⟨kb, 0, none⟩ = some (.slice (some ⟨yb, yo, none⟩) ys.length yc) ∧ w''.cell? ⟨yb, yo + mid * 2, none⟩ = some (.int .i64 m1) ∧ w''.cell? ⟨yb, yo + mid * 2 + 1, none⟩ = some (.string m2))) := fun w' w'' h kk => HS.out w'' (Below.next h.1 kk)
  have HSD : Hid (∀ w' : World, (Below wq.heap.size wq w' ∧ w'.cell? ⟨b, 0, none⟩ = some (.slice ia xs.length ic) ∧ w'.cell? ⟨b, 1, none⟩ = some (.slice (some ⟨pb, po, none⟩) bs.length pc) ∧ w'.cell? ⟨kb, 0, none⟩ = some (.slice (some ⟨yb, yo, none⟩) ys.length yc) ∧ w'.cell? ⟨yb, yo + mid * 2, none⟩ = some (.int .i64 m1) ∧ w'.cell? ⟨yb, yo + mid * 2 + 1, none⟩ = some (.string m2)) → (Below wq.heap.size wq w'.drew ∧ w'.drew.cell? ⟨b, 0, none⟩ = some (.slice ia xs.length ic) ∧ w'.drew.cell? ⟨b, 1, none⟩ = some (.slice (some ⟨pb, po, none⟩) bs.length pc) ∧ w'.drew.cell? ⟨kb, 0, none⟩ = some (.slice (some ⟨yb, yo, none⟩) ys.length yc) ∧ w'.drew.cell? ⟨yb, yo + mid * 2, none⟩ = some (.int .i64 m1) ∧ w'.drew.cell? ⟨yb, yo + mid * 2 + 1, none⟩ = some (.string m2))) := fun w' h => HSN.out w' _ h (Below.refl _ _).drew
  have HSA : Hid (∀ (w' : World) (z : Obj), (Below wq.heap.size wq w' ∧ w'.cell? ⟨b, 0, none⟩ = some (.slice ia xs.length ic) ∧ w'.cell? ⟨b, 1, none⟩ = some (.slice (some ⟨pb, po, none⟩) bs.length pc) ∧ w'.cell? ⟨kb, 0, none⟩ = some (.slice (some ⟨yb, yo, none⟩) ys.length yc) ∧ w'.cell? ⟨yb, yo + mid * 2, none⟩ = some (.int .i64 m1) ∧ w'.cell? ⟨yb, yo + mid * 2 + 1, none⟩ = some (.string m2)) → (Below wq.heap.size wq (w'.alloc z) ∧ (w'.alloc z).cell? ⟨b, 0, none⟩ = some (.slice ia xs.length ic) ∧ (w'.alloc z).cell? ⟨b, 1, none⟩ = some (.slice (some ⟨pb, po, none⟩) bs.length pc) ∧ (w'.alloc z).cell? ⟨kb, 0, none⟩ = some (.slice (some ⟨yb, yo, none⟩) ys.length yc) ∧ (w'.alloc z).cell? ⟨yb, yo + mid * 2, none⟩ = some (.int .i64 m1) ∧ (w'.alloc z).cell? ⟨yb, yo + mid * 2 + 1, none⟩ = some (.string m2))) := fun w' z h => HSN.out w' _ h (below1 _ _)
  have HSAD : Hid (∀ (w' : World) (z : Obj), (Below wq.heap.size wq w'.drew ∧ w'.drew.cell? ⟨b, 0, none⟩ = some (.slice ia xs.length ic) ∧ w'.drew.cell? ⟨b, 1, none⟩ = some (.slice (some ⟨pb, po, none⟩) bs.length pc) ∧ w'.drew.cell? ⟨kb, 0, none⟩ = some (.slice (some ⟨yb, yo, none⟩) ys.length yc) ∧ w'.drew.cell? ⟨yb, yo + mid * 2, none⟩ = some (.int .i64 m1) ∧ w'.drew.cell? ⟨yb, yo + mid * 2 + 1, none⟩ = some (.string m2)) → (Below wq.heap.size wq (w'.alloc z).drew ∧ (w'.alloc z).drew.cell? ⟨b, 0, none⟩ = some (.slice ia xs.length ic) ∧ (w'.alloc z).drew.cell? ⟨b, 1, none⟩ = some (.slice (some ⟨pb, po, none⟩) bs.length pc) ∧ (w'.alloc z).drew.cell? ⟨kb, 0, none⟩ = some (.slice (some ⟨yb, yo, none⟩) ys.length yc) ∧ (w'.alloc z).drew.cell? ⟨yb, yo + mid * 2, none⟩ = some (.int .i64 m1) ∧ (w'.alloc z).drew.cell? ⟨yb, yo + mid * 2 + 1, none⟩ = some (.string m2))) := fun w' z h => HS.out _ (Below.next (Below.of_drew' h.1) (below1 _ _).drew)
  have HSWI : Hid (∀ (w' : World) (X : Nat), (Below wq.heap.size wq w' ∧ w'.cell? ⟨b, 0, none⟩ = some (.slice ia xs.length ic) ∧ w'.cell? ⟨b, 1, none⟩ = some (.slice (some ⟨pb, po, none⟩) bs.length pc) ∧ w'.cell? ⟨kb, 0, none⟩ = some (.slice (some ⟨yb, yo, none⟩) ys.length yc) ∧ w'.cell? ⟨yb, yo + mid * 2, none⟩ = some (.int .i64 m1) ∧ w'.cell? ⟨yb, yo + mid * 2 + 1, none⟩ = some (.string m2)) → CellsF w' X [.int .i64 m1, .string m2] → Calls Try.prog 38 #[.slice ia xs.length ic, .int .i64 i, .int .i64 i, .slice (some ⟨X, 0, none⟩) 1 1] w' fun e w'' => ∃ a5 c5, e = .returned (.slice a5 (xs.length + 1) c5) ∧ (Below wq.heap.size wq w'' ∧ w''.cell? ⟨b, 0, none⟩ = some (.slice ia xs.length ic) ∧ w''.cell? ⟨b, 1, none⟩ = some (.slice (some ⟨pb, po, none⟩) bs.length pc) ∧ w''.cell? ⟨kb, 0, none⟩ = some (.slice (some ⟨yb, yo, none⟩) ys.length yc) ∧ w''.cell? ⟨yb, yo + mid * 2, none⟩ = some (.int .i64 m1) ∧ w''.cell? ⟨yb, yo + mid * 2 + 1, none⟩ = some (.string m2)) ∧ Hid (Sl itv 2 w'' (.slice a5 (xs.length + 1) c5) X5) ∧ Hid (Below w'.heap.size w' w'')) := fun w' X h hc => by
    have h1 := HX.out.1.next itv_ne (Below.next HX.out.2.2.2.1 h.1)
    have h2 : Sl itv 2 w' (.slice (some ⟨X, 0, none⟩) 1 1) [((m1, m2) : Itm)] := ⟨_, 1, rfl, rw_lit itv_len hc, Nat.le_refl _, fun e => by cases e⟩
    have := swapped2_is w' _ xs h1 i i (Nat.le_refl _) HX.out.2.2.2.2.1 _ _ h2 HX.out.2.2.2.2.2.1 (by simp) X5 HX5.out
    refine this.mono fun e w'' ⟨v, r1, r2⟩ => ?_
    have r3 := Fresh.sl itv_len r2
    obtain ⟨a5, c5, r4⟩ := slices_shape r3
    rw [HX.out.2.2.2.2.2.2.2.1] at r4
    subst r4
    exact ⟨a5, c5, r1, HSN.out _ _ h r2.bel, r3, r2.bel⟩
  have HSWP : Hid (∀ (w' : World) (Y : Nat), (Below wq.heap.size wq w' ∧ w'.cell? ⟨b, 0, none⟩ = some (.slice ia xs.length ic) ∧ w'.cell? ⟨b, 1, none⟩ = some (.slice (some ⟨pb, po, none⟩) bs.length pc) ∧ w'.cell? ⟨kb, 0, none⟩ = some (.slice (some ⟨yb, yo, none⟩) ys.length yc) ∧ w'.cell? ⟨yb, yo + mid * 2, none⟩ = some (.int .i64 m1) ∧ w'.cell? ⟨yb, yo + mid * 2 + 1, none⟩ = some (.string m2)) → CellsF w' Y [.pointer (some ⟨LB, 0, none⟩), .pointer (some ⟨RB, 0, none⟩)] → Calls Try.prog 39 #[.slice (some ⟨pb, po, none⟩) bs.length pc, .int .i64 i, .int .i64 (IntKind.i64.wrap ((i : Int) + 1)), .slice (some ⟨Y, 0, none⟩) 2 2] w' fun e w'' => ∃ a6 c6, e = .returned (.slice a6 (bs.length + 1) c6) ∧ (Below wq.heap.size wq w'' ∧ w''.cell? ⟨b, 0, none⟩ = some (.slice ia xs.length ic) ∧ w''.cell? ⟨b, 1, none⟩ = some (.slice (some ⟨pb, po, none⟩) bs.length pc) ∧ w''.cell? ⟨kb, 0, none⟩ = some (.slice (some ⟨yb, yo, none⟩) ys.length yc) ∧ w''.cell? ⟨yb, yo + mid * 2, none⟩ = some (.int .i64 m1) ∧ w''.cell? ⟨yb, yo + mid * 2 + 1, none⟩ = some (.string m2)) ∧ Hid (Sl ptv 1 w'' (.slice a6 (bs.length + 1) c6) X6) ∧ Hid (Below w'.heap.size w' w'')) := fun w' Y h hc => by
    have h1 := HX.out.2.1.next ptv_ne (Below.next HX.out.2.2.2.1 h.1)
    rw [show IntKind.i64.wrap ((i : Int) + 1) = ((i + 1 : Nat) : Int) by rw [IntKind.wrap_i64]; have := HX.out.2.2.1; have := HX.out.2.2.2.2.2.2.1; omega]
    have h2 : Sl ptv 1 w' (.slice (some ⟨Y, 0, none⟩) 2 2) [LB, RB] := ⟨_, 2, rfl, rw_lit ptv_len hc, Nat.le_refl _, fun e => by cases e⟩
    have := swapped1_is w' _ bs h1 i (i + 1) (Nat.le_succ _) HX.out.2.2.1 _ _ h2 HX.out.2.2.2.2.2.2.1 (by simp) X6 HX6.out
    refine this.mono fun e w'' ⟨v, r1, r2⟩ => ?_
    have r3 := Fresh.sl ptv_len r2
    obtain ⟨a6, c6, r4⟩ := slices_shape r3
    rw [HX.out.2.2.2.2.2.2.2.2] at r4
    subst r4
    exact ⟨a6, c6, r1, HSN.out _ _ h r2.bel, r3, r2.bel⟩
  have hS0 := HS.out wq (Below.refl _ _)
  clear HQ HX
  go_wp2_with fail
  go_region_held (fun (w' : World) => (Below wq.heap.size wq w' ∧ w'.cell? ⟨b, 0, none⟩ = some (.slice ia xs.length ic) ∧ w'.cell? ⟨b, 1, none⟩ = some (.slice (some ⟨pb, po, none⟩) bs.length pc) ∧ w'.cell? ⟨kb, 0, none⟩ = some (.slice (some ⟨yb, yo, none⟩) ys.length yc) ∧ w'.cell? ⟨yb, yo + mid * 2, none⟩ = some (.int .i64 m1) ∧ w'.cell? ⟨yb, yo + mid * 2 + 1, none⟩ = some (.string m2))) (first | (with_reducible assumption) | (with_reducible exact HSD.out _ (by with_reducible assumption)) | (with_reducible exact HSA.out _ _ (by with_reducible assumption)) | (with_reducible exact HSAD.out _ _ (by with_reducible assumption)))
    (first | ((with_reducible refine Calls.mono (HSWI.out _ _ (by with_reducible assumption) (by (first | exact (CellsF.at _ _ (by simp) rfl).next (Below.refl _ _).drew | exact ((CellsF.at _ _ (by simp) rfl).next (below1 _ _)).next (Below.refl _ _).drew | exact (CellsF.at _ _ (by simp) (by rw [size_alloc])).next (Below.refl _ _).drew | exact CellsF.at _ _ (by simp) rfl | exact ((CellsF.at _ _ (by simp) rfl).next (Below.refl _ _).drew).next HB5.out | exact (((CellsF.at _ _ (by simp) rfl).next (below1 _ _)).next (Below.refl _ _).drew).next HB5.out | exact ((CellsF.at _ _ (by simp) (by rw [size_alloc])).next (Below.refl _ _).drew).next HB5.out))) ?_); rintro e w5 ⟨a5, c5, rfl, hS5, HV5, HB5⟩) | ((with_reducible refine Calls.mono (HSWP.out _ _ (by with_reducible assumption) (by (first | exact (CellsF.at _ _ (by simp) rfl).next (Below.refl _ _).drew | exact ((CellsF.at _ _ (by simp) rfl).next (below1 _ _)).next (Below.refl _ _).drew | exact (CellsF.at _ _ (by simp) (by rw [size_alloc])).next (Below.refl _ _).drew | exact CellsF.at _ _ (by simp) rfl | exact ((CellsF.at _ _ (by simp) rfl).next (Below.refl _ _).drew).next HB5.out | exact (((CellsF.at _ _ (by simp) rfl).next (below1 _ _)).next (Below.refl _ _).drew).next HB5.out | exact ((CellsF.at _ _ (by simp) (by rw [size_alloc])).next (Below.refl _ _).drew).next HB5.out))) ?_); rintro e w6 ⟨a6, c6, rfl, hS6, HV6, HB6⟩; have HS6 : Hid (Below wq.heap.size wq w6) := hS6.1))
  all_goals go_wp2_with fail
  all_goals go_ret
  all_goals refine ⟨_, LB, RB, rfl, ?_⟩
  all_goals rw [HX6.out]
  all_goals first | exact ⟨Below.next HQ0.out.1 (Below.next HS6.out (below1 _ _)), NdAt.of (CellsF.at _ 67 (by simp) rfl) ((HV5.out.next itv_ne HB6.out).next itv_ne (below1 _ _)) (HV6.out.next ptv_ne (below1 _ _)), HQ0.out.2.1.next itv_ne (Below.next HS6.out (below1 _ _)), HQ0.out.2.2.next itv_ne (Below.next HS6.out (below1 _ _))⟩ | exact ⟨Below.next HQ0.out.1 (Below.next HS6.out (below1 _ _)), NdAt.of (CellsF.at _ 67 (by simp) rfl) ((HV5.out.next itv_ne (Below.next (below1 _ _) HB6.out)).next itv_ne (below1 _ _)) (HV6.out.next ptv_ne (below1 _ _)), HQ0.out.2.1.next itv_ne (Below.next HS6.out (below1 _ _)), HQ0.out.2.2.next itv_ne (Below.next HS6.out (below1 _ _))⟩
end Go.Proofs.Ytgebionlkmjfnaa
