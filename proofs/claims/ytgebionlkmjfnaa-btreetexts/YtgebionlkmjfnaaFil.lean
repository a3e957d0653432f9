/- filled. -/
import Derived.Test.YtgebionlkmjfnaaLst
namespace Go.Proofs.Ytgebionlkmjfnaa
open Go.ChangeShapes Go.WideShapes Go.RowKit
set_option linter.unusedVariables false
set_option maxRecDepth 100000

set_option maxHeartbeats 8000000 in
theorem filled_at (w : World) (b : Nat) (xs : List Itm) (bs : List Nat) (i j lb rb : Nat) (lx rx : List Itm) (lbs rbs : List Nat) (m : Itm) (h : NdAt itv w b xs bs) (hj : (i = 0 ∧ j = 0) ∨ i = j + 1) (hlb : bs[j]? = some lb) (hrb : bs[j + 1]? = some rb) (hm : xs[j]? = some m) (hl : NdAt itv w lb lx lbs) (hr : NdAt itv w rb rx rbs) (hx : xs.length ≤ 50) (hbl : bs.length ≤ 51) (hlx : lx.length ≤ 20) (hrx : rx.length ≤ 20) (hlk : lbs.length ≤ 21) (hrk : rbs.length ≤ 21)
    (R : World → Nat → Prop)
    (hhal : ∀ w' b3 B, Below w.heap.size w w' → NdAt itv w' b3 (xs.take j ++ [] ++ xs.drop (j + 1)) (bs.take j ++ [B] ++ bs.drop (j + 2)) → NdAt itv w' B (lx ++ [m] ++ rx) (lbs ++ rbs) → 12 < (lx ++ [m] ++ rx).length → Calls Try.prog 23 #[.pointer (some ⟨b3, 0, none⟩), .int .i64 j] w' fun e w'' => ∃ b', e = .returned (.pointer (some ⟨b', 0, none⟩)) ∧ Below w'.heap.size w' w'' ∧ R w'' b')
    (hno : ∀ w' b3 B, Below w.heap.size w w' → NdAt itv w' b3 (xs.take j ++ [] ++ xs.drop (j + 1)) (bs.take j ++ [B] ++ bs.drop (j + 2)) → NdAt itv w' B (lx ++ [m] ++ rx) (lbs ++ rbs) → (lx ++ [m] ++ rx).length ≤ 12 → R w' b3) :
    Calls Try.prog 43 #[.pointer (some ⟨b, 0, none⟩), .int .i64 i] w fun e w' => ∃ b', e = .returned (.pointer (some ⟨b', 0, none⟩)) ∧ Below w.heap.size w w' ∧ R w' b' := by
  have hj1 : j + 1 < bs.length := (List.getElem?_eq_some_iff.1 hrb).1
  have hj0 : j < bs.length := by omega
  have hjx : j < xs.length := (List.getElem?_eq_some_iff.1 hm).1
  obtain ⟨u, pv, c0, c1, hu, hv⟩ := h
  obtain ⟨lu, lv, l0, l1, hlu, hlv⟩ := hl
  obtain ⟨ru, rv, r0, r1, hru, hrv⟩ := hr
  obtain ⟨ib, io, ic, rfl, hic, hib, hit⟩ := hu.itm (fun e => by rw [e] at hjx; simp at hjx)
  obtain ⟨pb, po, pc, rfl, hpc, hpb, hpt⟩ := hv.ptr (fun e => by rw [e] at hj0; simp at hj0)
  obtain ⟨la, lc, rfl⟩ := slices_shape hlu
  obtain ⟨ma, mc, rfl⟩ := slices_shape hlv
  obtain ⟨ra, rc, rfl⟩ := slices_shape hru
  obtain ⟨na, nc, rfl⟩ := slices_shape hrv
  have p0 := hpt j hj0
  have p1 := hpt (j + 1) hj1
  rw [(List.getElem?_eq_some_iff.1 hlb).2, Nat.mul_one] at p0
  rw [(List.getElem?_eq_some_iff.1 hrb).2, Nat.mul_one] at p1
  have hmid : Sl itv 2 w (.slice (some ⟨ib, io + j * 2, none⟩) 1 (ic - j)) [m] := by
    have h2 : Rw itv 2 w (some ⟨ib, io + j * 2, none⟩) (xs.drop j) := by
      obtain ⟨a', c', e', h2, _⟩ := hu
      cases e'
      exact h2.drop j
    have h5 := h2.take 1
    rw [List.drop_eq_getElem_cons hjx, List.take_succ_cons, List.take_zero, (List.getElem?_eq_some_iff.1 hm).2] at h5
    exact ⟨_, _, rfl, h5, by show 1 ≤ ic - j; omega, fun e => by cases e⟩
  have HUV : Hid (w.cell? ⟨b, 0, none⟩ = some (.slice (some ⟨ib, io, none⟩) xs.length ic) ∧ w.cell? ⟨b, 1, none⟩ = some (.slice (some ⟨pb, po, none⟩) bs.length pc) ∧ w.cell? ⟨lb, 0, none⟩ = some (.slice la lx.length lc) ∧ w.cell? ⟨lb, 1, none⟩ = some (.slice ma lbs.length mc) ∧ w.cell? ⟨rb, 0, none⟩ = some (.slice ra rx.length rc) ∧ w.cell? ⟨rb, 1, none⟩ = some (.slice na rbs.length nc)) := ⟨c0, c1, l0, l1, r0, r1⟩
  have HSL : Hid (Sl itv 2 w (.slice (some ⟨ib, io, none⟩) xs.length ic) xs ∧ Sl ptv 1 w (.slice (some ⟨pb, po, none⟩) bs.length pc) bs ∧ Sl itv 2 w (.slice la lx.length lc) lx ∧ Sl ptv 1 w (.slice ma lbs.length mc) lbs ∧ Sl itv 2 w (.slice ra rx.length rc) rx ∧ Sl ptv 1 w (.slice na rbs.length nc) rbs ∧ Sl itv 2 w (.slice (some ⟨ib, io + j * 2, none⟩) 1 (ic - j)) [m]) := ⟨hu, hv, hlu, hlv, hru, hrv, hmid⟩
  have HHA : Hid _ := hhal
  have HNO : Hid _ := hno
  obtain ⟨X3, hX3⟩ : ∃ X3, lx ++ [m] ++ rx = X3 := ⟨_, rfl⟩
  have HX3 : Hid (lx ++ [m] ++ rx = X3) := hX3
  obtain ⟨X4, hX4⟩ : ∃ X4, lbs ++ rbs = X4 := ⟨_, rfl⟩
  have HX4 : Hid (lbs ++ rbs = X4) := hX4
  obtain ⟨X5, hX5⟩ : ∃ X5, (xs.take j ++ [] ++ xs.drop (j + 1)) = X5 := ⟨_, rfl⟩
  have HX5 : Hid ((xs.take j ++ [] ++ xs.drop (j + 1)) = X5) := hX5
  have HL3 : Hid (X3.length ≤ 41) := by show _ ≤ _; rw [← hX3]; simp only [List.length_append, List.length_cons, List.length_nil]; omega
  have HL4 : Hid (X4.length ≤ 42) := by show _ ≤ _; rw [← hX4]; simp only [List.length_append]; omega
  clear hu hv hlu hlv hru hrv hmid hit hpt hhal hno hlb hrb hm hX3 hX4 hX5 l0 l1 r0 r1
  go_enter Try.func43, Try.ntmps43
  go_upto_region 1 with fail
  go_cut [1] (fun s1 wx => s1 = .int .i64 j ∧ w = wx)
  case first =>
    rcases hj with ⟨rfl, rfl⟩ | rfl
    · go_wp2_with fail
      go_meet
      exact ⟨rfl, rfl⟩
    · have wj : IntKind.i64.wrap (((j + 1 : Nat) : Int) - 1) = (j : Int) := by rw [IntKind.wrap_i64]; omega
      go_wp2_with fail
      go_meet
      exact ⟨rfl, rfl⟩
  case rest =>
    obtain ⟨rfl, rfl⟩ := hcut
    have wj1 : IntKind.i64.wrap ((j : Int) + 1) = (j : Int) + 1 := by rw [IntKind.wrap_i64]; omega
    have hj0i : (j : Int) < (bs.length : Int) := by omega
    have hj1i : (j : Int) + 1 < (bs.length : Int) := by omega
    have HQ : Hid (w.cell? ⟨b, 1, none⟩ = some (.slice (some ⟨pb, po, none⟩) bs.length pc) ∧ w.cell? ⟨pb, po + j, none⟩ = some (.pointer (some ⟨lb, 0, none⟩)) ∧ w.cell? ⟨pb, po + (j + 1), none⟩ = some (.pointer (some ⟨rb, 0, none⟩))) := ⟨c1, p0, p1⟩
    have HS : Hid (∀ w' : World, Below w.heap.size w w' → (Below w.heap.size w w' ∧ w'.cell? ⟨b, 1, none⟩ = some (.slice (some ⟨pb, po, none⟩) bs.length pc) ∧ w'.cell? ⟨pb, po + j, none⟩ = some (.pointer (some ⟨lb, 0, none⟩)) ∧ w'.cell? ⟨pb, po + (j + 1), none⟩ = some (.pointer (some ⟨rb, 0, none⟩)))) := fun w' kk => ⟨kk, (kk.cell (p := ⟨b, 1, none⟩) (World.block_lt_of_cell? w _ (HQ.out.1))).trans (HQ.out.1), (kk.cell (p := ⟨pb, po + j, none⟩) (World.block_lt_of_cell? w _ (HQ.out.2.1))).trans (HQ.out.2.1), (kk.cell (p := ⟨pb, po + (j + 1), none⟩) (World.block_lt_of_cell? w _ (HQ.out.2.2))).trans (HQ.out.2.2)⟩
    have HSN : Hid (∀ w' w'' : World, (Below w.heap.size w w' ∧ w'.cell? ⟨b, 1, none⟩ = some (.slice (some ⟨pb, po, none⟩) bs.length pc) ∧ w'.cell? ⟨pb, po + j, none⟩ = some (.pointer (some ⟨lb, 0, none⟩)) ∧ w'.cell? ⟨pb, po + (j + 1), none⟩ = some (.pointer (some ⟨rb, 0, none⟩))) → Below w'.heap.size w' w'' → (Below w.heap.size w w'' ∧ w''.cell? ⟨b, 1, none⟩ = some (.slice (some ⟨pb, po, none⟩) bs.length pc) ∧ w''.cell? ⟨pb, po + j, none⟩ = some (.pointer (some ⟨lb, 0, none⟩)) ∧ w''.cell? ⟨pb, po + (j + 1), none⟩ = some (.pointer (some ⟨rb, 0, none⟩)))) := fun w' w'' h kk => HS.out w'' (Below.next h.1 kk)
    have HSD : Hid (∀ w' : World, (Below w.heap.size w w' ∧ w'.cell? ⟨b, 1, none⟩ = some (.slice (some ⟨pb, po, none⟩) bs.length pc) ∧ w'.cell? ⟨pb, po + j, none⟩ = some (.pointer (some ⟨lb, 0, none⟩)) ∧ w'.cell? ⟨pb, po + (j + 1), none⟩ = some (.pointer (some ⟨rb, 0, none⟩))) → (Below w.heap.size w w'.drew ∧ w'.drew.cell? ⟨b, 1, none⟩ = some (.slice (some ⟨pb, po, none⟩) bs.length pc) ∧ w'.drew.cell? ⟨pb, po + j, none⟩ = some (.pointer (some ⟨lb, 0, none⟩)) ∧ w'.drew.cell? ⟨pb, po + (j + 1), none⟩ = some (.pointer (some ⟨rb, 0, none⟩)))) := fun w' h => HSN.out w' _ h (Below.refl _ _).drew
    have HSA : Hid (∀ (w' : World) (z : Obj), (Below w.heap.size w w' ∧ w'.cell? ⟨b, 1, none⟩ = some (.slice (some ⟨pb, po, none⟩) bs.length pc) ∧ w'.cell? ⟨pb, po + j, none⟩ = some (.pointer (some ⟨lb, 0, none⟩)) ∧ w'.cell? ⟨pb, po + (j + 1), none⟩ = some (.pointer (some ⟨rb, 0, none⟩))) → (Below w.heap.size w (w'.alloc z) ∧ (w'.alloc z).cell? ⟨b, 1, none⟩ = some (.slice (some ⟨pb, po, none⟩) bs.length pc) ∧ (w'.alloc z).cell? ⟨pb, po + j, none⟩ = some (.pointer (some ⟨lb, 0, none⟩)) ∧ (w'.alloc z).cell? ⟨pb, po + (j + 1), none⟩ = some (.pointer (some ⟨rb, 0, none⟩)))) := fun w' z h => HSN.out w' _ h (below1 _ _)
    have HSAD : Hid (∀ (w' : World) (z : Obj), (Below w.heap.size w w'.drew ∧ w'.drew.cell? ⟨b, 1, none⟩ = some (.slice (some ⟨pb, po, none⟩) bs.length pc) ∧ w'.drew.cell? ⟨pb, po + j, none⟩ = some (.pointer (some ⟨lb, 0, none⟩)) ∧ w'.drew.cell? ⟨pb, po + (j + 1), none⟩ = some (.pointer (some ⟨rb, 0, none⟩))) → (Below w.heap.size w (w'.alloc z).drew ∧ (w'.alloc z).drew.cell? ⟨b, 1, none⟩ = some (.slice (some ⟨pb, po, none⟩) bs.length pc) ∧ (w'.alloc z).drew.cell? ⟨pb, po + j, none⟩ = some (.pointer (some ⟨lb, 0, none⟩)) ∧ (w'.alloc z).drew.cell? ⟨pb, po + (j + 1), none⟩ = some (.pointer (some ⟨rb, 0, none⟩)))) := fun w' z h => HS.out _ (Below.next (Below.of_drew' h.1) (below1 _ _).drew)
    have hS0 := HS.out w (Below.refl _ _)
    clear HQ c0 c1 p0 p1
    go_wp2_with fail
    go_region_held (fun (w' : World) => (Below w.heap.size w w' ∧ w'.cell? ⟨b, 1, none⟩ = some (.slice (some ⟨pb, po, none⟩) bs.length pc) ∧ w'.cell? ⟨pb, po + j, none⟩ = some (.pointer (some ⟨lb, 0, none⟩)) ∧ w'.cell? ⟨pb, po + (j + 1), none⟩ = some (.pointer (some ⟨rb, 0, none⟩)))) (first | (with_reducible assumption) | (with_reducible exact HSD.out _ (by with_reducible assumption)) | (with_reducible exact HSA.out _ _ (by with_reducible assumption)) | (with_reducible exact HSAD.out _ _ (by with_reducible assumption)))
      (first | fail)
    clear hS0 HS HSN HSD HSA HSAD
    obtain ⟨wq, hwq⟩ : ∃ wq, w.drew = wq := ⟨_, rfl⟩
    have HBQ : Hid (Below w.heap.size w wq) := by show Below _ _ _; rw [← hwq]; exact (Below.refl _ _).drew
    rw [hwq]
    clear hwq
    have HQ : Hid (wq.cell? ⟨b, 0, none⟩ = some (.slice (some ⟨ib, io, none⟩) xs.length ic) ∧ wq.cell? ⟨lb, 0, none⟩ = some (.slice la lx.length lc) ∧ wq.cell? ⟨lb, 1, none⟩ = some (.slice ma lbs.length mc) ∧ wq.cell? ⟨rb, 0, none⟩ = some (.slice ra rx.length rc) ∧ wq.cell? ⟨rb, 1, none⟩ = some (.slice na rbs.length nc)) := by
      have hb := HBQ.out
      have hw := HUV.out
      exact ⟨(hb.cell (p := ⟨b, 0, none⟩) (World.block_lt_of_cell? w _ hw.1)).trans hw.1, (hb.cell (p := ⟨lb, 0, none⟩) (World.block_lt_of_cell? w _ hw.2.2.1)).trans hw.2.2.1, (hb.cell (p := ⟨lb, 1, none⟩) (World.block_lt_of_cell? w _ hw.2.2.2.1)).trans hw.2.2.2.1, (hb.cell (p := ⟨rb, 0, none⟩) (World.block_lt_of_cell? w _ hw.2.2.2.2.1)).trans hw.2.2.2.2.1, (hb.cell (p := ⟨rb, 1, none⟩) (World.block_lt_of_cell? w _ hw.2.2.2.2.2)).trans hw.2.2.2.2.2⟩
    have HS : Hid (∀ w' : World, Below wq.heap.size wq w' → (Below wq.heap.size wq w' ∧ w'.cell? ⟨b, 0, none⟩ = some (.slice (some ⟨ib, io, none⟩) xs.length ic) ∧ w'.cell? ⟨lb, 0, none⟩ = some (.slice la lx.length lc) ∧ w'.cell? ⟨lb, 1, none⟩ = some (.slice ma lbs.length mc) ∧ w'.cell? ⟨rb, 0, none⟩ = some (.slice ra rx.length rc) ∧ w'.cell? ⟨rb, 1, none⟩ = some (.slice na rbs.length nc))) := fun w' kk => ⟨kk, (kk.cell (p := ⟨b, 0, none⟩) (World.block_lt_of_cell? wq _ (HQ.out.1))).trans (HQ.out.1), (kk.cell (p := ⟨lb, 0, none⟩) (World.block_lt_of_cell? wq _ (HQ.out.2.1))).trans (HQ.out.2.1), (kk.cell (p := ⟨lb, 1, none⟩) (World.block_lt_of_cell? wq _ (HQ.out.2.2.1))).trans (HQ.out.2.2.1), (kk.cell (p := ⟨rb, 0, none⟩) (World.block_lt_of_cell? wq _ (HQ.out.2.2.2.1))).trans (HQ.out.2.2.2.1), (kk.cell (p := ⟨rb, 1, none⟩) (World.block_lt_of_cell? wq _ (HQ.out.2.2.2.2))).trans (HQ.out.2.2.2.2)⟩
    have HSN : Hid (∀ w' w'' : World, (Below wq.heap.size wq w' ∧ w'.cell? ⟨b, 0, none⟩ = some (.slice (some ⟨ib, io, none⟩) xs.length ic) ∧ w'.cell? ⟨lb, 0, none⟩ = some (.slice la lx.length lc) ∧ w'.cell? ⟨lb, 1, none⟩ = some (.slice ma lbs.length mc) ∧ w'.cell? ⟨rb, 0, none⟩ = some (.slice ra rx.length rc) ∧ w'.cell? ⟨rb, 1, none⟩ = some (.slice na rbs.length nc)) → Below w'.heap.size w' w'' → (Below wq.heap.size wq w'' ∧ w''.cell? ⟨b, 0, none⟩ = some (.slice (some ⟨ib, io, none⟩) xs.length ic) ∧ w''.cell? ⟨lb, 0, none⟩ = some (.slice la lx.length lc) ∧ w''.cell? ⟨lb, 1, none⟩ = some (.slice ma lbs.length mc) ∧ w''.cell? ⟨rb, 0, none⟩ = some (.slice ra rx.length rc) ∧ w''.cell? ⟨rb, 1, none⟩ = some (.slice na rbs.length nc))) := fun w' w'' h kk => HS.out w'' (Below.next h.1 kk)
    have HSD : Hid (∀ w' : World, (Below wq.heap.size wq w' ∧ w'.cell? ⟨b, 0, none⟩ = some (.slice (some ⟨ib, io, none⟩) xs.length ic) ∧ w'.cell? ⟨lb, 0, none⟩ = some (.slice la lx.length lc) ∧ w'.cell? ⟨lb, 1, none⟩ = some (.slice ma lbs.length mc) ∧ w'.cell? ⟨rb, 0, none⟩ = some (.slice ra rx.length rc) ∧ w'.cell? ⟨rb, 1, none⟩ = some (.slice na rbs.length nc)) → (Below wq.heap.size wq w'.drew ∧ w'.drew.cell? ⟨b, 0, none⟩ = some (.slice (some ⟨ib, io, none⟩) xs.length ic) ∧ w'.drew.cell? ⟨lb, 0, none⟩ = some (.slice la lx.length lc) ∧ w'.drew.cell? ⟨lb, 1, none⟩ = some (.slice ma lbs.length mc) ∧ w'.drew.cell? ⟨rb, 0, none⟩ = some (.slice ra rx.length rc) ∧ w'.drew.cell? ⟨rb, 1, none⟩ = some (.slice na rbs.length nc))) := fun w' h => HSN.out w' _ h (Below.refl _ _).drew
    have HSA : Hid (∀ (w' : World) (z : Obj), (Below wq.heap.size wq w' ∧ w'.cell? ⟨b, 0, none⟩ = some (.slice (some ⟨ib, io, none⟩) xs.length ic) ∧ w'.cell? ⟨lb, 0, none⟩ = some (.slice la lx.length lc) ∧ w'.cell? ⟨lb, 1, none⟩ = some (.slice ma lbs.length mc) ∧ w'.cell? ⟨rb, 0, none⟩ = some (.slice ra rx.length rc) ∧ w'.cell? ⟨rb, 1, none⟩ = some (.slice na rbs.length nc)) → (Below wq.heap.size wq (w'.alloc z) ∧ (w'.alloc z).cell? ⟨b, 0, none⟩ = some (.slice (some ⟨ib, io, none⟩) xs.length ic) ∧ (w'.alloc z).cell? ⟨lb, 0, none⟩ = some (.slice la lx.length lc) ∧ (w'.alloc z).cell? ⟨lb, 1, none⟩ = some (.slice ma lbs.length mc) ∧ (w'.alloc z).cell? ⟨rb, 0, none⟩ = some (.slice ra rx.length rc) ∧ (w'.alloc z).cell? ⟨rb, 1, none⟩ = some (.slice na rbs.length nc))) := fun w' z h => HSN.out w' _ h (below1 _ _)
    have HSAD : Hid (∀ (w' : World) (z : Obj), (Below wq.heap.size wq w'.drew ∧ w'.drew.cell? ⟨b, 0, none⟩ = some (.slice (some ⟨ib, io, none⟩) xs.length ic) ∧ w'.drew.cell? ⟨lb, 0, none⟩ = some (.slice la lx.length lc) ∧ w'.drew.cell? ⟨lb, 1, none⟩ = some (.slice ma lbs.length mc) ∧ w'.drew.cell? ⟨rb, 0, none⟩ = some (.slice ra rx.length rc) ∧ w'.drew.cell? ⟨rb, 1, none⟩ = some (.slice na rbs.length nc)) → (Below wq.heap.size wq (w'.alloc z).drew ∧ (w'.alloc z).drew.cell? ⟨b, 0, none⟩ = some (.slice (some ⟨ib, io, none⟩) xs.length ic) ∧ (w'.alloc z).drew.cell? ⟨lb, 0, none⟩ = some (.slice la lx.length lc) ∧ (w'.alloc z).drew.cell? ⟨lb, 1, none⟩ = some (.slice ma lbs.length mc) ∧ (w'.alloc z).drew.cell? ⟨rb, 0, none⟩ = some (.slice ra rx.length rc) ∧ (w'.alloc z).drew.cell? ⟨rb, 1, none⟩ = some (.slice na rbs.length nc))) := fun w' z h => HS.out _ (Below.next (Below.of_drew' h.1) (below1 _ _).drew)
    have hS0 := HS.out wq (Below.refl _ _)
    have HC60 : Hid (∀ (w' : World) (X : Nat), (Below wq.heap.size wq w' ∧ w'.cell? ⟨b, 0, none⟩ = some (.slice (some ⟨ib, io, none⟩) xs.length ic) ∧ w'.cell? ⟨lb, 0, none⟩ = some (.slice la lx.length lc) ∧ w'.cell? ⟨lb, 1, none⟩ = some (.slice ma lbs.length mc) ∧ w'.cell? ⟨rb, 0, none⟩ = some (.slice ra rx.length rc) ∧ w'.cell? ⟨rb, 1, none⟩ = some (.slice na rbs.length nc)) → CellsF w' X [.slice la lx.length lc, .slice (some ⟨ib, io + j * 2, none⟩) 1 (ic - j), .slice ra rx.length rc] → Calls Try.prog 60 #[.slice (some ⟨X, 0, none⟩) 3 3] w' fun e w'' => ∃ a5 c5, e = .returned (.slice a5 X3.length c5) ∧ (Below wq.heap.size wq w'' ∧ w''.cell? ⟨b, 0, none⟩ = some (.slice (some ⟨ib, io, none⟩) xs.length ic) ∧ w''.cell? ⟨lb, 0, none⟩ = some (.slice la lx.length lc) ∧ w''.cell? ⟨lb, 1, none⟩ = some (.slice ma lbs.length mc) ∧ w''.cell? ⟨rb, 0, none⟩ = some (.slice ra rx.length rc) ∧ w''.cell? ⟨rb, 1, none⟩ = some (.slice na rbs.length nc)) ∧ Hid (Sl itv 2 w'' (.slice a5 X3.length c5) X3) ∧ Hid (Below w'.heap.size w' w'')) := fun w' X h hc => by
      have hB := Below.next HBQ.out h.1
      have := concat2_is X 3 [.slice la lx.length lc, .slice (some ⟨ib, io + j * 2, none⟩) 1 (ic - j), .slice ra rx.length rc] [lx, [m], rx] rfl rfl (by omega) X3 (by rw [← HX3.out]; simp) (by have := HL3.out; omega) w' (fun q v hv => hc.cs q v hv) (fun q v l' hv hl' => by
        match q, hv, hl' with
        | 0, hv, hl' => cases hv; cases hl'; exact HSL.out.2.2.1.next itv_ne hB
        | 1, hv, hl' => cases hv; cases hl'; exact HSL.out.2.2.2.2.2.2.next itv_ne hB
        | 2, hv, hl' => cases hv; cases hl'; exact HSL.out.2.2.2.2.1.next itv_ne hB)
      refine this.mono fun e w'' ⟨v, q1, q2⟩ => ?_
      have q3 := Fresh.sl itv_len q2
      obtain ⟨a5, c5, q4⟩ := slices_shape q3
      subst q4
      exact ⟨a5, c5, q1, HSN.out _ _ h q2.bel, q3, q2.bel⟩
    have HC61 : Hid (∀ (w' : World) (X : Nat), (Below wq.heap.size wq w' ∧ w'.cell? ⟨b, 0, none⟩ = some (.slice (some ⟨ib, io, none⟩) xs.length ic) ∧ w'.cell? ⟨lb, 0, none⟩ = some (.slice la lx.length lc) ∧ w'.cell? ⟨lb, 1, none⟩ = some (.slice ma lbs.length mc) ∧ w'.cell? ⟨rb, 0, none⟩ = some (.slice ra rx.length rc) ∧ w'.cell? ⟨rb, 1, none⟩ = some (.slice na rbs.length nc)) → CellsF w' X [.slice ma lbs.length mc, .slice na rbs.length nc] → Calls Try.prog 61 #[.slice (some ⟨X, 0, none⟩) 2 2] w' fun e w'' => ∃ a5 c5, e = .returned (.slice a5 X4.length c5) ∧ (Below wq.heap.size wq w'' ∧ w''.cell? ⟨b, 0, none⟩ = some (.slice (some ⟨ib, io, none⟩) xs.length ic) ∧ w''.cell? ⟨lb, 0, none⟩ = some (.slice la lx.length lc) ∧ w''.cell? ⟨lb, 1, none⟩ = some (.slice ma lbs.length mc) ∧ w''.cell? ⟨rb, 0, none⟩ = some (.slice ra rx.length rc) ∧ w''.cell? ⟨rb, 1, none⟩ = some (.slice na rbs.length nc)) ∧ Hid (Sl ptv 1 w'' (.slice a5 X4.length c5) X4) ∧ Hid (Below w'.heap.size w' w'')) := fun w' X h hc => by
      have hB := Below.next HBQ.out h.1
      have := concat1_is X 2 [.slice ma lbs.length mc, .slice na rbs.length nc] [lbs, rbs] rfl rfl (by omega) X4 (by rw [← HX4.out]; simp) (by have := HL4.out; omega) w' (fun q v hv => hc.cs q v hv) (fun q v l' hv hl' => by
        match q, hv, hl' with
        | 0, hv, hl' => cases hv; cases hl'; exact HSL.out.2.2.2.1.next ptv_ne hB
        | 1, hv, hl' => cases hv; cases hl'; exact HSL.out.2.2.2.2.2.1.next ptv_ne hB)
      refine this.mono fun e w'' ⟨v, q1, q2⟩ => ?_
      have q3 := Fresh.sl ptv_len q2
      obtain ⟨a5, c5, q4⟩ := slices_shape q3
      subst q4
      exact ⟨a5, c5, q1, HSN.out _ _ h q2.bel, q3, q2.bel⟩
    have hjxi : (j : Int) + 1 ≤ (ic : Int) := by omega
    have hjne : ¬ ic = j := by omega
    clear HQ
    go_upto_region 3 with fail
    go_cut [7] (fun s7 wx => ∃ B : Nat, s7 = .pointer (some ⟨B, 0, none⟩) ∧ Hid (Below w.heap.size w wx ∧ NdAt itv wx B X3 X4))
    case first =>
      go_region_held (fun (w' : World) => (Below wq.heap.size wq w' ∧ w'.cell? ⟨b, 0, none⟩ = some (.slice (some ⟨ib, io, none⟩) xs.length ic) ∧ w'.cell? ⟨lb, 0, none⟩ = some (.slice la lx.length lc) ∧ w'.cell? ⟨lb, 1, none⟩ = some (.slice ma lbs.length mc) ∧ w'.cell? ⟨rb, 0, none⟩ = some (.slice ra rx.length rc) ∧ w'.cell? ⟨rb, 1, none⟩ = some (.slice na rbs.length nc))) (first | (with_reducible assumption) | (with_reducible exact HSD.out _ (by with_reducible assumption)) | (with_reducible exact HSA.out _ _ (by with_reducible assumption)) | (with_reducible exact HSAD.out _ _ (by with_reducible assumption)))
        (first | ((with_reducible refine Calls.mono (HC60.out _ _ (by with_reducible assumption) (by (first | exact (CellsF.at _ _ (by simp) rfl).next (Below.refl _ _).drew | exact ((CellsF.at _ _ (by simp) rfl).next (below1 _ _)).next (Below.refl _ _).drew | exact (CellsF.at _ _ (by simp) (by rw [size_alloc])).next (Below.refl _ _).drew | exact CellsF.at _ _ (by simp) rfl | exact ((CellsF.at _ _ (by simp) rfl).next (Below.refl _ _).drew).next HB5.out | exact (((CellsF.at _ _ (by simp) rfl).next (below1 _ _)).next (Below.refl _ _).drew).next HB5.out | exact ((CellsF.at _ _ (by simp) (by rw [size_alloc])).next (Below.refl _ _).drew).next HB5.out))) ?_); rintro e w5 ⟨a5, c5, rfl, hS5, HV5, HB5⟩) | ((with_reducible refine Calls.mono (HC61.out _ _ (by with_reducible assumption) (by (first | exact (CellsF.at _ _ (by simp) rfl).next (Below.refl _ _).drew | exact ((CellsF.at _ _ (by simp) rfl).next (below1 _ _)).next (Below.refl _ _).drew | exact (CellsF.at _ _ (by simp) (by rw [size_alloc])).next (Below.refl _ _).drew | exact CellsF.at _ _ (by simp) rfl | exact ((CellsF.at _ _ (by simp) rfl).next (Below.refl _ _).drew).next HB5.out | exact (((CellsF.at _ _ (by simp) rfl).next (below1 _ _)).next (Below.refl _ _).drew).next HB5.out | exact ((CellsF.at _ _ (by simp) (by rw [size_alloc])).next (Below.refl _ _).drew).next HB5.out))) ?_); rintro e w6 ⟨a6, c6, rfl, hS6, HV6, HB6⟩; have HS6 : Hid (Below wq.heap.size wq w6) := hS6.1))
      all_goals go_wp2_with fail
      all_goals go_meet
      all_goals first | exact ⟨_, rfl, Below.next HBQ.out (Below.next HS6.out (below1 _ _)), NdAt.of (CellsF.at _ 67 (by simp) rfl) ((HV5.out.next itv_ne HB6.out).next itv_ne (below1 _ _)) (HV6.out.next ptv_ne (below1 _ _))⟩ | exact ⟨_, rfl, Below.next HBQ.out (Below.next HS6.out (below1 _ _)), NdAt.of (CellsF.at _ 67 (by simp) rfl) ((HV5.out.next itv_ne (Below.next (below1 _ _) HB6.out)).next itv_ne (below1 _ _)) (HV6.out.next ptv_ne (below1 _ _))⟩
    case rest =>
      obtain ⟨B, rfl, HBB⟩ := hcut
      generalize hwd : wc = wd at *
      clear hwd
      clear hS0 HS HSN HSD HSA HSAD HC60 HC61 hjne HBQ
      have HQ : Hid (wd.cell? ⟨b, 0, none⟩ = some (.slice (some ⟨ib, io, none⟩) xs.length ic) ∧ wd.cell? ⟨b, 1, none⟩ = some (.slice (some ⟨pb, po, none⟩) bs.length pc)) := by
        have hb := HBB.out.1
        have hw := HUV.out
        exact ⟨(hb.cell (p := ⟨b, 0, none⟩) (World.block_lt_of_cell? w _ hw.1)).trans hw.1, (hb.cell (p := ⟨b, 1, none⟩) (World.block_lt_of_cell? w _ hw.2.1)).trans hw.2.1⟩
      obtain ⟨X6, hX6⟩ : ∃ X6, (bs.take j ++ [B] ++ bs.drop (j + 2)) = X6 := ⟨_, rfl⟩
      have HX6 : Hid ((bs.take j ++ [B] ++ bs.drop (j + 2)) = X6) := hX6
      clear hX6
      have hj2 : j + 2 ≤ bs.length := by omega
      have wj2 : IntKind.i64.wrap ((j : Int) + 2) = (j : Int) + 2 := by rw [IntKind.wrap_i64]; omega
      have HS : Hid (∀ w' : World, Below wd.heap.size wd w' → (Below wd.heap.size wd w' ∧ w'.cell? ⟨b, 0, none⟩ = some (.slice (some ⟨ib, io, none⟩) xs.length ic) ∧ w'.cell? ⟨b, 1, none⟩ = some (.slice (some ⟨pb, po, none⟩) bs.length pc))) := fun w' kk => ⟨kk, (kk.cell (p := ⟨b, 0, none⟩) (World.block_lt_of_cell? wd _ (HQ.out.1))).trans (HQ.out.1), (kk.cell (p := ⟨b, 1, none⟩) (World.block_lt_of_cell? wd _ (HQ.out.2))).trans (HQ.out.2)⟩
      have HSN : Hid (∀ w' w'' : World, (Below wd.heap.size wd w' ∧ w'.cell? ⟨b, 0, none⟩ = some (.slice (some ⟨ib, io, none⟩) xs.length ic) ∧ w'.cell? ⟨b, 1, none⟩ = some (.slice (some ⟨pb, po, none⟩) bs.length pc)) → Below w'.heap.size w' w'' → (Below wd.heap.size wd w'' ∧ w''.cell? ⟨b, 0, none⟩ = some (.slice (some ⟨ib, io, none⟩) xs.length ic) ∧ w''.cell? ⟨b, 1, none⟩ = some (.slice (some ⟨pb, po, none⟩) bs.length pc))) := fun w' w'' h kk => HS.out w'' (Below.next h.1 kk)
      have HSD : Hid (∀ w' : World, (Below wd.heap.size wd w' ∧ w'.cell? ⟨b, 0, none⟩ = some (.slice (some ⟨ib, io, none⟩) xs.length ic) ∧ w'.cell? ⟨b, 1, none⟩ = some (.slice (some ⟨pb, po, none⟩) bs.length pc)) → (Below wd.heap.size wd w'.drew ∧ w'.drew.cell? ⟨b, 0, none⟩ = some (.slice (some ⟨ib, io, none⟩) xs.length ic) ∧ w'.drew.cell? ⟨b, 1, none⟩ = some (.slice (some ⟨pb, po, none⟩) bs.length pc))) := fun w' h => HSN.out w' _ h (Below.refl _ _).drew
      have HSA : Hid (∀ (w' : World) (z : Obj), (Below wd.heap.size wd w' ∧ w'.cell? ⟨b, 0, none⟩ = some (.slice (some ⟨ib, io, none⟩) xs.length ic) ∧ w'.cell? ⟨b, 1, none⟩ = some (.slice (some ⟨pb, po, none⟩) bs.length pc)) → (Below wd.heap.size wd (w'.alloc z) ∧ (w'.alloc z).cell? ⟨b, 0, none⟩ = some (.slice (some ⟨ib, io, none⟩) xs.length ic) ∧ (w'.alloc z).cell? ⟨b, 1, none⟩ = some (.slice (some ⟨pb, po, none⟩) bs.length pc))) := fun w' z h => HSN.out w' _ h (below1 _ _)
      have HSAD : Hid (∀ (w' : World) (z : Obj), (Below wd.heap.size wd w'.drew ∧ w'.drew.cell? ⟨b, 0, none⟩ = some (.slice (some ⟨ib, io, none⟩) xs.length ic) ∧ w'.drew.cell? ⟨b, 1, none⟩ = some (.slice (some ⟨pb, po, none⟩) bs.length pc)) → (Below wd.heap.size wd (w'.alloc z).drew ∧ (w'.alloc z).drew.cell? ⟨b, 0, none⟩ = some (.slice (some ⟨ib, io, none⟩) xs.length ic) ∧ (w'.alloc z).drew.cell? ⟨b, 1, none⟩ = some (.slice (some ⟨pb, po, none⟩) bs.length pc))) := fun w' z h => HS.out _ (Below.next (Below.of_drew' h.1) (below1 _ _).drew)
      have hS0 := HS.out wd (Below.refl _ _)
      have HS38 : Hid (∀ (w' : World), (Below wd.heap.size wd w' ∧ w'.cell? ⟨b, 0, none⟩ = some (.slice (some ⟨ib, io, none⟩) xs.length ic) ∧ w'.cell? ⟨b, 1, none⟩ = some (.slice (some ⟨pb, po, none⟩) bs.length pc)) → Calls Try.prog 38 #[.slice (some ⟨ib, io, none⟩) xs.length ic, .int .i64 j, .int .i64 ((j : Int) + 1), .slice none 0 0] w' fun e w'' => ∃ a5 c5, e = .returned (.slice a5 X5.length c5) ∧ (Below wd.heap.size wd w'' ∧ w''.cell? ⟨b, 0, none⟩ = some (.slice (some ⟨ib, io, none⟩) xs.length ic) ∧ w''.cell? ⟨b, 1, none⟩ = some (.slice (some ⟨pb, po, none⟩) bs.length pc)) ∧ Hid (Sl itv 2 w'' (.slice a5 X5.length c5) X5) ∧ Hid (Below w'.heap.size w' w'')) := fun w' h => by
        have h1 := HSL.out.1.next itv_ne (Below.next HBB.out.1 h.1)
        have := swapped2_is w' _ xs h1 j (j + 1) (Nat.le_succ _) hjx _ _ (Sl.nil itv 2 w') (by omega) (by simp) X5 HX5.out
        rw [show ((j + 1 : Nat) : Int) = (j : Int) + 1 from rfl] at this
        refine this.mono fun e w'' ⟨v, q1, q2⟩ => ?_
        have q3 := Fresh.sl itv_len q2
        obtain ⟨a5, c5, q4⟩ := slices_shape q3
        subst q4
        exact ⟨a5, c5, q1, HSN.out _ _ h q2.bel, q3, q2.bel⟩
      have HS39 : Hid (∀ (w' : World) (Y : Nat), (Below wd.heap.size wd w' ∧ w'.cell? ⟨b, 0, none⟩ = some (.slice (some ⟨ib, io, none⟩) xs.length ic) ∧ w'.cell? ⟨b, 1, none⟩ = some (.slice (some ⟨pb, po, none⟩) bs.length pc)) → CellsF w' Y [.pointer (some ⟨B, 0, none⟩)] → Calls Try.prog 39 #[.slice (some ⟨pb, po, none⟩) bs.length pc, .int .i64 j, .int .i64 ((j : Int) + 2), .slice (some ⟨Y, 0, none⟩) 1 1] w' fun e w'' => ∃ a6 c6, e = .returned (.slice a6 X6.length c6) ∧ (Below wd.heap.size wd w'' ∧ w''.cell? ⟨b, 0, none⟩ = some (.slice (some ⟨ib, io, none⟩) xs.length ic) ∧ w''.cell? ⟨b, 1, none⟩ = some (.slice (some ⟨pb, po, none⟩) bs.length pc)) ∧ Hid (Sl ptv 1 w'' (.slice a6 X6.length c6) X6) ∧ Hid (Below w'.heap.size w' w'')) := fun w' Y h hc => by
        have h1 := HSL.out.2.1.next ptv_ne (Below.next HBB.out.1 h.1)
        have h2 : Sl ptv 1 w' (.slice (some ⟨Y, 0, none⟩) 1 1) [B] := ⟨_, 1, rfl, rw_lit ptv_len hc, Nat.le_refl _, fun e => by cases e⟩
        have := swapped1_is w' _ bs h1 j (j + 2) (by omega) hj2 _ _ h2 (by omega) (by simp) X6 HX6.out
        rw [show ((j + 2 : Nat) : Int) = (j : Int) + 2 from rfl] at this
        refine this.mono fun e w'' ⟨v, q1, q2⟩ => ?_
        have q3 := Fresh.sl ptv_len q2
        obtain ⟨a6, c6, q4⟩ := slices_shape q3
        subst q4
        exact ⟨a6, c6, q1, HSN.out _ _ h q2.bel, q3, q2.bel⟩
      clear HQ
      go_upto_region 4 with fail
      go_cut [0] (fun s0 wx => ∃ b3 : Nat, s0 = .pointer (some ⟨b3, 0, none⟩) ∧ Hid (Below wd.heap.size wd wx ∧ NdAt itv wx b3 X5 X6))
      case first =>
        go_region_held (fun (w' : World) => (Below wd.heap.size wd w' ∧ w'.cell? ⟨b, 0, none⟩ = some (.slice (some ⟨ib, io, none⟩) xs.length ic) ∧ w'.cell? ⟨b, 1, none⟩ = some (.slice (some ⟨pb, po, none⟩) bs.length pc))) (first | (with_reducible assumption) | (with_reducible exact HSD.out _ (by with_reducible assumption)) | (with_reducible exact HSA.out _ _ (by with_reducible assumption)) | (with_reducible exact HSAD.out _ _ (by with_reducible assumption)))
          (first | ((with_reducible refine Calls.mono (HS38.out _ (by with_reducible assumption)) ?_); rintro e w5 ⟨a5, c5, rfl, hS5, HV5, HB5⟩) | ((with_reducible refine Calls.mono (HS39.out _ _ (by with_reducible assumption) (by (first | exact (CellsF.at _ _ (by simp) rfl).next (Below.refl _ _).drew | exact ((CellsF.at _ _ (by simp) rfl).next (below1 _ _)).next (Below.refl _ _).drew | exact (CellsF.at _ _ (by simp) (by rw [size_alloc])).next (Below.refl _ _).drew | exact CellsF.at _ _ (by simp) rfl | exact ((CellsF.at _ _ (by simp) rfl).next (Below.refl _ _).drew).next HB5.out | exact (((CellsF.at _ _ (by simp) rfl).next (below1 _ _)).next (Below.refl _ _).drew).next HB5.out | exact ((CellsF.at _ _ (by simp) (by rw [size_alloc])).next (Below.refl _ _).drew).next HB5.out))) ?_); rintro e w6 ⟨a6, c6, rfl, hS6, HV6, HB6⟩; have HS6 : Hid (Below wd.heap.size wd w6) := hS6.1))
        all_goals go_wp2_with fail
        all_goals go_meet
        all_goals first | exact ⟨_, rfl, Below.next HS6.out (below1 _ _), NdAt.of (CellsF.at _ 67 (by simp) rfl) ((HV5.out.next itv_ne HB6.out).next itv_ne (below1 _ _)) (HV6.out.next ptv_ne (below1 _ _))⟩ | exact ⟨_, rfl, Below.next HS6.out (below1 _ _), NdAt.of (CellsF.at _ 67 (by simp) rfl) ((HV5.out.next itv_ne (Below.next (below1 _ _) HB6.out)).next itv_ne (below1 _ _)) (HV6.out.next ptv_ne (below1 _ _))⟩
      case rest =>
        obtain ⟨b3, rfl, HN3⟩ := hcut
        have HBT : Hid (Below w.heap.size w wc) := Below.next HBB.out.1 HN3.out.1
        have HM7 : Hid (NdAt itv wc B X3 X4) := HBB.out.2.next itv_ne HN3.out.1
        obtain ⟨u2, v2, e0, _, hu2, _⟩ := HM7.out
        obtain ⟨a2, l2, rfl⟩ := slices_shape hu2
        clear hu2 hS0 HS HSN HSD HSA HSAD HS38 HS39
        by_cases hgt : 12 < X3.length
        · have hgti : (12 : Int) < (X3.length : Int) := by omega
          have HFN : Hid _ := HHA.out wc b3 B HBT.out (by rw [HX5.out, HX6.out]; exact HN3.out.2) (by rw [HX3.out, HX4.out]; exact HM7.out) (by rw [HX3.out]; exact hgt)
          go_wp2_with fail
          refine Calls.mono HFN.out ?_; rintro e w8 ⟨b', rfl, k8, r8⟩
          have HK8 : Hid (Below wc.heap.size wc w8 ∧ R w8 b') := ⟨k8, r8⟩
          clear k8 r8
          go_wp2_with fail
          go_ret
          exact ⟨b', rfl, Below.next HBT.out HK8.out.1, HK8.out.2⟩
        · have hgti : ¬ (12 : Int) < (X3.length : Int) := by omega
          have HFN : Hid (R wc b3) := HNO.out wc b3 B HBT.out (by rw [HX5.out, HX6.out]; exact HN3.out.2) (by rw [HX3.out, HX4.out]; exact HM7.out) (by rw [HX3.out]; omega)
          go_wp2_with fail
          go_ret
          exact ⟨_, rfl, HBT.out, HFN.out⟩
end Go.Proofs.Ytgebionlkmjfnaa
