/- awake. -/
import Derived.Test.YtgbomgfffhfliaaAwP
namespace Go.Proofs.Ytgbomgfffhfliaa
open Go.ChangeShapes Go.WideShapes Go.RowKit
set_option linter.unusedVariables false
set_option maxRecDepth 100000

theorem aw_fits : ∀ o, o ∈ awOps → o.fit := by
  intro o h
  simp only [awOps, List.mem_cons, List.not_mem_nil, or_false] at h
  rcases h with rfl | rfl | rfl | rfl <;> exact ⟨by unfold i64b; decide, by unfold i64b; decide, by unfold i64b; decide, by unfold i64b; decide⟩
theorem aw_fit : awL.fit := by
  refine ⟨fun x h => ?_, fun x h => ?_, fun x h => ?_, by unfold i64b; decide⟩
  · simp only [awL, List.mem_cons, List.not_mem_nil, or_false] at h
    rcases h with rfl | rfl <;> exact ⟨by unfold i64b; decide, by unfold i64b; decide⟩
  · simp only [awL, List.mem_cons, List.not_mem_nil, or_false] at h
    rcases h with rfl <;> exact ⟨by unfold i64b; decide, by unfold i64b; decide, by unfold i64b; decide, by unfold i64b; decide⟩
  · simp only [awL, List.mem_cons, List.not_mem_nil, or_false] at h
    rcases h with rfl | rfl | rfl | rfl <;> exact ⟨by unfold i64b; decide, by unfold i64b; decide, by unfold i64b; decide, by unfold i64b; decide⟩
theorem field_on (a b c d : Value) (w : World) : (Instr.field 50 (.agg #[a, b, c, d]) 2).run Try.prog w = .ok c w := by
  rfl
set_option maxHeartbeats 4000000 in
theorem awake_is (w : World) : Calls Try.prog 10 #[] w fun e w' => e = .returned (.bool true) ∧ Below w.heap.size w w' := by
  have HRC : Hid (Calls Try.prog 23 #[.string ⟨#[115]⟩, .string ⟨#[120]⟩, .int .i64 5] w fun e w' => e = .returned (.agg #[.int .i64 1, .string ⟨#[115]⟩, .string ⟨#[120]⟩, .string ⟨#[]⟩, .int .i64 5, .int .i64 0, .int .i64 0]) ∧ Below w.heap.size w w') := rcv_is _ _ _ _
  have HRP : Hid (∀ (w1 : World) (t : TypeId), Calls Try.prog 16 #[.agg #[.slice none 0 0, .slice none 0 0, .slice none 0 0, .int .i64 0], .slice (some ⟨w1.heap.size, 0, none⟩) 4 4] (w1.alloc (.cells #[.int .i64 1, .string ⟨#[115]⟩, .string ⟨#[120]⟩, .string ⟨#[]⟩, .int .i64 5, .int .i64 0, .int .i64 0, .int .i64 2, .string ⟨#[115]⟩, .string ⟨#[120]⟩, .string ⟨#[]⟩, .int .i64 3, .int .i64 0, .int .i64 0, .int .i64 3, .string ⟨#[]⟩, .string ⟨#[]⟩, .string ⟨#[]⟩, .int .i64 0, .int .i64 1, .int .i64 0, .int .i64 6, .string ⟨#[115]⟩, .string ⟨#[120]⟩, .string ⟨#[121]⟩, .int .i64 1, .int .i64 0, .int .i64 0] t)) fun e w' => ∃ a0 n0 c0 a1 n1 c1 a2 c2, e = .returned (.tuple #[.agg #[.slice a0 n0 c0, .slice a1 n1 c1, .slice a2 4 c2, .int .i64 4], .int .i64 4, .int .i64 0]) ∧ Have w' a0 n0 c0 a1 n1 c1 a2 4 c2 awL ∧ Below w1.heap.size w1 w') := fun w1 t => by
    have hv := Have.none (w1.alloc (.cells #[.int .i64 1, .string ⟨#[115]⟩, .string ⟨#[120]⟩, .string ⟨#[]⟩, .int .i64 5, .int .i64 0, .int .i64 0, .int .i64 2, .string ⟨#[115]⟩, .string ⟨#[120]⟩, .string ⟨#[]⟩, .int .i64 3, .int .i64 0, .int .i64 0, .int .i64 3, .string ⟨#[]⟩, .string ⟨#[]⟩, .string ⟨#[]⟩, .int .i64 0, .int .i64 1, .int .i64 0, .int .i64 6, .string ⟨#[115]⟩, .string ⟨#[120]⟩, .string ⟨#[121]⟩, .int .i64 1, .int .i64 0, .int .i64 0] t))
    have hc : CellsF (w1.alloc (.cells #[.int .i64 1, .string ⟨#[115]⟩, .string ⟨#[120]⟩, .string ⟨#[]⟩, .int .i64 5, .int .i64 0, .int .i64 0, .int .i64 2, .string ⟨#[115]⟩, .string ⟨#[120]⟩, .string ⟨#[]⟩, .int .i64 3, .int .i64 0, .int .i64 0, .int .i64 3, .string ⟨#[]⟩, .string ⟨#[]⟩, .string ⟨#[]⟩, .int .i64 0, .int .i64 1, .int .i64 0, .int .i64 6, .string ⟨#[115]⟩, .string ⟨#[120]⟩, .string ⟨#[121]⟩, .int .i64 1, .int .i64 0, .int .i64 0] t)) w1.heap.size (awOps.flatMap opv) := CellsF.at _ t (by decide) rfl
    refine (replay_is none 0 0 none 0 0 none 0 0 noL rfl rfl rfl hv.z0 hv.z1 hv.z2 no_may no_fit (some ⟨w1.heap.size, 0, none⟩) 4 4 awOps rfl (by omega) aw_fits _ hv.li (rw_of_cells hc)).mono ?_
    rintro e w' ⟨a0, n0, c0, a1, n1, c1, a2, n2, c2, he, ho⟩
    rw [aw1] at he ho
    have hh := Have.of ho
    have h4 : n2 = 4 := hh.h2.symm
    subst h4
    exact ⟨a0, n0, c0, a1, n1, c1, a2, c2, he, hh, Below.next (below1 _ _) ho.bel⟩
  have HAP : Hid (∀ (w' : World) a0 n0 c0 a1 n1 c1 a2 c2, Have w' a0 n0 c0 a1 n1 c1 a2 4 c2 awL → Calls Try.prog 11 #[.agg #[.slice a0 n0 c0, .slice a1 n1 c1, .slice a2 4 c2, .int .i64 4], .agg #[.int .i64 4, .string ⟨#[]⟩, .string ⟨#[]⟩, .string ⟨#[]⟩, .int .i64 0, .int .i64 1, .int .i64 0]] w' fun e w'' => e = .returned (.tuple #[.agg #[.slice none 0 0, .slice none 0 0, .slice none 0 0, .int .i64 0], .int .i64 71]) ∧ Below w'.heap.size w' w'') := fun w' a0 n0 c0 a1 n1 c1 a2 c2 h => by
    refine (h.apply aw2 aw_fit ⟨4, tN, tN, tN, 0, 1, 0⟩ ⟨by unfold i64b; decide, by unfold i64b; decide, by unfold i64b; decide, by unfold i64b; decide⟩).mono ?_
    rintro e w'' (⟨h1, h2, h3⟩ | ⟨h1, _⟩)
    · rw [aw3] at h2; exact ⟨h2, h3⟩
    · rw [aw3] at h1; omega
  have HFR : Hid (∀ (w' : World) a0 n0 c0 a1 n1 c1 a2 c2, Have w' a0 n0 c0 a1 n1 c1 a2 4 c2 awL → Calls Try.prog 21 #[.agg #[.slice a0 n0 c0, .slice a1 n1 c1, .slice a2 4 c2, .int .i64 4], .string ⟨#[115]⟩, .string ⟨#[120]⟩] w' fun e w'' => e = .returned (.int .i64 1) ∧ Below w'.heap.size w' w'') := fun w' a0 n0 c0 a1 n1 c1 a2 c2 h => by
    have hn : n0 = 2 := h.h0.symm
    have := freeL_is a0 n0 c0 a1 n1 c1 a2 4 c2 4 awL.S h.h0 (by omega) aw_fit.S tS tX w' h.li.S
    rw [aw4] at this
    exact this
  have HFI : Hid (∀ (w' : World) a0 n0 c0 a1 n1 c1 a2 c2, Have w' a0 n0 c0 a1 n1 c1 a2 4 c2 awL → Calls Try.prog 22 #[.agg #[.slice a0 n0 c0, .slice a1 n1 c1, .slice a2 4 c2, .int .i64 4], .string ⟨#[115]⟩, .string ⟨#[121]⟩] w' fun e w'' => e = .returned (.agg #[.string ⟨#[115]⟩, .string ⟨#[121]⟩, .int .i64 1, .int .i64 0]) ∧ Below w'.heap.size w' w'') := fun w' a0 n0 c0 a1 n1 c1 a2 c2 h => by
    have hn : n0 = 2 := h.h0.symm
    have := find_is a0 n0 c0 a1 n1 c1 a2 4 c2 4 awL.S h.h0 (by omega) tS tY w' h.li.S
    rw [aw5] at this
    exact this
  have HCK : Hid (∀ (w' : World) a0 n0 c0 a1 n1 c1 a2 c2, Have w' a0 n0 c0 a1 n1 c1 a2 4 c2 awL → Calls Try.prog 14 #[.agg #[.slice a0 n0 c0, .slice a1 n1 c1, .slice a2 4 c2, .int .i64 4]] w' fun e w'' => e = .returned (.int .i64 0) ∧ Below w'.heap.size w' w'') := fun w' a0 n0 c0 a1 n1 c1 a2 c2 h => by
    have hn : n0 = 2 := h.h0.symm
    have hn1 : n1 = 1 := h.h1.symm
    have := checkL_is a0 n0 c0 a1 n1 c1 a2 4 c2 awL h.h0 h.h1 h.h2 (by omega) (by omega) (by omega) aw_fit w' h.li
    rw [if_pos aw2] at this
    exact this
  go_enter Try.func10, Try.ntmps10
  go_wp2_with fail
  refine Calls.mono HRC.out ?_; rintro e w1 ⟨rfl, k1⟩
  have HB1 : Hid (Below w.heap.size w w1) := k1
  clear k1
  go_wp2_with fail
  refine Calls.mono (HRP.out _ _) ?_; rintro e w2 ⟨a0, n0, c0, a1, n1, c1, a2, c2, rfl, hv, k2⟩
  have HB2 : Hid (Below w.heap.size w w2) := Below.next HB1.out k2
  have HV : Hid (Have w2 a0 n0 c0 a1 n1 c1 a2 4 c2 awL) := hv
  have HC : Hid (∀ x, CellsF (w2.alloc (.cells #[.slice a0 n0 c0, .slice a1 n1 c1, .slice a2 4 c2, .int .i64 4] x)) w2.heap.size [.slice a0 n0 c0, .slice a1 n1 c1, .slice a2 4 c2, .int .i64 4]) := fun x => CellsF.at _ x (by simp) rfl
  clear hv k2
  go_wp2_with fail
  refine Calls.mono (HAP.out _ _ _ _ _ _ _ _ _ (HV.out.next (below1 _ _))) ?_; rintro e w3 ⟨rfl, k3⟩
  have q3 := (HC.out _).next k3
  have HC3 : Hid (CellsF w3 w2.heap.size [.slice a0 n0 c0, .slice a1 n1 c1, .slice a2 4 c2, .int .i64 4]) := q3
  have HV3 : Hid (Have w3 a0 n0 c0 a1 n1 c1 a2 4 c2 awL) := (HV.out.next (below1 _ _)).next k3
  have HB3 : Hid (Below w.heap.size w w3) := Below.next (Below.next HB2.out (below1 _ _)) k3
  have x0 := fun z => (q3.next (below1 w3 z)).cs 0 _ rfl
  have x1 := fun z => (q3.next (below1 w3 z)).cs 1 _ rfl
  have x2 := fun z => (q3.next (below1 w3 z)).cs 2 _ rfl
  have x3 := fun z => (q3.next (below1 w3 z)).cs 3 _ rfl
  clear k3 q3
  go_wp2_with fail
  refine Calls.mono (HFR.out _ _ _ _ _ _ _ _ _ (HV3.out.next (below1 _ _))) ?_; rintro e w4 ⟨rfl, k4⟩
  have q4 := (HC3.out.next (below1 _ _)).next k4
  have HC4 : Hid (CellsF w4 w2.heap.size [.slice a0 n0 c0, .slice a1 n1 c1, .slice a2 4 c2, .int .i64 4]) := q4
  have HV4 : Hid (Have w4 a0 n0 c0 a1 n1 c1 a2 4 c2 awL) := (HV3.out.next (below1 _ _)).next k4
  have HB4 : Hid (Below w.heap.size w w4) := Below.next (Below.next HB3.out (below1 _ _)) k4
  have y0 := q4.cs 0 _ rfl
  have y1 := q4.cs 1 _ rfl
  have y2 := q4.cs 2 _ rfl
  have y3 := q4.cs 3 _ rfl
  clear k4 q4 x0 x1 x2 x3
  go_wp2_with fail
  refine Calls.mono (HFI.out _ _ _ _ _ _ _ _ _ HV4.out) ?_; rintro e w5 ⟨rfl, k5⟩
  have q5 := HC4.out.next k5
  have HC5 : Hid (CellsF w5 w2.heap.size [.slice a0 n0 c0, .slice a1 n1 c1, .slice a2 4 c2, .int .i64 4]) := q5
  have HV5 : Hid (Have w5 a0 n0 c0 a1 n1 c1 a2 4 c2 awL) := HV4.out.next k5
  have HB5 : Hid (Below w.heap.size w w5) := Below.next HB4.out k5
  have t0 := q5.cs 0 _ rfl
  have t1 := q5.cs 1 _ rfl
  have t2 := q5.cs 2 _ rfl
  have t3 := q5.cs 3 _ rfl
  have t0' := fun z => (q5.next (below1 w5 z)).cs 0 _ rfl
  have t1' := fun z => (q5.next (below1 w5 z)).cs 1 _ rfl
  have t2' := fun z => (q5.next (below1 w5 z)).cs 2 _ rfl
  have t3' := fun z => (q5.next (below1 w5 z)).cs 3 _ rfl
  have hfl := field_on (.string ⟨#[115]⟩) (.string ⟨#[121]⟩) (.int .i64 1) (.int .i64 0)
  clear k5 q5 y0 y1 y2 y3
  go_wp2_with fail
  first
    | refine Calls.mono (HCK.out _ _ _ _ _ _ _ _ _ HV5.out) ?_
    | refine Calls.mono (HCK.out _ _ _ _ _ _ _ _ _ (HV5.out.next (below1 _ _))) ?_
  rintro e w6 ⟨rfl, k6⟩
  have HB6 : Hid (Below w.heap.size w w6) := by first | exact Below.next HB5.out k6 | exact Below.next (Below.next HB5.out (below1 _ _)) k6
  clear k6
  go_wp2_with fail
  go_ret
  exact ⟨rfl, HB6.out⟩
end Go.Proofs.Ytgbomgfffhfliaa
