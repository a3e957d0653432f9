/- Contract of the document's Sum (package quaysideref01). -/
import Derived.Test.YtoieipodmckmiaaSum
import Derived.Deep.RegionWith
namespace Go.Proofs.Ytoieipodmckmiaa
open Go.ChangeShapes Go.WideShapes Go.ChangeAt Go.RowKit
set_option linter.unusedVariables false

theorem bcell {W w1 : World} (hb : Below W.heap.size W w1) : (∀ b o, b < W.heap.size → w1.cell? ⟨b, o, none⟩ = W.cell? ⟨b, o, none⟩) ∧ (∀ b o, b < W.heap.size → w1.frozen? ⟨b, o, none⟩ = W.frozen? ⟨b, o, none⟩) :=
  ⟨fun b o h => hb.cell (p := ⟨b, o, none⟩) h, fun b o h => hb.frozen (p := ⟨b, o, none⟩) h⟩

theorem Below.of_drew {B : Nat} {w w' : World} (h : Below B w.drew w') : Below B w w' := ⟨h.os, h.tape, h.output, h.size, h.block⟩

theorem hi_wide (x : Int) (k : Nat) (hk : k ≤ 140737488351232) (h : -9223372036854775808 * (k : Int) ≤ x ∧ x ≤ 9223372036854775808 * (k : Int)) : -1152921504606846976 ≤ hi x ∧ hi x ≤ 1152921504606846976 := by unfold hi; omega

theorem refSum_none (a : Option Addr) (cap : Nat) (w : World) :
    Calls Try.prog 23 #[.slice a 0 cap] w fun e w' => e = .returned (.tuple #[.int .i64 (vl 0), .int .i64 (er 0)]) ∧ Below w.heap.size w w' := by
  go_enter Try.func23, Try.ntmps23
  go_wp2
  refine wp_loop_rounds 1 ?_
  rw [rounds_succ]
  go_wp2_with fail
  refine (number_any 0 _).mono ?_; rintro e w1 ⟨rfl, k1⟩
  go_wp2_with fail
  go_ret2
  exact ⟨rfl, bnext ((Below.refl _ _).alloc (Nat.le_refl _) _) k1⟩

set_option maxHeartbeats 1000000 in
theorem refSum_row (b off cap : Nat) (zs : List Int) (w : World) (hl : zs.length ≤ 140737488351232) (hb : b < w.heap.size)
    (hc : ∀ k, k < zs.length → w.cell? ⟨b, off + k, none⟩ = some (.int .i64 (zs[k]?.getD 0)))
    (hz : ∀ k, k < zs.length → -9223372036854775808 ≤ zs[k]?.getD 0 ∧ zs[k]?.getD 0 ≤ 9223372036854775807) :
    Calls Try.prog 23 #[.slice (some ⟨b, off, none⟩) zs.length cap] w fun e w' => e = .returned (.tuple #[.int .i64 (vl zs.sum), .int .i64 (er zs.sum)]) ∧ Below w.heap.size w w' := by
  have HC : Hid (∀ k, k < zs.length → w.cell? ⟨b, off + k, none⟩ = some (.int .i64 (zs[k]?.getD 0))) := hc
  have HZ : Hid (∀ k, k < zs.length → -9223372036854775808 ≤ zs[k]?.getD 0 ∧ zs[k]?.getD 0 ≤ 9223372036854775807) := hz
  clear hc hz
  obtain ⟨n, hn⟩ : ∃ n, n = zs.length := ⟨_, rfl⟩
  have HN : Hid (n = zs.length) := hn
  rw [← hn] at hl ⊢
  clear hn
  go_enter Try.func23, Try.ntmps23
  go_wp2
  go_loopw [5] (fun i wr => ∃ k : Nat, k ≤ n ∧ i = .int .i64 k ∧ Pair wr w.heap.size (upto zs k) ∧ (-9223372036854775808 * (k : Int) ≤ upto zs k ∧ upto zs k ≤ 9223372036854775808 * (k : Int)) ∧ Below w.heap.size w wr)
    (fun i _ => n - (intOf i).toNat)
  case atStart => exact ⟨0, Nat.zero_le _, rfl, Pair.zero_at _ _ _ rfl rfl, by simp [upto_zero], (Below.refl _ _).alloc (Nat.le_refl _) _⟩
  case round =>
    obtain ⟨k, hk, rfl, pS, hu, KB⟩ := hrel
    by_cases c : k < n
    · have hcell := (KB.cell (p := ⟨b, off + k, none⟩) hb).trans (HC.out k (by have := HN.out; omega))
      have hzb := HZ.out k (by have := HN.out; omega)
      have HS : Hid (upto zs (k + 1) = upto zs k + zs[k]?.getD 0) := upto_succ zs k (by have := HN.out; omega)
      generalize zs[k]?.getD 0 = z at hcell hzb HS
      have hw := hi_wide _ k (by omega) hu
      have hwz := hi_small z (by omega)
      have HU : Hid (-9223372036854775808 * (k : Int) ≤ upto zs k ∧ upto zs k ≤ 9223372036854775808 * (k : Int)) := hu
      obtain ⟨s0, s1, s2, s3, s4⟩ := id pS
      clear hu
      go_wp2_with fail
      go_region_with (first
        | (go_at_call 32; refine (of_any z hzb _).mono ?_; rintro e w1 ⟨rfl, k1⟩; have pS1 := pS.below (Below.of_drew k1); obtain ⟨a0, a1, a2, a3, a4⟩ := id pS1)
        | (go_at_call 31; refine (plus_any (upto zs k) z hw hwz _).mono ?_; rintro e w2 ⟨rfl, k2⟩; have pS2 := pS1.below k2; obtain ⟨b0, b1, b2, b3, b4⟩ := id pS2))
      all_goals
        go_wp2_with fail
        go_roundw
        case rel =>
          refine ⟨k + 1, by omega, by go_num, ?_, ?_, below_two (bnext (bnext KB (Below.of_drew k1)) k2) (Nat.le_refl _) _ _⟩
          · rw [HS.out]; exact pS2.put (upto zs k + z)
          · have h1 := HS.out; have h2 := HU.out; rw [h1]; omega
        case measure => simp [intOf]; omega
    · obtain rfl : k = n := by omega
      have he : upto zs k = zs.sum := by rw [HN.out, upto_all]
      rw [he] at pS
      clear hu he
      obtain ⟨s0, s1, s2, s3, s4⟩ := id pS
      go_wp2_with fail
      refine (number_any zs.sum _).mono ?_; rintro e w1 ⟨rfl, k1⟩
      go_wp2_with fail
      go_ret2
      exact ⟨rfl, bnext KB k1⟩
end Go.Proofs.Ytoieipodmckmiaa
