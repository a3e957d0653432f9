/- Contracts of crc.Sum, the document's More and Sum, and of the statements' own helpers light and nine. -/
import Derived.Test.YtehaancdadmdkaaCSum
namespace Go.Proofs.Ytehaancdadmdkaa
open Go.ChangeShapes Go.WideShapes Go.ChangeAt Go.RowKit
set_option linter.unusedVariables false
set_option maxRecDepth 100000
set_option maxRecDepth 100000

theorem low_zero : low 0 = 0 := rfl
theorem sum_is (s : ByteArray) (hs : s.size ≤ 140737488351232) (w : World) :
    Calls Try.prog 57 #[.string s] w fun e w' => e = .returned (.int .i64 (sumOf s.data.toList : Nat)) ∧ w' = w := by
  have H : Hid (∀ w, Calls Try.prog 63 #[.int .i64 0, .string s] w fun e w' => e = .returned (.int .i64 (sumOf s.data.toList : Nat)) ∧ w' = w) := fun w => more_is 0 s hs w
  generalize sumOf s.data.toList = R at *
  go_enter Try.func57, Try.ntmps57
  go_wp2_with fail
  refine (H.out _).mono ?_; rintro e w1 ⟨rfl, rfl⟩
  go_wp2
  go_ret
  exact ⟨rfl, rfl⟩

theorem nine_sum : sumOf [49, 50, 51, 52, 53, 54, 55, 56, 57] = 3421780262 := by decide +kernel
theorem i64_xor (a b : Nat) (ha : a < 4294967296) (hb : b < 4294967296) : bits .xor .i64 (a : Int) (b : Int) = ((a ^^^ b : Nat) : Int) := by
  have hx := xor_lt32 ha hb
  have h1 : (BitVec.ofInt 64 (a : Int)).toNat = a := by rw [BitVec.toNat_ofInt]; omega
  have h2 : (BitVec.ofInt 64 (b : Int)).toNat = b := by rw [BitVec.toNat_ofInt]; omega
  show IntKind.i64.wrap ((BitVec.ofInt 64 (a : Int) ^^^ BitVec.ofInt 64 (b : Int)).toNat : Nat) = _
  rw [BitVec.toNat_xor, h1, h2, IntKind.wrap_i64]
  omega
theorem and1 (n : Int) : bits .and .i64 n 1 = n % 2 := by
  have h : (BitVec.ofInt 64 1).toNat = 2 ^ 1 - 1 := by decide
  have key : (BitVec.ofInt 64 n &&& BitVec.ofInt 64 1).toNat = (n % ((2 ^ 64 : Nat) : Int)).toNat % 2 ^ 1 := by
    rw [BitVec.toNat_and, BitVec.toNat_ofInt, h, Nat.and_two_pow_sub_one_eq_mod]
  show IntKind.i64.wrap ((BitVec.ofInt 64 n &&& BitVec.ofInt 64 1).toNat : Nat) = n % 2
  rw [key, IntKind.wrap_i64]
  omega
theorem and_low (n : Int) : bits .and .i64 n 4294967295 = (low n : Int) := by
  have h : (BitVec.ofInt 64 4294967295).toNat = 2 ^ 32 - 1 := by decide
  have key : (BitVec.ofInt 64 n &&& BitVec.ofInt 64 4294967295).toNat = (n % ((2 ^ 64 : Nat) : Int)).toNat % 2 ^ 32 := by
    rw [BitVec.toNat_and, BitVec.toNat_ofInt, h, Nat.and_two_pow_sub_one_eq_mod]
  show IntKind.i64.wrap ((BitVec.ofInt 64 n &&& BitVec.ofInt 64 4294967295).toNat : Nat) = (low n : Int)
  unfold low
  rw [key, IntKind.wrap_i64]
  omega

set_option maxHeartbeats 800000 in
theorem refMore_is (n : Int) (s : ByteArray) (hs : s.size ≤ 140737488351232) (w : World) :
    Calls Try.prog 62 #[.int .i64 n, .string s] w fun e w' => e = .returned (.int .i64 (moreOf (low n) s.data.toList : Nat)) ∧ w' = w := by
  have hl := low_lt n
  have el := and_low n
  have x0 : bits .xor .i64 (low n : Int) 4294967295 = _ := i64_xor (low n) 4294967295 hl (by omega)
  have hx : low n ^^^ 4294967295 < 4294967296 := xor_lt32 hl (by omega)
  have HM : Hid (moreOf (low n) s.data.toList = run (low n ^^^ 4294967295) s.data.toList ^^^ 4294967295) := rfl
  have hR := moreOf_lt s.data.toList hl
  generalize moreOf (low n) s.data.toList = R at *
  generalize low n = m at *
  generalize m ^^^ 4294967295 = d at *
  go_enter Try.func62, Try.ntmps62
  go_wp2
  go_loop [5, 6] (fun t i => ∃ k : Nat, k ≤ s.size ∧ i = .int .i64 k ∧ t = .int .i64 (run d (s.data.toList.take k) : Nat)) (fun _ i => s.size - (intOf i).toNat)
  case atStart => exact ⟨0, Nat.zero_le _, rfl, rfl⟩
  case round =>
    obtain ⟨k, hk, rfl, rfl⟩ := hrel
    have hr := run_lt (s.data.toList.take k) hx
    by_cases hlt : k < s.size
    · have HT : Hid (run d (s.data.toList.take (k + 1)) = steps 8 (run d (s.data.toList.take k) ^^^ s[k].toNat)) := by
        show _ = _
        rw [take_snoc s k hlt, run_snoc]
      generalize run d (s.data.toList.take k) = z at *
      have hb := byte_lt s[k]
      have x2 := i64_xor z s[k].toNat hr (by omega)
      have hy : z ^^^ s[k].toNat < 4294967296 := xor_lt32 hr (by omega)
      generalize hv : s[k].toNat = v at *
      generalize z ^^^ v = y at *
      go_wp2
      go_loop [5, 7] (fun t i => ∃ j : Nat, j ≤ 8 ∧ i = .int .i64 j ∧ t = .int .i64 (steps j y : Nat)) (fun _ i => 8 - (intOf i).toNat)
      case atStart => exact ⟨0, Nat.zero_le _, rfl, rfl⟩
      case round =>
        obtain ⟨j, hj, rfl, rfl⟩ := hrel
        by_cases hjl : j < 8
        · have hs' := steps_lt j hy
          have HN : Hid (steps (j + 1) y = step (steps j y)) := rfl
          generalize steps j y = q at *
          have a1 := and1 (q : Int)
          have x1 : bits .xor .i64 ((q : Int) / 2) 3988292384 = ((q / 2 ^^^ 3988292384 : Nat) : Int) := i64_xor (q / 2) 3988292384 (by omega) (by omega)
          by_cases hz : q % 2 = 1
          · have hzi : (q : Int) % 2 = 1 := by omega
            rw [hzi] at a1
            have HS : Hid (step q = q / 2 ^^^ 3988292384) := if_pos hz
            go_wp2
            go_round
            case rel => exact ⟨j + 1, by omega, by go_num, by rw [HN.out, HS.out]⟩
            case measure => simp [intOf]; omega
          · have hzi : (q : Int) % 2 = 0 := by omega
            rw [hzi] at a1
            have HS : Hid (step q = q / 2) := if_neg hz
            go_wp2
            go_round
            case rel => exact ⟨j + 1, by omega, by go_num, by rw [HN.out, HS.out]; rfl⟩
            case measure => simp [intOf]; omega
        · obtain rfl : j = 8 := by omega
          go_wp2
          go_round
          case rel => exact ⟨k + 1, by omega, by go_num, by rw [HT.out]⟩
          case measure => simp [intOf]; omega
    · obtain rfl : k = s.size := by omega
      rw [take_all] at *
      have x1 : bits .xor .i64 (run d s.data.toList : Int) 4294967295 = _ := i64_xor (run d s.data.toList) 4294967295 hr (by omega)
      rw [← HM.out] at x1
      clear HM
      generalize run d s.data.toList = z at *
      go_wp2
      go_ret
      exact ⟨rfl, rfl⟩

theorem refSum_is (s : ByteArray) (hs : s.size ≤ 140737488351232) (w : World) :
    Calls Try.prog 55 #[.string s] w fun e w' => e = .returned (.int .i64 (sumOf s.data.toList : Nat)) ∧ w' = w := by
  have H : Hid (∀ w, Calls Try.prog 62 #[.int .i64 0, .string s] w fun e w' => e = .returned (.int .i64 (sumOf s.data.toList : Nat)) ∧ w' = w) := fun w => refMore_is 0 s hs w
  generalize sumOf s.data.toList = R at *
  go_enter Try.func55, Try.ntmps55
  go_wp2_with fail
  refine (H.out _).mono ?_; rintro e w1 ⟨rfl, rfl⟩
  go_wp2
  go_ret
  exact ⟨rfl, rfl⟩
end Go.Proofs.Ytehaancdadmdkaa
