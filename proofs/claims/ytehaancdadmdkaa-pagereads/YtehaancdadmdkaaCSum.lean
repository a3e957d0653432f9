/- Contracts of crc.byteMore, crc.More and crc.Sum. -/
import Derived.Test.YtehaancdadmdkaaChecked
import Derived.Test.YtehaancdadmdkaaCPoly
import Derived.WalkKit
import Derived.ProofKit
import Derived.OpenShut
import Derived.WalkSpells
import Derived.Handy
import Derived.Lib.Strings
import Derived.Laws.BitsAll
namespace Go.Proofs.Ytehaancdadmdkaa
open Go.ChangeShapes Go.WideShapes Go.ChangeAt Go.RowKit
set_option linter.unusedVariables false
set_option maxRecDepth 100000
set_option maxRecDepth 100000

theorem xor32 (a b : Nat) (ha : a < 4294967296) (hb : b < 4294967296) : bits .xor .u32 (a : Int) (b : Int) = ((a ^^^ b : Nat) : Int) := u32_xor_nat a b ha hb
theorem not32 (a : Nat) (ha : a < 4294967296) : bits .xor .u32 IntKind.u32.max (a : Int) = ((a ^^^ 4294967295 : Nat) : Int) := by
  rw [Nat.xor_comm]
  exact u32_xor_nat 4294967295 a (by omega) ha
theorem and32 (a : Nat) (ha : a < 4294967296) : bits .and .u32 (a : Int) 1 = ((a % 2 : Nat) : Int) := by
  have h := u32_and_nat a 1 ha (by omega)
  rwa [Nat.and_one_is_mod] at h

set_option maxHeartbeats 400000 in
theorem byteMore_is (c : Nat) (b : UInt8) (hc : c < 4294967296) (w : World) :
    Calls Try.prog 64 #[.int .u32 c, .int .u8 (b.toNat : Int)] w fun e w' => e = .returned (.int .u32 (steps 8 (c ^^^ b.toNat) : Nat)) ∧ w' = w := by
  have hb := byte_lt b
  have x0 := xor32 c b.toNat hc (by omega)
  have hx : c ^^^ b.toNat < 4294967296 := xor_lt32 hc (by omega)
  generalize b.toNat = y at *
  generalize c ^^^ y = d at *
  go_enter Try.func64, Try.ntmps64
  go_wp2
  go_loop [0, 10] (fun t i => ∃ k : Nat, k ≤ 8 ∧ i = .int .i64 k ∧ t = .int .u32 (steps k d : Nat)) (fun _ i => 8 - (intOf i).toNat)
  case atStart => exact ⟨0, Nat.zero_le _, rfl, rfl⟩
  case round =>
    obtain ⟨k, hk, rfl, rfl⟩ := hrel
    by_cases hlt : k < 8
    · have hs := steps_lt k hx
      have HN : Hid (steps (k + 1) d = step (steps k d)) := rfl
      generalize steps k d = z at *
      have a1 := and32 z hs
      have x1 : bits .xor .u32 ((z : Int) / 2) 3988292384 = ((z / 2 ^^^ 3988292384 : Nat) : Int) := xor32 (z / 2) 3988292384 (by omega) (by omega)
      by_cases hz : z % 2 = 1
      · rw [hz] at a1
        have HS : Hid (step z = z / 2 ^^^ 3988292384) := if_pos hz
        go_wp2
        go_round
        case rel => exact ⟨k + 1, by omega, by go_num, by rw [HN.out, HS.out]⟩
        case measure => simp [intOf]; omega
      · have hz0 : z % 2 = 0 := by omega
        rw [hz0] at a1
        have HS : Hid (step z = z / 2) := if_neg hz
        go_wp2
        go_round
        case rel => exact ⟨k + 1, by omega, by go_num, by rw [HN.out, HS.out]; rfl⟩
        case measure => simp [intOf]; omega
    · obtain rfl : k = 8 := by omega
      go_wp2
      go_ret
      exact ⟨rfl, rfl⟩

theorem take_snoc (s : ByteArray) (k : Nat) (h : k < s.size) : s.data.toList.take (k + 1) = s.data.toList.take k ++ [s[k]] := by
  rw [List.take_succ_eq_append_getElem (by simpa using h)]; rfl
theorem len_of (s : ByteArray) : s.data.toList.length = s.size := by simp
theorem take_all (s : ByteArray) : s.data.toList.take s.size = s.data.toList := List.take_of_length_le (by simp)

/-- The lowest 32 bits of a number. -/
def low (n : Int) : Nat := (n % 4294967296).toNat
theorem low_lt (n : Int) : low n < 4294967296 := by unfold low; omega
theorem low_is (n : Int) : n % 4294967296 = (low n : Int) := by unfold low; omega
theorem low_nat {n : Nat} (h : n < 4294967296) : low (n : Int) = n := by unfold low; omega

set_option maxHeartbeats 400000 in
theorem more_is (n : Int) (s : ByteArray) (hs : s.size ≤ 140737488351232) (w : World) :
    Calls Try.prog 63 #[.int .i64 n, .string s] w fun e w' => e = .returned (.int .i64 (moreOf (low n) s.data.toList : Nat)) ∧ w' = w := by
  have hl := low_lt n
  have el := low_is n
  have x0 := not32 (low n) hl
  have hx : low n ^^^ 4294967295 < 4294967296 := xor_lt32 hl (by omega)
  have HM : Hid (moreOf (low n) s.data.toList = run (low n ^^^ 4294967295) s.data.toList ^^^ 4294967295) := rfl
  have hR := moreOf_lt s.data.toList hl
  generalize moreOf (low n) s.data.toList = R at *
  generalize low n = m at *
  generalize m ^^^ 4294967295 = d at *
  go_enter Try.func63, Try.ntmps63
  go_wp2
  go_loop [5, 12] (fun t i => ∃ k : Nat, k ≤ s.size ∧ i = .int .i64 k ∧ t = .int .u32 (run d (s.data.toList.take k) : Nat)) (fun _ i => s.size - (intOf i).toNat)
  case atStart => exact ⟨0, Nat.zero_le _, rfl, rfl⟩
  case round =>
    obtain ⟨k, hk, rfl, rfl⟩ := hrel
    have hr := run_lt (s.data.toList.take k) hx
    by_cases hlt : k < s.size
    · have HT : Hid (run d (s.data.toList.take (k + 1)) = steps 8 (run d (s.data.toList.take k) ^^^ s[k].toNat)) := by
        show _ = _
        rw [take_snoc s k hlt, run_snoc]
      generalize run d (s.data.toList.take k) = z at *
      go_wp2_with fail
      refine (byteMore_is z s[k] hr _).mono ?_; rintro e w1 ⟨rfl, rfl⟩
      go_wp2
      go_round
      case rel => exact ⟨k + 1, by omega, by go_num, by rw [HT.out]⟩
      case measure => simp [intOf]; omega
    · obtain rfl : k = s.size := by omega
      rw [take_all] at *
      have x1 := not32 (run d s.data.toList) hr
      rw [← HM.out] at x1
      clear HM
      generalize run d s.data.toList = z at *
      go_wp2
      go_ret
      exact ⟨rfl, rfl⟩
end Go.Proofs.Ytehaancdadmdkaa
