/- Sums of texts. -/
import Derived.Test.YtgjeobmbfeinnaaBase
import Derived.Handy
import Derived.Laws.BitsAll
import Derived.Lib.Strings
namespace Go.Proofs.Ytgjeobmbfeinnaa.Crc
open Go.ChangeShapes Go.WideShapes Go.ChangeAt Go.RowKit
set_option linter.unusedVariables false
set_option maxRecDepth 100000
set_option maxRecDepth 100000

/-- One bit more. -/
def step (c : Nat) : Nat := if c % 2 = 1 then c / 2 ^^^ 3988292384 else c / 2
def steps : Nat → Nat → Nat
  | 0, c => c
  | n + 1, c => step (steps n c)
/-- The bytes of a text more. -/
def run (c : Nat) (l : List UInt8) : Nat := l.foldl (fun c b => steps 8 (c ^^^ b.toNat)) c
def moreOf (n : Nat) (l : List UInt8) : Nat := run (n ^^^ 4294967295) l ^^^ 4294967295
def sumOf (l : List UInt8) : Nat := moreOf 0 l

theorem xor_lt32 {a b : Nat} (ha : a < 4294967296) (hb : b < 4294967296) : a ^^^ b < 4294967296 := Nat.xor_lt_two_pow (n := 32) (by omega) (by omega)
theorem step_lt {c : Nat} (h : c < 4294967296) : step c < 4294967296 := by
  unfold step
  split
  · exact xor_lt32 (by omega) (by omega)
  · omega
theorem steps_lt {c : Nat} (n : Nat) (h : c < 4294967296) : steps n c < 4294967296 := by
  induction n with
  | zero => exact h
  | succ n ih => exact step_lt ih
theorem byte_lt (b : UInt8) : b.toNat < 256 := b.toNat_lt
theorem run_lt {c : Nat} (l : List UInt8) (h : c < 4294967296) : run c l < 4294967296 := by
  unfold run
  induction l generalizing c with
  | nil => exact h
  | cons b l ih => exact ih (steps_lt 8 (xor_lt32 h (by have := byte_lt b; omega)))
theorem run_snoc (c : Nat) (l : List UInt8) (b : UInt8) : run c (l ++ [b]) = steps 8 (run c l ^^^ b.toNat) := by
  unfold run; rw [List.foldl_append, List.foldl_cons, List.foldl_nil]
theorem run_append (c : Nat) (l m : List UInt8) : run c (l ++ m) = run (run c l) m := by
  unfold run; rw [List.foldl_append]
theorem run_cons (c : Nat) (b : UInt8) (l : List UInt8) : run c (b :: l) = run (steps 8 (c ^^^ b.toNat)) l := by
  unfold run; rw [List.foldl_cons]
theorem moreOf_lt {n : Nat} (l : List UInt8) (h : n < 4294967296) : moreOf n l < 4294967296 :=
  xor_lt32 (run_lt l (xor_lt32 h (by omega))) (by omega)
theorem sumOf_lt (l : List UInt8) : sumOf l < 4294967296 := moreOf_lt l (by omega)
theorem xor_twice (a b : Nat) : a ^^^ b ^^^ b = a := by rw [Nat.xor_assoc, Nat.xor_self, Nat.xor_zero]
theorem moreOf_sum (l m : List UInt8) : moreOf (sumOf l) m = sumOf (l ++ m) := by
  unfold sumOf moreOf
  rw [xor_twice, run_append]

/-! ### They go with exclusive or -/
theorem xor_nought {a b : Nat} : a ^^^ b = 0 ↔ a = b := by
  constructor
  · intro h
    rw [← xor_twice a b, h, Nat.zero_xor]
  · rintro rfl
    exact Nat.xor_self a
theorem xor_place {b : Nat} (a : Nat) (h : b < 256) : 256 * a ^^^ b = 256 * a + b := by
  have h1 : (256 * a ^^^ b) / 2 ^ 8 = 256 * a / 2 ^ 8 ^^^ b / 2 ^ 8 := Nat.xor_div_two_pow
  have h2 : (256 * a ^^^ b) % 2 ^ 8 = 256 * a % 2 ^ 8 ^^^ b % 2 ^ 8 := Nat.xor_mod_two_pow
  have e1 : 256 * a / 2 ^ 8 = a := by omega
  have e2 : b / 2 ^ 8 = 0 := by omega
  have e3 : 256 * a % 2 ^ 8 = 0 := by omega
  have e4 : b % 2 ^ 8 = b := by omega
  rw [e1, e2, Nat.xor_zero] at h1
  rw [e3, e4, Nat.zero_xor] at h2
  omega
theorem step_xor (a b : Nat) : step (a ^^^ b) = step a ^^^ step b := by
  have h1 : (a ^^^ b) / 2 = a / 2 ^^^ b / 2 := Nat.xor_div_two
  have h2 : (a ^^^ b) % 2 = (a + b) % 2 := by
    have h := @Nat.xor_mod_two_eq_one a b
    by_cases c : (a ^^^ b) % 2 = 1
    · have := h.1 c
      omega
    · have := mt h.2 c
      omega
  unfold step
  rw [h1, h2]
  generalize a / 2 = x
  generalize b / 2 = y
  generalize 3988292384 = m
  rcases Nat.mod_two_eq_zero_or_one a with ha | ha <;> rcases Nat.mod_two_eq_zero_or_one b with hb | hb
  · rw [if_neg (by omega), if_neg (by omega), if_neg (by omega)]
  · rw [if_pos (by omega), if_neg (by omega), if_pos (by omega), Nat.xor_assoc]
  · rw [if_pos (by omega), if_pos (by omega), if_neg (by omega), Nat.xor_assoc, Nat.xor_assoc, Nat.xor_comm y m]
  · rw [if_neg (by omega), if_pos (by omega), if_pos (by omega), Nat.xor_assoc x m, Nat.xor_comm m (y ^^^ m), Nat.xor_assoc, Nat.xor_self, Nat.xor_zero]
theorem steps_xor (n a b : Nat) : steps n (a ^^^ b) = steps n a ^^^ steps n b := by
  induction n with
  | zero => rfl
  | succ n ih => show step _ = step _ ^^^ step _; rw [ih, step_xor]
theorem step_nought {c : Nat} (h : c < 4294967296) (e : step c = 0) : c = 0 := by
  unfold step at e
  split at e
  · have := xor_nought.1 e
    omega
  · omega
theorem steps_nought {c : Nat} (n : Nat) (h : c < 4294967296) (e : steps n c = 0) : c = 0 := by
  induction n with
  | zero => exact e
  | succ n ih => exact ih (step_nought (steps_lt n h) e)
theorem steps_inj {a b : Nat} (n : Nat) (ha : a < 4294967296) (hb : b < 4294967296) (e : steps n a = steps n b) : a = b := by
  have h : steps n (a ^^^ b) = 0 := by rw [steps_xor, e, Nat.xor_self]
  exact xor_nought.1 (steps_nought n (xor_lt32 ha hb) h)
theorem step_double (c : Nat) : step (2 * c) = c := by
  unfold step
  rw [if_neg (by omega)]; omega
theorem steps_succ' (n c : Nat) : steps (n + 1) c = steps n (step c) := by
  induction n with
  | zero => rfl
  | succ n ih => show step (steps (n + 1) c) = step (steps n (step c)); rw [ih]
theorem steps_double (n c : Nat) : steps n (2 ^ n * c) = c := by
  induction n generalizing c with
  | zero => simp [steps]
  | succ n ih =>
    have e : 2 ^ (n + 1) * c = 2 * (2 ^ n * c) := by rw [Nat.pow_succ, Nat.mul_comm (2 ^ n) 2, Nat.mul_assoc]
    rw [steps_succ', e, step_double, ih]
theorem steps8 (c : Nat) : steps 8 (256 * c) = c := steps_double 8 c

set_option maxRecDepth 100000

theorem xor32 (a b : Nat) (ha : a < 4294967296) (hb : b < 4294967296) : bits .xor .u32 (a : Int) (b : Int) = ((a ^^^ b : Nat) : Int) := u32_xor_nat a b ha hb
theorem not32 (a : Nat) (ha : a < 4294967296) : bits .xor .u32 IntKind.u32.max (a : Int) = ((a ^^^ 4294967295 : Nat) : Int) := by
  rw [Nat.xor_comm]
  exact u32_xor_nat 4294967295 a (by omega) ha
theorem and32 (a : Nat) (ha : a < 4294967296) : bits .and .u32 (a : Int) 1 = ((a % 2 : Nat) : Int) := by
  have h := u32_and_nat a 1 ha (by omega)
  rwa [Nat.and_one_is_mod] at h

set_option maxHeartbeats 400000 in
theorem byteMore_is (c : Nat) (b : UInt8) (hc : c < 4294967296) (w : World) :
    Calls Try.prog 45 #[.int .u32 c, .int .u8 (b.toNat : Int)] w fun e w' => e = .returned (.int .u32 (steps 8 (c ^^^ b.toNat) : Nat)) ∧ w' = w := by
  have hb := byte_lt b
  have x0 := xor32 c b.toNat hc (by omega)
  have hx : c ^^^ b.toNat < 4294967296 := xor_lt32 hc (by omega)
  generalize b.toNat = y at *
  generalize c ^^^ y = d at *
  go_enter Try.func45, Try.ntmps45
  go_wp2
  go_loop [0, 10] (fun t i => ∃ k : Nat, k ≤ 8 ∧ i = .int .i64 k ∧ t = .int .u32 (steps k d : Nat)) (fun _ i => 8 - (intOf i).toNat)
  case atStart => exact ⟨0, Nat.zero_le _, rfl, rfl⟩
  case round =>
    obtain ⟨k, hk, rfl, rfl⟩ := hrel
    by_cases hlt : k < 8
    · have hs := steps_lt k hx
      have HN : Hid (steps (k + 1) d = step (steps k d)) := rfl
      generalize steps k d = z at *
      have a1 := and32 z hs
      have x1 : bits .xor .u32 ((z : Int) / 2) 3988292384 = ((z / 2 ^^^ 3988292384 : Nat) : Int) := xor32 (z / 2) 3988292384 (by omega) (by omega)
      by_cases hz : z % 2 = 1
      · rw [hz] at a1
        have HS : Hid (step z = z / 2 ^^^ 3988292384) := if_pos hz
        go_wp2
        go_round
        case rel => exact ⟨k + 1, by omega, by go_num, by rw [HN.out, HS.out]⟩
        case measure => simp [intOf]; omega
      · have hz0 : z % 2 = 0 := by omega
        rw [hz0] at a1
        have HS : Hid (step z = z / 2) := if_neg hz
        go_wp2
        go_round
        case rel => exact ⟨k + 1, by omega, by go_num, by rw [HN.out, HS.out]; rfl⟩
        case measure => simp [intOf]; omega
    · obtain rfl : k = 8 := by omega
      go_wp2
      go_ret
      exact ⟨rfl, rfl⟩

theorem take_snoc (s : ByteArray) (k : Nat) (h : k < s.size) : s.data.toList.take (k + 1) = s.data.toList.take k ++ [s[k]] := by
  rw [List.take_succ_eq_append_getElem (by simpa using h)]; rfl
theorem len_of (s : ByteArray) : s.data.toList.length = s.size := by simp
theorem take_all (s : ByteArray) : s.data.toList.take s.size = s.data.toList := List.take_of_length_le (by simp)

/-- The lowest 32 bits of a number. -/
def low (n : Int) : Nat := (n % 4294967296).toNat
theorem low_lt (n : Int) : low n < 4294967296 := by unfold low; omega
theorem low_is (n : Int) : n % 4294967296 = (low n : Int) := by unfold low; omega
theorem low_nat {n : Nat} (h : n < 4294967296) : low (n : Int) = n := by unfold low; omega

set_option maxHeartbeats 400000 in
theorem more_is (n : Int) (s : ByteArray) (hs : s.size ≤ 140737488351232) (w : World) :
    Calls Try.prog 43 #[.int .i64 n, .string s] w fun e w' => e = .returned (.int .i64 (moreOf (low n) s.data.toList : Nat)) ∧ w' = w := by
  have hl := low_lt n
  have el := low_is n
  have x0 := not32 (low n) hl
  have hx : low n ^^^ 4294967295 < 4294967296 := xor_lt32 hl (by omega)
  have HM : Hid (moreOf (low n) s.data.toList = run (low n ^^^ 4294967295) s.data.toList ^^^ 4294967295) := rfl
  have hR := moreOf_lt s.data.toList hl
  generalize moreOf (low n) s.data.toList = R at *
  generalize low n = m at *
  generalize m ^^^ 4294967295 = d at *
  go_enter Try.func43, Try.ntmps43
  go_wp2
  go_loop [5, 12] (fun t i => ∃ k : Nat, k ≤ s.size ∧ i = .int .i64 k ∧ t = .int .u32 (run d (s.data.toList.take k) : Nat)) (fun _ i => s.size - (intOf i).toNat)
  case atStart => exact ⟨0, Nat.zero_le _, rfl, rfl⟩
  case round =>
    obtain ⟨k, hk, rfl, rfl⟩ := hrel
    have hr := run_lt (s.data.toList.take k) hx
    by_cases hlt : k < s.size
    · have HT : Hid (run d (s.data.toList.take (k + 1)) = steps 8 (run d (s.data.toList.take k) ^^^ s[k].toNat)) := by
        show _ = _
        rw [take_snoc s k hlt, run_snoc]
      generalize run d (s.data.toList.take k) = z at *
      go_wp2_with fail
      refine (byteMore_is z s[k] hr _).mono ?_; rintro e w1 ⟨rfl, rfl⟩
      go_wp2
      go_round
      case rel => exact ⟨k + 1, by omega, by go_num, by rw [HT.out]⟩
      case measure => simp [intOf]; omega
    · obtain rfl : k = s.size := by omega
      rw [take_all] at *
      have x1 := not32 (run d s.data.toList) hr
      rw [← HM.out] at x1
      clear HM
      generalize run d s.data.toList = z at *
      go_wp2
      go_ret
      exact ⟨rfl, rfl⟩
set_option maxRecDepth 100000

theorem low_zero : low 0 = 0 := rfl
theorem sum_is (s : ByteArray) (hs : s.size ≤ 140737488351232) (w : World) :
    Calls Try.prog 41 #[.string s] w fun e w' => e = .returned (.int .i64 (sumOf s.data.toList : Nat)) ∧ w' = w := by
  have H : Hid (∀ w, Calls Try.prog 43 #[.int .i64 0, .string s] w fun e w' => e = .returned (.int .i64 (sumOf s.data.toList : Nat)) ∧ w' = w) := fun w => more_is 0 s hs w
  generalize sumOf s.data.toList = R at *
  go_enter Try.func41, Try.ntmps41
  go_wp2_with fail
  refine (H.out _).mono ?_; rintro e w1 ⟨rfl, rfl⟩
  go_wp2
  go_ret
  exact ⟨rfl, rfl⟩

end Go.Proofs.Ytgjeobmbfeinnaa.Crc
