/- The plain mathematics of the sums: one bit, eight bits, the bytes of a text; that they go with exclusive or, and that nothing but nought becomes nought. Contracts of crc.byteMore, crc.More and crc.Sum. Contracts of crc.Sum, the document's More and Sum, and of the statements' own helpers light and nine. Contracts of crc.Take, the document's Take, crc.Put and the document's Put. Contracts of crc.Put and the document's Put. -/
import Derived.WalkKit
import Derived.Test.YtkhpmmmildcceaaGreatChecked
import Derived.ProofKit
import Derived.OpenShut
import Derived.WalkSpells
import Derived.Handy
import Derived.Lib.Strings
import Derived.Laws.BitsAll
import Derived.BigQuiet
namespace Go.Proofs.YtkhpmmmildcceaaGreat
set_option linter.unusedVariables false
set_option maxRecDepth 100000
set_option maxRecDepth 100000
set_option maxRecDepth 100000

/-- One bit more. -/
def step (c : Nat) : Nat := if c % 2 = 1 then c / 2 ^^^ 3988292384 else c / 2
def steps : Nat → Nat → Nat
  | 0, c => c
  | n + 1, c => step (steps n c)
/-- The bytes of a text more. -/
def run (c : Nat) (l : List UInt8) : Nat := l.foldl (fun c b => steps 8 (c ^^^ b.toNat)) c
def moreOf (n : Nat) (l : List UInt8) : Nat := run (n ^^^ 4294967295) l ^^^ 4294967295
def sumOf (l : List UInt8) : Nat := moreOf 0 l

theorem xor_lt32 {a b : Nat} (ha : a < 4294967296) (hb : b < 4294967296) : a ^^^ b < 4294967296 := Nat.xor_lt_two_pow (n := 32) (by omega) (by omega)
theorem step_lt {c : Nat} (h : c < 4294967296) : step c < 4294967296 := by
  unfold step
  split
  · exact xor_lt32 (by omega) (by omega)
  · omega
theorem steps_lt {c : Nat} (n : Nat) (h : c < 4294967296) : steps n c < 4294967296 := by
  induction n with
  | zero => exact h
  | succ n ih => exact step_lt ih
theorem byte_lt (b : UInt8) : b.toNat < 256 := b.toNat_lt
theorem run_lt {c : Nat} (l : List UInt8) (h : c < 4294967296) : run c l < 4294967296 := by
  unfold run
  induction l generalizing c with
  | nil => exact h
  | cons b l ih => exact ih (steps_lt 8 (xor_lt32 h (by have := byte_lt b; omega)))
theorem run_snoc (c : Nat) (l : List UInt8) (b : UInt8) : run c (l ++ [b]) = steps 8 (run c l ^^^ b.toNat) := by
  unfold run; rw [List.foldl_append, List.foldl_cons, List.foldl_nil]
theorem run_append (c : Nat) (l m : List UInt8) : run c (l ++ m) = run (run c l) m := by
  unfold run; rw [List.foldl_append]
theorem run_cons (c : Nat) (b : UInt8) (l : List UInt8) : run c (b :: l) = run (steps 8 (c ^^^ b.toNat)) l := by
  unfold run; rw [List.foldl_cons]
theorem moreOf_lt {n : Nat} (l : List UInt8) (h : n < 4294967296) : moreOf n l < 4294967296 :=
  xor_lt32 (run_lt l (xor_lt32 h (by omega))) (by omega)
theorem sumOf_lt (l : List UInt8) : sumOf l < 4294967296 := moreOf_lt l (by omega)
theorem xor_twice (a b : Nat) : a ^^^ b ^^^ b = a := by rw [Nat.xor_assoc, Nat.xor_self, Nat.xor_zero]
theorem moreOf_sum (l m : List UInt8) : moreOf (sumOf l) m = sumOf (l ++ m) := by
  unfold sumOf moreOf
  rw [xor_twice, run_append]

/-! ### They go with exclusive or -/
theorem xor_nought {a b : Nat} : a ^^^ b = 0 ↔ a = b := by
  constructor
  · intro h
    rw [← xor_twice a b, h, Nat.zero_xor]
  · rintro rfl
    exact Nat.xor_self a
theorem xor_place {b : Nat} (a : Nat) (h : b < 256) : 256 * a ^^^ b = 256 * a + b := by
  have h1 : (256 * a ^^^ b) / 2 ^ 8 = 256 * a / 2 ^ 8 ^^^ b / 2 ^ 8 := Nat.xor_div_two_pow
  have h2 : (256 * a ^^^ b) % 2 ^ 8 = 256 * a % 2 ^ 8 ^^^ b % 2 ^ 8 := Nat.xor_mod_two_pow
  have e1 : 256 * a / 2 ^ 8 = a := by omega
  have e2 : b / 2 ^ 8 = 0 := by omega
  have e3 : 256 * a % 2 ^ 8 = 0 := by omega
  have e4 : b % 2 ^ 8 = b := by omega
  rw [e1, e2, Nat.xor_zero] at h1
  rw [e3, e4, Nat.zero_xor] at h2
  omega
theorem step_xor (a b : Nat) : step (a ^^^ b) = step a ^^^ step b := by
  have h1 : (a ^^^ b) / 2 = a / 2 ^^^ b / 2 := Nat.xor_div_two
  have h2 : (a ^^^ b) % 2 = (a + b) % 2 := by
    have h := @Nat.xor_mod_two_eq_one a b
    by_cases c : (a ^^^ b) % 2 = 1
    · have := h.1 c
      omega
    · have := mt h.2 c
      omega
  unfold step
  rw [h1, h2]
  generalize a / 2 = x
  generalize b / 2 = y
  generalize 3988292384 = m
  rcases Nat.mod_two_eq_zero_or_one a with ha | ha <;> rcases Nat.mod_two_eq_zero_or_one b with hb | hb
  · rw [if_neg (by omega), if_neg (by omega), if_neg (by omega)]
  · rw [if_pos (by omega), if_neg (by omega), if_pos (by omega), Nat.xor_assoc]
  · rw [if_pos (by omega), if_pos (by omega), if_neg (by omega), Nat.xor_assoc, Nat.xor_assoc, Nat.xor_comm y m]
  · rw [if_neg (by omega), if_pos (by omega), if_pos (by omega), Nat.xor_assoc x m, Nat.xor_comm m (y ^^^ m), Nat.xor_assoc, Nat.xor_self, Nat.xor_zero]
theorem steps_xor (n a b : Nat) : steps n (a ^^^ b) = steps n a ^^^ steps n b := by
  induction n with
  | zero => rfl
  | succ n ih => show step _ = step _ ^^^ step _; rw [ih, step_xor]
theorem step_nought {c : Nat} (h : c < 4294967296) (e : step c = 0) : c = 0 := by
  unfold step at e
  split at e
  · have := xor_nought.1 e
    omega
  · omega
theorem steps_nought {c : Nat} (n : Nat) (h : c < 4294967296) (e : steps n c = 0) : c = 0 := by
  induction n with
  | zero => exact e
  | succ n ih => exact ih (step_nought (steps_lt n h) e)
theorem steps_inj {a b : Nat} (n : Nat) (ha : a < 4294967296) (hb : b < 4294967296) (e : steps n a = steps n b) : a = b := by
  have h : steps n (a ^^^ b) = 0 := by rw [steps_xor, e, Nat.xor_self]
  exact xor_nought.1 (steps_nought n (xor_lt32 ha hb) h)
theorem step_double (c : Nat) : step (2 * c) = c := by
  unfold step
  rw [if_neg (by omega)]; omega
theorem steps_succ' (n c : Nat) : steps (n + 1) c = steps n (step c) := by
  induction n with
  | zero => rfl
  | succ n ih => show step (steps (n + 1) c) = step (steps n (step c)); rw [ih]
theorem steps_double (n c : Nat) : steps n (2 ^ n * c) = c := by
  induction n generalizing c with
  | zero => simp [steps]
  | succ n ih =>
    have e : 2 ^ (n + 1) * c = 2 * (2 ^ n * c) := by rw [Nat.pow_succ, Nat.mul_comm (2 ^ n) 2, Nat.mul_assoc]
    rw [steps_succ', e, step_double, ih]
theorem steps8 (c : Nat) : steps 8 (256 * c) = c := steps_double 8 c

/-- The same bytes behind: what was not the same stays so. -/
theorem run_inj {a b : Nat} (l : List UInt8) (ha : a < 4294967296) (hb : b < 4294967296) (e : run a l = run b l) : a = b := by
  induction l generalizing a b with
  | nil => exact e
  | cons x l ih =>
    have hx := byte_lt x
    have h1 := ih (steps_lt 8 (xor_lt32 ha (by omega : x.toNat < 4294967296))) (steps_lt 8 (xor_lt32 hb (by omega : x.toNat < 4294967296))) e
    have h2 := steps_inj 8 (xor_lt32 ha (by omega)) (xor_lt32 hb (by omega)) h1
    have h3 : a ^^^ x.toNat ^^^ x.toNat = b ^^^ x.toNat ^^^ x.toNat := by rw [h2]
    rwa [xor_twice, xor_twice] at h3
theorem xor_swap (a b c d : Nat) : a ^^^ b ^^^ (c ^^^ d) = a ^^^ c ^^^ (b ^^^ d) := by
  rw [Nat.xor_assoc, Nat.xor_assoc, ← Nat.xor_assoc b c d, Nat.xor_comm b c, Nat.xor_assoc c b d]
/-- Texts of one length, turned into one another. -/
theorem run_xor (a b : Nat) (l m : List UInt8) (h : l.length = m.length) : run (a ^^^ b) (List.zipWith (· ^^^ ·) l m) = run a l ^^^ run b m := by
  induction l generalizing a b m with
  | nil =>
    cases m with
    | nil => rfl
    | cons y m => simp at h
  | cons x l ih =>
    cases m with
    | nil => simp at h
    | cons y m =>
      rw [List.zipWith_cons_cons, run_cons, run_cons, run_cons, UInt8.toNat_xor, xor_swap, steps_xor]
      exact ih _ _ m (by simpa using h)

/-- Four bytes more become nought only of noughts. -/
theorem run_four {a b c d : UInt8} (e : run 0 [a, b, c, d] = 0) : a.toNat = 0 ∧ b.toNat = 0 ∧ c.toNat = 0 ∧ d.toNat = 0 := by
  have ha := byte_lt a
  have hb := byte_lt b
  have hc := byte_lt c
  have hd := byte_lt d
  have e4 : steps 8 (run 0 [a, b, c] ^^^ d.toNat) = 0 := by rw [← run_snoc]; exact e
  have l3 : run 0 [a, b, c] < 4294967296 := run_lt _ (by omega)
  have l2 : run 0 [a, b] < 4294967296 := run_lt _ (by omega)
  have l1 : run 0 [a] < 4294967296 := run_lt _ (by omega)
  have e3 : run 0 [a, b, c] = d.toNat := xor_nought.1 (steps_nought 8 (xor_lt32 l3 (by omega)) e4)
  have e3' : steps 8 (run 0 [a, b] ^^^ c.toNat) = steps 8 (256 * d.toNat) := by rw [steps8, ← run_snoc]; exact e3
  have e2 := steps_inj 8 (xor_lt32 l2 (by omega)) (by omega) e3'
  have e2a : run 0 [a, b] = 256 * d.toNat ^^^ c.toNat := by rw [← e2, xor_twice]
  have o2 : 256 * d.toNat ^^^ c.toNat = 256 * d.toNat + c.toNat := xor_place _ hc
  have e1' : steps 8 (run 0 [a] ^^^ b.toNat) = steps 8 (256 * (256 * d.toNat + c.toNat)) := by rw [steps8, ← o2, ← run_snoc]; exact e2a
  have e1 := steps_inj 8 (xor_lt32 l1 (by omega)) (by omega) e1'
  have o1 : 256 * (256 * d.toNat + c.toNat) ^^^ b.toNat = 256 * (256 * d.toNat + c.toNat) + b.toNat := xor_place _ hb
  have e1a : run 0 [a] = 256 * (256 * d.toNat + c.toNat) + b.toNat := by rw [← o1, ← e1, xor_twice]
  have e0' : steps 8 (0 ^^^ a.toNat) = steps 8 (256 * (256 * (256 * d.toNat + c.toNat) + b.toNat)) := by rw [steps8, ← e1a, run_cons]; rfl
  have e0 := steps_inj 8 (xor_lt32 (by omega) (by omega)) (by omega) e0'
  rw [Nat.zero_xor] at e0
  omega
end Go.Proofs.YtkhpmmmildcceaaGreat

namespace Go.Proofs.YtkhpmmmildcceaaGreat
open Go.ChangeShapes Go.WideShapes Go.ChangeAt Go.RowKit
set_option linter.unusedVariables false
set_option maxRecDepth 100000
set_option maxRecDepth 100000
set_option maxRecDepth 100000

theorem xor32 (a b : Nat) (ha : a < 4294967296) (hb : b < 4294967296) : bits .xor .u32 (a : Int) (b : Int) = ((a ^^^ b : Nat) : Int) := u32_xor_nat a b ha hb
theorem not32 (a : Nat) (ha : a < 4294967296) : bits .xor .u32 IntKind.u32.max (a : Int) = ((a ^^^ 4294967295 : Nat) : Int) := by
  rw [Nat.xor_comm]
  exact u32_xor_nat 4294967295 a (by omega) ha
theorem and32 (a : Nat) (ha : a < 4294967296) : bits .and .u32 (a : Int) 1 = ((a % 2 : Nat) : Int) := by
  have h := u32_and_nat a 1 ha (by omega)
  rwa [Nat.and_one_is_mod] at h

set_option maxHeartbeats 400000 in
theorem byteMore_is (c : Nat) (b : UInt8) (hc : c < 4294967296) (w : World) :
    Calls Tryz.prog 148 #[.int .u32 c, .int .u8 (b.toNat : Int)] w fun e w' => e = .returned (.int .u32 (steps 8 (c ^^^ b.toNat) : Nat)) ∧ w' = w := by
  have hb := byte_lt b
  have x0 := xor32 c b.toNat hc (by omega)
  have hx : c ^^^ b.toNat < 4294967296 := xor_lt32 hc (by omega)
  generalize b.toNat = y at *
  generalize c ^^^ y = d at *
  go_enter Tryz.func148, Tryz.ntmps148
  go_wp2
  go_loop [0, 10] (fun t i => ∃ k : Nat, k ≤ 8 ∧ i = .int .i64 k ∧ t = .int .u32 (steps k d : Nat)) (fun _ i => 8 - (intOf i).toNat)
  case atStart => exact ⟨0, Nat.zero_le _, rfl, rfl⟩
  case round =>
    obtain ⟨k, hk, rfl, rfl⟩ := hrel
    by_cases hlt : k < 8
    · have hs := steps_lt k hx
      have HN : Hid (steps (k + 1) d = step (steps k d)) := rfl
      generalize steps k d = z at *
      have a1 := and32 z hs
      have x1 : bits .xor .u32 ((z : Int) / 2) 3988292384 = ((z / 2 ^^^ 3988292384 : Nat) : Int) := xor32 (z / 2) 3988292384 (by omega) (by omega)
      by_cases hz : z % 2 = 1
      · rw [hz] at a1
        have HS : Hid (step z = z / 2 ^^^ 3988292384) := if_pos hz
        go_wp2
        go_round
        case rel => exact ⟨k + 1, by omega, by go_num, by rw [HN.out, HS.out]⟩
        case measure => simp [intOf]; omega
      · have hz0 : z % 2 = 0 := by omega
        rw [hz0] at a1
        have HS : Hid (step z = z / 2) := if_neg hz
        go_wp2
        go_round
        case rel => exact ⟨k + 1, by omega, by go_num, by rw [HN.out, HS.out]; rfl⟩
        case measure => simp [intOf]; omega
    · obtain rfl : k = 8 := by omega
      go_wp2
      go_ret
      exact ⟨rfl, rfl⟩

theorem take_snoc (s : ByteArray) (k : Nat) (h : k < s.size) : s.data.toList.take (k + 1) = s.data.toList.take k ++ [s[k]] := by
  rw [List.take_succ_eq_append_getElem (by simpa using h)]; rfl
theorem len_of (s : ByteArray) : s.data.toList.length = s.size := by simp
theorem take_all (s : ByteArray) : s.data.toList.take s.size = s.data.toList := List.take_of_length_le (by simp)

/-- The lowest 32 bits of a number. -/
def low (n : Int) : Nat := (n % 4294967296).toNat
theorem low_lt (n : Int) : low n < 4294967296 := by unfold low; omega
theorem low_is (n : Int) : n % 4294967296 = (low n : Int) := by unfold low; omega
theorem low_nat {n : Nat} (h : n < 4294967296) : low (n : Int) = n := by unfold low; omega

set_option maxHeartbeats 400000 in
theorem more_is (n : Int) (s : ByteArray) (hs : s.size ≤ 140737488351232) (w : World) :
    Calls Tryz.prog 136 #[.int .i64 n, .string s] w fun e w' => e = .returned (.int .i64 (moreOf (low n) s.data.toList : Nat)) ∧ w' = w := by
  have hl := low_lt n
  have el := low_is n
  have x0 := not32 (low n) hl
  have hx : low n ^^^ 4294967295 < 4294967296 := xor_lt32 hl (by omega)
  have HM : Hid (moreOf (low n) s.data.toList = run (low n ^^^ 4294967295) s.data.toList ^^^ 4294967295) := rfl
  have hR := moreOf_lt s.data.toList hl
  generalize moreOf (low n) s.data.toList = R at *
  generalize low n = m at *
  generalize m ^^^ 4294967295 = d at *
  go_enter Tryz.func136, Tryz.ntmps136
  go_wp2
  go_loop [5, 12] (fun t i => ∃ k : Nat, k ≤ s.size ∧ i = .int .i64 k ∧ t = .int .u32 (run d (s.data.toList.take k) : Nat)) (fun _ i => s.size - (intOf i).toNat)
  case atStart => exact ⟨0, Nat.zero_le _, rfl, rfl⟩
  case round =>
    obtain ⟨k, hk, rfl, rfl⟩ := hrel
    have hr := run_lt (s.data.toList.take k) hx
    by_cases hlt : k < s.size
    · have HT : Hid (run d (s.data.toList.take (k + 1)) = steps 8 (run d (s.data.toList.take k) ^^^ s[k].toNat)) := by
        show _ = _
        rw [take_snoc s k hlt, run_snoc]
      generalize run d (s.data.toList.take k) = z at *
      go_wp2_with fail
      refine (byteMore_is z s[k] hr _).mono ?_; rintro e w1 ⟨rfl, rfl⟩
      go_wp2
      go_round
      case rel => exact ⟨k + 1, by omega, by go_num, by rw [HT.out]⟩
      case measure => simp [intOf]; omega
    · obtain rfl : k = s.size := by omega
      rw [take_all] at *
      have x1 := not32 (run d s.data.toList) hr
      rw [← HM.out] at x1
      clear HM
      generalize run d s.data.toList = z at *
      go_wp2
      go_ret
      exact ⟨rfl, rfl⟩
end Go.Proofs.YtkhpmmmildcceaaGreat

namespace Go.Proofs.YtkhpmmmildcceaaGreat
open Go.ChangeShapes Go.WideShapes Go.ChangeAt Go.RowKit
set_option linter.unusedVariables false
set_option maxRecDepth 100000
set_option maxRecDepth 100000
set_option maxRecDepth 100000

theorem low_zero : low 0 = 0 := rfl
theorem sum_is (s : ByteArray) (hs : s.size ≤ 140737488351232) (w : World) :
    Calls Tryz.prog 109 #[.string s] w fun e w' => e = .returned (.int .i64 (sumOf s.data.toList : Nat)) ∧ w' = w := by
  have H : Hid (∀ w, Calls Tryz.prog 136 #[.int .i64 0, .string s] w fun e w' => e = .returned (.int .i64 (sumOf s.data.toList : Nat)) ∧ w' = w) := fun w => more_is 0 s hs w
  generalize sumOf s.data.toList = R at *
  go_enter Tryz.func109, Tryz.ntmps109
  go_wp2_with fail
  refine (H.out _).mono ?_; rintro e w1 ⟨rfl, rfl⟩
  go_wp2
  go_ret
  exact ⟨rfl, rfl⟩

theorem nine_sum : sumOf [49, 50, 51, 52, 53, 54, 55, 56, 57] = 3421780262 := by decide +kernel
theorem i64_xor (a b : Nat) (ha : a < 4294967296) (hb : b < 4294967296) : bits .xor .i64 (a : Int) (b : Int) = ((a ^^^ b : Nat) : Int) := by
  have hx := xor_lt32 ha hb
  have h1 : (BitVec.ofInt 64 (a : Int)).toNat = a := by rw [BitVec.toNat_ofInt]; omega
  have h2 : (BitVec.ofInt 64 (b : Int)).toNat = b := by rw [BitVec.toNat_ofInt]; omega
  show IntKind.i64.wrap ((BitVec.ofInt 64 (a : Int) ^^^ BitVec.ofInt 64 (b : Int)).toNat : Nat) = _
  rw [BitVec.toNat_xor, h1, h2, IntKind.wrap_i64]
  omega
theorem and1 (n : Int) : bits .and .i64 n 1 = n % 2 := by
  have h : (BitVec.ofInt 64 1).toNat = 2 ^ 1 - 1 := by decide
  have key : (BitVec.ofInt 64 n &&& BitVec.ofInt 64 1).toNat = (n % ((2 ^ 64 : Nat) : Int)).toNat % 2 ^ 1 := by
    rw [BitVec.toNat_and, BitVec.toNat_ofInt, h, Nat.and_two_pow_sub_one_eq_mod]
  show IntKind.i64.wrap ((BitVec.ofInt 64 n &&& BitVec.ofInt 64 1).toNat : Nat) = n % 2
  rw [key, IntKind.wrap_i64]
  omega
theorem and_low (n : Int) : bits .and .i64 n 4294967295 = (low n : Int) := by
  have h : (BitVec.ofInt 64 4294967295).toNat = 2 ^ 32 - 1 := by decide
  have key : (BitVec.ofInt 64 n &&& BitVec.ofInt 64 4294967295).toNat = (n % ((2 ^ 64 : Nat) : Int)).toNat % 2 ^ 32 := by
    rw [BitVec.toNat_and, BitVec.toNat_ofInt, h, Nat.and_two_pow_sub_one_eq_mod]
  show IntKind.i64.wrap ((BitVec.ofInt 64 n &&& BitVec.ofInt 64 4294967295).toNat : Nat) = (low n : Int)
  unfold low
  rw [key, IntKind.wrap_i64]
  omega

end Go.Proofs.YtkhpmmmildcceaaGreat

namespace Go.Proofs.YtkhpmmmildcceaaGreat
open Go.ChangeShapes Go.WideShapes Go.ChangeAt Go.RowKit
set_option linter.unusedVariables false
set_option maxRecDepth 100000
set_option maxRecDepth 100000
set_option maxRecDepth 100000

theorem i64_or (a b : Nat) (ha : a < 4294967296) (hb : b < 4294967296) : bits .or .i64 (a : Int) (b : Int) = ((a ||| b : Nat) : Int) := by
  have hx : a ||| b < 2 ^ 32 := Nat.or_lt_two_pow (by omega) (by omega)
  have h1 : (BitVec.ofInt 64 (a : Int)).toNat = a := by rw [BitVec.toNat_ofInt]; omega
  have h2 : (BitVec.ofInt 64 (b : Int)).toNat = b := by rw [BitVec.toNat_ofInt]; omega
  show IntKind.i64.wrap ((BitVec.ofInt 64 (a : Int) ||| BitVec.ofInt 64 (b : Int)).toNat : Nat) = _
  rw [BitVec.toNat_or, h1, h2, IntKind.wrap_i64]
  omega

theorem or_next (x y p : Nat) (k : Nat) (hx : x < 2 ^ k) (hp : p = 2 ^ k) (hk : k ≤ 24) (hy : y < 256) : bits .or .i64 (x : Int) ((y * p : Nat) : Int) = ((x + y * p : Nat) : Int) := by
  have h1 : 2 ^ k ≤ 2 ^ 24 := Nat.pow_le_pow_right (by omega) hk
  have h2 : y * 2 ^ k ≤ 255 * 2 ^ 24 := Nat.mul_le_mul (by omega) h1
  subst hp
  rw [i64_or x (y * 2 ^ k) (by omega) (by omega), Nat.or_comm, Nat.mul_comm, ← Nat.two_pow_add_eq_or_of_lt hx, Nat.add_comm]

/-- What Take makes of four bytes. -/
def four (a b c d : Nat) : Nat := a + b * 256 + c * 65536 + d * 16777216

end Go.Proofs.YtkhpmmmildcceaaGreat

namespace Go.Proofs.YtkhpmmmildcceaaGreat
open Go.ChangeShapes Go.WideShapes Go.ChangeAt Go.RowKit
set_option linter.unusedVariables false
set_option maxRecDepth 100000
set_option maxRecDepth 100000
set_option maxRecDepth 100000

/-- A number's four bytes, the lowest first. -/
def putL (m : Nat) : List UInt8 := [UInt8.ofNat m, UInt8.ofNat (m / 256), UInt8.ofNat (m / 65536), UInt8.ofNat (m / 16777216)]

theorem four_text (w : World) (a b c d : UInt8) (x y z u : Int) (t : TypeId) (ha : x = (a.toNat : Int)) (hb : y = (b.toNat : Int)) (hc : z = (c.toNat : Int)) (hd : u = (d.toNat : Int)) :
    (convert 98 9 (.slice (some ⟨w.heap.size, 0, none⟩) 4 4)).run Tryz.prog (w.alloc (.cells #[.int .u8 x, .int .u8 y, .int .u8 z, .int .u8 u] t)) = .ok (.string ⟨#[a, b, c, d]⟩) (w.alloc (.cells #[.int .u8 x, .int .u8 y, .int .u8 z, .int .u8 u] t)) := by
  subst ha hb hc hd
  exact run_convert_bytes_back (P := Tryz.prog) _ 98 9 5 ⟨w.heap.size, 0, none⟩ 4 [a, b, c, d] Tryz.underlying98 Tryz.underlying5 Tryz.underlying9 (fun j hj => by
    match j, hj with
    | 0, _ => simp [go_sem, Addr.add]
    | 1, _ => simp [go_sem, Addr.add]
    | 2, _ => simp [go_sem, Addr.add]
    | 3, _ => simp [go_sem, Addr.add]
    | n + 4, h => simp at h; omega)
theorem ofNat_toNat (x : Nat) : ((UInt8.ofNat x).toNat : Int) = (x : Int) % 256 := by
  rw [UInt8.toNat_ofNat']; omega

theorem put_is (n : Int) (w : World) :
    Calls Tryz.prog 81 #[.int .i64 n] w fun e w' => e = .returned (.string ⟨(putL (low n)).toArray⟩) ∧ Below w.heap.size w w' := by
  have hl := low_lt n
  have el := low_is n
  have hcv := four_text w (UInt8.ofNat (low n)) (UInt8.ofNat (low n / 256)) (UInt8.ofNat (low n / 65536)) (UInt8.ofNat (low n / 16777216)) ((low n : Int) % 256) ((low n : Int) / 256 % 256) ((low n : Int) / 65536 % 256) ((low n : Int) / 16777216) 161
    (by rw [ofNat_toNat]) (by rw [ofNat_toNat]; omega) (by rw [ofNat_toNat]; omega) (by rw [ofNat_toNat]; omega)
  have HR : Hid ((ByteArray.mk #[UInt8.ofNat (low n), UInt8.ofNat (low n / 256), UInt8.ofNat (low n / 65536), UInt8.ofNat (low n / 16777216)]) = ⟨(putL (low n)).toArray⟩) := rfl
  generalize ByteArray.mk (putL (low n)).toArray = R at *
  generalize ByteArray.mk #[UInt8.ofNat (low n), UInt8.ofNat (low n / 256), UInt8.ofNat (low n / 65536), UInt8.ofNat (low n / 16777216)] = S at *
  obtain rfl : S = R := HR.out
  generalize low n = m at *
  go_enter Tryz.func81, Tryz.ntmps81
  go_wp2
  refine wp_loop_rounds 5 ?_
  rw [rounds_succ]
  go_wp2
  rw [rounds_succ]
  go_wp2
  rw [rounds_succ]
  go_wp2
  rw [rounds_succ]
  go_wp2
  rw [rounds_succ]
  go_wp2
  go_ret
  exact ⟨rfl, (Below.refl _ _).alloc (Nat.le_refl _) _⟩

theorem and_byte (n : Int) : bits .and .i64 n 255 = n % 256 := by
  have h : (BitVec.ofInt 64 255).toNat = 2 ^ 8 - 1 := by decide
  have key : (BitVec.ofInt 64 n &&& BitVec.ofInt 64 255).toNat = (n % ((2 ^ 64 : Nat) : Int)).toNat % 2 ^ 8 := by
    rw [BitVec.toNat_and, BitVec.toNat_ofInt, h, Nat.and_two_pow_sub_one_eq_mod]
  show IntKind.i64.wrap ((BitVec.ofInt 64 n &&& BitVec.ofInt 64 255).toNat : Nat) = n % 256
  rw [key, IntKind.wrap_i64]
  omega

end Go.Proofs.YtkhpmmmildcceaaGreat
