/- Contracts of the document's wide numbers (of, plus, less, number of package quaysideref01), and of its sums, differences and other signs. -/
import Derived.Test.YtgokilochbnbaaaDoorNr
namespace Go.Proofs.YtgokilochbnbaaaDoor.Num
open Go.ChangeShapes Go.WideShapes Go.ChangeAt Go.RowKit
set_option linter.unusedVariables false
set_option maxRecDepth 100000

/-- The part above 2^62, and the part below it. -/
def hi (x : Int) : Int := x / 4611686018427387904
def lo (x : Int) : Int := x % 4611686018427387904
theorem lo_bd (x : Int) : 0 ≤ lo x ∧ lo x ≤ 4611686018427387903 := by unfold lo; omega
theorem hi_lo (x : Int) : x = 4611686018427387904 * hi x + lo x := by unfold hi lo; omega
theorem hi_lo_of {x h l : Int} (e : x = 4611686018427387904 * h + l) (h0 : 0 ≤ l) (h1 : l ≤ 4611686018427387903) : h = hi x ∧ l = lo x := by unfold hi lo; omega

theorem and62 (n : Int) : bits .and .i64 n 4611686018427387903 = lo n := by
  have h : (BitVec.ofInt 64 4611686018427387903).toNat = 2 ^ 62 - 1 := by decide
  have key : (BitVec.ofInt 64 n &&& BitVec.ofInt 64 4611686018427387903).toNat = (n % ((2 ^ 64 : Nat) : Int)).toNat % 2 ^ 62 := by
    rw [BitVec.toNat_and, BitVec.toNat_ofInt, h, Nat.and_two_pow_sub_one_eq_mod]
  show IntKind.i64.wrap ((BitVec.ofInt 64 n &&& BitVec.ofInt 64 4611686018427387903).toNat : Nat) = lo n
  rw [key, IntKind.wrap_i64]
  unfold lo
  omega

theorem of_any (n : Int) (hn : -9223372036854775808 ≤ n ∧ n ≤ 9223372036854775807) (w : World) :
    Calls Tryd.prog 82 #[.int .i64 n] w fun e w' => e = .returned (.agg #[.int .i64 (hi n), .int .i64 (lo n)]) ∧ Below w.heap.size w w' := by
  have h1 : n / 4611686018427387904 = hi n := rfl
  have h2 := and62 n
  go_enter Tryd.func82, Tryd.ntmps82
  go_wp2
  go_returns
  exact ⟨rfl, by go_grown⟩

theorem plus_raw (h1 l1 h2 l2 : Int) (b1 : 0 ≤ l1 ∧ l1 ≤ 4611686018427387903) (b2 : 0 ≤ l2 ∧ l2 ≤ 4611686018427387903)
    (c1 : -1152921504606846976 ≤ h1 ∧ h1 ≤ 1152921504606846976) (c2 : -1152921504606846976 ≤ h2 ∧ h2 ≤ 1152921504606846976) (w : World) (c : 4611686018427387904 ≤ l1 + l2) :
    Calls Tryd.prog 84 #[.agg #[.int .i64 h1, .int .i64 l1], .agg #[.int .i64 h2, .int .i64 l2]] w fun e w' => e = .returned (.agg #[.int .i64 (h1 + h2 + 1), .int .i64 (l1 - 4611686018427387904 + l2)]) ∧ Below w.heap.size w w' := by
  go_enter Tryd.func84, Tryd.ntmps84
  go_wp2
  go_returns
  exact ⟨rfl, by go_grown⟩

theorem plus_raw' (h1 l1 h2 l2 : Int) (b1 : 0 ≤ l1 ∧ l1 ≤ 4611686018427387903) (b2 : 0 ≤ l2 ∧ l2 ≤ 4611686018427387903)
    (c1 : -1152921504606846976 ≤ h1 ∧ h1 ≤ 1152921504606846976) (c2 : -1152921504606846976 ≤ h2 ∧ h2 ≤ 1152921504606846976) (w : World) (c : ¬ 4611686018427387904 ≤ l1 + l2) :
    Calls Tryd.prog 84 #[.agg #[.int .i64 h1, .int .i64 l1], .agg #[.int .i64 h2, .int .i64 l2]] w fun e w' => e = .returned (.agg #[.int .i64 (h1 + h2), .int .i64 (l1 - 4611686018427387904 + l2 + 4611686018427387904)]) ∧ Below w.heap.size w w' := by
  go_enter Tryd.func84, Tryd.ntmps84
  go_wp2
  go_returns
  exact ⟨rfl, by go_grown⟩

theorem plus_any (x y : Int) (c1 : -1152921504606846976 ≤ hi x ∧ hi x ≤ 1152921504606846976) (c2 : -1152921504606846976 ≤ hi y ∧ hi y ≤ 1152921504606846976) (w : World) :
    Calls Tryd.prog 84 #[.agg #[.int .i64 (hi x), .int .i64 (lo x)], .agg #[.int .i64 (hi y), .int .i64 (lo y)]] w fun e w' => e = .returned (.agg #[.int .i64 (hi (x + y)), .int .i64 (lo (x + y))]) ∧ Below w.heap.size w w' := by
  have b1 := lo_bd x
  have b2 := lo_bd y
  have e1 := hi_lo x
  have e2 := hi_lo y
  by_cases c : 4611686018427387904 ≤ lo x + lo y
  · obtain ⟨q1, q2⟩ := @hi_lo_of (x + y) (hi x + hi y + 1) (lo x - 4611686018427387904 + lo y) (by omega) (by omega) (by omega)
    rw [← q1, ← q2]
    exact plus_raw _ _ _ _ b1 b2 c1 c2 w c
  · obtain ⟨q1, q2⟩ := @hi_lo_of (x + y) (hi x + hi y) (lo x - 4611686018427387904 + lo y + 4611686018427387904) (by omega) (by omega) (by omega)
    rw [← q1, ← q2]
    exact plus_raw' _ _ _ _ b1 b2 c1 c2 w c

theorem less_raw (h l : Int) (b : 0 ≤ l ∧ l ≤ 4611686018427387903) (c1 : -1152921504606846976 ≤ h ∧ h ≤ 1152921504606846976) (w : World) (c : l ≠ 0) :
    Calls Tryd.prog 83 #[.agg #[.int .i64 h, .int .i64 l]] w fun e w' => e = .returned (.agg #[.int .i64 (-h - 1), .int .i64 (4611686018427387904 - l)]) ∧ Below w.heap.size w w' := by
  have c' : (l == 0) = false := by simpa using c
  go_enter Tryd.func83, Tryd.ntmps83
  go_wp2
  go_returns
  exact ⟨rfl, by go_grown⟩

theorem less_raw' (h : Int) (c1 : -1152921504606846976 ≤ h ∧ h ≤ 1152921504606846976) (w : World) :
    Calls Tryd.prog 83 #[.agg #[.int .i64 h, .int .i64 0]] w fun e w' => e = .returned (.agg #[.int .i64 (-h), .int .i64 0]) ∧ Below w.heap.size w w' := by
  go_enter Tryd.func83, Tryd.ntmps83
  go_wp2
  go_returns
  exact ⟨rfl, by go_grown⟩

theorem less_any (x : Int) (c1 : -1152921504606846976 ≤ hi x ∧ hi x ≤ 1152921504606846976) (w : World) :
    Calls Tryd.prog 83 #[.agg #[.int .i64 (hi x), .int .i64 (lo x)]] w fun e w' => e = .returned (.agg #[.int .i64 (hi (-x)), .int .i64 (lo (-x))]) ∧ Below w.heap.size w w' := by
  have b1 := lo_bd x
  have e1 := hi_lo x
  by_cases c : lo x = 0
  · obtain ⟨q1, q2⟩ := @hi_lo_of (-x) (-hi x) 0 (by omega) (by omega) (by omega)
    rw [← q1, ← q2, c]
    exact less_raw' _ c1 w
  · obtain ⟨q1, q2⟩ := @hi_lo_of (-x) (-hi x - 1) (4611686018427387904 - lo x) (by omega) (by omega) (by omega)
    rw [← q1, ← q2]
    exact less_raw _ _ b1 c1 w c

theorem or62 (h l : Int) (h0 : -2 ≤ h) (h1 : h ≤ 1) (b : 0 ≤ l ∧ l ≤ 4611686018427387903) : bits .or .i64 (4611686018427387904 * h) l = 4611686018427387904 * h + l := by
  obtain ⟨n, rfl⟩ := Int.eq_ofNat_of_zero_le b.1
  have hn : n < 2 ^ 62 := by omega
  have ha : (BitVec.ofInt 64 (4611686018427387904 * h)).toNat = 2 ^ 62 * (h % 4).toNat := by
    rw [BitVec.toNat_ofInt]; omega
  have hb : (BitVec.ofInt 64 (n : Int)).toNat = n := by rw [BitVec.toNat_ofInt]; omega
  show IntKind.i64.wrap ((BitVec.ofInt 64 (4611686018427387904 * h) ||| BitVec.ofInt 64 (n : Int)).toNat : Nat) = _
  rw [BitVec.toNat_or, ha, hb, ← Nat.two_pow_add_eq_or_of_lt hn, IntKind.wrap_i64]
  omega

theorem number_in (x : Int) (hx : -9223372036854775808 ≤ x ∧ x ≤ 9223372036854775807) (w : World) :
    Calls Tryd.prog 86 #[.agg #[.int .i64 (hi x), .int .i64 (lo x)]] w fun e w' => e = .returned (.tuple #[.int .i64 x, .int .i64 0]) ∧ Below w.heap.size w w' := by
  have b := lo_bd x
  have e := hi_lo x
  have c1 : -2 ≤ hi x := by omega
  have c2 : hi x ≤ 1 := by omega
  have o := or62 (hi x) (lo x) c1 c2 b
  rw [← e, Int.mul_comm] at o
  generalize hi x = h at *
  generalize lo x = l at *
  clear e
  go_enter Tryd.func86, Tryd.ntmps86
  go_wp2
  go_returns
  exact ⟨rfl, by go_grown⟩

theorem number_over (x : Int) (hx : x < -9223372036854775808 ∨ 9223372036854775807 < x) (w : World) :
    Calls Tryd.prog 86 #[.agg #[.int .i64 (hi x), .int .i64 (lo x)]] w fun e w' => e = .returned (.tuple #[.int .i64 0, .int .i64 10]) ∧ Below w.heap.size w w' := by
  have b := lo_bd x
  have e := hi_lo x
  have c1 : hi x < -2 ∨ 1 < hi x := by omega
  generalize hi x = h at *
  generalize lo x = l at *
  clear e hx
  rcases c1 with c | c
  · go_enter Tryd.func86, Tryd.ntmps86
    go_wp2
    go_returns
    exact ⟨rfl, by go_grown⟩
  · have c' : ¬ h < -2 := by omega
    go_enter Tryd.func86, Tryd.ntmps86
    go_wp2
    go_returns
    exact ⟨rfl, by go_grown⟩

theorem bnext {w w1 w2 : World} (h : Below w.heap.size w w1) (k : Below w1.heap.size w1 w2) : Below w.heap.size w w2 := h.trans (k.mono h.size)

theorem hi_small (x : Int) (h : -73786976294838206464 ≤ x ∧ x ≤ 73786976294838206464) : -1152921504606846976 ≤ hi x ∧ hi x ≤ 1152921504606846976 := by unfold hi; omega

theorem refSub_in (a b : Int) (ha : -9223372036854775808 ≤ a ∧ a ≤ 9223372036854775807) (hb : -9223372036854775808 ≤ b ∧ b ≤ 9223372036854775807)
    (h : -9223372036854775808 ≤ a - b ∧ a - b ≤ 9223372036854775807) (w : World) :
    Calls Tryd.prog 67 #[.int .i64 a, .int .i64 b] w fun e w' => e = .returned (.tuple #[.int .i64 (a - b), .int .i64 0]) ∧ Below w.heap.size w w' := by
  go_enter Tryd.func67, Tryd.ntmps67
  go_wp2_with fail
  refine (of_any a ha _).mono ?_; rintro e w1 ⟨rfl, k1⟩
  go_wp2_with fail
  refine (of_any b hb _).mono ?_; rintro e w2 ⟨rfl, k2⟩
  go_wp2_with fail
  refine (less_any b (hi_small b (by omega)) _).mono ?_; rintro e w2' ⟨rfl, k2'⟩
  go_wp2_with fail
  refine (plus_any a (-b) (hi_small a (by omega)) (hi_small (-b) (by omega)) _).mono ?_; rintro e w3 ⟨rfl, k3⟩
  go_wp2_with fail
  refine (number_in (a + -b) h _).mono ?_; rintro e w4 ⟨rfl, k4⟩
  go_wp2_with fail
  go_ret2
  exact ⟨rfl, bnext (bnext (bnext (bnext k1 k2) k2') k3) k4⟩

theorem refSub_over (a b : Int) (ha : -9223372036854775808 ≤ a ∧ a ≤ 9223372036854775807) (hb : -9223372036854775808 ≤ b ∧ b ≤ 9223372036854775807)
    (h : a - b < -9223372036854775808 ∨ 9223372036854775807 < a - b) (w : World) :
    Calls Tryd.prog 67 #[.int .i64 a, .int .i64 b] w fun e w' => e = .returned (.tuple #[.int .i64 0, .int .i64 10]) ∧ Below w.heap.size w w' := by
  go_enter Tryd.func67, Tryd.ntmps67
  go_wp2_with fail
  refine (of_any a ha _).mono ?_; rintro e w1 ⟨rfl, k1⟩
  go_wp2_with fail
  refine (of_any b hb _).mono ?_; rintro e w2 ⟨rfl, k2⟩
  go_wp2_with fail
  refine (less_any b (hi_small b (by omega)) _).mono ?_; rintro e w2' ⟨rfl, k2'⟩
  go_wp2_with fail
  refine (plus_any a (-b) (hi_small a (by omega)) (hi_small (-b) (by omega)) _).mono ?_; rintro e w3 ⟨rfl, k3⟩
  go_wp2_with fail
  refine (number_over (a + -b) (by omega) _).mono ?_; rintro e w4 ⟨rfl, k4⟩
  go_wp2_with fail
  go_ret2
  exact ⟨rfl, bnext (bnext (bnext (bnext k1 k2) k2') k3) k4⟩

theorem refNeg_in (a : Int) (ha : -9223372036854775808 ≤ a ∧ a ≤ 9223372036854775807) (h : -9223372036854775808 < a) (w : World) :
    Calls Tryd.prog 68 #[.int .i64 a] w fun e w' => e = .returned (.tuple #[.int .i64 (-a), .int .i64 0]) ∧ Below w.heap.size w w' := by
  go_enter Tryd.func68, Tryd.ntmps68
  go_wp2_with fail
  refine (of_any a ha _).mono ?_; rintro e w1 ⟨rfl, k1⟩
  go_wp2_with fail
  refine (less_any a (hi_small a (by omega)) _).mono ?_; rintro e w2 ⟨rfl, k2⟩
  go_wp2_with fail
  refine (number_in (-a) (by omega) _).mono ?_; rintro e w4 ⟨rfl, k4⟩
  go_wp2_with fail
  go_ret2
  exact ⟨rfl, bnext (bnext k1 k2) k4⟩

theorem refNeg_least (w : World) :
    Calls Tryd.prog 68 #[.int .i64 (-9223372036854775808)] w fun e w' => e = .returned (.tuple #[.int .i64 0, .int .i64 10]) ∧ Below w.heap.size w w' := by
  obtain ⟨a, ha⟩ : ∃ a : Int, a = -9223372036854775808 := ⟨_, rfl⟩
  rw [← ha]
  have ha' : a ≤ -9223372036854775808 := by omega
  have hb' : -9223372036854775808 ≤ a := by omega
  clear ha
  go_enter Tryd.func68, Tryd.ntmps68
  go_wp2_with fail
  refine (of_any a (by omega) _).mono ?_; rintro e w1 ⟨rfl, k1⟩
  go_wp2_with fail
  refine (less_any a (hi_small a (by omega)) _).mono ?_; rintro e w2 ⟨rfl, k2⟩
  go_wp2_with fail
  refine (number_over (-a) (by omega) _).mono ?_; rintro e w4 ⟨rfl, k4⟩
  go_wp2_with fail
  go_ret2
  exact ⟨rfl, bnext (bnext k1 k2) k4⟩
end Go.Proofs.YtgokilochbnbaaaDoor.Num
