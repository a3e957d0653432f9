/- Contracts of num.Mul, num.Div, num.Mod, and of the document's Div and Mod. -/
import Derived.Test.YtoieipodmckmiaaWide
namespace Go.Proofs.Ytoieipodmckmiaa
open Go.ChangeShapes Go.WideShapes Go.ChangeAt Go.RowKit
set_option linter.unusedVariables false

theorem tdiv_fits (p b : Int) (hp : -9223372036854775808 ≤ p ∧ p ≤ 9223372036854775807) (h0 : b ≠ 0) (h1 : b ≠ -1) : -9223372036854775808 ≤ p.tdiv b ∧ p.tdiv b ≤ 9223372036854775807 := by
  rcases Int.lt_or_gt_of_ne h0 with h | h
  · have e : p.tdiv b = -(p.tdiv (-b)) := by rw [Int.tdiv_neg]; omega
    rw [e]
    by_cases c : 0 ≤ p
    · have e2 : p.tdiv (-b) = p / (-b) := Int.tdiv_eq_ediv_of_nonneg c
      have := Int.ediv_le_self (-b) c
      have := Int.ediv_nonneg c (show 0 ≤ -b by omega)
      omega
    · have e2 : p.tdiv (-b) = -((-p) / (-b)) := by
        have : p.tdiv (-b) = -((-p).tdiv (-b)) := by rw [Int.neg_tdiv]; omega
        rw [this, Int.tdiv_eq_ediv_of_nonneg (by omega)]
      have h3 := Int.ediv_nonneg (show 0 ≤ -p by omega) (show 0 ≤ -b by omega)
      have h4 : (-p) / (-b) < 9223372036854775808 := Int.ediv_lt_of_lt_mul (by omega) (by omega)
      omega
  · by_cases c : 0 ≤ p
    · have e2 : p.tdiv b = p / b := Int.tdiv_eq_ediv_of_nonneg c
      have := Int.ediv_le_self b c
      have := Int.ediv_nonneg c (show 0 ≤ b by omega)
      omega
    · have e2 : p.tdiv b = -((-p) / b) := by
        have : p.tdiv b = -((-p).tdiv b) := by rw [Int.neg_tdiv]; omega
        rw [this, Int.tdiv_eq_ediv_of_nonneg (by omega)]
      have h3 := Int.ediv_nonneg (show 0 ≤ -p by omega) (show 0 ≤ b by omega)
      have h4 := Int.ediv_le_self b (show 0 ≤ -p by omega)
      omega

theorem wrap64_in' {x : Int} (h : -9223372036854775808 ≤ x ∧ x ≤ 9223372036854775807) : wrap64 x = x := by unfold wrap64; omega
theorem wrap64_bd (x : Int) : -9223372036854775808 ≤ wrap64 x ∧ wrap64 x ≤ 9223372036854775807 := by unfold wrap64; omega
theorem wrap64_far (x : Int) : ∃ k : Int, wrap64 x = x + 18446744073709551616 * k := ⟨(wrap64 x - x) / 18446744073709551616, by unfold wrap64; omega⟩

/-- A product that does not fit is told by dividing. -/
theorem mul_told (a b : Int) (hb : -9223372036854775808 ≤ b ∧ b ≤ 9223372036854775807) (h0 : b ≠ 0) (h1 : b ≠ -1)
    (h : a * b < -9223372036854775808 ∨ 9223372036854775807 < a * b) : wrap64 ((wrap64 (a * b)).tdiv b) ≠ a := by
  rw [wrap64_in' (tdiv_fits _ b (wrap64_bd _) h0 h1)]
  intro e
  have d := Int.mul_tdiv_add_tmod (wrap64 (a * b)) b
  rw [e] at d
  obtain ⟨k, hk⟩ := wrap64_far (a * b)
  have bd := wrap64_bd (a * b)
  have c := Int.mul_comm a b
  have t : (wrap64 (a * b)).tmod b = 18446744073709551616 * k := by omega
  have t2 : ((wrap64 (a * b)).tmod b).natAbs < b.natAbs := by
    rw [Int.natAbs_tmod]
    exact Nat.mod_lt _ (by omega)
  omega

theorem ret2 {a b : Int} {y : Value} (h : a = b) : Ending.returned (.tuple #[.int .i64 a, y]) = .returned (.tuple #[.int .i64 b, y]) := by rw [h]

theorem mul_zero (a : Int) (w : World) :
    Calls Try.prog 16 #[.int .i64 a, .int .i64 0] w fun e w' => e = .returned (.tuple #[.int .i64 0, .int .i64 0]) ∧ w' = w := by
  go_enter Try.func16, Try.ntmps16
  go_wp2
  go_ret2
  exact ⟨rfl, rfl⟩

theorem mul_minus (a : Int) (ha : -9223372036854775808 ≤ a ∧ a ≤ 9223372036854775807) (h : -9223372036854775808 < a) (w : World) :
    Calls Try.prog 16 #[.int .i64 a, .int .i64 (-1)] w fun e w' => e = .returned (.tuple #[.int .i64 (-a), .int .i64 0]) ∧ w' = w := by
  go_enter Try.func16, Try.ntmps16
  go_wp2_with fail
  refine (neg_in a ha h _).mono ?_; rintro e w1 ⟨rfl, rfl⟩
  go_wp2_with fail
  go_ret2
  exact ⟨rfl, rfl⟩

theorem mul_minus_least (w : World) :
    Calls Try.prog 16 #[.int .i64 (-9223372036854775808), .int .i64 (-1)] w fun e w' => e = .returned (.tuple #[.int .i64 0, .int .i64 10]) ∧ w' = w := by
  go_enter Try.func16, Try.ntmps16
  go_wp2_with fail
  refine (neg_least _).mono ?_; rintro e w1 ⟨rfl, rfl⟩
  go_wp2_with fail
  go_ret2
  exact ⟨rfl, rfl⟩

theorem mul_in (a b : Int) (ha : -9223372036854775808 ≤ a ∧ a ≤ 9223372036854775807) (hb : -9223372036854775808 ≤ b ∧ b ≤ 9223372036854775807)
    (h : -9223372036854775808 ≤ a * b ∧ a * b ≤ 9223372036854775807) (w : World) :
    Calls Try.prog 16 #[.int .i64 a, .int .i64 b] w fun e w' => e = .returned (.tuple #[.int .i64 (a * b), .int .i64 0]) ∧ w' = w := by
  by_cases c0 : b = 0
  · subst c0
    rw [Int.mul_zero]
    exact mul_zero a w
  by_cases c1 : b = -1
  · subst c1
    have e : a * -1 = -a := by omega
    rw [e] at h ⊢
    exact mul_minus a ha (by omega) w
  have t0 : (b == 0) = false := by simpa using c0
  have t1 : (b == -1) = false := by simpa using c1
  obtain ⟨p, hp⟩ : ∃ p, p = a * b := ⟨_, rfl⟩
  have w1 : wrap64 (a * b) = p := by rw [wrap64_in' h, hp]
  have w2 : (wrap64 (p.tdiv b) != a) = false := by
    rw [hp, Int.mul_tdiv_cancel _ c0, wrap64_in' ha]; simp
  rw [← hp]
  clear h hp
  go_enter Try.func16, Try.ntmps16
  go_wp2
  go_ret2
  exact ⟨ret2 w1, rfl⟩

theorem mul_over (a b : Int) (ha : -9223372036854775808 ≤ a ∧ a ≤ 9223372036854775807) (hb : -9223372036854775808 ≤ b ∧ b ≤ 9223372036854775807)
    (h : a * b < -9223372036854775808 ∨ 9223372036854775807 < a * b) (w : World) :
    Calls Try.prog 16 #[.int .i64 a, .int .i64 b] w fun e w' => e = .returned (.tuple #[.int .i64 0, .int .i64 10]) ∧ w' = w := by
  have c0 : b ≠ 0 := by rintro rfl; simp at h
  by_cases c1 : b = -1
  · subst c1
    obtain rfl : a = -9223372036854775808 := by omega
    exact mul_minus_least w
  have t0 : (b == 0) = false := by simpa using c0
  have t1 : (b == -1) = false := by simpa using c1
  have w2 : (wrap64 ((wrap64 (a * b)).tdiv b) != a) = true := by
    have := mul_told a b hb c0 c1 h
    simpa using this
  clear h
  go_enter Try.func16, Try.ntmps16
  go_wp2
  go_ret2
  exact ⟨rfl, rfl⟩

theorem div_zero (a : Int) (w : World) :
    Calls Try.prog 18 #[.int .i64 a, .int .i64 0] w fun e w' => e = .returned (.tuple #[.int .i64 0, .int .i64 11]) ∧ w' = w := by
  go_enter Try.func18, Try.ntmps18
  go_wp2
  go_ret2
  exact ⟨rfl, rfl⟩

theorem refDiv_zero (a : Int) (w : World) :
    Calls Try.prog 19 #[.int .i64 a, .int .i64 0] w fun e w' => e = .returned (.tuple #[.int .i64 0, .int .i64 11]) ∧ w' = w := by
  go_enter Try.func19, Try.ntmps19
  go_wp2
  go_ret2
  exact ⟨rfl, rfl⟩

theorem mod_zero (a : Int) (w : World) :
    Calls Try.prog 20 #[.int .i64 a, .int .i64 0] w fun e w' => e = .returned (.tuple #[.int .i64 0, .int .i64 11]) ∧ w' = w := by
  go_enter Try.func20, Try.ntmps20
  go_wp2
  go_ret2
  exact ⟨rfl, rfl⟩

theorem refMod_zero (a : Int) (w : World) :
    Calls Try.prog 21 #[.int .i64 a, .int .i64 0] w fun e w' => e = .returned (.tuple #[.int .i64 0, .int .i64 11]) ∧ w' = w := by
  go_enter Try.func21, Try.ntmps21
  go_wp2
  go_ret2
  exact ⟨rfl, rfl⟩

theorem div_least (w : World) :
    Calls Try.prog 18 #[.int .i64 (-9223372036854775808), .int .i64 (-1)] w fun e w' => e = .returned (.tuple #[.int .i64 0, .int .i64 10]) ∧ w' = w := by
  go_enter Try.func18, Try.ntmps18
  go_wp2_with fail
  refine (neg_least _).mono ?_; rintro e w1 ⟨rfl, rfl⟩
  go_wp2_with fail
  go_ret2
  exact ⟨rfl, rfl⟩

theorem refDiv_least (w : World) :
    Calls Try.prog 19 #[.int .i64 (-9223372036854775808), .int .i64 (-1)] w fun e w' => e = .returned (.tuple #[.int .i64 0, .int .i64 10]) ∧ w' = w := by
  go_enter Try.func19, Try.ntmps19
  go_wp2
  go_ret2
  exact ⟨rfl, rfl⟩

theorem div_minus (a : Int) (ha : -9223372036854775808 ≤ a ∧ a ≤ 9223372036854775807) (h : -9223372036854775808 < a) (w : World) :
    Calls Try.prog 18 #[.int .i64 a, .int .i64 (-1)] w fun e w' => e = .returned (.tuple #[.int .i64 (-a), .int .i64 0]) ∧ w' = w := by
  go_enter Try.func18, Try.ntmps18
  go_wp2_with fail
  refine (neg_in a ha h _).mono ?_; rintro e w1 ⟨rfl, rfl⟩
  go_wp2_with fail
  go_ret2
  exact ⟨rfl, rfl⟩

theorem refDiv_minus (a : Int) (ha : -9223372036854775808 ≤ a ∧ a ≤ 9223372036854775807) (h : -9223372036854775808 < a) (w : World) :
    Calls Try.prog 19 #[.int .i64 a, .int .i64 (-1)] w fun e w' => e = .returned (.tuple #[.int .i64 (-a), .int .i64 0]) ∧ w' = w := by
  have t : (a == -9223372036854775808) = false := by simp; omega
  go_enter Try.func19, Try.ntmps19
  go_wp2
  go_ret2
  exact ⟨rfl, rfl⟩

theorem mod_minus (a : Int) (ha : -9223372036854775808 ≤ a ∧ a ≤ 9223372036854775807) (w : World) :
    Calls Try.prog 20 #[.int .i64 a, .int .i64 (-1)] w fun e w' => e = .returned (.tuple #[.int .i64 0, .int .i64 0]) ∧ w' = w := by
  go_enter Try.func20, Try.ntmps20
  go_wp2
  go_ret2
  exact ⟨rfl, rfl⟩

theorem refMod_minus (a : Int) (w : World) :
    Calls Try.prog 21 #[.int .i64 a, .int .i64 (-1)] w fun e w' => e = .returned (.tuple #[.int .i64 0, .int .i64 0]) ∧ w' = w := by
  go_enter Try.func21, Try.ntmps21
  go_wp2
  go_ret2
  exact ⟨rfl, rfl⟩

theorem div_in (a b : Int) (ha : -9223372036854775808 ≤ a ∧ a ≤ 9223372036854775807) (c0 : ¬ b = 0) (t0 : (b == 0) = false) (t1 : (b == -1) = false) (w : World) :
    Calls Try.prog 18 #[.int .i64 a, .int .i64 b] w fun e w' => e = .returned (.tuple #[.int .i64 (wrap64 (a.tdiv b)), .int .i64 0]) ∧ w' = w := by
  go_enter Try.func18, Try.ntmps18
  go_wp2
  go_ret2
  exact ⟨rfl, rfl⟩

theorem refDiv_in (a b : Int) (ha : -9223372036854775808 ≤ a ∧ a ≤ 9223372036854775807) (c0 : ¬ b = 0) (t0 : (b == 0) = false) (t1 : (b == -1) = false) (w : World) :
    Calls Try.prog 19 #[.int .i64 a, .int .i64 b] w fun e w' => e = .returned (.tuple #[.int .i64 (wrap64 (a.tdiv b)), .int .i64 0]) ∧ w' = w := by
  by_cases c : a = -9223372036854775808
  · have t : (a == -9223372036854775808) = true := by simpa using c
    clear c ha
    go_enter Try.func19, Try.ntmps19
    go_wp2
    go_ret2
    exact ⟨rfl, rfl⟩
  · have t : (a == -9223372036854775808) = false := by simpa using c
    clear c
    go_enter Try.func19, Try.ntmps19
    go_wp2
    go_ret2
    exact ⟨rfl, rfl⟩

theorem mod_in (a b : Int) (ha : -9223372036854775808 ≤ a ∧ a ≤ 9223372036854775807) (c0 : ¬ b = 0) (t0 : (b == 0) = false) (t1 : (b == -1) = false) (w : World) :
    Calls Try.prog 20 #[.int .i64 a, .int .i64 b] w fun e w' => e = .returned (.tuple #[.int .i64 (a.tmod b), .int .i64 0]) ∧ w' = w := by
  go_enter Try.func20, Try.ntmps20
  go_wp2
  go_ret2
  exact ⟨rfl, rfl⟩

theorem refMod_in (a b : Int) (ha : -9223372036854775808 ≤ a ∧ a ≤ 9223372036854775807) (c0 : ¬ b = 0) (t0 : (b == 0) = false) (t1 : (b == -1) = false) (w : World) :
    Calls Try.prog 21 #[.int .i64 a, .int .i64 b] w fun e w' => e = .returned (.tuple #[.int .i64 (a.tmod b), .int .i64 0]) ∧ w' = w := by
  go_enter Try.func21, Try.ntmps21
  go_wp2
  go_ret2
  exact ⟨rfl, rfl⟩
end Go.Proofs.Ytoieipodmckmiaa
