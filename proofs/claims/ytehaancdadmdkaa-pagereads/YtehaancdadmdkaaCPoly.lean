/- The plain mathematics of the sums: one bit, eight bits, the bytes of a text; that they go with exclusive or, and that nothing but nought becomes nought. -/
import Derived.WalkKit
namespace Go.Proofs.Ytehaancdadmdkaa
set_option linter.unusedVariables false
set_option maxRecDepth 100000
set_option maxRecDepth 100000

/-- One bit more. -/
def step (c : Nat) : Nat := if c % 2 = 1 then c / 2 ^^^ 3988292384 else c / 2
def steps : Nat → Nat → Nat
  | 0, c => c
  | n + 1, c => step (steps n c)
/-- The bytes of a text more. -/
def run (c : Nat) (l : List UInt8) : Nat := l.foldl (fun c b => steps 8 (c ^^^ b.toNat)) c
def moreOf (n : Nat) (l : List UInt8) : Nat := run (n ^^^ 4294967295) l ^^^ 4294967295
def sumOf (l : List UInt8) : Nat := moreOf 0 l

theorem xor_lt32 {a b : Nat} (ha : a < 4294967296) (hb : b < 4294967296) : a ^^^ b < 4294967296 := Nat.xor_lt_two_pow (n := 32) (by omega) (by omega)
theorem step_lt {c : Nat} (h : c < 4294967296) : step c < 4294967296 := by
  unfold step
  split
  · exact xor_lt32 (by omega) (by omega)
  · omega
theorem steps_lt {c : Nat} (n : Nat) (h : c < 4294967296) : steps n c < 4294967296 := by
  induction n with
  | zero => exact h
  | succ n ih => exact step_lt ih
theorem byte_lt (b : UInt8) : b.toNat < 256 := b.toNat_lt
theorem run_lt {c : Nat} (l : List UInt8) (h : c < 4294967296) : run c l < 4294967296 := by
  unfold run
  induction l generalizing c with
  | nil => exact h
  | cons b l ih => exact ih (steps_lt 8 (xor_lt32 h (by have := byte_lt b; omega)))
theorem run_snoc (c : Nat) (l : List UInt8) (b : UInt8) : run c (l ++ [b]) = steps 8 (run c l ^^^ b.toNat) := by
  unfold run; rw [List.foldl_append, List.foldl_cons, List.foldl_nil]
theorem run_append (c : Nat) (l m : List UInt8) : run c (l ++ m) = run (run c l) m := by
  unfold run; rw [List.foldl_append]
theorem run_cons (c : Nat) (b : UInt8) (l : List UInt8) : run c (b :: l) = run (steps 8 (c ^^^ b.toNat)) l := by
  unfold run; rw [List.foldl_cons]
theorem moreOf_lt {n : Nat} (l : List UInt8) (h : n < 4294967296) : moreOf n l < 4294967296 :=
  xor_lt32 (run_lt l (xor_lt32 h (by omega))) (by omega)
theorem sumOf_lt (l : List UInt8) : sumOf l < 4294967296 := moreOf_lt l (by omega)
theorem xor_twice (a b : Nat) : a ^^^ b ^^^ b = a := by rw [Nat.xor_assoc, Nat.xor_self, Nat.xor_zero]
theorem moreOf_sum (l m : List UInt8) : moreOf (sumOf l) m = sumOf (l ++ m) := by
  unfold sumOf moreOf
  rw [xor_twice, run_append]

/-! ### They go with exclusive or -/
theorem xor_nought {a b : Nat} : a ^^^ b = 0 ↔ a = b := by
  constructor
  · intro h
    rw [← xor_twice a b, h, Nat.zero_xor]
  · rintro rfl
    exact Nat.xor_self a
theorem xor_place {b : Nat} (a : Nat) (h : b < 256) : 256 * a ^^^ b = 256 * a + b := by
  have h1 : (256 * a ^^^ b) / 2 ^ 8 = 256 * a / 2 ^ 8 ^^^ b / 2 ^ 8 := Nat.xor_div_two_pow
  have h2 : (256 * a ^^^ b) % 2 ^ 8 = 256 * a % 2 ^ 8 ^^^ b % 2 ^ 8 := Nat.xor_mod_two_pow
  have e1 : 256 * a / 2 ^ 8 = a := by omega
  have e2 : b / 2 ^ 8 = 0 := by omega
  have e3 : 256 * a % 2 ^ 8 = 0 := by omega
  have e4 : b % 2 ^ 8 = b := by omega
  rw [e1, e2, Nat.xor_zero] at h1
  rw [e3, e4, Nat.zero_xor] at h2
  omega
theorem step_xor (a b : Nat) : step (a ^^^ b) = step a ^^^ step b := by
  have h1 : (a ^^^ b) / 2 = a / 2 ^^^ b / 2 := Nat.xor_div_two
  have h2 : (a ^^^ b) % 2 = (a + b) % 2 := by
    have h := @Nat.xor_mod_two_eq_one a b
    by_cases c : (a ^^^ b) % 2 = 1
    · have := h.1 c
      omega
    · have := mt h.2 c
      omega
  unfold step
  rw [h1, h2]
  generalize a / 2 = x
  generalize b / 2 = y
  generalize 3988292384 = m
  rcases Nat.mod_two_eq_zero_or_one a with ha | ha <;> rcases Nat.mod_two_eq_zero_or_one b with hb | hb
  · rw [if_neg (by omega), if_neg (by omega), if_neg (by omega)]
  · rw [if_pos (by omega), if_neg (by omega), if_pos (by omega), Nat.xor_assoc]
  · rw [if_pos (by omega), if_pos (by omega), if_neg (by omega), Nat.xor_assoc, Nat.xor_assoc, Nat.xor_comm y m]
  · rw [if_neg (by omega), if_pos (by omega), if_pos (by omega), Nat.xor_assoc x m, Nat.xor_comm m (y ^^^ m), Nat.xor_assoc, Nat.xor_self, Nat.xor_zero]
theorem steps_xor (n a b : Nat) : steps n (a ^^^ b) = steps n a ^^^ steps n b := by
  induction n with
  | zero => rfl
  | succ n ih => show step _ = step _ ^^^ step _; rw [ih, step_xor]
theorem step_nought {c : Nat} (h : c < 4294967296) (e : step c = 0) : c = 0 := by
  unfold step at e
  split at e
  · have := xor_nought.1 e
    omega
  · omega
theorem steps_nought {c : Nat} (n : Nat) (h : c < 4294967296) (e : steps n c = 0) : c = 0 := by
  induction n with
  | zero => exact e
  | succ n ih => exact ih (step_nought (steps_lt n h) e)
theorem steps_inj {a b : Nat} (n : Nat) (ha : a < 4294967296) (hb : b < 4294967296) (e : steps n a = steps n b) : a = b := by
  have h : steps n (a ^^^ b) = 0 := by rw [steps_xor, e, Nat.xor_self]
  exact xor_nought.1 (steps_nought n (xor_lt32 ha hb) h)
theorem step_double (c : Nat) : step (2 * c) = c := by
  unfold step
  rw [if_neg (by omega)]; omega
theorem steps_succ' (n c : Nat) : steps (n + 1) c = steps n (step c) := by
  induction n with
  | zero => rfl
  | succ n ih => show step (steps (n + 1) c) = step (steps n (step c)); rw [ih]
theorem steps_double (n c : Nat) : steps n (2 ^ n * c) = c := by
  induction n generalizing c with
  | zero => simp [steps]
  | succ n ih =>
    have e : 2 ^ (n + 1) * c = 2 * (2 ^ n * c) := by rw [Nat.pow_succ, Nat.mul_comm (2 ^ n) 2, Nat.mul_assoc]
    rw [steps_succ', e, step_double, ih]
theorem steps8 (c : Nat) : steps 8 (256 * c) = c := steps_double 8 c

/-- The same bytes behind: what was not the same stays so. -/
theorem run_inj {a b : Nat} (l : List UInt8) (ha : a < 4294967296) (hb : b < 4294967296) (e : run a l = run b l) : a = b := by
  induction l generalizing a b with
  | nil => exact e
  | cons x l ih =>
    have hx := byte_lt x
    have h1 := ih (steps_lt 8 (xor_lt32 ha (by omega : x.toNat < 4294967296))) (steps_lt 8 (xor_lt32 hb (by omega : x.toNat < 4294967296))) e
    have h2 := steps_inj 8 (xor_lt32 ha (by omega)) (xor_lt32 hb (by omega)) h1
    have h3 : a ^^^ x.toNat ^^^ x.toNat = b ^^^ x.toNat ^^^ x.toNat := by rw [h2]
    rwa [xor_twice, xor_twice] at h3
theorem xor_swap (a b c d : Nat) : a ^^^ b ^^^ (c ^^^ d) = a ^^^ c ^^^ (b ^^^ d) := by
  rw [Nat.xor_assoc, Nat.xor_assoc, ← Nat.xor_assoc b c d, Nat.xor_comm b c, Nat.xor_assoc c b d]
/-- Texts of one length, turned into one another. -/
theorem run_xor (a b : Nat) (l m : List UInt8) (h : l.length = m.length) : run (a ^^^ b) (List.zipWith (· ^^^ ·) l m) = run a l ^^^ run b m := by
  induction l generalizing a b m with
  | nil =>
    cases m with
    | nil => rfl
    | cons y m => simp at h
  | cons x l ih =>
    cases m with
    | nil => simp at h
    | cons y m =>
      rw [List.zipWith_cons_cons, run_cons, run_cons, run_cons, UInt8.toNat_xor, xor_swap, steps_xor]
      exact ih _ _ m (by simpa using h)

/-- Four bytes more become nought only of noughts. -/
theorem run_four {a b c d : UInt8} (e : run 0 [a, b, c, d] = 0) : a.toNat = 0 ∧ b.toNat = 0 ∧ c.toNat = 0 ∧ d.toNat = 0 := by
  have ha := byte_lt a
  have hb := byte_lt b
  have hc := byte_lt c
  have hd := byte_lt d
  have e4 : steps 8 (run 0 [a, b, c] ^^^ d.toNat) = 0 := by rw [← run_snoc]; exact e
  have l3 : run 0 [a, b, c] < 4294967296 := run_lt _ (by omega)
  have l2 : run 0 [a, b] < 4294967296 := run_lt _ (by omega)
  have l1 : run 0 [a] < 4294967296 := run_lt _ (by omega)
  have e3 : run 0 [a, b, c] = d.toNat := xor_nought.1 (steps_nought 8 (xor_lt32 l3 (by omega)) e4)
  have e3' : steps 8 (run 0 [a, b] ^^^ c.toNat) = steps 8 (256 * d.toNat) := by rw [steps8, ← run_snoc]; exact e3
  have e2 := steps_inj 8 (xor_lt32 l2 (by omega)) (by omega) e3'
  have e2a : run 0 [a, b] = 256 * d.toNat ^^^ c.toNat := by rw [← e2, xor_twice]
  have o2 : 256 * d.toNat ^^^ c.toNat = 256 * d.toNat + c.toNat := xor_place _ hc
  have e1' : steps 8 (run 0 [a] ^^^ b.toNat) = steps 8 (256 * (256 * d.toNat + c.toNat)) := by rw [steps8, ← o2, ← run_snoc]; exact e2a
  have e1 := steps_inj 8 (xor_lt32 l1 (by omega)) (by omega) e1'
  have o1 : 256 * (256 * d.toNat + c.toNat) ^^^ b.toNat = 256 * (256 * d.toNat + c.toNat) + b.toNat := xor_place _ hb
  have e1a : run 0 [a] = 256 * (256 * d.toNat + c.toNat) + b.toNat := by rw [← o1, ← e1, xor_twice]
  have e0' : steps 8 (0 ^^^ a.toNat) = steps 8 (256 * (256 * (256 * d.toNat + c.toNat) + b.toNat)) := by rw [steps8, ← e1a, run_cons]; rfl
  have e0 := steps_inj 8 (xor_lt32 (by omega) (by omega)) (by omega) e0'
  rw [Nat.zero_xor] at e0
  omega
end Go.Proofs.Ytehaancdadmdkaa
