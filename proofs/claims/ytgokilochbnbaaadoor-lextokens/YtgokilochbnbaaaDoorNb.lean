/- Contract of the document's bit (package quaysideref01), the plain mathematics of a product that is doubled bit by bit, and what two cells hold of a wide number. -/
import Derived.Test.YtgokilochbnbaaaDoorNw
namespace Go.Proofs.YtgokilochbnbaaaDoor.Num
open Go.ChangeShapes Go.WideShapes Go.ChangeAt Go.RowKit
set_option linter.unusedVariables false
set_option maxRecDepth 100000

theorem and1 (n : Int) : bits .and .i64 n 1 = n % 2 := by
  have h : (BitVec.ofInt 64 1).toNat = 2 ^ 1 - 1 := by decide
  have key : (BitVec.ofInt 64 n &&& BitVec.ofInt 64 1).toNat = (n % ((2 ^ 64 : Nat) : Int)).toNat % 2 ^ 1 := by
    rw [BitVec.toNat_and, BitVec.toNat_ofInt, h, Nat.and_two_pow_sub_one_eq_mod]
  show IntKind.i64.wrap ((BitVec.ofInt 64 n &&& BitVec.ofInt 64 1).toNat : Nat) = n % 2
  rw [key, IntKind.wrap_i64]
  omega

theorem bit_hi (h l : Int) (k : Nat) (k1 : 62 ≤ k) (k2 : k ≤ 63) (w : World) :
    Calls Tryd.prog 85 #[.agg #[.int .i64 h, .int .i64 l], .int .i64 (k : Int)] w fun e w' => e = .returned (.bool (h / 2 ^ (k - 62) % 2 == 1)) ∧ Below w.heap.size w w' := by
  have a1 := fun n => and1 n
  go_enter Tryd.func85, Tryd.ntmps85
  go_wp2
  go_ret
  exact ⟨rfl, by go_grown⟩

theorem bit_lo (h l : Int) (k : Nat) (k1 : k < 62) (w : World) :
    Calls Tryd.prog 85 #[.agg #[.int .i64 h, .int .i64 l], .int .i64 (k : Int)] w fun e w' => e = .returned (.bool (l / 2 ^ k % 2 == 1)) ∧ Below w.heap.size w w' := by
  have a1 := fun n => and1 n
  go_enter Tryd.func85, Tryd.ntmps85
  go_wp2
  go_ret
  exact ⟨rfl, by go_grown⟩

/-- Bit k of a number. -/
def bitB (x : Int) (k : Nat) : Bool := x / 2 ^ k % 2 == 1

theorem pow_split (i j : Nat) : (2 : Int) ^ (i + j) = 2 ^ i * 2 ^ j := Int.pow_add 2 i j

theorem bit_any (x : Int) (k : Nat) (k2 : k ≤ 63) (w : World) :
    Calls Tryd.prog 85 #[.agg #[.int .i64 (hi x), .int .i64 (lo x)], .int .i64 (k : Int)] w fun e w' => e = .returned (.bool (bitB x k)) ∧ Below w.heap.size w w' := by
  by_cases c : 62 ≤ k
  · have e : bitB x k = (hi x / 2 ^ (k - 62) % 2 == 1) := by
      unfold bitB hi
      have e2 : (2 : Int) ^ k = 4611686018427387904 * 2 ^ (k - 62) := by
        have : k = 62 + (k - 62) := by omega
        rw [this, pow_split]; simp
      rw [e2, Int.ediv_ediv_of_nonneg (by omega)]
    rw [e]
    exact bit_hi _ _ k c k2 w
  · have e : bitB x k = (lo x / 2 ^ k % 2 == 1) := by
      unfold bitB lo
      have e2 : (4611686018427387904 : Int) = 2 ^ k * (2 * 2 ^ (61 - k)) := by
        have h1 : (2 : Int) ^ 62 = 2 ^ k * 2 ^ (1 + (61 - k)) := by rw [← pow_split]; congr 1; omega
        rw [pow_split 1] at h1
        simpa using h1
      have hp : (0 : Int) < 2 ^ k := Int.pow_pos (by omega)
      have e3 : (x % 4611686018427387904) / 2 ^ k = (x / 2 ^ k) % (2 * 2 ^ (61 - k)) := by
        have d := Int.mul_ediv_add_emod x (2 ^ k * (2 * 2 ^ (61 - k)))
        rw [e2]
        generalize hq : x / (2 ^ k * (2 * 2 ^ (61 - k))) = q at d
        generalize hm : x % (2 ^ k * (2 * 2 ^ (61 - k))) = m at d ⊢
        have hq2 : x / 2 ^ k / (2 * 2 ^ (61 - k)) = q := by rw [Int.ediv_ediv_of_nonneg (by omega), hq]
        have e4 : x / 2 ^ k = (2 * 2 ^ (61 - k)) * q + m / 2 ^ k := by
          have : x = m + 2 ^ k * ((2 * 2 ^ (61 - k)) * q) := by rw [← d, Int.mul_assoc]; omega
          rw [this, Int.add_mul_ediv_left _ _ (by omega)]
          omega
        have e5 := Int.mul_ediv_add_emod (x / 2 ^ k) (2 * 2 ^ (61 - k))
        rw [hq2] at e5
        omega
      rw [e3, Int.emod_emod_of_dvd _ (Int.dvd_mul_right 2 _)]
    rw [e]
    exact bit_lo _ _ k (by omega) w

/-- What is summed before bit k is looked at: the product of A and what B's higher bits are, below nought. -/
def part (A B : Int) (k : Nat) : Int := -(A * (B / 2 ^ k))
theorem part_start (A B : Int) (h0 : 0 ≤ B) (h1 : B ≤ 9223372036854775808) : part A B 64 = 0 := by
  unfold part
  have : B / 2 ^ 64 = 0 := by omega
  rw [this]; simp
theorem part_end (A B : Int) : part A B 0 = -(A * B) := by unfold part; simp
theorem part_step (A B : Int) (k : Nat) : part A B k = part A B (k + 1) + part A B (k + 1) + (if bitB B k then -A else 0) := by
  unfold part bitB
  have e : B / 2 ^ (k + 1) = B / 2 ^ k / 2 := by rw [pow_split, Int.ediv_ediv_of_nonneg (Int.le_of_lt (Int.pow_pos (by omega)))]; simp
  rw [e]
  generalize B / 2 ^ k = c
  by_cases h : c % 2 = 1
  · have : c = c / 2 + c / 2 + 1 := by omega
    simp only [h]
    have m : A * c = A * (c / 2) + A * (c / 2) + A := by
      conv => lhs; rw [this]
      rw [Int.mul_add, Int.mul_add]; omega
    simp; omega
  · have h' : c % 2 = 0 := by omega
    have : c = c / 2 + c / 2 := by omega
    have m : A * c = A * (c / 2) + A * (c / 2) := by
      conv => lhs; rw [this]
      rw [Int.mul_add]
    simp [h']; omega
theorem part_low (A B : Int) (k : Nat) (hA : 0 ≤ A) (hB : 0 ≤ B) : -(A * B) ≤ part A B k ∧ part A B k ≤ 0 := by
  unfold part
  have h1 : B / 2 ^ k ≤ B := Int.ediv_le_self _ hB
  have h2 : 0 ≤ B / 2 ^ k := Int.ediv_nonneg hB (Int.le_of_lt (Int.pow_pos (by omega)))
  have h3 := Int.mul_le_mul_of_nonneg_left h1 hA
  have h4 := Int.mul_nonneg hA h2
  omega

theorem number_any (x : Int) (w : World) :
    Calls Tryd.prog 86 #[.agg #[.int .i64 (hi x), .int .i64 (lo x)]] w fun e w' => e = .returned (.tuple #[.int .i64 (vl x), .int .i64 (er x)]) ∧ Below w.heap.size w w' := by
  by_cases h : -9223372036854775808 ≤ x ∧ x ≤ 9223372036854775807
  · rw [(vl_in h).1, (vl_in h).2]; exact number_in x h w
  · rw [(vl_out h).1, (vl_out h).2]; exact number_over x (by omega) w

/-- Two cells of block b hold a wide number, and may be written. -/
structure Pair (w : World) (b : Nat) (x : Int) : Prop where
  c0 : w.cell? ⟨b, 0, none⟩ = some (.int .i64 (hi x))
  c1 : w.cell? ⟨b, 1, none⟩ = some (.int .i64 (lo x))
  f0 : w.frozen? ⟨b, 0, none⟩ = false
  f1 : w.frozen? ⟨b, 1, none⟩ = false
  lt : b < w.heap.size

theorem Pair.below {w w' : World} {b : Nat} {x : Int} (h : Pair w b x) (k : Below w.heap.size w w') : Pair w' b x :=
  ⟨(k.cell (p := ⟨b, 0, none⟩) h.lt).trans h.c0, (k.cell (p := ⟨b, 1, none⟩) h.lt).trans h.c1, (k.frozen (p := ⟨b, 0, none⟩) h.lt).trans h.f0, (k.frozen (p := ⟨b, 1, none⟩) h.lt).trans h.f1, Nat.lt_of_lt_of_le h.lt k.size⟩

theorem Pair.put {w : World} {b : Nat} {x : Int} (h : Pair w b x) (y : Int) : Pair ((w.setCell ⟨b, 0, none⟩ (.int .i64 (hi y))).setCell ⟨b, 1, none⟩ (.int .i64 (lo y))) b y := by
  obtain ⟨c0, c1, f0, f1, lt⟩ := h
  refine ⟨?_, ?_, ?_, ?_, ?_⟩ <;> simp [*, go_sem]

theorem Pair.beside {w : World} {b c : Nat} {x : Int} (h : Pair w b x) (ne : b ≠ c) (u v : Value) : Pair ((w.setCell ⟨c, 0, none⟩ u).setCell ⟨c, 1, none⟩ v) b x := by
  obtain ⟨c0, c1, f0, f1, lt⟩ := h
  have ne' : ¬ c = b := fun e => ne e.symm
  refine ⟨?_, ?_, ?_, ?_, ?_⟩ <;> simp [*, go_sem]

theorem Pair.alloc {w : World} {b : Nat} {x : Int} (h : Pair w b x) (o : Obj) : Pair (w.alloc o) b x :=
  h.below ((Below.refl _ _).alloc (Nat.le_refl _) o)

theorem Pair.fresh (w : World) (x : Int) : Pair (w.alloc (.cells #[.int .i64 (hi x), .int .i64 (lo x)] 87)) w.heap.size x := by
  refine ⟨?_, ?_, ?_, ?_, ?_⟩ <;> simp [go_sem]
end Go.Proofs.YtgokilochbnbaaaDoor.Num
