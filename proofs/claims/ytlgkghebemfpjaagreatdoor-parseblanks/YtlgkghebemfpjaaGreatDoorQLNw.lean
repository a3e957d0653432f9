/- Contracts of the document's wide numbers (of, plus, less, number of package quaysideref01), and of its sums, differences and other signs. Contract of the document's bit (package quaysideref01), the plain mathematics of a product that is doubled bit by bit, and what two cells hold of a wide number. Contract of the document's Mul (package quaysideref01): a is doubled as often as b has bits. Contract -/
import Derived.Test.YtlgkghebemfpjaaGreatDoorQLNd
namespace Go.Proofs.YtlgkghebemfpjaaGreatDoor.Num
open Go.ChangeShapes Go.WideShapes Go.ChangeAt Go.RowKit
set_option linter.unusedVariables false
set_option maxRecDepth 100000
set_option maxRecDepth 100000
def hi (x : Int) : Int := x / 4611686018427387904
def lo (x : Int) : Int := x % 4611686018427387904
theorem lo_bd (x : Int) : 0 ≤ lo x ∧ lo x ≤ 4611686018427387903 := by unfold lo; omega
theorem hi_lo (x : Int) : x = 4611686018427387904 * hi x + lo x := by unfold hi lo; omega
theorem hi_lo_of {x h l : Int} (e : x = 4611686018427387904 * h + l) (h0 : 0 ≤ l) (h1 : l ≤ 4611686018427387903) : h = hi x ∧ l = lo x := by unfold hi lo; omega
theorem and62 (n : Int) : bits .and .i64 n 4611686018427387903 = lo n := by
 have h : (BitVec.ofInt 64 4611686018427387903).toNat = 2 ^ 62 - 1 := by decide
 have key : (BitVec.ofInt 64 n &&& BitVec.ofInt 64 4611686018427387903).toNat = (n % ((2 ^ 64 : Nat) : Int)).toNat % 2 ^ 62 := by
  rw [BitVec.toNat_and,BitVec.toNat_ofInt,h,Nat.and_two_pow_sub_one_eq_mod]
 show IntKind.i64.wrap ((BitVec.ofInt 64 n &&& BitVec.ofInt 64 4611686018427387903).toNat : Nat) = lo n
 rw [key,IntKind.wrap_i64]
 unfold lo
 omega
theorem of_any (n : Int) (hn : -9223372036854775808 ≤ n ∧ n ≤ 9223372036854775807) (w : World) :
 Calls Tryz.prog 116 #[.int .i64 n] w fun e w' => e = .returned (.agg #[.int .i64 (hi n),.int .i64 (lo n)]) ∧ Below w.heap.size w w' := by
 have h1 : n / 4611686018427387904 = hi n := rfl
 have h2 := and62 n
 go_enter Tryz.func116,Tryz.ntmps116
 go_wp2
 go_returns
 exact ⟨rfl,by go_grown⟩
theorem plus_raw (h1 l1 h2 l2 : Int) (b1 : 0 ≤ l1 ∧ l1 ≤ 4611686018427387903) (b2 : 0 ≤ l2 ∧ l2 ≤ 4611686018427387903)
 (c1 : -1152921504606846976 ≤ h1 ∧ h1 ≤ 1152921504606846976) (c2 : -1152921504606846976 ≤ h2 ∧ h2 ≤ 1152921504606846976) (w : World) (c : 4611686018427387904 ≤ l1 + l2) :
 Calls Tryz.prog 118 #[.agg #[.int .i64 h1,.int .i64 l1],.agg #[.int .i64 h2,.int .i64 l2]] w fun e w' => e = .returned (.agg #[.int .i64 (h1 + h2 + 1),.int .i64 (l1 - 4611686018427387904 + l2)]) ∧ Below w.heap.size w w' := by
 go_enter Tryz.func118,Tryz.ntmps118
 go_wp2
 go_returns
 exact ⟨rfl,by go_grown⟩
theorem plus_raw' (h1 l1 h2 l2 : Int) (b1 : 0 ≤ l1 ∧ l1 ≤ 4611686018427387903) (b2 : 0 ≤ l2 ∧ l2 ≤ 4611686018427387903)
 (c1 : -1152921504606846976 ≤ h1 ∧ h1 ≤ 1152921504606846976) (c2 : -1152921504606846976 ≤ h2 ∧ h2 ≤ 1152921504606846976) (w : World) (c : ¬ 4611686018427387904 ≤ l1 + l2) :
 Calls Tryz.prog 118 #[.agg #[.int .i64 h1,.int .i64 l1],.agg #[.int .i64 h2,.int .i64 l2]] w fun e w' => e = .returned (.agg #[.int .i64 (h1 + h2),.int .i64 (l1 - 4611686018427387904 + l2 + 4611686018427387904)]) ∧ Below w.heap.size w w' := by
 go_enter Tryz.func118,Tryz.ntmps118
 go_wp2
 go_returns
 exact ⟨rfl,by go_grown⟩
theorem plus_any (x y : Int) (c1 : -1152921504606846976 ≤ hi x ∧ hi x ≤ 1152921504606846976) (c2 : -1152921504606846976 ≤ hi y ∧ hi y ≤ 1152921504606846976) (w : World) :
 Calls Tryz.prog 118 #[.agg #[.int .i64 (hi x),.int .i64 (lo x)],.agg #[.int .i64 (hi y),.int .i64 (lo y)]] w fun e w' => e = .returned (.agg #[.int .i64 (hi (x + y)),.int .i64 (lo (x + y))]) ∧ Below w.heap.size w w' := by
 have b1 := lo_bd x
 have b2 := lo_bd y
 have e1 := hi_lo x
 have e2 := hi_lo y
 by_cases c : 4611686018427387904 ≤ lo x + lo y
 · obtain ⟨q1,q2⟩ := @hi_lo_of (x + y) (hi x + hi y + 1) (lo x - 4611686018427387904 + lo y) (by omega) (by omega) (by omega)
   rw [← q1, ← q2]
   exact plus_raw _ _ _ _ b1 b2 c1 c2 w c
 · obtain ⟨q1,q2⟩ := @hi_lo_of (x + y) (hi x + hi y) (lo x - 4611686018427387904 + lo y + 4611686018427387904) (by omega) (by omega) (by omega)
   rw [← q1, ← q2]
   exact plus_raw' _ _ _ _ b1 b2 c1 c2 w c
theorem less_raw (h l : Int) (b : 0 ≤ l ∧ l ≤ 4611686018427387903) (c1 : -1152921504606846976 ≤ h ∧ h ≤ 1152921504606846976) (w : World) (c : l ≠ 0) :
 Calls Tryz.prog 117 #[.agg #[.int .i64 h,.int .i64 l]] w fun e w' => e = .returned (.agg #[.int .i64 (-h - 1),.int .i64 (4611686018427387904 - l)]) ∧ Below w.heap.size w w' := by
 have c' : (l == 0) = false := by simpa using c
 go_enter Tryz.func117,Tryz.ntmps117
 go_wp2
 go_returns
 exact ⟨rfl,by go_grown⟩
theorem less_raw' (h : Int) (c1 : -1152921504606846976 ≤ h ∧ h ≤ 1152921504606846976) (w : World) :
 Calls Tryz.prog 117 #[.agg #[.int .i64 h,.int .i64 0]] w fun e w' => e = .returned (.agg #[.int .i64 (-h),.int .i64 0]) ∧ Below w.heap.size w w' := by
 go_enter Tryz.func117,Tryz.ntmps117
 go_wp2
 go_returns
 exact ⟨rfl,by go_grown⟩
theorem less_any (x : Int) (c1 : -1152921504606846976 ≤ hi x ∧ hi x ≤ 1152921504606846976) (w : World) :
 Calls Tryz.prog 117 #[.agg #[.int .i64 (hi x),.int .i64 (lo x)]] w fun e w' => e = .returned (.agg #[.int .i64 (hi (-x)),.int .i64 (lo (-x))]) ∧ Below w.heap.size w w' := by
 have b1 := lo_bd x
 have e1 := hi_lo x
 by_cases c : lo x = 0
 · obtain ⟨q1,q2⟩ := @hi_lo_of (-x) (-hi x) 0 (by omega) (by omega) (by omega)
   rw [← q1, ← q2,c]
   exact less_raw' _ c1 w
 · obtain ⟨q1,q2⟩ := @hi_lo_of (-x) (-hi x - 1) (4611686018427387904 - lo x) (by omega) (by omega) (by omega)
   rw [← q1, ← q2]
   exact less_raw _ _ b1 c1 w c
theorem or62 (h l : Int) (h0 : -2 ≤ h) (h1 : h ≤ 1) (b : 0 ≤ l ∧ l ≤ 4611686018427387903) : bits .or .i64 (4611686018427387904 * h) l = 4611686018427387904 * h + l := by
 obtain ⟨n,rfl⟩ := Int.eq_ofNat_of_zero_le b.1
 have hn : n < 2 ^ 62 := by omega
 have ha : (BitVec.ofInt 64 (4611686018427387904 * h)).toNat = 2 ^ 62 * (h % 4).toNat := by
  rw [BitVec.toNat_ofInt]; omega
 have hb : (BitVec.ofInt 64 (n : Int)).toNat = n := by rw [BitVec.toNat_ofInt]; omega
 show IntKind.i64.wrap ((BitVec.ofInt 64 (4611686018427387904 * h) ||| BitVec.ofInt 64 (n : Int)).toNat : Nat) = _
 rw [BitVec.toNat_or,ha,hb, ← Nat.two_pow_add_eq_or_of_lt hn,IntKind.wrap_i64]
 omega
theorem number_in (x : Int) (hx : -9223372036854775808 ≤ x ∧ x ≤ 9223372036854775807) (w : World) :
 Calls Tryz.prog 120 #[.agg #[.int .i64 (hi x),.int .i64 (lo x)]] w fun e w' => e = .returned (.tuple #[.int .i64 x,.int .i64 0]) ∧ Below w.heap.size w w' := by
 have b := lo_bd x
 have e := hi_lo x
 have c1 : -2 ≤ hi x := by omega
 have c2 : hi x ≤ 1 := by omega
 have o := or62 (hi x) (lo x) c1 c2 b
 rw [← e,Int.mul_comm] at o
 generalize hi x = h at *
 generalize lo x = l at *
 clear e
 go_enter Tryz.func120,Tryz.ntmps120
 go_wp2
 go_returns
 exact ⟨rfl,by go_grown⟩
theorem number_over (x : Int) (hx : x < -9223372036854775808 ∨ 9223372036854775807 < x) (w : World) :
 Calls Tryz.prog 120 #[.agg #[.int .i64 (hi x),.int .i64 (lo x)]] w fun e w' => e = .returned (.tuple #[.int .i64 0,.int .i64 10]) ∧ Below w.heap.size w w' := by
 have b := lo_bd x
 have e := hi_lo x
 have c1 : hi x < -2 ∨ 1 < hi x := by omega
 generalize hi x = h at *
 generalize lo x = l at *
 clear e hx
 rcases c1 with c | c
 · go_enter Tryz.func120,Tryz.ntmps120
   go_wp2
   go_returns
   exact ⟨rfl,by go_grown⟩
 · have c' : ¬ h < -2 := by omega
   go_enter Tryz.func120,Tryz.ntmps120
   go_wp2
   go_returns
   exact ⟨rfl,by go_grown⟩
theorem bnext {w w1 w2 : World} (h : Below w.heap.size w w1) (k : Below w1.heap.size w1 w2) : Below w.heap.size w w2 := h.trans (k.mono h.size)
theorem hi_small (x : Int) (h : -73786976294838206464 ≤ x ∧ x ≤ 73786976294838206464) : -1152921504606846976 ≤ hi x ∧ hi x ≤ 1152921504606846976 := by unfold hi; omega
theorem refSub_in (a b : Int) (ha : -9223372036854775808 ≤ a ∧ a ≤ 9223372036854775807) (hb : -9223372036854775808 ≤ b ∧ b ≤ 9223372036854775807)
 (h : -9223372036854775808 ≤ a - b ∧ a - b ≤ 9223372036854775807) (w : World) :
 Calls Tryz.prog 85 #[.int .i64 a,.int .i64 b] w fun e w' => e = .returned (.tuple #[.int .i64 (a - b),.int .i64 0]) ∧ Below w.heap.size w w' := by
 go_enter Tryz.func85,Tryz.ntmps85
 go_wp2_with fail
 refine (of_any a ha _).mono ?_; rintro e w1 ⟨rfl,k1⟩
 go_wp2_with fail
 refine (of_any b hb _).mono ?_; rintro e w2 ⟨rfl,k2⟩
 go_wp2_with fail
 refine (less_any b (hi_small b (by omega)) _).mono ?_; rintro e w2' ⟨rfl,k2'⟩
 go_wp2_with fail
 refine (plus_any a (-b) (hi_small a (by omega)) (hi_small (-b) (by omega)) _).mono ?_; rintro e w3 ⟨rfl,k3⟩
 go_wp2_with fail
 refine (number_in (a + -b) h _).mono ?_; rintro e w4 ⟨rfl,k4⟩
 go_wp2_with fail
 go_ret2
 exact ⟨rfl,bnext (bnext (bnext (bnext k1 k2) k2') k3) k4⟩
theorem refSub_over (a b : Int) (ha : -9223372036854775808 ≤ a ∧ a ≤ 9223372036854775807) (hb : -9223372036854775808 ≤ b ∧ b ≤ 9223372036854775807)
 (h : a - b < -9223372036854775808 ∨ 9223372036854775807 < a - b) (w : World) :
 Calls Tryz.prog 85 #[.int .i64 a,.int .i64 b] w fun e w' => e = .returned (.tuple #[.int .i64 0,.int .i64 10]) ∧ Below w.heap.size w w' := by
 go_enter Tryz.func85,Tryz.ntmps85
 go_wp2_with fail
 refine (of_any a ha _).mono ?_; rintro e w1 ⟨rfl,k1⟩
 go_wp2_with fail
 refine (of_any b hb _).mono ?_; rintro e w2 ⟨rfl,k2⟩
 go_wp2_with fail
 refine (less_any b (hi_small b (by omega)) _).mono ?_; rintro e w2' ⟨rfl,k2'⟩
 go_wp2_with fail
 refine (plus_any a (-b) (hi_small a (by omega)) (hi_small (-b) (by omega)) _).mono ?_; rintro e w3 ⟨rfl,k3⟩
 go_wp2_with fail
 refine (number_over (a + -b) (by omega) _).mono ?_; rintro e w4 ⟨rfl,k4⟩
 go_wp2_with fail
 go_ret2
 exact ⟨rfl,bnext (bnext (bnext (bnext k1 k2) k2') k3) k4⟩
theorem refNeg_in (a : Int) (ha : -9223372036854775808 ≤ a ∧ a ≤ 9223372036854775807) (h : -9223372036854775808 < a) (w : World) :
 Calls Tryz.prog 86 #[.int .i64 a] w fun e w' => e = .returned (.tuple #[.int .i64 (-a),.int .i64 0]) ∧ Below w.heap.size w w' := by
 go_enter Tryz.func86,Tryz.ntmps86
 go_wp2_with fail
 refine (of_any a ha _).mono ?_; rintro e w1 ⟨rfl,k1⟩
 go_wp2_with fail
 refine (less_any a (hi_small a (by omega)) _).mono ?_; rintro e w2 ⟨rfl,k2⟩
 go_wp2_with fail
 refine (number_in (-a) (by omega) _).mono ?_; rintro e w4 ⟨rfl,k4⟩
 go_wp2_with fail
 go_ret2
 exact ⟨rfl,bnext (bnext k1 k2) k4⟩
theorem refNeg_least (w : World) :
 Calls Tryz.prog 86 #[.int .i64 (-9223372036854775808)] w fun e w' => e = .returned (.tuple #[.int .i64 0,.int .i64 10]) ∧ Below w.heap.size w w' := by
 obtain ⟨a,ha⟩ : ∃ a : Int,a = -9223372036854775808 := ⟨_,rfl⟩
 rw [← ha]
 have ha' : a ≤ -9223372036854775808 := by omega
 have hb' : -9223372036854775808 ≤ a := by omega
 clear ha
 go_enter Tryz.func86,Tryz.ntmps86
 go_wp2_with fail
 refine (of_any a (by omega) _).mono ?_; rintro e w1 ⟨rfl,k1⟩
 go_wp2_with fail
 refine (less_any a (hi_small a (by omega)) _).mono ?_; rintro e w2 ⟨rfl,k2⟩
 go_wp2_with fail
 refine (number_over (-a) (by omega) _).mono ?_; rintro e w4 ⟨rfl,k4⟩
 go_wp2_with fail
 go_ret2
 exact ⟨rfl,bnext (bnext k1 k2) k4⟩
theorem and1 (n : Int) : bits .and .i64 n 1 = n % 2 := by
 have h : (BitVec.ofInt 64 1).toNat = 2 ^ 1 - 1 := by decide
 have key : (BitVec.ofInt 64 n &&& BitVec.ofInt 64 1).toNat = (n % ((2 ^ 64 : Nat) : Int)).toNat % 2 ^ 1 := by
  rw [BitVec.toNat_and,BitVec.toNat_ofInt,h,Nat.and_two_pow_sub_one_eq_mod]
 show IntKind.i64.wrap ((BitVec.ofInt 64 n &&& BitVec.ofInt 64 1).toNat : Nat) = n % 2
 rw [key,IntKind.wrap_i64]
 omega
theorem bit_hi (h l : Int) (k : Nat) (k1 : 62 ≤ k) (k2 : k ≤ 63) (w : World) :
 Calls Tryz.prog 119 #[.agg #[.int .i64 h,.int .i64 l],.int .i64 (k : Int)] w fun e w' => e = .returned (.bool (h / 2 ^ (k - 62) % 2 == 1)) ∧ Below w.heap.size w w' := by
 have a1 := fun n => and1 n
 go_enter Tryz.func119,Tryz.ntmps119
 go_wp2
 go_ret
 exact ⟨rfl,by go_grown⟩
theorem bit_lo (h l : Int) (k : Nat) (k1 : k < 62) (w : World) :
 Calls Tryz.prog 119 #[.agg #[.int .i64 h,.int .i64 l],.int .i64 (k : Int)] w fun e w' => e = .returned (.bool (l / 2 ^ k % 2 == 1)) ∧ Below w.heap.size w w' := by
 have a1 := fun n => and1 n
 go_enter Tryz.func119,Tryz.ntmps119
 go_wp2
 go_ret
 exact ⟨rfl,by go_grown⟩
def bitB (x : Int) (k : Nat) : Bool := x / 2 ^ k % 2 == 1
theorem pow_split (i j : Nat) : (2 : Int) ^ (i + j) = 2 ^ i * 2 ^ j := Int.pow_add 2 i j
theorem bit_any (x : Int) (k : Nat) (k2 : k ≤ 63) (w : World) :
 Calls Tryz.prog 119 #[.agg #[.int .i64 (hi x),.int .i64 (lo x)],.int .i64 (k : Int)] w fun e w' => e = .returned (.bool (bitB x k)) ∧ Below w.heap.size w w' := by
 by_cases c : 62 ≤ k
 · have e : bitB x k = (hi x / 2 ^ (k - 62) % 2 == 1) := by
    unfold bitB hi
    have e2 : (2 : Int) ^ k = 4611686018427387904 * 2 ^ (k - 62) := by
     have : k = 62 + (k - 62) := by omega
     rw [this,pow_split]; simp
    rw [e2,Int.ediv_ediv_of_nonneg (by omega)]
   rw [e]
   exact bit_hi _ _ k c k2 w
 · have e : bitB x k = (lo x / 2 ^ k % 2 == 1) := by
    unfold bitB lo
    have e2 : (4611686018427387904 : Int) = 2 ^ k * (2 * 2 ^ (61 - k)) := by
     have h1 : (2 : Int) ^ 62 = 2 ^ k * 2 ^ (1 + (61 - k)) := by rw [← pow_split]; congr 1; omega
     rw [pow_split 1] at h1
     simpa using h1
    have hp : (0 : Int) < 2 ^ k := Int.pow_pos (by omega)
    have e3 : (x % 4611686018427387904) / 2 ^ k = (x / 2 ^ k) % (2 * 2 ^ (61 - k)) := by
     have d := Int.mul_ediv_add_emod x (2 ^ k * (2 * 2 ^ (61 - k)))
     rw [e2]
     generalize hq : x / (2 ^ k * (2 * 2 ^ (61 - k))) = q at d
     generalize hm : x % (2 ^ k * (2 * 2 ^ (61 - k))) = m at d ⊢
     have hq2 : x / 2 ^ k / (2 * 2 ^ (61 - k)) = q := by rw [Int.ediv_ediv_of_nonneg (by omega),hq]
     have e4 : x / 2 ^ k = (2 * 2 ^ (61 - k)) * q + m / 2 ^ k := by
      have : x = m + 2 ^ k * ((2 * 2 ^ (61 - k)) * q) := by rw [← d,Int.mul_assoc]; omega
      rw [this,Int.add_mul_ediv_left _ _ (by omega)]
      omega
     have e5 := Int.mul_ediv_add_emod (x / 2 ^ k) (2 * 2 ^ (61 - k))
     rw [hq2] at e5
     omega
    rw [e3,Int.emod_emod_of_dvd _ (Int.dvd_mul_right 2 _)]
   rw [e]
   exact bit_lo _ _ k (by omega) w
def part (A B : Int) (k : Nat) : Int := -(A * (B / 2 ^ k))
theorem part_start (A B : Int) (h0 : 0 ≤ B) (h1 : B ≤ 9223372036854775808) : part A B 64 = 0 := by
 unfold part
 have : B / 2 ^ 64 = 0 := by omega
 rw [this]; simp
theorem part_end (A B : Int) : part A B 0 = -(A * B) := by unfold part; simp
theorem part_step (A B : Int) (k : Nat) : part A B k = part A B (k + 1) + part A B (k + 1) + (if bitB B k then -A else 0) := by
 unfold part bitB
 have e : B / 2 ^ (k + 1) = B / 2 ^ k / 2 := by rw [pow_split,Int.ediv_ediv_of_nonneg (Int.le_of_lt (Int.pow_pos (by omega)))]; simp
 rw [e]
 generalize B / 2 ^ k = c
 by_cases h : c % 2 = 1
 · have : c = c / 2 + c / 2 + 1 := by omega
   simp only [h]
   have m : A * c = A * (c / 2) + A * (c / 2) + A := by
    conv => lhs; rw [this]
    rw [Int.mul_add,Int.mul_add]; omega
   simp; omega
 · have h' : c % 2 = 0 := by omega
   have : c = c / 2 + c / 2 := by omega
   have m : A * c = A * (c / 2) + A * (c / 2) := by
    conv => lhs; rw [this]
    rw [Int.mul_add]
   simp [h']; omega
theorem part_low (A B : Int) (k : Nat) (hA : 0 ≤ A) (hB : 0 ≤ B) : -(A * B) ≤ part A B k ∧ part A B k ≤ 0 := by
 unfold part
 have h1 : B / 2 ^ k ≤ B := Int.ediv_le_self _ hB
 have h2 : 0 ≤ B / 2 ^ k := Int.ediv_nonneg hB (Int.le_of_lt (Int.pow_pos (by omega)))
 have h3 := Int.mul_le_mul_of_nonneg_left h1 hA
 have h4 := Int.mul_nonneg hA h2
 omega
theorem number_any (x : Int) (w : World) :
 Calls Tryz.prog 120 #[.agg #[.int .i64 (hi x),.int .i64 (lo x)]] w fun e w' => e = .returned (.tuple #[.int .i64 (vl x),.int .i64 (er x)]) ∧ Below w.heap.size w w' := by
 by_cases h : -9223372036854775808 ≤ x ∧ x ≤ 9223372036854775807
 · rw [(vl_in h).1,(vl_in h).2]; exact number_in x h w
 · rw [(vl_out h).1,(vl_out h).2]; exact number_over x (by omega) w
structure Pair (w : World) (b : Nat) (x : Int) : Prop where
 c0 : w.cell? ⟨b,0,none⟩ = some (.int .i64 (hi x))
 c1 : w.cell? ⟨b,1,none⟩ = some (.int .i64 (lo x))
 f0 : w.frozen? ⟨b,0,none⟩ = false
 f1 : w.frozen? ⟨b,1,none⟩ = false
 lt : b < w.heap.size
theorem Pair.below {w w' : World} {b : Nat} {x : Int} (h : Pair w b x) (k : Below w.heap.size w w') : Pair w' b x :=
 ⟨(k.cell (p := ⟨b,0,none⟩) h.lt).trans h.c0,(k.cell (p := ⟨b,1,none⟩) h.lt).trans h.c1,(k.frozen (p := ⟨b,0,none⟩) h.lt).trans h.f0,(k.frozen (p := ⟨b,1,none⟩) h.lt).trans h.f1,Nat.lt_of_lt_of_le h.lt k.size⟩
theorem Pair.put {w : World} {b : Nat} {x : Int} (h : Pair w b x) (y : Int) : Pair ((w.setCell ⟨b,0,none⟩ (.int .i64 (hi y))).setCell ⟨b,1,none⟩ (.int .i64 (lo y))) b y := by
 obtain ⟨c0,c1,f0,f1,lt⟩ := h
 refine ⟨?_, ?_, ?_, ?_, ?_⟩ <;> simp [*,go_sem]
theorem Pair.beside {w : World} {b c : Nat} {x : Int} (h : Pair w b x) (ne : b ≠ c) (u v : Value) : Pair ((w.setCell ⟨c,0,none⟩ u).setCell ⟨c,1,none⟩ v) b x := by
 obtain ⟨c0,c1,f0,f1,lt⟩ := h
 have ne' : ¬ c = b := fun e => ne e.symm
 refine ⟨?_, ?_, ?_, ?_, ?_⟩ <;> simp [*,go_sem]
theorem Pair.alloc {w : World} {b : Nat} {x : Int} (h : Pair w b x) (o : Obj) : Pair (w.alloc o) b x :=
 h.below ((Below.refl _ _).alloc (Nat.le_refl _) o)
theorem Pair.fresh (w : World) (x : Int) : Pair (w.alloc (.cells #[.int .i64 (hi x),.int .i64 (lo x)] 136)) w.heap.size x := by
 refine ⟨?_, ?_, ?_, ?_, ?_⟩ <;> simp [go_sem]
theorem hi_two {x : Int} (h : -2 ≤ hi x) : -9223372036854775808 ≤ x := by unfold hi at h; omega
theorem hi_two' {x : Int} (h : hi x < -2) : x < -9223372036854775808 := by unfold hi at h; omega
theorem Pair.fresh_at (w : World) (n : Nat) (x : Int) (hn : w.heap.size = n) : Pair (w.alloc (.cells #[.int .i64 (hi x),.int .i64 (lo x)] 136)) n x := hn ▸ Pair.fresh w x
theorem Pair.zero_at (w : World) (n : Nat) (x : Int) (hx : x = 0) (hn : w.heap.size = n) : Pair (w.alloc (.cells #[.int .i64 0,.int .i64 0] 136)) n x := by
 subst hx
 exact hn ▸ Pair.fresh w 0
theorem below_two {B : Nat} {a w : World} (h : Below B a w) {c : Nat} (hc : B ≤ c) (u v : Value) : Below B a ((w.setCell ⟨c,0,none⟩ u).setCell ⟨c,1,none⟩ v) := (h.setCell (p := ⟨c,0,none⟩) hc u).setCell (p := ⟨c,1,none⟩) hc v
theorem plus_to (x y z : Int) (h : x + y = z) (c1 : -73786976294838206464 ≤ x ∧ x ≤ 73786976294838206464) (c2 : -73786976294838206464 ≤ y ∧ y ≤ 73786976294838206464) (w : World) :
 Calls Tryz.prog 118 #[.agg #[.int .i64 (hi x),.int .i64 (lo x)],.agg #[.int .i64 (hi y),.int .i64 (lo y)]] w fun e w' => e = .returned (.agg #[.int .i64 (hi z),.int .i64 (lo z)]) ∧ Below w.heap.size w w' :=
 h ▸ plus_any x y (hi_small x c1) (hi_small y c2) w
theorem less_to (x z : Int) (h : -x = z) (c1 : -73786976294838206464 ≤ x ∧ x ≤ 73786976294838206464) (w : World) :
 Calls Tryz.prog 117 #[.agg #[.int .i64 (hi x),.int .i64 (lo x)]] w fun e w' => e = .returned (.agg #[.int .i64 (hi z),.int .i64 (lo z)]) ∧ Below w.heap.size w w' :=
 h ▸ less_any x (hi_small x c1) w
theorem bit_is (x : Int) (k : Nat) (b : Bool) (h : bitB x k = b) (k2 : k ≤ 63) (w : World) :
 Calls Tryz.prog 119 #[.agg #[.int .i64 (hi x),.int .i64 (lo x)],.int .i64 (k : Int)] w fun e w' => e = .returned (.bool b) ∧ Below w.heap.size w w' :=
 h ▸ bit_any x k k2 w
theorem ret_vl {p : Int} (h : ¬ (-9223372036854775808 ≤ p ∧ p ≤ 9223372036854775807)) : Ending.returned (.tuple #[.int .i64 0,.int .i64 10]) = .returned (.tuple #[.int .i64 (vl p),.int .i64 (er p)]) := by
 rw [(vl_out h).1,(vl_out h).2]
set_option maxHeartbeats 4000000 in
theorem refMul_pp (A B : Int) (pA : 0 < A) (lA : A ≤ 9223372036854775807) (pB : 0 < B) (lB : B ≤ 9223372036854775807) (w : World) :
 Calls Tryz.prog 84 #[.int .i64 A,.int .i64 B] w fun e w' => e = .returned (.tuple #[.int .i64 (vl (A * B)),.int .i64 (er (A * B))]) ∧ Below w.heap.size w w' := by
 have t0 : (A == 0) = false := by simp; omega
 have t1 : (B == 0) = false := by simp; omega
 go_enter Tryz.func84,Tryz.ntmps84
 go_wp2_with fail
 refine (of_any A (by omega) _).mono ?_; rintro e w1 ⟨rfl,k1⟩
 go_wp2_with fail
 refine (of_any B (by omega) _).mono ?_; rintro e w2 ⟨rfl,k2⟩
 have K2 := bnext k1 k2
 have pX := (Pair.fresh w2 A).alloc (.cells #[.int .i64 (hi B),.int .i64 (lo B)] 136)
 have pY := Pair.fresh_at (w2.alloc (.cells #[.int .i64 (hi A),.int .i64 (lo A)] 136)) (w2.heap.size + 1) B (by simp)
 have KB : Below w.heap.size w ((w2.alloc (.cells #[.int .i64 (hi A),.int .i64 (lo A)] 136)).alloc (.cells #[.int .i64 (hi B),.int .i64 (lo B)] 136)) := (K2.alloc K2.size _).alloc (Nat.le_trans K2.size (by simp)) _
 have hX : w.heap.size ≤ w2.heap.size := K2.size
 clear k1 k2 K2
 go_wp2_with fail
 refine (less_any A (hi_small _ (by omega)) _).mono ?_; rintro e w3 ⟨rfl,k3⟩
 replace pX := pX.below k3
 replace pY := pY.below k3
 replace KB := bnext KB k3
 clear k3
 obtain ⟨x0,x1,x2,x3,x4⟩ := id pX
 obtain ⟨y0,y1,y2,y3,y4⟩ := id pY
 go_wp2_with fail
 clear x0 x1 x2 x3 x4 y0 y1 y2 y3 y4
 replace pX := pX.put (-A)
 replace pY := pY.beside (c := w2.heap.size) (by omega) (.int .i64 (hi (-A))) (.int .i64 (lo (-A)))
 replace KB := below_two KB hX (.int .i64 (hi (-A))) (.int .i64 (lo (-A)))
 refine (less_any B (hi_small _ (by omega)) _).mono ?_; rintro e w4 ⟨rfl,k4⟩
 replace pX := pX.below k4
 replace pY := pY.below k4
 replace KB := bnext KB k4
 clear k4
 obtain ⟨x0,x1,x2,x3,x4⟩ := id pX
 obtain ⟨y0,y1,y2,y3,y4⟩ := id pY
 go_wp2_with fail
 clear x0 x1 x2 x3 x4 y0 y1 y2 y3 y4
 replace pX := pX.beside (c := w2.heap.size + 1) (by omega) (.int .i64 (hi (-B))) (.int .i64 (lo (-B)))
 replace pY := pY.put (-B)
 replace KB := below_two KB (c := w2.heap.size + 1) (by omega) (.int .i64 (hi (-B))) (.int .i64 (lo (-B)))
 have hS : w2.heap.size + 1 < w4.heap.size := by first | omega | simpa using pY.lt
 go_loopw [9] (fun i wr => ∃ n : Int, -1 ≤ n ∧ n ≤ 63 ∧ i = .int .i64 n ∧ Pair wr w2.heap.size (-A) ∧ Pair wr (w2.heap.size + 1) (-B) ∧ Pair wr w4.heap.size (part A B (n + 1).toNat) ∧ -9223372036854775808 ≤ part A B (n + 1).toNat ∧ Below w.heap.size w wr)
  (fun i _ => (intOf i + 1).toNat)
 case atStart =>
  have hz := part_start A B (by omega) (by omega)
  exact ⟨63,by omega,by omega,rfl,pX.alloc _,pY.alloc _,Pair.zero_at _ _ _ hz (by simp),by show -9223372036854775808 ≤ part A B 64; omega,KB.alloc KB.size _⟩
 case round =>
  clear pX pY KB
  obtain ⟨n,hn1,hn2,rfl,pX,pY,pS,hp,KB⟩ := hrel
  by_cases hn : 0 ≤ n
  · obtain ⟨j,rfl⟩ := Int.eq_ofNat_of_zero_le hn
    have ej : ((j : Int) + 1).toNat = j + 1 := by omega
    rw [ej] at pS hp
    clear ej
    have hp0 := (part_low A B (j + 1) (by omega) (by omega)).2
    have hpl := (part_low A B j (by omega) (by omega)).1
    have hst := part_step A B j
    obtain ⟨d,hd⟩ : ∃ d,part A B (j + 1) + part A B (j + 1) = d := ⟨_,rfl⟩
    rw [hd] at hst
    obtain ⟨p,hpp⟩ : ∃ p,part A B j = p := ⟨_,rfl⟩
    obtain ⟨q,hq⟩ : ∃ q,part A B (j + 1) = q := ⟨_,rfl⟩
    rw [hpp] at hpl hst
    rw [hq] at pS hp hp0 hd
    have HP : Hid (part A B j = p) := hpp
    have HD : Hid (q + q = d) := hd
    have hd1 : d ≤ 0 := by omega
    have hd2 : -18446744073709551616 ≤ d := by omega
    have HQ : Hid (part A B (j + 1) = q) := hq
    clear hpp hq hd
    cases hb : bitB B j
    · have HE : Hid (d = p) := by rw [hb] at hst; simp at hst; show _ = _; omega
      have hb0 : Hid (bitB B j = false) := hb
      clear hst hb
      by_cases hh : hi p < -2
      · have _u := hh
        obtain rfl : d = p := HE.out
        obtain ⟨s0,s1,s2,s3,s4⟩ := id pS
        go_wp2_with fail
        refine (plus_to q q d HD.out (by omega) (by omega) _).mono ?_; rintro e w5 ⟨rfl,k5⟩
        clear s0 s1 s2 s3 s4
        replace pX := pX.below k5
        replace pY := pY.below k5
        replace pS := pS.below k5
        replace KB := bnext KB k5
        clear k5
        obtain ⟨y0,y1,y2,y3,y4⟩ := id pY
        obtain ⟨s0,s1,s2,s3,s4⟩ := id pS
        go_wp2_with fail
        clear y0 y1 y2 y3 y4 s0 s1 s2 s3 s4
        replace pX := pX.beside (c := w4.heap.size) (by omega) (.int .i64 (hi d)) (.int .i64 (lo d))
        replace pY := pY.beside (c := w4.heap.size) (by omega) (.int .i64 (hi d)) (.int .i64 (lo d))
        replace pS := pS.put d
        replace KB := below_two KB (c := w4.heap.size) (by omega) (.int .i64 (hi d)) (.int .i64 (lo d))
        refine (less_to (-B) B (by omega) (by omega) _).mono ?_; rintro e w6 ⟨rfl,k6⟩
        replace pX := pX.below k6
        replace pY := pY.below k6
        replace pS := pS.below k6
        replace KB := bnext KB k6
        clear k6
        go_wp2_with fail
        refine (bit_is B j false hb0.out (by omega) _).mono ?_; rintro e w7 ⟨rfl,k7⟩
        replace pX := pX.below k7
        replace pY := pY.below k7
        replace pS := pS.below k7
        replace KB := bnext KB k7
        clear k7
        obtain ⟨s0,s1,s2,s3,s4⟩ := id pS
        go_wp2_with fail
        clear s0 s1 s2 s3 s4
        have ho := hi_two' hh
        go_ret2
        exact ⟨ret_vl (by omega),KB⟩
      · have _u := hh
        obtain rfl : d = p := HE.out
        obtain ⟨s0,s1,s2,s3,s4⟩ := id pS
        go_wp2_with fail
        refine (plus_to q q d HD.out (by omega) (by omega) _).mono ?_; rintro e w5 ⟨rfl,k5⟩
        clear s0 s1 s2 s3 s4
        replace pX := pX.below k5
        replace pY := pY.below k5
        replace pS := pS.below k5
        replace KB := bnext KB k5
        clear k5
        obtain ⟨y0,y1,y2,y3,y4⟩ := id pY
        obtain ⟨s0,s1,s2,s3,s4⟩ := id pS
        go_wp2_with fail
        clear y0 y1 y2 y3 y4 s0 s1 s2 s3 s4
        replace pX := pX.beside (c := w4.heap.size) (by omega) (.int .i64 (hi d)) (.int .i64 (lo d))
        replace pY := pY.beside (c := w4.heap.size) (by omega) (.int .i64 (hi d)) (.int .i64 (lo d))
        replace pS := pS.put d
        replace KB := below_two KB (c := w4.heap.size) (by omega) (.int .i64 (hi d)) (.int .i64 (lo d))
        refine (less_to (-B) B (by omega) (by omega) _).mono ?_; rintro e w6 ⟨rfl,k6⟩
        replace pX := pX.below k6
        replace pY := pY.below k6
        replace pS := pS.below k6
        replace KB := bnext KB k6
        clear k6
        go_wp2_with fail
        refine (bit_is B j false hb0.out (by omega) _).mono ?_; rintro e w7 ⟨rfl,k7⟩
        replace pX := pX.below k7
        replace pY := pY.below k7
        replace pS := pS.below k7
        replace KB := bnext KB k7
        clear k7
        obtain ⟨s0,s1,s2,s3,s4⟩ := id pS
        go_wp2_with fail
        clear s0 s1 s2 s3 s4
        have ho := hi_two hh
        go_roundw
        case rel =>
         have ej : ((j : Int) - 1 + 1).toNat = j := by omega
         refine ⟨(j : Int) - 1,by omega,by omega,rfl,pX,pY, ?_, ?_,KB⟩
         · rw [ej,HP.out]; exact pS
         · rw [ej,HP.out]; exact ho
        case measure => simp [intOf]
    · have HE : Hid (d + -A = p) := by rw [hb] at hst; simp at hst; show _ = _; omega
      have hb0 : Hid (bitB B j = true) := hb
      clear hst hb
      by_cases hh : hi p < -2
      · have _u := hh
        obtain ⟨s0,s1,s2,s3,s4⟩ := id pS
        go_wp2_with fail
        refine (plus_to q q d HD.out (by omega) (by omega) _).mono ?_; rintro e w5 ⟨rfl,k5⟩
        clear s0 s1 s2 s3 s4
        replace pX := pX.below k5
        replace pY := pY.below k5
        replace pS := pS.below k5
        replace KB := bnext KB k5
        clear k5
        obtain ⟨y0,y1,y2,y3,y4⟩ := id pY
        obtain ⟨s0,s1,s2,s3,s4⟩ := id pS
        go_wp2_with fail
        clear y0 y1 y2 y3 y4 s0 s1 s2 s3 s4
        replace pX := pX.beside (c := w4.heap.size) (by omega) (.int .i64 (hi d)) (.int .i64 (lo d))
        replace pY := pY.beside (c := w4.heap.size) (by omega) (.int .i64 (hi d)) (.int .i64 (lo d))
        replace pS := pS.put d
        replace KB := below_two KB (c := w4.heap.size) (by omega) (.int .i64 (hi d)) (.int .i64 (lo d))
        refine (less_to (-B) B (by omega) (by omega) _).mono ?_; rintro e w6 ⟨rfl,k6⟩
        replace pX := pX.below k6
        replace pY := pY.below k6
        replace pS := pS.below k6
        replace KB := bnext KB k6
        clear k6
        go_wp2_with fail
        refine (bit_is B j true hb0.out (by omega) _).mono ?_; rintro e w7 ⟨rfl,k7⟩
        replace pX := pX.below k7
        replace pY := pY.below k7
        replace pS := pS.below k7
        replace KB := bnext KB k7
        clear k7
        obtain ⟨x0,x1,x2,x3,x4⟩ := id pX
        obtain ⟨s0,s1,s2,s3,s4⟩ := id pS
        go_wp2_with fail
        clear x0 x1 x2 x3 x4 s0 s1 s2 s3 s4
        refine (plus_to d (-A) p HE.out (by omega) (by omega) _).mono ?_; rintro e w8 ⟨rfl,k8⟩
        replace pX := pX.below k8
        replace pY := pY.below k8
        replace pS := pS.below k8
        replace KB := bnext KB k8
        clear k8
        obtain ⟨s0,s1,s2,s3,s4⟩ := id pS
        go_wp2_with fail
        clear s0 s1 s2 s3 s4
        replace pX := pX.beside (c := w4.heap.size) (by omega) (.int .i64 (hi p)) (.int .i64 (lo p))
        replace pY := pY.beside (c := w4.heap.size) (by omega) (.int .i64 (hi p)) (.int .i64 (lo p))
        replace pS := pS.put p
        replace KB := below_two KB (c := w4.heap.size) (by omega) (.int .i64 (hi p)) (.int .i64 (lo p))
        have ho := hi_two' hh
        go_ret2
        exact ⟨ret_vl (by omega),KB⟩
      · have _u := hh
        obtain ⟨s0,s1,s2,s3,s4⟩ := id pS
        go_wp2_with fail
        refine (plus_to q q d HD.out (by omega) (by omega) _).mono ?_; rintro e w5 ⟨rfl,k5⟩
        clear s0 s1 s2 s3 s4
        replace pX := pX.below k5
        replace pY := pY.below k5
        replace pS := pS.below k5
        replace KB := bnext KB k5
        clear k5
        obtain ⟨y0,y1,y2,y3,y4⟩ := id pY
        obtain ⟨s0,s1,s2,s3,s4⟩ := id pS
        go_wp2_with fail
        clear y0 y1 y2 y3 y4 s0 s1 s2 s3 s4
        replace pX := pX.beside (c := w4.heap.size) (by omega) (.int .i64 (hi d)) (.int .i64 (lo d))
        replace pY := pY.beside (c := w4.heap.size) (by omega) (.int .i64 (hi d)) (.int .i64 (lo d))
        replace pS := pS.put d
        replace KB := below_two KB (c := w4.heap.size) (by omega) (.int .i64 (hi d)) (.int .i64 (lo d))
        refine (less_to (-B) B (by omega) (by omega) _).mono ?_; rintro e w6 ⟨rfl,k6⟩
        replace pX := pX.below k6
        replace pY := pY.below k6
        replace pS := pS.below k6
        replace KB := bnext KB k6
        clear k6
        go_wp2_with fail
        refine (bit_is B j true hb0.out (by omega) _).mono ?_; rintro e w7 ⟨rfl,k7⟩
        replace pX := pX.below k7
        replace pY := pY.below k7
        replace pS := pS.below k7
        replace KB := bnext KB k7
        clear k7
        obtain ⟨x0,x1,x2,x3,x4⟩ := id pX
        obtain ⟨s0,s1,s2,s3,s4⟩ := id pS
        go_wp2_with fail
        clear x0 x1 x2 x3 x4 s0 s1 s2 s3 s4
        refine (plus_to d (-A) p HE.out (by omega) (by omega) _).mono ?_; rintro e w8 ⟨rfl,k8⟩
        replace pX := pX.below k8
        replace pY := pY.below k8
        replace pS := pS.below k8
        replace KB := bnext KB k8
        clear k8
        obtain ⟨s0,s1,s2,s3,s4⟩ := id pS
        go_wp2_with fail
        clear s0 s1 s2 s3 s4
        replace pX := pX.beside (c := w4.heap.size) (by omega) (.int .i64 (hi p)) (.int .i64 (lo p))
        replace pY := pY.beside (c := w4.heap.size) (by omega) (.int .i64 (hi p)) (.int .i64 (lo p))
        replace pS := pS.put p
        replace KB := below_two KB (c := w4.heap.size) (by omega) (.int .i64 (hi p)) (.int .i64 (lo p))
        have ho := hi_two hh
        go_roundw
        case rel =>
         have ej : ((j : Int) - 1 + 1).toNat = j := by omega
         refine ⟨(j : Int) - 1,by omega,by omega,rfl,pX,pY, ?_, ?_,KB⟩
         · rw [ej,HP.out]; exact pS
         · rw [ej,HP.out]; exact ho
        case measure => simp [intOf]
  · obtain rfl : n = -1 := by omega
    have e0 : ((-1 : Int) + 1).toNat = 0 := rfl
    rw [e0,part_end] at pS hp
    clear e0
    have dA : decide (A < 0) = false := by simp; omega
    have dB : decide (B < 0) = false := by simp; omega
    obtain ⟨s0,s1,s2,s3,s4⟩ := id pS
    go_wp2_with fail
    refine (less_to (-(A * B)) (A * B) (by omega) (by have := (part_low A B 0 (by omega) (by omega)); rw [part_end] at this; omega) _).mono ?_; rintro e w5 ⟨rfl,k5⟩
    clear s0 s1 s2 s3 s4
    replace pS := pS.below k5
    replace KB := bnext KB k5
    clear k5
    obtain ⟨s0,s1,s2,s3,s4⟩ := id pS
    go_wp2_with fail
    clear s0 s1 s2 s3 s4
    replace pS := pS.put (A * B)
    replace KB := below_two KB (c := w4.heap.size) (by omega) (.int .i64 (hi (A * B))) (.int .i64 (lo (A * B)))
    refine (number_any (A * B) _).mono ?_; rintro e w6 ⟨rfl,k6⟩
    go_wp2_with fail
    go_ret2
    exact ⟨rfl,bnext KB k6⟩
set_option maxHeartbeats 4000000 in
theorem refMul_pn (A B : Int) (pA : 0 < A) (lA : A ≤ 9223372036854775807) (pB : 0 < B) (lB : B ≤ 9223372036854775808) (w : World) :
 Calls Tryz.prog 84 #[.int .i64 A,.int .i64 (-B)] w fun e w' => e = .returned (.tuple #[.int .i64 (vl (-(A * B))),.int .i64 (er (-(A * B)))]) ∧ Below w.heap.size w w' := by
 have t0 : (A == 0) = false := by simp; omega
 have t1 : (-B == 0) = false := by simp; omega
 go_enter Tryz.func84,Tryz.ntmps84
 go_wp2_with fail
 refine (of_any A (by omega) _).mono ?_; rintro e w1 ⟨rfl,k1⟩
 go_wp2_with fail
 refine (of_any (-B) (by omega) _).mono ?_; rintro e w2 ⟨rfl,k2⟩
 have K2 := bnext k1 k2
 have pX := (Pair.fresh w2 A).alloc (.cells #[.int .i64 (hi (-B)),.int .i64 (lo (-B))] 136)
 have pY := Pair.fresh_at (w2.alloc (.cells #[.int .i64 (hi A),.int .i64 (lo A)] 136)) (w2.heap.size + 1) (-B) (by simp)
 have KB : Below w.heap.size w ((w2.alloc (.cells #[.int .i64 (hi A),.int .i64 (lo A)] 136)).alloc (.cells #[.int .i64 (hi (-B)),.int .i64 (lo (-B))] 136)) := (K2.alloc K2.size _).alloc (Nat.le_trans K2.size (by simp)) _
 have hX : w.heap.size ≤ w2.heap.size := K2.size
 clear k1 k2 K2
 go_wp2_with fail
 refine (less_any A (hi_small _ (by omega)) _).mono ?_; rintro e w3 ⟨rfl,k3⟩
 replace pX := pX.below k3
 replace pY := pY.below k3
 replace KB := bnext KB k3
 clear k3
 obtain ⟨x0,x1,x2,x3,x4⟩ := id pX
 obtain ⟨y0,y1,y2,y3,y4⟩ := id pY
 go_wp2_with fail
 clear x0 x1 x2 x3 x4 y0 y1 y2 y3 y4
 replace pX := pX.put (-A)
 replace pY := pY.beside (c := w2.heap.size) (by omega) (.int .i64 (hi (-A))) (.int .i64 (lo (-A)))
 replace KB := below_two KB hX (.int .i64 (hi (-A))) (.int .i64 (lo (-A)))
 have hS : w2.heap.size + 1 < w3.heap.size := by first | omega | simpa using pY.lt
 go_loopw [9] (fun i wr => ∃ n : Int, -1 ≤ n ∧ n ≤ 63 ∧ i = .int .i64 n ∧ Pair wr w2.heap.size (-A) ∧ Pair wr (w2.heap.size + 1) (-B) ∧ Pair wr w3.heap.size (part A B (n + 1).toNat) ∧ -9223372036854775808 ≤ part A B (n + 1).toNat ∧ Below w.heap.size w wr)
  (fun i _ => (intOf i + 1).toNat)
 case atStart =>
  have hz := part_start A B (by omega) (by omega)
  exact ⟨63,by omega,by omega,rfl,pX.alloc _,pY.alloc _,Pair.zero_at _ _ _ hz (by simp),by show -9223372036854775808 ≤ part A B 64; omega,KB.alloc KB.size _⟩
 case round =>
  clear pX pY KB
  obtain ⟨n,hn1,hn2,rfl,pX,pY,pS,hp,KB⟩ := hrel
  by_cases hn : 0 ≤ n
  · obtain ⟨j,rfl⟩ := Int.eq_ofNat_of_zero_le hn
    have ej : ((j : Int) + 1).toNat = j + 1 := by omega
    rw [ej] at pS hp
    clear ej
    have hp0 := (part_low A B (j + 1) (by omega) (by omega)).2
    have hpl := (part_low A B j (by omega) (by omega)).1
    have hst := part_step A B j
    obtain ⟨d,hd⟩ : ∃ d,part A B (j + 1) + part A B (j + 1) = d := ⟨_,rfl⟩
    rw [hd] at hst
    obtain ⟨p,hpp⟩ : ∃ p,part A B j = p := ⟨_,rfl⟩
    obtain ⟨q,hq⟩ : ∃ q,part A B (j + 1) = q := ⟨_,rfl⟩
    rw [hpp] at hpl hst
    rw [hq] at pS hp hp0 hd
    have HP : Hid (part A B j = p) := hpp
    have HD : Hid (q + q = d) := hd
    have hd1 : d ≤ 0 := by omega
    have hd2 : -18446744073709551616 ≤ d := by omega
    have HQ : Hid (part A B (j + 1) = q) := hq
    clear hpp hq hd
    cases hb : bitB B j
    · have HE : Hid (d = p) := by rw [hb] at hst; simp at hst; show _ = _; omega
      have hb0 : Hid (bitB B j = false) := hb
      clear hst hb
      by_cases hh : hi p < -2
      · have _u := hh
        obtain rfl : d = p := HE.out
        obtain ⟨s0,s1,s2,s3,s4⟩ := id pS
        go_wp2_with fail
        refine (plus_to q q d HD.out (by omega) (by omega) _).mono ?_; rintro e w5 ⟨rfl,k5⟩
        clear s0 s1 s2 s3 s4
        replace pX := pX.below k5
        replace pY := pY.below k5
        replace pS := pS.below k5
        replace KB := bnext KB k5
        clear k5
        obtain ⟨y0,y1,y2,y3,y4⟩ := id pY
        obtain ⟨s0,s1,s2,s3,s4⟩ := id pS
        go_wp2_with fail
        clear y0 y1 y2 y3 y4 s0 s1 s2 s3 s4
        replace pX := pX.beside (c := w3.heap.size) (by omega) (.int .i64 (hi d)) (.int .i64 (lo d))
        replace pY := pY.beside (c := w3.heap.size) (by omega) (.int .i64 (hi d)) (.int .i64 (lo d))
        replace pS := pS.put d
        replace KB := below_two KB (c := w3.heap.size) (by omega) (.int .i64 (hi d)) (.int .i64 (lo d))
        refine (less_to (-B) B (by omega) (by omega) _).mono ?_; rintro e w6 ⟨rfl,k6⟩
        replace pX := pX.below k6
        replace pY := pY.below k6
        replace pS := pS.below k6
        replace KB := bnext KB k6
        clear k6
        go_wp2_with fail
        refine (bit_is B j false hb0.out (by omega) _).mono ?_; rintro e w7 ⟨rfl,k7⟩
        replace pX := pX.below k7
        replace pY := pY.below k7
        replace pS := pS.below k7
        replace KB := bnext KB k7
        clear k7
        obtain ⟨s0,s1,s2,s3,s4⟩ := id pS
        go_wp2_with fail
        clear s0 s1 s2 s3 s4
        have ho := hi_two' hh
        go_ret2
        exact ⟨ret_vl (by omega),KB⟩
      · have _u := hh
        obtain rfl : d = p := HE.out
        obtain ⟨s0,s1,s2,s3,s4⟩ := id pS
        go_wp2_with fail
        refine (plus_to q q d HD.out (by omega) (by omega) _).mono ?_; rintro e w5 ⟨rfl,k5⟩
        clear s0 s1 s2 s3 s4
        replace pX := pX.below k5
        replace pY := pY.below k5
        replace pS := pS.below k5
        replace KB := bnext KB k5
        clear k5
        obtain ⟨y0,y1,y2,y3,y4⟩ := id pY
        obtain ⟨s0,s1,s2,s3,s4⟩ := id pS
        go_wp2_with fail
        clear y0 y1 y2 y3 y4 s0 s1 s2 s3 s4
        replace pX := pX.beside (c := w3.heap.size) (by omega) (.int .i64 (hi d)) (.int .i64 (lo d))
        replace pY := pY.beside (c := w3.heap.size) (by omega) (.int .i64 (hi d)) (.int .i64 (lo d))
        replace pS := pS.put d
        replace KB := below_two KB (c := w3.heap.size) (by omega) (.int .i64 (hi d)) (.int .i64 (lo d))
        refine (less_to (-B) B (by omega) (by omega) _).mono ?_; rintro e w6 ⟨rfl,k6⟩
        replace pX := pX.below k6
        replace pY := pY.below k6
        replace pS := pS.below k6
        replace KB := bnext KB k6
        clear k6
        go_wp2_with fail
        refine (bit_is B j false hb0.out (by omega) _).mono ?_; rintro e w7 ⟨rfl,k7⟩
        replace pX := pX.below k7
        replace pY := pY.below k7
        replace pS := pS.below k7
        replace KB := bnext KB k7
        clear k7
        obtain ⟨s0,s1,s2,s3,s4⟩ := id pS
        go_wp2_with fail
        clear s0 s1 s2 s3 s4
        have ho := hi_two hh
        go_roundw
        case rel =>
         have ej : ((j : Int) - 1 + 1).toNat = j := by omega
         refine ⟨(j : Int) - 1,by omega,by omega,rfl,pX,pY, ?_, ?_,KB⟩
         · rw [ej,HP.out]; exact pS
         · rw [ej,HP.out]; exact ho
        case measure => simp [intOf]
    · have HE : Hid (d + -A = p) := by rw [hb] at hst; simp at hst; show _ = _; omega
      have hb0 : Hid (bitB B j = true) := hb
      clear hst hb
      by_cases hh : hi p < -2
      · have _u := hh
        obtain ⟨s0,s1,s2,s3,s4⟩ := id pS
        go_wp2_with fail
        refine (plus_to q q d HD.out (by omega) (by omega) _).mono ?_; rintro e w5 ⟨rfl,k5⟩
        clear s0 s1 s2 s3 s4
        replace pX := pX.below k5
        replace pY := pY.below k5
        replace pS := pS.below k5
        replace KB := bnext KB k5
        clear k5
        obtain ⟨y0,y1,y2,y3,y4⟩ := id pY
        obtain ⟨s0,s1,s2,s3,s4⟩ := id pS
        go_wp2_with fail
        clear y0 y1 y2 y3 y4 s0 s1 s2 s3 s4
        replace pX := pX.beside (c := w3.heap.size) (by omega) (.int .i64 (hi d)) (.int .i64 (lo d))
        replace pY := pY.beside (c := w3.heap.size) (by omega) (.int .i64 (hi d)) (.int .i64 (lo d))
        replace pS := pS.put d
        replace KB := below_two KB (c := w3.heap.size) (by omega) (.int .i64 (hi d)) (.int .i64 (lo d))
        refine (less_to (-B) B (by omega) (by omega) _).mono ?_; rintro e w6 ⟨rfl,k6⟩
        replace pX := pX.below k6
        replace pY := pY.below k6
        replace pS := pS.below k6
        replace KB := bnext KB k6
        clear k6
        go_wp2_with fail
        refine (bit_is B j true hb0.out (by omega) _).mono ?_; rintro e w7 ⟨rfl,k7⟩
        replace pX := pX.below k7
        replace pY := pY.below k7
        replace pS := pS.below k7
        replace KB := bnext KB k7
        clear k7
        obtain ⟨x0,x1,x2,x3,x4⟩ := id pX
        obtain ⟨s0,s1,s2,s3,s4⟩ := id pS
        go_wp2_with fail
        clear x0 x1 x2 x3 x4 s0 s1 s2 s3 s4
        refine (plus_to d (-A) p HE.out (by omega) (by omega) _).mono ?_; rintro e w8 ⟨rfl,k8⟩
        replace pX := pX.below k8
        replace pY := pY.below k8
        replace pS := pS.below k8
        replace KB := bnext KB k8
        clear k8
        obtain ⟨s0,s1,s2,s3,s4⟩ := id pS
        go_wp2_with fail
        clear s0 s1 s2 s3 s4
        replace pX := pX.beside (c := w3.heap.size) (by omega) (.int .i64 (hi p)) (.int .i64 (lo p))
        replace pY := pY.beside (c := w3.heap.size) (by omega) (.int .i64 (hi p)) (.int .i64 (lo p))
        replace pS := pS.put p
        replace KB := below_two KB (c := w3.heap.size) (by omega) (.int .i64 (hi p)) (.int .i64 (lo p))
        have ho := hi_two' hh
        go_ret2
        exact ⟨ret_vl (by omega),KB⟩
      · have _u := hh
        obtain ⟨s0,s1,s2,s3,s4⟩ := id pS
        go_wp2_with fail
        refine (plus_to q q d HD.out (by omega) (by omega) _).mono ?_; rintro e w5 ⟨rfl,k5⟩
        clear s0 s1 s2 s3 s4
        replace pX := pX.below k5
        replace pY := pY.below k5
        replace pS := pS.below k5
        replace KB := bnext KB k5
        clear k5
        obtain ⟨y0,y1,y2,y3,y4⟩ := id pY
        obtain ⟨s0,s1,s2,s3,s4⟩ := id pS
        go_wp2_with fail
        clear y0 y1 y2 y3 y4 s0 s1 s2 s3 s4
        replace pX := pX.beside (c := w3.heap.size) (by omega) (.int .i64 (hi d)) (.int .i64 (lo d))
        replace pY := pY.beside (c := w3.heap.size) (by omega) (.int .i64 (hi d)) (.int .i64 (lo d))
        replace pS := pS.put d
        replace KB := below_two KB (c := w3.heap.size) (by omega) (.int .i64 (hi d)) (.int .i64 (lo d))
        refine (less_to (-B) B (by omega) (by omega) _).mono ?_; rintro e w6 ⟨rfl,k6⟩
        replace pX := pX.below k6
        replace pY := pY.below k6
        replace pS := pS.below k6
        replace KB := bnext KB k6
        clear k6
        go_wp2_with fail
        refine (bit_is B j true hb0.out (by omega) _).mono ?_; rintro e w7 ⟨rfl,k7⟩
        replace pX := pX.below k7
        replace pY := pY.below k7
        replace pS := pS.below k7
        replace KB := bnext KB k7
        clear k7
        obtain ⟨x0,x1,x2,x3,x4⟩ := id pX
        obtain ⟨s0,s1,s2,s3,s4⟩ := id pS
        go_wp2_with fail
        clear x0 x1 x2 x3 x4 s0 s1 s2 s3 s4
        refine (plus_to d (-A) p HE.out (by omega) (by omega) _).mono ?_; rintro e w8 ⟨rfl,k8⟩
        replace pX := pX.below k8
        replace pY := pY.below k8
        replace pS := pS.below k8
        replace KB := bnext KB k8
        clear k8
        obtain ⟨s0,s1,s2,s3,s4⟩ := id pS
        go_wp2_with fail
        clear s0 s1 s2 s3 s4
        replace pX := pX.beside (c := w3.heap.size) (by omega) (.int .i64 (hi p)) (.int .i64 (lo p))
        replace pY := pY.beside (c := w3.heap.size) (by omega) (.int .i64 (hi p)) (.int .i64 (lo p))
        replace pS := pS.put p
        replace KB := below_two KB (c := w3.heap.size) (by omega) (.int .i64 (hi p)) (.int .i64 (lo p))
        have ho := hi_two hh
        go_roundw
        case rel =>
         have ej : ((j : Int) - 1 + 1).toNat = j := by omega
         refine ⟨(j : Int) - 1,by omega,by omega,rfl,pX,pY, ?_, ?_,KB⟩
         · rw [ej,HP.out]; exact pS
         · rw [ej,HP.out]; exact ho
        case measure => simp [intOf]
  · obtain rfl : n = -1 := by omega
    have e0 : ((-1 : Int) + 1).toNat = 0 := rfl
    rw [e0,part_end] at pS hp
    clear e0
    have dA : decide (A < 0) = false := by simp; omega
    have dB : decide (B < 0) = false := by simp; omega
    obtain ⟨s0,s1,s2,s3,s4⟩ := id pS
    go_wp2_with fail
    refine (number_any (-(A * B)) _).mono ?_; rintro e w6 ⟨rfl,k6⟩
    go_wp2_with fail
    go_ret2
    exact ⟨rfl,bnext KB k6⟩
set_option maxHeartbeats 4000000 in
theorem refMul_np (A B : Int) (pA : 0 < A) (lA : A ≤ 9223372036854775808) (pB : 0 < B) (lB : B ≤ 9223372036854775807) (w : World) :
 Calls Tryz.prog 84 #[.int .i64 (-A),.int .i64 B] w fun e w' => e = .returned (.tuple #[.int .i64 (vl (-(A * B))),.int .i64 (er (-(A * B)))]) ∧ Below w.heap.size w w' := by
 have t0 : (-A == 0) = false := by simp; omega
 have t1 : (B == 0) = false := by simp; omega
 go_enter Tryz.func84,Tryz.ntmps84
 go_wp2_with fail
 refine (of_any (-A) (by omega) _).mono ?_; rintro e w1 ⟨rfl,k1⟩
 go_wp2_with fail
 refine (of_any B (by omega) _).mono ?_; rintro e w2 ⟨rfl,k2⟩
 have K2 := bnext k1 k2
 have pX := (Pair.fresh w2 (-A)).alloc (.cells #[.int .i64 (hi B),.int .i64 (lo B)] 136)
 have pY := Pair.fresh_at (w2.alloc (.cells #[.int .i64 (hi (-A)),.int .i64 (lo (-A))] 136)) (w2.heap.size + 1) B (by simp)
 have KB : Below w.heap.size w ((w2.alloc (.cells #[.int .i64 (hi (-A)),.int .i64 (lo (-A))] 136)).alloc (.cells #[.int .i64 (hi B),.int .i64 (lo B)] 136)) := (K2.alloc K2.size _).alloc (Nat.le_trans K2.size (by simp)) _
 have hX : w.heap.size ≤ w2.heap.size := K2.size
 clear k1 k2 K2
 go_wp2_with fail
 refine (less_any B (hi_small _ (by omega)) _).mono ?_; rintro e w4 ⟨rfl,k4⟩
 replace pX := pX.below k4
 replace pY := pY.below k4
 replace KB := bnext KB k4
 clear k4
 obtain ⟨x0,x1,x2,x3,x4⟩ := id pX
 obtain ⟨y0,y1,y2,y3,y4⟩ := id pY
 go_wp2_with fail
 clear x0 x1 x2 x3 x4 y0 y1 y2 y3 y4
 replace pX := pX.beside (c := w2.heap.size + 1) (by omega) (.int .i64 (hi (-B))) (.int .i64 (lo (-B)))
 replace pY := pY.put (-B)
 replace KB := below_two KB (c := w2.heap.size + 1) (by omega) (.int .i64 (hi (-B))) (.int .i64 (lo (-B)))
 have hS : w2.heap.size + 1 < w4.heap.size := by first | omega | simpa using pY.lt
 go_loopw [9] (fun i wr => ∃ n : Int, -1 ≤ n ∧ n ≤ 63 ∧ i = .int .i64 n ∧ Pair wr w2.heap.size (-A) ∧ Pair wr (w2.heap.size + 1) (-B) ∧ Pair wr w4.heap.size (part A B (n + 1).toNat) ∧ -9223372036854775808 ≤ part A B (n + 1).toNat ∧ Below w.heap.size w wr)
  (fun i _ => (intOf i + 1).toNat)
 case atStart =>
  have hz := part_start A B (by omega) (by omega)
  exact ⟨63,by omega,by omega,rfl,pX.alloc _,pY.alloc _,Pair.zero_at _ _ _ hz (by simp),by show -9223372036854775808 ≤ part A B 64; omega,KB.alloc KB.size _⟩
 case round =>
  clear pX pY KB
  obtain ⟨n,hn1,hn2,rfl,pX,pY,pS,hp,KB⟩ := hrel
  by_cases hn : 0 ≤ n
  · obtain ⟨j,rfl⟩ := Int.eq_ofNat_of_zero_le hn
    have ej : ((j : Int) + 1).toNat = j + 1 := by omega
    rw [ej] at pS hp
    clear ej
    have hp0 := (part_low A B (j + 1) (by omega) (by omega)).2
    have hpl := (part_low A B j (by omega) (by omega)).1
    have hst := part_step A B j
    obtain ⟨d,hd⟩ : ∃ d,part A B (j + 1) + part A B (j + 1) = d := ⟨_,rfl⟩
    rw [hd] at hst
    obtain ⟨p,hpp⟩ : ∃ p,part A B j = p := ⟨_,rfl⟩
    obtain ⟨q,hq⟩ : ∃ q,part A B (j + 1) = q := ⟨_,rfl⟩
    rw [hpp] at hpl hst
    rw [hq] at pS hp hp0 hd
    have HP : Hid (part A B j = p) := hpp
    have HD : Hid (q + q = d) := hd
    have hd1 : d ≤ 0 := by omega
    have hd2 : -18446744073709551616 ≤ d := by omega
    have HQ : Hid (part A B (j + 1) = q) := hq
    clear hpp hq hd
    cases hb : bitB B j
    · have HE : Hid (d = p) := by rw [hb] at hst; simp at hst; show _ = _; omega
      have hb0 : Hid (bitB B j = false) := hb
      clear hst hb
      by_cases hh : hi p < -2
      · have _u := hh
        obtain rfl : d = p := HE.out
        obtain ⟨s0,s1,s2,s3,s4⟩ := id pS
        go_wp2_with fail
        refine (plus_to q q d HD.out (by omega) (by omega) _).mono ?_; rintro e w5 ⟨rfl,k5⟩
        clear s0 s1 s2 s3 s4
        replace pX := pX.below k5
        replace pY := pY.below k5
        replace pS := pS.below k5
        replace KB := bnext KB k5
        clear k5
        obtain ⟨y0,y1,y2,y3,y4⟩ := id pY
        obtain ⟨s0,s1,s2,s3,s4⟩ := id pS
        go_wp2_with fail
        clear y0 y1 y2 y3 y4 s0 s1 s2 s3 s4
        replace pX := pX.beside (c := w4.heap.size) (by omega) (.int .i64 (hi d)) (.int .i64 (lo d))
        replace pY := pY.beside (c := w4.heap.size) (by omega) (.int .i64 (hi d)) (.int .i64 (lo d))
        replace pS := pS.put d
        replace KB := below_two KB (c := w4.heap.size) (by omega) (.int .i64 (hi d)) (.int .i64 (lo d))
        refine (less_to (-B) B (by omega) (by omega) _).mono ?_; rintro e w6 ⟨rfl,k6⟩
        replace pX := pX.below k6
        replace pY := pY.below k6
        replace pS := pS.below k6
        replace KB := bnext KB k6
        clear k6
        go_wp2_with fail
        refine (bit_is B j false hb0.out (by omega) _).mono ?_; rintro e w7 ⟨rfl,k7⟩
        replace pX := pX.below k7
        replace pY := pY.below k7
        replace pS := pS.below k7
        replace KB := bnext KB k7
        clear k7
        obtain ⟨s0,s1,s2,s3,s4⟩ := id pS
        go_wp2_with fail
        clear s0 s1 s2 s3 s4
        have ho := hi_two' hh
        go_ret2
        exact ⟨ret_vl (by omega),KB⟩
      · have _u := hh
        obtain rfl : d = p := HE.out
        obtain ⟨s0,s1,s2,s3,s4⟩ := id pS
        go_wp2_with fail
        refine (plus_to q q d HD.out (by omega) (by omega) _).mono ?_; rintro e w5 ⟨rfl,k5⟩
        clear s0 s1 s2 s3 s4
        replace pX := pX.below k5
        replace pY := pY.below k5
        replace pS := pS.below k5
        replace KB := bnext KB k5
        clear k5
        obtain ⟨y0,y1,y2,y3,y4⟩ := id pY
        obtain ⟨s0,s1,s2,s3,s4⟩ := id pS
        go_wp2_with fail
        clear y0 y1 y2 y3 y4 s0 s1 s2 s3 s4
        replace pX := pX.beside (c := w4.heap.size) (by omega) (.int .i64 (hi d)) (.int .i64 (lo d))
        replace pY := pY.beside (c := w4.heap.size) (by omega) (.int .i64 (hi d)) (.int .i64 (lo d))
        replace pS := pS.put d
        replace KB := below_two KB (c := w4.heap.size) (by omega) (.int .i64 (hi d)) (.int .i64 (lo d))
        refine (less_to (-B) B (by omega) (by omega) _).mono ?_; rintro e w6 ⟨rfl,k6⟩
        replace pX := pX.below k6
        replace pY := pY.below k6
        replace pS := pS.below k6
        replace KB := bnext KB k6
        clear k6
        go_wp2_with fail
        refine (bit_is B j false hb0.out (by omega) _).mono ?_; rintro e w7 ⟨rfl,k7⟩
        replace pX := pX.below k7
        replace pY := pY.below k7
        replace pS := pS.below k7
        replace KB := bnext KB k7
        clear k7
        obtain ⟨s0,s1,s2,s3,s4⟩ := id pS
        go_wp2_with fail
        clear s0 s1 s2 s3 s4
        have ho := hi_two hh
        go_roundw
        case rel =>
         have ej : ((j : Int) - 1 + 1).toNat = j := by omega
         refine ⟨(j : Int) - 1,by omega,by omega,rfl,pX,pY, ?_, ?_,KB⟩
         · rw [ej,HP.out]; exact pS
         · rw [ej,HP.out]; exact ho
        case measure => simp [intOf]
    · have HE : Hid (d + -A = p) := by rw [hb] at hst; simp at hst; show _ = _; omega
      have hb0 : Hid (bitB B j = true) := hb
      clear hst hb
      by_cases hh : hi p < -2
      · have _u := hh
        obtain ⟨s0,s1,s2,s3,s4⟩ := id pS
        go_wp2_with fail
        refine (plus_to q q d HD.out (by omega) (by omega) _).mono ?_; rintro e w5 ⟨rfl,k5⟩
        clear s0 s1 s2 s3 s4
        replace pX := pX.below k5
        replace pY := pY.below k5
        replace pS := pS.below k5
        replace KB := bnext KB k5
        clear k5
        obtain ⟨y0,y1,y2,y3,y4⟩ := id pY
        obtain ⟨s0,s1,s2,s3,s4⟩ := id pS
        go_wp2_with fail
        clear y0 y1 y2 y3 y4 s0 s1 s2 s3 s4
        replace pX := pX.beside (c := w4.heap.size) (by omega) (.int .i64 (hi d)) (.int .i64 (lo d))
        replace pY := pY.beside (c := w4.heap.size) (by omega) (.int .i64 (hi d)) (.int .i64 (lo d))
        replace pS := pS.put d
        replace KB := below_two KB (c := w4.heap.size) (by omega) (.int .i64 (hi d)) (.int .i64 (lo d))
        refine (less_to (-B) B (by omega) (by omega) _).mono ?_; rintro e w6 ⟨rfl,k6⟩
        replace pX := pX.below k6
        replace pY := pY.below k6
        replace pS := pS.below k6
        replace KB := bnext KB k6
        clear k6
        go_wp2_with fail
        refine (bit_is B j true hb0.out (by omega) _).mono ?_; rintro e w7 ⟨rfl,k7⟩
        replace pX := pX.below k7
        replace pY := pY.below k7
        replace pS := pS.below k7
        replace KB := bnext KB k7
        clear k7
        obtain ⟨x0,x1,x2,x3,x4⟩ := id pX
        obtain ⟨s0,s1,s2,s3,s4⟩ := id pS
        go_wp2_with fail
        clear x0 x1 x2 x3 x4 s0 s1 s2 s3 s4
        refine (plus_to d (-A) p HE.out (by omega) (by omega) _).mono ?_; rintro e w8 ⟨rfl,k8⟩
        replace pX := pX.below k8
        replace pY := pY.below k8
        replace pS := pS.below k8
        replace KB := bnext KB k8
        clear k8
        obtain ⟨s0,s1,s2,s3,s4⟩ := id pS
        go_wp2_with fail
        clear s0 s1 s2 s3 s4
        replace pX := pX.beside (c := w4.heap.size) (by omega) (.int .i64 (hi p)) (.int .i64 (lo p))
        replace pY := pY.beside (c := w4.heap.size) (by omega) (.int .i64 (hi p)) (.int .i64 (lo p))
        replace pS := pS.put p
        replace KB := below_two KB (c := w4.heap.size) (by omega) (.int .i64 (hi p)) (.int .i64 (lo p))
        have ho := hi_two' hh
        go_ret2
        exact ⟨ret_vl (by omega),KB⟩
      · have _u := hh
        obtain ⟨s0,s1,s2,s3,s4⟩ := id pS
        go_wp2_with fail
        refine (plus_to q q d HD.out (by omega) (by omega) _).mono ?_; rintro e w5 ⟨rfl,k5⟩
        clear s0 s1 s2 s3 s4
        replace pX := pX.below k5
        replace pY := pY.below k5
        replace pS := pS.below k5
        replace KB := bnext KB k5
        clear k5
        obtain ⟨y0,y1,y2,y3,y4⟩ := id pY
        obtain ⟨s0,s1,s2,s3,s4⟩ := id pS
        go_wp2_with fail
        clear y0 y1 y2 y3 y4 s0 s1 s2 s3 s4
        replace pX := pX.beside (c := w4.heap.size) (by omega) (.int .i64 (hi d)) (.int .i64 (lo d))
        replace pY := pY.beside (c := w4.heap.size) (by omega) (.int .i64 (hi d)) (.int .i64 (lo d))
        replace pS := pS.put d
        replace KB := below_two KB (c := w4.heap.size) (by omega) (.int .i64 (hi d)) (.int .i64 (lo d))
        refine (less_to (-B) B (by omega) (by omega) _).mono ?_; rintro e w6 ⟨rfl,k6⟩
        replace pX := pX.below k6
        replace pY := pY.below k6
        replace pS := pS.below k6
        replace KB := bnext KB k6
        clear k6
        go_wp2_with fail
        refine (bit_is B j true hb0.out (by omega) _).mono ?_; rintro e w7 ⟨rfl,k7⟩
        replace pX := pX.below k7
        replace pY := pY.below k7
        replace pS := pS.below k7
        replace KB := bnext KB k7
        clear k7
        obtain ⟨x0,x1,x2,x3,x4⟩ := id pX
        obtain ⟨s0,s1,s2,s3,s4⟩ := id pS
        go_wp2_with fail
        clear x0 x1 x2 x3 x4 s0 s1 s2 s3 s4
        refine (plus_to d (-A) p HE.out (by omega) (by omega) _).mono ?_; rintro e w8 ⟨rfl,k8⟩
        replace pX := pX.below k8
        replace pY := pY.below k8
        replace pS := pS.below k8
        replace KB := bnext KB k8
        clear k8
        obtain ⟨s0,s1,s2,s3,s4⟩ := id pS
        go_wp2_with fail
        clear s0 s1 s2 s3 s4
        replace pX := pX.beside (c := w4.heap.size) (by omega) (.int .i64 (hi p)) (.int .i64 (lo p))
        replace pY := pY.beside (c := w4.heap.size) (by omega) (.int .i64 (hi p)) (.int .i64 (lo p))
        replace pS := pS.put p
        replace KB := below_two KB (c := w4.heap.size) (by omega) (.int .i64 (hi p)) (.int .i64 (lo p))
        have ho := hi_two hh
        go_roundw
        case rel =>
         have ej : ((j : Int) - 1 + 1).toNat = j := by omega
         refine ⟨(j : Int) - 1,by omega,by omega,rfl,pX,pY, ?_, ?_,KB⟩
         · rw [ej,HP.out]; exact pS
         · rw [ej,HP.out]; exact ho
        case measure => simp [intOf]
  · obtain rfl : n = -1 := by omega
    have e0 : ((-1 : Int) + 1).toNat = 0 := rfl
    rw [e0,part_end] at pS hp
    clear e0
    have dA : decide (A < 0) = false := by simp; omega
    have dB : decide (B < 0) = false := by simp; omega
    obtain ⟨s0,s1,s2,s3,s4⟩ := id pS
    go_wp2_with fail
    refine (number_any (-(A * B)) _).mono ?_; rintro e w6 ⟨rfl,k6⟩
    go_wp2_with fail
    go_ret2
    exact ⟨rfl,bnext KB k6⟩
set_option maxHeartbeats 4000000 in
theorem refMul_nn (A B : Int) (pA : 0 < A) (lA : A ≤ 9223372036854775808) (pB : 0 < B) (lB : B ≤ 9223372036854775808) (w : World) :
 Calls Tryz.prog 84 #[.int .i64 (-A),.int .i64 (-B)] w fun e w' => e = .returned (.tuple #[.int .i64 (vl (A * B)),.int .i64 (er (A * B))]) ∧ Below w.heap.size w w' := by
 have t0 : (-A == 0) = false := by simp; omega
 have t1 : (-B == 0) = false := by simp; omega
 go_enter Tryz.func84,Tryz.ntmps84
 go_wp2_with fail
 refine (of_any (-A) (by omega) _).mono ?_; rintro e w1 ⟨rfl,k1⟩
 go_wp2_with fail
 refine (of_any (-B) (by omega) _).mono ?_; rintro e w2 ⟨rfl,k2⟩
 have K2 := bnext k1 k2
 have pX := (Pair.fresh w2 (-A)).alloc (.cells #[.int .i64 (hi (-B)),.int .i64 (lo (-B))] 136)
 have pY := Pair.fresh_at (w2.alloc (.cells #[.int .i64 (hi (-A)),.int .i64 (lo (-A))] 136)) (w2.heap.size + 1) (-B) (by simp)
 have KB : Below w.heap.size w ((w2.alloc (.cells #[.int .i64 (hi (-A)),.int .i64 (lo (-A))] 136)).alloc (.cells #[.int .i64 (hi (-B)),.int .i64 (lo (-B))] 136)) := (K2.alloc K2.size _).alloc (Nat.le_trans K2.size (by simp)) _
 have hX : w.heap.size ≤ w2.heap.size := K2.size
 clear k1 k2 K2
 go_wp2_with fail
 have hS : w2.heap.size + 1 < (w2.heap.size + 1 + 1) := by first | omega | simpa using pY.lt
 go_loopw [9] (fun i wr => ∃ n : Int, -1 ≤ n ∧ n ≤ 63 ∧ i = .int .i64 n ∧ Pair wr w2.heap.size (-A) ∧ Pair wr (w2.heap.size + 1) (-B) ∧ Pair wr (w2.heap.size + 1 + 1) (part A B (n + 1).toNat) ∧ -9223372036854775808 ≤ part A B (n + 1).toNat ∧ Below w.heap.size w wr)
  (fun i _ => (intOf i + 1).toNat)
 case atStart =>
  have hz := part_start A B (by omega) (by omega)
  exact ⟨63,by omega,by omega,rfl,pX.alloc _,pY.alloc _,Pair.zero_at _ _ _ hz (by simp),by show -9223372036854775808 ≤ part A B 64; omega,KB.alloc KB.size _⟩
 case round =>
  clear pX pY KB
  obtain ⟨n,hn1,hn2,rfl,pX,pY,pS,hp,KB⟩ := hrel
  by_cases hn : 0 ≤ n
  · obtain ⟨j,rfl⟩ := Int.eq_ofNat_of_zero_le hn
    have ej : ((j : Int) + 1).toNat = j + 1 := by omega
    rw [ej] at pS hp
    clear ej
    have hp0 := (part_low A B (j + 1) (by omega) (by omega)).2
    have hpl := (part_low A B j (by omega) (by omega)).1
    have hst := part_step A B j
    obtain ⟨d,hd⟩ : ∃ d,part A B (j + 1) + part A B (j + 1) = d := ⟨_,rfl⟩
    rw [hd] at hst
    obtain ⟨p,hpp⟩ : ∃ p,part A B j = p := ⟨_,rfl⟩
    obtain ⟨q,hq⟩ : ∃ q,part A B (j + 1) = q := ⟨_,rfl⟩
    rw [hpp] at hpl hst
    rw [hq] at pS hp hp0 hd
    have HP : Hid (part A B j = p) := hpp
    have HD : Hid (q + q = d) := hd
    have hd1 : d ≤ 0 := by omega
    have hd2 : -18446744073709551616 ≤ d := by omega
    have HQ : Hid (part A B (j + 1) = q) := hq
    clear hpp hq hd
    cases hb : bitB B j
    · have HE : Hid (d = p) := by rw [hb] at hst; simp at hst; show _ = _; omega
      have hb0 : Hid (bitB B j = false) := hb
      clear hst hb
      by_cases hh : hi p < -2
      · have _u := hh
        obtain rfl : d = p := HE.out
        obtain ⟨s0,s1,s2,s3,s4⟩ := id pS
        go_wp2_with fail
        refine (plus_to q q d HD.out (by omega) (by omega) _).mono ?_; rintro e w5 ⟨rfl,k5⟩
        clear s0 s1 s2 s3 s4
        replace pX := pX.below k5
        replace pY := pY.below k5
        replace pS := pS.below k5
        replace KB := bnext KB k5
        clear k5
        obtain ⟨y0,y1,y2,y3,y4⟩ := id pY
        obtain ⟨s0,s1,s2,s3,s4⟩ := id pS
        go_wp2_with fail
        clear y0 y1 y2 y3 y4 s0 s1 s2 s3 s4
        replace pX := pX.beside (c := (w2.heap.size + 1 + 1)) (by omega) (.int .i64 (hi d)) (.int .i64 (lo d))
        replace pY := pY.beside (c := (w2.heap.size + 1 + 1)) (by omega) (.int .i64 (hi d)) (.int .i64 (lo d))
        replace pS := pS.put d
        replace KB := below_two KB (c := (w2.heap.size + 1 + 1)) (by omega) (.int .i64 (hi d)) (.int .i64 (lo d))
        refine (less_to (-B) B (by omega) (by omega) _).mono ?_; rintro e w6 ⟨rfl,k6⟩
        replace pX := pX.below k6
        replace pY := pY.below k6
        replace pS := pS.below k6
        replace KB := bnext KB k6
        clear k6
        go_wp2_with fail
        refine (bit_is B j false hb0.out (by omega) _).mono ?_; rintro e w7 ⟨rfl,k7⟩
        replace pX := pX.below k7
        replace pY := pY.below k7
        replace pS := pS.below k7
        replace KB := bnext KB k7
        clear k7
        obtain ⟨s0,s1,s2,s3,s4⟩ := id pS
        go_wp2_with fail
        clear s0 s1 s2 s3 s4
        have ho := hi_two' hh
        go_ret2
        exact ⟨ret_vl (by omega),KB⟩
      · have _u := hh
        obtain rfl : d = p := HE.out
        obtain ⟨s0,s1,s2,s3,s4⟩ := id pS
        go_wp2_with fail
        refine (plus_to q q d HD.out (by omega) (by omega) _).mono ?_; rintro e w5 ⟨rfl,k5⟩
        clear s0 s1 s2 s3 s4
        replace pX := pX.below k5
        replace pY := pY.below k5
        replace pS := pS.below k5
        replace KB := bnext KB k5
        clear k5
        obtain ⟨y0,y1,y2,y3,y4⟩ := id pY
        obtain ⟨s0,s1,s2,s3,s4⟩ := id pS
        go_wp2_with fail
        clear y0 y1 y2 y3 y4 s0 s1 s2 s3 s4
        replace pX := pX.beside (c := (w2.heap.size + 1 + 1)) (by omega) (.int .i64 (hi d)) (.int .i64 (lo d))
        replace pY := pY.beside (c := (w2.heap.size + 1 + 1)) (by omega) (.int .i64 (hi d)) (.int .i64 (lo d))
        replace pS := pS.put d
        replace KB := below_two KB (c := (w2.heap.size + 1 + 1)) (by omega) (.int .i64 (hi d)) (.int .i64 (lo d))
        refine (less_to (-B) B (by omega) (by omega) _).mono ?_; rintro e w6 ⟨rfl,k6⟩
        replace pX := pX.below k6
        replace pY := pY.below k6
        replace pS := pS.below k6
        replace KB := bnext KB k6
        clear k6
        go_wp2_with fail
        refine (bit_is B j false hb0.out (by omega) _).mono ?_; rintro e w7 ⟨rfl,k7⟩
        replace pX := pX.below k7
        replace pY := pY.below k7
        replace pS := pS.below k7
        replace KB := bnext KB k7
        clear k7
        obtain ⟨s0,s1,s2,s3,s4⟩ := id pS
        go_wp2_with fail
        clear s0 s1 s2 s3 s4
        have ho := hi_two hh
        go_roundw
        case rel =>
         have ej : ((j : Int) - 1 + 1).toNat = j := by omega
         refine ⟨(j : Int) - 1,by omega,by omega,rfl,pX,pY, ?_, ?_,KB⟩
         · rw [ej,HP.out]; exact pS
         · rw [ej,HP.out]; exact ho
        case measure => simp [intOf]
    · have HE : Hid (d + -A = p) := by rw [hb] at hst; simp at hst; show _ = _; omega
      have hb0 : Hid (bitB B j = true) := hb
      clear hst hb
      by_cases hh : hi p < -2
      · have _u := hh
        obtain ⟨s0,s1,s2,s3,s4⟩ := id pS
        go_wp2_with fail
        refine (plus_to q q d HD.out (by omega) (by omega) _).mono ?_; rintro e w5 ⟨rfl,k5⟩
        clear s0 s1 s2 s3 s4
        replace pX := pX.below k5
        replace pY := pY.below k5
        replace pS := pS.below k5
        replace KB := bnext KB k5
        clear k5
        obtain ⟨y0,y1,y2,y3,y4⟩ := id pY
        obtain ⟨s0,s1,s2,s3,s4⟩ := id pS
        go_wp2_with fail
        clear y0 y1 y2 y3 y4 s0 s1 s2 s3 s4
        replace pX := pX.beside (c := (w2.heap.size + 1 + 1)) (by omega) (.int .i64 (hi d)) (.int .i64 (lo d))
        replace pY := pY.beside (c := (w2.heap.size + 1 + 1)) (by omega) (.int .i64 (hi d)) (.int .i64 (lo d))
        replace pS := pS.put d
        replace KB := below_two KB (c := (w2.heap.size + 1 + 1)) (by omega) (.int .i64 (hi d)) (.int .i64 (lo d))
        refine (less_to (-B) B (by omega) (by omega) _).mono ?_; rintro e w6 ⟨rfl,k6⟩
        replace pX := pX.below k6
        replace pY := pY.below k6
        replace pS := pS.below k6
        replace KB := bnext KB k6
        clear k6
        go_wp2_with fail
        refine (bit_is B j true hb0.out (by omega) _).mono ?_; rintro e w7 ⟨rfl,k7⟩
        replace pX := pX.below k7
        replace pY := pY.below k7
        replace pS := pS.below k7
        replace KB := bnext KB k7
        clear k7
        obtain ⟨x0,x1,x2,x3,x4⟩ := id pX
        obtain ⟨s0,s1,s2,s3,s4⟩ := id pS
        go_wp2_with fail
        clear x0 x1 x2 x3 x4 s0 s1 s2 s3 s4
        refine (plus_to d (-A) p HE.out (by omega) (by omega) _).mono ?_; rintro e w8 ⟨rfl,k8⟩
        replace pX := pX.below k8
        replace pY := pY.below k8
        replace pS := pS.below k8
        replace KB := bnext KB k8
        clear k8
        obtain ⟨s0,s1,s2,s3,s4⟩ := id pS
        go_wp2_with fail
        clear s0 s1 s2 s3 s4
        replace pX := pX.beside (c := (w2.heap.size + 1 + 1)) (by omega) (.int .i64 (hi p)) (.int .i64 (lo p))
        replace pY := pY.beside (c := (w2.heap.size + 1 + 1)) (by omega) (.int .i64 (hi p)) (.int .i64 (lo p))
        replace pS := pS.put p
        replace KB := below_two KB (c := (w2.heap.size + 1 + 1)) (by omega) (.int .i64 (hi p)) (.int .i64 (lo p))
        have ho := hi_two' hh
        go_ret2
        exact ⟨ret_vl (by omega),KB⟩
      · have _u := hh
        obtain ⟨s0,s1,s2,s3,s4⟩ := id pS
        go_wp2_with fail
        refine (plus_to q q d HD.out (by omega) (by omega) _).mono ?_; rintro e w5 ⟨rfl,k5⟩
        clear s0 s1 s2 s3 s4
        replace pX := pX.below k5
        replace pY := pY.below k5
        replace pS := pS.below k5
        replace KB := bnext KB k5
        clear k5
        obtain ⟨y0,y1,y2,y3,y4⟩ := id pY
        obtain ⟨s0,s1,s2,s3,s4⟩ := id pS
        go_wp2_with fail
        clear y0 y1 y2 y3 y4 s0 s1 s2 s3 s4
        replace pX := pX.beside (c := (w2.heap.size + 1 + 1)) (by omega) (.int .i64 (hi d)) (.int .i64 (lo d))
        replace pY := pY.beside (c := (w2.heap.size + 1 + 1)) (by omega) (.int .i64 (hi d)) (.int .i64 (lo d))
        replace pS := pS.put d
        replace KB := below_two KB (c := (w2.heap.size + 1 + 1)) (by omega) (.int .i64 (hi d)) (.int .i64 (lo d))
        refine (less_to (-B) B (by omega) (by omega) _).mono ?_; rintro e w6 ⟨rfl,k6⟩
        replace pX := pX.below k6
        replace pY := pY.below k6
        replace pS := pS.below k6
        replace KB := bnext KB k6
        clear k6
        go_wp2_with fail
        refine (bit_is B j true hb0.out (by omega) _).mono ?_; rintro e w7 ⟨rfl,k7⟩
        replace pX := pX.below k7
        replace pY := pY.below k7
        replace pS := pS.below k7
        replace KB := bnext KB k7
        clear k7
        obtain ⟨x0,x1,x2,x3,x4⟩ := id pX
        obtain ⟨s0,s1,s2,s3,s4⟩ := id pS
        go_wp2_with fail
        clear x0 x1 x2 x3 x4 s0 s1 s2 s3 s4
        refine (plus_to d (-A) p HE.out (by omega) (by omega) _).mono ?_; rintro e w8 ⟨rfl,k8⟩
        replace pX := pX.below k8
        replace pY := pY.below k8
        replace pS := pS.below k8
        replace KB := bnext KB k8
        clear k8
        obtain ⟨s0,s1,s2,s3,s4⟩ := id pS
        go_wp2_with fail
        clear s0 s1 s2 s3 s4
        replace pX := pX.beside (c := (w2.heap.size + 1 + 1)) (by omega) (.int .i64 (hi p)) (.int .i64 (lo p))
        replace pY := pY.beside (c := (w2.heap.size + 1 + 1)) (by omega) (.int .i64 (hi p)) (.int .i64 (lo p))
        replace pS := pS.put p
        replace KB := below_two KB (c := (w2.heap.size + 1 + 1)) (by omega) (.int .i64 (hi p)) (.int .i64 (lo p))
        have ho := hi_two hh
        go_roundw
        case rel =>
         have ej : ((j : Int) - 1 + 1).toNat = j := by omega
         refine ⟨(j : Int) - 1,by omega,by omega,rfl,pX,pY, ?_, ?_,KB⟩
         · rw [ej,HP.out]; exact pS
         · rw [ej,HP.out]; exact ho
        case measure => simp [intOf]
  · obtain rfl : n = -1 := by omega
    have e0 : ((-1 : Int) + 1).toNat = 0 := rfl
    rw [e0,part_end] at pS hp
    clear e0
    have dA : decide (A < 0) = false := by simp; omega
    have dB : decide (B < 0) = false := by simp; omega
    obtain ⟨s0,s1,s2,s3,s4⟩ := id pS
    go_wp2_with fail
    refine (less_to (-(A * B)) (A * B) (by omega) (by have := (part_low A B 0 (by omega) (by omega)); rw [part_end] at this; omega) _).mono ?_; rintro e w5 ⟨rfl,k5⟩
    clear s0 s1 s2 s3 s4
    replace pS := pS.below k5
    replace KB := bnext KB k5
    clear k5
    obtain ⟨s0,s1,s2,s3,s4⟩ := id pS
    go_wp2_with fail
    clear s0 s1 s2 s3 s4
    replace pS := pS.put (A * B)
    replace KB := below_two KB (c := (w2.heap.size + 1 + 1)) (by omega) (.int .i64 (hi (A * B))) (.int .i64 (lo (A * B)))
    refine (number_any (A * B) _).mono ?_; rintro e w6 ⟨rfl,k6⟩
    go_wp2_with fail
    go_ret2
    exact ⟨rfl,bnext KB k6⟩
theorem refMul_zero (a b : Int) (h : a = 0 ∨ b = 0) (w : World) :
 Calls Tryz.prog 84 #[.int .i64 a,.int .i64 b] w fun e w' => e = .returned (.tuple #[.int .i64 0,.int .i64 0]) ∧ Below w.heap.size w w' := by
 by_cases c : a = 0
 · subst c
   go_enter Tryz.func84,Tryz.ntmps84
   go_wp2
   go_ret2
   exact ⟨rfl,Below.refl _ _⟩
 · obtain rfl : b = 0 := by omega
   have t : (a == 0) = false := by simpa using c
   go_enter Tryz.func84,Tryz.ntmps84
   go_wp2
   go_ret2
   exact ⟨rfl,Below.refl _ _⟩
theorem refMul_any (a b : Int) (ha : -9223372036854775808 ≤ a ∧ a ≤ 9223372036854775807) (hb : -9223372036854775808 ≤ b ∧ b ≤ 9223372036854775807) (w : World) :
 Calls Tryz.prog 84 #[.int .i64 a,.int .i64 b] w fun e w' => e = .returned (.tuple #[.int .i64 (vl (a * b)),.int .i64 (er (a * b))]) ∧ Below w.heap.size w w' := by
 by_cases z : a = 0 ∨ b = 0
 · have e : a * b = 0 := by rcases z with rfl | rfl <;> simp
   rw [e]
   exact refMul_zero a b z w
 by_cases pa : 0 < a
 · by_cases pb : 0 < b
   · exact refMul_pp a b pa (by omega) pb (by omega) w
   · have h := refMul_pn a (-b) pa (by omega) (by omega) (by omega) w
     rwa [Int.neg_neg,Int.mul_neg,Int.neg_neg] at h
 · by_cases pb : 0 < b
   · have h := refMul_np (-a) b (by omega) (by omega) pb (by omega) w
     rwa [Int.neg_neg,Int.neg_mul,Int.neg_neg] at h
   · have h := refMul_nn (-a) (-b) (by omega) (by omega) (by omega) (by omega) w
     rwa [Int.neg_neg,Int.neg_neg,Int.neg_mul_neg] at h
theorem ret_both {a b c d : Int} (h1 : a = c) (h2 : b = d) : Ending.returned (.tuple #[.int .i64 a,.int .i64 b]) = .returned (.tuple #[.int .i64 c,.int .i64 d]) := by rw [h1,h2]
theorem refRead_yes_empty (s : ByteArray) (hs : s.size ≤ 140737488351232) (hp : 0 < s.size) (h45 : ((s[0].toNat : Int) == 45) = true) (D : ByteArray) (hD : s.extract 1 s.size = D) (h : D.toList = []) (w : World) :
 Calls Tryz.prog 55 #[.string s] w fun e w' => e = .returned (.tuple #[.int .i64 0,.int .i64 1]) ∧ w' = w := by
 have h1 : D.toList.isEmpty = true := by simpa using h
 go_enter Tryz.func55,Tryz.ntmps55
 go_wp2
 go_ret2
 exact ⟨rfl,rfl⟩
theorem refRead_yes_nought (s : ByteArray) (hs : s.size ≤ 140737488351232) (hp : 0 < s.size) (h45 : ((s[0].toNat : Int) == 45) = true) (D : ByteArray) (hD : s.extract 1 s.size = D) (hq : 0 < D.size) (h48 : ((D[0].toNat : Int) == 48) = true) (w : World) :
 Calls Tryz.prog 55 #[.string s] w fun e w' => e = .returned (.tuple #[.int .i64 0,.int .i64 1]) ∧ w' = w := by
 have hne : D.toList.isEmpty = false := ne_of D (by omega)
 have hne' : ¬ D.toList = [] := by simpa using hne
 by_cases c1 : 1 < D.size
 · go_enter Tryz.func55,Tryz.ntmps55
   go_wp2
   go_ret2
   exact ⟨rfl,rfl⟩
 · go_enter Tryz.func55,Tryz.ntmps55
   go_wp2
   go_ret2
   exact ⟨rfl,rfl⟩
set_option maxHeartbeats 2000000 in
theorem refRead_yes_plain (s : ByteArray) (hs : s.size ≤ 140737488351232) (hp : 0 < s.size) (h45 : ((s[0].toNat : Int) == 45) = true) (D : ByteArray) (hD : s.extract 1 s.size = D) (hq : 0 < D.size) (h48 : ((D[0].toNat : Int) == 48) = false) (hds : D.size ≤ 140737488351232) (V E : Int)
 (fb : D.data.toList.all dig = false → 0 = V ∧ 1 = E) (fg : D.data.toList.all dig = true → vl (-(num D.data.toList : Int)) = V ∧ er (-(num D.data.toList : Int)) = E) (w : World) :
 Calls Tryz.prog 55 #[.string s] w fun e w' => e = .returned (.tuple #[.int .i64 V,.int .i64 E]) ∧ Below w.heap.size w w' := by
 have hne : D.toList.isEmpty = false := ne_of D (by omega)
 have hne' : ¬ D.toList = [] := by simpa using hne
 have FG : Hid (D.data.toList.all dig = true → vl (-(num D.data.toList : Int)) = V ∧ er (-(num D.data.toList : Int)) = E) := fg
 have FB : Hid (∀ k (hk : k < D.size),¬ ((48 : Int) ≤ (D[k].toNat : Int) ∧ (D[k].toNat : Int) ≤ 57) → 0 = V ∧ 1 = E) := fun k hk hd => by
  refine fb ?_
  rw [all_split hk,List.all_append,List.all_cons,dig_int,decide_eq_false hd]
  simp
 clear fb fg
 go_enter Tryz.func55,Tryz.ntmps55
 go_wp2
 go_loop [6] (fun i => ∃ k : Nat,k ≤ D.size ∧ i = .int .i64 k ∧ Hid ((D.data.toList.take k).all dig = true)) (fun i => D.size - (intOf i).toNat)
 case atStart => exact ⟨0,Nat.zero_le _,rfl,rfl⟩
 case round =>
  obtain ⟨k,hk,rfl,HA⟩ := hrel
  by_cases hlt : k < D.size
  · have hd := dig_int (c := D[k])
    have HD : Hid (dig D[k] = decide ((48 : Int) ≤ (D[k].toNat : Int) ∧ (D[k].toNat : Int) ≤ 57)) := hd
    clear hd
    by_cases g1 : (48 : Int) ≤ (D[k].toNat : Int)
    · by_cases g2 : (D[k].toNat : Int) ≤ 57
      · go_wp2
        go_round
        case rel =>
         refine ⟨k + 1,by omega,by go_num, ?_⟩
         show _ = _
         rw [take_snoc D k hlt,List.all_append,HA.out]
         simp [HD.out]; omega
        case measure => simp [intOf]; omega
      · go_wp2
        go_ret2
        exact ⟨ret_both (FB.out k hlt (by omega)).1 (FB.out k hlt (by omega)).2,Below.refl _ _⟩
    · go_wp2
      go_ret2
      exact ⟨ret_both (FB.out k hlt (by omega)).1 (FB.out k hlt (by omega)).2,Below.refl _ _⟩
  · obtain rfl : k = D.size := by omega
    have AD : Hid (D.data.toList.all dig = true) := by have := HA.out; rw [take_all] at this; exact this
    have FV : Hid (vl (-(num D.data.toList : Int)) = V ∧ er (-(num D.data.toList : Int)) = E) := FG.out AD.out
    clear HA FG FB
    go_wp2
    go_loopw [7,8] (fun n i wr => ∃ (j : Nat) (y : Int),j ≤ D.size ∧ i = .int .i64 j ∧ n = .int .i64 y ∧ Hid (y = -(num (D.data.toList.take j) : Int)) ∧ -9223372036854775808 ≤ y ∧ y ≤ 0 ∧ Below w.heap.size w wr)
     (fun _ i _ => D.size - (intOf i).toNat)
    case atStart => exact ⟨0,0,Nat.zero_le _,rfl,rfl,rfl,by omega,by omega,Below.refl _ _⟩
    case round =>
     obtain ⟨j,y,hj,rfl,rfl,HY,hy1,hy2,KB⟩ := hrel
     by_cases hlt : j < D.size
     · have hb := dig_at AD.out hlt
       have HS : Hid ((num (D.data.toList.take (j + 1)) : Int) = (num (D.data.toList.take j) : Int) * 10 + ((D[j].toNat : Int) - 48)) := by
        show _ = _
        rw [take_snoc D j hlt,num_snoc]
        omega
       have HT : Hid ((num (D.data.toList.take (j + 1)) : Int) ≤ (num D.data.toList : Int)) := by
        have := num_take D.data.toList (j + 1)
        show _ ≤ _
        omega
       have FO : Hid ((num (D.data.toList.take (j + 1)) : Int) > 9223372036854775808 → 0 = V ∧ 10 = E) := fun h => by
        have h1 := HT.out
        have h2 := FV.out
        have ho : ¬ (-9223372036854775808 ≤ -(num D.data.toList : Int) ∧ -(num D.data.toList : Int) ≤ 9223372036854775807) := by omega
        rw [(vl_out ho).1,(vl_out ho).2] at h2
        exact h2
       by_cases c1 : -9223372036854775808 ≤ y * 10
       · have hv := vl_in (x := y * 10) ⟨c1,by omega⟩
         have H1 : Hid (∀ w,Calls Tryz.prog 84 #[.int .i64 y,.int .i64 10] w fun e w' => e = .returned (.tuple #[.int .i64 (y * 10),.int .i64 0]) ∧ Below w.heap.size w w') := fun w => by
          have h := refMul_any y 10 (by omega) (by omega) w
          rwa [hv.1,hv.2] at h
         clear hv
         by_cases c2 : -9223372036854775808 ≤ y * 10 - ((D[j].toNat : Int) - 48)
         · go_wp2_with fail
           refine (H1.out _).mono ?_; rintro e w1 ⟨rfl,k1⟩
           go_wp2_with fail
           refine (refSub_in (y * 10) ((D[j].toNat : Int) - 48) (by omega) (by omega) (by omega) _).mono ?_; rintro e w2 ⟨rfl,k2⟩
           go_wp2_with fail
           go_roundw
           case rel =>
            refine ⟨j + 1,_,by omega,by go_num,rfl, ?_,c2,by omega,bnext (bnext KB k1) k2⟩
            show _ = _
            rw [HS.out]
            have := HY.out
            omega
           case measure => simp [intOf]; omega
         · go_wp2_with fail
           refine (H1.out _).mono ?_; rintro e w1 ⟨rfl,k1⟩
           go_wp2_with fail
           refine (refSub_over (y * 10) ((D[j].toNat : Int) - 48) (by omega) (by omega) (by omega) _).mono ?_; rintro e w2 ⟨rfl,k2⟩
           go_wp2_with fail
           have ho := FO.out (by have h1 := HS.out; have h2 := HY.out; omega)
           go_ret2
           exact ⟨ret_both ho.1 ho.2,bnext (bnext KB k1) k2⟩
       · have hv := vl_out (x := y * 10) (by omega)
         have H1 : Hid (∀ w,Calls Tryz.prog 84 #[.int .i64 y,.int .i64 10] w fun e w' => e = .returned (.tuple #[.int .i64 0,.int .i64 10]) ∧ Below w.heap.size w w') := fun w => by
          have h := refMul_any y 10 (by omega) (by omega) w
          rwa [hv.1,hv.2] at h
         clear hv
         go_wp2_with fail
         refine (H1.out _).mono ?_; rintro e w1 ⟨rfl,k1⟩
         go_wp2_with fail
         refine (refSub_in 0 ((D[j].toNat : Int) - 48) (by omega) (by omega) (by omega) _).mono ?_; rintro e w2 ⟨rfl,k2⟩
         go_wp2_with fail
         have ho := FO.out (by have h1 := HS.out; have h2 := HY.out; omega)
         go_ret2
         exact ⟨ret_both ho.1 ho.2,bnext (bnext KB k1) k2⟩
     · obtain rfl : j = D.size := by omega
       have HN : Hid (y = -(num D.data.toList : Int)) := by have := HY.out; rw [take_all] at this; exact this
       clear HY
       go_wp2_with fail
       go_ret2
       have h1 := FV.out
       have h2 := HN.out
       rw [← h2,(vl_in ⟨hy1,by omega⟩).1,(vl_in ⟨hy1,by omega⟩).2] at h1
       exact ⟨ret_both h1.1 h1.2,KB⟩
theorem refRead_no_nought (s : ByteArray) (hs : s.size ≤ 140737488351232) (hp : 0 < s.size) (h45 : ((s[0].toNat : Int) == 45) = false)  (h48 : ((s[0].toNat : Int) == 48) = true) (h1 : 1 < s.size) (w : World) :
 Calls Tryz.prog 55 #[.string s] w fun e w' => e = .returned (.tuple #[.int .i64 0,.int .i64 1]) ∧ w' = w := by
 have hne : s.toList.isEmpty = false := ne_of s (by omega)
 have hne' : ¬ s.toList = [] := by simpa using hne
 by_cases c1 : 1 < s.size
 · go_enter Tryz.func55,Tryz.ntmps55
   go_wp2
   go_ret2
   exact ⟨rfl,rfl⟩
 · exact absurd h1 c1
set_option maxHeartbeats 2000000 in
theorem refRead_no_plain (s : ByteArray) (hs : s.size ≤ 140737488351232) (hp : 0 < s.size) (h45 : ((s[0].toNat : Int) == 45) = false)  (h48 : ((s[0].toNat : Int) == 48) = false)  (V E : Int)
 (fb : s.data.toList.all dig = false → 0 = V ∧ 1 = E) (fg : s.data.toList.all dig = true → vl ((num s.data.toList : Int)) = V ∧ er ((num s.data.toList : Int)) = E) (w : World) :
 Calls Tryz.prog 55 #[.string s] w fun e w' => e = .returned (.tuple #[.int .i64 V,.int .i64 E]) ∧ Below w.heap.size w w' := by
 have hne : s.toList.isEmpty = false := ne_of s (by omega)
 have hne' : ¬ s.toList = [] := by simpa using hne
 have FG : Hid (s.data.toList.all dig = true → vl ((num s.data.toList : Int)) = V ∧ er ((num s.data.toList : Int)) = E) := fg
 have FB : Hid (∀ k (hk : k < s.size),¬ ((48 : Int) ≤ (s[k].toNat : Int) ∧ (s[k].toNat : Int) ≤ 57) → 0 = V ∧ 1 = E) := fun k hk hd => by
  refine fb ?_
  rw [all_split hk,List.all_append,List.all_cons,dig_int,decide_eq_false hd]
  simp
 clear fb fg
 go_enter Tryz.func55,Tryz.ntmps55
 go_wp2
 go_loop [6] (fun i => ∃ k : Nat,k ≤ s.size ∧ i = .int .i64 k ∧ Hid ((s.data.toList.take k).all dig = true)) (fun i => s.size - (intOf i).toNat)
 case atStart => exact ⟨0,Nat.zero_le _,rfl,rfl⟩
 case round =>
  obtain ⟨k,hk,rfl,HA⟩ := hrel
  by_cases hlt : k < s.size
  · have hd := dig_int (c := s[k])
    have HD : Hid (dig s[k] = decide ((48 : Int) ≤ (s[k].toNat : Int) ∧ (s[k].toNat : Int) ≤ 57)) := hd
    clear hd
    by_cases g1 : (48 : Int) ≤ (s[k].toNat : Int)
    · by_cases g2 : (s[k].toNat : Int) ≤ 57
      · go_wp2
        go_round
        case rel =>
         refine ⟨k + 1,by omega,by go_num, ?_⟩
         show _ = _
         rw [take_snoc s k hlt,List.all_append,HA.out]
         simp [HD.out]; omega
        case measure => simp [intOf]; omega
      · go_wp2
        go_ret2
        exact ⟨ret_both (FB.out k hlt (by omega)).1 (FB.out k hlt (by omega)).2,Below.refl _ _⟩
    · go_wp2
      go_ret2
      exact ⟨ret_both (FB.out k hlt (by omega)).1 (FB.out k hlt (by omega)).2,Below.refl _ _⟩
  · obtain rfl : k = s.size := by omega
    have AD : Hid (s.data.toList.all dig = true) := by have := HA.out; rw [take_all] at this; exact this
    have FV : Hid (vl ((num s.data.toList : Int)) = V ∧ er ((num s.data.toList : Int)) = E) := FG.out AD.out
    clear HA FG FB
    go_wp2
    go_loopw [7,8] (fun n i wr => ∃ (j : Nat) (y : Int),j ≤ s.size ∧ i = .int .i64 j ∧ n = .int .i64 y ∧ Hid (y = -(num (s.data.toList.take j) : Int)) ∧ -9223372036854775808 ≤ y ∧ y ≤ 0 ∧ Below w.heap.size w wr)
     (fun _ i _ => s.size - (intOf i).toNat)
    case atStart => exact ⟨0,0,Nat.zero_le _,rfl,rfl,rfl,by omega,by omega,Below.refl _ _⟩
    case round =>
     obtain ⟨j,y,hj,rfl,rfl,HY,hy1,hy2,KB⟩ := hrel
     by_cases hlt : j < s.size
     · have hb := dig_at AD.out hlt
       have HS : Hid ((num (s.data.toList.take (j + 1)) : Int) = (num (s.data.toList.take j) : Int) * 10 + ((s[j].toNat : Int) - 48)) := by
        show _ = _
        rw [take_snoc s j hlt,num_snoc]
        omega
       have HT : Hid ((num (s.data.toList.take (j + 1)) : Int) ≤ (num s.data.toList : Int)) := by
        have := num_take s.data.toList (j + 1)
        show _ ≤ _
        omega
       have FO : Hid ((num (s.data.toList.take (j + 1)) : Int) > 9223372036854775808 → 0 = V ∧ 10 = E) := fun h => by
        have h1 := HT.out
        have h2 := FV.out
        have ho : ¬ (-9223372036854775808 ≤ (num s.data.toList : Int) ∧ (num s.data.toList : Int) ≤ 9223372036854775807) := by omega
        rw [(vl_out ho).1,(vl_out ho).2] at h2
        exact h2
       by_cases c1 : -9223372036854775808 ≤ y * 10
       · have hv := vl_in (x := y * 10) ⟨c1,by omega⟩
         have H1 : Hid (∀ w,Calls Tryz.prog 84 #[.int .i64 y,.int .i64 10] w fun e w' => e = .returned (.tuple #[.int .i64 (y * 10),.int .i64 0]) ∧ Below w.heap.size w w') := fun w => by
          have h := refMul_any y 10 (by omega) (by omega) w
          rwa [hv.1,hv.2] at h
         clear hv
         by_cases c2 : -9223372036854775808 ≤ y * 10 - ((s[j].toNat : Int) - 48)
         · go_wp2_with fail
           refine (H1.out _).mono ?_; rintro e w1 ⟨rfl,k1⟩
           go_wp2_with fail
           refine (refSub_in (y * 10) ((s[j].toNat : Int) - 48) (by omega) (by omega) (by omega) _).mono ?_; rintro e w2 ⟨rfl,k2⟩
           go_wp2_with fail
           go_roundw
           case rel =>
            refine ⟨j + 1,_,by omega,by go_num,rfl, ?_,c2,by omega,bnext (bnext KB k1) k2⟩
            show _ = _
            rw [HS.out]
            have := HY.out
            omega
           case measure => simp [intOf]; omega
         · go_wp2_with fail
           refine (H1.out _).mono ?_; rintro e w1 ⟨rfl,k1⟩
           go_wp2_with fail
           refine (refSub_over (y * 10) ((s[j].toNat : Int) - 48) (by omega) (by omega) (by omega) _).mono ?_; rintro e w2 ⟨rfl,k2⟩
           go_wp2_with fail
           have ho := FO.out (by have h1 := HS.out; have h2 := HY.out; omega)
           go_ret2
           exact ⟨ret_both ho.1 ho.2,bnext (bnext KB k1) k2⟩
       · have hv := vl_out (x := y * 10) (by omega)
         have H1 : Hid (∀ w,Calls Tryz.prog 84 #[.int .i64 y,.int .i64 10] w fun e w' => e = .returned (.tuple #[.int .i64 0,.int .i64 10]) ∧ Below w.heap.size w w') := fun w => by
          have h := refMul_any y 10 (by omega) (by omega) w
          rwa [hv.1,hv.2] at h
         clear hv
         go_wp2_with fail
         refine (H1.out _).mono ?_; rintro e w1 ⟨rfl,k1⟩
         go_wp2_with fail
         refine (refSub_in 0 ((s[j].toNat : Int) - 48) (by omega) (by omega) (by omega) _).mono ?_; rintro e w2 ⟨rfl,k2⟩
         go_wp2_with fail
         have ho := FO.out (by have h1 := HS.out; have h2 := HY.out; omega)
         go_ret2
         exact ⟨ret_both ho.1 ho.2,bnext (bnext KB k1) k2⟩
     · obtain rfl : j = s.size := by omega
       have HN : Hid (y = -(num s.data.toList : Int)) := by have := HY.out; rw [take_all] at this; exact this
       clear HY
       by_cases c : -9223372036854775808 < y
       · go_wp2_with fail
         refine (refNeg_in y (by omega) c _).mono ?_; rintro e w1 ⟨rfl,k1⟩
         go_wp2_with fail
         go_ret2
         have h1 := FV.out
         have h2 : (num s.data.toList : Int) = -y := by have := HN.out; omega
         rw [h2,(vl_in ⟨by omega,by omega⟩).1,(vl_in ⟨by omega,by omega⟩).2] at h1
         exact ⟨ret_both h1.1 h1.2,bnext KB k1⟩
       · obtain rfl : y = -9223372036854775808 := by omega
         go_wp2_with fail
         refine (refNeg_least _).mono ?_; rintro e w1 ⟨rfl,k1⟩
         go_wp2_with fail
         go_ret2
         have h1 := FV.out
         have h2 : (num s.data.toList : Int) = 9223372036854775808 := by have := HN.out; omega
         rw [h2,(vl_out (by omega)).1,(vl_out (by omega)).2] at h1
         exact ⟨ret_both h1.1 h1.2,bnext KB k1⟩
set_option maxHeartbeats 2000000 in
theorem refRead_no_one (s : ByteArray) (hs : s.size ≤ 140737488351232) (hp : 0 < s.size) (h45 : ((s[0].toNat : Int) == 45) = false)  (h48 : ((s[0].toNat : Int) == 48) = true) (h1 : ¬ 1 < s.size)  (V E : Int)
 (fb : s.data.toList.all dig = false → 0 = V ∧ 1 = E) (fg : s.data.toList.all dig = true → vl ((num s.data.toList : Int)) = V ∧ er ((num s.data.toList : Int)) = E) (w : World) :
 Calls Tryz.prog 55 #[.string s] w fun e w' => e = .returned (.tuple #[.int .i64 V,.int .i64 E]) ∧ Below w.heap.size w w' := by
 have hne : s.toList.isEmpty = false := ne_of s (by omega)
 have hne' : ¬ s.toList = [] := by simpa using hne
 have FG : Hid (s.data.toList.all dig = true → vl ((num s.data.toList : Int)) = V ∧ er ((num s.data.toList : Int)) = E) := fg
 have FB : Hid (∀ k (hk : k < s.size),¬ ((48 : Int) ≤ (s[k].toNat : Int) ∧ (s[k].toNat : Int) ≤ 57) → 0 = V ∧ 1 = E) := fun k hk hd => by
  refine fb ?_
  rw [all_split hk,List.all_append,List.all_cons,dig_int,decide_eq_false hd]
  simp
 clear fb fg
 go_enter Tryz.func55,Tryz.ntmps55
 go_wp2
 go_loop [6] (fun i => ∃ k : Nat,k ≤ s.size ∧ i = .int .i64 k ∧ Hid ((s.data.toList.take k).all dig = true)) (fun i => s.size - (intOf i).toNat)
 case atStart => exact ⟨0,Nat.zero_le _,rfl,rfl⟩
 case round =>
  obtain ⟨k,hk,rfl,HA⟩ := hrel
  by_cases hlt : k < s.size
  · have hd := dig_int (c := s[k])
    have HD : Hid (dig s[k] = decide ((48 : Int) ≤ (s[k].toNat : Int) ∧ (s[k].toNat : Int) ≤ 57)) := hd
    clear hd
    by_cases g1 : (48 : Int) ≤ (s[k].toNat : Int)
    · by_cases g2 : (s[k].toNat : Int) ≤ 57
      · go_wp2
        go_round
        case rel =>
         refine ⟨k + 1,by omega,by go_num, ?_⟩
         show _ = _
         rw [take_snoc s k hlt,List.all_append,HA.out]
         simp [HD.out]; omega
        case measure => simp [intOf]; omega
      · go_wp2
        go_ret2
        exact ⟨ret_both (FB.out k hlt (by omega)).1 (FB.out k hlt (by omega)).2,Below.refl _ _⟩
    · go_wp2
      go_ret2
      exact ⟨ret_both (FB.out k hlt (by omega)).1 (FB.out k hlt (by omega)).2,Below.refl _ _⟩
  · obtain rfl : k = s.size := by omega
    have AD : Hid (s.data.toList.all dig = true) := by have := HA.out; rw [take_all] at this; exact this
    have FV : Hid (vl ((num s.data.toList : Int)) = V ∧ er ((num s.data.toList : Int)) = E) := FG.out AD.out
    clear HA FG FB
    go_wp2
    go_loopw [7,8] (fun n i wr => ∃ (j : Nat) (y : Int),j ≤ s.size ∧ i = .int .i64 j ∧ n = .int .i64 y ∧ Hid (y = -(num (s.data.toList.take j) : Int)) ∧ -9223372036854775808 ≤ y ∧ y ≤ 0 ∧ Below w.heap.size w wr)
     (fun _ i _ => s.size - (intOf i).toNat)
    case atStart => exact ⟨0,0,Nat.zero_le _,rfl,rfl,rfl,by omega,by omega,Below.refl _ _⟩
    case round =>
     obtain ⟨j,y,hj,rfl,rfl,HY,hy1,hy2,KB⟩ := hrel
     by_cases hlt : j < s.size
     · have hb := dig_at AD.out hlt
       have HS : Hid ((num (s.data.toList.take (j + 1)) : Int) = (num (s.data.toList.take j) : Int) * 10 + ((s[j].toNat : Int) - 48)) := by
        show _ = _
        rw [take_snoc s j hlt,num_snoc]
        omega
       have HT : Hid ((num (s.data.toList.take (j + 1)) : Int) ≤ (num s.data.toList : Int)) := by
        have := num_take s.data.toList (j + 1)
        show _ ≤ _
        omega
       have FO : Hid ((num (s.data.toList.take (j + 1)) : Int) > 9223372036854775808 → 0 = V ∧ 10 = E) := fun h => by
        have h1 := HT.out
        have h2 := FV.out
        have ho : ¬ (-9223372036854775808 ≤ (num s.data.toList : Int) ∧ (num s.data.toList : Int) ≤ 9223372036854775807) := by omega
        rw [(vl_out ho).1,(vl_out ho).2] at h2
        exact h2
       by_cases c1 : -9223372036854775808 ≤ y * 10
       · have hv := vl_in (x := y * 10) ⟨c1,by omega⟩
         have H1 : Hid (∀ w,Calls Tryz.prog 84 #[.int .i64 y,.int .i64 10] w fun e w' => e = .returned (.tuple #[.int .i64 (y * 10),.int .i64 0]) ∧ Below w.heap.size w w') := fun w => by
          have h := refMul_any y 10 (by omega) (by omega) w
          rwa [hv.1,hv.2] at h
         clear hv
         by_cases c2 : -9223372036854775808 ≤ y * 10 - ((s[j].toNat : Int) - 48)
         · go_wp2_with fail
           refine (H1.out _).mono ?_; rintro e w1 ⟨rfl,k1⟩
           go_wp2_with fail
           refine (refSub_in (y * 10) ((s[j].toNat : Int) - 48) (by omega) (by omega) (by omega) _).mono ?_; rintro e w2 ⟨rfl,k2⟩
           go_wp2_with fail
           go_roundw
           case rel =>
            refine ⟨j + 1,_,by omega,by go_num,rfl, ?_,c2,by omega,bnext (bnext KB k1) k2⟩
            show _ = _
            rw [HS.out]
            have := HY.out
            omega
           case measure => simp [intOf]; omega
         · go_wp2_with fail
           refine (H1.out _).mono ?_; rintro e w1 ⟨rfl,k1⟩
           go_wp2_with fail
           refine (refSub_over (y * 10) ((s[j].toNat : Int) - 48) (by omega) (by omega) (by omega) _).mono ?_; rintro e w2 ⟨rfl,k2⟩
           go_wp2_with fail
           have ho := FO.out (by have h1 := HS.out; have h2 := HY.out; omega)
           go_ret2
           exact ⟨ret_both ho.1 ho.2,bnext (bnext KB k1) k2⟩
       · have hv := vl_out (x := y * 10) (by omega)
         have H1 : Hid (∀ w,Calls Tryz.prog 84 #[.int .i64 y,.int .i64 10] w fun e w' => e = .returned (.tuple #[.int .i64 0,.int .i64 10]) ∧ Below w.heap.size w w') := fun w => by
          have h := refMul_any y 10 (by omega) (by omega) w
          rwa [hv.1,hv.2] at h
         clear hv
         go_wp2_with fail
         refine (H1.out _).mono ?_; rintro e w1 ⟨rfl,k1⟩
         go_wp2_with fail
         refine (refSub_in 0 ((s[j].toNat : Int) - 48) (by omega) (by omega) (by omega) _).mono ?_; rintro e w2 ⟨rfl,k2⟩
         go_wp2_with fail
         have ho := FO.out (by have h1 := HS.out; have h2 := HY.out; omega)
         go_ret2
         exact ⟨ret_both ho.1 ho.2,bnext (bnext KB k1) k2⟩
     · obtain rfl : j = s.size := by omega
       have HN : Hid (y = -(num s.data.toList : Int)) := by have := HY.out; rw [take_all] at this; exact this
       clear HY
       by_cases c : -9223372036854775808 < y
       · go_wp2_with fail
         refine (refNeg_in y (by omega) c _).mono ?_; rintro e w1 ⟨rfl,k1⟩
         go_wp2_with fail
         go_ret2
         have h1 := FV.out
         have h2 : (num s.data.toList : Int) = -y := by have := HN.out; omega
         rw [h2,(vl_in ⟨by omega,by omega⟩).1,(vl_in ⟨by omega,by omega⟩).2] at h1
         exact ⟨ret_both h1.1 h1.2,bnext KB k1⟩
       · obtain rfl : y = -9223372036854775808 := by omega
         go_wp2_with fail
         refine (refNeg_least _).mono ?_; rintro e w1 ⟨rfl,k1⟩
         go_wp2_with fail
         go_ret2
         have h1 := FV.out
         have h2 : (num s.data.toList : Int) = 9223372036854775808 := by have := HN.out; omega
         rw [h2,(vl_out (by omega)).1,(vl_out (by omega)).2] at h1
         exact ⟨ret_both h1.1 h1.2,bnext KB k1⟩
theorem refRead_none (s : ByteArray) (h : s.toList = []) (h0 : s.size = 0) (w : World) :
 Calls Tryz.prog 55 #[.string s] w fun e w' => e = .returned (.tuple #[.int .i64 0,.int .i64 1]) ∧ w' = w := by
 have h1 : s.toList.isEmpty = true := by simpa using h
 go_enter Tryz.func55,Tryz.ntmps55
 go_wp2
 go_ret2
 exact ⟨rfl,rfl⟩
theorem first_toNat {s : ByteArray} (hp : 0 < s.size) : s.data.toList.headD 0 = s[0] := by
 rw [all_split hp]; simp
theorem beq_toNat (c d : UInt8) : ((c.toNat : Int) == (d.toNat : Int)) = (c == d) := by
 rw [Bool.eq_iff_iff]
 simp
 rw [← UInt8.toNat_inj]
 omega
theorem nil_of {s : ByteArray} (h : s.size = 0) : s.toList = [] := by
 rw [ByteArray.toList_eq]
 have := len_of s
 cases hl : s.data.toList with
 | nil => rfl
 | cons a r => rw [hl] at this; simp at this; omega
theorem below_of {f : FuncId} {args : Array Value} {w : World} {v : Value} (h : Calls Tryz.prog f args w fun e w' => e = .returned v ∧ w' = w) :
 Calls Tryz.prog f args w fun e w' => e = .returned v ∧ Below w.heap.size w w' :=
 h.mono fun e w' ⟨he,hw⟩ => ⟨he,hw ▸ Below.refl _ _⟩
theorem refRead_any (s : ByteArray) (hs : s.size ≤ 140737488351232) (w : World) :
 Calls Tryz.prog 55 #[.string s] w fun e w' => e = .returned (.tuple #[.int .i64 (rdV s.data.toList),.int .i64 (rdE s.data.toList)]) ∧ Below w.heap.size w w' := by
 by_cases h0 : s.size = 0
 · have hn := nil_of h0
   have hb : rdBad s.data.toList = true := by rw [← ByteArray.toList_eq,hn]; rfl
   rw [(rd_bad hb).1,(rd_bad hb).2]
   exact below_of (refRead_none s hn h0 w)
 have hp : 0 < s.size := by omega
 by_cases h : s[0] = 45
 · have hn := neg_yes s hp h
   have h45 : ((s[0].toNat : Int) == 45) = true := by rw [h]; rfl
   obtain ⟨D,hD⟩ : ∃ D,s.extract 1 s.size = D := ⟨_,rfl⟩
   have hd : rdDig s.data.toList = D.data.toList := by
    unfold rdDig
    rw [hn, ← rest_of,hD]
    simp
   have hds : D.size ≤ 140737488351232 := by rw [← hD]; simp; omega
   have hB : rdBad s.data.toList = (!pl D.data.toList || D.data.toList == [48]) := by unfold rdBad; rw [hd,hn]; simp
   have hN : rdNum s.data.toList = -(num D.data.toList : Int) := by unfold rdNum; rw [hd,hn]; simp
   by_cases hz : D.size = 0
   · have hl := nil_of hz
     have hb : rdBad s.data.toList = true := by rw [hB, ← ByteArray.toList_eq,hl]; rfl
     rw [(rd_bad hb).1,(rd_bad hb).2]
     exact below_of (refRead_yes_empty s hs hp h45 D hD hl w)
   have hq : 0 < D.size := by omega
   have hf := first_toNat hq
   by_cases c : D[0] = 48
   · have h48 : ((D[0].toNat : Int) == 48) = true := by rw [c]; rfl
     have hb : rdBad s.data.toList = true := by
      rw [hB]
      by_cases c1 : 1 < D.size
      · rw [pl_not (by rw [len_of]; exact c1) (by rw [hf]; exact c)]; rfl
      · have e := all_split hq
        have hdrop : D.data.toList.drop (0 + 1) = [] := List.drop_eq_nil_of_le (by rw [len_of]; omega)
        rw [hdrop,c] at e
        have e2 : D.data.toList = [48] := by rw [e]; rfl
        rw [e2]; rfl
     rw [(rd_bad hb).1,(rd_bad hb).2]
     exact below_of (refRead_yes_nought s hs hp h45 D hD hq h48 w)
   · have h48 : ((D[0].toNat : Int) == 48) = false := by
      have := beq_toNat D[0] 48
      rw [show ((48 : UInt8).toNat : Int) = 48 from rfl] at this
      rw [this]; simpa using c
     have hpl := pl_is (l := D.data.toList) (by rw [← ByteArray.toList_eq]; simpa using ne_of D hq) (fun x => c (by rw [← hf]; exact x.2))
     have hno : (D.data.toList == [48]) = false := by
      cases hx : (D.data.toList == [48])
      · rfl
      · have e : D.data.toList = [48] := by simpa using hx
        rw [e] at hf
        exact absurd hf.symm c
     refine refRead_yes_plain s hs hp h45 D hD hq h48 hds _ _ (fun ha => ?_) (fun ha => ?_) w
     · have hb : rdBad s.data.toList = true := by rw [hB,hpl,ha]; rfl
       rw [(rd_bad hb).1,(rd_bad hb).2]; exact ⟨rfl,rfl⟩
     · have hb : rdBad s.data.toList = false := by rw [hB,hpl,ha,hno]; rfl
       rw [(rd_good hb).1,(rd_good hb).2,hN]; exact ⟨rfl,rfl⟩
 · have hn := neg_no s (fun _ => h)
   have h45 : ((s[0].toNat : Int) == 45) = false := by
    have := beq_toNat s[0] 45
    rw [show ((45 : UInt8).toNat : Int) = 45 from rfl] at this
    rw [this]; simpa using h
   have hd : rdDig s.data.toList = s.data.toList := by unfold rdDig; rw [hn]; simp
   have hB : rdBad s.data.toList = !pl s.data.toList := by unfold rdBad; rw [hd,hn]; simp
   have hN : rdNum s.data.toList = (num s.data.toList : Int) := by unfold rdNum; rw [hd,hn]; simp
   have hf := first_toNat hp
   by_cases c : s[0] = 48
   · have h48 : ((s[0].toNat : Int) == 48) = true := by rw [c]; rfl
     by_cases c1 : 1 < s.size
     · have hb : rdBad s.data.toList = true := by rw [hB,pl_not (by rw [len_of]; exact c1) (by rw [hf]; exact c)]; rfl
       rw [(rd_bad hb).1,(rd_bad hb).2]
       exact below_of (refRead_no_nought s hs hp h45 h48 c1 w)
     · have hpl := pl_is (l := s.data.toList) (by rw [← ByteArray.toList_eq]; simpa using ne_of s hp) (fun x => c1 (by rw [← len_of]; exact x.1))
       refine refRead_no_one s hs hp h45 h48 c1 _ _ (fun ha => ?_) (fun ha => ?_) w
       · have hb : rdBad s.data.toList = true := by rw [hB,hpl,ha]; rfl
         rw [(rd_bad hb).1,(rd_bad hb).2]; exact ⟨rfl,rfl⟩
       · have hb : rdBad s.data.toList = false := by rw [hB,hpl,ha]; rfl
         rw [(rd_good hb).1,(rd_good hb).2,hN]; exact ⟨rfl,rfl⟩
   · have h48 : ((s[0].toNat : Int) == 48) = false := by
      have := beq_toNat s[0] 48
      rw [show ((48 : UInt8).toNat : Int) = 48 from rfl] at this
      rw [this]; simpa using c
     have hpl := pl_is (l := s.data.toList) (by rw [← ByteArray.toList_eq]; simpa using ne_of s hp) (fun x => c (by rw [← hf]; exact x.2))
     refine refRead_no_plain s hs hp h45 h48 _ _ (fun ha => ?_) (fun ha => ?_) w
     · have hb : rdBad s.data.toList = true := by rw [hB,hpl,ha]; rfl
       rw [(rd_bad hb).1,(rd_bad hb).2]; exact ⟨rfl,rfl⟩
     · have hb : rdBad s.data.toList = false := by rw [hB,hpl,ha]; rfl
       rw [(rd_good hb).1,(rd_good hb).2,hN]; exact ⟨rfl,rfl⟩
end Go.Proofs.YtlgkghebemfpjaaGreatDoor.Num
