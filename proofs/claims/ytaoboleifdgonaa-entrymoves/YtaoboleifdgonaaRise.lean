/- value: numbers' bytes rise with them. -/
import Derived.Test.YtaoboleifdgonaaPut
namespace Go.Proofs.Ytaoboleifdgonaa
open Go.ChangeShapes Go.WideShapes Go.RowKit
set_option linter.unusedVariables false
set_option maxRecDepth 100000

theorem xor_top (x : Nat) (hx : x < 18446744073709551616) : x ^^^ 9223372036854775808 = (9223372036854775808 + x) % 18446744073709551616 := by
  apply Nat.eq_of_testBit_eq
  intro i
  rw [Nat.testBit_xor, show (9223372036854775808 : Nat) = 2 ^ 63 from rfl, show (18446744073709551616 : Nat) = 2 ^ 64 from rfl, Nat.testBit_two_pow, Nat.testBit_mod_two_pow]
  by_cases h63 : i = 63
  · subst h63
    rw [Nat.testBit_two_pow_add_eq]
    simp
  · by_cases hlt : i < 63
    · rw [Nat.testBit_two_pow_add_gt hlt, decide_eq_false (Ne.symm h63), decide_eq_true (show i < 64 by omega)]
      simp
    · rw [decide_eq_false (Ne.symm h63), decide_eq_false (show ¬ i < 64 by omega), Nat.testBit_lt_two_pow (Nat.lt_of_lt_of_le (show x < 2 ^ 64 from hx) (Nat.pow_le_pow_right (show 0 < 2 by omega) (show 64 ≤ i by omega)))]
      simp
theorem flip_mod (n : Int) (h1 : -9223372036854775808 ≤ n) (h2 : n ≤ 9223372036854775807) : flip n % 18446744073709551616 = n + 9223372036854775808 := by
  unfold flip
  show IntKind.i64.wrap ((BitVec.ofInt 64 n ^^^ BitVec.ofInt 64 (-9223372036854775808)).toNat : Nat) % 18446744073709551616 = _
  have e1 : (BitVec.ofInt 64 (-9223372036854775808)).toNat = 9223372036854775808 := by decide
  rw [BitVec.toNat_xor, e1, xor_top _ (BitVec.ofInt 64 n).isLt, BitVec.toNat_ofInt, IntKind.wrap_i64]
  omega
/-- The number that bytes write, the highest first. -/
def worth : List UInt8 → Nat
  | [] => 0
  | x :: r => x.toNat * 256 ^ r.length + worth r
theorem worth_lt (l : List UInt8) : worth l < 256 ^ l.length := by
  induction l with
  | nil => decide
  | cons x r ih =>
    have hx := x.toNat_lt
    rw [worth, List.length_cons, Nat.pow_succ]
    have : x.toNat * 256 ^ r.length ≤ 255 * 256 ^ r.length := Nat.mul_le_mul_right _ (by omega)
    omega
theorem worth_less : ∀ l m : List UInt8, l.length = m.length → Op.bytesLess l m = decide (worth l < worth m)
  | [], [], _ => by decide
  | x :: l, y :: m, h => by
    have hl : l.length = m.length := by simpa using h
    have ih := worth_less l m hl
    have h1 := worth_lt l
    have h2 := worth_lt m
    rw [Op.bytesLess, ih, worth, worth, hl]
    rw [hl] at h1
    generalize worth l = a at *
    generalize worth m = b at *
    generalize 256 ^ m.length = q at *
    by_cases hxy : x < y
    · have hn : x.toNat < y.toNat := hxy
      have : (x.toNat + 1) * q ≤ y.toNat * q := Nat.mul_le_mul_right _ hn
      rw [Nat.add_mul, Nat.one_mul] at this
      rw [decide_eq_true hxy, decide_eq_true (show x.toNat * q + a < y.toNat * q + b by omega)]
      rfl
    · by_cases he : x = y
      · subst he
        rw [decide_eq_false hxy]
        simp
      · have hn : y.toNat < x.toNat := by
          have h3 : ¬ x.toNat < y.toNat := hxy
          have h4 : x.toNat ≠ y.toNat := fun e => he (UInt8.toNat_inj.1 e)
          omega
        have : (y.toNat + 1) * q ≤ x.toNat * q := Nat.mul_le_mul_right _ hn
        rw [Nat.add_mul, Nat.one_mul] at this
        rw [decide_eq_false hxy, decide_eq_false (show ¬ x.toNat * q + a < y.toNat * q + b by omega)]
        simp [he]
theorem worth_bytes (x : Int) : (worth (bytesOf x 8) : Int) = x % 18446744073709551616 := by
  have e : bytesOf x 8 = [byteOf x 0, byteOf x 1, byteOf x 2, byteOf x 3, byteOf x 4, byteOf x 5, byteOf x 6, byteOf x 7] := rfl
  rw [e]
  have b0 := byteOf_is x 0
  have b1 := byteOf_is x 1
  have b2 := byteOf_is x 2
  have b3 := byteOf_is x 3
  have b4 := byteOf_is x 4
  have b5 := byteOf_is x 5
  have b6 := byteOf_is x 6
  have b7 := byteOf_is x 7
  have p (j : Nat) : x / 2 ^ (8 * (j + 1)) = x / 2 ^ (8 * j) / 256 := by
    rw [Int.ediv_ediv_of_nonneg (Int.pow_nonneg (by omega)), show (256 : Int) = 2 ^ 8 from rfl, ← Int.pow_add]
    rfl
  have p0 := p 0
  have p1 := p 1
  have p2 := p 2
  have p3 := p 3
  have p4 := p 4
  have p5 := p 5
  have p6 := p 6
  simp only [worth, List.length_cons, List.length_nil]
  generalize (byteOf x 0).toNat = c0 at *
  generalize (byteOf x 1).toNat = c1 at *
  generalize (byteOf x 2).toNat = c2 at *
  generalize (byteOf x 3).toNat = c3 at *
  generalize (byteOf x 4).toNat = c4 at *
  generalize (byteOf x 5).toNat = c5 at *
  generalize (byteOf x 6).toNat = c6 at *
  generalize (byteOf x 7).toNat = c7 at *
  simp only [Nat.reduceSub, Nat.reduceMul, Nat.reduceAdd] at *
  rw [show x / 2 ^ 0 = x by simp] at *
  omega
theorem rise_len (n : Int) : (rowB [⟨1, n, ⟨#[]⟩⟩]).length = 10 := by
  show (lowB 1 :: (lowB 1 :: bytesOf (flip n) 8 ++ [])).length = 10
  rw [List.append_nil, List.length_cons, List.length_cons, bytesOf_len]
theorem rise_less (a b : Int) (ha : -9223372036854775808 ≤ a ∧ a ≤ 9223372036854775807) (hb : -9223372036854775808 ≤ b ∧ b ≤ 9223372036854775807) :
    Op.bytesLess (⟨(rowB [⟨1, a, ⟨#[]⟩⟩]).toArray⟩ : ByteArray).toList (⟨(rowB [⟨1, b, ⟨#[]⟩⟩]).toArray⟩ : ByteArray).toList = decide (a < b) := by
  rw [ByteArray.toList_eq, ByteArray.toList_eq]
  show Op.bytesLess (rowB [⟨1, a, ⟨#[]⟩⟩]) (rowB [⟨1, b, ⟨#[]⟩⟩]) = _
  rw [worth_less _ _ (by rw [rise_len, rise_len])]
  have e : ∀ n, rowB [⟨1, n, ⟨#[]⟩⟩] = lowB 1 :: (lowB 1 :: bytesOf (flip n) 8) := fun n => by
    show lowB 1 :: (lowB 1 :: bytesOf (flip n) 8 ++ []) = _
    rw [List.append_nil]
  rw [e, e]
  have h1 := worth_bytes (flip a)
  have h2 := worth_bytes (flip b)
  rw [flip_mod a ha.1 ha.2] at h1
  rw [flip_mod b hb.1 hb.2] at h2
  simp only [worth, List.length_cons, bytesOf_len]
  refine decide_eq_decide.2 ?_
  omega
theorem rise_same (a b : Int) (ha : -9223372036854775808 ≤ a ∧ a ≤ 9223372036854775807) (hb : -9223372036854775808 ≤ b ∧ b ≤ 9223372036854775807) :
    ((⟨(rowB [⟨1, a, ⟨#[]⟩⟩]).toArray⟩ : ByteArray).toList == (⟨(rowB [⟨1, b, ⟨#[]⟩⟩]).toArray⟩ : ByteArray).toList) = decide (a = b) := by
  by_cases h : a = b
  · subst h
    simp
  · rw [decide_eq_false h]
    refine beq_eq_false_iff_ne.2 (fun q => h ?_)
    have l1 := rise_less a b ha hb
    have l2 := rise_less b a hb ha
    rw [q] at l1 l2
    have e : ∀ l : List UInt8, Op.bytesLess l l = false := fun l => by rw [worth_less l l rfl]; simp
    rw [e] at l1 l2
    have h1 : ¬ a < b := fun z => by rw [decide_eq_true z] at l1; cases l1
    have h2 : ¬ b < a := fun z => by rw [decide_eq_true z] at l2; cases l2
    omega
end Go.Proofs.Ytaoboleifdgonaa
