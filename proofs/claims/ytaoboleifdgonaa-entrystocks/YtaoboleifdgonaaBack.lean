/- value: a number out of its bytes. -/
import Derived.Test.YtaoboleifdgonaaRise
import Derived.Test.YtaoboleifdgonaaCut
namespace Go.Proofs.Ytaoboleifdgonaa
open Go.ChangeShapes Go.WideShapes Go.RowKit
set_option linter.unusedVariables false
set_option maxRecDepth 100000

theorem stepF_is (m : Int) (x : UInt8) : stepF m x = wrap64 (m * 256 + (x.toNat : Int)) := by
  have hx := x.toNat_lt
  unfold stepF
  show IntKind.i64.wrap ((BitVec.ofInt 64 (wrap64 (m * 256)) ||| BitVec.ofInt 64 (wrap64 (x.toNat : Int))).toNat : Nat) = _
  obtain ⟨q, hq⟩ : ∃ q : Nat, (wrap64 (m * 256) % 18446744073709551616).toNat = q * 256 ∧ (q : Int) = m % 72057594037927936 := ⟨(m % 72057594037927936).toNat, by unfold wrap64; omega, by omega⟩
  have e2 : (wrap64 (x.toNat : Int) % 18446744073709551616).toNat = x.toNat := by unfold wrap64; omega
  rw [BitVec.toNat_or, BitVec.toNat_ofInt, BitVec.toNat_ofInt]
  rw [show (((2 ^ 64 : Nat) : Int)) = 18446744073709551616 from rfl, hq.1, e2]
  have e3 : q * 256 ||| x.toNat = q * 256 + x.toNat := by
    have := Nat.shiftLeft_add_eq_or_of_lt (show x.toNat < 2 ^ 8 from hx) q
    rw [Nat.shiftLeft_eq] at this
    exact this.symm
  rw [e3, IntKind.wrap_i64]
  unfold wrap64
  omega
theorem worth_snoc (l : List UInt8) (x : UInt8) : worth (l ++ [x]) = worth l * 256 + x.toNat := by
  induction l with
  | nil => simp [worth]
  | cons y r ih =>
    rw [List.cons_append, worth, worth, ih, List.length_append, List.length_singleton, Nat.pow_succ, Nat.add_mul, Nat.mul_assoc, Nat.add_assoc]
theorem numF_worth : ∀ (n : Nat) (l : List UInt8), l.length = n → numF l = wrap64 (worth l : Int)
  | 0, l, h => by
    have : l = [] := List.eq_nil_of_length_eq_zero h
    subst this
    rw [numF_none]
    unfold wrap64 worth
    omega
  | n + 1, l, h => by
    have h0 : l ≠ [] := fun e => by rw [e] at h; cases h
    have e := List.dropLast_concat_getLast h0
    have hl : l.dropLast.length = n := by rw [List.length_dropLast]; omega
    have ih := numF_worth n l.dropLast hl
    rw [← e, numF_snoc, stepF_is, ih, worth_snoc]
    unfold wrap64
    omega
theorem num_back (y : Int) (h1 : -9223372036854775808 ≤ y) (h2 : y ≤ 9223372036854775807) : numF (bytesOf y 8) = y := by
  rw [numF_worth _ _ rfl, worth_bytes]
  unfold wrap64
  omega
theorem flip_range (n : Int) : -9223372036854775808 ≤ flip n ∧ flip n ≤ 9223372036854775807 := by
  unfold flip
  show -9223372036854775808 ≤ IntKind.i64.wrap ((BitVec.ofInt 64 n ^^^ BitVec.ofInt 64 (-9223372036854775808)).toNat : Nat) ∧ IntKind.i64.wrap ((BitVec.ofInt 64 n ^^^ BitVec.ofInt 64 (-9223372036854775808)).toNat : Nat) ≤ 9223372036854775807
  rw [IntKind.wrap_i64]
  omega
theorem flip_back (n : Int) (h1 : -9223372036854775808 ≤ n) (h2 : n ≤ 9223372036854775807) : flip (flip n) = n := by
  have r := flip_range n
  have r2 := flip_range (flip n)
  have e := flip_mod n h1 h2
  have e2 := flip_mod (flip n) r.1 r.2
  omega
end Go.Proofs.Ytaoboleifdgonaa
