/- The plain mathematics of four bytes in a row that are others. -/
import Derived.Test.YtdfkkacfaibmaaaPoly
import Derived.Test.YtdfkkacfaibmaaaSum
namespace Go.Proofs.Ytdfkkacfaibmaaa
set_option linter.unusedVariables false

/-- Byte j of a number. -/
def yb (n : Int) (j : Nat) : UInt8 := UInt8.ofNat (n / 2 ^ (8 * j) % 256).toNat
theorem yb_is (n : Int) (j : Nat) : n / 2 ^ (8 * j) % 256 = ((yb n j).toNat : Int) := by
  unfold yb
  rw [UInt8.toNat_ofNat']
  omega
theorem yb_zero (n : Int) : ((yb n 0).toNat = 0 ∧ (yb n 1).toNat = 0 ∧ (yb n 2).toNat = 0 ∧ (yb n 3).toNat = 0) ↔ low n = 0 := by
  have h0 := yb_is n 0
  have h1 := yb_is n 1
  have h2 := yb_is n 2
  have h3 := yb_is n 3
  simp only [Nat.mul_zero, Int.pow_zero, Nat.mul_one, Nat.reduceMul, Int.reducePow] at h0 h1 h2 h3
  unfold low
  omega

/-- A text, the first j of four bytes from place k on turned. -/
def turned (l : List UInt8) (k : Nat) (n : Int) : Nat → List UInt8
  | 0 => l
  | j + 1 => (turned l k n j).set (k + j) ((turned l k n j)[k + j]?.getD 0 ^^^ yb n j)
theorem turned_len (l : List UInt8) (k : Nat) (n : Int) (j : Nat) : (turned l k n j).length = l.length := by
  induction j with
  | zero => rfl
  | succ j ih => unfold turned; rw [List.length_set, ih]
theorem set_at (p q : List UInt8) (x v : UInt8) : (p ++ x :: q).set p.length v = p ++ v :: q := by
  rw [List.set_append_right (h := Nat.le_refl _), Nat.sub_self]; rfl
theorem get_at (p q : List UInt8) (x : UInt8) : (p ++ x :: q)[p.length]?.getD 0 = x := by
  rw [List.getElem?_append_right (Nat.le_refl _), Nat.sub_self]; rfl
theorem turn_at (p q : List UInt8) (x y : UInt8) (i : Nat) (hi : i = p.length) : (p ++ x :: q).set i ((p ++ x :: q)[i]?.getD 0 ^^^ y) = p ++ (x ^^^ y) :: q := by
  subst hi
  rw [get_at, set_at]
theorem turned_four (p q : List UInt8) (a b c d : UInt8) (n : Int) :
    turned (p ++ a :: b :: c :: d :: q) p.length n 4 = p ++ (a ^^^ yb n 0) :: (b ^^^ yb n 1) :: (c ^^^ yb n 2) :: (d ^^^ yb n 3) :: q := by
  unfold turned turned turned turned turned
  rw [turn_at p _ a _ (p.length + 0) rfl]
  have e1 : p ++ (a ^^^ yb n 0) :: b :: c :: d :: q = (p ++ [a ^^^ yb n 0]) ++ b :: c :: d :: q := by simp
  rw [e1, turn_at (p ++ [a ^^^ yb n 0]) _ b _ (p.length + 1) (by simp)]
  have e2 : (p ++ [a ^^^ yb n 0]) ++ (b ^^^ yb n 1) :: c :: d :: q = (p ++ [a ^^^ yb n 0, b ^^^ yb n 1]) ++ c :: d :: q := by simp
  rw [e2, turn_at (p ++ [a ^^^ yb n 0, b ^^^ yb n 1]) _ c _ (p.length + 2) (by simp)]
  have e3 : (p ++ [a ^^^ yb n 0, b ^^^ yb n 1]) ++ (c ^^^ yb n 2) :: d :: q = (p ++ [a ^^^ yb n 0, b ^^^ yb n 1, c ^^^ yb n 2]) ++ d :: q := by simp
  rw [e3, turn_at (p ++ [a ^^^ yb n 0, b ^^^ yb n 1, c ^^^ yb n 2]) _ d _ (p.length + 3) (by simp)]
  simp

theorem split_four (l : List UInt8) (k : Nat) (h : k + 4 ≤ l.length) : ∃ p a b c d q, l = p ++ a :: b :: c :: d :: q ∧ p.length = k := by
  have e := List.take_append_drop k l
  have hl : (l.drop k).length = l.length - k := by simp
  match hd : l.drop k with
  | [] => rw [hd] at hl; simp at hl; omega
  | [_] => rw [hd] at hl; simp at hl; omega
  | [_, _] => rw [hd] at hl; simp at hl; omega
  | [_, _, _] => rw [hd] at hl; simp at hl; omega
  | a :: b :: c :: d :: q =>
    refine ⟨l.take k, a, b, c, d, q, ?_, by simp; omega⟩
    rw [← hd, e]

theorem byte_nought {x : UInt8} (h : x.toNat = 0) : x = 0 := UInt8.toNat_inj.1 h

/-- Up to four bytes in a row that are others are told. -/
theorem tells (l : List UInt8) (k : Nat) (n : Int) (h : k + 4 ≤ l.length) :
    (low n = 0 → turned l k n 4 = l) ∧ (low n ≠ 0 → sumOf (turned l k n 4) ≠ sumOf l) := by
  obtain ⟨p, a, b, c, d, q, rfl, rfl⟩ := split_four l k h
  rw [turned_four]
  constructor
  · intro h0
    obtain ⟨z0, z1, z2, z3⟩ := (yb_zero n).2 h0
    rw [byte_nought z0, byte_nought z1, byte_nought z2, byte_nought z3]
    simp
  · intro h0 he
    apply h0
    apply (yb_zero n).1
    apply run_four
    have hF : (0 ^^^ 4294967295 : Nat) < 4294967296 := by decide
    have hp := run_lt p hF
    have e1 : run (0 ^^^ 4294967295) (p ++ ((a ^^^ yb n 0) :: (b ^^^ yb n 1) :: (c ^^^ yb n 2) :: (d ^^^ yb n 3) :: q)) = run (0 ^^^ 4294967295) (p ++ (a :: b :: c :: d :: q)) := by
      unfold sumOf moreOf at he
      have := congrArg (· ^^^ 4294967295) he
      simpa [xor_twice] using this
    rw [run_append, run_append] at e1
    generalize run (0 ^^^ 4294967295) p = C at *
    have s1 : (a ^^^ yb n 0) :: (b ^^^ yb n 1) :: (c ^^^ yb n 2) :: (d ^^^ yb n 3) :: q = [a ^^^ yb n 0, b ^^^ yb n 1, c ^^^ yb n 2, d ^^^ yb n 3] ++ q := rfl
    have s2 : a :: b :: c :: d :: q = [a, b, c, d] ++ q := rfl
    rw [s1, s2, run_append, run_append] at e1
    have e2 := run_inj q (run_lt _ hp) (run_lt _ hp) e1
    have e3 : run (C ^^^ 0) (List.zipWith (· ^^^ ·) [a, b, c, d] [yb n 0, yb n 1, yb n 2, yb n 3]) = run C [a, b, c, d] ^^^ run 0 [yb n 0, yb n 1, yb n 2, yb n 3] := run_xor C 0 _ _ rfl
    rw [Nat.xor_zero] at e3
    have e4 : List.zipWith (· ^^^ ·) [a, b, c, d] [yb n 0, yb n 1, yb n 2, yb n 3] = [a ^^^ yb n 0, b ^^^ yb n 1, c ^^^ yb n 2, d ^^^ yb n 3] := rfl
    rw [e4, e2] at e3
    have e5 := congrArg (run C [a, b, c, d] ^^^ ·) e3
    simp only [Nat.xor_self, ← Nat.xor_assoc, Nat.zero_xor] at e5
    exact e5.symm
end Go.Proofs.Ytdfkkacfaibmaaa
