/- Contracts of crc.Take, the document's Take, crc.Put and the document's Put. -/
import Derived.Test.YtdfkkacfaibmaaaRef
import Derived.BigQuiet
namespace Go.Proofs.Ytdfkkacfaibmaaa
open Go.ChangeShapes Go.WideShapes Go.ChangeAt Go.RowKit
set_option linter.unusedVariables false

theorem i64_or (a b : Nat) (ha : a < 4294967296) (hb : b < 4294967296) : bits .or .i64 (a : Int) (b : Int) = ((a ||| b : Nat) : Int) := by
  have hx : a ||| b < 2 ^ 32 := Nat.or_lt_two_pow (by omega) (by omega)
  have h1 : (BitVec.ofInt 64 (a : Int)).toNat = a := by rw [BitVec.toNat_ofInt]; omega
  have h2 : (BitVec.ofInt 64 (b : Int)).toNat = b := by rw [BitVec.toNat_ofInt]; omega
  show IntKind.i64.wrap ((BitVec.ofInt 64 (a : Int) ||| BitVec.ofInt 64 (b : Int)).toNat : Nat) = _
  rw [BitVec.toNat_or, h1, h2, IntKind.wrap_i64]
  omega

theorem or_next (x y p : Nat) (k : Nat) (hx : x < 2 ^ k) (hp : p = 2 ^ k) (hk : k ≤ 24) (hy : y < 256) : bits .or .i64 (x : Int) ((y * p : Nat) : Int) = ((x + y * p : Nat) : Int) := by
  have h1 : 2 ^ k ≤ 2 ^ 24 := Nat.pow_le_pow_right (by omega) hk
  have h2 : y * 2 ^ k ≤ 255 * 2 ^ 24 := Nat.mul_le_mul (by omega) h1
  subst hp
  rw [i64_or x (y * 2 ^ k) (by omega) (by omega), Nat.or_comm, Nat.mul_comm, ← Nat.two_pow_add_eq_or_of_lt hx, Nat.add_comm]

/-- What Take makes of four bytes. -/
def four (a b c d : Nat) : Nat := a + b * 256 + c * 65536 + d * 16777216

theorem take_is (s : ByteArray) (h : 4 ≤ s.size) (hs : s.size ≤ 140737488351232) (w : World) :
    Calls Try.prog 16 #[.string s] w fun e w' => e = .returned (.int .i64 (four s[0].toNat s[1].toNat s[2].toNat s[3].toNat : Nat)) ∧ w' = w := by
  have b0 := byte_lt s[0]
  have b1 := byte_lt s[1]
  have b2 := byte_lt s[2]
  have b3 := byte_lt s[3]
  have o0 : bits .or .i64 0 (s[0].toNat : Int) = (s[0].toNat : Int) := by
    have := i64_or 0 s[0].toNat (by omega) (by omega)
    rwa [Nat.zero_or] at this
  have o1 : bits .or .i64 (s[0].toNat : Int) ((s[1].toNat : Int) * 256) = ((s[0].toNat + s[1].toNat * 256 : Nat) : Int) := or_next s[0].toNat s[1].toNat 256 8 (by omega) (by omega) (by omega) b1
  have o2 : bits .or .i64 ((s[0].toNat + s[1].toNat * 256 : Nat) : Int) ((s[2].toNat : Int) * 65536) = ((s[0].toNat + s[1].toNat * 256 + s[2].toNat * 65536 : Nat) : Int) := or_next (s[0].toNat + s[1].toNat * 256) s[2].toNat 65536 16 (by omega) (by omega) (by omega) b2
  have o3 : bits .or .i64 ((s[0].toNat + s[1].toNat * 256 + s[2].toNat * 65536 : Nat) : Int) ((s[3].toNat : Int) * 16777216) = ((four s[0].toNat s[1].toNat s[2].toNat s[3].toNat : Nat) : Int) := or_next (s[0].toNat + s[1].toNat * 256 + s[2].toNat * 65536) s[3].toNat 16777216 24 (by omega) (by omega) (by omega) b3
  generalize four s[0].toNat s[1].toNat s[2].toNat s[3].toNat = R at *
  generalize s[0].toNat + s[1].toNat * 256 + s[2].toNat * 65536 = R2 at *
  generalize s[0].toNat + s[1].toNat * 256 = R1 at *
  go_enter Try.func16, Try.ntmps16
  go_wp2
  refine wp_loop_rounds 5 ?_
  rw [rounds_succ]
  go_wp2
  rw [rounds_succ]
  go_wp2
  rw [rounds_succ]
  go_wp2
  rw [rounds_succ]
  go_wp2
  rw [rounds_succ]
  go_wp2
  go_ret
  exact ⟨rfl, rfl⟩

theorem refTake_is (s : ByteArray) (h : 4 ≤ s.size) (hs : s.size ≤ 140737488351232) (w : World) :
    Calls Try.prog 17 #[.string s] w fun e w' => e = .returned (.int .i64 (four s[0].toNat s[1].toNat s[2].toNat s[3].toNat : Nat)) ∧ Below w.heap.size w w' := by
  have b0 := byte_lt s[0]
  have b1 := byte_lt s[1]
  have b2 := byte_lt s[2]
  have b3 := byte_lt s[3]
  have h0 : 0 < s.size := by omega
  have h1 : ¬ s.size ≤ 1 := by omega
  have h2 : ¬ s.size ≤ 2 := by omega
  have h3 : ¬ s.size ≤ 3 := by omega
  have g1 : (1 : Int) < (s.size : Int) := by omega
  have g2 : (2 : Int) < (s.size : Int) := by omega
  have g3 : (3 : Int) < (s.size : Int) := by omega
  have o1 : bits .or .i64 (s[0].toNat : Int) ((s[1].toNat : Int) * 256) = ((s[0].toNat + s[1].toNat * 256 : Nat) : Int) := or_next s[0].toNat s[1].toNat 256 8 (by omega) (by omega) (by omega) b1
  have o2 : bits .or .i64 ((s[0].toNat + s[1].toNat * 256 : Nat) : Int) ((s[2].toNat : Int) * 65536) = ((s[0].toNat + s[1].toNat * 256 + s[2].toNat * 65536 : Nat) : Int) := or_next (s[0].toNat + s[1].toNat * 256) s[2].toNat 65536 16 (by omega) (by omega) (by omega) b2
  have o3 : bits .or .i64 ((s[0].toNat + s[1].toNat * 256 + s[2].toNat * 65536 : Nat) : Int) ((s[3].toNat : Int) * 16777216) = ((four s[0].toNat s[1].toNat s[2].toNat s[3].toNat : Nat) : Int) := or_next (s[0].toNat + s[1].toNat * 256 + s[2].toNat * 65536) s[3].toNat 16777216 24 (by omega) (by omega) (by omega) b3
  generalize four s[0].toNat s[1].toNat s[2].toNat s[3].toNat = R at *
  generalize s[0].toNat + s[1].toNat * 256 + s[2].toNat * 65536 = R2 at *
  generalize s[0].toNat + s[1].toNat * 256 = R1 at *
  go_enter Try.func17, Try.ntmps17
  go_wp2
  go_quiet (fail)
  go_wp2
  go_ret
  exact ⟨rfl, ⟨rfl, rfl, rfl, Nat.le_refl _, fun _ _ => rfl⟩⟩

theorem take_few (s : ByteArray) (h : s.size < 4) (w : World) :
    Calls Try.prog 16 #[.string s] w fun e w' => e = .returned (.int .i64 (-1)) ∧ w' = w := by
  go_enter Try.func16, Try.ntmps16
  go_wp2
  go_ret
  exact ⟨rfl, rfl⟩
theorem refTake_few (s : ByteArray) (h : s.size < 4) (w : World) :
    Calls Try.prog 17 #[.string s] w fun e w' => e = .returned (.int .i64 (-1)) ∧ Below w.heap.size w w' := by
  go_enter Try.func17, Try.ntmps17
  go_wp2
  go_ret
  exact ⟨rfl, Below.refl _ _⟩

end Go.Proofs.Ytdfkkacfaibmaaa
