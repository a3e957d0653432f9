/- Contracts of crc.Put and the document's Put. -/
import Derived.Test.YtehaancdadmdkaaCBytes
namespace Go.Proofs.Ytehaancdadmdkaa
open Go.ChangeShapes Go.WideShapes Go.ChangeAt Go.RowKit
set_option linter.unusedVariables false
set_option maxRecDepth 100000
set_option maxRecDepth 100000

/-- A number's four bytes, the lowest first. -/
def putL (m : Nat) : List UInt8 := [UInt8.ofNat m, UInt8.ofNat (m / 256), UInt8.ofNat (m / 65536), UInt8.ofNat (m / 16777216)]

theorem four_text (w : World) (a b c d : UInt8) (x y z u : Int) (t : TypeId) (ha : x = (a.toNat : Int)) (hb : y = (b.toNat : Int)) (hc : z = (c.toNat : Int)) (hd : u = (d.toNat : Int)) :
    (convert 46 9 (.slice (some ⟨w.heap.size, 0, none⟩) 4 4)).run Try.prog (w.alloc (.cells #[.int .u8 x, .int .u8 y, .int .u8 z, .int .u8 u] t)) = .ok (.string ⟨#[a, b, c, d]⟩) (w.alloc (.cells #[.int .u8 x, .int .u8 y, .int .u8 z, .int .u8 u] t)) := by
  subst ha hb hc hd
  exact run_convert_bytes_back (P := Try.prog) _ 46 9 5 ⟨w.heap.size, 0, none⟩ 4 [a, b, c, d] Try.underlying46 Try.underlying5 Try.underlying9 (fun j hj => by
    match j, hj with
    | 0, _ => simp [go_sem, Addr.add]
    | 1, _ => simp [go_sem, Addr.add]
    | 2, _ => simp [go_sem, Addr.add]
    | 3, _ => simp [go_sem, Addr.add]
    | n + 4, h => simp at h; omega)
theorem ofNat_toNat (x : Nat) : ((UInt8.ofNat x).toNat : Int) = (x : Int) % 256 := by
  rw [UInt8.toNat_ofNat']; omega

theorem put_is (n : Int) (w : World) :
    Calls Try.prog 56 #[.int .i64 n] w fun e w' => e = .returned (.string ⟨(putL (low n)).toArray⟩) ∧ Below w.heap.size w w' := by
  have hl := low_lt n
  have el := low_is n
  have hcv := four_text w (UInt8.ofNat (low n)) (UInt8.ofNat (low n / 256)) (UInt8.ofNat (low n / 65536)) (UInt8.ofNat (low n / 16777216)) ((low n : Int) % 256) ((low n : Int) / 256 % 256) ((low n : Int) / 65536 % 256) ((low n : Int) / 16777216) 88
    (by rw [ofNat_toNat]) (by rw [ofNat_toNat]; omega) (by rw [ofNat_toNat]; omega) (by rw [ofNat_toNat]; omega)
  have HR : Hid ((ByteArray.mk #[UInt8.ofNat (low n), UInt8.ofNat (low n / 256), UInt8.ofNat (low n / 65536), UInt8.ofNat (low n / 16777216)]) = ⟨(putL (low n)).toArray⟩) := rfl
  generalize ByteArray.mk (putL (low n)).toArray = R at *
  generalize ByteArray.mk #[UInt8.ofNat (low n), UInt8.ofNat (low n / 256), UInt8.ofNat (low n / 65536), UInt8.ofNat (low n / 16777216)] = S at *
  obtain rfl : S = R := HR.out
  generalize low n = m at *
  go_enter Try.func56, Try.ntmps56
  go_wp2
  refine wp_loop_rounds 5 ?_
  rw [rounds_succ]
  go_wp2
  rw [rounds_succ]
  go_wp2
  rw [rounds_succ]
  go_wp2
  rw [rounds_succ]
  go_wp2
  rw [rounds_succ]
  go_wp2
  go_ret
  exact ⟨rfl, (Below.refl _ _).alloc (Nat.le_refl _) _⟩

theorem and_byte (n : Int) : bits .and .i64 n 255 = n % 256 := by
  have h : (BitVec.ofInt 64 255).toNat = 2 ^ 8 - 1 := by decide
  have key : (BitVec.ofInt 64 n &&& BitVec.ofInt 64 255).toNat = (n % ((2 ^ 64 : Nat) : Int)).toNat % 2 ^ 8 := by
    rw [BitVec.toNat_and, BitVec.toNat_ofInt, h, Nat.and_two_pow_sub_one_eq_mod]
  show IntKind.i64.wrap ((BitVec.ofInt 64 n &&& BitVec.ofInt 64 255).toNat : Nat) = n % 256
  rw [key, IntKind.wrap_i64]
  omega

theorem refPut_is (n : Int) (w : World) :
    Calls Try.prog 54 #[.int .i64 n] w fun e w' => e = .returned (.string ⟨(putL (low n)).toArray⟩) ∧ Below w.heap.size w w' := by
  have ab := fun n => and_byte n
  have hcv := four_text w (UInt8.ofNat (low n)) (UInt8.ofNat (low n / 256)) (UInt8.ofNat (low n / 65536)) (UInt8.ofNat (low n / 16777216)) (n % 256) (n / 256 % 256) (n / 65536 % 256) (n / 16777216 % 256) 5
    (by rw [ofNat_toNat]; unfold low; omega) (by rw [ofNat_toNat]; unfold low; omega) (by rw [ofNat_toNat]; unfold low; omega) (by rw [ofNat_toNat]; unfold low; omega)
  have HR : Hid ((ByteArray.mk #[UInt8.ofNat (low n), UInt8.ofNat (low n / 256), UInt8.ofNat (low n / 65536), UInt8.ofNat (low n / 16777216)]) = ⟨(putL (low n)).toArray⟩) := rfl
  generalize ByteArray.mk (putL (low n)).toArray = R at *
  generalize ByteArray.mk #[UInt8.ofNat (low n), UInt8.ofNat (low n / 256), UInt8.ofNat (low n / 65536), UInt8.ofNat (low n / 16777216)] = S at *
  obtain rfl : S = R := HR.out
  go_enter Try.func54, Try.ntmps54
  go_wp2
  go_ret
  exact ⟨rfl, (Below.refl _ _).alloc (Nat.le_refl _) _⟩
end Go.Proofs.Ytehaancdadmdkaa
