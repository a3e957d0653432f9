/- The document's bytes of a value. -/
import Derived.Test.YtaoboleifdgonaaRise
namespace Go.Proofs.Ytaoboleifdgonaa
open Go.ChangeShapes Go.WideShapes Go.RowKit
set_option linter.unusedVariables false
set_option maxRecDepth 100000
set_option maxRecDepth 100000

theorem and_byte (n : Int) : bits .and .i64 n 255 = n % 256 := by
  have h : (BitVec.ofInt 64 255).toNat = 2 ^ 8 - 1 := by decide
  have key : (BitVec.ofInt 64 n &&& BitVec.ofInt 64 255).toNat = (n % ((2 ^ 64 : Nat) : Int)).toNat % 2 ^ 8 := by
    rw [BitVec.toNat_and, BitVec.toNat_ofInt, h, Nat.and_two_pow_sub_one_eq_mod]
  show IntKind.i64.wrap ((BitVec.ofInt 64 n &&& BitVec.ofInt 64 255).toNat : Nat) = n % 256
  rw [key, IntKind.wrap_i64]
  omega
theorem xor_byte (n : Nat) (h : n < 256) : bits .xor .u8 (n : Int) 128 = ((n : Int) + 128) % 256 := by
  have e : ∀ n : Fin 256, bits .xor .u8 ((n.val : Nat) : Int) 128 = (((n.val : Nat) : Int) + 128) % 256 := by decide +kernel
  exact e ⟨n, h⟩
theorem byte_low (n : Int) (h1 : -9223372036854775808 ≤ n) (h2 : n ≤ 9223372036854775807) (j : Nat) (hj : j < 7) : flip n / 2 ^ (8 * j) % 256 = n / 2 ^ (8 * j) % 256 := by
  have hf := flip_mod n h1 h2
  match j, hj with
  | 0, _ => simp only [Nat.mul_zero, Int.pow_zero, Int.ediv_one]; omega
  | 1, _ => rw [show (2 : Int) ^ (8 * 1) = 256 from rfl]; omega
  | 2, _ => rw [show (2 : Int) ^ (8 * 2) = 65536 from rfl]; omega
  | 3, _ => rw [show (2 : Int) ^ (8 * 3) = 16777216 from rfl]; omega
  | 4, _ => rw [show (2 : Int) ^ (8 * 4) = 4294967296 from rfl]; omega
  | 5, _ => rw [show (2 : Int) ^ (8 * 5) = 1099511627776 from rfl]; omega
  | 6, _ => rw [show (2 : Int) ^ (8 * 6) = 281474976710656 from rfl]; omega
theorem byte_top (n : Int) (h1 : -9223372036854775808 ≤ n) (h2 : n ≤ 9223372036854775807) : flip n / 2 ^ (8 * 7) % 256 = (n / 2 ^ (8 * 7) % 256 + 128) % 256 := by
  have hf := flip_mod n h1 h2
  rw [show (2 : Int) ^ (8 * 7) = 72057594037927936 from rfl]
  omega
theorem ref_byte (n : Int) (h1 : -9223372036854775808 ≤ n) (h2 : n ≤ 9223372036854775807) (k : Nat) (hk : k < 8) : ((byteOf (flip n) k).toNat : Int) = if k = 0 then bits .xor .u8 (n / 2 ^ (8 * (7 - k)) % 256) 128 else n / 2 ^ (8 * (7 - k)) % 256 := by
  rw [byteOf_is]
  by_cases h0 : k = 0
  · subst h0
    rw [if_pos rfl]
    have := byte_top n h1 h2
    rw [show 7 - 0 = 7 from rfl, this]
    have e1 := Int.emod_nonneg (n / 2 ^ (8 * 7)) (show (256 : Int) ≠ 0 by omega)
    have e2 := Int.emod_lt_of_pos (n / 2 ^ (8 * 7)) (show (0 : Int) < 256 by omega)
    generalize n / 2 ^ (8 * 7) % 256 = y at *
    obtain ⟨m, rfl⟩ : ∃ m : Nat, y = (m : Int) := ⟨y.toNat, by omega⟩
    rw [xor_byte m (by omega)]
  · rw [if_neg h0]
    exact byte_low n h1 h2 (7 - k) (by omega)

set_option maxHeartbeats 1000000 in
theorem refBytes_int (n : Int) (h1 : -9223372036854775808 ≤ n) (h2 : n ≤ 9223372036854775807) (s : ByteArray) (w : World) : Calls Try.prog 57 #[vv 1 n s] w fun e w' => e = .returned (.string ⟨(valB 1 n s).toArray⟩) ∧ Below w.heap.size w w' := by
  have HB : Hid (∀ k, k < 8 → ((byteOf (flip n) k).toNat : Int) = if k = 0 then bits .xor .u8 (n / 2 ^ (8 * (7 - k)) % 256) 128 else n / 2 ^ (8 * (7 - k)) % 256) := fun k hk => ref_byte n h1 h2 k hk
  have HV : Hid (valB 1 n s = lowB 1 :: bytesOf (flip n) 8) := rfl
  obtain ⟨x, hx⟩ : ∃ x, flip n = x := ⟨_, rfl⟩
  rw [hx] at HB HV
  have k1 : bits .and .i64 1 255 = 1 := by decide
  have ab := and_byte
  have HO : Hid (Own ((w.alloc (.cells #[.int .i64 1, .int .i64 n, .string s] 56)).alloc (.cells #[.int .u8 1] 5)) (w.heap.size + 1) (.slice (some ⟨w.heap.size + 1, 0, none⟩) 1 1) [lowB 1]) := by
    have := own_new (w.alloc (.cells #[.int .i64 1, .int .i64 n, .string s] 56)) (lowB 1) (y := 1) (by decide)
    rwa [show (w.alloc (.cells #[.int .i64 1, .int .i64 n, .string s] 56)).heap.size = w.heap.size + 1 by simp] at this
  have HAt : Hid (At ((w.alloc (.cells #[.int .i64 1, .int .i64 n, .string s] 56)).alloc (.cells #[.int .u8 1] 5)) w.heap.size 0 1 n s) := (At.new w 1 n s).next (below1 _ _)
  clear hx h1 h2
  go_enter Try.func57, Try.ntmps57
  go_wp2_with fail
  go_loopw [3, 4] (fun out i wr => ∃ k : Nat, k ≤ 8 ∧ i = .int .i64 (7 - (k : Int)) ∧ Hid (Own wr (w.heap.size + 1) out (lowB 1 :: bytesOf x k) ∧ At wr w.heap.size 0 1 n s ∧ Below w.heap.size w wr))
    (fun _ i _ => (intOf i + 1).toNat)
  case atStart => exact ⟨0, by omega, rfl, HO.out, HAt.out, below2 _ _ _⟩
  case round =>
    obtain ⟨k, hk, rfl, HI⟩ := hrel
    obtain ⟨a0, a1, a2⟩ := HI.out.2.1
    by_cases hlt : k < 8
    · have hlti : (0 : Int) ≤ 7 - (k : Int) := by omega
      have hsz : w.heap.size + 1 ≤ wr.heap.size := HI.out.2.1.lt
      have hlen : (lowB 1 :: bytesOf x k).length ≤ 1048576 := by rw [List.length_cons, bytesOf_len]; omega
      by_cases h0 : k = 0
      · subst h0
        obtain ⟨v2, w2, ra, o2, b2, _, _, _⟩ := own_byte (y := bits .xor .u8 (n / 72057594037927936 % 256) 128) HI.out.1 (byteOf x 0) hlen hsz (by have := HB.out 0 (by omega); rw [if_pos rfl] at this; exact this)
        rw [List.cons_append, ← bytesOf_succ] at o2
        have RA := (show Hid _ from ra)
        have HE : Hid (Own w2 (w.heap.size + 1) v2 (lowB 1 :: bytesOf x (0 + 1)) ∧ At w2 w.heap.size 0 1 n s ∧ Below w.heap.size w w2) := ⟨o2, HI.out.2.1.below b2 (by omega), HI.out.2.2.trans (b2.mono (by omega))⟩
        clear ra o2 b2
        go_wp2_with (first | ((with_reducible apply st_append (x := .tmp 30)); (case ho => rfl); (case hgd => rfl); (case hr => exact RA.out)))
        go_roundw
        case rel => exact ⟨0 + 1, by omega, by first | go_num | rfl | (congr 1; omega), HE.out⟩
        case measure => simp [intOf]; try omega
      · have hne : ((7 - (k : Int)) == 7) = false := by simp; omega
        have hne2 : ¬ 7 - (k : Int) = 7 := by omega
        obtain ⟨v2, w2, ra, o2, b2, _, _, _⟩ := own_byte (y := n / 2 ^ (8 * (7 - k)) % 256) HI.out.1 (byteOf x k) hlen hsz (by have := HB.out k hlt; rw [if_neg h0] at this; exact this)
        rw [List.cons_append, ← bytesOf_succ] at o2
        have RA := (show Hid _ from ra)
        have HE : Hid (Own w2 (w.heap.size + 1) v2 (lowB 1 :: bytesOf x (k + 1)) ∧ At w2 w.heap.size 0 1 n s ∧ Below w.heap.size w w2) := ⟨o2, HI.out.2.1.below b2 (by omega), HI.out.2.2.trans (b2.mono (by omega))⟩
        clear ra o2 b2
        go_wp2_with (first | ((with_reducible apply st_append (x := .tmp 30)); (case ho => rfl); (case hgd => rfl); (case hr => exact RA.out)))
        go_roundw
        case rel => exact ⟨k + 1, by omega, by first | go_num | rfl | (congr 1; omega), HE.out⟩
        case measure => simp [intOf]; try omega
    · have hlti : ¬ (0 : Int) ≤ 7 - (k : Int) := by omega
      obtain rfl : k = 8 := by omega
      have HII : Hid (Own wr (w.heap.size + 1) u3 (valB 1 n s) ∧ Below w.heap.size w wr) := ⟨by rw [HV.out]; exact HI.out.1, HI.out.2.2⟩
      obtain ⟨g, m, cc, rfl, hcv⟩ := own_str HII.out.1 (by rw [HV.out]; simp)
      clear HI
      go_wp2_with fail
      go_ret
      exact ⟨rfl, HII.out.2⟩
end Go.Proofs.Ytaoboleifdgonaa
