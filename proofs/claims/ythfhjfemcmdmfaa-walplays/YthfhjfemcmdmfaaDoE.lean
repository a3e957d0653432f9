/- does: a crash. -/
import Derived.Test.YthfhjfemcmdmfaaCrs
namespace Go.Proofs.Ythfhjfemcmdmfaa
open Go.ChangeShapes Go.WideShapes Go.ChangeAt Go.RowKit
set_option linter.unusedVariables false
set_option maxRecDepth 100000

theorem and_7 (n : Int) : bits .and .i64 n 7 = n % 8 := by
  have h : (BitVec.ofInt 64 7).toNat = 2 ^ 3 - 1 := by decide
  have key : (BitVec.ofInt 64 n &&& BitVec.ofInt 64 7).toNat = (n % ((2 ^ 64 : Nat) : Int)).toNat % 2 ^ 3 := by
    rw [BitVec.toNat_and, BitVec.toNat_ofInt, h, Nat.and_two_pow_sub_one_eq_mod]
  show IntKind.i64.wrap ((BitVec.ofInt 64 n &&& BitVec.ofInt 64 7).toNat : Nat) = n % 8
  rw [key, IntKind.wrap_i64]
  omega
/-- The turn behind a crash. -/
def turnB (t : Nat) (nn : Int) (mo : Bool) : Nat := if mo then t + (nn % 8).toNat else t
theorem turn_more (t : Nat) (nn : Int) (h : t ≤ 100000) : IntKind.i64.wrap ((t : Int) + nn % 8) = ((t + (nn % 8).toNat : Nat) : Int) ∧ wrap64 ((t : Int) + nn % 8) = ((t + (nn % 8).toNat : Nat) : Int) := by
  refine ⟨?_, ?_⟩
  · rw [IntKind.wrap_i64]; omega
  · unfold wrap64; omega
set_option maxHeartbeats 2000000 in
theorem does_else {w : World} {N gl gc kl kc t : Nat} {kd nn : Int} {go ko : Option Addr} {mo : Bool} {Q : World → Prop} (h1 : ¬ kd = 1) (h2 : ¬ kd = 2) (h3 : ¬ kd = 3) (ht : t ≤ 100000) (hc : w.cell? ⟨N, 8, none⟩ = some (.int .i64 (t : Int)))
    (hk : Calls Try.prog 45 #[.pointer (some ⟨N, 0, none⟩), .slice ko kl kc, .int .i64 (turnB t nn mo : Nat)] (w.alloc (.cells #[.int .i64 kd, .int .i64 nn, .slice go gl gc, .slice ko kl kc, .bool mo] 53)) fun e w' => e = .returned (.bool true) ∧ Q w') :
    Calls Try.prog 19 #[.pointer (some ⟨N, 0, none⟩), .agg #[.int .i64 kd, .int .i64 nn, .slice go gl gc, .slice ko kl kc, .bool mo]] w fun e w' => e = .returned (.bool true) ∧ Q w' := by
  have HK : Hid (Calls Try.prog 45 #[.pointer (some ⟨N, 0, none⟩), .slice ko kl kc, .int .i64 (turnB t nn mo : Nat)] (w.alloc (.cells #[.int .i64 kd, .int .i64 nn, .slice go gl gc, .slice ko kl kc, .bool mo] 53)) fun e w' => e = .returned (.bool true) ∧ Q w') := hk
  have hcN := ((Kept.refl (fun _ => False) w).alloc (.cells #[.int .i64 kd, .int .i64 nn, .slice go gl gc, .slice ko kl kc, .bool mo] 53)).cell hc (fun x => x)
  have b1 : (kd == 1) = false := by simpa using h1
  have b2 : (kd == 2) = false := by simpa using h2
  have b3 : (kd == 3) = false := by simpa using h3
  have ha := and_7 nn
  obtain ⟨e1, e2⟩ := turn_more t nn ht
  obtain ⟨t2, ht2⟩ : ∃ t2, t + (nn % 8).toNat = t2 := ⟨_, rfl⟩
  rw [ht2] at e1 e2
  clear hk hc h1 h2 h3
  cases mo with
  | true =>
    have HT : Hid (turnB t nn true = t2) := ht2
    rw [HT.out] at HK
    clear ht2
    go_enter Try.func19, Try.ntmps19
    go_wp2_with fail
    refine Calls.mono HK.out ?_; rintro e w1 ⟨rfl, hq⟩
    have HQ : Hid (Q w1) := hq
    clear hq
    go_wp2_with fail
    go_ret
    exact ⟨rfl, HQ.out⟩
  | false =>
    have HT : Hid (turnB t nn false = t) := rfl
    rw [HT.out] at HK
    clear ht2
    go_enter Try.func19, Try.ntmps19
    go_wp2_with fail
    refine Calls.mono HK.out ?_; rintro e w1 ⟨rfl, hq⟩
    have HQ : Hid (Q w1) := hq
    clear hq
    go_wp2_with fail
    go_ret
    exact ⟨rfl, HQ.out⟩
end Go.Proofs.Ythfhjfemcmdmfaa
