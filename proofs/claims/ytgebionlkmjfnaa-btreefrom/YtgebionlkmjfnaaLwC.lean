/- The law's own deep. -/
import Derived.Test.YtgebionlkmjfnaaLwB
namespace Go.Proofs.Ytgebionlkmjfnaa
open Go.ChangeShapes Go.WideShapes Go.RowKit
set_option linter.unusedVariables false
set_option maxRecDepth 100000

theorem half_step {n len : Nat} {q : Nat} (h : len < 2 ^ q * (n + 1)) : len < 2 ^ (q + 1) * (n / 2 + 1) := by
  have h1 : n + 1 ≤ 2 * (n / 2 + 1) := by omega
  have h2 : 2 ^ q * (n + 1) ≤ 2 ^ q * (2 * (n / 2 + 1)) := Nat.mul_le_mul_left _ h1
  rw [Nat.pow_succ, Nat.mul_assoc]
  omega
set_option maxHeartbeats 4000000 in
theorem ldeep_is (p : Option Addr) (n : Int) (l : List Itm) (w : World) (hl : l.length ≤ 1000000) (h : TreeV w p n l) :
    Calls Try.prog 13 #[.agg #[.pointer p, .int .i64 n]] w fun e w' => e = .returned (.bool true) ∧ Below w.heap.size w w' := by
  obtain ⟨w0, hw0⟩ : ∃ w0, w.alloc (.cells #[.pointer p, .int .i64 n] 25) = w0 := ⟨_, rfl⟩
  have hn : n = (l.length : Int) := h.1
  have HW : Hid (Below w.heap.size w w0 ∧ TreeV w0 p n l ∧ BoxH w0 w.heap.size p n) := by
    show _ ∧ _
    rw [← hw0]
    exact ⟨below1 _ _, h.next (below1 _ _), BoxH.at _ _ rfl⟩
  have HW0 : Hid _ := hw0
  have HLN : Hid _ := len_is
  have HDE : Hid (∀ w', Below w0.heap.size w0 w' → Calls Try.prog 27 #[.agg #[.pointer p, .int .i64 n]] w' fun e w'' => ∃ D : Nat, e = .returned (.int .i64 D) ∧ Below w'.heap.size w' w'' ∧ ((l = [] ∧ D = 0) ∨ (1 ≤ D ∧ 2 ^ (D - 1) ≤ l.length))) := fun w' kk => (deep_eq p n l w' hl (HW.out.2.1.next kk)).mono fun e w'' ⟨D, r1, r2, r3⟩ => ⟨D, r1, r2, r3.imp id (fun q => ⟨q.1, q.2.1⟩)⟩
  have HX : Hid (∀ w', Below w0.heap.size w0 w' → w'.cell? ⟨w.heap.size, 0, none⟩ = some (.pointer p) ∧ w'.cell? ⟨w.heap.size, 1, none⟩ = some (.int .i64 n)) := fun w' kk => ⟨(HW.out.2.2.next kk).c0, (HW.out.2.2.next kk).c1⟩
  have hx := HX.out w0 (Below.refl _ _)
  rw [← hw0] at hx
  obtain ⟨x0, x1⟩ := hx
  clear hw0 h
  subst hn
  go_enter Try.func13, Try.ntmps13
  go_wp2_with fail
  rw [HW0.out]
  refine Calls.mono (HLN.out _ _ _) ?_; rintro e w1 ⟨rfl, k1⟩
  have HB1 : Hid (Below w0.heap.size w0 w1) := k1
  clear k1 x0 x1 HW0
  go_wp2_with fail
  go_loopw [3, 4] (fun vm vn wr => ∃ m n : Nat, vm = .int .i64 (m + 2 : Nat) ∧ vn = .int .i64 n ∧ w1 = wr ∧ m + n ≤ l.length ∧ Hid (l.length < 2 ^ m * (n + 1)))
    (fun _ vn _ => (intOf vn).toNat)
  case atStart => exact ⟨0, l.length, rfl, rfl, rfl, by omega, by show _ < _; omega⟩
  case round =>
    obtain ⟨m, n, rfl, rfl, rfl, hmn, HI⟩ := hrel
    by_cases hlt : 1 < n
    · have hlti : (1 : Int) < (n : Int) := by omega
      have HI' : Hid (l.length < 2 ^ (m + 1) * (n / 2 + 1)) := half_step HI.out
      have hdiv : IntKind.i64.wrap (Int.tdiv (n : Int) 2) = ((n / 2 : Nat) : Int) := by
        rw [show Int.tdiv (n : Int) 2 = ((n / 2 : Nat) : Int) from rfl, IntKind.wrap_i64]; omega
      clear HI
      go_wp2_with fail
      go_roundw
      case rel => exact ⟨m + 1, n / 2, by go_num, by first | rfl | go_num, by first | rfl | trivial, by omega, HI'.out⟩
      case measure => simp [intOf]; omega
    · have hlti : ¬ (1 : Int) < (n : Int) := by omega
      have HM : Hid (l.length < 2 ^ (m + 1)) := by
        have := HI.out
        have h2 : 2 ^ m * (n + 1) ≤ 2 ^ m * 2 := Nat.mul_le_mul_left _ (by omega)
        show _ < _
        rw [Nat.pow_succ]; omega
      obtain ⟨x0, x1⟩ := HX.out _ HB1.out
      clear HI
      go_wp2_with fail
      refine Calls.mono (HDE.out _ HB1.out) ?_; rintro e w2 ⟨D, rfl, k2, hD⟩
      have HB2 : Hid (Below w0.heap.size w0 w2) := Below.next HB1.out k2
      clear k2 x0 x1
      obtain ⟨x0, x1⟩ := HX.out _ HB2.out
      have hD0 : (0 : Int) ≤ (D : Int) := by omega
      have hDm : (D : Int) ≤ ((m + 2 : Nat) : Int) := by
        rcases hD with ⟨_, rfl⟩ | ⟨q1, q2⟩
        · omega
        · have h3 : 2 ^ (D - 1) < 2 ^ (m + 1) := Nat.lt_of_le_of_lt q2 HM.out
          have := (Nat.pow_lt_pow_iff_right (by omega : 1 < 2)).1 h3
          omega
      rcases hD with ⟨rfl, rfl⟩ | ⟨q1, q2⟩
      · go_wp2_with (refine Calls.mono (HLN.out _ _ _) ?_; rintro e w3 ⟨rfl, k3⟩; have HB3 : Hid (Below w0.heap.size w0 w3) := Below.next HB2.out k3; clear k3)
        go_ret
        exact ⟨rfl, Below.next HW.out.1 HB3.out⟩
      · have hDn : ¬ (D : Int) = 0 := by omega
        have hDb : ((D : Int) == 0) = false := by simpa using hDn
        have hll : 0 < l.length := by have : 0 < 2 ^ (D - 1) := Nat.pow_pos (by omega); omega
        have hln : ¬ (l.length : Int) = 0 := by omega
        have hlb : ((l.length : Int) == 0) = false := by simpa using hln
        clear q1 q2
        go_wp2_with (refine Calls.mono (HLN.out _ _ _) ?_; rintro e w3 ⟨rfl, k3⟩; have HB3 : Hid (Below w0.heap.size w0 w3) := Below.next HB2.out k3; clear k3)
        go_ret
        exact ⟨rfl, Below.next HW.out.1 HB3.out⟩
end Go.Proofs.Ytgebionlkmjfnaa
