/- room, used, mayCell, Free, noughts. -/
import Derived.Test.YtehaancdadmdkaaPk
import Derived.Test.YtehaancdadmdkaaCPut
namespace Go.Proofs.Ytehaancdadmdkaa
open Go.ChangeShapes Go.WideShapes Go.ChangeAt Go.RowKit
set_option linter.unusedVariables false
set_option maxRecDepth 100000

theorem drewN0 (w : World) : w = w.drewN 0 := rfl
set_option maxHeartbeats 1000000 in
theorem room_is {w : World} {p : Nat} {B : List UInt8} (h : Pg w p B) (hn : 8 + 2 * byteAt B 1 ≤ 256) : Calls Try.prog 48 #[.pointer (some ⟨p, 0, none⟩)] w fun e w' => e = .returned (.int .i64 ((endB B (byteAt B 1) : Int) - ((8 + 2 * byteAt B 1 : Nat) : Int))) ∧ ∃ m, w' = w.drewN m := by
  have H19 : Hid (∀ n, Calls Try.prog 19 #[.pointer (some ⟨p, 0, none⟩)] (w.drewN n) fun e w' => e = .returned (.int .i64 (byteAt B 1 : Int)) ∧ ∃ m, w' = (w.drewN n).drewN m) := fun n => len_is (h.dr n)
  have H43 : Hid (∀ n, Calls Try.prog 43 #[.pointer (some ⟨p, 0, none⟩), .int .i64 (byteAt B 1 : Int)] (w.drewN n) fun e w' => e = .returned (.int .i64 (endB B (byteAt B 1) : Int)) ∧ ∃ m, w' = (w.drewN n).drewN m) := fun n => end_is (h.dr n) _ (by omega)
  have H58 : Hid (∀ n, Calls Try.prog 58 #[.int .i64 (byteAt B 1 : Int)] (w.drewN n) fun e w' => e = .returned (.int .i64 ((8 + 2 * byteAt B 1 : Nat) : Int)) ∧ ∃ m, w' = (w.drewN n).drewN m) := fun n => placeOf_is _ (by omega) _
  have he := endB_le B (byteAt B 1)
  generalize byteAt B 1 = x at *
  generalize endB B x = y at *
  obtain ⟨z, hz⟩ : ∃ z, 8 + 2 * x = z := ⟨_, rfl⟩
  rw [hz] at H58 hn ⊢
  clear h hz
  rw [drewN0 w]
  go_enter Try.func48, Try.ntmps48
  go_wp2_with fail
  refine Calls.mono (H19.out _) ?_; rintro e w1 ⟨rfl, m1, rfl⟩
  go_wp2_with fail
  refine Calls.mono (H43.out _) ?_; rintro e w1 ⟨rfl, m2, rfl⟩
  go_wp2_with fail
  refine Calls.mono (H19.out _) ?_; rintro e w1 ⟨rfl, m3, rfl⟩
  go_wp2_with fail
  refine Calls.mono (H58.out _) ?_; rintro e w1 ⟨rfl, m4, rfl⟩
  go_wp2_with fail
  go_ret
  exact ⟨rfl, _, rfl⟩
theorem mayCell_is (x y : Nat) (hx : x ≤ 9223372036854775807) (hy : y ≤ 9223372036854775807) (w : World) : Calls Try.prog 49 #[.int .i64 (x : Int), .int .i64 (y : Int)] w fun e w' => e = .returned (.bool (decide (1 ≤ x ∧ x ≤ 80 ∧ x ≤ y ∧ y ≤ 100))) ∧ ∃ m, w' = w.drewN m := by
  by_cases c1 : (1 : Int) ≤ x
  · by_cases c2 : (x : Int) ≤ 80
    · by_cases c3 : (x : Int) ≤ y
      · by_cases c4 : (y : Int) ≤ 100
        · rw [decide_eq_true (by omega)]
          go_enter Try.func49, Try.ntmps49
          go_wp2
          go_ret
          exact ⟨rfl, 0, rfl⟩
        · rw [decide_eq_false (by omega)]
          go_enter Try.func49, Try.ntmps49
          go_wp2
          go_ret
          exact ⟨rfl, 0, rfl⟩
      · rw [decide_eq_false (by omega)]
        go_enter Try.func49, Try.ntmps49
        go_wp2
        go_ret
        exact ⟨rfl, 0, rfl⟩
    · rw [decide_eq_false (by omega)]
      go_enter Try.func49, Try.ntmps49
      go_wp2
      go_ret
      exact ⟨rfl, 0, rfl⟩
  · rw [decide_eq_false (by omega)]
    go_enter Try.func49, Try.ntmps49
    go_wp2
    go_ret
    exact ⟨rfl, 0, rfl⟩
theorem used_is {w : World} {p : Nat} {B : List UInt8} (h : Pg w p B) : Calls Try.prog 47 #[.pointer (some ⟨p, 0, none⟩)] w fun e w' => e = .returned (.int .i64 ((byteAt B 2 + byteAt B 3 * 256 : Nat) : Int)) ∧ ∃ m, w' = w.drewN m := by
  have c2 := h.cell 2 (by decide)
  have c3 := h.cell 3 (by decide)
  have hb2 := byteAt_lt B 2
  have hb3 := byteAt_lt B 3
  generalize byteAt B 2 = x at *
  generalize byteAt B 3 = y at *
  have ho := or_next x y 256 8 (by omega) (by decide) (by decide) hb3
  obtain ⟨z, hz⟩ : ∃ z, x + y * 256 = z := ⟨_, rfl⟩
  rw [hz] at ho ⊢
  have ho2 : bits .or .i64 (x : Int) ((y : Int) * 256) = (z : Int) := by rw [← ho]; congr 1
  clear h hz ho
  go_enter Try.func47, Try.ntmps47
  go_wp2_with fail
  go_quiet (fail)
  go_wp2_with fail
  go_ret
  exact ⟨rfl, _, rfl⟩
end Go.Proofs.Ytehaancdadmdkaa
