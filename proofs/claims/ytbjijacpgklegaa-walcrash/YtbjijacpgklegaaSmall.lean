/- The small methods of a disk: Size, has, Off, Waits, spend, Fuse. -/
import Derived.Test.YtbjijacpgklegaaMem
namespace Go.Proofs.Ytbjijacpgklegaa
open Go.ChangeShapes Go.WideShapes Go.ChangeAt Go.RowKit
set_option linter.unusedVariables false
set_option maxRecDepth 100000

/-- How many sectors a disk has: of a nil one 0. -/
def Szd (w : World) (v : Value) (n : Nat) : Prop := (v = .pointer none ∧ n = 0) ∨ ∃ p a c, v = .pointer (some ⟨p, 0, none⟩) ∧ w.cell? ⟨p, 1, none⟩ = some (.slice a n c)

theorem size_is (v : Value) (n : Nat) (w : World) (h : Szd w v n) : Calls Try.prog 35 #[v] w fun e w' => e = .returned (.int .i64 (n : Int)) ∧ w' = w := by
  rcases h with ⟨rfl, rfl⟩ | ⟨p, a, c, rfl, h⟩
  · go_enter Try.func35, Try.ntmps35
    go_wp2
    go_ret
    exact ⟨rfl, rfl⟩
  · go_enter Try.func35, Try.ntmps35
    go_wp2
    go_ret
    exact ⟨rfl, rfl⟩

theorem has_is (v : Value) (n : Nat) (at_ : Int) (w : World) (h : Szd w v n) : Calls Try.prog 55 #[v, .int .i64 at_] w fun e w' => e = .returned (.bool (decide (0 ≤ at_ ∧ at_ < (n : Int)))) ∧ w' = w := by
  have H := (show Hid _ from size_is v n w h)
  clear h
  by_cases h0 : 0 ≤ at_
  · have e : decide (0 ≤ at_ ∧ at_ < (n : Int)) = decide (at_ < (n : Int)) := by simp [h0]
    rw [e]; clear e
    go_enter Try.func55, Try.ntmps55
    go_wp2_with fail
    refine Calls.mono H.out ?_; rintro e w1 ⟨rfl, rfl⟩
    go_wp2_with fail
    go_ret
    exact ⟨rfl, rfl⟩
  · have e : decide (0 ≤ at_ ∧ at_ < (n : Int)) = false := decide_eq_false (fun q => h0 q.1)
    rw [e]; clear e
    go_enter Try.func55, Try.ntmps55
    go_wp2_with fail
    go_ret
    exact ⟨rfl, rfl⟩

theorem off_nil (w : World) : Calls Try.prog 49 #[.pointer none] w fun e w' => e = .returned (.bool false) ∧ w' = w := by
  go_enter Try.func49, Try.ntmps49
  go_wp2
  go_ret
  exact ⟨rfl, rfl⟩
theorem off_at (p : Nat) (b : Bool) (w : World) (h : w.cell? ⟨p, 4, none⟩ = some (.bool b)) : Calls Try.prog 49 #[.pointer (some ⟨p, 0, none⟩)] w fun e w' => e = .returned (.bool b) ∧ w' = w := by
  go_enter Try.func49, Try.ntmps49
  go_wp2
  go_ret
  exact ⟨rfl, rfl⟩

/-- The fuse behind a write or a flush, the power, and whether it was let be. -/
def burn (fuse : Int) (off : Bool) : Int × Bool × Bool :=
  if fuse = 0 then (-1, true, false) else if off then (fuse, true, false) else (if 0 < fuse then fuse - 1 else fuse, false, true)

theorem spend_is (p : Nat) (fuse : Int) (off : Bool) (w : World) (h3 : w.cell? ⟨p, 3, none⟩ = some (.int .i64 fuse)) (h4 : w.cell? ⟨p, 4, none⟩ = some (.bool off))
    (hf : ∀ j, w.frozen? ⟨p, j, none⟩ = false) (hb : -1 ≤ fuse ∧ fuse ≤ 9223372036854775807) :
    Calls Try.prog 68 #[.pointer (some ⟨p, 0, none⟩)] w fun e w' => e = .returned (.bool (burn fuse off).2.2) ∧
      (w' = w ∨ ∃ v, w' = w.setCell ⟨p, 3, none⟩ v ∨ w' = (w.setCell ⟨p, 4, none⟩ (.bool true)).setCell ⟨p, 3, none⟩ v) ∧
      w'.cell? ⟨p, 3, none⟩ = some (.int .i64 (burn fuse off).1) ∧ w'.cell? ⟨p, 4, none⟩ = some (.bool (burn fuse off).2.1) := by
  have f3 := hf 3
  have f4 := hf 4
  clear hf
  by_cases c0 : fuse = 0
  · subst c0
    have e : burn 0 off = (-1, true, false) := rfl
    rw [e]; clear e
    go_enter Try.func68, Try.ntmps68
    go_wp2
    go_ret
    refine ⟨rfl, .inr ⟨_, .inr rfl⟩, ?_, ?_⟩
    · simp [go_sem, h3]
    · simp [go_sem, h4]
  · have g0 : (fuse == 0) = false := by simpa using c0
    cases off with
    | true =>
      have e : burn fuse true = (fuse, true, false) := by simp [burn, c0]
      rw [e]; clear e c0
      go_enter Try.func68, Try.ntmps68
      go_wp2
      go_ret
      exact ⟨rfl, .inl rfl, h3, h4⟩
    | false =>
      by_cases c1 : 0 < fuse
      · have e : burn fuse false = (fuse - 1, false, true) := by simp [burn, c0, c1]
        rw [e]; clear e c0
        go_enter Try.func68, Try.ntmps68
        go_wp2
        go_ret
        refine ⟨rfl, .inr ⟨_, .inl rfl⟩, ?_, ?_⟩
        · simp [go_sem, h3]
        · simp [go_sem, h4]
      · have e : burn fuse false = (fuse, false, true) := by simp [burn, c0, c1]
        rw [e]; clear e c0
        go_enter Try.func68, Try.ntmps68
        go_wp2
        go_ret
        exact ⟨rfl, .inl rfl, h3, h4⟩

theorem fuse_no (v : Value) (n : Int) (w : World) (h : Szd w v 0) : Calls Try.prog 20 #[v, .int .i64 n] w fun e w' => e = .returned (.int .i64 1) ∧ w' = w := by
  have H := (show Hid _ from size_is v 0 w h)
  clear h
  go_enter Try.func20, Try.ntmps20
  go_wp2_with fail
  refine Calls.mono H.out ?_; rintro e w1 ⟨rfl, rfl⟩
  go_wp2_with fail
  go_ret
  exact ⟨rfl, rfl⟩
end Go.Proofs.Ytbjijacpgklegaa
