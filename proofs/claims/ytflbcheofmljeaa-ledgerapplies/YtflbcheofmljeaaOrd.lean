/- The order of stocks, and its calls. -/
import Derived.Test.YtflbcheofmljeaaBase
import Derived.Lib.Bytealg
import Derived.Laws.Cover1
namespace Go.Proofs.Ytflbcheofmljeaa
open Go.ChangeShapes Go.WideShapes Go.RowKit
set_option linter.unusedVariables false
set_option maxRecDepth 100000

theorem bytes_self (l : List UInt8) : Lib.compareBytes l l = 0 := by
  induction l with
  | nil => rfl
  | cons x r ih => rw [Lib.compareBytes, if_neg (UInt8.lt_irrefl x), if_neg (UInt8.lt_irrefl x), ih]
theorem bytesLess_is : ∀ a b : List UInt8, Op.bytesLess a b = decide (Lib.compareBytes a b = -1)
  | [], [] => by decide
  | [], _ :: _ => by simp [Op.bytesLess, Lib.compareBytes]
  | _ :: _, [] => by simp [Op.bytesLess, Lib.compareBytes]
  | x :: a, y :: b => by
    have := bytesLess_is a b
    rw [Op.bytesLess, Lib.compareBytes, this]
    by_cases h1 : x < y
    · simp [h1]
    · by_cases h2 : y < x
      · have : ¬ x = y := fun e => by subst e; exact UInt8.lt_irrefl _ h2
        simp [h1, h2, this]
      · have : x = y := UInt8.le_antisymm (by simpa using h2) (by simpa using h1)
        simp [this]
theorem bytes_turn : ∀ a b : List UInt8, Lib.compareBytes a b = - Lib.compareBytes b a
  | [], [] => by decide
  | [], _ :: _ => by simp [Lib.compareBytes]
  | _ :: _, [] => by simp [Lib.compareBytes]
  | x :: a, y :: b => by
    have := bytes_turn a b
    rw [Lib.compareBytes, Lib.compareBytes]
    by_cases h1 : x < y
    · have h2 : ¬ y < x := UInt8.lt_asymm h1
      rw [if_pos h1, if_neg h2, if_pos h1]
    · rw [if_neg h1]
      by_cases h2 : y < x
      · rw [if_pos h2, if_pos h2]; rfl
      · rw [if_neg h2, if_neg h2, if_neg h1]; exact this
theorem bytes_range : ∀ a b : List UInt8, Lib.compareBytes a b = -1 ∨ Lib.compareBytes a b = 0 ∨ Lib.compareBytes a b = 1
  | [], [] => .inr (.inl rfl)
  | [], _ :: _ => .inl rfl
  | _ :: _, [] => .inr (.inr rfl)
  | x :: a, y :: b => by
    rw [Lib.compareBytes]
    split
    · exact .inl rfl
    · split
      · exact .inr (.inr rfl)
      · exact bytes_range a b
theorem bytes_zero : ∀ a b : List UInt8, Lib.compareBytes a b = 0 → a = b
  | [], [] => fun _ => rfl
  | [], _ :: _ => fun h => by simp [Lib.compareBytes] at h
  | _ :: _, [] => fun h => by simp [Lib.compareBytes] at h
  | x :: a, y :: b => fun h => by
    rw [Lib.compareBytes] at h
    by_cases h1 : x < y
    · rw [if_pos h1] at h; cases h
    · by_cases h2 : y < x
      · rw [if_neg h1, if_pos h2] at h; cases h
      · rw [if_neg h1, if_neg h2] at h
        have e : x = y := UInt8.le_antisymm (by simpa using h2) (by simpa using h1)
        rw [e, bytes_zero a b h]
theorem bytes_through : ∀ a b c : List UInt8, Lib.compareBytes a b = -1 → Lib.compareBytes b c = -1 → Lib.compareBytes a c = -1
  | [], [], _ => fun h => by simp [Lib.compareBytes] at h
  | [], _ :: _, [] => fun _ h => by simp [Lib.compareBytes] at h
  | [], _ :: _, _ :: _ => fun _ _ => rfl
  | _ :: _, [], _ => fun h => by simp [Lib.compareBytes] at h
  | _ :: _, _ :: _, [] => fun _ h => by simp [Lib.compareBytes] at h
  | x :: a, y :: b, z :: c => fun h k => by
    rw [Lib.compareBytes] at h k ⊢
    by_cases h1 : x < y
    · by_cases h2 : y < z
      · rw [if_pos (UInt8.lt_trans h1 h2)]
      · by_cases h3 : z < y
        · rw [if_neg h2, if_pos h3] at k; cases k
        · have : y = z := UInt8.le_antisymm (by simpa using h3) (by simpa using h2)
          rw [if_pos (this ▸ h1)]
    · by_cases h2 : y < x
      · rw [if_neg h1, if_pos h2] at h; cases h
      · have : x = y := UInt8.le_antisymm (by simpa using h2) (by simpa using h1)
        subst this
        rw [if_neg h1, if_neg h2] at h
        by_cases h3 : x < z
        · rw [if_pos h3]
        · by_cases h4 : z < x
          · rw [if_neg h3, if_pos h4] at k; cases k
          · rw [if_neg h3, if_neg h4] at k ⊢
            exact bytes_through a b c h k

/-- Which of two texts stands first. -/
def cmpB (a b : ByteArray) : Int := Lib.compareBytes a.toList b.toList
theorem cmpB_turn (a b : ByteArray) : cmpB a b = - cmpB b a := bytes_turn _ _
theorem cmpB_range (a b : ByteArray) : cmpB a b = -1 ∨ cmpB a b = 0 ∨ cmpB a b = 1 := bytes_range _ _
theorem cmpB_zero {a b : ByteArray} : cmpB a b = 0 ↔ a = b := ⟨fun h => byte_inj (bytes_zero _ _ h), fun h => by subst h; exact bytes_self _⟩
theorem cmpB_through {a b c : ByteArray} (h : cmpB a b = -1) (k : cmpB b c = -1) : cmpB a c = -1 := bytes_through _ _ _ h k
/-- Which of two stocks, told by their names. -/
def cmpK (a b c d : ByteArray) : Int := if cmpB a c = 0 then cmpB b d else cmpB a c
theorem cmpK_turn (a b c d : ByteArray) : cmpK a b c d = - cmpK c d a b := by
  unfold cmpK
  have h := cmpB_turn a c
  have k := cmpB_turn b d
  by_cases e : cmpB a c = 0
  · rw [if_pos e, if_pos (by omega)]; exact k
  · rw [if_neg e, if_neg (by omega)]; exact h
theorem cmpK_range (a b c d : ByteArray) : cmpK a b c d = -1 ∨ cmpK a b c d = 0 ∨ cmpK a b c d = 1 := by
  unfold cmpK
  split
  · exact cmpB_range _ _
  · exact cmpB_range _ _
theorem cmpK_zero {a b c d : ByteArray} : cmpK a b c d = 0 ↔ a = c ∧ b = d := by
  unfold cmpK
  by_cases e : cmpB a c = 0
  · rw [if_pos e]
    exact ⟨fun h => ⟨cmpB_zero.1 e, cmpB_zero.1 h⟩, fun h => cmpB_zero.2 h.2⟩
  · rw [if_neg e]
    exact ⟨fun h => absurd h e, fun h => absurd (cmpB_zero.2 h.1) e⟩
theorem cmpK_through {a b c d e f : ByteArray} (h : cmpK a b c d = -1) (k : cmpK c d e f = -1) : cmpK a b e f = -1 := by
  unfold cmpK at *
  by_cases e1 : cmpB a c = 0
  · rw [if_pos e1] at h
    have := cmpB_zero.1 e1; subst this
    by_cases e2 : cmpB a e = 0
    · rw [if_pos e2] at k ⊢; exact cmpB_through h k
    · rw [if_neg e2] at k ⊢; exact k
  · rw [if_neg e1] at h
    by_cases e2 : cmpB c e = 0
    · have := cmpB_zero.1 e2; subst this
      rw [if_neg e1]; exact h
    · rw [if_neg e2] at k
      have := cmpB_through h k
      rw [if_neg (by omega)]; exact this

theorem isNaN_is (s : ByteArray) (w : World) : Calls Try.prog 99 #[.string s] w fun e w' => e = .returned (.bool false) ∧ w' = w := by
  go_enter Try.func99, Try.ntmps99
  go_wp2_with fail
  go_ret
  exact ⟨by simp, rfl⟩
theorem compare_is (a b : ByteArray) (w : World) : Calls Try.prog 80 #[.string a, .string b] w fun e w' => e = .returned (.int .i64 (cmpB a b)) ∧ w' = w := by
  have h1 : Op.bytesLess a.toList b.toList = decide (cmpB a b = -1) := bytesLess_is _ _
  have h2 : Op.bytesLess b.toList a.toList = decide (cmpB b a = -1) := bytesLess_is _ _
  have ht := cmpB_turn a b
  have HN : Hid _ := isNaN_is
  rcases cmpB_range a b with hr | hr | hr
  · have e1 : Op.bytesLess a.toList b.toList = true := by rw [h1, hr]; rfl
    have HR : Hid (cmpB a b = -1) := hr
    clear h1 h2 ht hr
    go_enter Try.func80, Try.ntmps80
    go_wp2_with (refine Calls.mono (HN.out _ _) ?_; rintro e w1 ⟨rfl, rfl⟩)
    go_ret
    exact ⟨by rw [HR.out]; rfl, rfl⟩
  · have e1 : Op.bytesLess a.toList b.toList = false := by rw [h1, hr]; rfl
    have e2 : (a.toList == b.toList) = true := by rw [cmpB_zero.1 hr]; simp
    have HR : Hid (cmpB a b = 0) := hr
    clear h1 h2 ht hr
    go_enter Try.func80, Try.ntmps80
    go_wp2_with (refine Calls.mono (HN.out _ _) ?_; rintro e w1 ⟨rfl, rfl⟩)
    go_ret
    exact ⟨by rw [HR.out]; rfl, rfl⟩
  · have e1 : Op.bytesLess a.toList b.toList = false := by rw [h1, hr]; rfl
    have e2' : ¬ a.toList = b.toList := fun e => by rw [cmpB_zero.2 (byte_inj e)] at hr; omega
    have e2 : (a.toList == b.toList) = false := by simpa using e2'
    have HE : Hid _ := e2'
    clear e2'
    have HR : Hid (cmpB a b = 1) := hr
    clear h1 h2 ht hr
    go_enter Try.func80, Try.ntmps80
    go_wp2_with (refine Calls.mono (HN.out _ _) ?_; rintro e w1 ⟨rfl, rfl⟩)
    go_ret
    exact ⟨by rw [HR.out]; rfl, rfl⟩
theorem or_is (x y : Int) (B : Nat) (w : World) (h0 : w.cell? ⟨B, 0, none⟩ = some (.int .i64 x)) (h1 : w.cell? ⟨B, 1, none⟩ = some (.int .i64 y)) : Calls Try.prog 79 #[.slice (some ⟨B, 0, none⟩) 2 2] w fun e w' => e = .returned (.int .i64 (if x = 0 then y else x)) ∧ w' = w := by
  by_cases hx : x = 0
  · subst hx
    by_cases hy : y = 0
    · subst hy
      go_enter Try.func79, Try.ntmps79
      go_wp2_with fail
      refine wp_loop_rounds 3 ?_
      rw [rounds_succ]
      go_wp2_with fail
      rw [rounds_succ]
      go_wp2_with fail
      rw [rounds_succ]
      go_wp2_with fail
      go_ret
      exact ⟨rfl, rfl⟩
    · have hy' : (y != 0) = true := by simpa using hy
      go_enter Try.func79, Try.ntmps79
      go_wp2_with fail
      refine wp_loop_rounds 2 ?_
      rw [rounds_succ]
      go_wp2_with fail
      rw [rounds_succ]
      go_wp2_with fail
      go_ret
      exact ⟨rfl, rfl⟩
  · have hx' : (x != 0) = true := by simpa using hx
    rw [if_neg hx]
    go_enter Try.func79, Try.ntmps79
    go_wp2_with fail
    refine wp_loop_rounds 1 ?_
    rw [rounds_succ]
    go_wp2_with fail
    go_ret
    exact ⟨rfl, rfl⟩
end Go.Proofs.Ytflbcheofmljeaa
