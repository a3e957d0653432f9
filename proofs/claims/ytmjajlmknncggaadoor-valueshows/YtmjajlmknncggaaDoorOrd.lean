/- value: which values may be, and their order. -/
import Derived.Test.YtmjajlmknncggaaDoorBase
namespace Go.Proofs.YtmjajlmknncggaaDoor
open Go.RowKit
set_option linter.unusedVariables false
set_option maxRecDepth 100000

/-- Which of two values stands first. -/
def cmpV (k n : Int) (s : ByteArray) (k' n' : Int) (s' : ByteArray) : Int :=
  if k ≠ k' then Lib.compareInt k k' else if n ≠ n' then Lib.compareInt n n' else Lib.compareBytes s.data.toList s'.data.toList
theorem bytes_self (l : List UInt8) : Lib.compareBytes l l = 0 := by
  induction l with
  | nil => rfl
  | cons x r ih => rw [Lib.compareBytes, if_neg (UInt8.lt_irrefl x), if_neg (UInt8.lt_irrefl x), ih]
theorem cmpV_self (k n : Int) (s : ByteArray) : cmpV k n s k n s = 0 := by
  unfold cmpV
  rw [if_neg (fun h => h rfl), if_neg (fun h => h rfl), bytes_self]

theorem compare_is (k n k' n' : Int) (s s' : ByteArray) (w : World) : Calls Tryd.prog 8 #[vv k n s, vv k' n' s'] w fun e w' => e = .returned (.int .i64 (cmpV k n s k' n' s')) ∧ Below w.heap.size w w' := by
  have H1 := (show Hid _ from Tryd.cmp_Compare_int)
  have H2 := (show Hid _ from Tryd.strings_Compare)
  go_enter Tryd.func8, Tryd.ntmps8
  go_wp2_with (first | (refine Calls.mono (H1.out _ _ _) ?_; rintro e w1 ⟨rfl, rfl⟩) | (refine Calls.mono (H2.out _ _ _) ?_; rintro e w1 ⟨rfl, rfl⟩))
  all_goals go_ret
  all_goals refine ⟨congrArg (fun x => Ending.returned (Value.int IntKind.i64 x)) ?_, below2 _ _ _⟩
  · rename_i h1 h2 h3
    subst h1
    subst h2
    have e : s = s' := byte_inj h3
    rw [e]
    exact (cmpV_self _ _ _).symm
  all_goals (unfold cmpV; simp [*])

/-- Does a value stand ahead of another one? -/
def lessV (k n : Int) (s : ByteArray) (k' n' : Int) (s' : ByteArray) : Bool :=
  if k ≠ k' then decide (k < k') else if n ≠ n' then decide (n < n') else Op.bytesLess s.toList s'.toList
theorem less_is (k n k' n' : Int) (s s' : ByteArray) (w : World) : Calls Tryd.prog 27 #[vv k n s, vv k' n' s'] w fun e w' => e = .returned (.bool (lessV k n s k' n' s')) ∧ Below w.heap.size w w' := by
  go_enter Tryd.func27, Tryd.ntmps27
  go_wp2_with fail
  all_goals go_ret
  all_goals refine ⟨congrArg (fun x => Ending.returned (Value.bool x)) ?_, below2 _ _ _⟩
  all_goals (unfold lessV; simp_all)
theorem bytesLess_is : ∀ a b : List UInt8, Op.bytesLess a b = decide (Lib.compareBytes a b = -1)
  | [], [] => by decide
  | [], _ :: _ => by simp [Op.bytesLess, Lib.compareBytes]
  | _ :: _, [] => by simp [Op.bytesLess, Lib.compareBytes]
  | x :: a, y :: b => by
    have := bytesLess_is a b
    rw [Op.bytesLess, Lib.compareBytes, this]
    by_cases h1 : x < y
    · simp [h1]
    · by_cases h2 : y < x
      · have : ¬ x = y := fun e => by subst e; exact UInt8.lt_irrefl _ h2
        simp [h1, h2, this]
      · have : x = y := UInt8.le_antisymm (by simpa using h2) (by simpa using h1)
        simp [this]
theorem bytes_turn : ∀ a b : List UInt8, Lib.compareBytes a b = - Lib.compareBytes b a
  | [], [] => by decide
  | [], _ :: _ => by simp [Lib.compareBytes]
  | _ :: _, [] => by simp [Lib.compareBytes]
  | x :: a, y :: b => by
    have := bytes_turn a b
    rw [Lib.compareBytes, Lib.compareBytes]
    by_cases h1 : x < y
    · have h2 : ¬ y < x := UInt8.lt_asymm h1
      rw [if_pos h1, if_neg h2, if_pos h1]
    · rw [if_neg h1]
      by_cases h2 : y < x
      · rw [if_pos h2, if_pos h2]; rfl
      · rw [if_neg h2, if_neg h2, if_neg h1]; exact this
theorem bytes_range : ∀ a b : List UInt8, Lib.compareBytes a b = -1 ∨ Lib.compareBytes a b = 0 ∨ Lib.compareBytes a b = 1
  | [], [] => .inr (.inl rfl)
  | [], _ :: _ => .inl rfl
  | _ :: _, [] => .inr (.inr rfl)
  | x :: a, y :: b => by
    rw [Lib.compareBytes]
    split
    · exact .inl rfl
    · split
      · exact .inr (.inr rfl)
      · exact bytes_range a b
theorem bytes_zero : ∀ a b : List UInt8, Lib.compareBytes a b = 0 → a = b
  | [], [] => fun _ => rfl
  | [], _ :: _ => fun h => by simp [Lib.compareBytes] at h
  | _ :: _, [] => fun h => by simp [Lib.compareBytes] at h
  | x :: a, y :: b => fun h => by
    rw [Lib.compareBytes] at h
    by_cases h1 : x < y
    · rw [if_pos h1] at h; cases h
    · by_cases h2 : y < x
      · rw [if_neg h1, if_pos h2] at h; cases h
      · rw [if_neg h1, if_neg h2] at h
        have e : x = y := UInt8.le_antisymm (by simpa using h2) (by simpa using h1)
        rw [e, bytes_zero a b h]
theorem bytes_through : ∀ a b c : List UInt8, Lib.compareBytes a b = -1 → Lib.compareBytes b c = -1 → Lib.compareBytes a c = -1
  | [], [], _ => fun h => by simp [Lib.compareBytes] at h
  | [], _ :: _, [] => fun _ h => by simp [Lib.compareBytes] at h
  | [], _ :: _, _ :: _ => fun _ _ => rfl
  | _ :: _, [], _ => fun h => by simp [Lib.compareBytes] at h
  | _ :: _, _ :: _, [] => fun _ h => by simp [Lib.compareBytes] at h
  | x :: a, y :: b, z :: c => fun h k => by
    rw [Lib.compareBytes] at h k ⊢
    by_cases h1 : x < y
    · by_cases h2 : y < z
      · rw [if_pos (UInt8.lt_trans h1 h2)]
      · by_cases h3 : z < y
        · rw [if_neg h2, if_pos h3] at k; cases k
        · have : y = z := UInt8.le_antisymm (by simpa using h3) (by simpa using h2)
          rw [if_pos (this ▸ h1)]
    · by_cases h2 : y < x
      · rw [if_neg h1, if_pos h2] at h; cases h
      · have : x = y := UInt8.le_antisymm (by simpa using h2) (by simpa using h1)
        subst this
        rw [if_neg h1, if_neg h2] at h
        by_cases h3 : x < z
        · rw [if_pos h3]
        · by_cases h4 : z < x
          · rw [if_neg h3, if_pos h4] at k; cases k
          · rw [if_neg h3, if_neg h4] at k ⊢
            exact bytes_through a b c h k
theorem lessV_is (k n : Int) (s : ByteArray) (k' n' : Int) (s' : ByteArray) : lessV k n s k' n' s' = decide (cmpV k n s k' n' s' = -1) := by
  unfold lessV cmpV Lib.compareInt
  rw [bytesLess_is]
  by_cases h1 : k = k'
  · by_cases h2 : n = n'
    · simp [h1, h2, ByteArray.toList_eq]
    · simp only [h1, h2, ne_eq, not_true, not_false_eq_true, if_true, if_false]
      split <;> simp [*]
      split <;> simp
  · simp only [h1, ne_eq, not_false_eq_true, if_true]
    split <;> simp [*]
    split <;> simp
theorem cmpV_turn (k n : Int) (s : ByteArray) (k' n' : Int) (s' : ByteArray) : cmpV k n s k' n' s' = - cmpV k' n' s' k n s := by
  unfold cmpV Lib.compareInt
  rw [bytes_turn s.data.toList]
  by_cases h1 : k = k'
  · by_cases h2 : n = n'
    · simp [h1, h2]
    · simp only [h1, h2, Ne.symm h2, ne_eq, not_true, not_false_eq_true, if_true, if_false]
      split <;> split <;> (try split) <;> (try split) <;> first | rfl | omega
  · simp only [h1, Ne.symm h1, ne_eq, not_false_eq_true, if_true]
    split <;> split <;> (try split) <;> (try split) <;> first | rfl | omega
theorem cmpV_range (k n : Int) (s : ByteArray) (k' n' : Int) (s' : ByteArray) : cmpV k n s k' n' s' = -1 ∨ cmpV k n s k' n' s' = 0 ∨ cmpV k n s k' n' s' = 1 := by
  unfold cmpV Lib.compareInt
  split
  · split
    · exact .inl rfl
    · split
      · exact .inr (.inr rfl)
      · exact .inr (.inl rfl)
  · split
    · split
      · exact .inl rfl
      · split
        · exact .inr (.inr rfl)
        · exact .inr (.inl rfl)
    · exact bytes_range _ _
theorem cmpV_zero (k n : Int) (s : ByteArray) (k' n' : Int) (s' : ByteArray) : cmpV k n s k' n' s' = 0 ↔ k = k' ∧ n = n' ∧ s = s' := by
  constructor
  · intro h
    unfold cmpV Lib.compareInt at h
    by_cases h1 : k = k'
    · by_cases h2 : n = n'
      · rw [if_neg (fun q => q h1), if_neg (fun q => q h2)] at h
        exact ⟨h1, h2, ByteArray.ext (Array.toList_inj.1 (bytes_zero _ _ h))⟩
      · rw [if_neg (fun q => q h1), if_pos h2] at h
        split at h
        · cases h
        · split at h
          · cases h
          · omega
    · rw [if_pos h1] at h
      split at h
      · cases h
      · split at h
        · cases h
        · omega
  · rintro ⟨rfl, rfl, rfl⟩
    exact cmpV_self _ _ _
theorem cmpV_through (k n : Int) (s : ByteArray) (k' n' : Int) (s' : ByteArray) (k2 n2 : Int) (s2 : ByteArray) (h : cmpV k n s k' n' s' = -1) (h' : cmpV k' n' s' k2 n2 s2 = -1) : cmpV k n s k2 n2 s2 = -1 := by
  unfold cmpV Lib.compareInt at *
  by_cases a1 : k = k'
  · by_cases b1 : k' = k2
    · rw [if_neg (fun q => q a1)] at h
      rw [if_neg (fun q => q b1)] at h'
      rw [if_neg (fun q => q (a1.trans b1))]
      by_cases a2 : n = n'
      · by_cases b2 : n' = n2
        · rw [if_neg (fun q => q a2)] at h
          rw [if_neg (fun q => q b2)] at h'
          rw [if_neg (fun q => q (a2.trans b2))]
          exact bytes_through _ _ _ h h'
        · rw [if_pos b2] at h'
          split at h'
          · rw [if_pos (by omega), if_pos (by omega)]
          · split at h' <;> cases h'
      · rw [if_pos a2] at h
        split at h
        · by_cases b2 : n' = n2
          · rw [if_pos (by omega), if_pos (by omega)]
          · rw [if_pos b2] at h'
            split at h'
            · rw [if_pos (by omega), if_pos (by omega)]
            · split at h' <;> cases h'
        · split at h <;> cases h
    · rw [if_pos b1] at h'
      split at h'
      · rw [if_pos (by omega), if_pos (by omega)]
      · split at h' <;> cases h'
  · rw [if_pos a1] at h
    split at h
    · by_cases b1 : k' = k2
      · rw [if_pos (by omega), if_pos (by omega)]
      · rw [if_pos b1] at h'
        split at h'
        · rw [if_pos (by omega), if_pos (by omega)]
        · split at h' <;> cases h'
    · split at h <;> cases h

theorem refCompare_is (k n k' n' : Int) (s s' : ByteArray) (w : World) : Calls Tryd.prog 9 #[vv k n s, vv k' n' s'] w fun e w' => e = .returned (.int .i64 (cmpV k n s k' n' s')) ∧ Below w.heap.size w w' := by
  have H1 := (show Hid _ from less_is k n k' n' s s')
  have H2 := (show Hid _ from less_is k' n' k n s' s)
  have e1 := lessV_is k n s k' n' s'
  have e2 := lessV_is k' n' s' k n s
  rw [cmpV_turn k' n' s' k n s] at e2
  have e3 := cmpV_range k n s k' n' s'
  generalize cmpV k n s k' n' s' = c at *
  rw [e1] at H1
  rw [e2] at H2
  clear e1 e2
  have HA := (show Hid _ from At.two w k n k' n' s s')
  by_cases c1 : c = -1
  · subst c1
    go_enter Tryd.func9, Tryd.ntmps9
    go_wp2_with fail
    refine Calls.mono (H1.out _) ?_; rintro e w1 ⟨rfl, k1⟩
    go_wp2_with fail
    go_ret
    exact ⟨rfl, Below.next (below2 _ _ _) k1⟩
  · by_cases c2 : c = 1
    · subst c2
      go_enter Tryd.func9, Tryd.ntmps9
      go_wp2_with fail
      refine Calls.mono (H1.out _) ?_; rintro e w1 ⟨rfl, k1⟩
      obtain ⟨a0, a1, a2⟩ := HA.out.1.next k1
      obtain ⟨b0, b1, b2⟩ := HA.out.2.next k1
      have HB : Hid (Below w.heap.size w w1) := Below.next (below2 _ _ _) k1
      clear k1
      go_wp2_with fail
      refine Calls.mono (H2.out _) ?_; rintro e w2 ⟨rfl, k2⟩
      go_wp2_with fail
      go_ret
      exact ⟨rfl, Below.next HB.out k2⟩
    · obtain rfl : c = 0 := (e3.resolve_left c1).resolve_right c2
      go_enter Tryd.func9, Tryd.ntmps9
      go_wp2_with fail
      refine Calls.mono (H1.out _) ?_; rintro e w1 ⟨rfl, k1⟩
      obtain ⟨a0, a1, a2⟩ := HA.out.1.next k1
      obtain ⟨b0, b1, b2⟩ := HA.out.2.next k1
      have HB : Hid (Below w.heap.size w w1) := Below.next (below2 _ _ _) k1
      clear k1
      go_wp2_with fail
      refine Calls.mono (H2.out _) ?_; rintro e w2 ⟨rfl, k2⟩
      go_wp2_with fail
      go_ret
      exact ⟨rfl, Below.next HB.out k2⟩

end Go.Proofs.YtmjajlmknncggaaDoor
