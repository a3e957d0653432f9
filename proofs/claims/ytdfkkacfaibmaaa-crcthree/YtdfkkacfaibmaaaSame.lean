/- Contracts of crc.Same and the document's Same. -/
import Derived.Test.YtdfkkacfaibmaaaRef
namespace Go.Proofs.Ytdfkkacfaibmaaa
open Go.ChangeShapes Go.WideShapes Go.ChangeAt Go.RowKit
set_option linter.unusedVariables false

/-- A collision. -/
def sameL (l m : List UInt8) : Bool := decide (l ≠ m ∧ l.length = m.length ∧ sumOf l = sumOf m)

theorem same_is (a b : ByteArray) (ha : a.size ≤ 140737488351232) (hb : b.size ≤ 140737488351232) (w : World) :
    Calls Try.prog 18 #[.string a, .string b] w fun e w' => e = .returned (.bool (sameL a.data.toList b.data.toList)) ∧ w' = w := by
  have H1 := (show Hid _ from fun w => sum_is a ha w)
  have H2 := (show Hid _ from fun w => sum_is b hb w)
  have ea := len_of a
  have eb := len_of b
  have ta : a.toList = a.data.toList := ByteArray.toList_eq a
  have tb : b.toList = b.data.toList := ByteArray.toList_eq b
  by_cases c : a.data.toList = b.data.toList
  · have g : (a.toList == b.toList) = true := by rw [ta, tb, c]; simp
    have HE : Hid (sameL a.data.toList b.data.toList = false) := decide_eq_false (fun h => h.1 c)
    rw [HE.out]
    clear HE c ta tb
    go_enter Try.func18, Try.ntmps18
    go_wp2_with fail
    go_ret
    exact ⟨rfl, rfl⟩
  · have g : (a.toList == b.toList) = false := by rw [ta, tb]; simpa using c
    by_cases d : a.size = b.size
    · have HE : Hid (sameL a.data.toList b.data.toList = ((sumOf a.data.toList : Int) == (sumOf b.data.toList : Int))) := by
        show _ = _
        unfold sameL
        rw [Bool.eq_iff_iff, decide_eq_true_iff, beq_iff_eq]
        exact ⟨fun h => by omega, fun h => ⟨c, by omega, by omega⟩⟩
      rw [HE.out]
      clear HE c ta tb
      have ed : ((a.size : Int) == (b.size : Int)) = true := by rw [d]; simp
      generalize sumOf a.data.toList = A at *
      generalize sumOf b.data.toList = B at *
      go_enter Try.func18, Try.ntmps18
      go_wp2_with fail
      refine (H1.out _).mono ?_; rintro e w1 ⟨rfl, rfl⟩
      go_wp2_with fail
      refine (H2.out _).mono ?_; rintro e w1 ⟨rfl, rfl⟩
      go_wp2_with fail
      go_ret
      exact ⟨rfl, rfl⟩
    · have HE : Hid (sameL a.data.toList b.data.toList = false) := decide_eq_false (fun h => by omega)
      rw [HE.out]
      have ed : ((a.size : Int) == (b.size : Int)) = false := by simp; omega
      clear HE c ta tb
      go_enter Try.func18, Try.ntmps18
      go_wp2_with fail
      go_ret
      exact ⟨rfl, rfl⟩

theorem refSame_is (a b : ByteArray) (ha : a.size ≤ 140737488351232) (hb : b.size ≤ 140737488351232) (w : World) :
    Calls Try.prog 19 #[.string a, .string b] w fun e w' => e = .returned (.bool (sameL a.data.toList b.data.toList)) ∧ w' = w := by
  have H1 := (show Hid _ from fun w => refSum_is a ha w)
  have H2 := (show Hid _ from fun w => refSum_is b hb w)
  have ea := len_of a
  have eb := len_of b
  have ta : a.toList = a.data.toList := ByteArray.toList_eq a
  have tb : b.toList = b.data.toList := ByteArray.toList_eq b
  by_cases c : a.data.toList = b.data.toList
  · have g : (a.toList == b.toList) = true := by rw [ta, tb, c]; simp
    have HE : Hid (sameL a.data.toList b.data.toList = false) := decide_eq_false (fun h => h.1 c)
    rw [HE.out]
    clear HE c ta tb
    go_enter Try.func19, Try.ntmps19
    go_wp2_with fail
    go_ret
    exact ⟨rfl, rfl⟩
  · have g : (a.toList == b.toList) = false := by rw [ta, tb]; simpa using c
    by_cases d : a.size = b.size
    · have HE : Hid (sameL a.data.toList b.data.toList = ((sumOf a.data.toList : Int) == (sumOf b.data.toList : Int))) := by
        show _ = _
        unfold sameL
        rw [Bool.eq_iff_iff, decide_eq_true_iff, beq_iff_eq]
        exact ⟨fun h => by omega, fun h => ⟨c, by omega, by omega⟩⟩
      rw [HE.out]
      clear HE c ta tb
      have ed : ((a.size : Int) == (b.size : Int)) = true := by rw [d]; simp
      generalize sumOf a.data.toList = A at *
      generalize sumOf b.data.toList = B at *
      go_enter Try.func19, Try.ntmps19
      go_wp2_with fail
      refine (H1.out _).mono ?_; rintro e w1 ⟨rfl, rfl⟩
      go_wp2_with fail
      refine (H2.out _).mono ?_; rintro e w1 ⟨rfl, rfl⟩
      go_wp2_with fail
      go_ret
      exact ⟨rfl, rfl⟩
    · have HE : Hid (sameL a.data.toList b.data.toList = false) := decide_eq_false (fun h => by omega)
      rw [HE.out]
      have ed : ((a.size : Int) == (b.size : Int)) = false := by simp; omega
      clear HE c ta tb
      go_enter Try.func19, Try.ntmps19
      go_wp2_with fail
      go_ret
      exact ⟨rfl, rfl⟩
end Go.Proofs.Ytdfkkacfaibmaaa
