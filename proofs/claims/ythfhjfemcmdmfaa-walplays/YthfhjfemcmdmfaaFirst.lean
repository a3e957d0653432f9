/- wal: the record that bytes begin with. -/
import Derived.Test.YthfhjfemcmdmfaaFrame
namespace Go.Proofs.Ythfhjfemcmdmfaa
open Go.ChangeShapes Go.WideShapes Go.ChangeAt Go.RowKit
set_option linter.unusedVariables false
set_option maxRecDepth 100000

/-- Where the first record would end. -/
def endOf (s : ByteArray) : Nat := 10 + (s.data.toList.getD 4 0).toNat + (s.data.toList.getD 5 0).toNat * 256
/-- The record that bytes begin with, of a turn. -/
def recOf (t : Int) (s : ByteArray) : Option ByteArray :=
  if 10 ≤ s.size ∧ endOf s ≤ s.size ∧ ((1 ≤ t ∧ t ≤ 2147483647) ∧ ((s.extract 10 (endOf s)).size ≠ 0 ∧ (s.extract 10 (endOf s)).size ≤ 1024)) ∧ frameS t.toNat (s.extract 10 (endOf s)) = s.extract 0 (endOf s) then some (s.extract 10 (endOf s)) else none

theorem clone_is (s : ByteArray) (hs : s.size ≤ 281474976710656) (w : World) : Calls Try.prog 58 #[.string s] w fun e w' => e = .returned (.string s) ∧ Kept (fun _ => False) w w' := by
  have H := (show Hid _ from fun w => Try.stringslite_Clone s w hs)
  go_enter Try.func58, Try.ntmps58
  go_wp2_with fail
  refine Calls.mono (H.out _) ?_; rintro e w1 ⟨rfl, k1⟩
  have K1 := (show Hid _ from below_kept k1)
  clear k1
  go_wp2_with fail
  go_ret
  exact ⟨rfl, K1.out⟩

theorem beq_bytes (a b : ByteArray) : (a.toList == b.toList) = decide (a = b) := by
  by_cases h : a = b
  · subst h; simp
  · rw [decide_eq_false h]
    rw [beq_eq_false_iff_ne]
    intro e
    rw [ByteArray.toList_eq, ByteArray.toList_eq] at e
    exact h (ByteArray.ext (Array.toList_inj.1 e))

set_option maxHeartbeats 2000000 in
theorem first_is (t : Int) (s : ByteArray) (hs : s.size ≤ 1048576) (w : World) :
    Calls Try.prog 34 #[.int .i64 t, .string s] w fun e w' => (∃ r, e = .returned (.tuple #[.string r, .bool (recOf t s).isSome]) ∧ ((recOf t s).isSome = true → recOf t s = some r)) ∧ Kept (fun _ => False) w w' := by
  by_cases h10 : s.size < 10
  · have hn : recOf t s = none := by unfold recOf; rw [if_neg (fun h => by omega)]
    rw [hn]
    have h10i : (s.size : Int) < 10 := by omega
    go_enter Try.func34, Try.ntmps34
    go_wp2_with fail
    go_ret2
    exact ⟨⟨_, rfl, fun h => by cases h⟩, Kept.refl _ _⟩
  · have h10i : ¬ (s.size : Int) < 10 := by omega
    have h4 : (4 : Int) < (s.size : Int) := by omega
    have h5 : (5 : Int) < (s.size : Int) := by omega
    have e6 : IntKind.i64.wrap (IntKind.i64.wrap ((10 : Int) + IntKind.i64.wrap ((s[4]'(by omega)).toNat : Int)) + IntKind.i64.wrap (IntKind.i64.wrap ((s[5]'(by omega)).toNat : Int) * 256)) = (endOf s : Int) := by
      have a4 : s.data.toList.getD 4 0 = s[4]'(by omega) := by
        have hz : 4 < s.data.size := by have : s.data.size = s.size := rfl; omega
        rw [List.getD_eq_getElem?_getD, Array.getElem?_toList, Array.getElem?_eq_getElem hz]
        rfl
      have a5 : s.data.toList.getD 5 0 = s[5]'(by omega) := by
        have hz : 5 < s.data.size := by have : s.data.size = s.size := rfl; omega
        rw [List.getD_eq_getElem?_getD, Array.getElem?_toList, Array.getElem?_eq_getElem hz]
        rfl
      unfold endOf
      rw [a4, a5]
      have b4 := (s[4]'(by omega)).toNat_lt
      have b5 := (s[5]'(by omega)).toNat_lt
      simp only [IntKind.wrap_i64]
      omega
    have hE : 10 ≤ endOf s ∧ endOf s ≤ 65805 := by
      have b4 := (s.data.toList.getD 4 0).toNat_lt
      have b5 := (s.data.toList.getD 5 0).toNat_lt
      unfold endOf
      omega
    have HRec : Hid (recOf t s = if 10 ≤ s.size ∧ endOf s ≤ s.size ∧ ((1 ≤ t ∧ t ≤ 2147483647) ∧ ((s.extract 10 (endOf s)).size ≠ 0 ∧ (s.extract 10 (endOf s)).size ≤ 1024)) ∧ frameS t.toNat (s.extract 10 (endOf s)) = s.extract 0 (endOf s) then some (s.extract 10 (endOf s)) else none) := rfl
    have HCl := (show Hid _ from clone_is (s.extract 10 (endOf s)) (by simp; omega))
    generalize endOf s = E at *
    generalize recOf t s = rc at *
    go_enter Try.func34, Try.ntmps34
    go_wp2_with fail
    refine wp_region_still_lit (by kernel_rfl) (by kernel_rfl) ?_
    rw [show ({ w with drawn := w.drawn + 1 } : World) = w.drew from rfl]
    iterate 10 still_step
    refine wpStill_nil ?_
    clear e6
    have HD : Hid (Kept (fun _ => False) w w.drew) := (Kept.refl _ w).drew
    generalize w.drew = wd at *
    by_cases hEs : s.size < E
    · have hEi : (s.size : Int) < (E : Int) := by omega
      rw [if_neg (fun h => by omega)] at HRec
      go_wp2_with fail
      go_ret2
      rw [HRec.out]
      exact ⟨⟨_, rfl, fun h => by cases h⟩, HD.out⟩
    · have hEi : ¬ (s.size : Int) < (E : Int) := by omega
      have hEle : (E : Int) ≤ (s.size : Int) := by omega
      have h10E : (10 : Int) ≤ (E : Int) := by omega
      have hrs : (s.extract 10 E).size = E - 10 := by simp; omega
      go_wp2_with fail
      refine Calls.mono (HCl.out _) ?_; rintro e w1 ⟨rfl, k1⟩
      replace HD : Hid (Kept (fun _ => False) w w1) := HD.out.trans k1 (fun _ q => .inl q)
      clear k1 HCl
      by_cases hm : (1 ≤ t ∧ t ≤ 2147483647) ∧ ((s.extract 10 E).size ≠ 0 ∧ (s.extract 10 E).size ≤ 1024)
      · obtain ⟨m, rfl⟩ : ∃ m : Nat, t = (m : Int) := ⟨t.toNat, by omega⟩
        have HF := (show Hid _ from frame_is m (s.extract 10 E) (by omega) hm.2)
        rw [Int.toNat_natCast] at HRec
        generalize frameS m (s.extract 10 E) = fr at *
        go_wp2_with fail
        refine Calls.mono (HF.out _) ?_; rintro e w2 ⟨rfl, k2⟩
        replace HD : Hid (Kept (fun _ => False) w w2.drew) := (HD.out.trans k2 (fun _ q => .inl q)).drew
        clear k2 HF
        go_wp2_with fail
        refine wp_region_still_lit (by kernel_rfl) (by kernel_rfl) ?_
        rw [show ({ w2 with drawn := w2.drawn + 1 } : World) = w2.drew from rfl]
        iterate 12 still_step
        refine wpStill_nil ?_
        generalize w2.drew = wd at *
        go_wp2_with fail
        go_ret2
        refine ⟨⟨s.extract 10 E, ?_, fun h => ?_⟩, HD.out⟩
        · rw [beq_bytes]
          by_cases hf : fr = s.extract 0 E
          · rw [decide_eq_true hf, HRec.out, if_pos ⟨by omega, by omega, hm, hf⟩]
            rfl
          · rw [decide_eq_false hf, HRec.out, if_neg (fun h => hf h.2.2.2)]
            rfl
        · have hr := HRec.out
          by_cases hf : fr = s.extract 0 E
          · rw [if_pos ⟨by omega, by omega, hm, hf⟩] at hr
            exact hr
          · rw [if_neg (fun h => hf h.2.2.2)] at hr
            rw [hr] at h
            cases h
      · have HF := (show Hid _ from frame_no t (s.extract 10 E) (by omega) hm)
        rw [if_neg (fun h => hm h.2.2.1)] at HRec
        go_wp2_with fail
        refine Calls.mono (HF.out _) ?_; rintro e w2 ⟨rfl, rfl⟩
        replace HD : Hid (Kept (fun _ => False) w w2.drew) := HD.out.drew
        go_wp2_with fail
        refine wp_region_still_lit (by kernel_rfl) (by kernel_rfl) ?_
        rw [show ({ w2 with drawn := w2.drawn + 1 } : World) = w2.drew from rfl]
        iterate 12 still_step
        refine wpStill_nil ?_
        generalize w2.drew = wd at *
        go_wp2_with fail
        go_ret2
        rw [HRec.out]
        exact ⟨⟨_, rfl, fun h => by cases h⟩, HD.out⟩
end Go.Proofs.Ythfhjfemcmdmfaa
