/- Words, and tokens as text. -/
import Derived.Test.YtgokilochbnbaaaDoorTk
namespace Go.Proofs.YtgokilochbnbaaaDoor
open Go.ChangeShapes Go.WideShapes Go.ChangeAt Go.RowKit
set_option linter.unusedVariables false
set_option maxRecDepth 100000

/-- Whether a text is a name that is one token as it stands. -/
def wordB (l : List UInt8) : Bool := decide (l ≠ [] ∧ (firstV l).k = 1 ∧ (firstV l).t = l ∧ (firstV l).n = 0)
theorem word_no (w : World) : Calls Tryd.prog 16 #[.string ⟨#[]⟩] w fun e w' => e = .returned (.bool false) ∧ Below w.heap.size w w' := by
  go_enter Tryd.func16, Tryd.ntmps16
  go_wp2_with fail
  go_ret
  exact ⟨rfl, Below.refl _ _⟩
theorem word_first (s t : ByteArray) (k n z : Int) (h0 : s.toList.isEmpty = false) (h1 : ¬ s.toList = []) (b : Bool) (hb : b = decide (k = 1 ∧ t.toList = s.toList ∧ n = 0)) (H : Hid (∀ w, Glob w → Calls Tryd.prog 20 #[.string s] w fun e w' => e = .returned (.tuple #[tv k t n 0, .int .i64 z]) ∧ Below w.heap.size w w')) (w : World) (hg : Glob w) :
    Calls Tryd.prog 16 #[.string s] w fun e w' => e = .returned (.bool b) ∧ Below w.heap.size w w' := by
  have HG : Hid (Glob w) := hg
  have HB : Hid (b = decide (k = 1 ∧ t.toList = s.toList ∧ n = 0)) := hb
  clear hg hb
  go_enter Tryd.func16, Tryd.ntmps16
  go_wp2_with fail
  refine Calls.mono (H.out _ HG.out) ?_; rintro e w1 ⟨rfl, k1⟩
  have HK : Hid (Below w.heap.size w w1) := k1
  clear k1
  go_wp2_with fail
  all_goals go_ret
  all_goals refine ⟨ret_b ?_, HK.out.alloc HK.out.size _⟩
  all_goals rw [HB.out]
  all_goals clear HB HK HG H
  all_goals simp_all
theorem ba_nil {s : ByteArray} (h : s.data.toList = []) : s = ⟨#[]⟩ := ba_ext (by rw [h])
theorem word_is' (s : ByteArray) (hs : s.size ≤ 100000) (w : World) (hg : Glob w) : Calls Tryd.prog 16 #[.string s] w fun e w' => e = .returned (.bool (wordB s.data.toList)) ∧ Below w.heap.size w w' := by
  by_cases h : s.data.toList = []
  · have e : wordB s.data.toList = false := by unfold wordB; rw [h]; simp
    rw [e, ba_nil h]
    exact word_no w
  · have h1 : ¬ s.toList = [] := by rw [ByteArray.toList_eq]; exact h
    have h0 : s.toList.isEmpty = false := by simpa using h1
    have hp : 0 < s.size := by
      rw [← len_of]
      exact List.length_pos_iff.2 h
    have hf := fun w hg => first_is s hs hp w hg
    refine word_first s ⟨(firstV s.data.toList).t.toArray⟩ (firstV s.data.toList).k (firstV s.data.toList).n (firstV s.data.toList).z h0 h1 _ ?_ hf w hg
    unfold wordB
    rw [decide_eq_decide, toList_ba, ByteArray.toList_eq]
    exact ⟨fun q => q.2, fun q => ⟨h, q⟩⟩
theorem name_yes (s : ByteArray) (hs : s.size ≤ 100000) (H1 : Hid (∀ w, Glob w → Calls Tryd.prog 16 #[.string s] w fun e w' => e = .returned (.bool true) ∧ Below w.heap.size w w')) (w : World) (hg : Glob w) :
    Calls Tryd.prog 23 #[.string s] w fun e w' => e = .returned (.string s) ∧ Below w.heap.size w w' := by
  have HG : Hid (Glob w) := hg
  have H2 : Hid (∀ w, Calls Tryd.prog 24 #[.string s] w fun e w' => e = .returned (.string s) ∧ Below w.heap.size w w') := fun w => clone_is s w (by omega)
  clear hg
  go_enter Tryd.func23, Tryd.ntmps23
  go_wp2_with fail
  refine Calls.mono (H1.out _ HG.out) ?_; rintro e w1 ⟨rfl, k1⟩
  have HK : Hid (Below w.heap.size w w1) := k1
  clear k1
  go_wp2_with fail
  refine Calls.mono (H2.out _) ?_; rintro e w2 ⟨rfl, k2⟩
  have HK2 : Hid (Below w.heap.size w w2) := Below.next HK.out k2
  clear k2
  go_wp2_with fail
  go_ret
  exact ⟨rfl, HK2.out⟩
theorem dup_is (q : UInt8) (S : ByteArray) (hs : S.size ≤ 100000) (w : World) (hg : Glob w) :
    Calls Tryd.prog 51 #[.string S, .string ⟨#[q]⟩, .string ⟨#[q, q]⟩] w fun e w' => e = .returned (.string ⟨(dupL q S.data.toList).toArray⟩) ∧ Below w.heap.size w w' := by
  obtain ⟨m, hm⟩ := hg
  have e1 : (⟨#[q]⟩ : ByteArray).size = 1 := rfl
  have e2 : (⟨#[q, q]⟩ : ByteArray).size = 2 := rfl
  have hcn := Lib.countB_le ⟨#[q]⟩ (by rw [e1]; omega) S.size S (Nat.le_refl _)
  have H := Tryd.strings_ReplaceAll S ⟨#[q]⟩ ⟨#[q, q]⟩ m w (by omega) hm (by rw [e1]; omega) (by rw [e2]; omega)
  have e3 : Lib.replaceAll S.data.toList (⟨#[q]⟩ : ByteArray).data.toList (⟨#[q, q]⟩ : ByteArray).data.toList = dupL q S.data.toList := replace_dup q S.data.toList
  rw [e3] at H
  exact H
theorem quote_cat (q : UInt8) (R : List UInt8) : (⟨#[q]⟩ ++ ⟨R.toArray⟩ ++ ⟨#[q]⟩ : ByteArray) = ⟨(q :: (R ++ [q])).toArray⟩ := ba_ext (by simp [ByteArray.data_append])
theorem name_no (s : ByteArray) (R : List UInt8) (hR : R.length ≤ 200000) (H1 : Hid (∀ w, Glob w → Calls Tryd.prog 16 #[.string s] w fun e w' => e = .returned (.bool false) ∧ Below w.heap.size w w'))
    (H2 : Hid (∀ w, Glob w → Calls Tryd.prog 51 #[.string s, .string ⟨#[34]⟩, .string ⟨#[34, 34]⟩] w fun e w' => e = .returned (.string ⟨R.toArray⟩) ∧ Below w.heap.size w w')) (w : World) (hg : Glob w) :
    Calls Tryd.prog 23 #[.string s] w fun e w' => e = .returned (.string ⟨(34 :: (R ++ [34])).toArray⟩) ∧ Below w.heap.size w w' := by
  have HG : Hid (Glob w) := hg
  have HQ : Hid ((⟨#[34]⟩ ++ ⟨R.toArray⟩ ++ ⟨#[34]⟩ : ByteArray) = ⟨(34 :: (R ++ [34])).toArray⟩) := quote_cat 34 R
  have hsz : (⟨R.toArray⟩ : ByteArray).size = R.length := size_ba R
  clear hg
  go_enter Tryd.func23, Tryd.ntmps23
  go_wp2_with fail
  refine Calls.mono (H1.out _ HG.out) ?_; rintro e w1 ⟨rfl, k1⟩
  have HK : Hid (Below w.heap.size w w1) := k1
  have HG1 : Hid (Glob w1) := HG.out.next k1
  clear k1
  go_wp2_with fail
  refine Calls.mono (H2.out _ HG1.out) ?_; rintro e w2 ⟨rfl, k2⟩
  have HK2 : Hid (Below w.heap.size w w2) := Below.next HK.out k2
  clear k2
  go_wp2_with fail
  go_ret
  exact ⟨by rw [← HQ.out]; rfl, HK2.out⟩
theorem putName_is (s : ByteArray) (hs : s.size ≤ 1000) (w : World) (hg : Glob w) : Calls Tryd.prog 23 #[.string s] w fun e w' => e = .returned (.string ⟨(if wordB s.data.toList then s.data.toList else 34 :: (dupL 34 s.data.toList ++ [34])).toArray⟩) ∧ Below w.heap.size w w' := by
  have hw := fun w hg => word_is' s (by omega) w hg
  cases hb : wordB s.data.toList
  · rw [hb] at hw
    simp only [Bool.false_eq_true, if_false]
    have := (dupL_len 34 s.data.toList).2
    rw [len_of] at this
    exact name_no s _ (by omega) hw (fun w hg => dup_is 34 s (by omega) w hg) w hg
  · rw [hb] at hw
    simp only [if_true]
    rw [← ba_of s]
    exact name_yes s (by omega) hw w hg
/-- Texts as values: whether they may be, and as they are written. -/
theorem may_yes (s : ByteArray) (hs : (s.size : Int) ≤ 64) (w : World) : Calls Tryd.prog 54 #[vv 2 0 s] w fun e w' => e = .returned (.bool true) ∧ Below w.heap.size w w' := by
  go_enter Tryd.func54, Tryd.ntmps54
  go_wp2
  go_ret
  exact ⟨rfl, below1 _ _⟩
theorem may_no (s : ByteArray) (hs : ¬ (s.size : Int) ≤ 64) (w : World) : Calls Tryd.prog 54 #[vv 2 0 s] w fun e w' => e = .returned (.bool false) ∧ Below w.heap.size w w' := by
  go_enter Tryd.func54, Tryd.ntmps54
  go_wp2
  go_ret
  exact ⟨rfl, below1 _ _⟩
theorem may_null (w : World) : Calls Tryd.prog 54 #[vv 0 0 ⟨#[]⟩] w fun e w' => e = .returned (.bool true) ∧ Below w.heap.size w w' := by
  go_enter Tryd.func54, Tryd.ntmps54
  go_wp2
  go_ret
  exact ⟨rfl, below1 _ _⟩
theorem show_null (w : World) : Calls Tryd.prog 26 #[vv 0 0 ⟨#[]⟩] w fun e w' => e = .returned (.string ⟨#[110, 117, 108, 108]⟩) ∧ Below w.heap.size w w' := by
  have HM : Hid (∀ w, Calls Tryd.prog 54 #[vv 0 0 ⟨#[]⟩] w fun e w' => e = .returned (.bool true) ∧ Below w.heap.size w w') := fun w => may_null w
  go_enter Tryd.func26, Tryd.ntmps26
  go_wp2_with fail
  refine Calls.mono (HM.out _) ?_; rintro e w1 ⟨rfl, k1⟩
  obtain ⟨d0, d1, d2⟩ := (At.new w 0 0 ⟨#[]⟩).next k1
  have HK : Hid (Below w.heap.size w w1) := Below.next (below1 _ _) k1
  clear k1
  go_wp2_with fail
  go_ret
  exact ⟨rfl, HK.out⟩
theorem show_not (s : ByteArray) (hs : ¬ (s.size : Int) ≤ 64) (w : World) : Calls Tryd.prog 26 #[vv 2 0 s] w fun e w' => e = .returned (.string ⟨#[110, 117, 108, 108]⟩) ∧ Below w.heap.size w w' := by
  have HM : Hid (∀ w, Calls Tryd.prog 54 #[vv 2 0 s] w fun e w' => e = .returned (.bool false) ∧ Below w.heap.size w w') := fun w => may_no s hs w
  have HS : Hid (∀ w, Calls Tryd.prog 26 #[vv 0 0 ⟨#[]⟩] w fun e w' => e = .returned (.string ⟨#[110, 117, 108, 108]⟩) ∧ Below w.heap.size w w') := fun w => show_null w
  go_enter Tryd.func26, Tryd.ntmps26
  go_wp2_with fail
  refine Calls.mono (HM.out _) ?_; rintro e w1 ⟨rfl, k1⟩
  have HK : Hid (Below w.heap.size w w1) := Below.next (below1 _ _) k1
  clear k1
  go_wp2_with fail
  refine Calls.mono (HS.out _) ?_; rintro e w2 ⟨rfl, k2⟩
  have HK2 : Hid (Below w.heap.size w w2) := Below.next HK.out k2
  clear k2
  go_wp2_with fail
  go_ret
  exact ⟨rfl, HK2.out⟩
theorem show_text (s : ByteArray) (hs : (s.size : Int) ≤ 64) (w : World) (hg : Glob w) : Calls Tryd.prog 26 #[vv 2 0 s] w fun e w' => e = .returned (.string ⟨(39 :: (dupL 39 s.data.toList ++ [39])).toArray⟩) ∧ Below w.heap.size w w' := by
  have HM : Hid (∀ w, Calls Tryd.prog 54 #[vv 2 0 s] w fun e w' => e = .returned (.bool true) ∧ Below w.heap.size w w') := fun w => may_yes s hs w
  have HG : Hid (Glob w) := hg
  have HD : Hid (∀ w, Glob w → Calls Tryd.prog 51 #[.string s, .string ⟨#[39]⟩, .string ⟨#[39, 39]⟩] w fun e w' => e = .returned (.string ⟨(dupL 39 s.data.toList).toArray⟩) ∧ Below w.heap.size w w') := fun w hg => dup_is 39 s (by omega) w hg
  have hlen := (dupL_len 39 s.data.toList).2
  rw [len_of] at hlen
  obtain ⟨R, hR⟩ : ∃ R, dupL 39 s.data.toList = R := ⟨_, rfl⟩
  rw [hR] at HD hlen ⊢
  have HQ : Hid ((⟨#[39]⟩ ++ ⟨R.toArray⟩ ++ ⟨#[39]⟩ : ByteArray) = ⟨(39 :: (R ++ [39])).toArray⟩) := quote_cat 39 R
  have hsz : (⟨R.toArray⟩ : ByteArray).size = R.length := size_ba R
  have hR2 : R.length ≤ 200 := by omega
  clear hg hR hlen hs
  go_enter Tryd.func26, Tryd.ntmps26
  go_wp2_with fail
  refine Calls.mono (HM.out _) ?_; rintro e w1 ⟨rfl, k1⟩
  obtain ⟨d0, d1, d2⟩ := (At.new w 2 0 s).next k1
  have HK : Hid (Below w.heap.size w w1) := Below.next (below1 _ _) k1
  have HG1 : Hid (Glob w1) := HG.out.next HK.out
  clear k1
  go_wp2_with fail
  refine Calls.mono (HD.out _ HG1.out) ?_; rintro e w2 ⟨rfl, k2⟩
  have HK2 : Hid (Below w.heap.size w w2) := Below.next HK.out k2
  clear k2
  go_wp2_with fail
  go_ret
  exact ⟨by rw [← HQ.out]; rfl, HK2.out⟩
/-- A token as text. -/
def putV (k : Int) (t : List UInt8) (n : Int) : List UInt8 :=
  if k = 1 then (if wordB t then t else 34 :: (dupL 34 t ++ [34])) else if k = 2 then t else if k = 5 then t else if k = 3 then Num.txt n
  else if k = 4 then (if t.length ≤ 64 then 39 :: (dupL 39 t ++ [39]) else [110, 117, 108, 108]) else []
def IsPut (k : Int) (s : ByteArray) (n a : Int) (R : ByteArray) (w : World) : Prop := Calls Tryd.prog 12 #[tv k s n a] w fun e w' => e = .returned (.string R) ∧ Below w.heap.size w w'
theorem put_name (s R : ByteArray) (k n a : Int) (hk : k = 1) (H : Hid (∀ w, Glob w → Calls Tryd.prog 23 #[.string s] w fun e w' => e = .returned (.string R) ∧ Below w.heap.size w w')) (w : World) (hg : Glob w) : IsPut k s n a R w := by
  have HG : Hid (Glob (w.alloc (.cells #[.int .i64 k, .string s, .int .i64 n, .int .i64 a] 29))) := hg.next (below1 _ _)
  clear hg
  unfold IsPut
  subst hk
  go_enter Tryd.func12, Tryd.ntmps12
  go_wp2_with fail
  refine Calls.mono (H.out _ HG.out) ?_; rintro e w1 ⟨rfl, k1⟩
  have HK : Hid (Below w.heap.size w w1) := Below.next (below1 _ _) k1
  clear k1
  go_wp2_with fail
  go_ret
  exact ⟨rfl, HK.out⟩
theorem put_key (s R : ByteArray) (k n a : Int) (hk : k = 2) (H : Hid (∀ w, Glob w → Calls Tryd.prog 24 #[.string s] w fun e w' => e = .returned (.string R) ∧ Below w.heap.size w w')) (w : World) (hg : Glob w) : IsPut k s n a R w := by
  have HG : Hid (Glob (w.alloc (.cells #[.int .i64 k, .string s, .int .i64 n, .int .i64 a] 29))) := hg.next (below1 _ _)
  clear hg
  unfold IsPut
  subst hk
  go_enter Tryd.func12, Tryd.ntmps12
  go_wp2_with fail
  refine Calls.mono (H.out _ HG.out) ?_; rintro e w1 ⟨rfl, k1⟩
  have HK : Hid (Below w.heap.size w w1) := Below.next (below1 _ _) k1
  clear k1
  go_wp2_with fail
  go_ret
  exact ⟨rfl, HK.out⟩
theorem put_sign (s R : ByteArray) (k n a : Int) (hk : k = 5) (H : Hid (∀ w, Glob w → Calls Tryd.prog 24 #[.string s] w fun e w' => e = .returned (.string R) ∧ Below w.heap.size w w')) (w : World) (hg : Glob w) : IsPut k s n a R w := by
  have HG : Hid (Glob (w.alloc (.cells #[.int .i64 k, .string s, .int .i64 n, .int .i64 a] 29))) := hg.next (below1 _ _)
  clear hg
  unfold IsPut
  subst hk
  go_enter Tryd.func12, Tryd.ntmps12
  go_wp2_with fail
  refine Calls.mono (H.out _ HG.out) ?_; rintro e w1 ⟨rfl, k1⟩
  have HK : Hid (Below w.heap.size w w1) := Below.next (below1 _ _) k1
  clear k1
  go_wp2_with fail
  go_ret
  exact ⟨rfl, HK.out⟩
theorem put_int (s R : ByteArray) (k n a : Int) (hk : k = 3) (H : Hid (∀ w, Glob w → Calls Tryd.prog 25 #[.int .i64 n] w fun e w' => e = .returned (.string R) ∧ Below w.heap.size w w')) (w : World) (hg : Glob w) : IsPut k s n a R w := by
  have HG : Hid (Glob (w.alloc (.cells #[.int .i64 k, .string s, .int .i64 n, .int .i64 a] 29))) := hg.next (below1 _ _)
  clear hg
  unfold IsPut
  subst hk
  go_enter Tryd.func12, Tryd.ntmps12
  go_wp2_with fail
  refine Calls.mono (H.out _ HG.out) ?_; rintro e w1 ⟨rfl, k1⟩
  have HK : Hid (Below w.heap.size w w1) := Below.next (below1 _ _) k1
  clear k1
  go_wp2_with fail
  go_ret
  exact ⟨rfl, HK.out⟩
theorem put_text (s R : ByteArray) (k n a : Int) (hk : k = 4) (H : Hid (∀ w, Glob w → Calls Tryd.prog 26 #[vv 2 0 s] w fun e w' => e = .returned (.string R) ∧ Below w.heap.size w w')) (w : World) (hg : Glob w) : IsPut k s n a R w := by
  have HG : Hid (Glob (w.alloc (.cells #[.int .i64 k, .string s, .int .i64 n, .int .i64 a] 29))) := hg.next (below1 _ _)
  clear hg
  unfold IsPut
  subst hk
  go_enter Tryd.func12, Tryd.ntmps12
  go_wp2_with fail
  refine Calls.mono (H.out _ HG.out) ?_; rintro e w1 ⟨rfl, k1⟩
  have HK : Hid (Below w.heap.size w w1) := Below.next (below1 _ _) k1
  clear k1
  go_wp2_with fail
  go_ret
  exact ⟨rfl, HK.out⟩
theorem put_none (s : ByteArray) (k n a : Int) (h1 : (k == 1) = false) (h2 : (k == 2) = false) (h3 : (k == 3) = false) (h4 : (k == 4) = false) (h5 : (k == 5) = false) (w : World) : IsPut k s n a ⟨#[]⟩ w := by
  unfold IsPut
  go_enter Tryd.func12, Tryd.ntmps12
  go_wp2_with fail
  go_ret
  exact ⟨rfl, below1 _ _⟩
theorem put_is (s : ByteArray) (hs : s.size ≤ 1000) (k n a : Int) (hn : -9223372036854775808 ≤ n ∧ n ≤ 9223372036854775807) (w : World) (hg : Glob w) : IsPut k s n a ⟨(putV k s.data.toList n).toArray⟩ w := by
  unfold putV
  by_cases h1 : k = 1
  · rw [if_pos h1]
    exact put_name s _ k n a h1 (fun w hg => putName_is s hs w hg) w hg
  · rw [if_neg h1]
    have hc : ∀ w, Glob w → Calls Tryd.prog 24 #[.string s] w fun e w' => e = .returned (.string s) ∧ Below w.heap.size w w' := fun w _ => clone_is s w (by omega)
    by_cases h2 : k = 2
    · rw [if_pos h2, ← ba_of s]
      exact put_key s _ k n a h2 hc w hg
    · rw [if_neg h2]
      by_cases h5 : k = 5
      · rw [if_pos h5, ← ba_of s]
        exact put_sign s _ k n a h5 hc w hg
      · rw [if_neg h5]
        by_cases h3 : k = 3
        · rw [if_pos h3]
          exact put_int s _ k n a h3 (fun w _ => Num.text_any n hn w) w hg
        · rw [if_neg h3]
          by_cases h4 : k = 4
          · rw [if_pos h4]
            rw [len_of]
            by_cases hl : s.size ≤ 64
            · rw [if_pos hl]
              exact put_text s _ k n a h4 (fun w hg => show_text s (by omega) w hg) w hg
            · rw [if_neg hl]
              exact put_text s _ k n a h4 (fun w _ => show_not s (by omega) w) w hg
          · rw [if_neg h4]
            exact put_none s k n a (by simpa using h1) (by simpa using h2) (by simpa using h3) (by simpa using h4) (by simpa using h5) w
end Go.Proofs.YtgokilochbnbaaaDoor
