/- value: values as they are written, and their numbers. -/
import Derived.Test.YtmjajlmknncggaaDoorSame
import Derived.Test.YtmjajlmknncggaaDoorRPut
import Derived.Test.YtmjajlmknncggaaDoorNRef
import Derived.Test.YtmjajlmknncggaaDoorCSum
import Derived.Lib.SplitLaws
namespace Go.Proofs.YtmjajlmknncggaaDoor
open Go.ChangeShapes Go.WideShapes Go.RowKit
set_option linter.unusedVariables false
set_option maxRecDepth 100000

/-- A text with its quotes doubled. -/
def dupQ (l : List UInt8) : List UInt8 := l.flatMap (fun c => if c = 39 then [39, 39] else [c])
theorem dupQ_snoc (l : List UInt8) (c : UInt8) : dupQ (l ++ [c]) = dupQ l ++ (if c = 39 then [39, 39] else [c]) := by simp [dupQ]
theorem dupQ_len (l : List UInt8) : (dupQ l).length ≤ 2 * l.length := by
  induction l with
  | nil => simp [dupQ]
  | cons c r ih =>
    have e : dupQ (c :: r) = (if c = 39 then [39, 39] else [c]) ++ dupQ r := by simp [dupQ]
    rw [e, List.length_append, List.length_cons]
    split <;> simp <;> omega
theorem replace_dup : ∀ l : List UInt8, Lib.replaceK [39] [39, 39] (Lib.count l [39]) l = dupQ l
  | [] => by
    have : Lib.count [] [39] = 0 := by decide
    rw [this]
    rfl
  | b :: l => by
    have ih := replace_dup l
    by_cases h : b = 39
    · subst h
      have hi : Lib.index (39 :: l) [39] = ((0 : Nat) : Int) := by rw [Lib.index, if_pos (by simp [List.isPrefixOf])]; rfl
      rw [Lib.count_cons_eq, Nat.add_comm, Lib.replaceK_hit _ _ _ _ 0 hi]
      show [] ++ [39, 39] ++ Lib.replaceK [39] [39, 39] (Lib.count l [39]) l = _
      rw [ih]
      rfl
    · rw [Lib.count_cons_ne b 39 l h]
      have hd : dupQ (b :: l) = b :: dupQ l := by simp [dupQ, h]
      rw [hd, ← ih]
      cases hc : Lib.count l [39] with
      | zero => rfl
      | succ k =>
        obtain ⟨i, hi⟩ := Lib.index_of_count (s := l) (old := [39]) (by omega)
        have hi2 : Lib.index (b :: l) [39] = ((i + 1 : Nat) : Int) := by
          have hp : ([39] : List UInt8).isPrefixOf (b :: l) = false := by simp [List.isPrefixOf]; exact fun q => h q.symm
          rw [Lib.index, if_neg (by rw [hp]; exact fun q => by cases q), hi, if_neg (fun q => by have := beq_iff_eq.1 q; omega)]
          omega
        rw [Lib.replaceK_hit _ _ _ _ _ hi2, Lib.replaceK_hit _ _ _ _ _ hi]
        rfl
theorem replace_all (l : List UInt8) : Lib.replaceAll l [39] [39, 39] = dupQ l := by
  unfold Lib.replaceAll Lib.replace
  rw [if_neg (by decide)]
  have e : Lib.replaceNum l [39] (-1) = Lib.count l [39] := by unfold Lib.replaceNum; rw [if_pos (.inl (by omega))]
  rw [e, replace_dup]
/-- A value as it is written. -/
def showL (k n : Int) (s : ByteArray) : List UInt8 :=
  if ¬ mayV k n s then [110, 117, 108, 108] else if k = 1 then Num.txt n else if k = 2 then 39 :: (dupQ s.data.toList ++ [39]) else if k = 3 then (if n = 1 then [116, 114, 117, 101] else [102, 97, 108, 115, 101]) else [110, 117, 108, 108]
/-- A value's number. -/
def hashN (k n : Int) (s : ByteArray) : Int := if mayV k n s then (Crc.sumOf (valB k n s) : Int) else 0

theorem truth_show (n : Int) (hn : n = 0 ∨ n = 1) (w : World) : Calls Tryd.prog 40 #[vv 3 n ⟨#[]⟩] w fun e w' => e = .returned (.string ⟨(if n = 1 then [116, 114, 117, 101] else [102, 97, 108, 115, 101] : List UInt8).toArray⟩) ∧ Below w.heap.size w w' := by
  have H : Hid _ := fun w => truth_is 0 w
  rcases hn with rfl | rfl
  all_goals go_enter Tryd.func40, Tryd.ntmps40
  all_goals go_wp2_with fail
  all_goals go_region_with (refine Calls.mono (H.out _) ?_; rintro e w1 ⟨rfl, rfl⟩)
  all_goals go_wp2_with fail
  all_goals go_ret
  all_goals exact ⟨rfl, (below2 _ _ _).drew⟩
theorem show_null (w : World) : Calls Tryd.prog 21 #[vv 0 0 ⟨#[]⟩] w fun e w' => e = .returned (.string ⟨#[110, 117, 108, 108]⟩) ∧ Below w.heap.size w w' := by
  have HM : Hid (∀ w, Calls Tryd.prog 28 #[vv 0 0 ⟨#[]⟩] w fun e w' => e = .returned (.bool true) ∧ Below w.heap.size w w') := by
    have := may_is 0 0 ⟨#[]⟩ (by decide)
    simp only [decide_eq_true (show mayV 0 0 ⟨#[]⟩ from .inl ⟨rfl, rfl, rfl⟩)] at this
    exact this
  go_enter Tryd.func21, Tryd.ntmps21
  go_wp2_with fail
  refine Calls.mono (HM.out _) ?_; rintro e w1 ⟨rfl, k1⟩
  obtain ⟨d0, d1, d2⟩ := (At.new w 0 0 ⟨#[]⟩).next k1
  have HK : Hid (Below w.heap.size w w1) := Below.next (below1 _ _) k1
  clear k1
  go_wp2_with fail
  go_ret
  exact ⟨rfl, HK.out⟩
theorem show_not (k n : Int) (s : ByteArray) (hs : s.size ≤ 200) (hm : ¬ mayV k n s) (w : World) : Calls Tryd.prog 21 #[vv k n s] w fun e w' => e = .returned (.string ⟨#[110, 117, 108, 108]⟩) ∧ Below w.heap.size w w' := by
  have HM : Hid (∀ w, Calls Tryd.prog 28 #[vv k n s] w fun e w' => e = .returned (.bool false) ∧ Below w.heap.size w w') := by
    have := may_is k n s (by omega)
    simp only [decide_eq_false hm] at this
    exact this
  have HS : Hid _ := fun w => show_null w
  go_enter Tryd.func21, Tryd.ntmps21
  go_wp2_with fail
  refine Calls.mono (HM.out _) ?_; rintro e w1 ⟨rfl, k1⟩
  have HK : Hid (Below w.heap.size w w1) := Below.next (below1 _ _) k1
  clear k1
  go_wp2_with fail
  refine Calls.mono (HS.out _) ?_; rintro e w2 ⟨rfl, k2⟩
  have HK2 : Hid (Below w.heap.size w w2) := Below.next HK.out k2
  clear k2
  go_wp2_with fail
  go_ret
  exact ⟨rfl, HK2.out⟩
theorem show_int (n : Int) (hn : -9223372036854775808 ≤ n ∧ n ≤ 9223372036854775807) (w : World) : Calls Tryd.prog 21 #[vv 1 n ⟨#[]⟩] w fun e w' => e = .returned (.string ⟨(Num.txt n).toArray⟩) ∧ Below w.heap.size w w' := by
  have HM : Hid (∀ w, Calls Tryd.prog 28 #[vv 1 n ⟨#[]⟩] w fun e w' => e = .returned (.bool true) ∧ Below w.heap.size w w') := by
    have := may_is 1 n ⟨#[]⟩ (by decide)
    simp only [decide_eq_true (show mayV 1 n ⟨#[]⟩ from .inr (.inl ⟨rfl, rfl⟩))] at this
    exact this
  have HT : Hid _ := fun w => Num.text_any n hn w
  go_enter Tryd.func21, Tryd.ntmps21
  go_wp2_with fail
  refine Calls.mono (HM.out _) ?_; rintro e w1 ⟨rfl, k1⟩
  obtain ⟨d0, d1, d2⟩ := (At.new w 1 n ⟨#[]⟩).next k1
  have HK : Hid (Below w.heap.size w w1) := Below.next (below1 _ _) k1
  clear k1
  go_wp2_with fail
  refine Calls.mono (HT.out _) ?_; rintro e w2 ⟨rfl, k2⟩
  have HK2 : Hid (Below w.heap.size w w2) := Below.next HK.out k2
  clear k2
  go_wp2_with fail
  go_ret
  exact ⟨rfl, HK2.out⟩
theorem show_bool (n : Int) (hn : n = 0 ∨ n = 1) (w : World) : Calls Tryd.prog 21 #[vv 3 n ⟨#[]⟩] w fun e w' => e = .returned (.string ⟨(if n = 1 then [116, 114, 117, 101] else [102, 97, 108, 115, 101] : List UInt8).toArray⟩) ∧ Below w.heap.size w w' := by
  have HM : Hid (∀ w, Calls Tryd.prog 28 #[vv 3 n ⟨#[]⟩] w fun e w' => e = .returned (.bool true) ∧ Below w.heap.size w w') := by
    have := may_is 3 n ⟨#[]⟩ (by decide)
    simp only [decide_eq_true (show mayV 3 n ⟨#[]⟩ from .inr (.inr (.inr ⟨rfl, hn, rfl⟩)))] at this
    exact this
  have HT : Hid _ := fun w => truth_show n hn w
  generalize (if n = 1 then [116, 114, 117, 101] else [102, 97, 108, 115, 101] : List UInt8) = R at *
  go_enter Tryd.func21, Tryd.ntmps21
  go_wp2_with fail
  refine Calls.mono (HM.out _) ?_; rintro e w1 ⟨rfl, k1⟩
  obtain ⟨d0, d1, d2⟩ := (At.new w 3 n ⟨#[]⟩).next k1
  have HK : Hid (Below w.heap.size w w1) := Below.next (below1 _ _) k1
  clear k1
  go_wp2_with fail
  refine Calls.mono (HT.out _) ?_; rintro e w2 ⟨rfl, k2⟩
  have HK2 : Hid (Below w.heap.size w w2) := Below.next HK.out k2
  clear k2
  go_wp2_with fail
  go_ret
  exact ⟨rfl, HK2.out⟩
theorem show_is (k n : Int) (s : ByteArray) (hs : s.size ≤ 200) (hn : -9223372036854775808 ≤ n ∧ n ≤ 9223372036854775807) (w : World) (hg : Glob w) : Calls Tryd.prog 21 #[vv k n s] w fun e w' => e = .returned (.string ⟨(showL k n s).toArray⟩) ∧ Below w.heap.size w w' := by
  unfold showL
  by_cases hm : mayV k n s
  · rw [if_neg (fun q => q hm)]
    rcases hm with ⟨rfl, rfl, h0⟩ | ⟨rfl, h0⟩ | ⟨rfl, rfl, h0⟩ | ⟨rfl, h01, h0⟩
    · rw [empty_of h0, if_neg (by omega), if_neg (by omega), if_neg (by omega)]
      exact show_null w
    · rw [empty_of h0, if_pos rfl]
      exact show_int n hn w
    · rw [if_neg (by omega), if_pos rfl, ← replace_all]
      exact show_text s h0 w hg
    · rw [empty_of h0, if_neg (by omega), if_neg (by omega), if_pos rfl]
      exact show_bool n h01 w
  · rw [if_pos hm]
    exact show_not k n s hs hm w
theorem refShow_not (k n : Int) (s : ByteArray) (hs : s.size ≤ 200) (hm : ¬ mayV k n s) (w : World) : Calls Tryd.prog 22 #[vv k n s] w fun e w' => e = .returned (.string ⟨#[110, 117, 108, 108]⟩) ∧ Below w.heap.size w w' := by
  have HM : Hid (∀ w, Calls Tryd.prog 29 #[vv k n s] w fun e w' => e = .returned (.bool false) ∧ Below w.heap.size w w') := by
    have := refMay_is k n s (by omega)
    simp only [decide_eq_false hm] at this
    exact this
  go_enter Tryd.func22, Tryd.ntmps22
  go_wp2_with fail
  refine Calls.mono (HM.out _) ?_; rintro e w1 ⟨rfl, k1⟩
  have HK : Hid (Below w.heap.size w w1) := Below.next (below1 _ _) k1
  clear k1
  go_wp2_with fail
  go_ret
  exact ⟨rfl, HK.out⟩
theorem refShow_null (w : World) : Calls Tryd.prog 22 #[vv 0 0 ⟨#[]⟩] w fun e w' => e = .returned (.string ⟨#[110, 117, 108, 108]⟩) ∧ Below w.heap.size w w' := by
  have HM : Hid (∀ w, Calls Tryd.prog 29 #[vv 0 0 ⟨#[]⟩] w fun e w' => e = .returned (.bool true) ∧ Below w.heap.size w w') := by
    have := refMay_is 0 0 ⟨#[]⟩ (by decide)
    simp only [decide_eq_true (show mayV 0 0 ⟨#[]⟩ from .inl ⟨rfl, rfl, rfl⟩)] at this
    exact this
  go_enter Tryd.func22, Tryd.ntmps22
  go_wp2_with fail
  refine Calls.mono (HM.out _) ?_; rintro e w1 ⟨rfl, k1⟩
  obtain ⟨d0, d1, d2⟩ := (At.new w 0 0 ⟨#[]⟩).next k1
  have HK : Hid (Below w.heap.size w w1) := Below.next (below1 _ _) k1
  clear k1
  go_wp2_with fail
  go_ret
  exact ⟨rfl, HK.out⟩
theorem refShow_int (n : Int) (hn : -9223372036854775808 ≤ n ∧ n ≤ 9223372036854775807) (w : World) : Calls Tryd.prog 22 #[vv 1 n ⟨#[]⟩] w fun e w' => e = .returned (.string ⟨(Num.txt n).toArray⟩) ∧ Below w.heap.size w w' := by
  have HM : Hid (∀ w, Calls Tryd.prog 29 #[vv 1 n ⟨#[]⟩] w fun e w' => e = .returned (.bool true) ∧ Below w.heap.size w w') := by
    have := refMay_is 1 n ⟨#[]⟩ (by decide)
    simp only [decide_eq_true (show mayV 1 n ⟨#[]⟩ from .inr (.inl ⟨rfl, rfl⟩))] at this
    exact this
  have HT : Hid _ := fun w => Num.refText_any n hn w
  go_enter Tryd.func22, Tryd.ntmps22
  go_wp2_with fail
  refine Calls.mono (HM.out _) ?_; rintro e w1 ⟨rfl, k1⟩
  obtain ⟨d0, d1, d2⟩ := (At.new w 1 n ⟨#[]⟩).next k1
  have HK : Hid (Below w.heap.size w w1) := Below.next (below1 _ _) k1
  clear k1
  go_wp2_with fail
  refine Calls.mono (HT.out _) ?_; rintro e w2 ⟨rfl, k2⟩
  have HK2 : Hid (Below w.heap.size w w2) := Below.next HK.out k2
  clear k2
  go_wp2_with fail
  go_ret
  exact ⟨rfl, HK2.out⟩
theorem refShow_bool (n : Int) (hn : n = 0 ∨ n = 1) (w : World) : Calls Tryd.prog 22 #[vv 3 n ⟨#[]⟩] w fun e w' => e = .returned (.string ⟨(if n = 1 then [116, 114, 117, 101] else [102, 97, 108, 115, 101] : List UInt8).toArray⟩) ∧ Below w.heap.size w w' := by
  have HM : Hid (∀ w, Calls Tryd.prog 29 #[vv 3 n ⟨#[]⟩] w fun e w' => e = .returned (.bool true) ∧ Below w.heap.size w w') := by
    have := refMay_is 3 n ⟨#[]⟩ (by decide)
    simp only [decide_eq_true (show mayV 3 n ⟨#[]⟩ from .inr (.inr (.inr ⟨rfl, hn, rfl⟩)))] at this
    exact this
  rcases hn with rfl | rfl
  · go_enter Tryd.func22, Tryd.ntmps22
    go_wp2_with fail
    refine Calls.mono (HM.out _) ?_; rintro e w1 ⟨rfl, k1⟩
    obtain ⟨d0, d1, d2⟩ := (At.new w 3 0 ⟨#[]⟩).next k1
    have HK : Hid (Below w.heap.size w w1) := Below.next (below1 _ _) k1
    clear k1
    go_wp2_with fail
    go_ret
    exact ⟨rfl, HK.out⟩
  · go_enter Tryd.func22, Tryd.ntmps22
    go_wp2_with fail
    refine Calls.mono (HM.out _) ?_; rintro e w1 ⟨rfl, k1⟩
    obtain ⟨d0, d1, d2⟩ := (At.new w 3 1 ⟨#[]⟩).next k1
    have HK : Hid (Below w.heap.size w w1) := Below.next (below1 _ _) k1
    clear k1
    go_wp2_with fail
    go_ret
    exact ⟨rfl, HK.out⟩
theorem take_byte (s : ByteArray) (k : Nat) (h : k < s.size) : s.data.toList.take (k + 1) = s.data.toList.take k ++ [s[k]] := by
  rw [List.take_succ_eq_append_getElem (by rw [len_size]; exact h)]
  rfl
set_option maxHeartbeats 2000000 in
theorem refShow_text (s : ByteArray) (hs : s.size ≤ 64) (w : World) : Calls Tryd.prog 22 #[vv 2 0 s] w fun e w' => e = .returned (.string ⟨(39 :: (dupQ s.data.toList ++ [39])).toArray⟩) ∧ Below w.heap.size w w' := by
  have HM : Hid (∀ w, Calls Tryd.prog 29 #[vv 2 0 s] w fun e w' => e = .returned (.bool true) ∧ Below w.heap.size w w') := by
    have := refMay_is 2 0 s (by omega)
    simp only [decide_eq_true (show mayV 2 0 s from .inr (.inr (.inl ⟨rfl, rfl, hs⟩)))] at this
    exact this
  have HALL : Hid (s.data.toList.take s.size = s.data.toList) := List.take_of_length_le (by rw [len_size]; exact Nat.le_refl _)
  go_enter Tryd.func22, Tryd.ntmps22
  go_wp2_with fail
  refine Calls.mono (HM.out _) ?_; rintro e w1 ⟨rfl, k1⟩
  have HAt : Hid (At w1 w.heap.size 0 2 0 s) := (At.new w 2 0 s).next k1
  obtain ⟨d0, d1, d2⟩ := HAt.out
  have HK : Hid (Below w.heap.size w w1) := Below.next (below1 _ _) k1
  have z1 : w.heap.size < w1.heap.size := HAt.out.lt
  have HO : Hid (Own (w1.alloc (.cells #[.int .u8 39] 5)) w1.heap.size (.slice (some ⟨w1.heap.size, 0, none⟩) 1 1) [39]) := own_new w1 39 rfl
  have HA1 : Hid (At (w1.alloc (.cells #[.int .u8 39] 5)) w.heap.size 0 2 0 s) := HAt.out.next (below1 _ _)
  clear k1
  go_wp2_with fail
  go_loopw [3, 4] (fun out i wr => ∃ k : Nat, k ≤ s.size ∧ i = .int .i64 k ∧ Hid (Own wr w1.heap.size out (39 :: dupQ (s.data.toList.take k)) ∧ At wr w.heap.size 0 2 0 s ∧ Below w.heap.size w wr ∧ w1.heap.size ≤ wr.heap.size))
    (fun _ i _ => s.size - (intOf i).toNat)
  case atStart => exact ⟨0, Nat.zero_le _, rfl, HO.out, HA1.out, HK.out.alloc HK.out.size _, by simp⟩
  case round =>
    obtain ⟨k, hk, rfl, HI⟩ := hrel
    obtain ⟨a0, a1, a2⟩ := HI.out.2.1
    have hln : (39 :: dupQ (s.data.toList.take k)).length ≤ 200 := by
      have := dupQ_len (s.data.toList.take k)
      rw [List.length_take, len_size] at this
      rw [List.length_cons]
      omega
    have HLn : Hid _ := hln
    clear hln
    by_cases hlt : k < s.size
    · have hlti : (k : Int) < (s.size : Int) := by omega
      have HT : Hid _ := take_byte s k hlt
      obtain ⟨c, hc⟩ : ∃ c, s[k] = c := ⟨_, rfl⟩
      rw [hc] at HT
      by_cases hq : c = 39
      · have hqn : s[k].toNat = 39 := by rw [hc, hq]; rfl
        obtain ⟨v2, w2, ra, o2, b2, f2, _, n2⟩ := own_byte HI.out.1 39 (by have := HLn.out; omega) HI.out.2.2.2 (y := 39) rfl
        have z2 := b2.size
        obtain ⟨v3, w3, rb, o3, b3, f3, _, _⟩ := own_byte o2 39 (by rw [List.length_append]; have := HLn.out; simp at *; omega) (Nat.le_trans HI.out.2.2.2 z2) (y := 39) rfl
        have RA : Hid _ := ra
        have RB : Hid _ := rb
        have A2 := HI.out.2.1.below b2 (by omega)
        obtain ⟨e0, e1, e2⟩ := A2
        have HE : Hid (Own w3 w1.heap.size v3 (39 :: dupQ (s.data.toList.take (k + 1))) ∧ At w3 w.heap.size 0 2 0 s ∧ Below w.heap.size w w3 ∧ w1.heap.size ≤ w3.heap.size) := by
          refine ⟨?_, (HI.out.2.1.below b2 (by omega)).below b3 (by omega), (HI.out.2.2.1.trans (b2.mono (by omega))).trans (b3.mono (by omega)), Nat.le_trans HI.out.2.2.2 (Nat.le_trans z2 b3.size)⟩
          rw [HT.out, dupQ_snoc, if_pos hq]
          have : (39 :: (dupQ (s.data.toList.take k) ++ [39, 39]) : List UInt8) = (39 :: dupQ (s.data.toList.take k) ++ [39]) ++ [39] := by simp
          rw [this]
          exact o3
        clear ra rb o2 o3 b2 b3 f2 f3 n2 hc HT
        go_wp2_with (first | ((with_reducible apply st_append (x := .tmp 30)); (case ho => rfl); (case hgd => rfl); (case hr => exact RA.out)) | ((with_reducible apply st_append (x := .tmp 33)); (case ho => rfl); (case hgd => rfl); (case hr => exact RB.out)))
        go_roundw
        case rel => exact ⟨k + 1, by omega, by go_num, HE.out⟩
        case measure => simp [intOf]; omega
      · have hqn : ¬ s[k].toNat = 39 := fun e => hq (by rw [← hc]; exact UInt8.toNat_inj.1 e)
        have hqb : ((s[k].toNat : Int) == 39) = false := by simp; omega
        have hqi : ¬ (s[k].toNat : Int) = 39 := by omega
        obtain ⟨v2, w2, ra, o2, b2, f2, _, n2⟩ := own_byte HI.out.1 c (by have := HLn.out; omega) HI.out.2.2.2 (y := (s[k].toNat : Int)) (by rw [hc])
        have RA : Hid _ := ra
        have HE : Hid (Own w2 w1.heap.size v2 (39 :: dupQ (s.data.toList.take (k + 1))) ∧ At w2 w.heap.size 0 2 0 s ∧ Below w.heap.size w w2 ∧ w1.heap.size ≤ w2.heap.size) := by
          refine ⟨?_, HI.out.2.1.below b2 (by omega), HI.out.2.2.1.trans (b2.mono (by omega)), Nat.le_trans HI.out.2.2.2 b2.size⟩
          rw [HT.out, dupQ_snoc, if_neg hq]
          exact o2
        clear ra o2 b2 f2 n2 hc HT
        go_wp2_with (first | ((with_reducible apply st_append (x := .tmp 33)); (case ho => rfl); (case hgd => rfl); (case hr => exact RA.out)))
        go_roundw
        case rel => exact ⟨k + 1, by omega, by go_num, HE.out⟩
        case measure => simp [intOf]; omega
    · have hlti : ¬ (k : Int) < (s.size : Int) := by omega
      obtain rfl : k = s.size := by omega
      obtain ⟨v2, w2, ra, o2, b2, f2, _, n2⟩ := own_byte HI.out.1 39 (by have := HLn.out; omega) HI.out.2.2.2 (y := 39) rfl
      rw [HALL.out] at o2
      have RA : Hid _ := ra
      obtain ⟨g, m, cc, rfl, hcv⟩ := own_str o2 (by simp)
      have HB : Hid (Below w.heap.size w w2) := HI.out.2.2.1.trans (b2.mono (by omega))
      clear ra o2 b2 f2 n2
      go_wp2_with (first | ((with_reducible apply st_append (x := .tmp 40)); (case ho => rfl); (case hgd => rfl); (case hr => exact RA.out)))
      go_ret
      exact ⟨rfl, HB.out⟩
theorem refShow_is (k n : Int) (s : ByteArray) (hs : s.size ≤ 200) (hn : -9223372036854775808 ≤ n ∧ n ≤ 9223372036854775807) (w : World) : Calls Tryd.prog 22 #[vv k n s] w fun e w' => e = .returned (.string ⟨(showL k n s).toArray⟩) ∧ Below w.heap.size w w' := by
  unfold showL
  by_cases hm : mayV k n s
  · rw [if_neg (fun q => q hm)]
    rcases hm with ⟨rfl, rfl, h0⟩ | ⟨rfl, h0⟩ | ⟨rfl, rfl, h0⟩ | ⟨rfl, h01, h0⟩
    · rw [empty_of h0, if_neg (by omega), if_neg (by omega), if_neg (by omega)]
      exact refShow_null w
    · rw [empty_of h0, if_pos rfl]
      exact refShow_int n hn w
    · rw [if_neg (by omega), if_pos rfl]
      exact refShow_text s h0 w
    · rw [empty_of h0, if_neg (by omega), if_neg (by omega), if_pos rfl]
      exact refShow_bool n h01 w
  · rw [if_pos hm]
    exact refShow_not k n s hs hm w
theorem hash_is (k n : Int) (s : ByteArray) (hs : s.size ≤ 200) (w : World) : Calls Tryd.prog 23 #[vv k n s] w fun e w' => e = .returned (.int .i64 (hashN k n s)) ∧ Below w.heap.size w w' := by
  have HM0 := may_is k n s (by omega)
  by_cases hm : mayV k n s
  · simp only [decide_eq_true hm] at HM0
    have HM : Hid _ := HM0
    have HH : Hid (hashN k n s = (Crc.sumOf (valB k n s) : Int)) := if_pos hm
    have hvl : (valB k n s).length ≤ 66 := bytes_len ⟨k, n, s⟩ hm
    have HC : Hid (∀ w, Calls Tryd.prog 42 #[.string ⟨(valB k n s).toArray⟩] w fun e w' => e = .returned (.int .i64 (Crc.sumOf (valB k n s) : Int)) ∧ w' = w) := fun w => by
      have := Crc.sum_is ⟨(valB k n s).toArray⟩ (by show (valB k n s).toArray.size ≤ _; simp; omega) w
      exact this
    clear HM0
    go_enter Tryd.func23, Tryd.ntmps23
    go_wp2_with fail
    refine Calls.mono (HM.out _) ?_; rintro e w1 ⟨rfl, k1⟩
    have HK : Hid (Below w.heap.size w w1) := Below.next (below1 _ _) k1
    obtain ⟨d0, d1, d2⟩ := (At.new w k n s).next k1
    have HA : Hid _ := appendValue_is (w := w1) (v := .slice none 0 0) (l := []) (B := w1.heap.size) (World.ownsRow_nil _ _ _ _) k n s (by omega) (by simp) (Nat.le_refl _)
    clear k1 hvl
    go_wp2_with fail
    refine Calls.mono HA.out ?_; rintro e w2 ⟨v2, rfl, o2, k2⟩
    rw [List.nil_append] at o2
    have HK2 : Hid (Below w.heap.size w w2) := Below.next HK.out k2
    obtain ⟨g, m, cc, rfl, hcv⟩ := own_str o2 (by simp [valB])
    obtain ⟨L, hL⟩ : ∃ L, valB k n s = L := ⟨_, rfl⟩
    rw [hL] at hcv HC HH
    clear k2 o2 hL HA
    go_wp2_with fail
    refine Calls.mono (HC.out _) ?_; rintro e w3 ⟨rfl, rfl⟩
    go_wp2_with fail
    go_ret
    exact ⟨by rw [HH.out]; rfl, HK2.out⟩
  · simp only [decide_eq_false hm] at HM0
    have HM : Hid _ := HM0
    have HH : Hid (hashN k n s = 0) := if_neg hm
    clear HM0
    go_enter Tryd.func23, Tryd.ntmps23
    go_wp2_with fail
    refine Calls.mono (HM.out _) ?_; rintro e w1 ⟨rfl, k1⟩
    have HK : Hid (Below w.heap.size w w1) := Below.next (below1 _ _) k1
    clear k1
    go_wp2_with fail
    go_ret
    exact ⟨by rw [HH.out]; rfl, HK.out⟩
theorem refHash_is (k n : Int) (s : ByteArray) (hs : s.size ≤ 200) (hn : -9223372036854775808 ≤ n ∧ n ≤ 9223372036854775807) (w : World) : Calls Tryd.prog 24 #[vv k n s] w fun e w' => e = .returned (.int .i64 (hashN k n s)) ∧ Below w.heap.size w w' := by
  have HM0 := refMay_is k n s (by omega)
  by_cases hm : mayV k n s
  · simp only [decide_eq_true hm] at HM0
    have HM : Hid _ := HM0
    have HH : Hid (hashN k n s = (Crc.sumOf (valB k n s) : Int)) := if_pos hm
    have hvl : (valB k n s).length ≤ 66 := bytes_len ⟨k, n, s⟩ hm
    have HC : Hid (∀ w, Calls Tryd.prog 43 #[.string ⟨(valB k n s).toArray⟩] w fun e w' => e = .returned (.int .i64 (Crc.sumOf (valB k n s) : Int)) ∧ w' = w) := fun w => by
      have := Crc.refSum_is ⟨(valB k n s).toArray⟩ (by show (valB k n s).toArray.size ≤ _; simp; omega) w
      exact this
    have HBy : Hid _ := fun w => refBytes_is k n s hn hm w
    obtain ⟨L, hL⟩ : ∃ L, valB k n s = L := ⟨_, rfl⟩
    rw [hL] at HBy HC HH
    clear HM0 hL hvl
    go_enter Tryd.func24, Tryd.ntmps24
    go_wp2_with fail
    refine Calls.mono (HM.out _) ?_; rintro e w1 ⟨rfl, k1⟩
    have HK : Hid (Below w.heap.size w w1) := Below.next (below1 _ _) k1
    obtain ⟨d0, d1, d2⟩ := (At.new w k n s).next k1
    clear k1
    go_wp2_with fail
    refine Calls.mono (HBy.out _) ?_; rintro e w2 ⟨rfl, k2⟩
    have HK2 : Hid (Below w.heap.size w w2) := Below.next HK.out k2
    clear k2
    go_wp2_with fail
    refine Calls.mono (HC.out _) ?_; rintro e w3 ⟨rfl, rfl⟩
    go_wp2_with fail
    go_ret
    exact ⟨by rw [HH.out]; rfl, HK2.out⟩
  · simp only [decide_eq_false hm] at HM0
    have HM : Hid _ := HM0
    have HH : Hid (hashN k n s = 0) := if_neg hm
    clear HM0
    go_enter Tryd.func24, Tryd.ntmps24
    go_wp2_with fail
    refine Calls.mono (HM.out _) ?_; rintro e w1 ⟨rfl, k1⟩
    have HK : Hid (Below w.heap.size w w1) := Below.next (below1 _ _) k1
    clear k1
    go_wp2_with fail
    go_ret
    exact ⟨by rw [HH.out]; rfl, HK.out⟩
end Go.Proofs.YtmjajlmknncggaaDoor
