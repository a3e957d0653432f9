/- The first token of a text. -/
import Derived.Test.YtgokilochbnbaaaDoorSh
import Derived.Test.YtgokilochbnbaaaDoorNr
namespace Go.Proofs.YtgokilochbnbaaaDoor
open Go.ChangeShapes Go.WideShapes Go.ChangeAt Go.RowKit
set_option linter.unusedVariables false
set_option maxRecDepth 100000

/-- A token: its kind, text and number, and how many bytes it has; no bytes: there is none. -/
structure TK where
  k : Int
  t : List UInt8
  n : Int
  z : Nat
deriving DecidableEq
def noT : TK := ⟨0, [], 0, 0⟩
def TK.val (x : TK) : Value := .tuple #[tv x.k ⟨x.t.toArray⟩ x.n 0, .int .i64 (x.z : Int)]
abbrev up (l : List UInt8) : List UInt8 := Lib.toUpperA l
def wordV (l : List UInt8) : TK := if 64 < (l.takeWhile wdB).length then noT else if keyB (up (l.takeWhile wdB)) then ⟨2, up (l.takeWhile wdB), 0, (l.takeWhile wdB).length⟩ else ⟨1, l.takeWhile wdB, 0, (l.takeWhile wdB).length⟩
def nameV (l : List UInt8) : TK := match quo 34 (l.drop 1) with | some (t, m) => if t = [] ∨ 64 < t.length then noT else ⟨1, t, 0, m + 1⟩ | none => noT
def digV (l : List UInt8) : TK := if Num.rdE (l.takeWhile dgB) = 0 then ⟨3, [], Num.rdV (l.takeWhile dgB), (l.takeWhile dgB).length⟩ else noT
def textV (l : List UInt8) : TK := match quo 39 (l.drop 1) with | some (t, m) => if 64 < t.length then noT else ⟨4, t, 0, m + 1⟩ | none => noT
def sgnT (t : List UInt8) : List UInt8 := if t = [33, 61] then [60, 62] else t
def signV (l : List UInt8) : TK := if signN l = 0 then noT else ⟨5, sgnT (l.take (signN l)), 0, signN l⟩
def firstV (l : List UInt8) : TK := if ltB (l.headD 0) then wordV l else if l.headD 0 = 34 then nameV l else if dgB (l.headD 0) then digV l else if l.headD 0 = 39 then textV l else signV l
theorem toList_ba (l : List UInt8) : (⟨l.toArray⟩ : ByteArray).toList = l := by rw [ByteArray.toList_eq]
theorem size_ba (l : List UInt8) : (⟨l.toArray⟩ : ByteArray).size = l.length := by
  show l.toArray.size = _
  simp
theorem nil_ba : (⟨([] : List UInt8).toArray⟩ : ByteArray) = ⟨#[]⟩ := rfl
theorem wd_low {l : List UInt8} {c : UInt8} (h : c ∈ l.takeWhile wdB) : c.toNat < 128 := by
  have h1 : wdB c = true := by
    have := List.all_takeWhile (p := wdB) (l := l)
    rw [List.all_eq_true] at this
    exact this c h
  rcases Nat.lt_or_ge c.toNat 128 with h2 | h2
  · exact h2
  · rw [fit_wd.byte c h2] at h1; cases h1
theorem word_is (s : ByteArray) (hs : s.size ≤ 100000) (w : World) : Calls Tryd.prog 41 #[.string s] w fun e w' => e = .returned (wordV s.data.toList).val ∧ Below w.heap.size w w' := by
  have hR := fun w => run_wd s (by omega) w
  have hA := ext_tw wdB s
  have hN := tw_len wdB s
  have hL : ∀ c ∈ s.data.toList.takeWhile wdB, c.toNat < 128 := fun c h => wd_low h
  unfold wordV
  generalize s.data.toList.takeWhile wdB = l at *
  by_cases c : 64 < l.length
  · rw [if_pos c]
    exact word_long s _ ⟨#[]⟩ l.length (by omega) hs hA (by omega) hR w
  · rw [if_neg c]
    have hC : ∀ w, Calls Tryd.prog 24 #[.string ⟨l.toArray⟩] w fun e w' => e = .returned (.string ⟨l.toArray⟩) ∧ Below w.heap.size w w' := fun w => clone_is _ w (by rw [size_ba]; omega)
    have hU : ∀ w, Calls Tryd.prog 62 #[.string ⟨l.toArray⟩] w fun e w' => e = .returned (.string ⟨(up l).toArray⟩) ∧ Below w.heap.size w w' := fun w =>
      Tryd.strings_ToUpper_ascii ⟨l.toArray⟩ w (by rw [size_ba]; omega) (fun j b hj => hL b (by
        have : l[j]? = some b := hj
        exact List.mem_of_getElem? this))
    have hK : ∀ w, Calls Tryd.prog 14 #[.string ⟨(up l).toArray⟩] w fun e w' => e = .returned (.bool (keyB (up l))) ∧ w' = w := fun w => by
      have := key_is ⟨(up l).toArray⟩ w
      rw [toList_ba] at this
      exact this
    cases hk : keyB (up l)
    · rw [hk] at hK
      exact word_name s _ _ l.length (by omega) hs hA (by omega) hR hC hU hK w
    · rw [hk] at hK
      exact word_key s _ _ l.length (by omega) hs hA (by omega) hR hC hU hK w
theorem digits_is (s : ByteArray) (hs : s.size ≤ 100000) (w : World) : Calls Tryd.prog 44 #[.string s] w fun e w' => e = .returned (digV s.data.toList).val ∧ Below w.heap.size w w' := by
  have hR := fun w => run_dg s (by omega) w
  have hA := ext_tw dgB s
  have hN := tw_len dgB s
  unfold digV
  generalize s.data.toList.takeWhile dgB = l at *
  have hD : ∀ w, Calls Tryd.prog 64 #[.string ⟨l.toArray⟩] w fun e w' => e = .returned (.tuple #[.int .i64 (Num.rdV l), .int .i64 (Num.rdE l)]) ∧ w' = w := fun w => Num.read_any ⟨l.toArray⟩ (by rw [size_ba]; omega) w
  by_cases c : Num.rdE l = 0
  · rw [if_pos c]
    rw [c] at hD
    exact digits_ok s _ l.length (by omega) hs hA (Num.rdV l) 0 hR hD w
  · rw [if_neg c]
    exact digits_bad s _ l.length (by omega) hs hA (Num.rdV l) (Num.rdE l) (by simpa using c) hR hD w
theorem name_is (s : ByteArray) (hs : s.size ≤ 100000) (r : List UInt8) (hl : s.data.toList = 34 :: r) (w : World) (hg : Glob w) : Calls Tryd.prog 42 #[.string s] w fun e w' => e = .returned (nameV s.data.toList).val ∧ Below w.heap.size w w' := by
  unfold nameV
  have hd : s.data.toList.drop 1 = r := by rw [hl]; rfl
  rw [hd]
  cases hq : quo 34 r with
  | none => exact name_none s ⟨#[]⟩ 0 (fun w _ => quoted_no s hs 34 (by decide) r hl hq w) w hg
  | some x =>
    obtain ⟨t, m⟩ := x
    have hQ : ∀ w, Glob w → Calls Tryd.prog 63 #[.string s] w fun e w' => e = .returned (.tuple #[.string ⟨t.toArray⟩, .int .i64 ((m + 1 : Nat) : Int)]) ∧ Below w.heap.size w w' := fun w hg => quoted_yes s hs 34 (by decide) r t m hl hq w hg
    simp only
    by_cases c : t = []
    · subst c
      rw [if_pos (.inl rfl)]
      exact name_none s ⟨#[]⟩ _ hQ w hg
    · have h1 : ¬ (⟨t.toArray⟩ : ByteArray).toList = [] := by rw [toList_ba]; exact c
      have h0 : (⟨t.toArray⟩ : ByteArray).toList.isEmpty = false := by rw [toList_ba]; simpa using c
      by_cases d : 64 < t.length
      · rw [if_pos (.inr d)]
        exact name_long s _ _ h0 h1 (by rw [size_ba]; omega) hQ w hg
      · rw [if_neg (fun e => e.elim c d)]
        exact name_ok s _ _ h0 h1 (by rw [size_ba]; omega) hQ w hg
theorem text_is (s : ByteArray) (hs : s.size ≤ 100000) (r : List UInt8) (hl : s.data.toList = 39 :: r) (w : World) (hg : Glob w) : Calls Tryd.prog 45 #[.string s] w fun e w' => e = .returned (textV s.data.toList).val ∧ Below w.heap.size w w' := by
  unfold textV
  have hd : s.data.toList.drop 1 = r := by rw [hl]; rfl
  rw [hd]
  cases hq : quo 39 r with
  | none => exact text_none s ⟨#[]⟩ 0 rfl (fun w _ => quoted_no s hs 39 (by decide) r hl hq w) w hg
  | some x =>
    obtain ⟨t, m⟩ := x
    have hQ : ∀ w, Glob w → Calls Tryd.prog 63 #[.string s] w fun e w' => e = .returned (.tuple #[.string ⟨t.toArray⟩, .int .i64 ((m + 1 : Nat) : Int)]) ∧ Below w.heap.size w w' := fun w hg => quoted_yes s hs 39 (by decide) r t m hl hq w hg
    have h0 : (((m + 1 : Nat) : Int) == 0) = false := by simp; omega
    simp only
    by_cases d : 64 < t.length
    · rw [if_pos d]
      exact text_long s _ _ h0 (by rw [size_ba]; omega) hQ w hg
    · rw [if_neg d]
      exact text_ok s _ _ h0 (by rw [size_ba]; omega) hQ w hg
theorem signSize_is (s : ByteArray) (hs : s.size ≤ 100000) (h0 : 0 < s.size) (w : World) : Calls Tryd.prog 65 #[.string s] w fun e w' => e = .returned (.int .i64 (signN s.data.toList : Int)) ∧ w' = w := by
  have hx : (s.extract 0 (min 2 (s.size : Int)).toNat).toList = s.data.toList.take 2 := by
    rw [ByteArray.toList_eq, ext_list, List.drop_zero]
    have hl := len_of s
    by_cases c : 2 ≤ s.size
    · congr 1; omega
    · rw [List.take_of_length_le (by omega), List.take_of_length_le (by omega)]
  have hl := drop_at s 0 h0
  rw [List.drop_zero] at hl
  have hc : s.extract 0 1 = ⟨#[s[0]]⟩ := ba_ext (by rw [ext_list, hl]; simp)
  have hh : s.data.toList.headD 0 = s[0] := by rw [hl]; rfl
  have h := sign_size s _ rfl (by omega) hs s[0] hc w
  rw [hx] at h
  refine h.mono (fun e w' k => ⟨?_, k.2⟩)
  rw [k.1]
  refine ret_int ?_
  unfold signN
  rw [hh]
  by_cases a : List.take 2 s.data.toList = [60, 62] ∨ List.take 2 s.data.toList = [60, 61] ∨ List.take 2 s.data.toList = [62, 61] ∨ List.take 2 s.data.toList = [33, 61] ∨ List.take 2 s.data.toList = [124, 124]
  · rw [if_pos a, if_pos a]; rfl
  · rw [if_neg a, if_neg a]
    by_cases a2 : List.take 2 s.data.toList = [47, 42]
    · rw [if_pos a2, if_pos a2]; rfl
    · rw [if_neg a2, if_neg a2]
      by_cases a3 : shortL.contains s[0] = true
      · rw [if_pos a3, if_pos a3]; rfl
      · rw [if_neg a3, if_neg a3]; rfl
theorem signN_le (l : List UInt8) (h : l ≠ []) : signN l ≤ l.length := by
  have h1 : 1 ≤ l.length := by
    cases l with
    | nil => exact absurd rfl h
    | cons => simp
  unfold signN
  split
  · rename_i q
    rcases q with q | q | q | q | q
    all_goals
      have := congrArg List.length q
      rw [List.length_take] at this
      simp at this
      omega
  · split
    · omega
    · split <;> omega
theorem sign_is (s : ByteArray) (hs : s.size ≤ 100000) (h0 : 0 < s.size) (w : World) : Calls Tryd.prog 46 #[.string s] w fun e w' => e = .returned (signV s.data.toList).val ∧ Below w.heap.size w w' := by
  have hS := fun w => signSize_is s hs h0 w
  have hle := signN_le s.data.toList (by intro e; have := len_of s; rw [e] at this; simp at this; omega)
  rw [len_of] at hle
  unfold signV
  have hA : s.extract 0 (signN s.data.toList) = ⟨(s.data.toList.take (signN s.data.toList)).toArray⟩ := ba_ext (by rw [ext_list, List.drop_zero])
  generalize signN s.data.toList = N at *
  by_cases c : N = 0
  · rw [if_pos c]
    exact sign_none s N (by simpa using c) hS w
  · rw [if_neg c]
    generalize s.data.toList.take N = A at *
    have hlA : A.length ≤ 100000 := by
      have e : A.length = (s.extract 0 N).size := by rw [hA, size_ba]
      rw [e]; simp; omega
    have hC : ∀ w, Calls Tryd.prog 24 #[.string ⟨A.toArray⟩] w fun e w' => e = .returned (.string ⟨A.toArray⟩) ∧ Below w.heap.size w w' := fun w => clone_is _ w (by rw [size_ba]; omega)
    have c0 : ((N : Int) == 0) = false := by simpa using c
    unfold sgnT
    by_cases d : A = [33, 61]
    · rw [if_pos d]
      exact sign_ne s _ N (by omega) hs hA c0 (by rw [toList_ba, d]; rfl) hS hC w
    · rw [if_neg d]
      exact sign_ok s _ N (by omega) hs hA c0 (by rw [toList_ba]; simpa using d) hS hC w
theorem first_is (s : ByteArray) (hs : s.size ≤ 100000) (h0 : 0 < s.size) (w : World) (hg : Glob w) : Calls Tryd.prog 20 #[.string s] w fun e w' => e = .returned (firstV s.data.toList).val ∧ Below w.heap.size w w' := by
  have hl := drop_at s 0 h0
  rw [List.drop_zero] at hl
  have hh : s.data.toList.headD 0 = s[0] := by rw [hl]; rfl
  obtain ⟨c, hc⟩ : ∃ c, s[0] = c := ⟨_, rfl⟩
  have hB : ∀ w, Calls Tryd.prog 40 #[.int .i32 (c.toNat : Int)] w fun e w' => e = .returned (.bool (ltB c)) ∧ w' = w := fun w => by
    have h := begins_is (c.toNat : Int) w
    have e : begV (c.toNat : Int) = ltB c := by
      by_cases ha : c.toNat < 128
      · exact fit_lt.low c ha
      · rw [fit_lt.high _ (by omega), fit_lt.byte c (by omega)]
    rw [e] at h
    exact h
  have hD : ∀ w, Calls Tryd.prog 43 #[.int .i32 (c.toNat : Int)] w fun e w' => e = .returned (.bool (dgB c)) ∧ w' = w := fun w => by
    have h := digit_is (c.toNat : Int) w
    have e : decide (48 ≤ (c.toNat : Int) ∧ (c.toNat : Int) ≤ 57) = dgB c := by
      unfold dgB
      rw [Bool.eq_iff_iff]; simp; omega
    rw [e] at h
    exact h
  have q34 : ((c.toNat : Int) == 34) = decide (c = 34) := by
    rw [beq_eq, decide_eq_decide]
    constructor
    · intro e; exact UInt8.toNat_inj.1 (by simpa using Int.ofNat_inj.1 e)
    · intro e; rw [e]; rfl
  have q39 : ((c.toNat : Int) == 39) = decide (c = 39) := by
    rw [beq_eq, decide_eq_decide]
    constructor
    · intro e; exact UInt8.toNat_inj.1 (by simpa using Int.ofNat_inj.1 e)
    · intro e; rw [e]; rfl
  unfold firstV
  rw [hh, hc]
  rw [hc] at hl
  cases hw : ltB c
  · rw [hw] at hB
    simp only [Bool.false_eq_true, if_false]
    by_cases d34 : c = 34
    · rw [if_pos d34]
      exact first_name s c (by omega) h0 hc _ _ _ _ _ _ hB hD rfl (by rw [q34, decide_eq_true d34]) (fun w hg => name_is s hs _ (by rw [hl, d34]) w hg) w hg
    · rw [if_neg d34]
      cases hd : dgB c
      · rw [hd] at hD
        simp only [Bool.false_eq_true, if_false]
        by_cases d39 : c = 39
        · rw [if_pos d39]
          exact first_text s c (by omega) h0 hc _ _ _ _ _ _ hB hD ⟨rfl, rfl⟩ (by rw [q34, decide_eq_false d34]) (by rw [q39, decide_eq_true d39]) (fun w hg => text_is s hs _ (by rw [hl, d39]) w hg) w hg
        · rw [if_neg d39]
          exact first_sign s c (by omega) h0 hc _ _ _ _ _ _ hB hD ⟨rfl, rfl⟩ (by rw [q34, decide_eq_false d34]) (by rw [q39, decide_eq_false d39]) (fun w hg => sign_is s hs h0 w) w hg
      · rw [hd] at hD
        simp only [if_true]
        exact first_digits s c (by omega) h0 hc _ _ _ _ _ _ hB hD ⟨rfl, rfl⟩ (by rw [q34, decide_eq_false d34]) (fun w hg => digits_is s hs w) w hg
  · rw [hw] at hB
    simp only [if_true]
    exact first_word s c (by omega) h0 hc _ _ _ _ _ _ hB hD rfl (fun w hg => word_is s hs w) w hg
theorem remark_none' (D : ByteArray) (i : Int) (hi : i < 0) (w : World) (H1 : Hid (Calls Tryd.prog 59 #[.string D, .string ⟨#[42, 47]⟩] w fun e w' => e = .returned (.int .i64 i) ∧ w' = w)) : Calls Tryd.prog 38 #[.string D] w fun e w' => e = .returned (.int .i64 0) ∧ w' = w := by
  go_enter Tryd.func38, Tryd.ntmps38
  go_wp2_with fail
  refine Calls.mono H1.out ?_; rintro e w1 ⟨rfl, rfl⟩
  go_wp2_with fail
  go_ret
  exact ⟨rfl, rfl⟩
theorem remark_some' (D : ByteArray) (i : Int) (hi : ¬ i < 0) (hm : i ≤ 100000) (w : World) (H1 : Hid (Calls Tryd.prog 59 #[.string D, .string ⟨#[42, 47]⟩] w fun e w' => e = .returned (.int .i64 i) ∧ w' = w)) : Calls Tryd.prog 38 #[.string D] w fun e w' => e = .returned (.int .i64 (i + 4)) ∧ w' = w := by
  have HE : Hid (wrap64 (wrap64 (2 + i) + 2) = i + 4) := by show _ = _; unfold wrap64; omega
  go_enter Tryd.func38, Tryd.ntmps38
  go_wp2_with fail
  refine Calls.mono H1.out ?_; rintro e w1 ⟨rfl, rfl⟩
  go_wp2_with fail
  go_ret
  exact ⟨ret_int (by first | exact HE.out | (have := HE.out; unfold wrap64 at *; omega)), rfl⟩
/-- How many bytes a remark has behind its first two; none, where it does not end. -/
def remN (r : List UInt8) : Nat := if Lib.index r [42, 47] < 0 then 0 else (Lib.index r [42, 47]).toNat + 4
/-- How many bytes of no token a text begins with. -/
def gapN (l : List UInt8) : Nat := if Lib.hasPrefix l [45, 45] then (l.takeWhile nlB).length else if Lib.hasPrefix l [47, 42] then remN (l.drop 2) else (l.takeWhile blB).length
theorem gap_rem_at (s D : ByteArray) (n m : Int) {w0 : World} (hm : w0.cell? ⟨0, 0, none⟩ = some (.int .i64 m)) (H1 : Hid (∀ w, Calls Tryd.prog 34 #[.string s, .string ⟨#[45, 45]⟩] w fun e w' => e = .returned (.bool false) ∧ w' = w)) (H2 : Hid (∀ w, Calls Tryd.prog 37 #[.string s, .string ⟨#[47, 42]⟩] w fun e w' => e = .returned (.tuple #[.string D, .bool true]) ∧ w' = w))
    (H3 : Hid (∀ w, w.cell? ⟨0, 0, none⟩ = some (.int .i64 m) → Calls Tryd.prog 38 #[.string D] w fun e w' => e = .returned (.int .i64 n) ∧ w' = w)) : Calls Tryd.prog 19 #[.string s] w0 fun e w' => e = .returned (.int .i64 n) ∧ Below w0.heap.size w0 w' := by
  have HM : Hid (w0.cell? ⟨0, 0, none⟩ = some (.int .i64 m)) := hm
  clear hm
  go_enter Tryd.func19, Tryd.ntmps19
  go_wp2_with fail
  refine Calls.mono (H1.out _) ?_; rintro e w1 ⟨rfl, rfl⟩
  go_wp2_with fail
  refine Calls.mono (H2.out _) ?_; rintro e w2 ⟨rfl, rfl⟩
  go_wp2_with fail
  refine Calls.mono (H3.out _ HM.out) ?_; rintro e w3 ⟨rfl, rfl⟩
  go_wp2_with fail
  go_ret
  exact ⟨rfl, Below.refl _ _⟩
theorem gap_is (s : ByteArray) (hs : s.size ≤ 100000) (w : World) (hg : Glob w) : Calls Tryd.prog 19 #[.string s] w fun e w' => e = .returned (.int .i64 (gapN s.data.toList : Int)) ∧ Below w.heap.size w w' := by
  have h1 : ∀ w, Calls Tryd.prog 34 #[.string s, .string ⟨#[45, 45]⟩] w fun e w' => e = .returned (.bool (Lib.hasPrefix s.data.toList [45, 45])) ∧ w' = w := fun w => Tryd.strings_HasPrefix s ⟨#[45, 45]⟩ w
  have h2 : ∀ w, Calls Tryd.prog 37 #[.string s, .string ⟨#[47, 42]⟩] w fun e w' => e = .returned (.tuple #[.string ⟨(Lib.trimPrefix s.data.toList [47, 42]).toArray⟩, .bool (Lib.hasPrefix s.data.toList [47, 42])]) ∧ w' = w := fun w => Tryd.strings_CutPrefix s ⟨#[47, 42]⟩ w
  unfold gapN
  cases hp : Lib.hasPrefix s.data.toList [45, 45]
  · rw [hp] at h1
    simp only [Bool.false_eq_true, if_false]
    cases hq : Lib.hasPrefix s.data.toList [47, 42]
    · rw [hq] at h2
      simp only [Bool.false_eq_true, if_false]
      exact gap_blank s _ _ h1 h2 (fun w => run_bl s (by omega) w) w
    · have ht : Lib.trimPrefix s.data.toList [47, 42] = s.data.toList.drop 2 := by unfold Lib.trimPrefix; rw [if_pos hq]; rfl
      rw [hq, ht] at h2
      simp only [if_true]
      obtain ⟨m, hm⟩ := hg
      have hsz : (⟨(s.data.toList.drop 2).toArray⟩ : ByteArray).size ≤ 100000 := by rw [size_ba, List.length_drop, len_of]; omega
      have hI : ∀ w, w.cell? ⟨0, 0, none⟩ = some (.int .i64 m) → Calls Tryd.prog 59 #[.string ⟨(s.data.toList.drop 2).toArray⟩, .string ⟨#[42, 47]⟩] w fun e w' => e = .returned (.int .i64 (Lib.index (s.data.toList.drop 2) [42, 47])) ∧ w' = w := fun w hm => Tryd.strings_Index ⟨(s.data.toList.drop 2).toArray⟩ ⟨#[42, 47]⟩ m w (by omega) hm
      exact gap_rem_at s _ _ m hm h1 h2 (fun w hm => by
        unfold remN
        have hI2 := hI w hm
        have hr := Lib.index_room (s.data.toList.drop 2) [42, 47]
        rw [size_ba] at hsz
        generalize Lib.index (s.data.toList.drop 2) [42, 47] = i at *
        by_cases c : i < 0
        · rw [if_pos c]
          exact remark_none' _ i c w hI2
        · rw [if_neg c]
          have hle : i ≤ 100000 := by have := hr (by omega); simp at this; omega
          have e : ((i.toNat + 4 : Nat) : Int) = i + 4 := by omega
          rw [e]
          exact remark_some' _ i c hle w hI2)
  · rw [hp] at h1
    simp only [if_true]
    exact gap_line s _ h1 (fun w => run_nl s (by omega) w) w
end Go.Proofs.YtgokilochbnbaaaDoor
