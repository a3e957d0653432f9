/- The first token of a text. Tokens in a row; the tokens of a text: no Go in sight. lex.Tokens. Words, and tokens as text. What must come, whatever the arguments are. -/
import Derived.Test.YtlgkghebemfpjaaGreatDoorQLKy
import Derived.Test.YtlgkghebemfpjaaGreatDoorQLNd
import Derived.Laws.AppendOwn
import Derived.Maps.AppendAt
import Derived.OwnWalk
import Derived.LoopTactic
namespace Go.Proofs.YtlgkghebemfpjaaGreatDoor
open Go.ChangeShapes Go.WideShapes Go.ChangeAt Go.RowKit
set_option linter.unusedVariables false
set_option maxRecDepth 100000
set_option maxRecDepth 100000
structure TK where
 k : Int
 t : List UInt8
 n : Int
 z : Nat
deriving DecidableEq
def noT : TK := ⟨0, [],0,0⟩
def TK.val (x : TK) : Value := .tuple #[tv x.k ⟨x.t.toArray⟩ x.n 0,.int .i64 (x.z : Int)]
abbrev up (l : List UInt8) : List UInt8 := Lib.toUpperA l
def wordV (l : List UInt8) : TK := if 64 < (l.takeWhile wdB).length then noT else if keyB (up (l.takeWhile wdB)) then ⟨2,up (l.takeWhile wdB),0,(l.takeWhile wdB).length⟩ else ⟨1,l.takeWhile wdB,0,(l.takeWhile wdB).length⟩
def nameV (l : List UInt8) : TK := match quo 34 (l.drop 1) with | some (t,m) => if t = [] ∨ 64 < t.length then noT else ⟨1,t,0,m + 1⟩ | none => noT
def digV (l : List UInt8) : TK := if Num.rdE (l.takeWhile dgB) = 0 then ⟨3, [],Num.rdV (l.takeWhile dgB),(l.takeWhile dgB).length⟩ else noT
def textV (l : List UInt8) : TK := match quo 39 (l.drop 1) with | some (t,m) => if 64 < t.length then noT else ⟨4,t,0,m + 1⟩ | none => noT
def sgnT (t : List UInt8) : List UInt8 := if t = [33,61] then [60,62] else t
def signV (l : List UInt8) : TK := if signN l = 0 then noT else ⟨5,sgnT (l.take (signN l)),0,signN l⟩
def firstV (l : List UInt8) : TK := if ltB (l.headD 0) then wordV l else if l.headD 0 = 34 then nameV l else if dgB (l.headD 0) then digV l else if l.headD 0 = 39 then textV l else signV l
theorem toList_ba (l : List UInt8) : (⟨l.toArray⟩ : ByteArray).toList = l := by rw [ByteArray.toList_eq]
theorem size_ba (l : List UInt8) : (⟨l.toArray⟩ : ByteArray).size = l.length := by
 show l.toArray.size = _
 simp
theorem wd_low {l : List UInt8} {c : UInt8} (h : c ∈ l.takeWhile wdB) : c.toNat < 128 := by
 have h1 : wdB c = true := by
  have := List.all_takeWhile (p := wdB) (l := l)
  rw [List.all_eq_true] at this
  exact this c h
 rcases Nat.lt_or_ge c.toNat 128 with h2 | h2
 · exact h2
 · rw [fit_wd.byte c h2] at h1; cases h1
theorem word_is (s : ByteArray) (hs : s.size ≤ 100000) (w : World) : Calls Tryz.prog 106 #[.string s] w fun e w' => e = .returned (wordV s.data.toList).val ∧ Below w.heap.size w w' := by
 have hR := fun w => run_wd s (by omega) w
 have hA := ext_tw wdB s
 have hN := tw_len wdB s
 have hL : ∀ c ∈ s.data.toList.takeWhile wdB,c.toNat < 128 := fun c h => wd_low h
 unfold wordV
 generalize s.data.toList.takeWhile wdB = l at *
 by_cases c : 64 < l.length
 · rw [if_pos c]
   exact word_long s _ ⟨#[]⟩ l.length (by omega) hs hA (by omega) hR w
 · rw [if_neg c]
   have hC : ∀ w,Calls Tryz.prog 133 #[.string ⟨l.toArray⟩] w fun e w' => e = .returned (.string ⟨l.toArray⟩) ∧ Below w.heap.size w w' := fun w => clone_is _ w (by rw [size_ba]; omega)
   have hU : ∀ w,Calls Tryz.prog 134 #[.string ⟨l.toArray⟩] w fun e w' => e = .returned (.string ⟨(up l).toArray⟩) ∧ Below w.heap.size w w' := fun w =>
    Tryz.strings_ToUpper_ascii ⟨l.toArray⟩ w (by rw [size_ba]; omega) (fun j b hj => hL b (by
     have : l[j]? = some b := hj
     exact List.mem_of_getElem? this))
   have hK : ∀ w,Calls Tryz.prog 135 #[.string ⟨(up l).toArray⟩] w fun e w' => e = .returned (.bool (keyB (up l))) ∧ w' = w := fun w => by
    have := key_is ⟨(up l).toArray⟩ w
    rw [toList_ba] at this
    exact this
   cases hk : keyB (up l)
   · rw [hk] at hK
     exact word_name s _ _ l.length (by omega) hs hA (by omega) hR hC hU hK w
   · rw [hk] at hK
     exact word_key s _ _ l.length (by omega) hs hA (by omega) hR hC hU hK w
theorem digits_is (s : ByteArray) (hs : s.size ≤ 100000) (w : World) : Calls Tryz.prog 109 #[.string s] w fun e w' => e = .returned (digV s.data.toList).val ∧ Below w.heap.size w w' := by
 have hR := fun w => run_dg s (by omega) w
 have hA := ext_tw dgB s
 have hN := tw_len dgB s
 unfold digV
 generalize s.data.toList.takeWhile dgB = l at *
 have hD : ∀ w,Calls Tryz.prog 137 #[.string ⟨l.toArray⟩] w fun e w' => e = .returned (.tuple #[.int .i64 (Num.rdV l),.int .i64 (Num.rdE l)]) ∧ w' = w := fun w => Num.read_any ⟨l.toArray⟩ (by rw [size_ba]; omega) w
 by_cases c : Num.rdE l = 0
 · rw [if_pos c]
   rw [c] at hD
   exact digits_ok s _ l.length (by omega) hs hA (Num.rdV l) 0 hR hD w
 · rw [if_neg c]
   exact digits_bad s _ l.length (by omega) hs hA (Num.rdV l) (Num.rdE l) (by simpa using c) hR hD w
theorem name_is (s : ByteArray) (hs : s.size ≤ 100000) (r : List UInt8) (hl : s.data.toList = 34 :: r) (w : World) (hg : Glob w) : Calls Tryz.prog 107 #[.string s] w fun e w' => e = .returned (nameV s.data.toList).val ∧ Below w.heap.size w w' := by
 unfold nameV
 have hd : s.data.toList.drop 1 = r := by rw [hl]; rfl
 rw [hd]
 cases hq : quo 34 r with
 | none => exact name_none s ⟨#[]⟩ 0 (fun w _ => quoted_no s hs 34 (by decide) r hl hq w) w hg
 | some x =>
   obtain ⟨t,m⟩ := x
   have hQ : ∀ w,Glob w → Calls Tryz.prog 136 #[.string s] w fun e w' => e = .returned (.tuple #[.string ⟨t.toArray⟩,.int .i64 ((m + 1 : Nat) : Int)]) ∧ Below w.heap.size w w' := fun w hg => quoted_yes s hs 34 (by decide) r t m hl hq w hg
   simp only
   by_cases c : t = []
   · subst c
     rw [if_pos (.inl rfl)]
     exact name_none s ⟨#[]⟩ _ hQ w hg
   · have h1 : ¬ (⟨t.toArray⟩ : ByteArray).toList = [] := by rw [toList_ba]; exact c
     have h0 : (⟨t.toArray⟩ : ByteArray).toList.isEmpty = false := by rw [toList_ba]; simpa using c
     by_cases d : 64 < t.length
     · rw [if_pos (.inr d)]
       exact name_long s _ _ h0 h1 (by rw [size_ba]; omega) hQ w hg
     · rw [if_neg (fun e => e.elim c d)]
       exact name_ok s _ _ h0 h1 (by rw [size_ba]; omega) hQ w hg
theorem text_is (s : ByteArray) (hs : s.size ≤ 100000) (r : List UInt8) (hl : s.data.toList = 39 :: r) (w : World) (hg : Glob w) : Calls Tryz.prog 110 #[.string s] w fun e w' => e = .returned (textV s.data.toList).val ∧ Below w.heap.size w w' := by
 unfold textV
 have hd : s.data.toList.drop 1 = r := by rw [hl]; rfl
 rw [hd]
 cases hq : quo 39 r with
 | none => exact text_none s ⟨#[]⟩ 0 rfl (fun w _ => quoted_no s hs 39 (by decide) r hl hq w) w hg
 | some x =>
   obtain ⟨t,m⟩ := x
   have hQ : ∀ w,Glob w → Calls Tryz.prog 136 #[.string s] w fun e w' => e = .returned (.tuple #[.string ⟨t.toArray⟩,.int .i64 ((m + 1 : Nat) : Int)]) ∧ Below w.heap.size w w' := fun w hg => quoted_yes s hs 39 (by decide) r t m hl hq w hg
   have h0 : (((m + 1 : Nat) : Int) == 0) = false := by simp; omega
   simp only
   by_cases d : 64 < t.length
   · rw [if_pos d]
     exact text_long s _ _ h0 (by rw [size_ba]; omega) hQ w hg
   · rw [if_neg d]
     exact text_ok s _ _ h0 (by rw [size_ba]; omega) hQ w hg
theorem signSize_is (s : ByteArray) (hs : s.size ≤ 100000) (h0 : 0 < s.size) (w : World) : Calls Tryz.prog 138 #[.string s] w fun e w' => e = .returned (.int .i64 (signN s.data.toList : Int)) ∧ w' = w := by
 have hx : (s.extract 0 (min 2 (s.size : Int)).toNat).toList = s.data.toList.take 2 := by
  rw [ByteArray.toList_eq,ext_list,List.drop_zero]
  have hl := len_of s
  by_cases c : 2 ≤ s.size
  · congr 1; omega
  · rw [List.take_of_length_le (by omega),List.take_of_length_le (by omega)]
 have hl := drop_at s 0 h0
 rw [List.drop_zero] at hl
 have hc : s.extract 0 1 = ⟨#[s[0]]⟩ := ba_ext (by rw [ext_list,hl]; simp)
 have hh : s.data.toList.headD 0 = s[0] := by rw [hl]; rfl
 have h := sign_size s _ rfl (by omega) hs s[0] hc w
 rw [hx] at h
 refine h.mono (fun e w' k => ⟨?_,k.2⟩)
 rw [k.1]
 refine ret_int ?_
 unfold signN
 rw [hh]
 by_cases a : List.take 2 s.data.toList = [60,62] ∨ List.take 2 s.data.toList = [60,61] ∨ List.take 2 s.data.toList = [62,61] ∨ List.take 2 s.data.toList = [33,61] ∨ List.take 2 s.data.toList = [124,124]
 · rw [if_pos a,if_pos a]; rfl
 · rw [if_neg a,if_neg a]
   by_cases a2 : List.take 2 s.data.toList = [47,42]
   · rw [if_pos a2,if_pos a2]; rfl
   · rw [if_neg a2,if_neg a2]
     by_cases a3 : shortL.contains s[0] = true
     · rw [if_pos a3,if_pos a3]; rfl
     · rw [if_neg a3,if_neg a3]; rfl
theorem signN_le (l : List UInt8) (h : l ≠ []) : signN l ≤ l.length := by
 have h1 : 1 ≤ l.length := by
  cases l with
  | nil => exact absurd rfl h
  | cons => simp
 unfold signN
 split
 · rename_i q
   rcases q with q | q | q | q | q
   all_goals
    have := congrArg List.length q
    rw [List.length_take] at this
    simp at this
    omega
 · split
   · omega
   · split <;> omega
theorem sign_is (s : ByteArray) (hs : s.size ≤ 100000) (h0 : 0 < s.size) (w : World) : Calls Tryz.prog 111 #[.string s] w fun e w' => e = .returned (signV s.data.toList).val ∧ Below w.heap.size w w' := by
 have hS := fun w => signSize_is s hs h0 w
 have hle := signN_le s.data.toList (by intro e; have := len_of s; rw [e] at this; simp at this; omega)
 rw [len_of] at hle
 unfold signV
 have hA : s.extract 0 (signN s.data.toList) = ⟨(s.data.toList.take (signN s.data.toList)).toArray⟩ := ba_ext (by rw [ext_list,List.drop_zero])
 generalize signN s.data.toList = N at *
 by_cases c : N = 0
 · rw [if_pos c]
   exact sign_none s N (by simpa using c) hS w
 · rw [if_neg c]
   generalize s.data.toList.take N = A at *
   have hlA : A.length ≤ 100000 := by
    have e : A.length = (s.extract 0 N).size := by rw [hA,size_ba]
    rw [e]; simp; omega
   have hC : ∀ w,Calls Tryz.prog 133 #[.string ⟨A.toArray⟩] w fun e w' => e = .returned (.string ⟨A.toArray⟩) ∧ Below w.heap.size w w' := fun w => clone_is _ w (by rw [size_ba]; omega)
   have c0 : ((N : Int) == 0) = false := by simpa using c
   unfold sgnT
   by_cases d : A = [33,61]
   · rw [if_pos d]
     exact sign_ne s _ N (by omega) hs hA c0 (by rw [toList_ba,d]; rfl) hS hC w
   · rw [if_neg d]
     exact sign_ok s _ N (by omega) hs hA c0 (by rw [toList_ba]; simpa using d) hS hC w
theorem first_is (s : ByteArray) (hs : s.size ≤ 100000) (h0 : 0 < s.size) (w : World) (hg : Glob w) : Calls Tryz.prog 75 #[.string s] w fun e w' => e = .returned (firstV s.data.toList).val ∧ Below w.heap.size w w' := by
 have hl := drop_at s 0 h0
 rw [List.drop_zero] at hl
 have hh : s.data.toList.headD 0 = s[0] := by rw [hl]; rfl
 obtain ⟨c,hc⟩ : ∃ c,s[0] = c := ⟨_,rfl⟩
 have hB : ∀ w,Calls Tryz.prog 105 #[.int .i32 (c.toNat : Int)] w fun e w' => e = .returned (.bool (ltB c)) ∧ w' = w := fun w => by
  have h := begins_is (c.toNat : Int) w
  have e : begV (c.toNat : Int) = ltB c := by
   by_cases ha : c.toNat < 128
   · exact fit_lt.low c ha
   · rw [fit_lt.high _ (by omega),fit_lt.byte c (by omega)]
  rw [e] at h
  exact h
 have hD : ∀ w,Calls Tryz.prog 108 #[.int .i32 (c.toNat : Int)] w fun e w' => e = .returned (.bool (dgB c)) ∧ w' = w := fun w => by
  have h := digit_is (c.toNat : Int) w
  have e : decide (48 ≤ (c.toNat : Int) ∧ (c.toNat : Int) ≤ 57) = dgB c := by
   unfold dgB
   rw [Bool.eq_iff_iff]; simp; omega
  rw [e] at h
  exact h
 have q34 : ((c.toNat : Int) == 34) = decide (c = 34) := by
  rw [beq_eq,decide_eq_decide]
  constructor
  · intro e; exact UInt8.toNat_inj.1 (by simpa using Int.ofNat_inj.1 e)
  · intro e; rw [e]; rfl
 have q39 : ((c.toNat : Int) == 39) = decide (c = 39) := by
  rw [beq_eq,decide_eq_decide]
  constructor
  · intro e; exact UInt8.toNat_inj.1 (by simpa using Int.ofNat_inj.1 e)
  · intro e; rw [e]; rfl
 unfold firstV
 rw [hh,hc]
 rw [hc] at hl
 cases hw : ltB c
 · rw [hw] at hB
   simp only [Bool.false_eq_true,if_false]
   by_cases d34 : c = 34
   · rw [if_pos d34]
     exact first_name s c (by omega) h0 hc _ _ _ _ _ _ hB hD rfl (by rw [q34,decide_eq_true d34]) (fun w hg => name_is s hs _ (by rw [hl,d34]) w hg) w hg
   · rw [if_neg d34]
     cases hd : dgB c
     · rw [hd] at hD
       simp only [Bool.false_eq_true,if_false]
       by_cases d39 : c = 39
       · rw [if_pos d39]
         exact first_text s c (by omega) h0 hc _ _ _ _ _ _ hB hD ⟨rfl,rfl⟩ (by rw [q34,decide_eq_false d34]) (by rw [q39,decide_eq_true d39]) (fun w hg => text_is s hs _ (by rw [hl,d39]) w hg) w hg
       · rw [if_neg d39]
         exact first_sign s c (by omega) h0 hc _ _ _ _ _ _ hB hD ⟨rfl,rfl⟩ (by rw [q34,decide_eq_false d34]) (by rw [q39,decide_eq_false d39]) (fun w hg => sign_is s hs h0 w) w hg
     · rw [hd] at hD
       simp only [if_true]
       exact first_digits s c (by omega) h0 hc _ _ _ _ _ _ hB hD ⟨rfl,rfl⟩ (by rw [q34,decide_eq_false d34]) (fun w hg => digits_is s hs w) w hg
 · rw [hw] at hB
   simp only [if_true]
   exact first_word s c (by omega) h0 hc _ _ _ _ _ _ hB hD rfl (fun w hg => word_is s hs w) w hg
theorem remark_none' (D : ByteArray) (i : Int) (hi : i < 0) (w : World) (H1 : Hid (Calls Tryz.prog 130 #[.string D,.string ⟨#[42,47]⟩] w fun e w' => e = .returned (.int .i64 i) ∧ w' = w)) : Calls Tryz.prog 103 #[.string D] w fun e w' => e = .returned (.int .i64 0) ∧ w' = w := by
 go_enter Tryz.func103,Tryz.ntmps103
 go_wp2_with fail
 refine Calls.mono H1.out ?_; rintro e w1 ⟨rfl,rfl⟩
 go_wp2_with fail
 go_ret
 exact ⟨rfl,rfl⟩
theorem remark_some' (D : ByteArray) (i : Int) (hi : ¬ i < 0) (hm : i ≤ 100000) (w : World) (H1 : Hid (Calls Tryz.prog 130 #[.string D,.string ⟨#[42,47]⟩] w fun e w' => e = .returned (.int .i64 i) ∧ w' = w)) : Calls Tryz.prog 103 #[.string D] w fun e w' => e = .returned (.int .i64 (i + 4)) ∧ w' = w := by
 have HE : Hid (wrap64 (wrap64 (2 + i) + 2) = i + 4) := by show _ = _; unfold wrap64; omega
 go_enter Tryz.func103,Tryz.ntmps103
 go_wp2_with fail
 refine Calls.mono H1.out ?_; rintro e w1 ⟨rfl,rfl⟩
 go_wp2_with fail
 go_ret
 exact ⟨ret_int (by first | exact HE.out | (have := HE.out; unfold wrap64 at *; omega)),rfl⟩
def remN (r : List UInt8) : Nat := if Lib.index r [42,47] < 0 then 0 else (Lib.index r [42,47]).toNat + 4
def gapN (l : List UInt8) : Nat := if Lib.hasPrefix l [45,45] then (l.takeWhile nlB).length else if Lib.hasPrefix l [47,42] then remN (l.drop 2) else (l.takeWhile blB).length
theorem gap_rem_at (s D : ByteArray) (n m : Int) {w0 : World} (hm : w0.cell? ⟨0,0,none⟩ = some (.int .i64 m)) (H1 : Hid (∀ w,Calls Tryz.prog 99 #[.string s,.string ⟨#[45,45]⟩] w fun e w' => e = .returned (.bool false) ∧ w' = w)) (H2 : Hid (∀ w,Calls Tryz.prog 102 #[.string s,.string ⟨#[47,42]⟩] w fun e w' => e = .returned (.tuple #[.string D,.bool true]) ∧ w' = w))
 (H3 : Hid (∀ w,w.cell? ⟨0,0,none⟩ = some (.int .i64 m) → Calls Tryz.prog 103 #[.string D] w fun e w' => e = .returned (.int .i64 n) ∧ w' = w)) : Calls Tryz.prog 74 #[.string s] w0 fun e w' => e = .returned (.int .i64 n) ∧ Below w0.heap.size w0 w' := by
 have HM : Hid (w0.cell? ⟨0,0,none⟩ = some (.int .i64 m)) := hm
 clear hm
 go_enter Tryz.func74,Tryz.ntmps74
 go_wp2_with fail
 refine Calls.mono (H1.out _) ?_; rintro e w1 ⟨rfl,rfl⟩
 go_wp2_with fail
 refine Calls.mono (H2.out _) ?_; rintro e w2 ⟨rfl,rfl⟩
 go_wp2_with fail
 refine Calls.mono (H3.out _ HM.out) ?_; rintro e w3 ⟨rfl,rfl⟩
 go_wp2_with fail
 go_ret
 exact ⟨rfl,Below.refl _ _⟩
theorem gap_is (s : ByteArray) (hs : s.size ≤ 100000) (w : World) (hg : Glob w) : Calls Tryz.prog 74 #[.string s] w fun e w' => e = .returned (.int .i64 (gapN s.data.toList : Int)) ∧ Below w.heap.size w w' := by
 have h1 : ∀ w,Calls Tryz.prog 99 #[.string s,.string ⟨#[45,45]⟩] w fun e w' => e = .returned (.bool (Lib.hasPrefix s.data.toList [45,45])) ∧ w' = w := fun w => Tryz.strings_HasPrefix s ⟨#[45,45]⟩ w
 have h2 : ∀ w,Calls Tryz.prog 102 #[.string s,.string ⟨#[47,42]⟩] w fun e w' => e = .returned (.tuple #[.string ⟨(Lib.trimPrefix s.data.toList [47,42]).toArray⟩,.bool (Lib.hasPrefix s.data.toList [47,42])]) ∧ w' = w := fun w => Tryz.strings_CutPrefix s ⟨#[47,42]⟩ w
 unfold gapN
 cases hp : Lib.hasPrefix s.data.toList [45,45]
 · rw [hp] at h1
   simp only [Bool.false_eq_true,if_false]
   cases hq : Lib.hasPrefix s.data.toList [47,42]
   · rw [hq] at h2
     simp only [Bool.false_eq_true,if_false]
     exact gap_blank s _ _ h1 h2 (fun w => run_bl s (by omega) w) w
   · have ht : Lib.trimPrefix s.data.toList [47,42] = s.data.toList.drop 2 := by unfold Lib.trimPrefix; rw [if_pos hq]; rfl
     rw [hq,ht] at h2
     simp only [if_true]
     obtain ⟨m,hm⟩ := hg
     have hsz : (⟨(s.data.toList.drop 2).toArray⟩ : ByteArray).size ≤ 100000 := by rw [size_ba,List.length_drop,len_of]; omega
     have hI : ∀ w,w.cell? ⟨0,0,none⟩ = some (.int .i64 m) → Calls Tryz.prog 130 #[.string ⟨(s.data.toList.drop 2).toArray⟩,.string ⟨#[42,47]⟩] w fun e w' => e = .returned (.int .i64 (Lib.index (s.data.toList.drop 2) [42,47])) ∧ w' = w := fun w hm => Tryz.strings_Index ⟨(s.data.toList.drop 2).toArray⟩ ⟨#[42,47]⟩ m w (by omega) hm
     exact gap_rem_at s _ _ m hm h1 h2 (fun w hm => by
      unfold remN
      have hI2 := hI w hm
      have hr := Lib.index_room (s.data.toList.drop 2) [42,47]
      rw [size_ba] at hsz
      generalize Lib.index (s.data.toList.drop 2) [42,47] = i at *
      by_cases c : i < 0
      · rw [if_pos c]
        exact remark_none' _ i c w hI2
      · rw [if_neg c]
        have hle : i ≤ 100000 := by have := hr (by omega); simp at this; omega
        have e : ((i.toNat + 4 : Nat) : Int) = i + 4 := by omega
        rw [e]
        exact remark_some' _ i c hle w hI2)
 · rw [hp] at h1
   simp only [if_true]
   exact gap_line s _ h1 (fun w => run_nl s (by omega) w) w
theorem st_append {P : Program} {ops : Array Oper} {rest : List Oper} {o : Oper} {a : Act} {w w' : World} {Q : Exit → Act → World → Prop} {v : Value} {x y : Operand} {t u : TypeId} (hgd : o.guard = none) (ho : o.op = .call { callee := .builtin .append,args := #[x,y],argTypes := #[t,u] }) (hr : (Builtin.append_ #[t,u] o.type #[a.eval x,a.eval y]).run P w = .ok v w') (h : wpList P ops Q rest (a.put o.dst v) w') : wpList P ops Q (o :: rest) a w :=
 wpList_plain hgd fun _ hK => by
  unfold Oper.wp execOp
  simp only [ho,resolve,invoke,builtin,Sem.run_bind,Sem.run_pure,Result.andThen_ok,List.map_toArray,List.map_cons,List.map_nil,hr]
  exact hK _ _ h
theorem gapN_le (l : List UInt8) : gapN l ≤ l.length := by
 unfold gapN
 split
 · exact (List.takeWhile_prefix _).length_le
 · split
   · rename_i h
     have h2 : 2 ≤ l.length := by
      have := List.IsPrefix.length_le (List.isPrefixOf_iff_prefix.1 h)
      simpa using this
     unfold remN
     split
     · omega
     · have hr := Lib.index_room (l.drop 2) [42,47] (by omega)
       rw [List.length_drop] at hr
       simp at hr
       omega
   · exact (List.takeWhile_prefix _).length_le
theorem quo_len (q : UInt8) {r t : List UInt8} {m : Nat} (h : quo q r = some (t,m)) : m ≤ r.length := by
 obtain ⟨h1,r',h2,_⟩ := quo_some q r t m h
 rw [h2,h1]; simp
theorem first_le (l : List UInt8) (hl : l ≠ []) : (firstV l).z ≤ l.length := by
 have htw : ∀ p : UInt8 → Bool,(l.takeWhile p).length ≤ l.length := fun p => (List.takeWhile_prefix _).length_le
 have h1 : 1 ≤ l.length := by
  cases l with
  | nil => exact absurd rfl hl
  | cons => simp
 unfold firstV
 split
 · unfold wordV
   split
   · exact Nat.zero_le _
   · split <;> exact htw _
 · split
   · unfold nameV
     split
     · rename_i t m h
       have := quo_len 34 h
       rw [List.length_drop] at this
       split
       · exact Nat.zero_le _
       · show m + 1 ≤ _; omega
     · exact Nat.zero_le _
   · split
     · unfold digV
       split
       · exact htw _
       · exact Nat.zero_le _
     · split
       · unfold textV
         split
         · rename_i t m h
           have := quo_len 39 h
           rw [List.length_drop] at this
           split
           · exact Nat.zero_le _
           · show m + 1 ≤ _; omega
         · exact Nat.zero_le _
       · unfold signV
         split
         · exact Nat.zero_le _
         · exact signN_le l hl
def lexF : Nat → List UInt8 → Nat → List (TK × Nat) × Option Nat
 | 0,_,_ => ([],none)
 | f + 1,l,a =>
   if l = [] then ([],none)
   else if 0 < gapN l then lexF f (l.drop (gapN l)) (a + gapN l)
   else if (firstV l).z = 0 then ([],some a)
   else ((firstV l,a) :: (lexF f (l.drop (firstV l).z) (a + (firstV l).z)).1,(lexF f (l.drop (firstV l).z) (a + (firstV l).z)).2)
def endT : TK := ⟨0, [],0,0⟩
def tokV (l : List UInt8) : List (TK × Nat) × Int × Int :=
 if 4096 < l.length then ([],0,2)
 else match (lexF l.length l 0).2 with
  | none => ((lexF l.length l 0).1 ++ [(endT,l.length)],0,0)
  | some p => ([],(p : Int),160)
theorem lexF_nil (f : Nat) (a : Nat) : lexF f [] a = ([],none) := by
 cases f with
 | zero => rfl
 | succ f => rw [lexF,if_pos rfl]
theorem lexF_gap {f : Nat} {l : List UInt8} {a : Nat} (hl : l ≠ []) (hg : 0 < gapN l) : lexF (f + 1) l a = lexF f (l.drop (gapN l)) (a + gapN l) := by
 rw [lexF,if_neg hl,if_pos hg]
theorem lexF_bad {f : Nat} {l : List UInt8} {a : Nat} (hl : l ≠ []) (hg : gapN l = 0) (hz : (firstV l).z = 0) : lexF (f + 1) l a = ([],some a) := by
 rw [lexF,if_neg hl,if_neg (by omega),if_pos hz]
theorem lexF_tok {f : Nat} {l : List UInt8} {a : Nat} (hl : l ≠ []) (hg : gapN l = 0) (hz : (firstV l).z ≠ 0) :
 lexF (f + 1) l a = ((firstV l,a) :: (lexF f (l.drop (firstV l).z) (a + (firstV l).z)).1,(lexF f (l.drop (firstV l).z) (a + (firstV l).z)).2) := by
 rw [lexF,if_neg hl,if_neg (by omega),if_neg hz]
theorem info29 : (Tryz.prog.info? 40).map (fun i => (i.zero,i.size,i.bytes)) = some (some (.agg #[.int .i64 0,.string ⟨#[]⟩,.int .i64 0,.int .i64 0]),4,40) := by kernel_rfl
def rt (x : TK × Nat) : List Value := [.int .i64 x.1.k,.string ⟨x.1.t.toArray⟩,.int .i64 x.1.n,.int .i64 (x.2 : Int)]
theorem rt_len (r : List (TK × Nat)) : (r.flatMap rt).length = r.length * 4 := by
 induction r with
 | nil => rfl
 | cons x r ih => rw [List.flatMap_cons,List.length_append,ih,List.length_cons]; simp [rt]; omega
theorem rt_one (r : List (TK × Nat)) : ∀ v ∈ r.flatMap rt,v.oneCell' = true := by
 intro v hv
 obtain ⟨x,_,hx⟩ := List.mem_flatMap.1 hv
 simp only [rt,List.mem_cons,List.mem_nil_iff,or_false] at hx
 rcases hx with rfl | rfl | rfl | rfl <;> rfl
theorem rt_at (r : List (TK × Nat)) (i : Nat) (h : i < r.length) : (r.flatMap rt)[i * 4]? = some (.int .i64 r[i].1.k) ∧ (r.flatMap rt)[i * 4 + 1]? = some (.string ⟨r[i].1.t.toArray⟩) ∧ (r.flatMap rt)[i * 4 + 2]? = some (.int .i64 r[i].1.n) ∧ (r.flatMap rt)[i * 4 + 3]? = some (.int .i64 (r[i].2 : Int)) := by
 induction r generalizing i with
 | nil => cases h
 | cons x r ih =>
   cases i with
   | zero => simp [rt]
   | succ i =>
     have := ih i (by simpa using h)
     rw [List.flatMap_cons,show (i + 1) * 4 = i * 4 + 4 by omega,show i * 4 + 4 + 1 = (i * 4 + 1) + 4 by omega,show i * 4 + 4 + 2 = (i * 4 + 2) + 4 by omega,show i * 4 + 4 + 3 = (i * 4 + 3) + 4 by omega]
     simpa [rt] using this
def OwnT (w : World) (B : Nat) (v : Value) (r : List (TK × Nat)) : Prop := w.ownsRow B 40 4 v r.length (r.flatMap rt)
theorem OwnT.nil (w : World) (B : Nat) : OwnT w B (.slice none 0 0) [] := ⟨by simp,.inl ⟨rfl,rfl⟩⟩
theorem OwnT.far {w w' : World} {B : Nat} {v : Value} {r : List (TK × Nat)} (h : OwnT w B v r) (k : ∀ g,v.ownBlock = some g → w'.heap[g]? = w.heap[g]?) : OwnT w' B v r := by
 refine ⟨h.1, ?_⟩
 rcases h.2 with q | ⟨g,cap,cur,e,hg,hh,q⟩
 · exact .inl q
 · exact .inr ⟨g,cap,cur,e,hg,(k g (by rw [e]; rfl)).trans hh,q⟩
theorem OwnT.next {w w' : World} {B : Nat} {v : Value} {r : List (TK × Nat)} (h : OwnT w B v r) (k : Below w.heap.size w w') : OwnT w' B v r := h.far (fun g hg => k.block g (World.ownsRow.lt h g hg).2)
theorem append_tok {w : World} {v : Value} {r : List (TK × Nat)} {B : Nat} (h : OwnT w B v r) (x : TK × Nat) (hs : r.length ≤ 5000) (hb : B ≤ w.heap.size) :
 ∃ v' w',(Builtin.append_ #[35,35] 35 #[v,.slice (some ⟨w.heap.size,0,none⟩) 1 1]).run Tryz.prog (w.alloc (.cells #[.int .i64 x.1.k,.string ⟨x.1.t.toArray⟩,.int .i64 x.1.n,.int .i64 (x.2 : Int)] 40)) = .ok v' w' ∧ OwnT w' B v' (r ++ [x]) ∧ Below B w w' := by
 obtain ⟨i,hi,hz,h1,h2⟩ := info_of info29
 obtain ⟨v',w',a1,a2,a3,a4⟩ := run_append_own (P := Tryz.prog) (w.alloc (.cells #[.int .i64 x.1.k,.string ⟨x.1.t.toArray⟩,.int .i64 x.1.n,.int .i64 (x.2 : Int)] 40)) B 35 35 40 i _ 4 40 Tryz.underlying35 hi hz h1 h2 (by simp [Value.cells]) (by omega) v r.length (r.flatMap rt) (World.ownsRow.alloc h _) ⟨w.heap.size,0,none⟩ 1 1 ([x].flatMap rt) (rt_len [x])
  (fun j u hu => by
   rw [Go.WideShapes.add_plain,Nat.zero_add]
   have e : [x].flatMap rt = [.int .i64 x.1.k,.string ⟨x.1.t.toArray⟩,.int .i64 x.1.n,.int .i64 (x.2 : Int)] := rfl
   rw [e] at hu
   match j,hu with
   | 0,hu => cases hu; simp
   | 1,hu => cases hu; simp
   | 2,hu => cases hu; simp
   | 3,hu => cases hu; simp) (rt_one [x]) (by unfold maxLen; omega) (by omega) (Nat.le_trans hb (by simp))
 refine ⟨v',w',a1, ?_,((Below.refl B w).alloc hb _).grown a3 (Nat.le_trans hb (by simp)) (fun k hk => (World.ownsRow.lt h k hk).1)⟩
 unfold OwnT
 rw [List.length_append,List.flatMap_append]
 exact a2
theorem str_tail (s : ByteArray) (lo : Nat) (h2 : lo ≤ s.size) (W : World) : (Instr.sliceAt 9 (.string s) (some (.int .i64 (lo : Int))) none none).run Tryz.prog W = .ok (.string (s.extract lo s.size)) W := by
 rw [run_sliceAt_string W 9 _ _ _ _ Tryz.underlying9]
 have h0 : (0 : Int) ≤ (lo : Int) ∧ (lo : Int) ≤ (s.size : Int) := by omega
 simp [go_sem,Tryz.underlying9,h0]
theorem tail_data (s : ByteArray) (a : Nat) : (s.extract a s.size).data.toList = s.data.toList.drop a := by
 rw [ext_list,List.take_of_length_le (by simp)]
def TokR (w w' : World) (l : List UInt8) (e : Ending) : Prop := ∃ v,e = .returned (.tuple #[v,.int .i64 (tokV l).2.1,.int .i64 (tokV l).2.2]) ∧ OwnT w' w.heap.size v (tokV l).1 ∧ Below w.heap.size w w'
theorem tokens_full (s : ByteArray) (hs : 4096 < s.size) (w : World) : Calls Tryz.prog 35 #[.string s] w fun e w' => TokR w w' s.data.toList e := by
 have HT : Hid (tokV s.data.toList = ([],0,2)) := by show _ = _; unfold tokV; rw [if_pos (by rw [len_of]; exact hs)]
 have h1 : (4096 : Int) < (s.size : Int) := by omega
 go_enter Tryz.func35,Tryz.ntmps35
 go_wp2_with fail
 go_ret3
 refine ⟨.slice none 0 0,by rw [HT.out]; rfl,by rw [HT.out]; exact OwnT.nil _ _,Below.refl _ _⟩
structure TS (w wr : World) (s : ByteArray) (T : List (TK × Nat) × Option Nat) (v : Value) (a : Nat) : Prop where
 lo : Below w.heap.size w wr
 hi : a ≤ s.size
 ac : ∃ acc,OwnT wr w.heap.size v acc ∧ acc.length ≤ a ∧ ∃ f,s.size - a ≤ f ∧ T = (acc ++ (lexF f (s.data.toList.drop a) a).1,(lexF f (s.data.toList.drop a) a).2)
theorem rest_ne {s : ByteArray} {a : Nat} (h : a < s.size) : s.data.toList.drop a ≠ [] := by
 intro e
 have := congrArg List.length e
 rw [List.length_drop,len_of] at this
 simp at this
 omega
theorem TS.gap {w wr : World} {s : ByteArray} {T : List (TK × Nat) × Option Nat} {v : Value} {a : Nat} (h : TS w wr s T v a) (ha : a < s.size) (hg : 0 < gapN (s.data.toList.drop a)) {w2 : World} (k : Below wr.heap.size wr w2) : TS w w2 s T v (a + gapN (s.data.toList.drop a)) := by
 obtain ⟨acc,o,hl,f,hf,e⟩ := h.ac
 have hle := gapN_le (s.data.toList.drop a)
 rw [List.length_drop,len_of] at hle
 cases f with
 | zero => omega
 | succ f =>
   rw [lexF_gap (rest_ne ha) hg,List.drop_drop] at e
   exact ⟨Below.next h.lo k,by omega,acc,o.next k,by omega,f,by omega,e⟩
theorem TS.bad {w wr : World} {s : ByteArray} {T : List (TK × Nat) × Option Nat} {v : Value} {a : Nat} (h : TS w wr s T v a) (ha : a < s.size) (hg : gapN (s.data.toList.drop a) = 0) (hz : (firstV (s.data.toList.drop a)).z = 0) : T.2 = some a := by
 obtain ⟨acc,o,hl,f,hf,e⟩ := h.ac
 cases f with
 | zero => omega
 | succ f =>
   rw [lexF_bad (rest_ne ha) hg hz] at e
   rw [e]
theorem TS.tok {w wr : World} {s : ByteArray} {T : List (TK × Nat) × Option Nat} {v : Value} {a : Nat} (h : TS w wr s T v a) (ha : a < s.size) (hg : gapN (s.data.toList.drop a) = 0) (hz : (firstV (s.data.toList.drop a)).z ≠ 0) {w2 w3 : World} {v' : Value} (k : Below wr.heap.size wr w2)
 (ho : ∀ acc,OwnT wr w.heap.size v acc → acc.length ≤ a → OwnT w3 w.heap.size v' (acc ++ [(firstV (s.data.toList.drop a),a)])) (k3 : Below w.heap.size w2 w3) : TS w w3 s T v' (a + (firstV (s.data.toList.drop a)).z) := by
 obtain ⟨acc,o,hl,f,hf,e⟩ := h.ac
 have hle := first_le (s.data.toList.drop a) (rest_ne ha)
 rw [List.length_drop,len_of] at hle
 cases f with
 | zero => omega
 | succ f =>
   rw [lexF_tok (rest_ne ha) hg hz,List.drop_drop] at e
   refine ⟨(Below.next h.lo k).trans k3,by omega,_,ho acc o hl,by rw [List.length_append]; simp; omega,f,by omega, ?_⟩
   rw [e]
   simp
theorem TS.done {w wr : World} {s : ByteArray} {T : List (TK × Nat) × Option Nat} {v : Value} {a : Nat} (h : TS w wr s T v a) (ha : ¬ a < s.size) : ∃ acc,OwnT wr w.heap.size v acc ∧ acc.length ≤ s.size ∧ T = (acc,none) := by
 obtain ⟨acc,o,hl,f,hf,e⟩ := h.ac
 have : s.data.toList.drop a = [] := List.drop_of_length_le (by rw [len_of]; omega)
 rw [this,lexF_nil] at e
 exact ⟨acc,o,by have := h.hi; omega,by rw [e]; simp⟩
set_option maxHeartbeats 1000000 in
theorem tokens_some (s : ByteArray) (hs : s.size ≤ 4096) (w : World) (hg : Glob w) : Calls Tryz.prog 35 #[.string s] w fun e w' => TokR w w' s.data.toList e := by
 have h1 : ¬ (4096 : Int) < (s.size : Int) := by omega
 obtain ⟨T,hT⟩ : ∃ T,T = lexF s.size s.data.toList 0 := ⟨_,rfl⟩
 have HT : Hid (tokV s.data.toList = match T.2 with | none => (T.1 ++ [(endT,s.size)],0,0) | some p => ([],(p : Int),160)) := by
  show _ = _
  unfold tokV
  rw [if_neg (by rw [len_of]; omega),len_of, ← hT]
  try rfl
 have H0 : Hid (TS w w s T (.slice none 0 0) 0) := ⟨Below.refl _ _,by omega, [],OwnT.nil _ _,by simp,s.size,by omega,by rw [hT]; simp⟩
 have HG : Hid (Glob w) := hg
 clear hT hg
 go_enter Tryz.func35,Tryz.ntmps35
 go_wp2_with fail
 go_loopw [5,6] (fun v x wr => ∃ a : Nat,x = .int .i64 (a : Int) ∧ Hid (TS w wr s T v a)) (fun _ x _ => s.size - (intOf x).toNat)
 case atStart => exact ⟨0,rfl,H0⟩
 case round =>
  obtain ⟨a,rfl,HS⟩ := hrel
  by_cases ha : a < s.size
  · have hal : (a : Int) < (s.size : Int) := by omega
    have hSL : ∀ W,(Instr.sliceAt 9 (.string s) (some (.int .i64 (a : Int))) none none).run Tryz.prog W = .ok (.string (s.extract a s.size)) W := fun W => str_tail s a (by omega) W
    have hDs : (s.extract a s.size).size ≤ 100000 := by simp; omega
    have hD0 : 0 < (s.extract a s.size).size := by simp; omega
    have hg1 := fun w hg => gap_is (s.extract a s.size) hDs w hg
    have hf1 := fun w hg => first_is (s.extract a s.size) hDs hD0 w hg
    rw [tail_data] at hg1 hf1
    have hgl := gapN_le (s.data.toList.drop a)
    have hfl := first_le (s.data.toList.drop a) (rest_ne ha)
    rw [List.length_drop,len_of] at hgl hfl
    have HGap : Hid (∀ w,Glob w → Calls Tryz.prog 74 #[.string (s.extract a s.size)] w fun e w' => e = .returned (.int .i64 (gapN (s.data.toList.drop a) : Int)) ∧ Below w.heap.size w w') := hg1
    have HFst : Hid (∀ w,Glob w → Calls Tryz.prog 75 #[.string (s.extract a s.size)] w fun e w' => e = .returned (firstV (s.data.toList.drop a)).val ∧ Below w.heap.size w w') := hf1
    have HA : Hid (a < s.size) := ha
    clear hg1 hf1 hDs hD0
    have HGr : Hid (Glob wr) := HG.out.next HS.out.lo
    obtain ⟨D,hD⟩ : ∃ D,s.extract a s.size = D := ⟨_,rfl⟩
    rw [hD] at hSL HGap HFst
    clear hD
    by_cases hgp : 0 < gapN (s.data.toList.drop a)
    · have HN : Hid (∀ w2,Below wr.heap.size wr w2 → TS w w2 s T u5 (a + gapN (s.data.toList.drop a))) := fun w2 k => HS.out.gap HA.out hgp k
      obtain ⟨g,hgg⟩ : ∃ g,gapN (s.data.toList.drop a) = g := ⟨_,rfl⟩
      rw [hgg] at HGap HN hgp hgl
      clear hgg hfl HFst
      have hgi : (0 : Int) < (g : Int) := by omega
      have HW : Hid (wrap64 ((a : Int) + (g : Int)) = ((a + g : Nat) : Int)) := by show _ = _; unfold wrap64; omega
      go_wp2_with fail
      refine Calls.mono (HGap.out _ HGr.out) ?_; rintro e w1 ⟨rfl,k1⟩
      have HK : Hid (Below wr.heap.size wr w1) := k1
      clear k1
      go_wp2_with fail
      go_roundw
      case rel => exact ⟨a + g,by first | rw [HW.out] | go_num,HN.out _ HK.out⟩
      case measure =>
       have := HW.out
       simp [intOf]; omega
    · have hz0 : gapN (s.data.toList.drop a) = 0 := by omega
      have HN : Hid ((firstV (s.data.toList.drop a)).z ≠ 0 → ∀ w2 w3 v',Below wr.heap.size wr w2 → (∀ acc,OwnT wr w.heap.size u5 acc → acc.length ≤ a → OwnT w3 w.heap.size v' (acc ++ [(firstV (s.data.toList.drop a),a)])) → Below w.heap.size w2 w3 → TS w w3 s T v' (a + (firstV (s.data.toList.drop a)).z)) := fun hz w2 w3 v' k ho k3 => HS.out.tok HA.out hz0 hz k ho k3
      have HE : Hid ((firstV (s.data.toList.drop a)).z = 0 → T.2 = some a) := fun hz => HS.out.bad HA.out hz0 hz
      have HAcc : Hid (∃ acc,OwnT wr w.heap.size u5 acc ∧ acc.length ≤ a) := by
       obtain ⟨acc,o,hl,_⟩ := HS.out.ac
       exact ⟨acc,o,hl⟩
      have HLo : Hid (Below w.heap.size w wr) := HS.out.lo
      rw [hz0] at HGap
      obtain ⟨X,hX⟩ : ∃ X,firstV (s.data.toList.drop a) = X := ⟨_,rfl⟩
      rw [hX] at HFst HN HE hfl
      clear hX hgp hz0 hgl HS
      obtain ⟨xk,xt,xn,xz⟩ := X
      have HF2 : Hid (∀ w,Glob w → Calls Tryz.prog 75 #[.string D] w fun e w' => e = .returned (.tuple #[tv xk ⟨xt.toArray⟩ xn 0,.int .i64 (xz : Int)]) ∧ Below w.heap.size w w') := HFst.out
      clear HFst
      simp only at hfl
      by_cases hz : xz = 0
      · have HE2 : Hid (T.2 = some a) := HE.out hz
        subst hz
        clear HE HN HAcc
        go_wp2_with fail
        refine Calls.mono (HGap.out _ HGr.out) ?_; rintro e w1 ⟨rfl,k1⟩
        have HK : Hid (Below wr.heap.size wr w1) := k1
        have HG1 : Hid (Glob w1) := HGr.out.next k1
        clear k1
        go_wp2_with fail
        refine Calls.mono (HF2.out _ HG1.out) ?_; rintro e w2 ⟨rfl,k2⟩
        have HK2 : Hid (Below w.heap.size w w2) := Below.next (Below.next HLo.out HK.out) k2
        clear k2
        go_wp2_with fail
        go_ret3
        refine ⟨.slice none 0 0, ?_, ?_,(HK2.out.alloc HK2.out.size _)⟩
        · rw [HT.out,HE2.out]; rfl
        · rw [HT.out,HE2.out]; exact OwnT.nil _ _
      · have hzi : ((xz : Int) == 0) = false := by simpa using hz
        have hzi2 : ¬ (xz : Int) = 0 := by omega
        have HN2 := HN.out hz
        have HN3 : Hid _ := HN2
        clear HE HN HN2
        have HW : Hid (wrap64 ((a : Int) + (xz : Int)) = ((a + xz : Nat) : Int)) := by show _ = _; unfold wrap64; omega
        go_wp2_with fail
        refine Calls.mono (HGap.out _ HGr.out) ?_; rintro e w1 ⟨rfl,k1⟩
        have HK : Hid (Below wr.heap.size wr w1) := k1
        have HG1 : Hid (Glob w1) := HGr.out.next k1
        clear k1
        go_wp2_with fail
        refine Calls.mono (HF2.out _ HG1.out) ?_; rintro e w2 ⟨rfl,k2⟩
        have HK2 : Hid (Below wr.heap.size wr w2) := Below.next HK.out k2
        clear k2
        obtain ⟨acc,o,hl⟩ := HAcc.out
        have hb : Below w.heap.size w w2 := Below.next HLo.out HK2.out
        have kb : Below w2.heap.size w2 (w2.alloc (.cells #[.int .i64 xk,.string ⟨xt.toArray⟩,.int .i64 xn,.int .i64 (a : Int)] 40)) := below1 _ _
        have hsz2 : (w2.alloc (.cells #[.int .i64 xk,.string ⟨xt.toArray⟩,.int .i64 xn,.int .i64 (a : Int)] 40)).heap.size = w2.heap.size + 1 := by simp
        obtain ⟨v6,w6,ra,o6,b6⟩ := append_tok ((o.next HK2.out).next kb) (⟨xk,xt,xn,xz⟩,a) (by omega) (Nat.le_trans hb.size (by rw [hsz2]; omega))
        rw [hsz2] at ra
        have RA : Hid ((Builtin.append_ #[35,35] 35 #[u5,.slice (some ⟨w2.heap.size + 1,0,none⟩) 1 1]).run Tryz.prog ((w2.alloc (.cells #[.int .i64 xk,.string ⟨xt.toArray⟩,.int .i64 xn,.int .i64 (a : Int)] 40)).alloc (.cells #[.int .i64 xk,.string ⟨xt.toArray⟩,.int .i64 xn,.int .i64 (a : Int)] 40)) = .ok v6 w6) := ra
        have HT6 : Hid (TS w w6 s T v6 (a + xz)) := HN3.out w2 w6 v6 HK2.out (fun acc' o' hl' => by
         obtain ⟨v7,w7,ra7,o7,b7⟩ := append_tok ((o'.next HK2.out).next kb) (⟨xk,xt,xn,xz⟩,a) (by omega) (Nat.le_trans hb.size (by rw [hsz2]; omega))
         rw [hsz2] at ra7
         have := ra7.symm.trans ra
         cases this
         exact o7) ((kb.mono hb.size).trans b6)
        clear o hl hb kb hsz2 ra o6 b6 HN3 HAcc
        go_wp2_with (first | ((with_reducible apply st_append (x := .tmp 38)); (case ho => rfl); (case hgd => rfl); (case hr => exact RA.out)))
        go_roundw
        case rel => exact ⟨a + xz,by first | rw [HW.out] | go_num,HT6.out⟩
        case measure =>
         have := HW.out
         simp [intOf]; omega
  · have HD2 : Hid (∃ acc,OwnT wr w.heap.size u5 acc ∧ acc.length ≤ s.size ∧ T = (acc,none)) := HS.out.done ha
    have HLo : Hid (Below w.heap.size w wr) := HS.out.lo
    obtain ⟨acc,o,hl,e⟩ := HD2.out
    obtain ⟨v6,w6,ra,o6,b6⟩ := append_tok o (endT,s.size) (by omega) HLo.out.size
    have RA : Hid ((Builtin.append_ #[35,35] 35 #[u5,.slice (some ⟨wr.heap.size,0,none⟩) 1 1]).run Tryz.prog (wr.alloc (.cells #[.int .i64 0,.string ⟨#[]⟩,.int .i64 0,.int .i64 (s.size : Int)] 40)) = .ok v6 w6) := ra
    have HO : Hid (TokR w w6 s.data.toList (.returned (.tuple #[v6,.int .i64 0,.int .i64 0]))) := by
     refine ⟨v6, ?_, ?_,HLo.out.trans b6⟩
     · rw [HT.out,e]
     · rw [HT.out,e]; exact o6
    have hge : ¬ (a : Int) < (s.size : Int) := by omega
    clear HD2 o hl e ra o6 b6 HS HT
    go_wp2_with (first | ((with_reducible apply st_append (x := .tmp 45)); (case ho => rfl); (case hgd => rfl); (case hr => exact RA.out)))
    go_ret3
    exact HO.out
def wordB (l : List UInt8) : Bool := decide (l ≠ [] ∧ (firstV l).k = 1 ∧ (firstV l).t = l ∧ (firstV l).n = 0)
theorem ba_nil {s : ByteArray} (h : s.data.toList = []) : s = ⟨#[]⟩ := ba_ext (by rw [h])
def putV (k : Int) (t : List UInt8) (n : Int) : List UInt8 :=
 if k = 1 then (if wordB t then t else 34 :: (dupL 34 t ++ [34])) else if k = 2 then t else if k = 5 then t else if k = 3 then Num.txt n
 else if k = 4 then (if t.length ≤ 64 then 39 :: (dupL 39 t ++ [39]) else [110,117,108,108]) else []
theorem tokens_is (s : ByteArray) (w : World) (hg : Glob w) : Calls Tryz.prog 35 #[.string s] w fun e w' => TokR w w' s.data.toList e := by
 by_cases h : s.size ≤ 4096
 · exact tokens_some s h w hg
 · exact tokens_full s (by omega) w
theorem OwnT.cells {w : World} {B : Nat} {v : Value} {r : List (TK × Nat)} (h : OwnT w B v r) (hr : r ≠ []) : ∃ g c,v = .slice (some ⟨g,0,none⟩) r.length c ∧ (∀ j u,(r.flatMap rt)[j]? = some u → w.cell? ⟨g,j,none⟩ = some u) ∧ B ≤ g ∧ g < w.heap.size := by
 have h0 : r.length ≠ 0 := fun e => hr (List.eq_nil_of_length_eq_zero e)
 obtain ⟨g,c,rfl⟩ : ∃ g c,v = .slice (some ⟨g,0,none⟩) r.length c := by
  rcases h.2 with ⟨_,e⟩ | ⟨g,cap,cur,rfl,_⟩
  · exact absurd e h0
  · exact ⟨g,cap,rfl⟩
 refine ⟨g,c,rfl,fun j u hu => ?_,World.ownsRow.lt h g rfl⟩
 have hj : j < (r.flatMap rt).length := (List.getElem?_eq_some_iff.1 hu).1
 rw [World.ownsRow.cellAt h j (by rw [rt_len] at hj; omega)]
 exact hu
end Go.Proofs.YtlgkghebemfpjaaGreatDoor
