/- What is left of a text; how it begins. -/
import Derived.Test.YtgokilochbnbaaaDoorRl
import Derived.Test.YtgokilochbnbaaaDoorLb
namespace Go.Proofs.YtgokilochbnbaaaDoor
open Go.ChangeShapes Go.WideShapes Go.ChangeAt Go.RowKit
set_option linter.unusedVariables false
set_option maxRecDepth 100000

/-! ### What is left of a text: with as much fuel as it wants -/
def LX (l : List UInt8) (a : Nat) : List (TK × Nat) × Option Nat := lexF l.length l a
theorem lexF_fuel : ∀ (f : Nat) (l : List UInt8) (a : Nat), l.length ≤ f → ∀ f', l.length ≤ f' → lexF f l a = lexF f' l a
  | 0, l, a, h, f', h' => by
    have : l = [] := List.eq_nil_of_length_eq_zero (by omega)
    subst this
    rw [lexF_nil, lexF_nil]
  | f + 1, l, a, h, f', h' => by
    by_cases hl : l = []
    · subst hl; rw [lexF_nil, lexF_nil]
    · have h1 : 1 ≤ l.length := List.length_pos_iff.2 hl
      cases f' with
      | zero => omega
      | succ f' =>
        by_cases hg : 0 < gapN l
        · rw [lexF_gap hl hg, lexF_gap hl hg]
          exact lexF_fuel f _ _ (by rw [List.length_drop]; omega) f' (by rw [List.length_drop]; omega)
        · have hg0 : gapN l = 0 := by omega
          by_cases hz : (firstV l).z = 0
          · rw [lexF_bad hl hg0 hz, lexF_bad hl hg0 hz]
          · rw [lexF_tok hl hg0 hz, lexF_tok hl hg0 hz, lexF_fuel f (l.drop (firstV l).z) _ (by rw [List.length_drop]; omega) f' (by rw [List.length_drop]; omega)]
theorem lexF_LX {f : Nat} {l : List UInt8} {a : Nat} (h : l.length ≤ f) : lexF f l a = LX l a := lexF_fuel f l a h _ (Nat.le_refl _)
theorem LX_nil (a : Nat) : LX [] a = ([], none) := lexF_nil _ _
theorem LX_step {l : List UInt8} (hl : l ≠ []) (a : Nat) : LX l a = lexF (l.length - 1 + 1) l a := by
  have h1 : 1 ≤ l.length := List.length_pos_iff.2 hl
  unfold LX
  congr 1; omega
theorem LX_gap {l : List UInt8} {a : Nat} (hl : l ≠ []) (hg : 0 < gapN l) : LX l a = LX (l.drop (gapN l)) (a + gapN l) := by
  have h1 : 1 ≤ l.length := List.length_pos_iff.2 hl
  rw [LX_step hl, lexF_gap hl hg, lexF_LX (by rw [List.length_drop]; omega)]
theorem LX_bad {l : List UInt8} {a : Nat} (hl : l ≠ []) (hg : gapN l = 0) (hz : (firstV l).z = 0) : LX l a = ([], some a) := by
  rw [LX_step hl, lexF_bad hl hg hz]
theorem LX_tok {l : List UInt8} {a : Nat} (hl : l ≠ []) (hg : gapN l = 0) (hz : (firstV l).z ≠ 0) : LX l a = ((firstV l, a) :: (LX (l.drop (firstV l).z) (a + (firstV l).z)).1, (LX (l.drop (firstV l).z) (a + (firstV l).z)).2) := by
  have h1 : 1 ≤ l.length := List.length_pos_iff.2 hl
  rw [LX_step hl, lexF_tok hl hg hz, lexF_LX (by rw [List.length_drop]; omega)]
theorem gap_blanks (c : UInt8) (r : List UInt8) (hb : blB c = true) : gapN (c :: r) = (r.takeWhile blB).length + 1 := by
  have ho : c ≠ 45 ∧ c ≠ 47 := by
    constructor
    · intro e; rw [e] at hb; revert hb; decide
    · intro e; rw [e] at hb; revert hb; decide
  unfold gapN
  have e1 : Lib.hasPrefix (c :: r) [45, 45] = false := by
    unfold Lib.hasPrefix
    simp [List.isPrefixOf]
    intro e; exact absurd e.symm ho.1
  have e2 : Lib.hasPrefix (c :: r) [47, 42] = false := by
    unfold Lib.hasPrefix
    simp [List.isPrefixOf]
    intro e; exact absurd e.symm ho.2
  rw [e1, e2]
  simp only [Bool.false_eq_true, if_false]
  rw [List.takeWhile_cons_of_pos hb, List.length_cons]
theorem LX_blank {c : UInt8} {r : List UInt8} {a : Nat} (hb : blB c = true) : LX (c :: r) a = LX r (a + 1) := by
  have hg := gap_blanks c r hb
  rw [LX_gap (by simp) (by omega), hg, List.drop_succ_cons]
  cases r with
  | nil => simp
  | cons d t =>
    by_cases hd : blB d = true
    · have hg2 := gap_blanks d t hd
      rw [List.takeWhile_cons_of_pos hd, List.length_cons]
      rw [LX_gap (l := d :: t) (a := a + 1) (by simp) (by omega), hg2]
      congr 1; omega
    · rw [List.takeWhile_cons_of_neg hd]
      rfl
theorem pre_ne {l p : List UInt8} (h : Lib.hasPrefix l p = true) (hp : p ≠ []) : l ≠ [] := by
  intro e
  rw [e] at h
  have := List.IsPrefix.length_le (List.isPrefixOf_iff_prefix.1 h)
  exact hp (List.eq_nil_of_length_eq_zero (by simpa using this))
theorem pre_len {l p : List UInt8} (h : Lib.hasPrefix l p = true) : p.length ≤ l.length := List.IsPrefix.length_le (List.isPrefixOf_iff_prefix.1 h)
theorem pre_take {l p : List UInt8} : Lib.hasPrefix l p = true ↔ l.take p.length = p := by
  unfold Lib.hasPrefix
  rw [List.isPrefixOf_iff_prefix, List.prefix_iff_eq_take]
  exact ⟨fun h => h.symm, fun h => h.symm⟩
theorem LX_line {l : List UInt8} {a : Nat} (h : Lib.hasPrefix l [45, 45] = true) : LX l a = LX (l.drop (l.takeWhile nlB).length) (a + (l.takeWhile nlB).length) ∧ 2 ≤ (l.takeWhile nlB).length := by
  have hg : gapN l = (l.takeWhile nlB).length := by unfold gapN; rw [if_pos h]
  have h2 : 2 ≤ (l.takeWhile nlB).length := by
    have ht := pre_take.1 h
    have hl : l = 45 :: 45 :: l.drop 2 := by
      have := List.take_append_drop 2 l
      rw [show l.take 2 = [45, 45] from ht] at this
      exact this.symm
    rw [hl, List.takeWhile_cons_of_pos (by decide), List.takeWhile_cons_of_pos (by decide)]
    simp
  refine ⟨?_, h2⟩
  rw [LX_gap (pre_ne h (by simp)) (by omega), hg]
theorem rem_gap {l : List UInt8} (h : Lib.hasPrefix l [47, 42] = true) : gapN l = remN (l.drop 2) := by
  unfold gapN
  rw [if_neg, if_pos h]
  intro q
  have a := pre_take.1 h
  have b := pre_take.1 q
  rw [show ([47, 42] : List UInt8).length = 2 from rfl] at a
  rw [show ([45, 45] : List UInt8).length = 2 from rfl] at b
  rw [a] at b
  exact absurd b (by decide)
theorem LX_remark {l : List UInt8} {a i : Nat} (h : Lib.hasPrefix l [47, 42] = true) (hi : Lib.index (l.drop 2) [42, 47] = (i : Int)) : LX l a = LX (l.drop (i + 4)) (a + (i + 4)) := by
  have hg : gapN l = i + 4 := by
    rw [rem_gap h]; unfold remN; rw [hi, if_neg (by omega)]; simp
  rw [LX_gap (pre_ne h (by simp)) (by omega), hg]
theorem LX_open {l : List UInt8} {a : Nat} (h : Lib.hasPrefix l [47, 42] = true) (hi : Lib.index (l.drop 2) [42, 47] = -1) : LX l a = ([], some a) := by
  have hg : gapN l = 0 := by rw [rem_gap h]; unfold remN; rw [hi]; rfl
  have ht := pre_take.1 h
  rw [show ([47, 42] : List UInt8).length = 2 from rfl] at ht
  have hl : l = 47 :: 42 :: l.drop 2 := by
    have := List.take_append_drop 2 l
    rw [ht] at this
    exact this.symm
  have hz : (firstV l).z = 0 := by
    unfold firstV
    have hh : l.headD 0 = 47 := by rw [hl]; rfl
    rw [hh, if_neg (by decide), if_neg (by decide), if_neg (by decide), if_neg (by decide)]
    unfold signV
    have : signN l = 0 := by
      unfold signN
      rw [ht, if_neg (by decide), if_pos rfl]
    rw [if_pos this]
    rfl
  exact LX_bad (pre_ne h (by simp)) hg hz
theorem begins_ref (s t : ByteArray) (hs : s.size ≤ 100000) (ht : t.size ≤ 100) (a : Nat) (ha : a ≤ s.size) (w : World) :
    Calls Tryd.prog 47 #[.string s, .int .i64 (a : Int), .string t] w fun e w' => e = .returned (.bool (Lib.hasPrefix (s.data.toList.drop a) t.data.toList)) ∧ w' = w := by
  by_cases hl : a + t.size ≤ s.size
  · have hSL : ∀ W, (Instr.sliceAt 9 (.string s) (some (.int .i64 (a : Int))) (some (.int .i64 ((a : Int) + (t.size : Int)))) none).run Tryd.prog W = .ok (.string (s.extract a (a + t.size))) W := fun W => by
      have := str_slice s a (a + t.size) (by omega) hl W
      rw [show ((a + t.size : Nat) : Int) = (a : Int) + (t.size : Int) by omega] at this
      exact this
    have hX : (s.extract a (a + t.size)).toList = (s.data.toList.drop a).take t.data.toList.length := by
      rw [ByteArray.toList_eq, ext_list, List.drop_take, len_of]
      congr 1; omega
    obtain ⟨X, hXX⟩ : ∃ X, s.extract a (a + t.size) = X := ⟨_, rfl⟩
    rw [hXX] at hSL hX
    clear hXX
    have h1 : (t.size : Int) ≤ (s.size : Int) - (a : Int) := by omega
    have h2 : wrap64 ((s.size : Int) - (a : Int)) = (s.size : Int) - (a : Int) := by unfold wrap64; omega
    have h3 : wrap64 ((a : Int) + (t.size : Int)) = (a : Int) + (t.size : Int) := by unfold wrap64; omega
    cases hb : Lib.hasPrefix (s.data.toList.drop a) t.data.toList
    · have hq : (X.toList == t.toList) = false := by
        rw [beq_eq_false_iff_ne, hX, ByteArray.toList_eq]
        intro e
        rw [pre_take.2 e] at hb; cases hb
      clear hX hb
      go_enter Tryd.func47, Tryd.ntmps47
      go_wp2
      go_ret
      exact ⟨rfl, rfl⟩
    · have hq : (X.toList == t.toList) = true := by
        rw [beq_iff_eq, hX, ByteArray.toList_eq]
        exact pre_take.1 hb
      clear hX hb
      go_enter Tryd.func47, Tryd.ntmps47
      go_wp2
      go_ret
      exact ⟨rfl, rfl⟩
  · have hb : Lib.hasPrefix (s.data.toList.drop a) t.data.toList = false := by
      cases hb : Lib.hasPrefix (s.data.toList.drop a) t.data.toList
      · rfl
      · have := pre_len hb
        rw [List.length_drop, len_of, len_of] at this
        omega
    rw [hb]
    clear hb
    have h1 : ¬ (t.size : Int) ≤ (s.size : Int) - (a : Int) := by omega
    have h2 : wrap64 ((s.size : Int) - (a : Int)) = (s.size : Int) - (a : Int) := by unfold wrap64; omega
    go_enter Tryd.func47, Tryd.ntmps47
    go_wp2
    go_ret
    exact ⟨rfl, rfl⟩
end Go.Proofs.YtgokilochbnbaaaDoor
