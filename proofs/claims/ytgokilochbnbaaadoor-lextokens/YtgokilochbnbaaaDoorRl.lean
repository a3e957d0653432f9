/- The document's words. -/
import Derived.Test.YtgokilochbnbaaaDoorRk
namespace Go.Proofs.YtgokilochbnbaaaDoor
open Go.ChangeShapes Go.WideShapes Go.ChangeAt Go.RowKit
set_option linter.unusedVariables false
set_option maxRecDepth 100000

theorem letB_wd (c : UInt8) : letB c false = wdB c := by unfold letB wdB; simp

theorem word_ref_false (s : ByteArray) (hs : s.size ≤ 100000) (a : Nat) (ha : a ≤ s.size) (w : World) :
    Calls Tryd.prog 32 #[.string s, .int .i64 (a : Int), .bool false] w fun e w' => e = .returned (.int .i64 ((a + ((s.data.toList.drop a).takeWhile wdB).length : Nat) : Int)) ∧ w' = w := by
  obtain ⟨T, hT⟩ : ∃ T, a + ((s.data.toList.drop a).takeWhile wdB).length = T := ⟨_, rfl⟩
  rw [hT]
  have HT : Hid (T = a + ((s.data.toList.drop a).takeWhile wdB).length) := hT.symm
  clear hT
  go_enter Tryd.func32, Tryd.ntmps32
  go_wp2_with fail
  go_loop [1] (fun i => ∃ j : Nat, j ≤ s.size ∧ i = .int .i64 j ∧ Hid (T = j + ((s.data.toList.drop j).takeWhile wdB).length)) (fun i => s.size - (intOf i).toNat)
  case atStart => exact ⟨a, ha, rfl, HT⟩
  case round =>
    obtain ⟨j, hj, rfl, HP⟩ := hrel
    by_cases hlt : j < s.size
    · have hlti : (j : Int) < (s.size : Int) := by omega
      have hd := drop_at s j hlt
      have HL : Hid (∀ w, Calls Tryd.prog 31 #[.int .u8 (s[j].toNat : Int), .bool false] w fun e w' => e = .returned (.bool (wdB s[j])) ∧ w' = w) := fun w => by
        rw [← letB_wd]; exact letter_ref s[j] false w
      have hdg : dgB s[j] = decide ((48 : Int) ≤ (s[j].toNat : Int) ∧ (s[j].toNat : Int) ≤ 57) := by unfold dgB; rw [decide_eq_decide]; omega
      have hwd : dgB s[j] = true → wdB s[j] = true := fun h => by unfold wdB; rw [h]; simp
      by_cases hp : wdB s[j] = true
      · have HN : Hid (T = j + 1 + ((s.data.toList.drop (j + 1)).takeWhile wdB).length) := by
          show _ = _
          rw [HP.out, hd, List.takeWhile_cons_of_pos hp]
          simp; omega
        rw [hp] at HL
        clear hdg hwd hp hd HP
        go_wp2_with fail
        refine (HL.out _).mono ?_; rintro e w1 ⟨rfl, rfl⟩
        go_wp2_with fail
        go_round
        case rel => exact ⟨j + 1, by omega, by go_num, HN⟩
        case measure => simp [intOf]; omega
      · have hp2 : wdB s[j] = false := by simpa using hp
        have HN : Hid (T = j) := by
          show _ = _
          rw [HP.out, hd, List.takeWhile_cons_of_neg hp]
          rfl
        have hn : ¬ ((48 : Int) ≤ (s[j].toNat : Int) ∧ (s[j].toNat : Int) ≤ 57) := fun q => hp (hwd (by rw [hdg, decide_eq_true q]))
        rw [hp2] at HL
        clear hdg hwd hp hp2 hd HP
        by_cases q1 : (48 : Int) ≤ (s[j].toNat : Int)
        · have q2 : ¬ (s[j].toNat : Int) ≤ 57 := fun q => hn ⟨q1, q⟩
          clear hn
          go_wp2_with fail
          refine (HL.out _).mono ?_; rintro e w1 ⟨rfl, rfl⟩
          go_wp2_with fail
          go_ret
          exact ⟨ret_int (by rw [HN.out]), rfl⟩
        · clear hn
          go_wp2_with fail
          refine (HL.out _).mono ?_; rintro e w1 ⟨rfl, rfl⟩
          go_wp2_with fail
          go_ret
          exact ⟨ret_int (by rw [HN.out]), rfl⟩
    · have hlti : ¬ (j : Int) < (s.size : Int) := by omega
      have HN : Hid (T = j) := by
        show _ = _
        rw [HP.out, List.drop_of_length_le (by rw [len_of]; omega)]
        rfl
      clear HP
      go_wp2_with fail
      go_ret
      exact ⟨ret_int (by rw [HN.out]), rfl⟩

theorem word_ref_true (s : ByteArray) (hs : s.size ≤ 100000) (a : Nat) (ha : a ≤ s.size) (w : World) :
    Calls Tryd.prog 32 #[.string s, .int .i64 (a : Int), .bool true] w fun e w' => e = .returned (.int .i64 ((a + ((s.data.toList.drop a).takeWhile dgB).length : Nat) : Int)) ∧ w' = w := by
  obtain ⟨T, hT⟩ : ∃ T, a + ((s.data.toList.drop a).takeWhile dgB).length = T := ⟨_, rfl⟩
  rw [hT]
  have HT : Hid (T = a + ((s.data.toList.drop a).takeWhile dgB).length) := hT.symm
  clear hT
  go_enter Tryd.func32, Tryd.ntmps32
  go_wp2_with fail
  go_loop [1] (fun i => ∃ j : Nat, j ≤ s.size ∧ i = .int .i64 j ∧ Hid (T = j + ((s.data.toList.drop j).takeWhile dgB).length)) (fun i => s.size - (intOf i).toNat)
  case atStart => exact ⟨a, ha, rfl, HT⟩
  case round =>
    obtain ⟨j, hj, rfl, HP⟩ := hrel
    by_cases hlt : j < s.size
    · have hlti : (j : Int) < (s.size : Int) := by omega
      have hd := drop_at s j hlt
      have HL : Hid (∀ w, Calls Tryd.prog 31 #[.int .u8 (s[j].toNat : Int), .bool false] w fun e w' => e = .returned (.bool (wdB s[j])) ∧ w' = w) := fun w => by
        rw [← letB_wd]; exact letter_ref s[j] false w
      have hdg : dgB s[j] = decide ((48 : Int) ≤ (s[j].toNat : Int) ∧ (s[j].toNat : Int) ≤ 57) := by unfold dgB; rw [decide_eq_decide]; omega
      have hwd : dgB s[j] = true → wdB s[j] = true := fun h => by unfold wdB; rw [h]; simp
      by_cases hp : dgB s[j] = true
      · have HN : Hid (T = j + 1 + ((s.data.toList.drop (j + 1)).takeWhile dgB).length) := by
          show _ = _
          rw [HP.out, hd, List.takeWhile_cons_of_pos hp]
          simp; omega
        rw [hdg, decide_eq_true_eq] at hp
        obtain ⟨q1, q2⟩ := hp
        clear hdg hwd hd HP HL
        go_wp2_with fail
        go_round
        case rel => exact ⟨j + 1, by omega, by go_num, HN⟩
        case measure => simp [intOf]; omega
      · have hp2 : dgB s[j] = false := by simpa using hp
        have HN : Hid (T = j) := by
          show _ = _
          rw [HP.out, hd, List.takeWhile_cons_of_neg hp]
          rfl
        have hn : ¬ ((48 : Int) ≤ (s[j].toNat : Int) ∧ (s[j].toNat : Int) ≤ 57) := fun q => hp (by rw [hdg, decide_eq_true q])
        clear hdg hwd hp hp2 hd HP HL
        by_cases q1 : (48 : Int) ≤ (s[j].toNat : Int)
        · have q2 : ¬ (s[j].toNat : Int) ≤ 57 := fun q => hn ⟨q1, q⟩
          clear hn
          go_wp2_with fail
          go_ret
          exact ⟨ret_int (by rw [HN.out]), rfl⟩
        · clear hn
          go_wp2_with fail
          go_ret
          exact ⟨ret_int (by rw [HN.out]), rfl⟩
    · have hlti : ¬ (j : Int) < (s.size : Int) := by omega
      have HN : Hid (T = j) := by
        show _ = _
        rw [HP.out, List.drop_of_length_le (by rw [len_of]; omega)]
        rfl
      clear HP
      go_wp2_with fail
      go_ret
      exact ⟨ret_int (by rw [HN.out]), rfl⟩

theorem OwnB.new (w : World) (x : UInt8) {y : Int} (hy : (x.toNat : Int) = y) : OwnB (w.alloc (.cells #[.int .u8 y] 5)) w.heap.size (.slice (some ⟨w.heap.size, 0, none⟩) 1 1) [x] := by
  subst hy
  exact ⟨rfl, .inr ⟨w.heap.size, 1, #[.int .u8 (x.toNat : Int)], rfl, Nat.le_refl _, heap_alloc_new w _, Nat.le_refl _, by decide, rfl, rfl⟩⟩
theorem take_byte (s : ByteArray) (k : Nat) (h : k < s.size) : s.data.toList.take (k + 1) = s.data.toList.take k ++ [s[k]] := by
  rw [List.take_succ_eq_append_getElem (by simpa using h)]; rfl
theorem up_snoc (l : List UInt8) (c : UInt8) : up (l ++ [c]) = up l ++ [Lib.upperB c] := by simp [up, Lib.toUpperA]
theorem upper_yes {c : UInt8} (h1 : 97 ≤ (c.toNat : Int)) (h2 : (c.toNat : Int) ≤ 122) : ((Lib.upperB c).toNat : Int) = (c.toNat : Int) - 32 := by
  have a : (97 : UInt8) ≤ c := by rw [UInt8.le_iff_toNat_le]; show 97 ≤ c.toNat; omega
  have b : c ≤ (122 : UInt8) := by rw [UInt8.le_iff_toNat_le]; show c.toNat ≤ 122; omega
  unfold Lib.upperB Lib.isLowerB
  rw [decide_eq_true a, decide_eq_true b]
  simp only [Bool.and_true, if_true]
  rw [UInt8.toNat_sub]
  have : (32 : UInt8).toNat = 32 := rfl
  omega
theorem upper_no {c : UInt8} (h : ¬ (97 ≤ (c.toNat : Int) ∧ (c.toNat : Int) ≤ 122)) : Lib.upperB c = c := by
  unfold Lib.upperB Lib.isLowerB
  rw [if_neg]
  intro q
  simp only [Bool.and_eq_true, decide_eq_true_eq] at q
  have a := UInt8.le_iff_toNat_le.1 q.1
  have b := UInt8.le_iff_toNat_le.1 q.2
  have e1 : (97 : UInt8).toNat = 97 := rfl
  have e2 : (122 : UInt8).toNat = 122 := rfl
  exact h ⟨by omega, by omega⟩
theorem capital_ref (s : ByteArray) (hs : s.size ≤ 100000) (w : World) : Calls Tryd.prog 33 #[.string s] w fun e w' => e = .returned (.string ⟨(up s.data.toList).toArray⟩) ∧ Below w.heap.size w w' := by
  have H0 : Hid (OwnB w w.heap.size (.slice none 0 0) (up (s.data.toList.take 0))) := OwnB.nil _ _
  have HALL : Hid (s.data.toList.take s.size = s.data.toList) := List.take_of_length_le (by rw [len_of]; exact Nat.le_refl _)
  go_enter Tryd.func33, Tryd.ntmps33
  go_wp2_with fail
  go_loopw [3, 4] (fun v i wr => ∃ j : Nat, j ≤ s.size ∧ i = .int .i64 j ∧ Hid (OwnB wr w.heap.size v (up (s.data.toList.take j)) ∧ Below w.heap.size w wr)) (fun _ i _ => s.size - (intOf i).toNat)
  case atStart => exact ⟨0, Nat.zero_le _, rfl, H0.out, Below.refl _ _⟩
  case round =>
    obtain ⟨j, hj, rfl, HI⟩ := hrel
    by_cases hlt : j < s.size
    · have hlti : (j : Int) < (s.size : Int) := by omega
      have hln : (up (s.data.toList.take j)).length ≤ 1000000 := by rw [up_len, List.length_take]; omega
      by_cases q1 : (97 : Int) ≤ (s[j].toNat : Int)
      · by_cases q2 : (s[j].toNat : Int) ≤ 122
        · obtain ⟨v2, w2, ra, o2, b2, _, _⟩ := append_byte HI.out.1 (Lib.upperB s[j]) hln HI.out.2.size
          rw [upper_yes q1 q2] at ra
          rw [← up_snoc, ← take_byte s j hlt] at o2
          have RA : Hid ((Builtin.append_ #[35, 35] 35 #[u3, .slice (some ⟨wr.heap.size, 0, none⟩) 1 1]).run Tryd.prog (wr.alloc (.cells #[.int .u8 ((s[j].toNat : Int) - 32)] 5)) = .ok v2 w2) := ra
          have HE : Hid (OwnB w2 w.heap.size v2 (up (s.data.toList.take (j + 1))) ∧ Below w.heap.size w w2) := ⟨o2, HI.out.2.trans b2⟩
          clear ra o2 b2 HI hln
          go_wp2_with (first | ((with_reducible apply st_append (x := .tmp 23)); (case ho => rfl); (case hgd => rfl); (case hr => exact RA.out)))
          go_roundw
          case rel => exact ⟨j + 1, by omega, by go_num, HE⟩
          case measure => simp [intOf]; omega
        · obtain ⟨v2, w2, ra, o2, b2, _, _⟩ := append_byte HI.out.1 (Lib.upperB s[j]) hln HI.out.2.size
          rw [← up_snoc, ← take_byte s j hlt] at o2
          rw [upper_no (by omega)] at ra
          have RA : Hid ((Builtin.append_ #[35, 35] 35 #[u3, .slice (some ⟨wr.heap.size, 0, none⟩) 1 1]).run Tryd.prog (wr.alloc (.cells #[.int .u8 (s[j].toNat : Int)] 5)) = .ok v2 w2) := ra
          have HE : Hid (OwnB w2 w.heap.size v2 (up (s.data.toList.take (j + 1))) ∧ Below w.heap.size w w2) := ⟨o2, HI.out.2.trans b2⟩
          clear ra o2 b2 HI hln
          go_wp2_with (first | ((with_reducible apply st_append (x := .tmp 23)); (case ho => rfl); (case hgd => rfl); (case hr => exact RA.out)))
          go_roundw
          case rel => exact ⟨j + 1, by omega, by go_num, HE⟩
          case measure => simp [intOf]; omega
      · obtain ⟨v2, w2, ra, o2, b2, _, _⟩ := append_byte HI.out.1 (Lib.upperB s[j]) hln HI.out.2.size
        rw [← up_snoc, ← take_byte s j hlt] at o2
        rw [upper_no (by omega)] at ra
        have RA : Hid ((Builtin.append_ #[35, 35] 35 #[u3, .slice (some ⟨wr.heap.size, 0, none⟩) 1 1]).run Tryd.prog (wr.alloc (.cells #[.int .u8 (s[j].toNat : Int)] 5)) = .ok v2 w2) := ra
        have HE : Hid (OwnB w2 w.heap.size v2 (up (s.data.toList.take (j + 1))) ∧ Below w.heap.size w w2) := ⟨o2, HI.out.2.trans b2⟩
        clear ra o2 b2 HI hln
        go_wp2_with (first | ((with_reducible apply st_append (x := .tmp 23)); (case ho => rfl); (case hgd => rfl); (case hr => exact RA.out)))
        go_roundw
        case rel => exact ⟨j + 1, by omega, by go_num, HE⟩
        case measure => simp [intOf]; omega
    · have hlti : ¬ (j : Int) < (s.size : Int) := by omega
      obtain rfl : j = s.size := by omega
      have o := HI.out.1
      rw [HALL.out] at o
      have cv := o.str
      have HB : Hid (Below w.heap.size w wr) := HI.out.2
      clear HI o
      go_wp2_with fail
      go_ret
      exact ⟨rfl, HB.out⟩
theorem tw_whole' (p : UInt8 → Bool) (l : List UInt8) (h : l.all p = true) : l.takeWhile p = l := by
  have := List.takeWhile_append_of_pos (p := p) (l₁ := l) (l₂ := []) (by rw [List.all_eq_true] at h; exact h)
  simpa using this
/-- Whether a text is a name: by the document. -/
theorem wordB_is (l : List UInt8) : wordB l = decide (l ≠ [] ∧ l.length ≤ 64 ∧ ltB (l.headD 0) = true ∧ (l.takeWhile wdB).length = l.length ∧ keyB (up l) = false) := by
  cases h : wordB l
  · symm
    rw [decide_eq_false_iff_not]
    rintro ⟨h0, h1, h2, h3, h4⟩
    have e : l.takeWhile wdB = l := by
      have := take_tw wdB l
      rw [h3, List.take_length] at this
      exact this.symm
    have hf : firstV l = ⟨1, l, 0, l.length⟩ := by
      unfold firstV
      rw [if_pos h2]
      unfold wordV
      rw [e, if_neg (by omega), if_neg (by rw [h4]; exact fun q => by cases q)]
    unfold wordB at h
    rw [hf] at h
    simp [h0] at h
  · symm
    rw [decide_eq_true_eq]
    obtain ⟨a, b, c, d, e⟩ := wordB_parts h
    exact ⟨a, d, b, by rw [tw_whole' wdB l c], e⟩
theorem word_r_empty (w : World) : Calls Tryd.prog 17 #[.string ⟨#[]⟩] w fun e w' => e = .returned (.bool false) ∧ Below w.heap.size w w' := by
  go_enter Tryd.func17, Tryd.ntmps17
  go_wp2_with fail
  go_ret
  exact ⟨rfl, Below.refl _ _⟩
theorem word_r_long (s : ByteArray) (h0 : s.toList.isEmpty = false) (h1 : ¬ s.toList = []) (hl : 64 < (s.size : Int)) (w : World) : Calls Tryd.prog 17 #[.string s] w fun e w' => e = .returned (.bool false) ∧ Below w.heap.size w w' := by
  go_enter Tryd.func17, Tryd.ntmps17
  go_wp2_with fail
  go_ret
  exact ⟨rfl, Below.refl _ _⟩
theorem word_r_first (s : ByteArray) (h0 : s.toList.isEmpty = false) (h1 : ¬ s.toList = []) (hp : 0 < s.size) (hl : ¬ 64 < (s.size : Int)) (H : Hid (∀ w, Calls Tryd.prog 31 #[.int .u8 (s[0].toNat : Int), .bool true] w fun e w' => e = .returned (.bool false) ∧ w' = w)) (w : World) : Calls Tryd.prog 17 #[.string s] w fun e w' => e = .returned (.bool false) ∧ Below w.heap.size w w' := by
  have hpi : (0 : Int) < (s.size : Int) := by omega
  go_enter Tryd.func17, Tryd.ntmps17
  go_wp2_with fail
  refine (H.out _).mono ?_; rintro e w1 ⟨rfl, rfl⟩
  go_wp2_with fail
  go_ret
  exact ⟨rfl, Below.refl _ _⟩
theorem word_r_in (s : ByteArray) (h0 : s.toList.isEmpty = false) (h1 : ¬ s.toList = []) (hp : 0 < s.size) (hl : ¬ 64 < (s.size : Int)) (n : Int) (hn : (n != (s.size : Int)) = true) (H : Hid (∀ w, Calls Tryd.prog 31 #[.int .u8 (s[0].toNat : Int), .bool true] w fun e w' => e = .returned (.bool true) ∧ w' = w)) (H2 : Hid (∀ w, Calls Tryd.prog 32 #[.string s, .int .i64 0, .bool false] w fun e w' => e = .returned (.int .i64 n) ∧ w' = w)) (w : World) : Calls Tryd.prog 17 #[.string s] w fun e w' => e = .returned (.bool false) ∧ Below w.heap.size w w' := by
  have hpi : (0 : Int) < (s.size : Int) := by omega
  go_enter Tryd.func17, Tryd.ntmps17
  go_wp2_with fail
  refine (H.out _).mono ?_; rintro e w1 ⟨rfl, rfl⟩
  go_wp2_with fail
  refine (H2.out _).mono ?_; rintro e w2 ⟨rfl, rfl⟩
  go_wp2_with fail
  go_ret
  exact ⟨rfl, Below.refl _ _⟩
theorem word_r_key (s U : ByteArray) (kb : Bool) (h0 : s.toList.isEmpty = false) (h1 : ¬ s.toList = []) (hp : 0 < s.size) (hl : ¬ 64 < (s.size : Int)) (H : Hid (∀ w, Calls Tryd.prog 31 #[.int .u8 (s[0].toNat : Int), .bool true] w fun e w' => e = .returned (.bool true) ∧ w' = w)) (H2 : Hid (∀ w, Calls Tryd.prog 32 #[.string s, .int .i64 0, .bool false] w fun e w' => e = .returned (.int .i64 (s.size : Int)) ∧ w' = w))
    (H3 : Hid (∀ w, Calls Tryd.prog 33 #[.string s] w fun e w' => e = .returned (.string U) ∧ Below w.heap.size w w')) (H4 : Hid (∀ w, Calls Tryd.prog 15 #[.string U] w fun e w' => e = .returned (.bool kb) ∧ Below w.heap.size w w')) (w : World) : Calls Tryd.prog 17 #[.string s] w fun e w' => e = .returned (.bool (!kb)) ∧ Below w.heap.size w w' := by
  have hpi : (0 : Int) < (s.size : Int) := by omega
  go_enter Tryd.func17, Tryd.ntmps17
  go_wp2_with fail
  refine (H.out _).mono ?_; rintro e w1 ⟨rfl, rfl⟩
  go_wp2_with fail
  refine (H2.out _).mono ?_; rintro e w2 ⟨rfl, rfl⟩
  go_wp2_with fail
  refine (H3.out _).mono ?_; rintro e w3 ⟨rfl, k3⟩
  have HK3 : Hid (Below w2.heap.size w2 w3) := k3
  clear k3
  go_wp2_with fail
  refine (H4.out _).mono ?_; rintro e w4 ⟨rfl, k4⟩
  have HK4 : Hid (Below w2.heap.size w2 w4) := Below.next HK3.out k4
  clear k4
  go_wp2_with fail
  go_ret
  exact ⟨rfl, HK4.out⟩
theorem word_ref (s : ByteArray) (hs : s.size ≤ 100000) (w : World) : Calls Tryd.prog 17 #[.string s] w fun e w' => e = .returned (.bool (wordB s.data.toList)) ∧ Below w.heap.size w w' := by
  rw [wordB_is]
  by_cases h : s.data.toList = []
  · rw [decide_eq_false (fun q => q.1 h), ba_nil h]
    exact word_r_empty w
  have h1 : ¬ s.toList = [] := by rw [ByteArray.toList_eq]; exact h
  have h0 : s.toList.isEmpty = false := by simpa using h1
  have hp : 0 < s.size := by
    rw [← len_of]
    exact List.length_pos_iff.2 h
  by_cases hl : 64 < s.size
  · rw [decide_eq_false (fun q => by have := q.2.1; rw [len_of] at this; omega)]
    exact word_r_long s h0 h1 (by omega) w
  have hd := drop_at s 0 hp
  rw [List.drop_zero] at hd
  have hh : s.data.toList.headD 0 = s[0] := by rw [hd]; rfl
  have hL := fun w => letter_ref s[0] true w
  have e1 : letB s[0] true = ltB s[0] := by unfold letB; simp
  rw [e1] at hL
  cases hf : ltB s[0]
  · rw [hf] at hL
    rw [decide_eq_false (fun q => by have := q.2.2.1; rw [hh, hf] at this; cases this)]
    exact word_r_first s h0 h1 hp (by omega) hL w
  rw [hf] at hL
  have hW := fun w => word_ref_false s hs 0 (by omega) w
  simp only [List.drop_zero, Nat.zero_add] at hW
  by_cases hn : (s.data.toList.takeWhile wdB).length = s.size
  · rw [hn] at hW
    have hC := fun w => capital_ref s hs w
    have hK := fun w => key_ref ⟨(up s.data.toList).toArray⟩ w
    have := word_r_key s ⟨(up s.data.toList).toArray⟩ (keyB (up s.data.toList)) h0 h1 hp (by omega) hL hW hC hK w
    have e2 : decide (s.data.toList ≠ [] ∧ s.data.toList.length ≤ 64 ∧ ltB (s.data.toList.headD 0) = true ∧ (s.data.toList.takeWhile wdB).length = s.data.toList.length ∧ keyB (up s.data.toList) = false) = !keyB (up s.data.toList) := by
      rw [hh, hf, hn, len_of]
      cases keyB (up s.data.toList)
      · rw [decide_eq_true ⟨h, by omega, rfl, rfl, rfl⟩]; rfl
      · rw [decide_eq_false (fun q => by cases q.2.2.2.2)]; rfl
    rw [e2]
    exact this
  · rw [decide_eq_false (fun q => hn (by rw [q.2.2.2.1, len_of]))]
    exact word_r_in s h0 h1 hp (by omega) _ (by simp; omega) hL hW w
end Go.Proofs.YtgokilochbnbaaaDoor
