/- Behind blanks and remarks: never ahead. -/
import Derived.Test.YtgokilochbnbaaaDoorRt
namespace Go.Proofs.YtgokilochbnbaaaDoor
open Go.ChangeShapes Go.WideShapes Go.ChangeAt Go.RowKit
set_option linter.unusedVariables false
set_option maxRecDepth 100000

/-- As SkipL, and nothing stands ahead of where it began. -/
def SkipL (s : ByteArray) (a : Nat) (nx b : Int) : Prop :=
  (∃ j : Nat, nx = (j : Int) ∧ b = (j : Int) ∧ a ≤ j ∧ j ≤ s.size ∧ LX (s.data.toList.drop a) a = LX (s.data.toList.drop j) j ∧ (j < s.size → gapN (s.data.toList.drop j) = 0 ∧ Lib.hasPrefix (s.data.toList.drop j) [47, 42] = false)) ∨
  (∃ j : Nat, nx = -1 ∧ b = (j : Int) ∧ LX (s.data.toList.drop a) a = ([], some j))
set_option maxHeartbeats 2000000 in
theorem skip_le (s : ByteArray) (hs : s.size ≤ 100000) (a : Nat) (ha : a ≤ s.size) (w : World) :
    Calls Tryd.prog 21 #[.string s, .int .i64 (a : Int)] w fun e w' => (∃ nx b, e = .returned (.tuple #[.int .i64 nx, .int .i64 b]) ∧ SkipL s a nx b) ∧ w' = w := by
  obtain ⟨T, hT⟩ : ∃ T, LX (s.data.toList.drop a) a = T := ⟨_, rfl⟩
  have HT : Hid (LX (s.data.toList.drop a) a = T) := hT
  clear hT
  go_enter Tryd.func21, Tryd.ntmps21
  go_wp2_with fail
  go_loop [1] (fun i => ∃ j : Nat, (j ≤ s.size ∧ Hid (a ≤ j)) ∧ i = .int .i64 j ∧ Hid (T = LX (s.data.toList.drop j) j)) (fun i => s.size - (intOf i).toNat)
  case atStart => exact ⟨a, ⟨ha, Nat.le_refl a⟩, rfl, HT.out.symm⟩
  case round =>
    obtain ⟨j, ⟨hj, HAJ⟩, rfl, HP⟩ := hrel
    by_cases hlt : j < s.size
    · have hlti : (j : Int) < (s.size : Int) := by omega
      have hd := drop_at s j hlt
      have H1 : Hid (∀ w, Calls Tryd.prog 47 #[.string s, .int .i64 (j : Int), .string ⟨#[45, 45]⟩] w fun e w' => e = .returned (.bool (Lib.hasPrefix (s.data.toList.drop j) [45, 45])) ∧ w' = w) := fun w => begins_ref s ⟨#[45, 45]⟩ hs (by decide) j hj w
      have H2 : Hid (∀ w, Calls Tryd.prog 47 #[.string s, .int .i64 (j : Int), .string ⟨#[47, 42]⟩] w fun e w' => e = .returned (.bool (Lib.hasPrefix (s.data.toList.drop j) [47, 42])) ∧ w' = w) := fun w => begins_ref s ⟨#[47, 42]⟩ hs (by decide) j hj w
      have HBL : Hid (blB s[j] = ((decide ((s[j].toNat : Int) = 9)) || (decide ((s[j].toNat : Int) = 10)) || (decide ((s[j].toNat : Int) = 13)) || (decide ((s[j].toNat : Int) = 32)))) := by
        show _ = _
        rw [bl_of, Bool.eq_iff_iff]; simp; omega
      by_cases hb : blB s[j] = true
      · have HN : Hid (T = LX (s.data.toList.drop (j + 1)) (j + 1)) := by
          show _ = _
          rw [HP.out, hd, LX_blank hb]
        have q4 : ((s[j].toNat : Int) == 9) = true ∨ (((s[j].toNat : Int) == 9) = false ∧ ((s[j].toNat : Int) == 10) = true) ∨ (((s[j].toNat : Int) == 9) = false ∧ ((s[j].toNat : Int) == 10) = false ∧ ((s[j].toNat : Int) == 13) = true) ∨ (((s[j].toNat : Int) == 9) = false ∧ ((s[j].toNat : Int) == 10) = false ∧ ((s[j].toNat : Int) == 13) = false ∧ ((s[j].toNat : Int) == 32) = true) := by
          have := HBL.out
          rw [hb] at this
          simp only [beq_eq]
          simp at this ⊢
          omega
        clear HBL H1 H2 hd HP hb
        rcases q4 with q1 | ⟨q1, q2⟩ | ⟨q1, q2, q3⟩ | ⟨q1, q2, q3, q4⟩
        all_goals go_wp2_with fail
        all_goals go_round
        all_goals first | exact ⟨j + 1, ⟨by omega, Nat.le_succ_of_le HAJ.out⟩, by go_num, HN⟩ | (simp [intOf]; omega)
      · have q4 : ((s[j].toNat : Int) == 9) = false ∧ ((s[j].toNat : Int) == 10) = false ∧ ((s[j].toNat : Int) == 13) = false ∧ ((s[j].toNat : Int) == 32) = false := by
          have := HBL.out
          rw [show blB s[j] = false by simpa using hb] at this
          simp only [beq_eq]
          simp at this ⊢
          omega
        obtain ⟨q1, q2, q3, q4⟩ := q4
        cases hp : Lib.hasPrefix (s.data.toList.drop j) [45, 45]
        · rw [hp] at H1
          cases hr : Lib.hasPrefix (s.data.toList.drop j) [47, 42]
          · have hg : gapN (s.data.toList.drop j) = 0 := by
              unfold gapN
              rw [hp, hr, hd, List.takeWhile_cons_of_neg hb]
              rfl
            rw [hr] at H2
            have HR : Hid (SkipL s a (j : Int) (j : Int)) := .inl ⟨j, rfl, rfl, HAJ.out, hj, by rw [HT.out, HP.out], fun _ => ⟨hg, hr⟩⟩
            clear HBL hd hb hp hr hg HP
            go_wp2_with fail
            refine (H1.out _).mono ?_; rintro e w1 ⟨rfl, rfl⟩
            go_wp2_with fail
            refine (H2.out _).mono ?_; rintro e w2 ⟨rfl, rfl⟩
            go_wp2_with fail
            go_ret2
            exact ⟨⟨_, _, rfl, HR.out⟩, rfl⟩
          · rw [hr] at H2
            have HRM : Hid (Lib.hasPrefix (s.data.toList.drop j) [47, 42] = true) := hr
            have hj2 : j + 2 ≤ s.size := by
              have := pre_len hr
              rw [List.length_drop, len_of] at this
              simp at this
              omega
            have hw2 : wrap64 ((j : Int) + 2) = ((j + 2 : Nat) : Int) := by unfold wrap64; omega
            have HW2 : Hid (wrap64 ((j : Int) + 2) = ((j + 2 : Nat) : Int)) := hw2
            clear HBL hd hb hp hr hw2
            go_wp2_with fail
            refine (H1.out _).mono ?_; rintro e w1 ⟨rfl, rfl⟩
            go_wp2_with fail
            refine (H2.out _).mono ?_; rintro e w2 ⟨rfl, rfl⟩
            go_wp2_with fail
            go_loop [7] (fun i => ∃ m : Nat, j + 2 ≤ m ∧ m ≤ s.size ∧ i = .int .i64 m ∧ Hid (∀ i, j + 2 ≤ i → i < m → Lib.hasPrefix (s.data.toList.drop i) [42, 47] = false)) (fun i => s.size - (intOf i).toNat)
            case atStart => exact ⟨j + 2, Nat.le_refl _, hj2, by first | rw [HW2.out] | go_num, fun i h1 h2 => by omega⟩
            case round =>
              obtain ⟨m, hm1, hm2, rfl, HM⟩ := hrel
              by_cases hmt : m < s.size
              · have hmti : (m : Int) < (s.size : Int) := by omega
                have H3 : Hid (∀ w, Calls Tryd.prog 47 #[.string s, .int .i64 (m : Int), .string ⟨#[42, 47]⟩] w fun e w' => e = .returned (.bool (Lib.hasPrefix (s.data.toList.drop m) [42, 47])) ∧ w' = w) := fun w => begins_ref s ⟨#[42, 47]⟩ hs (by decide) m hm2 w
                cases hq : Lib.hasPrefix (s.data.toList.drop m) [42, 47]
                · rw [hq] at H3
                  have HM2 : Hid (∀ i, j + 2 ≤ i → i < m + 1 → Lib.hasPrefix (s.data.toList.drop i) [42, 47] = false) := fun i h1 h2 => by
                    by_cases e : i = m
                    · rw [e]; exact hq
                    · exact HM.out i h1 (by omega)
                  clear HM hq
                  go_wp2_with fail
                  refine (H3.out _).mono ?_; rintro e w3 ⟨rfl, rfl⟩
                  go_wp2_with fail
                  go_round
                  case rel => exact ⟨m + 1, by omega, by omega, by go_num, HM2⟩
                  case measure => simp [intOf]; omega
                · rw [hq] at H3
                  have HAM : Hid (a ≤ m + 2) := by
                    have := HAJ.out
                    show _ ≤ _
                    omega
                  have hm4 : m + 2 ≤ s.size := by
                    have := pre_len hq
                    rw [List.length_drop, len_of] at this
                    simp at this
                    omega
                  have hix : Lib.index ((s.data.toList.drop j).drop 2) [42, 47] = ((m - (j + 2) : Nat) : Int) := by
                    rw [List.drop_drop]
                    refine Lib.index_first (by rw [List.length_drop, len_of]; omega) ?_ (fun i hi => ?_)
                    · rw [occ_drop, show j + 2 + (m - (j + 2)) = m by omega]; exact hq
                    · rw [occ_drop]; exact HM.out _ (by omega) (by omega)
                  have HN : Hid (T = LX (s.data.toList.drop (m + 2)) (m + 2)) := by
                    show _ = _
                    rw [HP.out, LX_remark HRM.out hix, List.drop_drop]
                    rw [show j + (m - (j + 2) + 4) = m + 2 by omega]
                  clear HM hq hix HP HRM
                  go_wp2_with fail
                  refine (H3.out _).mono ?_; rintro e w3 ⟨rfl, rfl⟩
                  go_wp2_with fail
                  go_round
                  case rel => exact ⟨m + 2, ⟨by omega, HAM⟩, by go_num, HN⟩
                  case measure => simp [intOf]; omega
              · have hmti : ¬ (m : Int) < (s.size : Int) := by omega
                have hmge : (s.size : Int) ≤ (m : Int) := by omega
                have hix : Lib.index ((s.data.toList.drop j).drop 2) [42, 47] = -1 := by
                  rw [List.drop_drop]
                  refine Lib.index_none (fun i hi => ?_)
                  rw [List.length_drop, len_of] at hi
                  rw [occ_drop]
                  by_cases e : j + 2 + i < m
                  · exact HM.out _ (by omega) e
                  · rw [List.drop_of_length_le (by rw [len_of]; omega)]
                    rfl
                have HR : Hid (SkipL s a (-1) (j : Int)) := .inr ⟨j, rfl, rfl, by rw [HT.out, HP.out, LX_open HRM.out hix]⟩
                clear HM hix HP HRM
                go_wp2_with fail
                go_ret2
                exact ⟨⟨_, _, rfl, HR.out⟩, rfl⟩
        · rw [hp] at H1
          obtain ⟨hl1, hl2⟩ := LX_line (a := j) hp
          have hnl := tw_len nlB (s.extract j s.size)
          rw [tail_data] at hnl
          obtain ⟨N, hN⟩ : ∃ N, j + ((s.data.toList.drop j).takeWhile nlB).length = N := ⟨_, rfl⟩
          have hNs : N ≤ s.size := by
            have := (List.takeWhile_prefix (l := s.data.toList.drop j) nlB).length_le
            rw [List.length_drop, len_of] at this
            omega
          have HN : Hid (T = LX (s.data.toList.drop N) N) := by
            show _ = _
            rw [HP.out, hl1, List.drop_drop, hN]
          have hjN : j < N := by omega
          have HAN : Hid (a ≤ N) := by
            have := HAJ.out
            show _ ≤ _
            omega
          have HS0 : Hid (N = j + ((s.data.toList.drop j).takeWhile nlB).length) := hN.symm
          clear HBL hd hb hp hl1 hl2 hnl hN HP H2
          go_wp2_with fail
          refine (H1.out _).mono ?_; rintro e w1 ⟨rfl, rfl⟩
          go_wp2_with fail
          go_loop [1] (fun i => ∃ m : Nat, m ≤ s.size ∧ i = .int .i64 m ∧ Hid (N = m + ((s.data.toList.drop m).takeWhile nlB).length)) (fun i => s.size - (intOf i).toNat)
          case atStart => exact ⟨j, by omega, rfl, HS0⟩
          case round =>
            obtain ⟨m, hm2, rfl, HM⟩ := hrel
            by_cases hmt : m < s.size
            · have hmti : (m : Int) < (s.size : Int) := by omega
              have hdm := drop_at s m hmt
              by_cases hq : nlB s[m] = true
              · have HM2 : Hid (N = m + 1 + ((s.data.toList.drop (m + 1)).takeWhile nlB).length) := by
                  show _ = _
                  have e := HM.out
                  rw [hdm, List.takeWhile_cons_of_pos hq, List.length_cons] at e
                  omega
                have q5 : ((s[m].toNat : Int) == 10) = false := by
                  rw [beq_eq, decide_eq_false_iff_not]
                  intro e
                  have : s[m] = 10 := UInt8.toNat_inj.1 (by simpa using Int.ofNat_inj.1 e)
                  rw [this] at hq; revert hq; decide
                have q6 : ((s[m].toNat : Int) != 10) = true := by simp [bne, q5]
                clear hdm hq HM
                go_wp2_with fail
                go_round
                case rel => exact ⟨m + 1, by omega, by go_num, HM2⟩
                case measure => simp [intOf]; omega
              · have hm : N = m := by
                  have e := HM.out
                  rw [hdm, List.takeWhile_cons_of_neg hq] at e
                  simpa using e
                have q5 : ((s[m].toNat : Int) == 10) = true := by
                  rw [beq_eq, decide_eq_true_eq]
                  have : s[m] = 10 := by
                    have h := hq
                    unfold nlB at h
                    simpa using h
                  rw [this]; rfl
                have q6 : ((s[m].toNat : Int) != 10) = false := by simp [bne, q5]
                clear hdm hq HM
                go_wp2_with fail
                go_round
                case rel => exact ⟨m, ⟨by omega, hm ▸ HAN⟩, rfl, hm ▸ HN⟩
                case measure => simp [intOf]; omega
            · have hmti : ¬ (m : Int) < (s.size : Int) := by omega
              have hm : N = m := by
                have e := HM.out
                rw [List.drop_of_length_le (by rw [len_of]; omega)] at e
                simpa using e
              clear HM
              go_wp2_with fail
              go_round
              case rel => exact ⟨m, ⟨by omega, hm ▸ HAN⟩, rfl, hm ▸ HN⟩
              case measure => simp [intOf]; omega
    · have hlti : ¬ (j : Int) < (s.size : Int) := by omega
      have HR : Hid (SkipL s a (j : Int) (j : Int)) := .inl ⟨j, rfl, rfl, HAJ.out, hj, by rw [HT.out, HP.out], fun h => absurd h hlt⟩
      clear HP
      go_wp2_with fail
      go_ret2
      exact ⟨⟨_, _, rfl, HR.out⟩, rfl⟩
end Go.Proofs.YtgokilochbnbaaaDoor
