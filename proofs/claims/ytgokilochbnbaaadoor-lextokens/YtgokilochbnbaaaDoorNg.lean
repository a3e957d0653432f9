/- Contract of the document's Read (package quaysideref01). -/
import Derived.Test.YtgokilochbnbaaaDoorNr
import Derived.Test.YtgokilochbnbaaaDoorNm
namespace Go.Proofs.YtgokilochbnbaaaDoor.Num
open Go.ChangeShapes Go.WideShapes Go.ChangeAt Go.RowKit
set_option linter.unusedVariables false
set_option maxRecDepth 100000

theorem ret_both {a b c d : Int} (h1 : a = c) (h2 : b = d) : Ending.returned (.tuple #[.int .i64 a, .int .i64 b]) = .returned (.tuple #[.int .i64 c, .int .i64 d]) := by rw [h1, h2]

theorem refRead_yes_empty (s : ByteArray) (hs : s.size ≤ 140737488351232) (hp : 0 < s.size) (h45 : ((s[0].toNat : Int) == 45) = true) (D : ByteArray) (hD : s.extract 1 s.size = D) (h : D.toList = []) (w : World) :
    Calls Tryd.prog 49 #[.string s] w fun e w' => e = .returned (.tuple #[.int .i64 0, .int .i64 1]) ∧ w' = w := by
  have h1 : D.toList.isEmpty = true := by simpa using h
  go_enter Tryd.func49, Tryd.ntmps49
  go_wp2
  go_ret2
  exact ⟨rfl, rfl⟩

theorem refRead_yes_nought (s : ByteArray) (hs : s.size ≤ 140737488351232) (hp : 0 < s.size) (h45 : ((s[0].toNat : Int) == 45) = true) (D : ByteArray) (hD : s.extract 1 s.size = D) (hq : 0 < D.size) (h48 : ((D[0].toNat : Int) == 48) = true) (w : World) :
    Calls Tryd.prog 49 #[.string s] w fun e w' => e = .returned (.tuple #[.int .i64 0, .int .i64 1]) ∧ w' = w := by
  have hne : D.toList.isEmpty = false := ne_of D (by omega)
  have hne' : ¬ D.toList = [] := by simpa using hne
  by_cases c1 : 1 < D.size
  · go_enter Tryd.func49, Tryd.ntmps49
    go_wp2
    go_ret2
    exact ⟨rfl, rfl⟩
  · go_enter Tryd.func49, Tryd.ntmps49
    go_wp2
    go_ret2
    exact ⟨rfl, rfl⟩

set_option maxHeartbeats 2000000 in
theorem refRead_yes_plain (s : ByteArray) (hs : s.size ≤ 140737488351232) (hp : 0 < s.size) (h45 : ((s[0].toNat : Int) == 45) = true) (D : ByteArray) (hD : s.extract 1 s.size = D) (hq : 0 < D.size) (h48 : ((D[0].toNat : Int) == 48) = false) (hds : D.size ≤ 140737488351232) (V E : Int)
    (fb : D.data.toList.all dig = false → 0 = V ∧ 1 = E) (fg : D.data.toList.all dig = true → vl (-(num D.data.toList : Int)) = V ∧ er (-(num D.data.toList : Int)) = E) (w : World) :
    Calls Tryd.prog 49 #[.string s] w fun e w' => e = .returned (.tuple #[.int .i64 V, .int .i64 E]) ∧ Below w.heap.size w w' := by
  have hne : D.toList.isEmpty = false := ne_of D (by omega)
  have hne' : ¬ D.toList = [] := by simpa using hne
  have FG : Hid (D.data.toList.all dig = true → vl (-(num D.data.toList : Int)) = V ∧ er (-(num D.data.toList : Int)) = E) := fg
  have FB : Hid (∀ k (hk : k < D.size), ¬ ((48 : Int) ≤ (D[k].toNat : Int) ∧ (D[k].toNat : Int) ≤ 57) → 0 = V ∧ 1 = E) := fun k hk hd => by
    refine fb ?_
    rw [all_split hk, List.all_append, List.all_cons, dig_int, decide_eq_false hd]
    simp
  clear fb fg
  go_enter Tryd.func49, Tryd.ntmps49
  go_wp2
  go_loop [6] (fun i => ∃ k : Nat, k ≤ D.size ∧ i = .int .i64 k ∧ Hid ((D.data.toList.take k).all dig = true)) (fun i => D.size - (intOf i).toNat)
  case atStart => exact ⟨0, Nat.zero_le _, rfl, rfl⟩
  case round =>
    obtain ⟨k, hk, rfl, HA⟩ := hrel
    by_cases hlt : k < D.size
    · have hd := dig_int (c := D[k])
      have HD : Hid (dig D[k] = decide ((48 : Int) ≤ (D[k].toNat : Int) ∧ (D[k].toNat : Int) ≤ 57)) := hd
      clear hd
      by_cases g1 : (48 : Int) ≤ (D[k].toNat : Int)
      · by_cases g2 : (D[k].toNat : Int) ≤ 57
        · go_wp2
          go_round
          case rel =>
            refine ⟨k + 1, by omega, by go_num, ?_⟩
            show _ = _
            rw [take_snoc D k hlt, List.all_append, HA.out]
            simp [HD.out]; omega
          case measure => simp [intOf]; omega
        · go_wp2
          go_ret2
          exact ⟨ret_both (FB.out k hlt (by omega)).1 (FB.out k hlt (by omega)).2, Below.refl _ _⟩
      · go_wp2
        go_ret2
        exact ⟨ret_both (FB.out k hlt (by omega)).1 (FB.out k hlt (by omega)).2, Below.refl _ _⟩
    · obtain rfl : k = D.size := by omega
      have AD : Hid (D.data.toList.all dig = true) := by have := HA.out; rw [take_all] at this; exact this
      have FV : Hid (vl (-(num D.data.toList : Int)) = V ∧ er (-(num D.data.toList : Int)) = E) := FG.out AD.out
      clear HA FG FB
      go_wp2
      go_loopw [7, 8] (fun n i wr => ∃ (j : Nat) (y : Int), j ≤ D.size ∧ i = .int .i64 j ∧ n = .int .i64 y ∧ Hid (y = -(num (D.data.toList.take j) : Int)) ∧ -9223372036854775808 ≤ y ∧ y ≤ 0 ∧ Below w.heap.size w wr)
        (fun _ i _ => D.size - (intOf i).toNat)
      case atStart => exact ⟨0, 0, Nat.zero_le _, rfl, rfl, rfl, by omega, by omega, Below.refl _ _⟩
      case round =>
        obtain ⟨j, y, hj, rfl, rfl, HY, hy1, hy2, KB⟩ := hrel
        by_cases hlt : j < D.size
        · have hb := dig_at AD.out hlt
          have HS : Hid ((num (D.data.toList.take (j + 1)) : Int) = (num (D.data.toList.take j) : Int) * 10 + ((D[j].toNat : Int) - 48)) := by
            show _ = _
            rw [take_snoc D j hlt, num_snoc]
            omega
          have HT : Hid ((num (D.data.toList.take (j + 1)) : Int) ≤ (num D.data.toList : Int)) := by
            have := num_take D.data.toList (j + 1)
            show _ ≤ _
            omega
          have FO : Hid ((num (D.data.toList.take (j + 1)) : Int) > 9223372036854775808 → 0 = V ∧ 10 = E) := fun h => by
            have h1 := HT.out
            have h2 := FV.out
            have ho : ¬ (-9223372036854775808 ≤ -(num D.data.toList : Int) ∧ -(num D.data.toList : Int) ≤ 9223372036854775807) := by omega
            rw [(vl_out ho).1, (vl_out ho).2] at h2
            exact h2
          by_cases c1 : -9223372036854775808 ≤ y * 10
          · have hv := vl_in (x := y * 10) ⟨c1, by omega⟩
            have H1 : Hid (∀ w, Calls Tryd.prog 66 #[.int .i64 y, .int .i64 10] w fun e w' => e = .returned (.tuple #[.int .i64 (y * 10), .int .i64 0]) ∧ Below w.heap.size w w') := fun w => by
              have h := refMul_any y 10 (by omega) (by omega) w
              rwa [hv.1, hv.2] at h
            clear hv
            by_cases c2 : -9223372036854775808 ≤ y * 10 - ((D[j].toNat : Int) - 48)
            · go_wp2_with fail
              refine (H1.out _).mono ?_; rintro e w1 ⟨rfl, k1⟩
              go_wp2_with fail
              refine (refSub_in (y * 10) ((D[j].toNat : Int) - 48) (by omega) (by omega) (by omega) _).mono ?_; rintro e w2 ⟨rfl, k2⟩
              go_wp2_with fail
              go_roundw
              case rel =>
                refine ⟨j + 1, _, by omega, by go_num, rfl, ?_, c2, by omega, bnext (bnext KB k1) k2⟩
                show _ = _
                rw [HS.out]
                have := HY.out
                omega
              case measure => simp [intOf]; omega
            · go_wp2_with fail
              refine (H1.out _).mono ?_; rintro e w1 ⟨rfl, k1⟩
              go_wp2_with fail
              refine (refSub_over (y * 10) ((D[j].toNat : Int) - 48) (by omega) (by omega) (by omega) _).mono ?_; rintro e w2 ⟨rfl, k2⟩
              go_wp2_with fail
              have ho := FO.out (by have h1 := HS.out; have h2 := HY.out; omega)
              go_ret2
              exact ⟨ret_both ho.1 ho.2, bnext (bnext KB k1) k2⟩
          · have hv := vl_out (x := y * 10) (by omega)
            have H1 : Hid (∀ w, Calls Tryd.prog 66 #[.int .i64 y, .int .i64 10] w fun e w' => e = .returned (.tuple #[.int .i64 0, .int .i64 10]) ∧ Below w.heap.size w w') := fun w => by
              have h := refMul_any y 10 (by omega) (by omega) w
              rwa [hv.1, hv.2] at h
            clear hv
            go_wp2_with fail
            refine (H1.out _).mono ?_; rintro e w1 ⟨rfl, k1⟩
            go_wp2_with fail
            refine (refSub_in 0 ((D[j].toNat : Int) - 48) (by omega) (by omega) (by omega) _).mono ?_; rintro e w2 ⟨rfl, k2⟩
            go_wp2_with fail
            have ho := FO.out (by have h1 := HS.out; have h2 := HY.out; omega)
            go_ret2
            exact ⟨ret_both ho.1 ho.2, bnext (bnext KB k1) k2⟩
        · obtain rfl : j = D.size := by omega
          have HN : Hid (y = -(num D.data.toList : Int)) := by have := HY.out; rw [take_all] at this; exact this
          clear HY
          go_wp2_with fail
          go_ret2
          have h1 := FV.out
          have h2 := HN.out
          rw [← h2, (vl_in ⟨hy1, by omega⟩).1, (vl_in ⟨hy1, by omega⟩).2] at h1
          exact ⟨ret_both h1.1 h1.2, KB⟩

theorem refRead_no_nought (s : ByteArray) (hs : s.size ≤ 140737488351232) (hp : 0 < s.size) (h45 : ((s[0].toNat : Int) == 45) = false)  (h48 : ((s[0].toNat : Int) == 48) = true) (h1 : 1 < s.size) (w : World) :
    Calls Tryd.prog 49 #[.string s] w fun e w' => e = .returned (.tuple #[.int .i64 0, .int .i64 1]) ∧ w' = w := by
  have hne : s.toList.isEmpty = false := ne_of s (by omega)
  have hne' : ¬ s.toList = [] := by simpa using hne
  by_cases c1 : 1 < s.size
  · go_enter Tryd.func49, Tryd.ntmps49
    go_wp2
    go_ret2
    exact ⟨rfl, rfl⟩
  · exact absurd h1 c1

set_option maxHeartbeats 2000000 in
theorem refRead_no_plain (s : ByteArray) (hs : s.size ≤ 140737488351232) (hp : 0 < s.size) (h45 : ((s[0].toNat : Int) == 45) = false)  (h48 : ((s[0].toNat : Int) == 48) = false)  (V E : Int)
    (fb : s.data.toList.all dig = false → 0 = V ∧ 1 = E) (fg : s.data.toList.all dig = true → vl ((num s.data.toList : Int)) = V ∧ er ((num s.data.toList : Int)) = E) (w : World) :
    Calls Tryd.prog 49 #[.string s] w fun e w' => e = .returned (.tuple #[.int .i64 V, .int .i64 E]) ∧ Below w.heap.size w w' := by
  have hne : s.toList.isEmpty = false := ne_of s (by omega)
  have hne' : ¬ s.toList = [] := by simpa using hne
  have FG : Hid (s.data.toList.all dig = true → vl ((num s.data.toList : Int)) = V ∧ er ((num s.data.toList : Int)) = E) := fg
  have FB : Hid (∀ k (hk : k < s.size), ¬ ((48 : Int) ≤ (s[k].toNat : Int) ∧ (s[k].toNat : Int) ≤ 57) → 0 = V ∧ 1 = E) := fun k hk hd => by
    refine fb ?_
    rw [all_split hk, List.all_append, List.all_cons, dig_int, decide_eq_false hd]
    simp
  clear fb fg
  go_enter Tryd.func49, Tryd.ntmps49
  go_wp2
  go_loop [6] (fun i => ∃ k : Nat, k ≤ s.size ∧ i = .int .i64 k ∧ Hid ((s.data.toList.take k).all dig = true)) (fun i => s.size - (intOf i).toNat)
  case atStart => exact ⟨0, Nat.zero_le _, rfl, rfl⟩
  case round =>
    obtain ⟨k, hk, rfl, HA⟩ := hrel
    by_cases hlt : k < s.size
    · have hd := dig_int (c := s[k])
      have HD : Hid (dig s[k] = decide ((48 : Int) ≤ (s[k].toNat : Int) ∧ (s[k].toNat : Int) ≤ 57)) := hd
      clear hd
      by_cases g1 : (48 : Int) ≤ (s[k].toNat : Int)
      · by_cases g2 : (s[k].toNat : Int) ≤ 57
        · go_wp2
          go_round
          case rel =>
            refine ⟨k + 1, by omega, by go_num, ?_⟩
            show _ = _
            rw [take_snoc s k hlt, List.all_append, HA.out]
            simp [HD.out]; omega
          case measure => simp [intOf]; omega
        · go_wp2
          go_ret2
          exact ⟨ret_both (FB.out k hlt (by omega)).1 (FB.out k hlt (by omega)).2, Below.refl _ _⟩
      · go_wp2
        go_ret2
        exact ⟨ret_both (FB.out k hlt (by omega)).1 (FB.out k hlt (by omega)).2, Below.refl _ _⟩
    · obtain rfl : k = s.size := by omega
      have AD : Hid (s.data.toList.all dig = true) := by have := HA.out; rw [take_all] at this; exact this
      have FV : Hid (vl ((num s.data.toList : Int)) = V ∧ er ((num s.data.toList : Int)) = E) := FG.out AD.out
      clear HA FG FB
      go_wp2
      go_loopw [7, 8] (fun n i wr => ∃ (j : Nat) (y : Int), j ≤ s.size ∧ i = .int .i64 j ∧ n = .int .i64 y ∧ Hid (y = -(num (s.data.toList.take j) : Int)) ∧ -9223372036854775808 ≤ y ∧ y ≤ 0 ∧ Below w.heap.size w wr)
        (fun _ i _ => s.size - (intOf i).toNat)
      case atStart => exact ⟨0, 0, Nat.zero_le _, rfl, rfl, rfl, by omega, by omega, Below.refl _ _⟩
      case round =>
        obtain ⟨j, y, hj, rfl, rfl, HY, hy1, hy2, KB⟩ := hrel
        by_cases hlt : j < s.size
        · have hb := dig_at AD.out hlt
          have HS : Hid ((num (s.data.toList.take (j + 1)) : Int) = (num (s.data.toList.take j) : Int) * 10 + ((s[j].toNat : Int) - 48)) := by
            show _ = _
            rw [take_snoc s j hlt, num_snoc]
            omega
          have HT : Hid ((num (s.data.toList.take (j + 1)) : Int) ≤ (num s.data.toList : Int)) := by
            have := num_take s.data.toList (j + 1)
            show _ ≤ _
            omega
          have FO : Hid ((num (s.data.toList.take (j + 1)) : Int) > 9223372036854775808 → 0 = V ∧ 10 = E) := fun h => by
            have h1 := HT.out
            have h2 := FV.out
            have ho : ¬ (-9223372036854775808 ≤ (num s.data.toList : Int) ∧ (num s.data.toList : Int) ≤ 9223372036854775807) := by omega
            rw [(vl_out ho).1, (vl_out ho).2] at h2
            exact h2
          by_cases c1 : -9223372036854775808 ≤ y * 10
          · have hv := vl_in (x := y * 10) ⟨c1, by omega⟩
            have H1 : Hid (∀ w, Calls Tryd.prog 66 #[.int .i64 y, .int .i64 10] w fun e w' => e = .returned (.tuple #[.int .i64 (y * 10), .int .i64 0]) ∧ Below w.heap.size w w') := fun w => by
              have h := refMul_any y 10 (by omega) (by omega) w
              rwa [hv.1, hv.2] at h
            clear hv
            by_cases c2 : -9223372036854775808 ≤ y * 10 - ((s[j].toNat : Int) - 48)
            · go_wp2_with fail
              refine (H1.out _).mono ?_; rintro e w1 ⟨rfl, k1⟩
              go_wp2_with fail
              refine (refSub_in (y * 10) ((s[j].toNat : Int) - 48) (by omega) (by omega) (by omega) _).mono ?_; rintro e w2 ⟨rfl, k2⟩
              go_wp2_with fail
              go_roundw
              case rel =>
                refine ⟨j + 1, _, by omega, by go_num, rfl, ?_, c2, by omega, bnext (bnext KB k1) k2⟩
                show _ = _
                rw [HS.out]
                have := HY.out
                omega
              case measure => simp [intOf]; omega
            · go_wp2_with fail
              refine (H1.out _).mono ?_; rintro e w1 ⟨rfl, k1⟩
              go_wp2_with fail
              refine (refSub_over (y * 10) ((s[j].toNat : Int) - 48) (by omega) (by omega) (by omega) _).mono ?_; rintro e w2 ⟨rfl, k2⟩
              go_wp2_with fail
              have ho := FO.out (by have h1 := HS.out; have h2 := HY.out; omega)
              go_ret2
              exact ⟨ret_both ho.1 ho.2, bnext (bnext KB k1) k2⟩
          · have hv := vl_out (x := y * 10) (by omega)
            have H1 : Hid (∀ w, Calls Tryd.prog 66 #[.int .i64 y, .int .i64 10] w fun e w' => e = .returned (.tuple #[.int .i64 0, .int .i64 10]) ∧ Below w.heap.size w w') := fun w => by
              have h := refMul_any y 10 (by omega) (by omega) w
              rwa [hv.1, hv.2] at h
            clear hv
            go_wp2_with fail
            refine (H1.out _).mono ?_; rintro e w1 ⟨rfl, k1⟩
            go_wp2_with fail
            refine (refSub_in 0 ((s[j].toNat : Int) - 48) (by omega) (by omega) (by omega) _).mono ?_; rintro e w2 ⟨rfl, k2⟩
            go_wp2_with fail
            have ho := FO.out (by have h1 := HS.out; have h2 := HY.out; omega)
            go_ret2
            exact ⟨ret_both ho.1 ho.2, bnext (bnext KB k1) k2⟩
        · obtain rfl : j = s.size := by omega
          have HN : Hid (y = -(num s.data.toList : Int)) := by have := HY.out; rw [take_all] at this; exact this
          clear HY
          by_cases c : -9223372036854775808 < y
          · go_wp2_with fail
            refine (refNeg_in y (by omega) c _).mono ?_; rintro e w1 ⟨rfl, k1⟩
            go_wp2_with fail
            go_ret2
            have h1 := FV.out
            have h2 : (num s.data.toList : Int) = -y := by have := HN.out; omega
            rw [h2, (vl_in ⟨by omega, by omega⟩).1, (vl_in ⟨by omega, by omega⟩).2] at h1
            exact ⟨ret_both h1.1 h1.2, bnext KB k1⟩
          · obtain rfl : y = -9223372036854775808 := by omega
            go_wp2_with fail
            refine (refNeg_least _).mono ?_; rintro e w1 ⟨rfl, k1⟩
            go_wp2_with fail
            go_ret2
            have h1 := FV.out
            have h2 : (num s.data.toList : Int) = 9223372036854775808 := by have := HN.out; omega
            rw [h2, (vl_out (by omega)).1, (vl_out (by omega)).2] at h1
            exact ⟨ret_both h1.1 h1.2, bnext KB k1⟩

set_option maxHeartbeats 2000000 in
theorem refRead_no_one (s : ByteArray) (hs : s.size ≤ 140737488351232) (hp : 0 < s.size) (h45 : ((s[0].toNat : Int) == 45) = false)  (h48 : ((s[0].toNat : Int) == 48) = true) (h1 : ¬ 1 < s.size)  (V E : Int)
    (fb : s.data.toList.all dig = false → 0 = V ∧ 1 = E) (fg : s.data.toList.all dig = true → vl ((num s.data.toList : Int)) = V ∧ er ((num s.data.toList : Int)) = E) (w : World) :
    Calls Tryd.prog 49 #[.string s] w fun e w' => e = .returned (.tuple #[.int .i64 V, .int .i64 E]) ∧ Below w.heap.size w w' := by
  have hne : s.toList.isEmpty = false := ne_of s (by omega)
  have hne' : ¬ s.toList = [] := by simpa using hne
  have FG : Hid (s.data.toList.all dig = true → vl ((num s.data.toList : Int)) = V ∧ er ((num s.data.toList : Int)) = E) := fg
  have FB : Hid (∀ k (hk : k < s.size), ¬ ((48 : Int) ≤ (s[k].toNat : Int) ∧ (s[k].toNat : Int) ≤ 57) → 0 = V ∧ 1 = E) := fun k hk hd => by
    refine fb ?_
    rw [all_split hk, List.all_append, List.all_cons, dig_int, decide_eq_false hd]
    simp
  clear fb fg
  go_enter Tryd.func49, Tryd.ntmps49
  go_wp2
  go_loop [6] (fun i => ∃ k : Nat, k ≤ s.size ∧ i = .int .i64 k ∧ Hid ((s.data.toList.take k).all dig = true)) (fun i => s.size - (intOf i).toNat)
  case atStart => exact ⟨0, Nat.zero_le _, rfl, rfl⟩
  case round =>
    obtain ⟨k, hk, rfl, HA⟩ := hrel
    by_cases hlt : k < s.size
    · have hd := dig_int (c := s[k])
      have HD : Hid (dig s[k] = decide ((48 : Int) ≤ (s[k].toNat : Int) ∧ (s[k].toNat : Int) ≤ 57)) := hd
      clear hd
      by_cases g1 : (48 : Int) ≤ (s[k].toNat : Int)
      · by_cases g2 : (s[k].toNat : Int) ≤ 57
        · go_wp2
          go_round
          case rel =>
            refine ⟨k + 1, by omega, by go_num, ?_⟩
            show _ = _
            rw [take_snoc s k hlt, List.all_append, HA.out]
            simp [HD.out]; omega
          case measure => simp [intOf]; omega
        · go_wp2
          go_ret2
          exact ⟨ret_both (FB.out k hlt (by omega)).1 (FB.out k hlt (by omega)).2, Below.refl _ _⟩
      · go_wp2
        go_ret2
        exact ⟨ret_both (FB.out k hlt (by omega)).1 (FB.out k hlt (by omega)).2, Below.refl _ _⟩
    · obtain rfl : k = s.size := by omega
      have AD : Hid (s.data.toList.all dig = true) := by have := HA.out; rw [take_all] at this; exact this
      have FV : Hid (vl ((num s.data.toList : Int)) = V ∧ er ((num s.data.toList : Int)) = E) := FG.out AD.out
      clear HA FG FB
      go_wp2
      go_loopw [7, 8] (fun n i wr => ∃ (j : Nat) (y : Int), j ≤ s.size ∧ i = .int .i64 j ∧ n = .int .i64 y ∧ Hid (y = -(num (s.data.toList.take j) : Int)) ∧ -9223372036854775808 ≤ y ∧ y ≤ 0 ∧ Below w.heap.size w wr)
        (fun _ i _ => s.size - (intOf i).toNat)
      case atStart => exact ⟨0, 0, Nat.zero_le _, rfl, rfl, rfl, by omega, by omega, Below.refl _ _⟩
      case round =>
        obtain ⟨j, y, hj, rfl, rfl, HY, hy1, hy2, KB⟩ := hrel
        by_cases hlt : j < s.size
        · have hb := dig_at AD.out hlt
          have HS : Hid ((num (s.data.toList.take (j + 1)) : Int) = (num (s.data.toList.take j) : Int) * 10 + ((s[j].toNat : Int) - 48)) := by
            show _ = _
            rw [take_snoc s j hlt, num_snoc]
            omega
          have HT : Hid ((num (s.data.toList.take (j + 1)) : Int) ≤ (num s.data.toList : Int)) := by
            have := num_take s.data.toList (j + 1)
            show _ ≤ _
            omega
          have FO : Hid ((num (s.data.toList.take (j + 1)) : Int) > 9223372036854775808 → 0 = V ∧ 10 = E) := fun h => by
            have h1 := HT.out
            have h2 := FV.out
            have ho : ¬ (-9223372036854775808 ≤ (num s.data.toList : Int) ∧ (num s.data.toList : Int) ≤ 9223372036854775807) := by omega
            rw [(vl_out ho).1, (vl_out ho).2] at h2
            exact h2
          by_cases c1 : -9223372036854775808 ≤ y * 10
          · have hv := vl_in (x := y * 10) ⟨c1, by omega⟩
            have H1 : Hid (∀ w, Calls Tryd.prog 66 #[.int .i64 y, .int .i64 10] w fun e w' => e = .returned (.tuple #[.int .i64 (y * 10), .int .i64 0]) ∧ Below w.heap.size w w') := fun w => by
              have h := refMul_any y 10 (by omega) (by omega) w
              rwa [hv.1, hv.2] at h
            clear hv
            by_cases c2 : -9223372036854775808 ≤ y * 10 - ((s[j].toNat : Int) - 48)
            · go_wp2_with fail
              refine (H1.out _).mono ?_; rintro e w1 ⟨rfl, k1⟩
              go_wp2_with fail
              refine (refSub_in (y * 10) ((s[j].toNat : Int) - 48) (by omega) (by omega) (by omega) _).mono ?_; rintro e w2 ⟨rfl, k2⟩
              go_wp2_with fail
              go_roundw
              case rel =>
                refine ⟨j + 1, _, by omega, by go_num, rfl, ?_, c2, by omega, bnext (bnext KB k1) k2⟩
                show _ = _
                rw [HS.out]
                have := HY.out
                omega
              case measure => simp [intOf]; omega
            · go_wp2_with fail
              refine (H1.out _).mono ?_; rintro e w1 ⟨rfl, k1⟩
              go_wp2_with fail
              refine (refSub_over (y * 10) ((s[j].toNat : Int) - 48) (by omega) (by omega) (by omega) _).mono ?_; rintro e w2 ⟨rfl, k2⟩
              go_wp2_with fail
              have ho := FO.out (by have h1 := HS.out; have h2 := HY.out; omega)
              go_ret2
              exact ⟨ret_both ho.1 ho.2, bnext (bnext KB k1) k2⟩
          · have hv := vl_out (x := y * 10) (by omega)
            have H1 : Hid (∀ w, Calls Tryd.prog 66 #[.int .i64 y, .int .i64 10] w fun e w' => e = .returned (.tuple #[.int .i64 0, .int .i64 10]) ∧ Below w.heap.size w w') := fun w => by
              have h := refMul_any y 10 (by omega) (by omega) w
              rwa [hv.1, hv.2] at h
            clear hv
            go_wp2_with fail
            refine (H1.out _).mono ?_; rintro e w1 ⟨rfl, k1⟩
            go_wp2_with fail
            refine (refSub_in 0 ((s[j].toNat : Int) - 48) (by omega) (by omega) (by omega) _).mono ?_; rintro e w2 ⟨rfl, k2⟩
            go_wp2_with fail
            have ho := FO.out (by have h1 := HS.out; have h2 := HY.out; omega)
            go_ret2
            exact ⟨ret_both ho.1 ho.2, bnext (bnext KB k1) k2⟩
        · obtain rfl : j = s.size := by omega
          have HN : Hid (y = -(num s.data.toList : Int)) := by have := HY.out; rw [take_all] at this; exact this
          clear HY
          by_cases c : -9223372036854775808 < y
          · go_wp2_with fail
            refine (refNeg_in y (by omega) c _).mono ?_; rintro e w1 ⟨rfl, k1⟩
            go_wp2_with fail
            go_ret2
            have h1 := FV.out
            have h2 : (num s.data.toList : Int) = -y := by have := HN.out; omega
            rw [h2, (vl_in ⟨by omega, by omega⟩).1, (vl_in ⟨by omega, by omega⟩).2] at h1
            exact ⟨ret_both h1.1 h1.2, bnext KB k1⟩
          · obtain rfl : y = -9223372036854775808 := by omega
            go_wp2_with fail
            refine (refNeg_least _).mono ?_; rintro e w1 ⟨rfl, k1⟩
            go_wp2_with fail
            go_ret2
            have h1 := FV.out
            have h2 : (num s.data.toList : Int) = 9223372036854775808 := by have := HN.out; omega
            rw [h2, (vl_out (by omega)).1, (vl_out (by omega)).2] at h1
            exact ⟨ret_both h1.1 h1.2, bnext KB k1⟩

theorem refRead_none (s : ByteArray) (h : s.toList = []) (h0 : s.size = 0) (w : World) :
    Calls Tryd.prog 49 #[.string s] w fun e w' => e = .returned (.tuple #[.int .i64 0, .int .i64 1]) ∧ w' = w := by
  have h1 : s.toList.isEmpty = true := by simpa using h
  go_enter Tryd.func49, Tryd.ntmps49
  go_wp2
  go_ret2
  exact ⟨rfl, rfl⟩

theorem first_toNat {s : ByteArray} (hp : 0 < s.size) : s.data.toList.headD 0 = s[0] := by
  rw [all_split hp]; simp
theorem beq_toNat (c d : UInt8) : ((c.toNat : Int) == (d.toNat : Int)) = (c == d) := by
  rw [Bool.eq_iff_iff]
  simp
  rw [← UInt8.toNat_inj]
  omega

theorem nil_of {s : ByteArray} (h : s.size = 0) : s.toList = [] := by
  rw [ByteArray.toList_eq]
  have := len_of s
  cases hl : s.data.toList with
  | nil => rfl
  | cons a r => rw [hl] at this; simp at this; omega

theorem below_of {f : FuncId} {args : Array Value} {w : World} {v : Value} (h : Calls Tryd.prog f args w fun e w' => e = .returned v ∧ w' = w) :
    Calls Tryd.prog f args w fun e w' => e = .returned v ∧ Below w.heap.size w w' :=
  h.mono fun e w' ⟨he, hw⟩ => ⟨he, hw ▸ Below.refl _ _⟩

/-- The document's Read answers the same. -/
theorem refRead_any (s : ByteArray) (hs : s.size ≤ 140737488351232) (w : World) :
    Calls Tryd.prog 49 #[.string s] w fun e w' => e = .returned (.tuple #[.int .i64 (rdV s.data.toList), .int .i64 (rdE s.data.toList)]) ∧ Below w.heap.size w w' := by
  by_cases h0 : s.size = 0
  · have hn := nil_of h0
    have hb : rdBad s.data.toList = true := by rw [← ByteArray.toList_eq, hn]; rfl
    rw [(rd_bad hb).1, (rd_bad hb).2]
    exact below_of (refRead_none s hn h0 w)
  have hp : 0 < s.size := by omega
  by_cases h : s[0] = 45
  · have hn := neg_yes s hp h
    have h45 : ((s[0].toNat : Int) == 45) = true := by rw [h]; rfl
    obtain ⟨D, hD⟩ : ∃ D, s.extract 1 s.size = D := ⟨_, rfl⟩
    have hd : rdDig s.data.toList = D.data.toList := by
      unfold rdDig
      rw [hn, ← rest_of, hD]
      simp
    have hds : D.size ≤ 140737488351232 := by rw [← hD]; simp; omega
    have hB : rdBad s.data.toList = (!pl D.data.toList || D.data.toList == [48]) := by unfold rdBad; rw [hd, hn]; simp
    have hN : rdNum s.data.toList = -(num D.data.toList : Int) := by unfold rdNum; rw [hd, hn]; simp
    by_cases hz : D.size = 0
    · have hl := nil_of hz
      have hb : rdBad s.data.toList = true := by rw [hB, ← ByteArray.toList_eq, hl]; rfl
      rw [(rd_bad hb).1, (rd_bad hb).2]
      exact below_of (refRead_yes_empty s hs hp h45 D hD hl w)
    have hq : 0 < D.size := by omega
    have hf := first_toNat hq
    by_cases c : D[0] = 48
    · have h48 : ((D[0].toNat : Int) == 48) = true := by rw [c]; rfl
      have hb : rdBad s.data.toList = true := by
        rw [hB]
        by_cases c1 : 1 < D.size
        · rw [pl_not (by rw [len_of]; exact c1) (by rw [hf]; exact c)]; rfl
        · have e := all_split hq
          have hdrop : D.data.toList.drop (0 + 1) = [] := List.drop_eq_nil_of_le (by rw [len_of]; omega)
          rw [hdrop, c] at e
          have e2 : D.data.toList = [48] := by rw [e]; rfl
          rw [e2]; rfl
      rw [(rd_bad hb).1, (rd_bad hb).2]
      exact below_of (refRead_yes_nought s hs hp h45 D hD hq h48 w)
    · have h48 : ((D[0].toNat : Int) == 48) = false := by
        have := beq_toNat D[0] 48
        rw [show ((48 : UInt8).toNat : Int) = 48 from rfl] at this
        rw [this]; simpa using c
      have hpl := pl_is (l := D.data.toList) (by rw [← ByteArray.toList_eq]; simpa using ne_of D hq) (fun x => c (by rw [← hf]; exact x.2))
      have hno : (D.data.toList == [48]) = false := by
        cases hx : (D.data.toList == [48])
        · rfl
        · have e : D.data.toList = [48] := by simpa using hx
          rw [e] at hf
          exact absurd hf.symm c
      refine refRead_yes_plain s hs hp h45 D hD hq h48 hds _ _ (fun ha => ?_) (fun ha => ?_) w
      · have hb : rdBad s.data.toList = true := by rw [hB, hpl, ha]; rfl
        rw [(rd_bad hb).1, (rd_bad hb).2]; exact ⟨rfl, rfl⟩
      · have hb : rdBad s.data.toList = false := by rw [hB, hpl, ha, hno]; rfl
        rw [(rd_good hb).1, (rd_good hb).2, hN]; exact ⟨rfl, rfl⟩
  · have hn := neg_no s (fun _ => h)
    have h45 : ((s[0].toNat : Int) == 45) = false := by
      have := beq_toNat s[0] 45
      rw [show ((45 : UInt8).toNat : Int) = 45 from rfl] at this
      rw [this]; simpa using h
    have hd : rdDig s.data.toList = s.data.toList := by unfold rdDig; rw [hn]; simp
    have hB : rdBad s.data.toList = !pl s.data.toList := by unfold rdBad; rw [hd, hn]; simp
    have hN : rdNum s.data.toList = (num s.data.toList : Int) := by unfold rdNum; rw [hd, hn]; simp
    have hf := first_toNat hp
    by_cases c : s[0] = 48
    · have h48 : ((s[0].toNat : Int) == 48) = true := by rw [c]; rfl
      by_cases c1 : 1 < s.size
      · have hb : rdBad s.data.toList = true := by rw [hB, pl_not (by rw [len_of]; exact c1) (by rw [hf]; exact c)]; rfl
        rw [(rd_bad hb).1, (rd_bad hb).2]
        exact below_of (refRead_no_nought s hs hp h45 h48 c1 w)
      · have hpl := pl_is (l := s.data.toList) (by rw [← ByteArray.toList_eq]; simpa using ne_of s hp) (fun x => c1 (by rw [← len_of]; exact x.1))
        refine refRead_no_one s hs hp h45 h48 c1 _ _ (fun ha => ?_) (fun ha => ?_) w
        · have hb : rdBad s.data.toList = true := by rw [hB, hpl, ha]; rfl
          rw [(rd_bad hb).1, (rd_bad hb).2]; exact ⟨rfl, rfl⟩
        · have hb : rdBad s.data.toList = false := by rw [hB, hpl, ha]; rfl
          rw [(rd_good hb).1, (rd_good hb).2, hN]; exact ⟨rfl, rfl⟩
    · have h48 : ((s[0].toNat : Int) == 48) = false := by
        have := beq_toNat s[0] 48
        rw [show ((48 : UInt8).toNat : Int) = 48 from rfl] at this
        rw [this]; simpa using c
      have hpl := pl_is (l := s.data.toList) (by rw [← ByteArray.toList_eq]; simpa using ne_of s hp) (fun x => c (by rw [← hf]; exact x.2))
      refine refRead_no_plain s hs hp h45 h48 _ _ (fun ha => ?_) (fun ha => ?_) w
      · have hb : rdBad s.data.toList = true := by rw [hB, hpl, ha]; rfl
        rw [(rd_bad hb).1, (rd_bad hb).2]; exact ⟨rfl, rfl⟩
      · have hb : rdBad s.data.toList = false := by rw [hB, hpl, ha]; rfl
        rw [(rd_good hb).1, (rd_good hb).2, hN]; exact ⟨rfl, rfl⟩
end Go.Proofs.YtgokilochbnbaaaDoor.Num
