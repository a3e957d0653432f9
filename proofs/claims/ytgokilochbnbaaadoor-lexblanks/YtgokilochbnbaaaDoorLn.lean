/- LexBlanks walked. -/
import Derived.Test.YtgokilochbnbaaaDoorLb
namespace Go.Proofs.YtgokilochbnbaaaDoor
open Go.ChangeShapes Go.WideShapes Go.ChangeAt Go.RowKit
set_option linter.unusedVariables false
set_option maxRecDepth 100000

theorem remark_occ (a x : List UInt8) (ha : ∀ c ∈ a, c ≠ 42) : Lib.index (a ++ 42 :: 47 :: x) [42, 47] = (a.length : Int) := by
  induction a with
  | nil =>
    rw [List.nil_append, Lib.index, if_pos (by simp [List.isPrefixOf])]
    rfl
  | cons c r ih =>
    have h1 := ih (fun d hd => ha d (by simp [hd]))
    have hc : c ≠ 42 := ha c (by simp)
    have hp : ¬ ([42, 47] : List UInt8).isPrefixOf (c :: (r ++ 42 :: 47 :: x)) = true := by
      intro h
      simp [List.isPrefixOf] at h
      exact hc h.1.symm
    rw [List.cons_append, Lib.index, if_neg hp, h1, if_neg (fun e => by have := beq_iff_eq.1 e; omega)]
    simp
theorem toks_remark (rem : List UInt8) (hr : ∀ c ∈ rem, c ≠ 42) {l : List UInt8} {ts : List Core} (h : Toks l ts) : Toks (47 :: 42 :: (rem ++ 42 :: 47 :: l)) ts := by
  have hg : gapN (47 :: 42 :: (rem ++ 42 :: 47 :: l)) = rem.length + 4 := by
    unfold gapN
    have e1 : Lib.hasPrefix (47 :: 42 :: (rem ++ 42 :: 47 :: l)) [45, 45] = false := rfl
    have e2 : Lib.hasPrefix (47 :: 42 :: (rem ++ 42 :: 47 :: l)) [47, 42] = true := by
      unfold Lib.hasPrefix
      simp [List.isPrefixOf]
    rw [e1, e2]
    show remN (rem ++ 42 :: 47 :: l) = _
    unfold remN
    rw [remark_occ rem l hr, if_neg (by omega)]
    simp
  refine Toks.gap (by simp) (by omega) ?_
  rw [hg]
  have : (47 :: 42 :: (rem ++ 42 :: 47 :: l)).drop (rem.length + 4) = l := by
    show (rem ++ 42 :: 47 :: l).drop (rem.length + 2) = l
    rw [← List.drop_drop, List.drop_left]
    rfl
  rw [this]
  exact h
theorem toks_line (rem : List UInt8) (hr : ∀ c ∈ rem, c ≠ 10) {l : List UInt8} {ts : List Core} (h : Toks l ts) : Toks (45 :: 45 :: (rem ++ 13 :: 10 :: l)) ts := by
  have hn : (45 :: 45 :: (rem ++ [13])).all nlB = true := by
    rw [List.all_eq_true]
    intro c hc
    simp only [List.mem_cons, List.mem_append, List.mem_nil_iff, or_false] at hc
    unfold nlB
    rcases hc with rfl | rfl | hc | rfl
    · decide
    · decide
    · simpa using hr c hc
    · decide
  have e : 45 :: 45 :: (rem ++ 13 :: 10 :: l) = (45 :: 45 :: (rem ++ [13])) ++ 10 :: l := by simp
  have ht : ((45 :: 45 :: (rem ++ [13])) ++ 10 :: l).takeWhile nlB = 45 :: 45 :: (rem ++ [13]) := tw_stop nlB _ 10 l hn (by decide)
  have hg : gapN ((45 :: 45 :: (rem ++ [13])) ++ 10 :: l) = (45 :: 45 :: (rem ++ [13])).length := by
    unfold gapN
    have e1 : Lib.hasPrefix ((45 :: 45 :: (rem ++ [13])) ++ 10 :: l) [45, 45] = true := by
      unfold Lib.hasPrefix
      simp [List.isPrefixOf]
    rw [e1, ht]
    rfl
  rw [e]
  refine Toks.gap (by simp) (by rw [hg]; simp) ?_
  rw [hg, List.drop_left]
  exact toks_blank (by decide) h
theorem sep_one (rem : List UInt8) (hr : ∀ c ∈ rem, c ≠ 42) : Sep (9 :: 47 :: 42 :: (rem ++ [42, 47, 10])) := fun l ts h => by
  have e : (9 :: 47 :: 42 :: (rem ++ [42, 47, 10])) ++ l = 9 :: 47 :: 42 :: (rem ++ 42 :: 47 :: 10 :: l) := by simp
  rw [e]
  exact toks_blank (by decide) (toks_remark rem hr (toks_blank (by decide) h))
theorem sep_two (rem : List UInt8) (hr : ∀ c ∈ rem, c ≠ 10) : Sep (45 :: 45 :: (rem ++ [13, 10, 32])) := fun l ts h => by
  have e : (45 :: 45 :: (rem ++ [13, 10, 32])) ++ l = 45 :: 45 :: (rem ++ 13 :: 10 :: 32 :: l) := by simp
  rw [e]
  exact toks_line rem hr (toks_blank (by decide) h)

/-! ### LexBlanks -/
theorem blanks_long (s b : ByteArray) (h : 256 < (s.size : Int)) (w : World) (hg : Glob w) :
    Calls Tryd.prog 6 #[.string s, .string b] w fun e w' => e = .returned (.bool true) ∧ Below w.heap.size w w' := by
  have HA : Hid AwkC := awk_c
  have HG : Hid (Glob w) := hg
  clear hg
  go_enter Tryd.func6, Tryd.ntmps6
  go_wp2_with fail
  refine Calls.mono (HA.out _ HG.out) ?_; rintro e v1 ⟨rfl, k1⟩
  have HZ1 : Hid (Below w.heap.size w v1) := k1
  clear k1
  go_wp2_with fail
  go_ret
  exact ⟨rfl, HZ1.out⟩
theorem blanks_rem (s b : ByteArray) (h : ¬ 256 < (s.size : Int)) (h2 : 20 < (b.size : Int)) (w : World) (hg : Glob w) :
    Calls Tryd.prog 6 #[.string s, .string b] w fun e w' => e = .returned (.bool true) ∧ Below w.heap.size w w' := by
  have HA : Hid AwkC := awk_c
  have HG : Hid (Glob w) := hg
  clear hg
  go_enter Tryd.func6, Tryd.ntmps6
  go_wp2_with fail
  refine Calls.mono (HA.out _ HG.out) ?_; rintro e v1 ⟨rfl, k1⟩
  have HZ1 : Hid (Below w.heap.size w v1) := k1
  clear k1
  go_wp2_with fail
  go_ret
  exact ⟨rfl, HZ1.out⟩

/-- A byte that may stand in a remark. -/
def okB (c : UInt8) : Bool := !(c == 10) && !(c == 42) && !(c == 47)
theorem okB_yes {c : UInt8} (h : okB c = true) : ((c.toNat : Int) == 10) = false ∧ ((c.toNat : Int) == 42) = false ∧ ((c.toNat : Int) == 47) = false := by
  unfold okB at h
  simp only [Bool.and_eq_true, Bool.not_eq_true', beq_eq_false_iff_ne, ne_eq] at h
  obtain ⟨⟨h1, h2⟩, h3⟩ := h
  have k : ∀ n : Nat, n < 256 → ¬ c = UInt8.ofNat n → ((c.toNat : Int) == (n : Int)) = false := fun n hn hc => by
    rw [beq_eq, decide_eq_false_iff_not]
    intro e
    exact hc (UInt8.toNat_inj.1 (by simp; omega))
  exact ⟨k 10 (by omega) h1, k 42 (by omega) h2, k 47 (by omega) h3⟩
theorem okB_no {c : UInt8} (h : okB c = false) : ((c.toNat : Int) == 10) = true ∨ (((c.toNat : Int) == 10) = false ∧ ((c.toNat : Int) == 42) = true) ∨ (((c.toNat : Int) == 10) = false ∧ ((c.toNat : Int) == 42) = false ∧ ((c.toNat : Int) == 47) = true) := by
  cases h1 : ((c.toNat : Int) == 10)
  · cases h2 : ((c.toNat : Int) == 42)
    · cases h3 : ((c.toNat : Int) == 47)
      · exfalso
        rw [beq_eq, decide_eq_false_iff_not] at h1 h2 h3
        have a1 : (c == 10) = false := (u8_eq c 10 (by omega)).trans (decide_eq_false (by omega))
        have a2 : (c == 42) = false := (u8_eq c 42 (by omega)).trans (decide_eq_false (by omega))
        have a3 : (c == 47) = false := (u8_eq c 47 (by omega)).trans (decide_eq_false (by omega))
        unfold okB at h
        rw [a1, a2, a3] at h
        cases h
      · exact .inr (.inr ⟨rfl, rfl, rfl⟩)
    · exact .inr (.inl ⟨rfl, rfl⟩)
  · exact .inl rfl
theorem blanks_bad (s b : ByteArray) (h : ¬ 256 < (s.size : Int)) (h2 : ¬ 20 < (b.size : Int)) (hb : Hid (∃ i, ∃ hi : i < b.size, okB b[i] = false)) (w : World) (hg : Glob w) :
    Calls Tryd.prog 6 #[.string s, .string b] w fun e w' => e = .returned (.bool true) ∧ Below w.heap.size w w' := by
  have HA : Hid AwkC := awk_c
  have HG : Hid (Glob w) := hg
  clear hg
  go_enter Tryd.func6, Tryd.ntmps6
  go_wp2_with fail
  go_loop [5] (fun i => ∃ j : Nat, j ≤ b.size ∧ i = .int .i64 j ∧ Hid (∀ i (hi : i < b.size), i < j → okB b[i] = true)) (fun i => b.size - (intOf i).toNat)
  case atStart => exact ⟨0, Nat.zero_le _, rfl, fun i hi h => by omega⟩
  case round =>
    obtain ⟨j, hj, rfl, HO⟩ := hrel
    by_cases hlt : j < b.size
    · by_cases hk : okB b[j] = true
      · obtain ⟨q1, q2, q3⟩ := okB_yes hk
        have HO2 : Hid (∀ i (hi : i < b.size), i < j + 1 → okB b[i] = true) := fun i hi h => by
          by_cases e : i = j
          · subst e; exact hk
          · exact HO.out i hi (by omega)
        clear HO hk
        go_wp2_with fail
        go_round
        case rel => exact ⟨j + 1, by omega, by go_num, HO2⟩
        case measure => simp [intOf]; omega
      · have hk2 : okB b[j] = false := by simpa using hk
        rcases okB_no hk2 with q1 | ⟨q1, q2⟩ | ⟨q1, q2, q3⟩
        · clear hk hk2
          go_wp2_with fail
          refine Calls.mono (HA.out _ HG.out) ?_; rintro e v1 ⟨rfl, k1⟩
          have HZ1 : Hid (Below w.heap.size w v1) := k1
          clear k1
          go_wp2_with fail
          go_ret
          exact ⟨rfl, HZ1.out⟩
        · clear hk hk2
          go_wp2_with fail
          refine Calls.mono (HA.out _ HG.out) ?_; rintro e v1 ⟨rfl, k1⟩
          have HZ1 : Hid (Below w.heap.size w v1) := k1
          clear k1
          go_wp2_with fail
          go_ret
          exact ⟨rfl, HZ1.out⟩
        · clear hk hk2
          go_wp2_with fail
          refine Calls.mono (HA.out _ HG.out) ?_; rintro e v1 ⟨rfl, k1⟩
          have HZ1 : Hid (Below w.heap.size w v1) := k1
          clear k1
          go_wp2_with fail
          go_ret
          exact ⟨rfl, HZ1.out⟩
    · exfalso
      obtain ⟨i, hi, e⟩ := hb.out
      rw [HO.out i hi (by omega)] at e
      cases e
theorem blanks_none (s b : ByteArray) (h : ¬ 256 < (s.size : Int)) (h2 : ¬ 20 < (b.size : Int)) (hb : Hid (∀ i (hi : i < b.size), okB b[i] = true)) (p e0 : Int) (he : (e0 != 0) = true) (H : Hid (∀ w, Glob w → Calls Tryd.prog 9 #[.string s] w fun e w' => ∃ a c, e = .returned (.tuple #[.slice a 0 c, .int .i64 p, .int .i64 e0]) ∧ Below w.heap.size w w')) (w : World) (hg : Glob w) :
    Calls Tryd.prog 6 #[.string s, .string b] w fun e w' => e = .returned (.bool true) ∧ Below w.heap.size w w' := by
  have HA : Hid AwkC := awk_c
  have HG : Hid (Glob w) := hg
  clear hg
  go_enter Tryd.func6, Tryd.ntmps6
  go_wp2_with fail
  go_loop [5] (fun i => ∃ j : Nat, j ≤ b.size ∧ i = .int .i64 j) (fun i => b.size - (intOf i).toNat)
  case atStart => exact ⟨0, Nat.zero_le _, rfl⟩
  case round =>
    obtain ⟨j, hj, rfl⟩ := hrel
    by_cases hlt : j < b.size
    · obtain ⟨q1, q2, q3⟩ := okB_yes (hb.out j hlt)
      go_wp2_with fail
      go_round
      case rel => exact ⟨j + 1, by omega, by go_num⟩
      case measure => simp [intOf]; omega
    · go_wp2_with fail
      refine Calls.mono (H.out _ HG.out) ?_; rintro e w1 ⟨a, c, rfl, k1⟩
      have HK : Hid (Below w.heap.size w w1) := k1
      have HG1 : Hid (Glob w1) := HG.out.next k1
      clear k1
      go_wp2_with fail
      refine Calls.mono (HA.out _ HG1.out) ?_; rintro e v2 ⟨rfl, k2⟩
      have HZ2 : Hid (Below w.heap.size w v2) := Below.next HK.out k2
      clear k2
      go_wp2_with fail
      go_ret
      exact ⟨rfl, HZ2.out⟩
theorem blanks_both (s b : ByteArray) (h : ¬ 256 < (s.size : Int)) (h2 : ¬ 20 < (b.size : Int)) (hb : Hid (∀ i (hi : i < b.size), okB b[i] = true)) (D1 D2 : ByteArray) (r r1 r2 : List (TK × Nat)) (n n1 n2 : Nat) (hn : ((n : Int) == 0) = false)
    (H1 : Hid (∀ w, Glob w → Calls Tryd.prog 9 #[.string s] w fun e w' => ∃ g c, e = .returned (.tuple #[.slice (some ⟨g, 0, none⟩) n c, .int .i64 0, .int .i64 0]) ∧ Cells w' g r ∧ Below w.heap.size w w'))
    (HP1 : Hid (∀ w g c, Glob w → Cells w g r → Calls Tryd.prog 18 #[.slice (some ⟨g, 0, none⟩) n c, .string (⟨#[32, 9, 47, 42]⟩ ++ b ++ ⟨#[42, 47, 10]⟩)] w fun e w' => e = .returned (.string D1) ∧ Below w.heap.size w w'))
    (H3 : Hid (∀ w, Glob w → Calls Tryd.prog 9 #[.string D1] w fun e w' => ∃ g c, e = .returned (.tuple #[.slice (some ⟨g, 0, none⟩) n1 c, .int .i64 0, .int .i64 0]) ∧ Cells w' g r1 ∧ Below w.heap.size w w'))
    (HP2 : Hid (∀ w g c, Glob w → Cells w g r → Calls Tryd.prog 18 #[.slice (some ⟨g, 0, none⟩) n c, .string (⟨#[32, 45, 45]⟩ ++ b ++ ⟨#[13, 10, 32]⟩)] w fun e w' => e = .returned (.string D2) ∧ Below w.heap.size w w'))
    (H5 : Hid (∀ w, Glob w → Calls Tryd.prog 9 #[.string D2] w fun e w' => ∃ g c, e = .returned (.tuple #[.slice (some ⟨g, 0, none⟩) n2 c, .int .i64 0, .int .i64 0]) ∧ Cells w' g r2 ∧ Below w.heap.size w w'))
    (HS1 : Hid (∀ w g c g' c', Cells w g r → Cells w g' r1 → Calls Tryd.prog 11 #[.slice (some ⟨g, 0, none⟩) n c, .slice (some ⟨g', 0, none⟩) n1 c'] w fun e w' => e = .returned (.bool true) ∧ Below w.heap.size w w'))
    (HS2 : Hid (∀ w g c g' c', Cells w g r → Cells w g' r2 → Calls Tryd.prog 11 #[.slice (some ⟨g, 0, none⟩) n c, .slice (some ⟨g', 0, none⟩) n2 c'] w fun e w' => e = .returned (.bool true) ∧ Below w.heap.size w w'))
    (w : World) (hg : Glob w) :
    Calls Tryd.prog 6 #[.string s, .string b] w fun e w' => e = .returned (.bool true) ∧ Below w.heap.size w w' := by
  have HA : Hid AwkC := awk_c
  have HG : Hid (Glob w) := hg
  clear hg
  go_enter Tryd.func6, Tryd.ntmps6
  go_wp2_with fail
  go_loop [5] (fun i => ∃ j : Nat, j ≤ b.size ∧ i = .int .i64 j) (fun i => b.size - (intOf i).toNat)
  case atStart => exact ⟨0, Nat.zero_le _, rfl⟩
  case round =>
    obtain ⟨j, hj, rfl⟩ := hrel
    by_cases hlt : j < b.size
    · obtain ⟨q1, q2, q3⟩ := okB_yes (hb.out j hlt)
      go_wp2_with fail
      go_round
      case rel => exact ⟨j + 1, by omega, by go_num⟩
      case measure => simp [intOf]; omega
    · have hz1 : (⟨#[32, 9, 47, 42]⟩ : ByteArray).size = 4 := rfl
      have hz2 : (⟨#[42, 47, 10]⟩ : ByteArray).size = 3 := rfl
      have hz3 : (⟨#[32, 45, 45]⟩ : ByteArray).size = 3 := rfl
      have hz4 : (⟨#[13, 10, 32]⟩ : ByteArray).size = 3 := rfl
      have hz5 : b.size ≤ 20 := by omega
      go_wp2_with fail
      refine Calls.mono (H1.out _ HG.out) ?_; rintro e w1 ⟨g, c, rfl, hc, k1⟩
      have HK1 : Hid (Below w.heap.size w w1) := k1
      have HG1 : Hid (Glob w1) := HG.out.next k1
      have HC1 : Hid (Cells w1 g r) := hc
      clear k1 hc
      go_wp2_with fail
      refine Calls.mono (HP1.out _ _ _ HG1.out HC1.out) ?_; rintro e w2 ⟨rfl, k2⟩
      have HK2 : Hid (Below w.heap.size w w2) := Below.next HK1.out k2
      have HG2 : Hid (Glob w2) := HG1.out.next k2
      have HC2 : Hid (Cells w2 g r) := HC1.out.next k2
      clear k2
      go_wp2_with fail
      refine Calls.mono (H3.out _ HG2.out) ?_; rintro e w3 ⟨ga, cga, rfl, hcga, k3⟩
      have HK3 : Hid (Below w.heap.size w w3) := Below.next HK2.out k3
      have HG3 : Hid (Glob w3) := HG2.out.next k3
      have HC3 : Hid (Cells w3 g r) := HC2.out.next k3
      have HDga : Hid (Cells w3 ga r1) := hcga
      clear k3 hcga
      go_wp2_with fail
      refine Calls.mono (HP2.out _ _ _ HG3.out HC3.out) ?_; rintro e w4 ⟨rfl, k4⟩
      have HK4 : Hid (Below w.heap.size w w4) := Below.next HK3.out k4
      have HG4 : Hid (Glob w4) := HG3.out.next k4
      have HC4 : Hid (Cells w4 g r) := HC3.out.next k4
      have HD4 : Hid (Cells w4 ga r1) := HDga.out.next k4
      clear k4
      go_wp2_with fail
      refine Calls.mono (H5.out _ HG4.out) ?_; rintro e w5 ⟨gb, cgb, rfl, hcgb, k5⟩
      have HK5 : Hid (Below w.heap.size w w5) := Below.next HK4.out k5
      have HG5 : Hid (Glob w5) := HG4.out.next k5
      have HC5 : Hid (Cells w5 g r) := HC4.out.next k5
      have HDgb : Hid (Cells w5 gb r2) := hcgb
      have HD5 : Hid (Cells w5 ga r1) := HD4.out.next k5
      clear k5 hcgb
      go_wp2_with fail
      refine Calls.mono (HS1.out _ _ _ _ _ HC5.out HD5.out) ?_; rintro e w6 ⟨rfl, k6⟩
      have HK6 : Hid (Below w.heap.size w w6) := Below.next HK5.out k6
      have HG6 : Hid (Glob w6) := HG5.out.next k6
      have HC6 : Hid (Cells w6 g r) := HC5.out.next k6
      have HD6 : Hid (Cells w6 gb r2) := HDgb.out.next k6
      clear k6
      go_wp2_with fail
      refine Calls.mono (HS2.out _ _ _ _ _ HC6.out HD6.out) ?_; rintro e w7 ⟨rfl, k7⟩
      have HK7 : Hid (Below w.heap.size w w7) := Below.next HK6.out k7
      have HG7 : Hid (Glob w7) := HG6.out.next k7
      clear k7
      go_wp2_with fail
      refine Calls.mono (HA.out _ HG7.out) ?_; rintro e v8 ⟨rfl, k8⟩
      have HZ8 : Hid (Below w.heap.size w v8) := Below.next HK7.out k8
      clear k8
      go_wp2_with fail
      go_ret
      exact ⟨rfl, HZ8.out⟩
theorem blanks_one (s b : ByteArray) (h : ¬ 256 < (s.size : Int)) (h2 : ¬ 20 < (b.size : Int)) (hb : Hid (∀ i (hi : i < b.size), okB b[i] = true)) (D1 D2 : ByteArray) (r : List (TK × Nat)) (n : Nat) (hn : ((n : Int) == 0) = false)
    (H1 : Hid (∀ w, Glob w → Calls Tryd.prog 9 #[.string s] w fun e w' => ∃ g c, e = .returned (.tuple #[.slice (some ⟨g, 0, none⟩) n c, .int .i64 0, .int .i64 0]) ∧ Cells w' g r ∧ Below w.heap.size w w'))
    (HP1 : Hid (∀ w g c, Glob w → Cells w g r → Calls Tryd.prog 18 #[.slice (some ⟨g, 0, none⟩) n c, .string (⟨#[32, 9, 47, 42]⟩ ++ b ++ ⟨#[42, 47, 10]⟩)] w fun e w' => e = .returned (.string D1) ∧ Below w.heap.size w w'))
    (r1 : List (TK × Nat)) (n1 : Nat) (H3 : Hid (∀ w, Glob w → Calls Tryd.prog 9 #[.string D1] w fun e w' => ∃ g c, e = .returned (.tuple #[.slice (some ⟨g, 0, none⟩) n1 c, .int .i64 0, .int .i64 0]) ∧ Cells w' g r1 ∧ Below w.heap.size w w'))
    (HP2 : Hid (∀ w g c, Glob w → Cells w g r → Calls Tryd.prog 18 #[.slice (some ⟨g, 0, none⟩) n c, .string (⟨#[32, 45, 45]⟩ ++ b ++ ⟨#[13, 10, 32]⟩)] w fun e w' => e = .returned (.string D2) ∧ Below w.heap.size w w'))
    (H5 : Hid (∀ w, Glob w → Calls Tryd.prog 9 #[.string D2] w fun e w' => ∃ a c, e = .returned (.tuple #[.slice a 0 c, .int .i64 0, .int .i64 2]) ∧ Below w.heap.size w w'))
    (w : World) (hg : Glob w) :
    Calls Tryd.prog 6 #[.string s, .string b] w fun e w' => e = .returned (.bool true) ∧ Below w.heap.size w w' := by
  have HA : Hid AwkC := awk_c
  have HG : Hid (Glob w) := hg
  clear hg
  go_enter Tryd.func6, Tryd.ntmps6
  go_wp2_with fail
  go_loop [5] (fun i => ∃ j : Nat, j ≤ b.size ∧ i = .int .i64 j) (fun i => b.size - (intOf i).toNat)
  case atStart => exact ⟨0, Nat.zero_le _, rfl⟩
  case round =>
    obtain ⟨j, hj, rfl⟩ := hrel
    by_cases hlt : j < b.size
    · obtain ⟨q1, q2, q3⟩ := okB_yes (hb.out j hlt)
      go_wp2_with fail
      go_round
      case rel => exact ⟨j + 1, by omega, by go_num⟩
      case measure => simp [intOf]; omega
    · have hz1 : (⟨#[32, 9, 47, 42]⟩ : ByteArray).size = 4 := rfl
      have hz2 : (⟨#[42, 47, 10]⟩ : ByteArray).size = 3 := rfl
      have hz3 : (⟨#[32, 45, 45]⟩ : ByteArray).size = 3 := rfl
      have hz4 : (⟨#[13, 10, 32]⟩ : ByteArray).size = 3 := rfl
      have hz5 : b.size ≤ 20 := by omega
      go_wp2_with fail
      refine Calls.mono (H1.out _ HG.out) ?_; rintro e w1 ⟨g, c, rfl, hc, k1⟩
      have HK1 : Hid (Below w.heap.size w w1) := k1
      have HG1 : Hid (Glob w1) := HG.out.next k1
      have HC1 : Hid (Cells w1 g r) := hc
      clear k1 hc
      go_wp2_with fail
      refine Calls.mono (HP1.out _ _ _ HG1.out HC1.out) ?_; rintro e w2 ⟨rfl, k2⟩
      have HK2 : Hid (Below w.heap.size w w2) := Below.next HK1.out k2
      have HG2 : Hid (Glob w2) := HG1.out.next k2
      have HC2 : Hid (Cells w2 g r) := HC1.out.next k2
      clear k2
      go_wp2_with fail
      refine Calls.mono (H3.out _ HG2.out) ?_; rintro e w3 ⟨ga, cga, rfl, hcga, k3⟩
      have HK3 : Hid (Below w.heap.size w w3) := Below.next HK2.out k3
      have HG3 : Hid (Glob w3) := HG2.out.next k3
      have HC3 : Hid (Cells w3 g r) := HC2.out.next k3
      have HDga : Hid (Cells w3 ga r1) := hcga
      clear k3 hcga
      go_wp2_with fail
      refine Calls.mono (HP2.out _ _ _ HG3.out HC3.out) ?_; rintro e w4 ⟨rfl, k4⟩
      have HK4 : Hid (Below w.heap.size w w4) := Below.next HK3.out k4
      have HG4 : Hid (Glob w4) := HG3.out.next k4
      have HC4 : Hid (Cells w4 g r) := HC3.out.next k4
      have HD4 : Hid (Cells w4 ga r1) := HDga.out.next k4
      clear k4
      go_wp2_with fail
      refine Calls.mono (H5.out _ HG4.out) ?_; rintro e w5 ⟨gb, cgb, rfl, k5⟩
      have HK5 : Hid (Below w.heap.size w w5) := Below.next HK4.out k5
      have HG5 : Hid (Glob w5) := HG4.out.next k5
      have HC5 : Hid (Cells w5 g r) := HC4.out.next k5
      clear k5
      go_wp2_with fail
      refine Calls.mono (HA.out _ HG5.out) ?_; rintro e v8 ⟨rfl, k8⟩
      have HZ8 : Hid (Below w.heap.size w v8) := Below.next HK5.out k8
      clear k8
      go_wp2_with fail
      go_ret
      exact ⟨rfl, HZ8.out⟩
theorem blanks_two (s b : ByteArray) (h : ¬ 256 < (s.size : Int)) (h2 : ¬ 20 < (b.size : Int)) (hb : Hid (∀ i (hi : i < b.size), okB b[i] = true)) (D1 D2 : ByteArray) (r : List (TK × Nat)) (n : Nat) (hn : ((n : Int) == 0) = false)
    (H1 : Hid (∀ w, Glob w → Calls Tryd.prog 9 #[.string s] w fun e w' => ∃ g c, e = .returned (.tuple #[.slice (some ⟨g, 0, none⟩) n c, .int .i64 0, .int .i64 0]) ∧ Cells w' g r ∧ Below w.heap.size w w'))
    (HP1 : Hid (∀ w g c, Glob w → Cells w g r → Calls Tryd.prog 18 #[.slice (some ⟨g, 0, none⟩) n c, .string (⟨#[32, 9, 47, 42]⟩ ++ b ++ ⟨#[42, 47, 10]⟩)] w fun e w' => e = .returned (.string D1) ∧ Below w.heap.size w w'))
    (r2 : List (TK × Nat)) (n2 : Nat) (H3 : Hid (∀ w, Glob w → Calls Tryd.prog 9 #[.string D1] w fun e w' => ∃ a c, e = .returned (.tuple #[.slice a 0 c, .int .i64 0, .int .i64 2]) ∧ Below w.heap.size w w'))
    (HP2 : Hid (∀ w g c, Glob w → Cells w g r → Calls Tryd.prog 18 #[.slice (some ⟨g, 0, none⟩) n c, .string (⟨#[32, 45, 45]⟩ ++ b ++ ⟨#[13, 10, 32]⟩)] w fun e w' => e = .returned (.string D2) ∧ Below w.heap.size w w'))
    (H5 : Hid (∀ w, Glob w → Calls Tryd.prog 9 #[.string D2] w fun e w' => ∃ g c, e = .returned (.tuple #[.slice (some ⟨g, 0, none⟩) n2 c, .int .i64 0, .int .i64 0]) ∧ Cells w' g r2 ∧ Below w.heap.size w w'))
    (w : World) (hg : Glob w) :
    Calls Tryd.prog 6 #[.string s, .string b] w fun e w' => e = .returned (.bool true) ∧ Below w.heap.size w w' := by
  have HA : Hid AwkC := awk_c
  have HG : Hid (Glob w) := hg
  clear hg
  go_enter Tryd.func6, Tryd.ntmps6
  go_wp2_with fail
  go_loop [5] (fun i => ∃ j : Nat, j ≤ b.size ∧ i = .int .i64 j) (fun i => b.size - (intOf i).toNat)
  case atStart => exact ⟨0, Nat.zero_le _, rfl⟩
  case round =>
    obtain ⟨j, hj, rfl⟩ := hrel
    by_cases hlt : j < b.size
    · obtain ⟨q1, q2, q3⟩ := okB_yes (hb.out j hlt)
      go_wp2_with fail
      go_round
      case rel => exact ⟨j + 1, by omega, by go_num⟩
      case measure => simp [intOf]; omega
    · have hz1 : (⟨#[32, 9, 47, 42]⟩ : ByteArray).size = 4 := rfl
      have hz2 : (⟨#[42, 47, 10]⟩ : ByteArray).size = 3 := rfl
      have hz3 : (⟨#[32, 45, 45]⟩ : ByteArray).size = 3 := rfl
      have hz4 : (⟨#[13, 10, 32]⟩ : ByteArray).size = 3 := rfl
      have hz5 : b.size ≤ 20 := by omega
      go_wp2_with fail
      refine Calls.mono (H1.out _ HG.out) ?_; rintro e w1 ⟨g, c, rfl, hc, k1⟩
      have HK1 : Hid (Below w.heap.size w w1) := k1
      have HG1 : Hid (Glob w1) := HG.out.next k1
      have HC1 : Hid (Cells w1 g r) := hc
      clear k1 hc
      go_wp2_with fail
      refine Calls.mono (HP1.out _ _ _ HG1.out HC1.out) ?_; rintro e w2 ⟨rfl, k2⟩
      have HK2 : Hid (Below w.heap.size w w2) := Below.next HK1.out k2
      have HG2 : Hid (Glob w2) := HG1.out.next k2
      have HC2 : Hid (Cells w2 g r) := HC1.out.next k2
      clear k2
      go_wp2_with fail
      refine Calls.mono (H3.out _ HG2.out) ?_; rintro e w3 ⟨ga, cga, rfl, k3⟩
      have HK3 : Hid (Below w.heap.size w w3) := Below.next HK2.out k3
      have HG3 : Hid (Glob w3) := HG2.out.next k3
      have HC3 : Hid (Cells w3 g r) := HC2.out.next k3
      clear k3
      go_wp2_with fail
      refine Calls.mono (HP2.out _ _ _ HG3.out HC3.out) ?_; rintro e w4 ⟨rfl, k4⟩
      have HK4 : Hid (Below w.heap.size w w4) := Below.next HK3.out k4
      have HG4 : Hid (Glob w4) := HG3.out.next k4
      have HC4 : Hid (Cells w4 g r) := HC3.out.next k4
      clear k4
      go_wp2_with fail
      refine Calls.mono (H5.out _ HG4.out) ?_; rintro e w5 ⟨gb, cgb, rfl, hcgb, k5⟩
      have HK5 : Hid (Below w.heap.size w w5) := Below.next HK4.out k5
      have HG5 : Hid (Glob w5) := HG4.out.next k5
      have HC5 : Hid (Cells w5 g r) := HC4.out.next k5
      have HDgb : Hid (Cells w5 gb r2) := hcgb
      clear k5 hcgb
      go_wp2_with fail
      refine Calls.mono (HA.out _ HG5.out) ?_; rintro e v8 ⟨rfl, k8⟩
      have HZ8 : Hid (Below w.heap.size w v8) := Below.next HK5.out k8
      clear k8
      go_wp2_with fail
      go_ret
      exact ⟨rfl, HZ8.out⟩
theorem blanks_no (s b : ByteArray) (h : ¬ 256 < (s.size : Int)) (h2 : ¬ 20 < (b.size : Int)) (hb : Hid (∀ i (hi : i < b.size), okB b[i] = true)) (D1 D2 : ByteArray) (r : List (TK × Nat)) (n : Nat) (hn : ((n : Int) == 0) = false)
    (H1 : Hid (∀ w, Glob w → Calls Tryd.prog 9 #[.string s] w fun e w' => ∃ g c, e = .returned (.tuple #[.slice (some ⟨g, 0, none⟩) n c, .int .i64 0, .int .i64 0]) ∧ Cells w' g r ∧ Below w.heap.size w w'))
    (HP1 : Hid (∀ w g c, Glob w → Cells w g r → Calls Tryd.prog 18 #[.slice (some ⟨g, 0, none⟩) n c, .string (⟨#[32, 9, 47, 42]⟩ ++ b ++ ⟨#[42, 47, 10]⟩)] w fun e w' => e = .returned (.string D1) ∧ Below w.heap.size w w'))
    (H3 : Hid (∀ w, Glob w → Calls Tryd.prog 9 #[.string D1] w fun e w' => ∃ a c, e = .returned (.tuple #[.slice a 0 c, .int .i64 0, .int .i64 2]) ∧ Below w.heap.size w w'))
    (HP2 : Hid (∀ w g c, Glob w → Cells w g r → Calls Tryd.prog 18 #[.slice (some ⟨g, 0, none⟩) n c, .string (⟨#[32, 45, 45]⟩ ++ b ++ ⟨#[13, 10, 32]⟩)] w fun e w' => e = .returned (.string D2) ∧ Below w.heap.size w w'))
    (H5 : Hid (∀ w, Glob w → Calls Tryd.prog 9 #[.string D2] w fun e w' => ∃ a c, e = .returned (.tuple #[.slice a 0 c, .int .i64 0, .int .i64 2]) ∧ Below w.heap.size w w'))
    (w : World) (hg : Glob w) :
    Calls Tryd.prog 6 #[.string s, .string b] w fun e w' => e = .returned (.bool true) ∧ Below w.heap.size w w' := by
  have HA : Hid AwkC := awk_c
  have HG : Hid (Glob w) := hg
  clear hg
  go_enter Tryd.func6, Tryd.ntmps6
  go_wp2_with fail
  go_loop [5] (fun i => ∃ j : Nat, j ≤ b.size ∧ i = .int .i64 j) (fun i => b.size - (intOf i).toNat)
  case atStart => exact ⟨0, Nat.zero_le _, rfl⟩
  case round =>
    obtain ⟨j, hj, rfl⟩ := hrel
    by_cases hlt : j < b.size
    · obtain ⟨q1, q2, q3⟩ := okB_yes (hb.out j hlt)
      go_wp2_with fail
      go_round
      case rel => exact ⟨j + 1, by omega, by go_num⟩
      case measure => simp [intOf]; omega
    · have hz1 : (⟨#[32, 9, 47, 42]⟩ : ByteArray).size = 4 := rfl
      have hz2 : (⟨#[42, 47, 10]⟩ : ByteArray).size = 3 := rfl
      have hz3 : (⟨#[32, 45, 45]⟩ : ByteArray).size = 3 := rfl
      have hz4 : (⟨#[13, 10, 32]⟩ : ByteArray).size = 3 := rfl
      have hz5 : b.size ≤ 20 := by omega
      go_wp2_with fail
      refine Calls.mono (H1.out _ HG.out) ?_; rintro e w1 ⟨g, c, rfl, hc, k1⟩
      have HK1 : Hid (Below w.heap.size w w1) := k1
      have HG1 : Hid (Glob w1) := HG.out.next k1
      have HC1 : Hid (Cells w1 g r) := hc
      clear k1 hc
      go_wp2_with fail
      refine Calls.mono (HP1.out _ _ _ HG1.out HC1.out) ?_; rintro e w2 ⟨rfl, k2⟩
      have HK2 : Hid (Below w.heap.size w w2) := Below.next HK1.out k2
      have HG2 : Hid (Glob w2) := HG1.out.next k2
      have HC2 : Hid (Cells w2 g r) := HC1.out.next k2
      clear k2
      go_wp2_with fail
      refine Calls.mono (H3.out _ HG2.out) ?_; rintro e w3 ⟨ga, cga, rfl, k3⟩
      have HK3 : Hid (Below w.heap.size w w3) := Below.next HK2.out k3
      have HG3 : Hid (Glob w3) := HG2.out.next k3
      have HC3 : Hid (Cells w3 g r) := HC2.out.next k3
      clear k3
      go_wp2_with fail
      refine Calls.mono (HP2.out _ _ _ HG3.out HC3.out) ?_; rintro e w4 ⟨rfl, k4⟩
      have HK4 : Hid (Below w.heap.size w w4) := Below.next HK3.out k4
      have HG4 : Hid (Glob w4) := HG3.out.next k4
      have HC4 : Hid (Cells w4 g r) := HC3.out.next k4
      clear k4
      go_wp2_with fail
      refine Calls.mono (H5.out _ HG4.out) ?_; rintro e w5 ⟨gb, cgb, rfl, k5⟩
      have HK5 : Hid (Below w.heap.size w w5) := Below.next HK4.out k5
      have HG5 : Hid (Glob w5) := HG4.out.next k5
      have HC5 : Hid (Cells w5 g r) := HC4.out.next k5
      clear k5
      go_wp2_with fail
      refine Calls.mono (HA.out _ HG5.out) ?_; rintro e v8 ⟨rfl, k8⟩
      have HZ8 : Hid (Below w.heap.size w v8) := Below.next HK5.out k8
      clear k8
      go_wp2_with fail
      go_ret
      exact ⟨rfl, HZ8.out⟩

theorem tokens_full2 {L : List UInt8} (h : 4096 < L.length) (w : World) (hg : Glob w) : Calls Tryd.prog 9 #[.string ⟨L.toArray⟩] w fun e w' => ∃ a c, e = .returned (.tuple #[.slice a 0 c, .int .i64 0, .int .i64 2]) ∧ Below w.heap.size w w' := by
  have e := too_long h
  have := tokens_not ⟨L.toArray⟩ (by show (tokV L).1 = []; rw [e]) w hg
  refine this.mono ?_
  rintro e' w' ⟨a, c, rfl, k⟩
  refine ⟨a, c, ?_, k⟩
  show Ending.returned (.tuple #[_, .int .i64 (tokV L).2.1, .int .i64 (tokV L).2.2]) = _
  rw [e]
theorem walk_blanks (s b : ByteArray) (w : World) (hg : Glob w) : Calls Tryd.prog 6 #[.string s, .string b] w fun e w' => e = .returned (.bool true) ∧ Below w.heap.size w w' := by
  by_cases h : 256 < s.size
  · exact blanks_long s b (by omega) w hg
  by_cases h2 : 20 < b.size
  · exact blanks_rem s b (by omega) (by omega) w hg
  have h' : ¬ 256 < (s.size : Int) := by omega
  have h2' : ¬ 20 < (b.size : Int) := by omega
  by_cases hb : ∀ i (hi : i < b.size), okB b[i] = true
  · have hmem : ∀ c ∈ b.data.toList, okB c = true := fun c hc => by
      obtain ⟨i, hi, e⟩ := List.getElem_of_mem hc
      rw [len_of] at hi
      rw [← e]
      exact hb i hi
    have h42 : ∀ c ∈ b.data.toList, c ≠ 42 := fun c hc e => by have := hmem c hc; rw [e] at this; revert this; decide
    have h10 : ∀ c ∈ b.data.toList, c ≠ 10 := fun c hc e => by have := hmem c hc; rw [e] at this; revert this; decide
    rcases tokV_cases s.data.toList with ⟨ts, ht⟩ | ⟨h1, h3⟩
    · have hl : s.data.toList.length ≤ 512 := by rw [len_of]; omega
      have hn : (((fullR s.data.toList ts).length : Int) == 0) = false := by simp; omega
      have hlen := ht.len
      have hS1 := sep_one b.data.toList h42
      have hS2 := sep_two b.data.toList h10
      have e1 : (⟨#[32, 9, 47, 42]⟩ ++ b ++ ⟨#[42, 47, 10]⟩ : ByteArray).data.toList = 32 :: 9 :: 47 :: 42 :: (b.data.toList ++ [42, 47, 10]) := by simp [ByteArray.data_append]
      have e2 : (⟨#[32, 45, 45]⟩ ++ b ++ ⟨#[13, 10, 32]⟩ : ByteArray).data.toList = 32 :: 45 :: 45 :: (b.data.toList ++ [13, 10, 32]) := by simp [ByteArray.data_append]
      have z1 : (⟨#[32, 9, 47, 42]⟩ ++ b ++ ⟨#[42, 47, 10]⟩ : ByteArray).size ≤ 100 := by rw [← len_of, e1]; simp; omega
      have z2 : (⟨#[32, 45, 45]⟩ ++ b ++ ⟨#[13, 10, 32]⟩ : ByteArray).size ≤ 100 := by rw [← len_of, e2]; simp; omega
      have p1 := fun w g c hg hc => put_c ht hl _ z1 w g c hg hc
      have p2 := fun w g c hg hc => put_c ht hl _ z2 w g c hg hc
      rw [e1] at p1
      rw [e2] at p2
      have a1 := again ht hS1
      have a2 := again ht hS2
      have q1 := fun w hg => tokens_has s ht w hg
      have hlf : (fullR s.data.toList ts).length ≤ 5000 := by simp; omega
      generalize catL (32 :: 9 :: 47 :: 42 :: (b.data.toList ++ [42, 47, 10])) (fullR s.data.toList ts) = L1 at *
      generalize catL (32 :: 45 :: 45 :: (b.data.toList ++ [13, 10, 32])) (fullR s.data.toList ts) = L2 at *
      by_cases c1 : L1.length ≤ 4096
      · obtain ⟨us, hu, hs⟩ := a1 c1
        by_cases c2 : L2.length ≤ 4096
        · obtain ⟨us2, hu2, hs2⟩ := a2 c2
          exact blanks_both s b h' h2' hb _ _ _ _ _ _ _ _ hn q1 p1 (fun w hg => tokens_has ⟨L1.toArray⟩ hu w hg) p2 (fun w hg => tokens_has ⟨L2.toArray⟩ hu2 w hg) (fun w g c g' c' hc hc' => same_c hs hlf w g c g' c' hc hc') (fun w g c g' c' hc hc' => same_c hs2 hlf w g c g' c' hc hc') w hg
        · exact blanks_one s b h' h2' hb _ _ _ _ hn q1 p1 _ _ (fun w hg => tokens_has ⟨L1.toArray⟩ hu w hg) p2 (fun w hg => tokens_full2 (by omega) w hg) w hg
      · by_cases c2 : L2.length ≤ 4096
        · obtain ⟨us2, hu2, hs2⟩ := a2 c2
          exact blanks_two s b h' h2' hb _ _ _ _ hn q1 p1 _ _ (fun w hg => tokens_full2 (by omega) w hg) p2 (fun w hg => tokens_has ⟨L2.toArray⟩ hu2 w hg) w hg
        · exact blanks_no s b h' h2' hb _ _ _ _ hn q1 p1 (fun w hg => tokens_full2 (by omega) w hg) p2 (fun w hg => tokens_full2 (by omega) w hg) w hg
    · exact blanks_none s b h' h2' hb _ _ (by simpa using h3) (fun w hg => tokens_not s h1 w hg) w hg
  · refine blanks_bad s b h' h2' ?_ w hg
    refine Classical.byContradiction (fun q => hb (fun i hi => ?_))
    cases e : okB b[i]
    · exact absurd ⟨i, hi, e⟩ q
    · rfl
end Go.Proofs.YtgokilochbnbaaaDoor
