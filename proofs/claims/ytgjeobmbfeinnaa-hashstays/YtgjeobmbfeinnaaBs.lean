/- slices.BinarySearch of numbers. -/
import Derived.Test.YtgjeobmbfeinnaaPur
namespace Go.Proofs.Ytgjeobmbfeinnaa
open Go.ChangeShapes Go.WideShapes Go.RowKit
set_option linter.unusedVariables false
set_option maxRecDepth 100000

theorem isNaN_is (s : Int) (w : World) : Calls Try.prog 30 #[.int .i64 s] w fun e w' => e = .returned (.bool false) ∧ w' = w := by
  go_enter Try.func30, Try.ntmps30
  go_wp2_with fail
  go_ret
  exact ⟨by simp, rfl⟩
theorem isNaN2_is (s : Int) (w : World) : Calls Try.prog 40 #[.int .i64 s] w fun e w' => e = .returned (.bool false) ∧ w' = w := by
  go_enter Try.func40, Try.ntmps40
  go_wp2_with fail
  go_ret
  exact ⟨by simp, rfl⟩
theorem less_is (a b : Int) (w : World) : Calls Try.prog 29 #[.int .i64 a, .int .i64 b] w fun e w' => e = .returned (.bool (decide (a < b))) ∧ w' = w := by
  have HN : Hid (∀ s w, Calls Try.prog 40 #[.int .i64 s] w fun e w' => e = .returned (.bool false) ∧ w' = w) := isNaN2_is
  by_cases h : a < b
  · go_enter Try.func29, Try.ntmps29
    go_wp2_with (refine Calls.mono (HN.out _ _) ?_; rintro e w1 ⟨rfl, rfl⟩)
    go_ret
    exact ⟨by simp [h], rfl⟩
  · go_enter Try.func29, Try.ntmps29
    go_wp2_with (refine Calls.mono (HN.out _ _) ?_; rintro e w1 ⟨rfl, rfl⟩)
    go_ret
    exact ⟨by simp, rfl⟩
set_option maxHeartbeats 4000000 in
theorem bsearch_is (u : Value) (l : List Int) (hs : Rise l) (hm : l.length ≤ 1000) (key : Int) (w : World) (hr : Sl iv 1 w u l) :
    Calls Try.prog 21 #[u, .int .i64 key] w fun e w' => e = .returned (.tuple #[.int .i64 (lo l key : Nat), .bool (decide (key ∈ l))]) ∧ w' = w := by
  obtain ⟨p, hp⟩ : ∃ p, lo l key = p := ⟨_, rfl⟩
  have hpl : p ≤ l.length := by rw [← hp]; exact lo_le _ _
  have HLT : Hid (∀ i (h : i < l.length), i < p → l[i] < key) := fun i h q => lo_lt l key i h (by rw [hp]; exact q)
  have HGE : Hid (∀ i (h : i < l.length), p ≤ i → key ≤ l[i]) := fun i h q => lo_ge hs key i h (by rw [hp]; exact q)
  have HHAS : Hid (key ∈ l ↔ ∃ h : p < l.length, l[p] = key) := by
    show _ ↔ _
    subst hp
    exact mem_lo hs key
  obtain ⟨z, hz⟩ : ∃ z, decide (key ∈ l) = z := ⟨_, rfl⟩
  have HZ : Hid (decide (key ∈ l) = z) := hz
  rw [hp, hz]
  have HSL : Hid (Sl iv 1 w u l) := hr
  have HO : Hid (∀ a b w, Calls Try.prog 29 #[.int .i64 a, .int .i64 b] w fun e w' => e = .returned (.bool (decide (a < b))) ∧ w' = w) := less_is
  have HN : Hid (∀ s w, Calls Try.prog 30 #[.int .i64 s] w fun e w' => e = .returned (.bool false) ∧ w' = w) := isNaN_is
  obtain ⟨n, hn⟩ : ∃ n, l.length = n := ⟨_, rfl⟩
  have HL : Hid (l.length = n) := hn
  obtain ⟨a, c, hu, _, _, _⟩ := hr
  rw [hn] at hu hpl hm
  subst hu
  clear hp hs hz hn
  go_enter Try.func21, Try.ntmps21
  go_wp2_with fail
  go_loopw [7, 8] (fun vi vj wr => ∃ i j : Nat, i ≤ p ∧ p ≤ j ∧ j ≤ n ∧ vi = .int .i64 i ∧ vj = .int .i64 j ∧ w = wr)
    (fun vi vj _ => (intOf vj).toNat - (intOf vi).toNat)
  case atStart => exact ⟨0, n, Nat.zero_le _, hpl, Nat.le_refl _, rfl, rfl, rfl⟩
  case round =>
    obtain ⟨i, j, hip, hpj, hjn, rfl, rfl, rfl⟩ := hrel
    by_cases hij : i < j
    · have hiji : (i : Int) < (j : Int) := by omega
      obtain ⟨m, hmid⟩ : ∃ m : Nat, ((i : Int) + (j : Int)) / 2 = (m : Int) := ⟨(i + j) / 2, by omega⟩
      have him : i ≤ m := by omega
      have hmj : m < j := by omega
      have hmn : m < n := by omega
      have hmni : (m : Int) < (n : Int) := by omega
      have hml : m < l.length := by have := HL.out; omega
      have hl0 : l ≠ [] := fun e => by rw [e] at hml; simp at hml
      obtain ⟨b, o, c', hv, hc', hb, hc⟩ := HSL.out.ints hl0
      rw [HL.out] at hv
      cases hv
      have y0 := hc m hml
      have HC : Hid (∀ w', Calls Try.prog 29 #[.int .i64 l[m], .int .i64 key] w' fun e w'' => e = .returned (.bool (decide (l[m] < key))) ∧ w'' = w') := fun w' => HO.out _ _ w'
      by_cases hmp : m < p
      · have hr0 : decide (l[m] < key) = true := decide_eq_true (HLT.out m hml hmp)
        rw [hr0] at HC
        generalize l[m] = x1 at *
        clear hr0 hc hb hl0 hml HO
        go_wp2_with (refine Calls.mono (HC.out _) ?_; rintro e w3 ⟨rfl, rfl⟩)
        go_roundw
        case rel => exact ⟨m + 1, j, by omega, hpj, hjn, by go_num, rfl, by first | rfl | trivial⟩
        case measure => simp [intOf]; omega
      · have hr0 : decide (l[m] < key) = false := decide_eq_false (Int.not_lt.2 (HGE.out m hml (by omega)))
        rw [hr0] at HC
        generalize l[m] = x1 at *
        clear hr0 hc hb hl0 hml HO
        go_wp2_with (refine Calls.mono (HC.out _) ?_; rintro e w3 ⟨rfl, rfl⟩)
        go_roundw
        case rel => exact ⟨i, m, by omega, by omega, by omega, rfl, by go_num, by first | rfl | trivial⟩
        case measure => simp [intOf]; omega
    · have hiji : ¬ (i : Int) < (j : Int) := by omega
      have e1 : i = p := by omega
      subst e1
      clear HLT HGE
      by_cases hpn : i < n
      · have hpni : (i : Int) < (n : Int) := by omega
        have hml : i < l.length := by have := HL.out; omega
        have hl0 : l ≠ [] := fun e => by rw [e] at hml; simp at hml
        obtain ⟨b, o, c', hv, hc', hb, hc⟩ := HSL.out.ints hl0
        rw [HL.out] at hv
        cases hv
        have y0 := hc i hml
        by_cases q : l[i] = key
        · have HZE : Hid (z = true) := by
            show _ = _
            rw [← HZ.out]
            exact decide_eq_true (HHAS.out.2 ⟨hml, q⟩)
          rw [q] at y0
          clear hc hb hl0 hml HO q HHAS HZ
          go_wp2_with (refine Calls.mono (HN.out _ _) ?_; rintro e w1 ⟨rfl, rfl⟩)
          go_ret2
          refine ⟨?_, rfl⟩
          rw [HZE.out]
          simp
        · have HZE : Hid (z = false) := by
            show _ = _
            rw [← HZ.out]
            exact decide_eq_false (fun q' => by obtain ⟨_, e⟩ := HHAS.out.1 q'; exact q e)
          have q2 : (l[i] == key) = false := by simpa using q
          generalize l[i] = x1 at *
          clear hc hb hl0 hml HO q HHAS HZ
          go_wp2_with (refine Calls.mono (HN.out _ _) ?_; rintro e w1 ⟨rfl, rfl⟩)
          go_ret2
          refine ⟨?_, rfl⟩
          rw [HZE.out]
          simp
      · have hpni : ¬ (i : Int) < (n : Int) := by omega
        have HZE : Hid (z = false) := by
          show _ = _
          rw [← HZ.out]
          exact decide_eq_false (fun q' => by obtain ⟨h, _⟩ := HHAS.out.1 q'; have := HL.out; omega)
        clear HHAS HZ
        go_wp2_with fail
        go_ret2
        refine ⟨?_, rfl⟩
        rw [HZE.out]
        rfl
end Go.Proofs.Ytgjeobmbfeinnaa
