/- wal: which turns and records may be, and a record's bytes. -/
import Derived.Test.YthfhjfemcmdmfaaBld
import Derived.Test.YthfhjfemcmdmfaaMc
namespace Go.Proofs.Ythfhjfemcmdmfaa
open Go.ChangeShapes Go.WideShapes Go.ChangeAt Go.RowKit
set_option linter.unusedVariables false
set_option maxRecDepth 100000

theorem below_kept {w w' : World} (h : Below w.heap.size w w') : Kept (fun _ => False) w w' := ⟨h.os, h.tape, h.output, h.size, fun k hk _ => h.block k hk⟩

/-- Four bytes of a number. -/
def putS (n : Nat) : ByteArray := ⟨(putL n).toArray⟩
theorem putS_size (n : Nat) : (putS n).size = 4 := rfl
theorem puts_is (n : Nat) (hn : n < 4294967296) (w : World) : Calls Try.prog 30 #[.int .i64 (n : Int)] w fun e w' => e = .returned (.string (putS n)) ∧ Kept (fun _ => False) w w' := by
  refine (put_is (n : Int) w).mono ?_
  rintro e w' ⟨rfl, k⟩
  rw [low_nat hn]
  exact ⟨rfl, below_kept k⟩

theorem mayTurn_is (t : Int) (w : World) : Calls Try.prog 28 #[.int .i64 t] w fun e w' => e = .returned (.bool (decide (1 ≤ t ∧ t ≤ 2147483647))) ∧ w' = w := by
  by_cases h1 : 1 ≤ t
  · by_cases h2 : t ≤ 2147483647
    · rw [decide_eq_true ⟨h1, h2⟩]
      go_enter Try.func28, Try.ntmps28
      go_wp2_with fail
      go_ret
      exact ⟨rfl, rfl⟩
    · rw [decide_eq_false (fun h => h2 h.2)]
      go_enter Try.func28, Try.ntmps28
      go_wp2_with fail
      go_ret
      exact ⟨rfl, rfl⟩
  · rw [decide_eq_false (fun h => h1 h.1)]
    go_enter Try.func28, Try.ntmps28
    go_wp2_with fail
    go_ret
    exact ⟨rfl, rfl⟩

theorem empty_of {s : ByteArray} (h : s.size = 0) : s = ⟨#[]⟩ := by
  apply ByteArray.ext
  exact Array.size_eq_zero_iff.1 h
theorem not_empty {s : ByteArray} (h : s.size ≠ 0) : s.toList.isEmpty = false := by
  cases hl : s.toList with
  | nil =>
    rw [ByteArray.toList_eq] at hl
    exact absurd (show s.data.toList.length = 0 by rw [hl]; rfl) h
  | cons a r => rfl

theorem mayRecord_is (s : ByteArray) (w : World) (hm : s.size ≤ 9223372036854775807) : Calls Try.prog 29 #[.string s] w fun e w' => e = .returned (.bool (decide (s.size ≠ 0 ∧ s.size ≤ 1024))) ∧ w' = w := by
  by_cases h1 : s.size = 0
  · rw [decide_eq_false (fun h => h.1 h1), empty_of h1]
    go_enter Try.func29, Try.ntmps29
    go_wp2_with fail
    go_ret
    exact ⟨rfl, rfl⟩
  · have hne := not_empty h1
    by_cases h2 : s.size ≤ 1024
    · rw [decide_eq_true ⟨h1, h2⟩]
      have h2i : (s.size : Int) ≤ 1024 := by omega
      go_enter Try.func29, Try.ntmps29
      go_wp2_with fail
      go_ret
      exact ⟨rfl, rfl⟩
    · rw [decide_eq_false (fun h => h2 h.2)]
      have h2i : ¬ (s.size : Int) ≤ 1024 := by omega
      go_enter Try.func29, Try.ntmps29
      go_wp2_with fail
      go_ret
      exact ⟨rfl, rfl⟩

/-- What stands ahead of a record's sum. -/
def headS (t : Nat) (s : ByteArray) : ByteArray := putS t ++ (putS s.size).extract 0 2
/-- A record's bytes. -/
def frameS (t : Nat) (s : ByteArray) : ByteArray := headS t s ++ putS (sumOf (headS t s ++ s).data.toList) ++ s
theorem headS_size (t : Nat) (s : ByteArray) : (headS t s).size = 6 := by unfold headS; simp [putS_size]
theorem frameS_size (t : Nat) (s : ByteArray) : (frameS t s).size = 10 + s.size := by unfold frameS; simp [headS_size, putS_size]

theorem frame_no (t : Int) (s : ByteArray) (hm : s.size ≤ 9223372036854775807) (h : ¬ ((1 ≤ t ∧ t ≤ 2147483647) ∧ (s.size ≠ 0 ∧ s.size ≤ 1024))) (w : World) :
    Calls Try.prog 9 #[.int .i64 t, .string s] w fun e w' => e = .returned (.tuple #[.string ⟨#[]⟩, .int .i64 1]) ∧ w' = w := by
  have HT := (show Hid _ from mayTurn_is t)
  have HR := (show Hid _ from fun w => mayRecord_is s w hm)
  by_cases h1 : 1 ≤ t ∧ t ≤ 2147483647
  · have h2 : ¬ (s.size ≠ 0 ∧ s.size ≤ 1024) := fun q => h ⟨h1, q⟩
    rw [decide_eq_true h1] at HT
    rw [decide_eq_false h2] at HR
    clear h h1 h2
    go_enter Try.func9, Try.ntmps9
    go_wp2_with fail
    refine Calls.mono (HT.out _) ?_; rintro e w1 ⟨rfl, rfl⟩
    go_wp2_with fail
    refine Calls.mono (HR.out _) ?_; rintro e w1 ⟨rfl, rfl⟩
    go_wp2_with fail
    go_ret2
    exact ⟨rfl, rfl⟩
  · rw [decide_eq_false h1] at HT
    clear h h1
    go_enter Try.func9, Try.ntmps9
    go_wp2_with fail
    refine Calls.mono (HT.out _) ?_; rintro e w1 ⟨rfl, rfl⟩
    go_wp2_with fail
    go_ret2
    exact ⟨rfl, rfl⟩

theorem frame_is (t : Nat) (s : ByteArray) (ht : 1 ≤ t ∧ t ≤ 2147483647) (hs : s.size ≠ 0 ∧ s.size ≤ 1024) (w : World) :
    Calls Try.prog 9 #[.int .i64 (t : Int), .string s] w fun e w' => e = .returned (.tuple #[.string (frameS t s), .int .i64 0]) ∧ Kept (fun _ => False) w w' := by
  have HT := (show Hid _ from mayTurn_is (t : Int))
  have HR := (show Hid _ from fun w => mayRecord_is s w (by omega))
  rw [decide_eq_true (by omega)] at HT
  rw [decide_eq_true hs] at HR
  have H1 := (show Hid _ from puts_is t (by omega))
  have H2 := (show Hid _ from puts_is s.size (by omega))
  have hh : (headS t s ++ s).size ≤ 1030 := by simp [headS_size]; omega
  have H3 := (show Hid _ from sum_is (headS t s ++ s) (by omega))
  have H4 := (show Hid _ from puts_is (sumOf (headS t s ++ s).data.toList) (sumOf_lt _))
  unfold frameS
  have s1 := putS_size t
  have s2 := putS_size s.size
  have s3 := headS_size t s
  have HH : Hid (headS t s = putS t ++ (putS s.size).extract 0 2) := rfl
  have s4 := putS_size (sumOf (headS t s ++ s).data.toList)
  generalize sumOf (headS t s ++ s).data.toList = m at *
  generalize putS m = pm at *
  generalize putS t = pt at *
  generalize putS s.size = ps at *
  generalize headS t s = hd at *
  clear ht hh
  go_enter Try.func9, Try.ntmps9
  go_wp2_with fail
  refine Calls.mono (HT.out _) ?_; rintro e w1 ⟨rfl, rfl⟩
  go_wp2_with fail
  refine Calls.mono (HR.out _) ?_; rintro e w1 ⟨rfl, rfl⟩
  go_wp2_with fail
  refine Calls.mono (H1.out _) ?_; rintro e w2 ⟨rfl, k2⟩
  have K2 := (show Hid _ from k2)
  clear k2
  go_wp2_with fail
  refine Calls.mono (H2.out _) ?_; rintro e w3 ⟨rfl, k3⟩
  have K3 := (show Hid _ from k3)
  clear k3
  go_wp2_with fail
  rw [← HH.out]
  refine Calls.mono (H3.out _) ?_; rintro e w4 ⟨rfl, rfl⟩
  go_wp2_with fail
  refine Calls.mono (H4.out _) ?_; rintro e w5 ⟨rfl, k5⟩
  have K5 := (show Hid _ from k5)
  clear k5
  go_wp2_with fail
  go_ret2
  exact ⟨rfl, (K2.out.trans K3.out (fun _ q => .inl q)).trans K5.out (fun _ q => .inl q)⟩
end Go.Proofs.Ythfhjfemcmdmfaa
