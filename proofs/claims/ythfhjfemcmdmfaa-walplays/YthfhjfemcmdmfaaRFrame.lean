/- The document's log: Frame and Scan. -/
import Derived.Test.YthfhjfemcmdmfaaScan
namespace Go.Proofs.Ythfhjfemcmdmfaa
open Go.ChangeShapes Go.WideShapes Go.ChangeAt Go.RowKit
set_option linter.unusedVariables false
set_option maxRecDepth 100000

theorem refPuts_is (n : Nat) (hn : n < 4294967296) (w : World) : Calls Try.prog 32 #[.int .i64 (n : Int)] w fun e w' => e = .returned (.string (putS n)) ∧ Kept (fun _ => False) w w' := by
  refine (refPut_is (n : Int) w).mono ?_
  rintro e w' ⟨rfl, k⟩
  rw [low_nat hn]
  exact ⟨rfl, below_kept k⟩

theorem rframe_no (t : Int) (s : ByteArray) (hm : s.size ≤ 9223372036854775807) (h : ¬ ((1 ≤ t ∧ t ≤ 2147483647) ∧ (s.size ≠ 0 ∧ s.size ≤ 1024))) (w : World) :
    Calls Try.prog 10 #[.int .i64 t, .string s] w fun e w' => e = .returned (.tuple #[.string ⟨#[]⟩, .int .i64 1]) ∧ w' = w := by
  by_cases h1 : t < 1
  · go_enter Try.func10, Try.ntmps10
    go_wp2_with fail
    go_ret2
    exact ⟨rfl, rfl⟩
  · by_cases h2 : 2147483647 < t
    · go_enter Try.func10, Try.ntmps10
      go_wp2_with fail
      go_ret2
      exact ⟨rfl, rfl⟩
    · by_cases h3 : s.size = 0
      · rw [empty_of h3]
        go_enter Try.func10, Try.ntmps10
        go_wp2_with fail
        go_ret2
        exact ⟨rfl, rfl⟩
      · have hne := not_empty h3
        have h4 : 1024 < (s.size : Int) := by
          have : ¬ s.size ≤ 1024 := fun q => h ⟨⟨by omega, by omega⟩, h3, q⟩
          omega
        go_enter Try.func10, Try.ntmps10
        go_wp2_with fail
        go_ret2
        exact ⟨rfl, rfl⟩

theorem rframe_is (t : Nat) (s : ByteArray) (ht : 1 ≤ t ∧ t ≤ 2147483647) (hs : s.size ≠ 0 ∧ s.size ≤ 1024) (w : World) :
    Calls Try.prog 10 #[.int .i64 (t : Int), .string s] w fun e w' => e = .returned (.tuple #[.string (frameS t s), .int .i64 0]) ∧ Kept (fun _ => False) w w' := by
  have H1 := (show Hid _ from refPuts_is t (by omega))
  have H2 := (show Hid _ from refPuts_is s.size (by omega))
  have hh : (headS t s ++ s).size ≤ 1030 := by simp [headS_size]; omega
  have H3 := (show Hid _ from refSum_is (headS t s ++ s) (by omega))
  have H4 := (show Hid _ from refPuts_is (sumOf (headS t s ++ s).data.toList) (sumOf_lt _))
  unfold frameS
  have s1 := putS_size t
  have s2 := putS_size s.size
  have s3 := headS_size t s
  have HH : Hid (headS t s = putS t ++ (putS s.size).extract 0 2) := rfl
  have s4 := putS_size (sumOf (headS t s ++ s).data.toList)
  have g1 : ¬ (t : Int) < 1 := by omega
  have g2 : ¬ 2147483647 < (t : Int) := by omega
  have g3 := not_empty hs.1
  have g4 : ¬ 1024 < (s.size : Int) := by omega
  generalize sumOf (headS t s ++ s).data.toList = m at *
  generalize putS m = pm at *
  generalize putS t = pt at *
  generalize putS s.size = ps at *
  generalize headS t s = hd at *
  clear ht hh
  go_enter Try.func10, Try.ntmps10
  go_wp2_with fail
  refine Calls.mono (H1.out _) ?_; rintro e w2 ⟨rfl, k2⟩
  have K2 := (show Hid _ from k2)
  clear k2
  go_wp2_with fail
  refine Calls.mono (H2.out _) ?_; rintro e w3 ⟨rfl, k3⟩
  have K3 := (show Hid _ from k3)
  clear k3
  go_wp2_with fail
  rw [← HH.out]
  refine Calls.mono (H3.out _) ?_; rintro e w4 ⟨rfl, rfl⟩
  go_wp2_with fail
  refine Calls.mono (H4.out _) ?_; rintro e w5 ⟨rfl, k5⟩
  have K5 := (show Hid _ from k5)
  clear k5
  go_wp2_with fail
  go_ret2
  exact ⟨rfl, (K2.out.trans K3.out (fun _ q => .inl q)).trans K5.out (fun _ q => .inl q)⟩

theorem rec_none {t : Int} {x : ByteArray} (h : ¬ (10 ≤ x.size ∧ endOf x ≤ x.size ∧ ((1 ≤ t ∧ t ≤ 2147483647) ∧ ((x.extract 10 (endOf x)).size ≠ 0 ∧ (x.extract 10 (endOf x)).size ≤ 1024)) ∧ frameS t.toNat (x.extract 10 (endOf x)) = x.extract 0 (endOf x))) : recOf t x = none := by
  unfold recOf
  rw [if_neg h]
/-- What the two bytes of a length are. -/
theorem len_bytes (x : ByteArray) (h : 10 ≤ x.size) : bits .or .i64 (IntKind.i64.wrap ((x[4]'(by omega)).toNat : Int)) (IntKind.i64.wrap (IntKind.i64.wrap ((x[5]'(by omega)).toNat : Int) * 256)) = ((endOf x - 10 : Nat) : Int) ∧ 10 ≤ endOf x ∧ endOf x ≤ 65805 := by
  have a4 : x.data.toList.getD 4 0 = x[4]'(by omega) := by
    have hz : 4 < x.data.size := by have : x.data.size = x.size := rfl; omega
    rw [List.getD_eq_getElem?_getD, Array.getElem?_toList, Array.getElem?_eq_getElem hz]
    rfl
  have a5 : x.data.toList.getD 5 0 = x[5]'(by omega) := by
    have hz : 5 < x.data.size := by have : x.data.size = x.size := rfl; omega
    rw [List.getD_eq_getElem?_getD, Array.getElem?_toList, Array.getElem?_eq_getElem hz]
    rfl
  have b4 := (x[4]'(by omega)).toNat_lt
  have b5 := (x[5]'(by omega)).toNat_lt
  unfold endOf
  rw [a4, a5]
  refine ⟨?_, by omega, by omega⟩
  have e1 : IntKind.i64.wrap ((x[4]'(by omega)).toNat : Int) = ((x[4]'(by omega)).toNat : Int) := by rw [IntKind.wrap_i64]; omega
  have e2 : IntKind.i64.wrap (IntKind.i64.wrap ((x[5]'(by omega)).toNat : Int) * 256) = (((x[5]'(by omega)).toNat * 256 : Nat) : Int) := by simp only [IntKind.wrap_i64]; omega
  rw [e1, e2, or_next (x[4]'(by omega)).toNat (x[5]'(by omega)).toNat 256 8 (by omega) rfl (by omega) (by omega)]
  congr 1
  omega
end Go.Proofs.Ythfhjfemcmdmfaa
