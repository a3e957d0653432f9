/- The document's key words and letters. -/
import Derived.Test.YtgokilochbnbaaaDoorOb
import Derived.LoopTactic
namespace Go.Proofs.YtgokilochbnbaaaDoor
open Go.ChangeShapes Go.WideShapes Go.ChangeAt Go.RowKit
set_option linter.unusedVariables false
set_option maxRecDepth 100000

/-! ### The document's words -/
theorem has_is (L : List (List UInt8)) (n : Nat) (hn : L.length = n) (hm : n ≤ 1000) (s : ByteArray) (g c : Nat) (w : World) (hc : ∀ i (h : i < L.length), w.cell? ⟨g, i, none⟩ = some (.string ⟨(L[i]).toArray⟩)) :
    Calls Tryd.prog 29 #[.slice (some ⟨g, 0, none⟩) n c, .string s] w fun e w' => e = .returned (.bool (L.contains s.data.toList)) ∧ w' = w := by
  obtain ⟨v, hv⟩ : ∃ v, L.contains s.data.toList = v := ⟨_, rfl⟩
  rw [hv]
  have HV : Hid (L.contains s.data.toList = v) := hv
  have HC : Hid (∀ i (h : i < L.length), w.cell? ⟨g, i, none⟩ = some (.string ⟨(L[i]).toArray⟩)) := hc
  have HN : Hid (L.length = n) := hn
  clear hv hc hn
  go_enter Tryd.func29, Tryd.ntmps29
  go_wp2
  go_loop [5] (fun i => ∃ j : Nat, j ≤ n ∧ i = .int .i64 j ∧ Hid (∀ i (h : i < L.length), i < j → L[i] ≠ s.data.toList)) (fun i => n - (intOf i).toNat)
  case atStart => exact ⟨0, Nat.zero_le _, rfl, fun i h hi => by omega⟩
  case round =>
    obtain ⟨j, hj, rfl, HA⟩ := hrel
    by_cases hlt : j < n
    · have hlti : (j : Int) < (n : Int) := by omega
      have hL : j < L.length := by have := HN.out; omega
      have c0 := HC.out j hL
      by_cases hq : L[j] = s.data.toList
      · have h1 : ((⟨(L[j]).toArray⟩ : ByteArray).toList == s.toList) = true := by rw [toList_ba, hq, ByteArray.toList_eq]; simp
        have HT : Hid (v = true) := by
          show _ = _
          rw [← HV.out, List.contains_iff_mem, ← hq]
          exact List.getElem_mem hL
        generalize (⟨(L[j]).toArray⟩ : ByteArray) = A at *
        clear hq
        go_wp2
        go_ret
        exact ⟨ret_b HT.out.symm, rfl⟩
      · have h1 : ((⟨(L[j]).toArray⟩ : ByteArray).toList == s.toList) = false := by rw [toList_ba, ByteArray.toList_eq]; simpa using hq
        have HA2 : Hid (∀ i (h : i < L.length), i < j + 1 → L[i] ≠ s.data.toList) := fun i h hi => by
          by_cases e : i = j
          · subst e; exact hq
          · exact HA.out i h (by omega)
        generalize (⟨(L[j]).toArray⟩ : ByteArray) = A at *
        clear hq HA
        go_wp2
        go_round
        case rel => exact ⟨j + 1, by omega, by go_num, HA2⟩
        case measure => simp [intOf]; omega
    · have hlti : ¬ (j : Int) < (n : Int) := by omega
      have HT : Hid (v = false) := by
        show _ = _
        rw [← HV.out]
        cases hq : L.contains s.data.toList
        · rfl
        · exfalso
          rw [List.contains_iff_mem] at hq
          obtain ⟨i, hi, e⟩ := List.getElem_of_mem hq
          exact HA.out i hi (by have := HN.out; omega) e
      go_wp2
      go_ret
      exact ⟨ret_b HT.out.symm, rfl⟩
theorem keys_ref (w : World) : Calls Tryd.prog 30 #[] w fun e w' => e = .returned (.slice (some ⟨w.heap.size, 0, none⟩) 37 37) ∧ w' = w.alloc (.cells (keysL.map (fun k => Value.string ⟨k.toArray⟩)).toArray 9) := by
  go_enter Tryd.func30, Tryd.ntmps30
  go_wp2
  go_ret
  exact ⟨rfl, rfl⟩
theorem row_cell (L : List (List UInt8)) (w : World) (i : Nat) (h : i < L.length) : (w.alloc (.cells (L.map (fun k => Value.string ⟨k.toArray⟩)).toArray 9)).cell? ⟨w.heap.size, i, none⟩ = some (.string ⟨(L[i]).toArray⟩) := by
  simp [h]
theorem key_ref (s : ByteArray) (w : World) : Calls Tryd.prog 15 #[.string s] w fun e w' => e = .returned (.bool (keyB s.data.toList)) ∧ Below w.heap.size w w' := by
  have H1 : Hid (∀ w, Calls Tryd.prog 30 #[] w fun e w' => e = .returned (.slice (some ⟨w.heap.size, 0, none⟩) 37 37) ∧ w' = w.alloc (.cells (keysL.map (fun k => Value.string ⟨k.toArray⟩)).toArray 9)) := fun w => keys_ref w
  have H2 : Hid (∀ w : World, Calls Tryd.prog 29 #[.slice (some ⟨w.heap.size, 0, none⟩) 37 37, .string s] (w.alloc (.cells (keysL.map (fun k => Value.string ⟨k.toArray⟩)).toArray 9)) fun e w' => e = .returned (.bool (keyB s.data.toList)) ∧ w' = w.alloc (.cells (keysL.map (fun k => Value.string ⟨k.toArray⟩)).toArray 9)) :=
    fun w => has_is keysL 37 rfl (by omega) s w.heap.size 37 _ (fun i h => row_cell keysL w i h)
  generalize (keysL.map (fun k => Value.string ⟨k.toArray⟩)).toArray = KC at *
  go_enter Tryd.func15, Tryd.ntmps15
  go_wp2_with fail
  refine Calls.mono (H1.out _) ?_; rintro e w1 ⟨rfl, rfl⟩
  go_wp2_with fail
  refine Calls.mono (H2.out _) ?_; rintro e w2 ⟨rfl, rfl⟩
  go_wp2_with fail
  go_ret
  exact ⟨rfl, below1 _ _⟩
/-- A letter of a word. -/
def letB (c : UInt8) (first : Bool) : Bool := ltB c || (!first && dgB c)
theorem letter_ref (c : UInt8) (f : Bool) (w : World) : Calls Tryd.prog 31 #[.int .u8 (c.toNat : Int), .bool f] w fun e w' => e = .returned (.bool (letB c f)) ∧ w' = w := by
  have he : letB c f = (decide ((97 : Int) ≤ (c.toNat : Int) ∧ (c.toNat : Int) ≤ 122 ∨ 65 ≤ (c.toNat : Int) ∧ (c.toNat : Int) ≤ 90) || ((c.toNat : Int) == 95) || (!f && decide ((48 : Int) ≤ (c.toNat : Int) ∧ (c.toNat : Int) ≤ 57))) := by
    unfold letB ltB dgB
    rw [beq_eq]
    cases f
    · rw [Bool.eq_iff_iff]
      simp
      omega
    · rw [Bool.eq_iff_iff]
      simp
      omega
  rw [he]
  generalize (c.toNat : Int) = r at *
  clear he
  have HE : ∀ b : Bool, Hid ((decide ((97 : Int) ≤ r ∧ r ≤ 122 ∨ 65 ≤ r ∧ r ≤ 90) || (r == 95) || (!f && decide ((48 : Int) ≤ r ∧ r ≤ 57))) = b → (decide ((97 : Int) ≤ r ∧ r ≤ 122 ∨ 65 ≤ r ∧ r ≤ 90) || (r == 95) || (!f && decide ((48 : Int) ≤ r ∧ r ≤ 57))) = b) := fun b h => h
  obtain ⟨v, hv⟩ : ∃ v, (decide ((97 : Int) ≤ r ∧ r ≤ 122 ∨ 65 ≤ r ∧ r ≤ 90) || (r == 95) || (!f && decide ((48 : Int) ≤ r ∧ r ≤ 57))) = v := ⟨_, rfl⟩
  rw [hv]
  have HV : Hid ((decide ((97 : Int) ≤ r ∧ r ≤ 122 ∨ 65 ≤ r ∧ r ≤ 90) || decide (r = 95) || (!f && decide ((48 : Int) ≤ r ∧ r ≤ 57))) = v) := by rw [beq_eq] at hv; exact hv
  clear hv HE
  by_cases c5 : r = 95
  · subst c5
    have q : v = true := by rw [← HV.out]; simp
    subst q
    clear HV
    cases f
    all_goals go_enter Tryd.func31, Tryd.ntmps31
    all_goals go_wp2
    all_goals go_ret
    all_goals exact ⟨rfl, rfl⟩
  · have c5' : (r == 95) = false := by simpa using c5
    by_cases c1 : 97 ≤ r <;> by_cases c2 : r ≤ 122 <;> by_cases c3 : 65 ≤ r <;> by_cases c4 : r ≤ 90 <;> by_cases c6 : 48 ≤ r <;> by_cases c7 : r ≤ 57 <;> cases f <;>
    first
    | (exfalso; omega)
    | (have q : v = true := by
         rw [← HV.out, Bool.eq_iff_iff]; simp; omega
       subst q; clear HV
       go_enter Tryd.func31, Tryd.ntmps31
       go_wp2
       go_ret
       exact ⟨rfl, rfl⟩)
    | (have q : v = false := by
         rw [← HV.out]; simp; omega
       subst q; clear HV
       go_enter Tryd.func31, Tryd.ntmps31
       go_wp2
       go_ret
       exact ⟨rfl, rfl⟩)
end Go.Proofs.YtgokilochbnbaaaDoor
