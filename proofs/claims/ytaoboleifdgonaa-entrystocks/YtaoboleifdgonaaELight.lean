/- entry: rows of few values, of few bytes. -/
import Derived.Test.YtaoboleifdgonaaEOpen
namespace Go.Proofs.Ytaoboleifdgonaa
open Go.ChangeShapes Go.WideShapes Go.RowKit
set_option linter.unusedVariables false
set_option maxRecDepth 100000

/-- What light answers. -/
def lit (r : List V) : Prop := r.length ≤ 20 ∧ ∀ x, x ∈ r → x.s.size ≤ 200
instance (r : List V) : Decidable (lit r) := by unfold lit; infer_instance
def LitE (r : List V) (e : Ending) : Prop := e = .returned (.bool (decide (lit r)))
set_option maxHeartbeats 1000000 in
theorem lightE_is (a : Option Addr) (c n : Nat) (r : List V) (hn : r.length = n) (w : World) (hr : Row w (.slice a r.length c) r) (hl : n ≤ 9223372036854775807) :
    Calls Try.prog 16 #[.slice a n c] w fun e w' => LitE r e ∧ Below w.heap.size w w' := by
  have HA : Hid (Row w (.slice a r.length c) r) := hr
  have HN : Hid (r.length = n) := hn
  clear hr hn
  go_enter Try.func16, Try.ntmps16
  go_wp2_with fail
  go_loopw [3] (fun i wr => ∃ k : Nat, k ≤ n ∧ k ≤ 20 ∧ i = .int .i64 k ∧ Hid (Below w.heap.size w wr ∧ ∀ x, x ∈ r.take k → x.s.size ≤ 200))
    (fun i _ => 20 - (intOf i).toNat)
  case atStart => exact ⟨0, Nat.zero_le _, by omega, rfl, Below.refl _ _, fun x hx => by simp at hx⟩
  case round =>
    obtain ⟨k, hk, hk2, rfl, HI⟩ := hrel
    by_cases hlt : k < n
    · have hlti : (k : Int) < (n : Int) := by omega
      by_cases h20 : k < 20
      · have h20i : (k : Int) < 20 := by omega
        have hkl : k < r.length := by have := HN.out; omega
        obtain ⟨b1, o1, rfl, A1⟩ := HA.out.at k hkl
        obtain ⟨c0, c1, c2⟩ := A1.below HI.out.1 A1.lt
        have HF : Hid (¬ r[k].s.size ≤ 200 → decide (lit r) = false) := fun h => decide_eq_false (fun q => h (q.2 _ (List.getElem_mem hkl)))
        have HT : Hid (r[k].s.size ≤ 200 → ∀ x, x ∈ r.take (k + 1) → x.s.size ≤ 200) := fun h x hx => by
          rw [List.take_succ_eq_append_getElem hkl, List.mem_append, List.mem_singleton] at hx
          rcases hx with hx | rfl
          · exact HI.out.2 x hx
          · exact h
        generalize r[k] = x at *
        obtain ⟨xk, xn, xs⟩ := x
        clear A1
        by_cases hs : 200 < xs.size
        · have hsi : 200 < (xs.size : Int) := by omega
          have HF' : Hid _ := HF.out (by show ¬ xs.size ≤ 200; omega)
          clear HF HT
          go_wp2_with fail
          go_ret
          exact ⟨by unfold LitE; rw [HF'.out]; rfl, HI.out.1⟩
        · have hsi : ¬ 200 < (xs.size : Int) := by omega
          have HT' : Hid _ := HT.out (by show xs.size ≤ 200; omega)
          clear HT HF
          go_wp2_with fail
          go_roundw
          case rel => exact ⟨k + 1, by omega, by omega, by go_num, HI.out.1, HT'.out⟩
          case measure => simp [intOf]; omega
      · have h20i : decide ((k : Int) < 20) = false := decide_eq_false (by omega)
        have h20j : ¬ (k : Int) < 20 := by omega
        have hni : decide ((n : Int) ≤ 20) = false := decide_eq_false (by omega)
        have hnj : ¬ (n : Int) ≤ 20 := by omega
        have HF : Hid (decide (lit r) = false) := decide_eq_false (fun q => by have := q.1; have := HN.out; omega)
        go_wp2_with fail
        go_ret
        exact ⟨by unfold LitE; rw [HF.out]; first | rfl | exact congrArg (fun b => Ending.returned (Value.bool b)) hni, HI.out.1⟩
    · have hlti : ¬ (k : Int) < (n : Int) := by omega
      have hltd : decide ((k : Int) < (n : Int)) = false := decide_eq_false hlti
      have hn2 : (n : Int) ≤ 20 := by omega
      have hall : r.take k = r := List.take_of_length_le (by have := HN.out; omega)
      have HJ : Hid (∀ x, x ∈ r → x.s.size ≤ 200) := fun x hx => HI.out.2 x (by rw [hall]; exact hx)
      have HF : Hid (decide (lit r) = true) := decide_eq_true ⟨by have := HN.out; omega, HJ.out⟩
      have hnd : decide ((n : Int) ≤ 20) = true := decide_eq_true hn2
      clear hall
      go_wp2_with fail
      go_ret
      exact ⟨by unfold LitE; rw [HF.out]; first | rfl | exact congrArg (fun b => Ending.returned (Value.bool b)) hnd, HI.out.1⟩
theorem lightE_yes (a : Option Addr) (c n : Nat) (r : List V) (hn : r.length = n) (h : lit r) (w : World) (hr : Row w (.slice a r.length c) r) (hl : n ≤ 9223372036854775807) : Calls Try.prog 16 #[.slice a n c] w fun e w' => e = .returned (.bool true) ∧ Below w.heap.size w w' :=
  (lightE_is a c n r hn w hr hl).mono (by
    rintro e w' ⟨rfl, q⟩
    exact ⟨by rw [decide_eq_true h], q⟩)
theorem lightE_no (a : Option Addr) (c n : Nat) (r : List V) (hn : r.length = n) (h : ¬ lit r) (w : World) (hr : Row w (.slice a r.length c) r) (hl : n ≤ 9223372036854775807) : Calls Try.prog 16 #[.slice a n c] w fun e w' => e = .returned (.bool false) ∧ Below w.heap.size w w' :=
  (lightE_is a c n r hn w hr hl).mono (by
    rintro e w' ⟨rfl, q⟩
    exact ⟨by rw [decide_eq_false h], q⟩)
end Go.Proofs.Ytaoboleifdgonaa
