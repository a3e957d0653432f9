/- value: rows that are the same; a text as it is written. -/
import Derived.Test.YtaoboleifdgonaaTake
import Derived.BigQuiet
namespace Go.Proofs.Ytaoboleifdgonaa
open Go.ChangeShapes Go.WideShapes Go.RowKit
set_option linter.unusedVariables false
set_option maxRecDepth 100000
set_option maxRecDepth 100000

theorem same_is (a b : Option Addr) (c d n : Nat) (r : List V) (hn : r.length = n) (hl : n ≤ 1000000) (w : World) (h : Row w (.slice a r.length c) r) (h' : Row w (.slice b r.length d) r) :
    Calls Try.prog 19 #[.slice a n c, .slice b n d] w fun e w' => e = .returned (.bool true) ∧ Below w.heap.size w w' := by
  have HA : Hid (Row w (.slice a r.length c) r) := h
  have HB : Hid (Row w (.slice b r.length d) r) := h'
  have HN : Hid _ := hn
  clear h h' hn
  go_enter Try.func19, Try.ntmps19
  go_wp2_with fail
  go_loopw [5] (fun i wr => ∃ k : Nat, k ≤ n ∧ i = .int .i64 k ∧ Hid (Below w.heap.size w wr))
    (fun i _ => n - (intOf i).toNat)
  case atStart => exact ⟨0, Nat.zero_le _, rfl, Below.refl _ _⟩
  case round =>
    obtain ⟨k, hk, rfl, HI⟩ := hrel
    by_cases hlt : k < n
    · have hlti : (k : Int) < (n : Int) := by omega
      have hkl : k < r.length := by have := HN.out; omega
      obtain ⟨b1, o1, rfl, A1⟩ := HA.out.at k hkl
      obtain ⟨b2, o2, rfl, A2⟩ := HB.out.at k hkl
      obtain ⟨c0, c1, c2⟩ := A1.below HI.out A1.lt
      obtain ⟨e0, e1, e2⟩ := A2.below HI.out A2.lt
      generalize r[k] = x at *
      obtain ⟨xk, xn, xs⟩ := x
      clear A1 A2
      go_wp2_with fail
      go_quiet (fail)
      have HE : Hid (Below w.heap.size w (wr.drewN nq)) := ⟨HI.out.os, HI.out.tape, HI.out.output, HI.out.size, HI.out.block⟩
      generalize wr.drewN nq = wq at *
      clear c0 c1 c2 e0 e1 e2
      go_wp2_with fail
      go_roundw
      case rel => exact ⟨k + 1, by omega, by go_num, HE.out⟩
      case measure => simp [intOf]; omega
    · have hlti : ¬ (k : Int) < (n : Int) := by omega
      go_wp2_with fail
      go_ret
      exact ⟨rfl, HI.out⟩

end Go.Proofs.Ytaoboleifdgonaa
