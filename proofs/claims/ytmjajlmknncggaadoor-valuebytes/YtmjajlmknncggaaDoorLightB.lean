/- ValueBytes: its own small part. -/
import Derived.Test.YtmjajlmknncggaaDoorLight
namespace Go.Proofs.YtmjajlmknncggaaDoor
open Go.ChangeShapes Go.WideShapes Go.RowKit
set_option linter.unusedVariables false
set_option maxRecDepth 100000

/-- What light answers of one row. -/
def LitB (r : List V) (e : Ending) : Prop := ∃ q : Bool, e = .returned (.bool q) ∧ (q = true → r.length ≤ 300 ∧ ∀ x, x ∈ r → x.s.size ≤ 200)
set_option maxHeartbeats 1000000 in
theorem lightB_is (B : Nat) (a : Option Addr) (ca na : Nat) (ra : List V) (hna : ra.length = na) (w : World) (c0 : w.cell? ⟨B, 0, none⟩ = some (.slice a na ca)) (ha : Row w (.slice a ra.length ca) ra) (hla : na ≤ 9223372036854775807) :
    Calls Tryd.prog 13 #[.slice (some ⟨B, 0, none⟩) 1 1] w fun e w' => LitB ra e ∧ Below w.heap.size w w' := by
  have HC0 : Hid _ := c0
  have HA : Hid (Row w (.slice a ra.length ca) ra) := ha
  have HNA : Hid _ := hna
  clear c0 ha hna
  go_enter Tryd.func13, Tryd.ntmps13
  go_wp2_with fail
  go_loopw [3] (fun i wr => ∃ j : Nat, j ≤ 1 ∧ i = .int .i64 j ∧ Hid ((1 ≤ j → na ≤ 300 ∧ ∀ x, x ∈ ra → x.s.size ≤ 200) ∧ Below w.heap.size w wr))
    (fun i _ => 1 - (intOf i).toNat)
  case atStart => exact ⟨0, by omega, rfl, (fun q => by omega), Below.refl _ _⟩
  case round =>
    obtain ⟨j, hj, rfl, HI⟩ := hrel
    have d0 : wr.cell? ⟨B, 0, none⟩ = some (.slice a na ca) := (HI.out.2.cell (p := ⟨B, 0, none⟩) (World.block_lt_of_cell? w _ HC0.out)).trans HC0.out
    by_cases j0 : j = 0
    · subst j0
      by_cases hbig : 300 < na
      · have hbigi : 300 < (na : Int) := by omega
        go_wp2_with fail
        go_ret
        exact ⟨⟨false, rfl, fun q => by cases q⟩, HI.out.2⟩
      · have hbigi : ¬ 300 < (na : Int) := by omega
        go_wp2_with fail
        go_loopw [4] (fun i wq => ∃ k : Nat, k ≤ na ∧ i = .int .i64 k ∧ Hid (Below w.heap.size w wq ∧ ∀ x, x ∈ ra.take k → x.s.size ≤ 200))
          (fun i _ => na - (intOf i).toNat)
        case atStart => exact ⟨0, Nat.zero_le _, rfl, HI.out.2, fun x hx => by simp at hx⟩
        case round =>
          obtain ⟨k, hk, rfl, HJ⟩ := hrel
          have e0 : wr.cell? ⟨B, 0, none⟩ = some (.slice a na ca) := (HJ.out.1.cell (p := ⟨B, 0, none⟩) (World.block_lt_of_cell? w _ HC0.out)).trans HC0.out
          by_cases hlt : k < na
          · have hlti : (k : Int) < (na : Int) := by omega
            have hkl : k < ra.length := by have := HNA.out; omega
            obtain ⟨rb1, ro, rfl, A0⟩ := HA.out.at k hkl
            obtain ⟨x0, x1, x2⟩ := A0.below HJ.out.1 A0.lt
            have HT : Hid (ra[k].s.size ≤ 200 → ∀ x, x ∈ ra.take (k + 1) → x.s.size ≤ 200) := fun h x hx => by
              rw [List.take_succ_eq_append_getElem hkl, List.mem_append, List.mem_singleton] at hx
              rcases hx with hx | rfl
              · exact HJ.out.2 x hx
              · exact h
            generalize ra[k] = x at *
            obtain ⟨xk, xn, xs⟩ := x
            clear A0
            by_cases hs : 200 < xs.size
            · have hsi : 200 < (xs.size : Int) := by omega
              go_wp2_with fail
              go_ret
              exact ⟨⟨false, rfl, fun q => by cases q⟩, HJ.out.1⟩
            · have hsi : ¬ 200 < (xs.size : Int) := by omega
              have HT' : Hid _ := HT.out (by show xs.size ≤ 200; omega)
              clear HT
              go_wp2_with fail
              go_roundw
              case rel => exact ⟨k + 1, by omega, by go_num, HJ.out.1, HT'.out⟩
              case measure => simp [intOf]; omega
          · have hlti : ¬ (k : Int) < (na : Int) := by omega
            have hall : ra.take k = ra := List.take_of_length_le (by have := HNA.out; omega)
            have HJ2 : Hid (∀ x, x ∈ ra → x.s.size ≤ 200) := fun x hx => HJ.out.2 x (by rw [hall]; exact hx)
            go_wp2_with fail
            go_roundw
            case rel => exact ⟨1, by omega, by go_num, (fun _ => ⟨by omega, HJ2.out⟩), HJ.out.1⟩
            case measure => simp [intOf]
    · obtain rfl : j = 1 := by omega
      go_wp2_with fail
      go_ret
      exact ⟨⟨true, rfl, fun _ => ⟨by have := HNA.out; have := (HI.out.1 (by omega)).1; omega, (HI.out.1 (by omega)).2⟩⟩, HI.out.2⟩
end Go.Proofs.YtmjajlmknncggaaDoor
