/- ValueRows: its own small parts. -/
import Derived.Test.YtmjajlmknncggaaDoorRCols
import Derived.BigQuiet
namespace Go.Proofs.YtmjajlmknncggaaDoor
open Go.ChangeShapes Go.WideShapes Go.RowKit
set_option linter.unusedVariables false
set_option maxRecDepth 100000

/-- What light answers. -/
def Lit (na nb : Nat) (e : Ending) : Prop := ∃ r : Bool, e = .returned (.bool r) ∧ (r = true → na ≤ 300 ∧ nb ≤ 300)
set_option maxHeartbeats 1000000 in
theorem light_is (B : Nat) (a b : Option Addr) (ca cb na nb : Nat) (ra rb : List V) (hna : ra.length = na) (hnb : rb.length = nb) (w : World) (c0 : w.cell? ⟨B, 0, none⟩ = some (.slice a na ca)) (c1 : w.cell? ⟨B, 1, none⟩ = some (.slice b nb cb))
    (ha : Row w (.slice a ra.length ca) ra) (hb : Row w (.slice b rb.length cb) rb) (hla : na ≤ 9223372036854775807) (hlb : nb ≤ 9223372036854775807) :
    Calls Tryd.prog 13 #[.slice (some ⟨B, 0, none⟩) 2 2] w fun e w' => Lit na nb e ∧ Below w.heap.size w w' := by
  have HC0 : Hid _ := c0
  have HC1 : Hid _ := c1
  have HA : Hid (Row w (.slice a ra.length ca) ra) := ha
  have HB : Hid (Row w (.slice b rb.length cb) rb) := hb
  have HNA : Hid _ := hna
  have HNB : Hid _ := hnb
  clear c0 c1 ha hb hna hnb
  go_enter Tryd.func13, Tryd.ntmps13
  go_wp2_with fail
  go_loopw [3] (fun i wr => ∃ j : Nat, j ≤ 2 ∧ i = .int .i64 j ∧ Hid ((1 ≤ j → na ≤ 300) ∧ (2 ≤ j → nb ≤ 300) ∧ Below w.heap.size w wr))
    (fun i _ => 2 - (intOf i).toNat)
  case atStart => exact ⟨0, by omega, rfl, (fun q => by omega), (fun q => by omega), Below.refl _ _⟩
  case round =>
    obtain ⟨j, hj, rfl, HI⟩ := hrel
    have d0 : wr.cell? ⟨B, 0, none⟩ = some (.slice a na ca) := (HI.out.2.2.cell (p := ⟨B, 0, none⟩) (World.block_lt_of_cell? w _ HC0.out)).trans HC0.out
    have d1 : wr.cell? ⟨B, 1, none⟩ = some (.slice b nb cb) := (HI.out.2.2.cell (p := ⟨B, 1, none⟩) (World.block_lt_of_cell? w _ HC1.out)).trans HC1.out
    by_cases j0 : j = 0
    · subst j0
      by_cases hbig : 300 < na
      · have hbigi : 300 < (na : Int) := by omega
        go_wp2_with fail
        go_ret
        exact ⟨⟨false, rfl, fun q => by cases q⟩, HI.out.2.2⟩
      · have hbigi : ¬ 300 < (na : Int) := by omega
        go_wp2_with fail
        go_loopw [4] (fun i wq => ∃ k : Nat, k ≤ na ∧ i = .int .i64 k ∧ Hid (Below w.heap.size w wq))
          (fun i _ => na - (intOf i).toNat)
        case atStart => exact ⟨0, Nat.zero_le _, rfl, HI.out.2.2⟩
        case round =>
          obtain ⟨k, hk, rfl, HJ⟩ := hrel
          have e0 : wr.cell? ⟨B, 0, none⟩ = some (.slice a na ca) := (HJ.out.cell (p := ⟨B, 0, none⟩) (World.block_lt_of_cell? w _ HC0.out)).trans HC0.out
          have e1 : wr.cell? ⟨B, 1, none⟩ = some (.slice b nb cb) := (HJ.out.cell (p := ⟨B, 1, none⟩) (World.block_lt_of_cell? w _ HC1.out)).trans HC1.out
          by_cases hlt : k < na
          · have hlti : (k : Int) < (na : Int) := by omega
            have hkl : k < ra.length := by have := HNA.out; omega
            obtain ⟨rb1, ro, rfl, A0⟩ := HA.out.at k hkl
            obtain ⟨x0, x1, x2⟩ := A0.below HJ.out A0.lt
            generalize ra[k] = x at *
            obtain ⟨xk, xn, xs⟩ := x
            clear A0
            by_cases hs : 200 < xs.size
            · have hsi : 200 < (xs.size : Int) := by omega
              go_wp2_with fail
              go_ret
              exact ⟨⟨false, rfl, fun q => by cases q⟩, HJ.out⟩
            · have hsi : ¬ 200 < (xs.size : Int) := by omega
              go_wp2_with fail
              go_roundw
              case rel => exact ⟨k + 1, by omega, by go_num, HJ.out⟩
              case measure => simp [intOf]; omega
          · have hlti : ¬ (k : Int) < (na : Int) := by omega
            go_wp2_with fail
            go_roundw
            case rel => exact ⟨1, by omega, by go_num, (fun _ => by omega), (fun q => by omega), HJ.out⟩
            case measure => simp [intOf]
    · by_cases j1 : j = 1
      · subst j1
        have hna3 := HI.out.1 (Nat.le_refl _)
        by_cases hbig : 300 < nb
        · have hbigi : 300 < (nb : Int) := by omega
          go_wp2_with fail
          go_ret
          exact ⟨⟨false, rfl, fun q => by cases q⟩, HI.out.2.2⟩
        · have hbigi : ¬ 300 < (nb : Int) := by omega
          go_wp2_with fail
          go_loopw [4] (fun i wq => ∃ k : Nat, k ≤ nb ∧ i = .int .i64 k ∧ Hid (Below w.heap.size w wq))
            (fun i _ => nb - (intOf i).toNat)
          case atStart => exact ⟨0, Nat.zero_le _, rfl, HI.out.2.2⟩
          case round =>
            obtain ⟨k, hk, rfl, HJ⟩ := hrel
            have e0 : wr.cell? ⟨B, 0, none⟩ = some (.slice a na ca) := (HJ.out.cell (p := ⟨B, 0, none⟩) (World.block_lt_of_cell? w _ HC0.out)).trans HC0.out
            have e1 : wr.cell? ⟨B, 1, none⟩ = some (.slice b nb cb) := (HJ.out.cell (p := ⟨B, 1, none⟩) (World.block_lt_of_cell? w _ HC1.out)).trans HC1.out
            by_cases hlt : k < nb
            · have hlti : (k : Int) < (nb : Int) := by omega
              have hkl : k < rb.length := by have := HNB.out; omega
              obtain ⟨rb1, ro, rfl, A0⟩ := HB.out.at k hkl
              obtain ⟨x0, x1, x2⟩ := A0.below HJ.out A0.lt
              generalize rb[k] = x at *
              obtain ⟨xk, xn, xs⟩ := x
              clear A0
              by_cases hs : 200 < xs.size
              · have hsi : 200 < (xs.size : Int) := by omega
                go_wp2_with fail
                go_ret
                exact ⟨⟨false, rfl, fun q => by cases q⟩, HJ.out⟩
              · have hsi : ¬ 200 < (xs.size : Int) := by omega
                go_wp2_with fail
                go_roundw
                case rel => exact ⟨k + 1, by omega, by go_num, HJ.out⟩
                case measure => simp [intOf]; omega
            · have hlti : ¬ (k : Int) < (nb : Int) := by omega
              go_wp2_with fail
              go_roundw
              case rel => exact ⟨2, by omega, by go_num, (fun _ => hna3), (fun _ => by omega), HJ.out⟩
              case measure => simp [intOf]
      · obtain rfl : j = 2 := by omega
        go_wp2_with fail
        go_ret
        exact ⟨⟨true, rfl, fun _ => ⟨HI.out.1 (by omega), HI.out.2.1 (by omega)⟩⟩, HI.out.2.2⟩
end Go.Proofs.YtmjajlmknncggaaDoor
