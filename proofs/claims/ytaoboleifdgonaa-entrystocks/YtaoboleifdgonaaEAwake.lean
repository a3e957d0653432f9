/- entry: what the laws ask at once. -/
import Derived.Test.YtaoboleifdgonaaEHoldC
import Derived.Test.YtaoboleifdgonaaEPut
import Derived.Test.YtaoboleifdgonaaETake
namespace Go.Proofs.Ytaoboleifdgonaa
open Go.ChangeShapes Go.WideShapes Go.RowKit
set_option linter.unusedVariables false
set_option maxRecDepth 100000

theorem CellsF.old {w w' : World} {b : Nat} {l : List Value} (h : CellsF w b l) (q : Below w.heap.size w w') (i : Nat) (v : Value) (hi : l[i]? = some v) : w'.cell? ⟨b, i, none⟩ = some v := (h.next q).cs i v hi
theorem take_op {k : Int} {sku loc to : ByteArray} {qty id due : Int} (h : mayO k sku loc to qty id due) (hk : -9223372036854775808 ≤ k ∧ k ≤ 9223372036854775807) (hq : -9223372036854775808 ≤ qty ∧ qty ≤ 9223372036854775807) (hi : -9223372036854775808 ≤ id ∧ id ≤ 9223372036854775807) (hd : -9223372036854775808 ≤ due ∧ due ≤ 9223372036854775807) :
    takeR ⟨(rowB (opR k sku loc to qty id due)).toArray⟩ = some (opR k sku loc to qty id due) ∧ (⟨(rowB (opR k sku loc to qty id due)).toArray⟩ : ByteArray).size ≤ 1000000 := by
  refine ⟨take_back _ (by show 7 ≤ 255; omega) (opR_fits h) (opR_range hk hq hi hd), ?_⟩
  rw [← len_size]
  show (rowB (opR k sku loc to qty id due)).toArray.toList.length ≤ _
  rw [List.toList_toArray]
  unfold rowB
  rw [List.length_cons]
  have := vals_len _ (opR_fits h)
  have e : (opR k sku loc to qty id due).length = 7 := rfl
  omega
theorem takeO_back {k : Int} {sku loc to : ByteArray} {qty id due : Int} (h : mayO k sku loc to qty id due) (hk : -9223372036854775808 ≤ k ∧ k ≤ 9223372036854775807) (hq : -9223372036854775808 ≤ qty ∧ qty ≤ 9223372036854775807) (hi : -9223372036854775808 ≤ id ∧ id ≤ 9223372036854775807) (hd : -9223372036854775808 ≤ due ∧ due ≤ 9223372036854775807) (w : World) :
    Calls Try.prog 14 #[.string ⟨(rowB (opR k sku loc to qty id due)).toArray⟩] w fun e w' => e = .returned (.tuple #[oo k sku loc to qty id due, .int .i64 0]) ∧ Below w.heap.size w w' := by
  obtain ⟨h1, h2⟩ := take_op h hk hq hi hd
  refine (takeO_is _ h2 w).mono ?_
  rintro e w' ⟨⟨v, rfl, hv⟩, q⟩
  rw [h1] at hv
  exact ⟨congrArg Ending.returned (hv.one (.inl ⟨_, _, _, _, _, _, _, rfl, h, rfl⟩)), q⟩
theorem aw_may : mayO 2 ⟨#[115]⟩ ⟨#[108]⟩ ⟨#[]⟩ 3 0 9 := .inr (.inl ⟨rfl, ⟨⟨by decide, by decide⟩, ⟨by decide, by decide⟩⟩, rfl, by omega, rfl, by omega⟩)
def awR : List V := [⟨1, 1, ⟨#[]⟩⟩, ⟨2, 0, ⟨#[115]⟩⟩, ⟨2, 0, ⟨#[108]⟩⟩, ⟨1, 3, ⟨#[]⟩⟩, ⟨2, 0, ⟨#[97, 99, 116, 105, 118, 101]⟩⟩, ⟨0, 0, ⟨#[]⟩⟩]
theorem aw_row : sixR stT 1 ⟨#[115]⟩ ⟨#[108]⟩ 3 0 0 = awR := rfl
theorem aw_fits : fits awR := by
  intro x hx
  simp only [awR, List.mem_cons, List.mem_nil_iff, or_false] at hx
  rcases hx with rfl | rfl | rfl | rfl | rfl | rfl <;> (show mayV _ _ _; decide)
theorem aw_small : ∀ x, x ∈ awR → x.s.size ≤ 1000 := by
  intro x hx
  simp only [awR, List.mem_cons, List.mem_nil_iff, or_false] at hx
  rcases hx with rfl | rfl | rfl | rfl | rfl | rfl <;> decide
theorem aw_hold (a : Option Addr) (c : Nat) (w : World) (hr : Row w (.slice a 6 c) awR) : Calls Try.prog 22 #[.slice a 6 c] w fun e w' => e = .returned (.tuple #[hh 1 ⟨#[115]⟩ ⟨#[108]⟩ 3 0 0, .int .i64 0]) ∧ Below w.heap.size w w' := by
  refine (rowHold_is a c 6 awR rfl (by omega) aw_small w hr).mono ?_
  rintro e w' ⟨⟨v, rfl, hv⟩, q⟩
  exact ⟨congrArg Ending.returned (hv.one tells_state (.inl ⟨1, ⟨#[115]⟩, ⟨#[108]⟩, 3, 0, 0, ⟨⟨aw_fits, aw_row.symm⟩, by decide⟩, rfl⟩)), q⟩
set_option maxHeartbeats 4000000 in
theorem awakeE_is (w : World) : Calls Try.prog 9 #[] w fun e w' => e = .returned (.bool true) ∧ Below w.heap.size w w' := by
  have HP : Hid (∀ w, Calls Try.prog 10 #[oo 2 ⟨#[115]⟩ ⟨#[108]⟩ ⟨#[]⟩ 3 0 9] w fun e w' => e = .returned (.tuple #[.string ⟨(rowB (opR 2 ⟨#[115]⟩ ⟨#[108]⟩ ⟨#[]⟩ 3 0 9)).toArray⟩, .int .i64 0]) ∧ Below w.heap.size w w') := fun w => by
    have := put_op 2 ⟨#[115]⟩ ⟨#[108]⟩ ⟨#[]⟩ 3 0 9 w
    rw [show putO 2 ⟨#[115]⟩ ⟨#[108]⟩ ⟨#[]⟩ 3 0 9 = _ from if_pos aw_may] at this
    exact this
  have HT : Hid _ := fun w => takeO_back aw_may (by omega) (by omega) (by omega) (by omega) w
  obtain ⟨L, hL⟩ : ∃ L, (rowB (opR 2 ⟨#[115]⟩ ⟨#[108]⟩ ⟨#[]⟩ 3 0 9)).toArray = L := ⟨_, rfl⟩
  rw [hL] at HP HT
  clear hL
  have HC : Hid (∀ w, Calls Try.prog 12 #[oo 2 ⟨#[115]⟩ ⟨#[108]⟩ ⟨#[]⟩ 3 0 9] w fun e w' => e = .returned (.int .i64 0) ∧ Below w.heap.size w w') := fun w => by
    have := check_op 2 ⟨#[115]⟩ ⟨#[108]⟩ ⟨#[]⟩ 3 0 9 w
    rw [if_pos aw_may] at this
    exact this
  have HH : Hid (∀ w, Calls Try.prog 24 #[hh 1 ⟨#[115]⟩ ⟨#[108]⟩ 3 0 0] w fun e w' => (∃ a c, e = .returned (.slice a 6 c) ∧ Row w' (.slice a 6 c) awR) ∧ Below w.heap.size w w') := fun w => by
    have := holdRow_is 1 ⟨#[115]⟩ ⟨#[108]⟩ 3 0 0 w
    rw [aw_row] at this
    exact this
  have HR : Hid _ := aw_hold
  go_enter Try.func9, Try.ntmps9
  go_wp2_with fail
  refine Calls.mono (HP.out _) ?_; rintro e w1 ⟨rfl, k1⟩
  have HO1 : Hid (CellsF w1 w.heap.size [.int .i64 2, .string ⟨#[115]⟩, .string ⟨#[108]⟩, .string ⟨#[]⟩, .int .i64 3, .int .i64 0, .int .i64 9]) := (CellsF.new w [.int .i64 2, .string ⟨#[115]⟩, .string ⟨#[108]⟩, .string ⟨#[]⟩, .int .i64 3, .int .i64 0, .int .i64 9] 23 (by simp)).next k1
  have HB1 : Hid (Below w.heap.size w w1) := Below.next (below1 _ _) k1
  clear k1
  go_wp2_with fail
  refine Calls.mono (HT.out _) ?_; rintro e w2 ⟨rfl, k2⟩
  have HO2 : Hid (CellsF w2 w.heap.size [.int .i64 2, .string ⟨#[115]⟩, .string ⟨#[108]⟩, .string ⟨#[]⟩, .int .i64 3, .int .i64 0, .int .i64 9]) := HO1.out.next k2
  have HB2 : Hid (Below w.heap.size w w2) := Below.next HB1.out k2
  have HQ2 : Hid (CellsF (w2.alloc (.cells #[.int .i64 2, .string ⟨#[115]⟩, .string ⟨#[108]⟩, .string ⟨#[]⟩, .int .i64 3, .int .i64 0, .int .i64 9] 23)) w2.heap.size [.int .i64 2, .string ⟨#[115]⟩, .string ⟨#[108]⟩, .string ⟨#[]⟩, .int .i64 3, .int .i64 0, .int .i64 9]) := CellsF.new w2 [.int .i64 2, .string ⟨#[115]⟩, .string ⟨#[108]⟩, .string ⟨#[]⟩, .int .i64 3, .int .i64 0, .int .i64 9] 23 (by simp)
  clear k2
  go_wp2_with fail
  refine Calls.mono (HH.out _) ?_; rintro e w3 ⟨⟨ra, rc, rfl, R3⟩, k3⟩
  have HO3 : Hid (CellsF w3 w.heap.size [.int .i64 2, .string ⟨#[115]⟩, .string ⟨#[108]⟩, .string ⟨#[]⟩, .int .i64 3, .int .i64 0, .int .i64 9]) := (HO2.out.next (below1 _ _)).next k3
  have HQ3 : Hid (CellsF w3 w2.heap.size [.int .i64 2, .string ⟨#[115]⟩, .string ⟨#[108]⟩, .string ⟨#[]⟩, .int .i64 3, .int .i64 0, .int .i64 9]) := HQ2.out.next k3
  have HB3 : Hid (Below w.heap.size w w3) := Below.next (HB2.out.alloc HB2.out.size _) k3
  have HR3 : Hid _ := HR.out ra rc w3 R3
  rcases (show Row w3 (.slice ra 6 rc) awR from R3) with ⟨_, _, _, e⟩ | ⟨b, o, c', e, h5⟩
  · cases e
  cases e
  have A3 : At w3 b (o + 15) 0 0 ⟨#[]⟩ := h5 5 (by decide)
  have HA3 : Hid (At w3 b (o + 15) 0 0 ⟨#[]⟩) := A3
  clear k3 R3 h5 A3
  go_wp2_with fail
  refine Calls.mono HR3.out ?_; rintro e w4 ⟨rfl, k4⟩
  have k5 : Below w3.heap.size w3 (w4.alloc (.cells #[.int .i64 1, .string ⟨#[115]⟩, .string ⟨#[108]⟩, .int .i64 3, .int .i64 0, .int .i64 0] 44)) := k4.alloc k4.size _
  obtain ⟨r0, r1, r2⟩ := HA3.out.next k5
  have HB4 : Hid (Below w.heap.size w (w4.alloc (.cells #[.int .i64 1, .string ⟨#[115]⟩, .string ⟨#[108]⟩, .int .i64 3, .int .i64 0, .int .i64 0] 44))) := Below.next HB3.out k5
  have p0 := HO3.out.old k5 0 _ rfl
  have p1 := HO3.out.old k5 1 _ rfl
  have p2 := HO3.out.old k5 2 _ rfl
  have p3 := HO3.out.old k5 3 _ rfl
  have p4 := HO3.out.old k5 4 _ rfl
  have p5 := HO3.out.old k5 5 _ rfl
  have p6 := HO3.out.old k5 6 _ rfl
  have q0 := HQ3.out.old k5 0 _ rfl
  have q1 := HQ3.out.old k5 1 _ rfl
  have q2 := HQ3.out.old k5 2 _ rfl
  have q3 := HQ3.out.old k5 3 _ rfl
  have q4 := HQ3.out.old k5 4 _ rfl
  have q5 := HQ3.out.old k5 5 _ rfl
  have q6 := HQ3.out.old k5 6 _ rfl
  clear k4 k5
  go_wp2_with fail
  refine Calls.mono (HC.out _) ?_; rintro e w6 ⟨rfl, k6⟩
  have HB6 : Hid (Below w.heap.size w w6) := Below.next HB4.out k6
  clear k6
  go_wp2_with fail
  go_ret
  exact ⟨rfl, HB6.out⟩
end Go.Proofs.Ytaoboleifdgonaa
