/- HashAlike is true of every value and every number, without conditions: what is put twice is there once. -/
import Derived.Test.YtoabfllbidiipaaRows
import Derived.Test.YtoabfllbidiipaaAlP
import Derived.Test.YtoabfllbidiipaaAwk
import Derived.Test.YtoabfllbidiipaaOpenV
import Derived.WalkKit
import Derived.ProofKit
import Derived.OpenShut
import Derived.ShutString
import Derived.ChangeOld
import Derived.Below
namespace Go.Proofs.Ytoabfllbidiipaa.hashAlike
open Go.ChangeShapes Go.WideShapes Go.ChangeAt Go.RowKit
open Go.ChangeMaps (open_string shut_string)
set_option linter.unusedVariables false

theorem own : ownKnob Try.prog.godebug = none := by kernel_rfl

set_option maxHeartbeats 8000000 in
theorem alike_is (k m : Int) (s : ByteArray) (n : Int) (hs : s.size ≤ 200) (F : Val → List Int) (c nb : Nat) (hc : c ≤ 1) (hA : Al ⟨k, m, s⟩ n F c nb) (hm : ∀ w, Calls Try.prog 17 #[vv k m s] w fun e w' => e = .returned (.bool (decide (c = 1))) ∧ Below w.heap.size w w') (w : World) :
    Calls Try.prog 6 #[vv k m s, .int .i64 n] w fun e w' => e = .returned (.bool true) ∧ Below w.heap.size w w' := by
  have HAW : Hid (∀ w, Calls Try.prog 7 #[] w fun e w' => e = .returned (.bool true) ∧ Below w.heap.size w w') := awake_is
  have HAL : Hid (Al ⟨k, m, s⟩ n F c nb) := hA
  have HMY : Hid (∀ w, Calls Try.prog 17 #[vv k m s] w fun e w' => e = .returned (.bool (decide (c = 1))) ∧ Below w.heap.size w w') := hm
  have HLE : Hid (∀ p (c : Int) w', Calls Try.prog 10 #[.agg #[.pointer p, .int .i64 c]] w' fun e w'' => e = .returned (.int .i64 c) ∧ Below w'.heap.size w' w'') := fun p c w' => len_is p c w'
  have HV0 : Hid (Blk (w.alloc (.cells #[.int .i64 k, .int .i64 m, .string s] 24)) w.heap.size 24 [.int .i64 k, .int .i64 m, .string s] ∧ Below w.heap.size w (w.alloc (.cells #[.int .i64 k, .int .i64 m, .string s] 24))) := ⟨Blk.new w 24 [.int .i64 k, .int .i64 m, .string s], below1 _ _⟩
  have hsi : ¬ ((s.size : Int) > 200) := by omega
  clear hA hm
  go_enter Try.func6, Try.ntmps6
  go_wp2_with fail
  refine Calls.mono (HAL.out.w1 _) ?_; rintro e w1 ⟨p1, rfl, hI1, k1⟩
  obtain ⟨w2, hw2⟩ : ∃ w2, w1.alloc (.cells #[.pointer p1, .int .i64 c] 27) = w2 := ⟨_, rfl⟩
  have HB2 : Hid (Blk w2 w.heap.size 24 [.int .i64 k, .int .i64 m, .string s] ∧ Blk w2 w1.heap.size 27 [.pointer p1, .int .i64 c] ∧ Ix w2 p1 F nb 2 ∧ Below w.heap.size w w2) := by
    show _ ∧ _
    rw [← hw2]
    exact ⟨(HV0.out.1.next k1).next (below1 _ _), Blk.new w1 27 [.pointer p1, .int .i64 c], hI1.next (below1 _ _), Below.next (Below.next HV0.out.2 k1) (below1 _ _)⟩
  have HW2 : Hid (w1.alloc (.cells #[.pointer p1, .int .i64 c] 27) = w2) := hw2
  have v0 := HB2.out.1.cell (i := 0) rfl
  have v1 := HB2.out.1.cell (i := 1) rfl
  have v2 := HB2.out.1.cell (i := 2) rfl
  have x0 := HB2.out.2.1.cell (i := 0) rfl
  have x1 := HB2.out.2.1.cell (i := 1) rfl
  rw [← hw2] at v0 v1 v2 x0 x1
  clear hI1 k1 hw2 HV0
  go_wp2_with fail
  rw [HW2.out]
  refine Calls.mono (HAL.out.w2 _ _ HB2.out.2.2.1) ?_; rintro e w3 ⟨p3, rfl, hI3, k3⟩
  obtain ⟨b1, hb1⟩ : ∃ b1, w1.heap.size = b1 := ⟨_, rfl⟩
  obtain ⟨w4, hw4⟩ : ∃ w4, w3.alloc (.cells #[.pointer p3, .int .i64 c] 27) = w4 := ⟨_, rfl⟩
  have HB4 : Hid (Blk w4 w.heap.size 24 [.int .i64 k, .int .i64 m, .string s] ∧ Blk w4 w1.heap.size 27 [.pointer p1, .int .i64 c] ∧ Ix w4 p1 F nb 2 ∧ Blk w4 w3.heap.size 27 [.pointer p3, .int .i64 c] ∧ Ix w4 p3 F nb 3 ∧ Below w.heap.size w w4) := by
    show _ ∧ _
    rw [← hw4]
    have hk := Below.next k3 (below1 w3 (.cells #[.pointer p3, .int .i64 c] 27))
    exact ⟨HB2.out.1.next hk, HB2.out.2.1.next hk, HB2.out.2.2.1.next hk, Blk.new w3 27 [.pointer p3, .int .i64 c], hI3.next (below1 _ _), Below.next HB2.out.2.2.2 hk⟩
  have HW4 : Hid (w3.alloc (.cells #[.pointer p3, .int .i64 c] 27) = w4) := hw4
  have v0' := HB4.out.1.cell (i := 0) rfl
  have v1' := HB4.out.1.cell (i := 1) rfl
  have v2' := HB4.out.1.cell (i := 2) rfl
  rw [← hw4] at v0' v1' v2'
  clear hI3 k3 hw4 HB2 HW2 v0 v1 v2 x0 x1 hb1 b1
  go_wp2_with fail
  rw [HW4.out]
  refine Calls.mono (HMY.out _) ?_; rintro e w5 ⟨rfl, k5⟩
  have HB5 : Hid (Blk w5 w.heap.size 24 [.int .i64 k, .int .i64 m, .string s] ∧ Blk w5 w1.heap.size 27 [.pointer p1, .int .i64 c] ∧ Ix w5 p1 F nb 2 ∧ Blk w5 w3.heap.size 27 [.pointer p3, .int .i64 c] ∧ Ix w5 p3 F nb 3 ∧ Below w.heap.size w w5) := ⟨HB4.out.1.next k5, HB4.out.2.1.next k5, HB4.out.2.2.1.next k5, HB4.out.2.2.2.1.next k5, HB4.out.2.2.2.2.1.next k5, Below.next HB4.out.2.2.2.2.2 k5⟩
  clear k5 HB4 HW4 v0' v1' v2' HMY
  obtain rfl | rfl : c = 0 ∨ c = 1 := by omega
  · have v0_5 := HB5.out.1.cell (i := 0) rfl
    have v1_5 := HB5.out.1.cell (i := 1) rfl
    have v2_5 := HB5.out.1.cell (i := 2) rfl
    have x0_5 := HB5.out.2.1.cell (i := 0) rfl
    have x1_5 := HB5.out.2.1.cell (i := 1) rfl
    have y0_5 := HB5.out.2.2.2.1.cell (i := 0) rfl
    have y1_5 := HB5.out.2.2.2.1.cell (i := 1) rfl
    go_wp2_with fail
    clear v0_5 v1_5 v2_5 x0_5 x1_5 y0_5 y1_5
    refine Calls.mono (HLE.out _ _ _) ?_; rintro e w6 ⟨rfl, k6⟩
    have HB6 : Hid (Blk w6 w.heap.size 24 [.int .i64 k, .int .i64 m, .string s] ∧ Blk w6 w1.heap.size 27 [.pointer p1, .int .i64 ((0 : Nat) : Int)] ∧ Ix w6 p1 F nb 2 ∧ Blk w6 w3.heap.size 27 [.pointer p3, .int .i64 ((0 : Nat) : Int)] ∧ Ix w6 p3 F nb 3 ∧ Below w.heap.size w w6) := ⟨HB5.out.1.next k6, HB5.out.2.1.next k6, HB5.out.2.2.1.next k6, HB5.out.2.2.2.1.next k6, HB5.out.2.2.2.2.1.next k6, Below.next HB5.out.2.2.2.2.2 k6⟩
    clear k6 HB5
    have v0_6 := HB6.out.1.cell (i := 0) rfl
    have v1_6 := HB6.out.1.cell (i := 1) rfl
    have v2_6 := HB6.out.1.cell (i := 2) rfl
    have x0_6 := HB6.out.2.1.cell (i := 0) rfl
    have x1_6 := HB6.out.2.1.cell (i := 1) rfl
    have y0_6 := HB6.out.2.2.2.1.cell (i := 0) rfl
    have y1_6 := HB6.out.2.2.2.1.cell (i := 1) rfl
    go_wp2_with fail
    clear v0_6 v1_6 v2_6 x0_6 x1_6 y0_6 y1_6
    refine Calls.mono (HLE.out _ _ _) ?_; rintro e w7 ⟨rfl, k7⟩
    have HB7 : Hid (Blk w7 w.heap.size 24 [.int .i64 k, .int .i64 m, .string s] ∧ Blk w7 w1.heap.size 27 [.pointer p1, .int .i64 ((0 : Nat) : Int)] ∧ Ix w7 p1 F nb 2 ∧ Blk w7 w3.heap.size 27 [.pointer p3, .int .i64 ((0 : Nat) : Int)] ∧ Ix w7 p3 F nb 3 ∧ Below w.heap.size w w7) := ⟨HB6.out.1.next k7, HB6.out.2.1.next k7, HB6.out.2.2.1.next k7, HB6.out.2.2.2.1.next k7, HB6.out.2.2.2.2.1.next k7, Below.next HB6.out.2.2.2.2.2 k7⟩
    clear k7 HB6
    have v0_7 := HB7.out.1.cell (i := 0) rfl
    have v1_7 := HB7.out.1.cell (i := 1) rfl
    have v2_7 := HB7.out.1.cell (i := 2) rfl
    have x0_7 := HB7.out.2.1.cell (i := 0) rfl
    have x1_7 := HB7.out.2.1.cell (i := 1) rfl
    have y0_7 := HB7.out.2.2.2.1.cell (i := 0) rfl
    have y1_7 := HB7.out.2.2.2.1.cell (i := 1) rfl
    go_wp2_with fail
    clear v0_7 v1_7 v2_7 x0_7 x1_7 y0_7 y1_7
    refine Calls.mono (HAL.out.fd _ _ HB7.out.2.2.2.2.1) ?_; rintro e w8 ⟨fa, fk, rfl, k8⟩
    have HB8 : Hid (Blk w8 w.heap.size 24 [.int .i64 k, .int .i64 m, .string s] ∧ Blk w8 w1.heap.size 27 [.pointer p1, .int .i64 ((0 : Nat) : Int)] ∧ Ix w8 p1 F nb 2 ∧ Blk w8 w3.heap.size 27 [.pointer p3, .int .i64 ((0 : Nat) : Int)] ∧ Ix w8 p3 F nb 3 ∧ Below w.heap.size w w8) := ⟨HB7.out.1.next k8, HB7.out.2.1.next k8, HB7.out.2.2.1.next k8, HB7.out.2.2.2.1.next k8, HB7.out.2.2.2.2.1.next k8, Below.next HB7.out.2.2.2.2.2 k8⟩
    clear k8 HB7
    have v0_8 := HB8.out.1.cell (i := 0) rfl
    have v1_8 := HB8.out.1.cell (i := 1) rfl
    have v2_8 := HB8.out.1.cell (i := 2) rfl
    have x0_8 := HB8.out.2.1.cell (i := 0) rfl
    have x1_8 := HB8.out.2.1.cell (i := 1) rfl
    have y0_8 := HB8.out.2.2.2.1.cell (i := 0) rfl
    have y1_8 := HB8.out.2.2.2.1.cell (i := 1) rfl
    go_wp2_with fail
    clear v0_8 v1_8 v2_8 x0_8 x1_8 y0_8 y1_8
    refine Calls.mono (HAL.out.o1 _ _ HB8.out.2.2.1) ?_; rintro e w9 ⟨pa, rfl, k9⟩
    have HB9 : Hid (Blk w9 w.heap.size 24 [.int .i64 k, .int .i64 m, .string s] ∧ Blk w9 w1.heap.size 27 [.pointer p1, .int .i64 ((0 : Nat) : Int)] ∧ Ix w9 p1 F nb 2 ∧ Blk w9 w3.heap.size 27 [.pointer p3, .int .i64 ((0 : Nat) : Int)] ∧ Ix w9 p3 F nb 3 ∧ Below w.heap.size w w9) := ⟨HB8.out.1.next k9, HB8.out.2.1.next k9, HB8.out.2.2.1.next k9, HB8.out.2.2.2.1.next k9, HB8.out.2.2.2.2.1.next k9, Below.next HB8.out.2.2.2.2.2 k9⟩
    clear k9 HB8
    have v0_9 := HB9.out.1.cell (i := 0) rfl
    have v1_9 := HB9.out.1.cell (i := 1) rfl
    have v2_9 := HB9.out.1.cell (i := 2) rfl
    have x0_9 := HB9.out.2.1.cell (i := 0) rfl
    have x1_9 := HB9.out.2.1.cell (i := 1) rfl
    have y0_9 := HB9.out.2.2.2.1.cell (i := 0) rfl
    have y1_9 := HB9.out.2.2.2.1.cell (i := 1) rfl
    go_wp2_with fail
    clear v0_9 v1_9 v2_9 x0_9 x1_9 y0_9 y1_9
    refine Calls.mono (HLE.out _ _ _) ?_; rintro e w10 ⟨rfl, k10⟩
    have HB10 : Hid (Blk w10 w.heap.size 24 [.int .i64 k, .int .i64 m, .string s] ∧ Blk w10 w1.heap.size 27 [.pointer p1, .int .i64 ((0 : Nat) : Int)] ∧ Ix w10 p1 F nb 2 ∧ Blk w10 w3.heap.size 27 [.pointer p3, .int .i64 ((0 : Nat) : Int)] ∧ Ix w10 p3 F nb 3 ∧ Below w.heap.size w w10) := ⟨HB9.out.1.next k10, HB9.out.2.1.next k10, HB9.out.2.2.1.next k10, HB9.out.2.2.2.1.next k10, HB9.out.2.2.2.2.1.next k10, Below.next HB9.out.2.2.2.2.2 k10⟩
    clear k10 HB9
    have v0_10 := HB10.out.1.cell (i := 0) rfl
    have v1_10 := HB10.out.1.cell (i := 1) rfl
    have v2_10 := HB10.out.1.cell (i := 2) rfl
    have x0_10 := HB10.out.2.1.cell (i := 0) rfl
    have x1_10 := HB10.out.2.1.cell (i := 1) rfl
    have y0_10 := HB10.out.2.2.2.1.cell (i := 0) rfl
    have y1_10 := HB10.out.2.2.2.1.cell (i := 1) rfl
    go_wp2_with fail
    clear v0_10 v1_10 v2_10 x0_10 x1_10 y0_10 y1_10
    refine Calls.mono (HAL.out.o2 _ _ HB10.out.2.2.1) ?_; rintro e w11 ⟨pb, rfl, k11⟩
    have HB11 : Hid (Blk w11 w.heap.size 24 [.int .i64 k, .int .i64 m, .string s] ∧ Blk w11 w1.heap.size 27 [.pointer p1, .int .i64 ((0 : Nat) : Int)] ∧ Ix w11 p1 F nb 2 ∧ Blk w11 w3.heap.size 27 [.pointer p3, .int .i64 ((0 : Nat) : Int)] ∧ Ix w11 p3 F nb 3 ∧ Below w.heap.size w w11) := ⟨HB10.out.1.next k11, HB10.out.2.1.next k11, HB10.out.2.2.1.next k11, HB10.out.2.2.2.1.next k11, HB10.out.2.2.2.2.1.next k11, Below.next HB10.out.2.2.2.2.2 k11⟩
    clear k11 HB10
    have v0_11 := HB11.out.1.cell (i := 0) rfl
    have v1_11 := HB11.out.1.cell (i := 1) rfl
    have v2_11 := HB11.out.1.cell (i := 2) rfl
    have x0_11 := HB11.out.2.1.cell (i := 0) rfl
    have x1_11 := HB11.out.2.1.cell (i := 1) rfl
    have y0_11 := HB11.out.2.2.2.1.cell (i := 0) rfl
    have y1_11 := HB11.out.2.2.2.1.cell (i := 1) rfl
    go_wp2_with fail
    clear v0_11 v1_11 v2_11 x0_11 x1_11 y0_11 y1_11
    refine Calls.mono (HLE.out _ _ _) ?_; rintro e w12 ⟨rfl, k12⟩
    have HB12 : Hid (Blk w12 w.heap.size 24 [.int .i64 k, .int .i64 m, .string s] ∧ Blk w12 w1.heap.size 27 [.pointer p1, .int .i64 ((0 : Nat) : Int)] ∧ Ix w12 p1 F nb 2 ∧ Blk w12 w3.heap.size 27 [.pointer p3, .int .i64 ((0 : Nat) : Int)] ∧ Ix w12 p3 F nb 3 ∧ Below w.heap.size w w12) := ⟨HB11.out.1.next k12, HB11.out.2.1.next k12, HB11.out.2.2.1.next k12, HB11.out.2.2.2.1.next k12, HB11.out.2.2.2.2.1.next k12, Below.next HB11.out.2.2.2.2.2 k12⟩
    clear k12 HB11
    obtain ⟨wo, hwo⟩ : ∃ wo, w12.alloc (.cells #[.int .i64 2, .int .i64 0, .string ⟨#[111, 116, 104, 101, 114]⟩] 24) = wo := ⟨_, rfl⟩
    have HWO : Hid (w12.alloc (.cells #[.int .i64 2, .int .i64 0, .string ⟨#[111, 116, 104, 101, 114]⟩] 24) = wo) := hwo
    have ko : Below w12.heap.size w12 wo := by rw [← hwo]; exact below1 _ _
    have HBo : Hid (Blk wo w.heap.size 24 [.int .i64 k, .int .i64 m, .string s] ∧ Blk wo w1.heap.size 27 [.pointer p1, .int .i64 ((0 : Nat) : Int)] ∧ Ix wo p1 F nb 2 ∧ Below w.heap.size w wo ∧ Blk wo w12.heap.size 24 [.int .i64 2, .int .i64 0, .string ⟨#[111, 116, 104, 101, 114]⟩]) := ⟨HB12.out.1.next ko, HB12.out.2.1.next ko, HB12.out.2.2.1.next ko, Below.next HB12.out.2.2.2.2.2 ko, by rw [← hwo]; exact Blk.new w12 24 [.int .i64 2, .int .i64 0, .string ⟨#[111, 116, 104, 101, 114]⟩]⟩
    have a0 := HBo.out.1.cell (i := 0) rfl
    have a1 := HBo.out.1.cell (i := 1) rfl
    have a2 := HBo.out.1.cell (i := 2) rfl
    have x0 := HBo.out.2.1.cell (i := 0) rfl
    have x1 := HBo.out.2.1.cell (i := 1) rfl
    have c0 := HBo.out.2.2.2.2.cell (i := 0) rfl
    have c1 := HBo.out.2.2.2.2.cell (i := 1) rfl
    have c2 := HBo.out.2.2.2.2.cell (i := 2) rfl
    rw [← hwo] at a0 a1 a2 x0 x1 c0 c1 c2
    clear hwo ko HB12
    by_cases hv : (⟨k, m, s⟩ : Val) = vO
    · cases hv
      go_wp2_with fail
      rw [HWO.out]
      refine Calls.mono (HAW.out _) ?_; rintro e wz ⟨rfl, kz⟩
      have HBz : Hid (Below w.heap.size w wz) := Below.next HBo.out.2.2.2.1 kz
      clear kz
      go_wp2_with fail
      go_ret
      exact ⟨rfl, HBz.out⟩
    · have HO3 : Hid (Calls Try.prog 16 #[.agg #[.pointer p1, .int .i64 ((0 : Nat) : Int)], .agg #[.int .i64 2, .int .i64 0, .string ⟨#[111, 116, 104, 101, 114]⟩], .int .i64 n] wo fun e w' => ∃ p', e = .returned (.agg #[.pointer p', .int .i64 ((0 : Nat) : Int)]) ∧ Below wo.heap.size wo w') := HAL.out.o3 hv wo p1 HBo.out.2.2.1
      have HNE : Hid (¬ (k = 2 ∧ m = 0 ∧ s.toList = ([111, 116, 104, 101, 114] : List UInt8))) := fun q => hv (by
        obtain ⟨q1, q2, q3⟩ := q
        subst q1; subst q2
        have : s = ⟨#[111, 116, 104, 101, 114]⟩ := byte_inj (by rw [q3, ByteArray.toList_eq])
        rw [this]; rfl)
      clear hv HAL
      by_cases q1 : k = 2
      · subst q1
        by_cases q2 : m = 0
        · subst q2
          have q3 : ¬ s.toList = ([111, 116, 104, 101, 114] : List UInt8) := fun q => HNE.out ⟨rfl, rfl, q⟩
          go_wp2_with fail
          rw [HWO.out]
          refine Calls.mono HO3.out ?_; rintro e wy ⟨py, rfl, ky⟩
          have HBy : Hid (Below w.heap.size w wy) := Below.next HBo.out.2.2.2.1 ky
          clear ky
          go_wp2_with fail
          refine Calls.mono (HLE.out _ _ _) ?_; rintro e wx ⟨rfl, kx⟩
          have HBx : Hid (Below w.heap.size w wx) := Below.next HBy.out kx
          clear kx
          go_wp2_with fail
          refine Calls.mono (HAW.out _) ?_; rintro e wz ⟨rfl, kz⟩
          have HBz : Hid (Below w.heap.size w wz) := Below.next HBx.out kz
          clear kz
          go_wp2_with fail
          go_ret
          exact ⟨rfl, HBz.out⟩
        · have q3 : (m == 0) = false := by simpa using q2
          go_wp2_with fail
          rw [HWO.out]
          refine Calls.mono HO3.out ?_; rintro e wy ⟨py, rfl, ky⟩
          have HBy : Hid (Below w.heap.size w wy) := Below.next HBo.out.2.2.2.1 ky
          clear ky
          go_wp2_with fail
          refine Calls.mono (HLE.out _ _ _) ?_; rintro e wx ⟨rfl, kx⟩
          have HBx : Hid (Below w.heap.size w wx) := Below.next HBy.out kx
          clear kx
          go_wp2_with fail
          refine Calls.mono (HAW.out _) ?_; rintro e wz ⟨rfl, kz⟩
          have HBz : Hid (Below w.heap.size w wz) := Below.next HBx.out kz
          clear kz
          go_wp2_with fail
          go_ret
          exact ⟨rfl, HBz.out⟩
      · have q3 : (k == 2) = false := by simpa using q1
        go_wp2_with fail
        rw [HWO.out]
        refine Calls.mono HO3.out ?_; rintro e wy ⟨py, rfl, ky⟩
        have HBy : Hid (Below w.heap.size w wy) := Below.next HBo.out.2.2.2.1 ky
        clear ky
        go_wp2_with fail
        refine Calls.mono (HLE.out _ _ _) ?_; rintro e wx ⟨rfl, kx⟩
        have HBx : Hid (Below w.heap.size w wx) := Below.next HBy.out kx
        clear kx
        go_wp2_with fail
        refine Calls.mono (HAW.out _) ?_; rintro e wz ⟨rfl, kz⟩
        have HBz : Hid (Below w.heap.size w wz) := Below.next HBx.out kz
        clear kz
        go_wp2_with fail
        go_ret
        exact ⟨rfl, HBz.out⟩
  · have v0_5 := HB5.out.1.cell (i := 0) rfl
    have v1_5 := HB5.out.1.cell (i := 1) rfl
    have v2_5 := HB5.out.1.cell (i := 2) rfl
    have x0_5 := HB5.out.2.1.cell (i := 0) rfl
    have x1_5 := HB5.out.2.1.cell (i := 1) rfl
    have y0_5 := HB5.out.2.2.2.1.cell (i := 0) rfl
    have y1_5 := HB5.out.2.2.2.1.cell (i := 1) rfl
    go_wp2_with fail
    clear v0_5 v1_5 v2_5 x0_5 x1_5 y0_5 y1_5
    refine Calls.mono (HLE.out _ _ _) ?_; rintro e w6 ⟨rfl, k6⟩
    have HB6 : Hid (Blk w6 w.heap.size 24 [.int .i64 k, .int .i64 m, .string s] ∧ Blk w6 w1.heap.size 27 [.pointer p1, .int .i64 ((1 : Nat) : Int)] ∧ Ix w6 p1 F nb 2 ∧ Blk w6 w3.heap.size 27 [.pointer p3, .int .i64 ((1 : Nat) : Int)] ∧ Ix w6 p3 F nb 3 ∧ Below w.heap.size w w6) := ⟨HB5.out.1.next k6, HB5.out.2.1.next k6, HB5.out.2.2.1.next k6, HB5.out.2.2.2.1.next k6, HB5.out.2.2.2.2.1.next k6, Below.next HB5.out.2.2.2.2.2 k6⟩
    clear k6 HB5
    have v0_6 := HB6.out.1.cell (i := 0) rfl
    have v1_6 := HB6.out.1.cell (i := 1) rfl
    have v2_6 := HB6.out.1.cell (i := 2) rfl
    have x0_6 := HB6.out.2.1.cell (i := 0) rfl
    have x1_6 := HB6.out.2.1.cell (i := 1) rfl
    have y0_6 := HB6.out.2.2.2.1.cell (i := 0) rfl
    have y1_6 := HB6.out.2.2.2.1.cell (i := 1) rfl
    go_wp2_with fail
    clear v0_6 v1_6 v2_6 x0_6 x1_6 y0_6 y1_6
    refine Calls.mono (HLE.out _ _ _) ?_; rintro e w7 ⟨rfl, k7⟩
    have HB7 : Hid (Blk w7 w.heap.size 24 [.int .i64 k, .int .i64 m, .string s] ∧ Blk w7 w1.heap.size 27 [.pointer p1, .int .i64 ((1 : Nat) : Int)] ∧ Ix w7 p1 F nb 2 ∧ Blk w7 w3.heap.size 27 [.pointer p3, .int .i64 ((1 : Nat) : Int)] ∧ Ix w7 p3 F nb 3 ∧ Below w.heap.size w w7) := ⟨HB6.out.1.next k7, HB6.out.2.1.next k7, HB6.out.2.2.1.next k7, HB6.out.2.2.2.1.next k7, HB6.out.2.2.2.2.1.next k7, Below.next HB6.out.2.2.2.2.2 k7⟩
    clear k7 HB6
    have v0_7 := HB7.out.1.cell (i := 0) rfl
    have v1_7 := HB7.out.1.cell (i := 1) rfl
    have v2_7 := HB7.out.1.cell (i := 2) rfl
    have x0_7 := HB7.out.2.1.cell (i := 0) rfl
    have x1_7 := HB7.out.2.1.cell (i := 1) rfl
    have y0_7 := HB7.out.2.2.2.1.cell (i := 0) rfl
    have y1_7 := HB7.out.2.2.2.1.cell (i := 1) rfl
    go_wp2_with fail
    clear v0_7 v1_7 v2_7 x0_7 x1_7 y0_7 y1_7
    refine Calls.mono (HAL.out.fd _ _ HB7.out.2.2.2.2.1) ?_; rintro e w8 ⟨fa, fk, rfl, k8⟩
    have HB8 : Hid (Blk w8 w.heap.size 24 [.int .i64 k, .int .i64 m, .string s] ∧ Blk w8 w1.heap.size 27 [.pointer p1, .int .i64 ((1 : Nat) : Int)] ∧ Ix w8 p1 F nb 2 ∧ Blk w8 w3.heap.size 27 [.pointer p3, .int .i64 ((1 : Nat) : Int)] ∧ Ix w8 p3 F nb 3 ∧ Below w.heap.size w w8) := ⟨HB7.out.1.next k8, HB7.out.2.1.next k8, HB7.out.2.2.1.next k8, HB7.out.2.2.2.1.next k8, HB7.out.2.2.2.2.1.next k8, Below.next HB7.out.2.2.2.2.2 k8⟩
    clear k8 HB7
    have v0_8 := HB8.out.1.cell (i := 0) rfl
    have v1_8 := HB8.out.1.cell (i := 1) rfl
    have v2_8 := HB8.out.1.cell (i := 2) rfl
    have x0_8 := HB8.out.2.1.cell (i := 0) rfl
    have x1_8 := HB8.out.2.1.cell (i := 1) rfl
    have y0_8 := HB8.out.2.2.2.1.cell (i := 0) rfl
    have y1_8 := HB8.out.2.2.2.1.cell (i := 1) rfl
    go_wp2_with fail
    clear v0_8 v1_8 v2_8 x0_8 x1_8 y0_8 y1_8
    refine Calls.mono (HAL.out.o1 _ _ HB8.out.2.2.1) ?_; rintro e w9 ⟨pa, rfl, k9⟩
    have HB9 : Hid (Blk w9 w.heap.size 24 [.int .i64 k, .int .i64 m, .string s] ∧ Blk w9 w1.heap.size 27 [.pointer p1, .int .i64 ((1 : Nat) : Int)] ∧ Ix w9 p1 F nb 2 ∧ Blk w9 w3.heap.size 27 [.pointer p3, .int .i64 ((1 : Nat) : Int)] ∧ Ix w9 p3 F nb 3 ∧ Below w.heap.size w w9) := ⟨HB8.out.1.next k9, HB8.out.2.1.next k9, HB8.out.2.2.1.next k9, HB8.out.2.2.2.1.next k9, HB8.out.2.2.2.2.1.next k9, Below.next HB8.out.2.2.2.2.2 k9⟩
    clear k9 HB8
    have v0_9 := HB9.out.1.cell (i := 0) rfl
    have v1_9 := HB9.out.1.cell (i := 1) rfl
    have v2_9 := HB9.out.1.cell (i := 2) rfl
    have x0_9 := HB9.out.2.1.cell (i := 0) rfl
    have x1_9 := HB9.out.2.1.cell (i := 1) rfl
    have y0_9 := HB9.out.2.2.2.1.cell (i := 0) rfl
    have y1_9 := HB9.out.2.2.2.1.cell (i := 1) rfl
    go_wp2_with fail
    clear v0_9 v1_9 v2_9 x0_9 x1_9 y0_9 y1_9
    refine Calls.mono (HLE.out _ _ _) ?_; rintro e w10 ⟨rfl, k10⟩
    have HB10 : Hid (Blk w10 w.heap.size 24 [.int .i64 k, .int .i64 m, .string s] ∧ Blk w10 w1.heap.size 27 [.pointer p1, .int .i64 ((1 : Nat) : Int)] ∧ Ix w10 p1 F nb 2 ∧ Blk w10 w3.heap.size 27 [.pointer p3, .int .i64 ((1 : Nat) : Int)] ∧ Ix w10 p3 F nb 3 ∧ Below w.heap.size w w10) := ⟨HB9.out.1.next k10, HB9.out.2.1.next k10, HB9.out.2.2.1.next k10, HB9.out.2.2.2.1.next k10, HB9.out.2.2.2.2.1.next k10, Below.next HB9.out.2.2.2.2.2 k10⟩
    clear k10 HB9
    have v0_10 := HB10.out.1.cell (i := 0) rfl
    have v1_10 := HB10.out.1.cell (i := 1) rfl
    have v2_10 := HB10.out.1.cell (i := 2) rfl
    have x0_10 := HB10.out.2.1.cell (i := 0) rfl
    have x1_10 := HB10.out.2.1.cell (i := 1) rfl
    have y0_10 := HB10.out.2.2.2.1.cell (i := 0) rfl
    have y1_10 := HB10.out.2.2.2.1.cell (i := 1) rfl
    go_wp2_with fail
    clear v0_10 v1_10 v2_10 x0_10 x1_10 y0_10 y1_10
    refine Calls.mono (HAL.out.o2 _ _ HB10.out.2.2.1) ?_; rintro e w11 ⟨pb, rfl, k11⟩
    have HB11 : Hid (Blk w11 w.heap.size 24 [.int .i64 k, .int .i64 m, .string s] ∧ Blk w11 w1.heap.size 27 [.pointer p1, .int .i64 ((1 : Nat) : Int)] ∧ Ix w11 p1 F nb 2 ∧ Blk w11 w3.heap.size 27 [.pointer p3, .int .i64 ((1 : Nat) : Int)] ∧ Ix w11 p3 F nb 3 ∧ Below w.heap.size w w11) := ⟨HB10.out.1.next k11, HB10.out.2.1.next k11, HB10.out.2.2.1.next k11, HB10.out.2.2.2.1.next k11, HB10.out.2.2.2.2.1.next k11, Below.next HB10.out.2.2.2.2.2 k11⟩
    clear k11 HB10
    have v0_11 := HB11.out.1.cell (i := 0) rfl
    have v1_11 := HB11.out.1.cell (i := 1) rfl
    have v2_11 := HB11.out.1.cell (i := 2) rfl
    have x0_11 := HB11.out.2.1.cell (i := 0) rfl
    have x1_11 := HB11.out.2.1.cell (i := 1) rfl
    have y0_11 := HB11.out.2.2.2.1.cell (i := 0) rfl
    have y1_11 := HB11.out.2.2.2.1.cell (i := 1) rfl
    go_wp2_with fail
    clear v0_11 v1_11 v2_11 x0_11 x1_11 y0_11 y1_11
    refine Calls.mono (HLE.out _ _ _) ?_; rintro e w12 ⟨rfl, k12⟩
    have HB12 : Hid (Blk w12 w.heap.size 24 [.int .i64 k, .int .i64 m, .string s] ∧ Blk w12 w1.heap.size 27 [.pointer p1, .int .i64 ((1 : Nat) : Int)] ∧ Ix w12 p1 F nb 2 ∧ Blk w12 w3.heap.size 27 [.pointer p3, .int .i64 ((1 : Nat) : Int)] ∧ Ix w12 p3 F nb 3 ∧ Below w.heap.size w w12) := ⟨HB11.out.1.next k12, HB11.out.2.1.next k12, HB11.out.2.2.1.next k12, HB11.out.2.2.2.1.next k12, HB11.out.2.2.2.2.1.next k12, Below.next HB11.out.2.2.2.2.2 k12⟩
    clear k12 HB11
    obtain ⟨wo, hwo⟩ : ∃ wo, w12.alloc (.cells #[.int .i64 2, .int .i64 0, .string ⟨#[111, 116, 104, 101, 114]⟩] 24) = wo := ⟨_, rfl⟩
    have HWO : Hid (w12.alloc (.cells #[.int .i64 2, .int .i64 0, .string ⟨#[111, 116, 104, 101, 114]⟩] 24) = wo) := hwo
    have ko : Below w12.heap.size w12 wo := by rw [← hwo]; exact below1 _ _
    have HBo : Hid (Blk wo w.heap.size 24 [.int .i64 k, .int .i64 m, .string s] ∧ Blk wo w1.heap.size 27 [.pointer p1, .int .i64 ((1 : Nat) : Int)] ∧ Ix wo p1 F nb 2 ∧ Below w.heap.size w wo ∧ Blk wo w12.heap.size 24 [.int .i64 2, .int .i64 0, .string ⟨#[111, 116, 104, 101, 114]⟩]) := ⟨HB12.out.1.next ko, HB12.out.2.1.next ko, HB12.out.2.2.1.next ko, Below.next HB12.out.2.2.2.2.2 ko, by rw [← hwo]; exact Blk.new w12 24 [.int .i64 2, .int .i64 0, .string ⟨#[111, 116, 104, 101, 114]⟩]⟩
    have a0 := HBo.out.1.cell (i := 0) rfl
    have a1 := HBo.out.1.cell (i := 1) rfl
    have a2 := HBo.out.1.cell (i := 2) rfl
    have x0 := HBo.out.2.1.cell (i := 0) rfl
    have x1 := HBo.out.2.1.cell (i := 1) rfl
    have c0 := HBo.out.2.2.2.2.cell (i := 0) rfl
    have c1 := HBo.out.2.2.2.2.cell (i := 1) rfl
    have c2 := HBo.out.2.2.2.2.cell (i := 2) rfl
    rw [← hwo] at a0 a1 a2 x0 x1 c0 c1 c2
    clear hwo ko HB12
    by_cases hv : (⟨k, m, s⟩ : Val) = vO
    · cases hv
      go_wp2_with fail
      rw [HWO.out]
      refine Calls.mono (HAW.out _) ?_; rintro e wz ⟨rfl, kz⟩
      have HBz : Hid (Below w.heap.size w wz) := Below.next HBo.out.2.2.2.1 kz
      clear kz
      go_wp2_with fail
      go_ret
      exact ⟨rfl, HBz.out⟩
    · have HO3 : Hid (Calls Try.prog 16 #[.agg #[.pointer p1, .int .i64 ((1 : Nat) : Int)], .agg #[.int .i64 2, .int .i64 0, .string ⟨#[111, 116, 104, 101, 114]⟩], .int .i64 n] wo fun e w' => ∃ p', e = .returned (.agg #[.pointer p', .int .i64 ((1 : Nat) : Int)]) ∧ Below wo.heap.size wo w') := HAL.out.o3 hv wo p1 HBo.out.2.2.1
      have HNE : Hid (¬ (k = 2 ∧ m = 0 ∧ s.toList = ([111, 116, 104, 101, 114] : List UInt8))) := fun q => hv (by
        obtain ⟨q1, q2, q3⟩ := q
        subst q1; subst q2
        have : s = ⟨#[111, 116, 104, 101, 114]⟩ := byte_inj (by rw [q3, ByteArray.toList_eq])
        rw [this]; rfl)
      clear hv HAL
      by_cases q1 : k = 2
      · subst q1
        by_cases q2 : m = 0
        · subst q2
          have q3 : ¬ s.toList = ([111, 116, 104, 101, 114] : List UInt8) := fun q => HNE.out ⟨rfl, rfl, q⟩
          go_wp2_with fail
          rw [HWO.out]
          refine Calls.mono HO3.out ?_; rintro e wy ⟨py, rfl, ky⟩
          have HBy : Hid (Below w.heap.size w wy) := Below.next HBo.out.2.2.2.1 ky
          clear ky
          go_wp2_with fail
          refine Calls.mono (HLE.out _ _ _) ?_; rintro e wx ⟨rfl, kx⟩
          have HBx : Hid (Below w.heap.size w wx) := Below.next HBy.out kx
          clear kx
          go_wp2_with fail
          refine Calls.mono (HAW.out _) ?_; rintro e wz ⟨rfl, kz⟩
          have HBz : Hid (Below w.heap.size w wz) := Below.next HBx.out kz
          clear kz
          go_wp2_with fail
          go_ret
          exact ⟨rfl, HBz.out⟩
        · have q3 : (m == 0) = false := by simpa using q2
          go_wp2_with fail
          rw [HWO.out]
          refine Calls.mono HO3.out ?_; rintro e wy ⟨py, rfl, ky⟩
          have HBy : Hid (Below w.heap.size w wy) := Below.next HBo.out.2.2.2.1 ky
          clear ky
          go_wp2_with fail
          refine Calls.mono (HLE.out _ _ _) ?_; rintro e wx ⟨rfl, kx⟩
          have HBx : Hid (Below w.heap.size w wx) := Below.next HBy.out kx
          clear kx
          go_wp2_with fail
          refine Calls.mono (HAW.out _) ?_; rintro e wz ⟨rfl, kz⟩
          have HBz : Hid (Below w.heap.size w wz) := Below.next HBx.out kz
          clear kz
          go_wp2_with fail
          go_ret
          exact ⟨rfl, HBz.out⟩
      · have q3 : (k == 2) = false := by simpa using q1
        go_wp2_with fail
        rw [HWO.out]
        refine Calls.mono HO3.out ?_; rintro e wy ⟨py, rfl, ky⟩
        have HBy : Hid (Below w.heap.size w wy) := Below.next HBo.out.2.2.2.1 ky
        clear ky
        go_wp2_with fail
        refine Calls.mono (HLE.out _ _ _) ?_; rintro e wx ⟨rfl, kx⟩
        have HBx : Hid (Below w.heap.size w wx) := Below.next HBy.out kx
        clear kx
        go_wp2_with fail
        refine Calls.mono (HAW.out _) ?_; rintro e wz ⟨rfl, kz⟩
        have HBz : Hid (Below w.heap.size w wz) := Below.next HBx.out kz
        clear kz
        go_wp2_with fail
        go_ret
        exact ⟨rfl, HBz.out⟩

theorem walk (k m : Int) (s : ByteArray) (hs : s.size ≤ 9223372036854775807) (n : Int) (w : World) :
    Calls Try.prog 6 #[vv k m s, .int .i64 n] w fun e w' => e = .returned (.bool true) ∧ Below w.heap.size w w' := by
  by_cases h200 : s.size ≤ 200
  · have hm := refMay_is k m s (by omega)
    by_cases h : may ⟨k, m, s⟩
    · refine alike_is k m s n h200 _ 1 1 (by omega) (al_may ⟨k, m, s⟩ hs n h) (fun w => ?_) w
      have := hm w
      rw [decide_eq_true (show mayV k m s from h)] at this
      exact this
    · refine alike_is k m s n h200 _ 0 0 (by omega) (al_none ⟨k, m, s⟩ hs n h) (fun w => ?_) w
      have := hm w
      rw [decide_eq_false (show ¬ mayV k m s from h)] at this
      exact this
  · have HAW : Hid (∀ w, Calls Try.prog 7 #[] w fun e w' => e = .returned (.bool true) ∧ Below w.heap.size w w') := awake_is
    have hsi : (s.size : Int) > 200 := by omega
    have HB : Hid (∀ t, Below w.heap.size w (w.alloc t)) := fun t => below1 _ _
    go_enter Try.func6, Try.ntmps6
    go_wp2_with fail
    refine Calls.mono (HAW.out _) ?_; rintro e w1 ⟨rfl, k1⟩
    have HB1 : Hid (Below w.heap.size w w1) := Below.next (HB.out _) k1
    clear k1
    go_wp2_with fail
    go_ret
    exact ⟨rfl, HB1.out⟩

set_option maxRecDepth 100000 in
theorem lifted (os : Os) (started : os.Started) (H : Type) (enc : TypeId × Value → H) :
    ReturnsInHanded {} Try.checked os 6 .any (Rows.hashAlikeSpec.pre6 enc Try.prog Try.f6 Rows.hashAlikeRow.domain false) (Rows.hashAlikeSpec.post enc Try.prog Try.f6 false true false false) := by
  refine returnsInHanded_of_change (C := Try.checked) own started (by kernel_rfl) Try.func6
    (ChangeSpec.witness6 (enc := enc) (C := Try.checked) false ⟨#[], #[vv 0 0 ⟨#[]⟩, .int .i64 0], []⟩ 8 (by kernel_rfl) (by kernel_rfl) (by kernel_rfl) (by kernel_rfl)) ?_
  intro W base args ds gs before hval0 hW hcnd _
  have hval : ∀ (j : Nat) t v, Try.f6.params[j]? = some t → args[j]? = some v → Value.okWide Try.prog W .any base t v := hval0
  have hW' := hW
  obtain ⟨p, q, hA0, hV, rfl, hfz, hnd⟩ := hW
  have hA : DataW.TrodAll enc Try.prog W 0 (fun _ => true) true Try.f6.params.toList args.toList ds p := hA0
  rw [Try.params6] at hA hval
  obtain ⟨v0, vs0, d0, ds0, p0, q0, hargs, rfl, rfl, h0, r0⟩ := trodAll_cons hA
  obtain ⟨v1, vs1, d1, ds1, p1, q1, rfl, rfl, rfl, h1, r1⟩ := trodAll_cons r0
  obtain ⟨rfl, rfl, rfl⟩ := trodAll_nil r1
  obtain rfl : args = #[v0, v1] := by cases args; simp_all
  obtain ⟨rfl, rfl⟩ := trodVars_none hV
  have g0 := h0
  have lt0 : ∀ x ∈ p0, x.block < W.heap.size := by obtain ⟨m, hm⟩ := g0; exact DataW.trod_lt m _ _ _ hm
  obtain ⟨k, m, s, rfl, hs⟩ := open_value (hval 0 24 v0 rfl rfl) h0
  have g1 := h1
  have lt1 : ∀ x ∈ p1, x.block < W.heap.size := by obtain ⟨m, hm⟩ := g1; exact DataW.trod_lt m _ _ _ hm
  obtain ⟨a1, rfl, rfl, rfl, w1⟩ := open_int Try.underlying3 (hval 1 3 v1 rfl rfl) h1
  clear hA0 hval0
  refine (walk k m s hs a1 W).mono fun e W' ⟨he, bel⟩ => ?_
  subst he
  exact ⟨_, rfl, _, _, _, [], _, [], hW', trodAll_mk1 (shut_bool Try.underlying4 _), (trodAll_cons_mk (Below.trod laidOut (by kernel_rfl) (of_decide_eq_true (by kernel_rfl)) g0 bel lt0) (trodAll_cons_mk (Below.trod laidOut (by kernel_rfl) (of_decide_eq_true (by kernel_rfl)) g1 bel lt1) trodAll_mk0)), rfl, bel.frame _, fun h => by cases h⟩

theorem over : Rows.hashAlikeRow.holds Try.pinned (OpenSpec.ofChange Rows.hashAlikeSpec) :=
  OpenClaim.holds_of_wide 6 Try.f6 rfl rfl rfl rfl rfl rfl rfl ⟨rfl, rfl, rfl, rfl, rfl⟩ rfl rfl rfl rfl rfl (by kernel_rfl) Try.func6 (by kernel_rfl)
    (of_decide_eq_true (by kernel_rfl)) (by unfold Func.isWrapper; first | (rw [if_pos (by decide +kernel)]; kernel_rfl) | (rw [if_neg (by decide +kernel)]; exact ⟨rfl, rfl⟩))
    (fun os started H enc _ => lifted os started H enc)

theorem proved : Rows.HashAlikeSaid := over
#print axioms proved
end Go.Proofs.Ytoabfllbidiipaa.hashAlike
