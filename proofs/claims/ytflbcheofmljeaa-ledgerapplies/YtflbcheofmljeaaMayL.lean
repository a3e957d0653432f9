/- ledger: which ledgers may be. -/
import Derived.Test.YtflbcheofmljeaaAgreeC
namespace Go.Proofs.Ytflbcheofmljeaa
open Go.ChangeShapes Go.WideShapes Go.RowKit
set_option linter.unusedVariables false
set_option maxRecDepth 100000

/-- Which ledgers may be. -/
structure mayL (L : Led) : Prop where
  ops : 0 ≤ L.ops
  room : room L 0 0 0
  S : mayS L.S
  H : mayH L.H
  M : mayM L.M
  ag : agreeP L
instance (L : Led) : Decidable (mayL L) := decidable_of_iff (0 ≤ L.ops ∧ room L 0 0 0 ∧ mayS L.S ∧ mayH L.H ∧ mayM L.M ∧ agreeP L) ⟨fun h => ⟨h.1, h.2.1, h.2.2.1, h.2.2.2.1, h.2.2.2.2.1, h.2.2.2.2.2⟩, fun h => ⟨h.ops, h.room, h.S, h.H, h.M, h.ag⟩⟩
set_option maxHeartbeats 2000000 in
theorem mayL_is (a0 : Option Addr) (n0 c0 : Nat) (a1 : Option Addr) (n1 c1 : Nat) (a2 : Option Addr) (n2 c2 : Nat) (L : Led) (h0 : L.S.length = n0) (h1 : L.H.length = n1) (h2 : L.M.length = n2) (m0 : n0 ≤ 1000000000000) (m1 : n1 ≤ 1000000000000) (m2 : n2 ≤ 1000000000000) (hf : L.fit) (w : World) (hr : Lies w a0 a1 a2 L) :
    Calls Try.prog 24 #[lval a0 n0 c0 a1 n1 c1 a2 n2 c2 L.ops] w fun e w' => e = .returned (.bool (decide (mayL L))) ∧ Below w.heap.size w w' := by
  obtain ⟨z, hz⟩ : ∃ z, decide (mayL L) = z := ⟨_, rfl⟩
  rw [hz]
  have HNO : Hid (¬ mayL L → z = false) := fun q => by rw [← hz]; exact decide_eq_false q
  have HYES : Hid (mayL L → z = true) := fun q => by rw [← hz]; exact decide_eq_true q
  obtain ⟨W, hW⟩ : ∃ W, w.alloc (.cells #[.slice a0 n0 c0, .slice a1 n1 c1, .slice a2 n2 c2, .int .i64 L.ops] 26) = W := ⟨_, rfl⟩
  have hB : Below w.heap.size w W := hW ▸ below1 _ _
  have hL : CellsF W w.heap.size [.slice a0 n0 c0, .slice a1 n1 c1, .slice a2 n2 c2, .int .i64 L.ops] := by rw [← hW]; exact CellsF.at _ 26 (by simp) rfl
  have HL : Hid (CellsF W w.heap.size [.slice a0 n0 c0, .slice a1 n1 c1, .slice a2 n2 c2, .int .i64 L.ops]) := hL
  have HB : Hid (Below w.heap.size w W) := hB
  have HR : Hid (Lies w a0 a1 a2 L) := hr
  have H0 : Hid (L.S.length = n0 ∧ L.H.length = n1 ∧ L.M.length = n2 ∧ L.fit) := ⟨h0, h1, h2, hf⟩
  have HRM : Hid (room3 n0 n1 n2 0 0 0 ↔ room L 0 0 0) := by show _ ↔ _; unfold room3 room; rw [h0, h1, h2]
  have l0 := hL.cs 0 _ rfl
  have l1 := hL.cs 1 _ rfl
  have l2 := hL.cs 2 _ rfl
  have l3 := hL.cs 3 _ rfl
  clear hB hL hr h0 h1 h2 hf hz
  by_cases q0 : 0 ≤ L.ops
  · have HP : Hid _ := fun w => hasRoom_is a0 n0 c0 a1 n1 c1 a2 n2 c2 L.ops 0 0 0 (by omega) (by omega) (by omega) (by omega) (by omega) (by omega) w
    by_cases qr : room3 n0 n1 n2 0 0 0
    · rw [decide_eq_true qr] at HP
      have HQ0 : Hid (0 ≤ L.ops) := q0
      have hroom : n0 ≤ 4096 ∧ n1 ≤ 4096 ∧ n2 ≤ 4096 := by unfold room3 at qr; omega
      have HQR : Hid (room L 0 0 0 ∧ n0 ≤ 4096 ∧ n1 ≤ 4096 ∧ n2 ≤ 4096) := ⟨HRM.out.1 qr, hroom⟩
      clear qr hroom
      go_enter Try.func24, Try.ntmps24
      go_wp2_with fail
      try rw [hW]
      go_wp2_with fail
      refine Calls.mono (HP.out _) ?_; rintro e w1 ⟨rfl, k1⟩
      have HB1 : Hid (Below w.heap.size w w1) := Below.next HB.out k1
      have l10 := (HL.out.next k1).cs 0 _ rfl
      have l11 := (HL.out.next k1).cs 1 _ rfl
      have l12 := (HL.out.next k1).cs 2 _ rfl
      have l13 := (HL.out.next k1).cs 3 _ rfl
      have HL1 : Hid (CellsF w1 w.heap.size [.slice a0 n0 c0, .slice a1 n1 c1, .slice a2 n2 c2, .int .i64 L.ops]) := HL.out.next k1
      clear k1 l0 l1 l2 l3
      have HC1 : Hid _ := mayStocks_is a0 c0 n0 L.S H0.out.1 (by omega) w1 (HR.out.S.next stv_ne HB1.out)
      by_cases q1 : mayS L.S
      · rw [decide_eq_true q1] at HC1
        have HQ1 : Hid (mayS L.S) := q1
        clear q1
        go_wp2_with fail
        refine Calls.mono HC1.out ?_; rintro e w2 ⟨rfl, k2⟩
        have HB2 : Hid (Below w.heap.size w w2) := Below.next HB1.out k2
        have l20 := (HL1.out.next k2).cs 0 _ rfl
        have l21 := (HL1.out.next k2).cs 1 _ rfl
        have l22 := (HL1.out.next k2).cs 2 _ rfl
        have l23 := (HL1.out.next k2).cs 3 _ rfl
        have HL2 : Hid (CellsF w2 w.heap.size [.slice a0 n0 c0, .slice a1 n1 c1, .slice a2 n2 c2, .int .i64 L.ops]) := HL1.out.next k2
        clear k2 l10 l11 l12 l13
        have HC2 : Hid _ := mayHolds_is a1 c1 n1 L.H H0.out.2.1 (by omega) w2 (HR.out.H.next hlv_ne HB2.out)
        by_cases q2 : mayH L.H
        · rw [decide_eq_true q2] at HC2
          have HQ2 : Hid (mayH L.H) := q2
          clear q2
          go_wp2_with fail
          refine Calls.mono HC2.out ?_; rintro e w3 ⟨rfl, k3⟩
          have HB3 : Hid (Below w.heap.size w w3) := Below.next HB2.out k3
          have l30 := (HL2.out.next k3).cs 0 _ rfl
          have l31 := (HL2.out.next k3).cs 1 _ rfl
          have l32 := (HL2.out.next k3).cs 2 _ rfl
          have l33 := (HL2.out.next k3).cs 3 _ rfl
          have HL3 : Hid (CellsF w3 w.heap.size [.slice a0 n0 c0, .slice a1 n1 c1, .slice a2 n2 c2, .int .i64 L.ops]) := HL2.out.next k3
          clear k3 l20 l21 l22 l23
          have HC3 : Hid _ := mayMoves_is a2 c2 n2 L.M H0.out.2.2.1 (by omega) w3 (HR.out.M.next mvv_ne HB3.out)
          by_cases q3 : mayM L.M
          · rw [decide_eq_true q3] at HC3
            have HQ3 : Hid (mayM L.M) := q3
            clear q3
            go_wp2_with fail
            refine Calls.mono HC3.out ?_; rintro e w4 ⟨rfl, k4⟩
            have HB4 : Hid (Below w.heap.size w w4) := Below.next HB3.out k4
            have l40 := (HL3.out.next k4).cs 0 _ rfl
            have l41 := (HL3.out.next k4).cs 1 _ rfl
            have l42 := (HL3.out.next k4).cs 2 _ rfl
            have l43 := (HL3.out.next k4).cs 3 _ rfl
            have HL4 : Hid (CellsF w4 w.heap.size [.slice a0 n0 c0, .slice a1 n1 c1, .slice a2 n2 c2, .int .i64 L.ops]) := HL3.out.next k4
            clear k4 l30 l31 l32 l33
            have HC4 : Hid _ := agrees_is a0 n0 c0 a1 n1 c1 a2 n2 c2 L.ops L H0.out.1 H0.out.2.1 H0.out.2.2.1 HQR.out.2.1 HQR.out.2.2.1 HQR.out.2.2.2 HQ1.out.2 H0.out.2.2.2 w4 (HR.out.next HB4.out)
            by_cases q4 : agreeP L
            · rw [decide_eq_true q4] at HC4
              have HQ4 : Hid (agreeP L) := q4
              clear q4
              go_wp2_with fail
              refine Calls.mono HC4.out ?_; rintro e w5 ⟨rfl, k5⟩
              have HB5 : Hid (Below w.heap.size w w5) := Below.next HB4.out k5
              have HE : Hid (z = true) := HYES.out ⟨HQ0.out, HQR.out.1, HQ1.out, HQ2.out, HQ3.out, HQ4.out⟩
              clear k5
              go_wp2_with fail
              go_ret
              exact ⟨by rw [HE.out]; rfl, HB5.out⟩
            · rw [decide_eq_false q4] at HC4
              have HE : Hid (z = false) := HNO.out (fun q => q4 q.ag)
              clear q4
              go_wp2_with fail
              refine Calls.mono HC4.out ?_; rintro e w5 ⟨rfl, k5⟩
              have HB5 : Hid (Below w.heap.size w w5) := Below.next HB4.out k5
              clear k5
              go_wp2_with fail
              go_ret
              exact ⟨by rw [HE.out]; rfl, HB5.out⟩
          · rw [decide_eq_false q3] at HC3
            have HE : Hid (z = false) := HNO.out (fun q => q3 q.M)
            clear q3
            go_wp2_with fail
            refine Calls.mono HC3.out ?_; rintro e w4 ⟨rfl, k4⟩
            have HB4 : Hid (Below w.heap.size w w4) := Below.next HB3.out k4
            clear k4
            go_wp2_with fail
            go_ret
            exact ⟨by rw [HE.out]; rfl, HB4.out⟩
        · rw [decide_eq_false q2] at HC2
          have HE : Hid (z = false) := HNO.out (fun q => q2 q.H)
          clear q2
          go_wp2_with fail
          refine Calls.mono HC2.out ?_; rintro e w3 ⟨rfl, k3⟩
          have HB3 : Hid (Below w.heap.size w w3) := Below.next HB2.out k3
          clear k3
          go_wp2_with fail
          go_ret
          exact ⟨by rw [HE.out]; rfl, HB3.out⟩
      · rw [decide_eq_false q1] at HC1
        have HE : Hid (z = false) := HNO.out (fun q => q1 q.S)
        clear q1
        go_wp2_with fail
        refine Calls.mono HC1.out ?_; rintro e w2 ⟨rfl, k2⟩
        have HB2 : Hid (Below w.heap.size w w2) := Below.next HB1.out k2
        clear k2
        go_wp2_with fail
        go_ret
        exact ⟨by rw [HE.out]; rfl, HB2.out⟩
    · rw [decide_eq_false qr] at HP
      have HE : Hid (z = false) := HNO.out (fun q => qr (HRM.out.2 q.room))
      clear qr
      go_enter Try.func24, Try.ntmps24
      go_wp2_with fail
      try rw [hW]
      go_wp2_with fail
      refine Calls.mono (HP.out _) ?_; rintro e w1 ⟨rfl, k1⟩
      have HB1 : Hid (Below w.heap.size w w1) := Below.next HB.out k1
      clear k1
      go_wp2_with fail
      go_ret
      exact ⟨by rw [HE.out]; rfl, HB1.out⟩
  · have HE : Hid (z = false) := HNO.out (fun q => q0 q.ops)
    go_enter Try.func24, Try.ntmps24
    go_wp2_with fail
    try rw [hW]
    go_ret
    exact ⟨by rw [HE.out]; rfl, HB.out⟩
theorem checkL_is (a0 : Option Addr) (n0 c0 : Nat) (a1 : Option Addr) (n1 c1 : Nat) (a2 : Option Addr) (n2 c2 : Nat) (L : Led) (h0 : L.S.length = n0) (h1 : L.H.length = n1) (h2 : L.M.length = n2) (m0 : n0 ≤ 1000000000000) (m1 : n1 ≤ 1000000000000) (m2 : n2 ≤ 1000000000000) (hf : L.fit) (w : World) (hr : Lies w a0 a1 a2 L) :
    Calls Try.prog 14 #[lval a0 n0 c0 a1 n1 c1 a2 n2 c2 L.ops] w fun e w' => e = .returned (.int .i64 (if mayL L then 0 else 1)) ∧ Below w.heap.size w w' := by
  obtain ⟨W, hW⟩ : ∃ W, w.alloc (.cells #[.slice a0 n0 c0, .slice a1 n1 c1, .slice a2 n2 c2, .int .i64 L.ops] 26) = W := ⟨_, rfl⟩
  have hB : Below w.heap.size w W := hW ▸ below1 _ _
  have hL : CellsF W w.heap.size [.slice a0 n0 c0, .slice a1 n1 c1, .slice a2 n2 c2, .int .i64 L.ops] := by rw [← hW]; exact CellsF.at _ 26 (by simp) rfl
  have HM : Hid _ := mayL_is a0 n0 c0 a1 n1 c1 a2 n2 c2 L h0 h1 h2 m0 m1 m2 hf W (hr.next hB)
  have HB : Hid (Below w.heap.size w W) := hB
  have l0 := hL.cs 0 _ rfl
  have l1 := hL.cs 1 _ rfl
  have l2 := hL.cs 2 _ rfl
  have l3 := hL.cs 3 _ rfl
  clear hB hL hr h0 h1 h2 hf
  by_cases hm : mayL L
  · rw [if_pos hm]
    rw [decide_eq_true hm] at HM
    clear hm
    go_enter Try.func14, Try.ntmps14
    go_wp2_with fail
    try rw [hW]
    go_wp2_with fail
    refine Calls.mono HM.out ?_; rintro e w1 ⟨rfl, k1⟩
    have HB1 : Hid (Below w.heap.size w w1) := Below.next HB.out k1
    clear k1
    go_wp2_with fail
    go_ret
    exact ⟨rfl, HB1.out⟩
  · rw [if_neg hm]
    rw [decide_eq_false hm] at HM
    clear hm
    go_enter Try.func14, Try.ntmps14
    go_wp2_with fail
    try rw [hW]
    go_wp2_with fail
    refine Calls.mono HM.out ?_; rintro e w1 ⟨rfl, k1⟩
    have HB1 : Hid (Below w.heap.size w w1) := Below.next HB.out k1
    clear k1
    go_wp2_with fail
    go_ret
    exact ⟨rfl, HB1.out⟩
end Go.Proofs.Ytflbcheofmljeaa
