/- The document's ledger: which movements may be. -/
import Derived.Test.YtbclddgicnaamaaRH
namespace Go.Proofs.Ytbclddgicnaamaa
open Go.ChangeShapes Go.WideShapes Go.RowKit
set_option linter.unusedVariables false
set_option maxRecDepth 100000

set_option maxHeartbeats 4000000 in
theorem rmoves_is (a0 : Option Addr) (n0 c0 : Nat) (a1 : Option Addr) (n1 c1 : Nat) (a2 : Option Addr) (n2 c2 : Nat) (ops : Int) (L : Led) (h0 : L.S.length = n0) (h1 : L.M.length = n2) (m0 : n0 ≤ 1000000000000) (m1 : n2 ≤ 1000000000000) (hf : L.fit) (w : World) (hr : Lies w a0 a1 a2 L) :
    Calls Try.prog 35 #[.agg #[.slice a0 n0 c0, .slice a1 n1 c1, .slice a2 n2 c2, .int .i64 ops]] w fun e w' => e = .returned (.bool (decide (mayRM L))) ∧ Below w.heap.size w w' := by
  obtain ⟨z, hz⟩ : ∃ z, decide (mayRM L) = z := ⟨_, rfl⟩
  rw [hz]
  have HZ : Hid (decide (mayRM L) = z) := hz
  obtain ⟨W, hW⟩ : ∃ W, w.alloc (.cells #[.slice a0 n0 c0, .slice a1 n1 c1, .slice a2 n2 c2, .int .i64 ops] 26) = W := ⟨_, rfl⟩
  have hB : Below w.heap.size w W := hW ▸ below1 _ _
  have HC : Hid (CellsF W w.heap.size [.slice a0 n0 c0, .slice a1 n1 c1, .slice a2 n2 c2, .int .i64 ops]) := by show CellsF _ _ _; rw [← hW]; exact CellsF.at _ 26 (by simp) rfl
  have HL : Hid (L.S.length = n0 ∧ L.M.length = n2 ∧ L.fit) := ⟨h0, h1, hf⟩
  have HR : Hid (Lies W a0 a1 a2 L) := hr.next hB
  have HB : Hid (Below w.heap.size w W) := hB
  clear hz h0 h1 hr hB hf
  go_enter Try.func35, Try.ntmps35
  go_wp2_with fail
  try rw [hW]
  clear hW
  go_loopw [3] (fun vi wr => ∃ k : Nat, k ≤ n2 ∧ vi = .int .i64 k ∧ Hid (Below W.heap.size W wr ∧ ∀ i (h : i < L.M.length), i < k → okRM L.S i L.M[i]))
    (fun vi _ => n2 - (intOf vi).toNat)
  case atStart => exact ⟨0, Nat.zero_le _, rfl, Below.refl _ _, fun i h q => absurd q (Nat.not_lt_zero _)⟩
  case round =>
    obtain ⟨k, hk, rfl, HI⟩ := hrel
    have l0 := (HC.out.next HI.out.1).cs 0 _ rfl
    have l1 := (HC.out.next HI.out.1).cs 1 _ rfl
    have l2 := (HC.out.next HI.out.1).cs 2 _ rfl
    have l3 := (HC.out.next HI.out.1).cs 3 _ rfl
    by_cases hlt : k < n2
    · have hlti : (k : Int) < (n2 : Int) := by omega
      have hkl : k < L.M.length := by have := HL.out.2.1; omega
      obtain ⟨b, o, ha, hb, hc⟩ := HR.out.M.mov (fun e => by rw [e] at hkl; simp at hkl)
      have hx := (hc k hkl).next (HI.out.1.block b hb)
      obtain ⟨x, hxk⟩ : ∃ x, L.M[k] = x := ⟨_, rfl⟩
      rw [hxk] at hx
      have HX : Hid (L.M[k] = x) := hxk
      have HFI : Hid (x.fit) := by show x.fit; rw [← hxk]; exact HL.out.2.2.M _ (List.getElem_mem hkl)
      have HNO : Hid (¬ okRM L.S k x → z = false) := fun q => by rw [← HZ.out]; exact decide_eq_false (fun e => q (HX.out ▸ e _ hkl))
      have HIX : Hid (∀ (sku loc : ByteArray) w', Below wr.heap.size wr w' → Calls Try.prog 57 #[.agg #[.slice a0 n0 c0, .slice a1 n1 c1, .slice a2 n2 c2, .int .i64 ops], .string sku, .string loc] w' fun e w'' => e = .returned (.int .i64 (if hasK L.S sku loc then (idxK L.S sku loc : Nat) else -1)) ∧ Below w'.heap.size w' w'') := fun sku loc w' b => index_is a0 n0 c0 a1 n1 c1 a2 n2 c2 ops L.S HL.out.1 m0 sku loc w' ((HR.out.next HI.out.1).next b).S
      have HNX : Hid (okRM L.S k x → ∀ i (h : i < L.M.length), i < k + 1 → okRM L.S i L.M[i]) := fun q i h p => by
        by_cases c : i = k
        · subst c; rw [HX.out]; exact q
        · exact HI.out.2 i h (by omega)
      subst ha
      clear hc hb hxk
      obtain ⟨xi, xs, xl, xq, xt, xd⟩ := x
      obtain ⟨x0, x1, x2, x3, x4, x5⟩ := hx
      dsimp only at x0 x1 x2 x3 x4 x5
      have HN1 : Hid _ := fun w => refName_is xs w
      have HN2 : Hid _ := fun w => refName_is xl w
      by_cases q0 : xi = (k : Int) + 1
      · subst q0
        have wk := wrap_succ k (by omega)
        obtain ⟨W2, hW2⟩ : ∃ W2, wr.alloc (.cells #[.int .i64 ((k : Int) + 1), .string xs, .string xl, .int .i64 xq, .int .i64 xt, .int .i64 xd] 42) = W2 := ⟨_, rfl⟩
        have hB2 : Below wr.heap.size wr W2 := hW2 ▸ below1 _ _
        have hC2 : CellsF W2 wr.heap.size [.int .i64 ((k : Int) + 1), .string xs, .string xl, .int .i64 xq, .int .i64 xt, .int .i64 xd] := by rw [← hW2]; exact CellsF.at _ 42 (by simp) rfl
        have y0 := hC2.cs 0 _ rfl
        have y1 := hC2.cs 1 _ rfl
        have y2 := hC2.cs 2 _ rfl
        have y3 := hC2.cs 3 _ rfl
        have y4 := hC2.cs 4 _ rfl
        have y5 := hC2.cs 5 _ rfl
        have HB2 : Hid (Below wr.heap.size wr W2) := hB2
        have HBW : Hid (Below w.heap.size w W2) := Below.next (Below.next HB.out HI.out.1) hB2
        have m0' := (HC.out.next (Below.next HI.out.1 hB2)).cs 0 _ rfl
        have m1' := (HC.out.next (Below.next HI.out.1 hB2)).cs 1 _ rfl
        have m2' := (HC.out.next (Below.next HI.out.1 hB2)).cs 2 _ rfl
        have m3' := (HC.out.next (Below.next HI.out.1 hB2)).cs 3 _ rfl
        clear hB2 hC2
        by_cases q1 : name xs
        · rw [decide_eq_true q1] at HN1
          by_cases q2 : name xl
          · rw [decide_eq_true q2] at HN2
            by_cases q3 : xq = 0
            · have HE : Hid (z = false) := HNO.out (fun e => e.1.2.2.2.1 q3)
              subst q3
              by_cases k1 : xt = 1
              · subst k1
                go_wp2_with fail
                refine Calls.mono (HN1.out _) ?_; rintro e w1 ⟨rfl, rfl⟩
                go_wp2_with fail
                refine Calls.mono (HN2.out _) ?_; rintro e w1 ⟨rfl, rfl⟩
                go_wp2_with fail
                go_ret
                exact ⟨by rw [HE.out]; rfl, HBW.out⟩
              · have g1 : (xt == 1) = false := by simpa using k1
                by_cases k3 : xt = 3
                · subst k3
                  go_wp2_with fail
                  refine Calls.mono (HN1.out _) ?_; rintro e w1 ⟨rfl, rfl⟩
                  go_wp2_with fail
                  refine Calls.mono (HN2.out _) ?_; rintro e w1 ⟨rfl, rfl⟩
                  go_wp2_with fail
                  go_ret
                  exact ⟨by rw [HE.out]; rfl, HBW.out⟩
                · have g3 : (xt == 3) = false := by simpa using k3
                  by_cases k6 : xt = 6
                  · subst k6
                    go_wp2_with fail
                    refine Calls.mono (HN1.out _) ?_; rintro e w1 ⟨rfl, rfl⟩
                    go_wp2_with fail
                    refine Calls.mono (HN2.out _) ?_; rintro e w1 ⟨rfl, rfl⟩
                    go_wp2_with fail
                    go_ret
                    exact ⟨by rw [HE.out]; rfl, HBW.out⟩
                  · have g6 : (xt == 6) = false := by simpa using k6
                    by_cases k7 : xt = 7
                    · subst k7
                      go_wp2_with fail
                      refine Calls.mono (HN1.out _) ?_; rintro e w1 ⟨rfl, rfl⟩
                      go_wp2_with fail
                      refine Calls.mono (HN2.out _) ?_; rintro e w1 ⟨rfl, rfl⟩
                      go_wp2_with fail
                      go_ret
                      exact ⟨by rw [HE.out]; rfl, HBW.out⟩
                    · have g7 : (xt == 7) = false := by simpa using k7
                      go_wp2_with fail
                      refine Calls.mono (HN1.out _) ?_; rintro e w1 ⟨rfl, rfl⟩
                      go_wp2_with fail
                      refine Calls.mono (HN2.out _) ?_; rintro e w1 ⟨rfl, rfl⟩
                      go_wp2_with fail
                      go_ret
                      exact ⟨by rw [HE.out]; rfl, HBW.out⟩
            · have hq3 : (xq == 0) = false := by simpa using q3
              by_cases k1 : xt = 1
              · subst k1
                by_cases q5 : xd < 0
                · have HE : Hid (z = false) := HNO.out (fun e => by rcases e.1.2.2.2.2 with ⟨_, c⟩ | ⟨_, c⟩ <;> dsimp only at c <;> omega)
                  go_wp2_with fail
                  refine Calls.mono (HN1.out _) ?_; rintro e w1 ⟨rfl, rfl⟩
                  go_wp2_with fail
                  refine Calls.mono (HN2.out _) ?_; rintro e w1 ⟨rfl, rfl⟩
                  go_wp2_with fail
                  go_ret
                  exact ⟨by rw [HE.out]; rfl, HBW.out⟩
                · by_cases q6 : xd = 0
                  · have hq6 : (xd != 0) = false := by simpa using q6
                    have HQ6 : Hid (xd = 0) := q6
                    clear q6
                    have HOK : Hid (okM k ⟨(k : Int) + 1, xs, xl, xq, 1, xd⟩) := ⟨rfl, q1, q2, q3, .inl ⟨(by show ((1 : Int) = 1 ∨ (1 : Int) = 6 ∨ (1 : Int) = 7); omega), HQ6.out⟩⟩
                    have HIC : Hid _ := HIX.out xs xl
                    by_cases q8 : hasK L.S xs xl = true
                    · rw [if_pos q8] at HIC
                      have HE : Hid (∀ i (h : i < L.M.length), i < k + 1 → okRM L.S i L.M[i]) := HNX.out ⟨HOK.out, q8⟩
                      obtain ⟨px, hpx⟩ : ∃ px, idxK L.S xs xl = px := ⟨_, rfl⟩
                      rw [hpx] at HIC
                      clear hpx q8
                      have hp0 : ¬ ((px : Int) < 0) := by omega
                      go_wp2_with fail
                      refine Calls.mono (HN1.out _) ?_; rintro e w1 ⟨rfl, rfl⟩
                      go_wp2_with fail
                      refine Calls.mono (HN2.out _) ?_; rintro e w1 ⟨rfl, rfl⟩
                      go_wp2_with fail
                      refine Calls.mono (HIC.out _ HB2.out) ?_; rintro e w6 ⟨rfl, k6⟩
                      have HB6 : Hid (Below w.heap.size w w6 ∧ Below W.heap.size W w6) := ⟨Below.next HBW.out k6, Below.next (Below.next HI.out.1 HB2.out) k6⟩
                      clear k6
                      go_wp2_with fail
                      go_roundw
                      case rel => exact ⟨k + 1, by omega, by go_num, HB6.out.2, HE.out⟩
                      case measure => simp [intOf]; omega
                    · rw [if_neg q8] at HIC
                      have HE : Hid (z = false) := HNO.out (fun e => q8 e.2)
                      clear q8
                      go_wp2_with fail
                      refine Calls.mono (HN1.out _) ?_; rintro e w1 ⟨rfl, rfl⟩
                      go_wp2_with fail
                      refine Calls.mono (HN2.out _) ?_; rintro e w1 ⟨rfl, rfl⟩
                      go_wp2_with fail
                      refine Calls.mono (HIC.out _ HB2.out) ?_; rintro e w6 ⟨rfl, k6⟩
                      have HB6 : Hid (Below w.heap.size w w6 ∧ Below W.heap.size W w6) := ⟨Below.next HBW.out k6, Below.next (Below.next HI.out.1 HB2.out) k6⟩
                      clear k6
                      go_wp2_with fail
                      go_ret
                      exact ⟨by rw [HE.out]; rfl, HB6.out.1⟩
                  · have hq6 : (xd != 0) = true := by simpa using q6
                    have HQ6 : Hid (¬ xd = 0) := q6
                    clear q6
                    have HE : Hid (z = false) := HNO.out (fun e => by rcases e.1.2.2.2.2 with ⟨c, d⟩ | ⟨c, d⟩ <;> dsimp only at c d <;> (have h6 := HQ6.out; omega))
                    go_wp2_with fail
                    refine Calls.mono (HN1.out _) ?_; rintro e w1 ⟨rfl, rfl⟩
                    go_wp2_with fail
                    refine Calls.mono (HN2.out _) ?_; rintro e w1 ⟨rfl, rfl⟩
                    go_wp2_with fail
                    go_ret
                    exact ⟨by rw [HE.out]; rfl, HBW.out⟩
              · have g1 : (xt == 1) = false := by simpa using k1
                by_cases k3 : xt = 3
                · subst k3
                  by_cases q5 : xd < 0
                  · have HE : Hid (z = false) := HNO.out (fun e => by rcases e.1.2.2.2.2 with ⟨_, c⟩ | ⟨_, c⟩ <;> dsimp only at c <;> omega)
                    go_wp2_with fail
                    refine Calls.mono (HN1.out _) ?_; rintro e w1 ⟨rfl, rfl⟩
                    go_wp2_with fail
                    refine Calls.mono (HN2.out _) ?_; rintro e w1 ⟨rfl, rfl⟩
                    go_wp2_with fail
                    go_ret
                    exact ⟨by rw [HE.out]; rfl, HBW.out⟩
                  · by_cases q6 : xd = 0
                    · have hq6 : (xd != 0) = false := by simpa using q6
                      have HQ6 : Hid (xd = 0) := q6
                      clear q6
                      have HE : Hid (z = false) := HNO.out (fun e => by rcases e.1.2.2.2.2 with ⟨c, d⟩ | ⟨c, d⟩ <;> dsimp only at c d <;> (have h6 := HQ6.out; omega))
                      go_wp2_with fail
                      refine Calls.mono (HN1.out _) ?_; rintro e w1 ⟨rfl, rfl⟩
                      go_wp2_with fail
                      refine Calls.mono (HN2.out _) ?_; rintro e w1 ⟨rfl, rfl⟩
                      go_wp2_with fail
                      go_ret
                      exact ⟨by rw [HE.out]; rfl, HBW.out⟩
                    · have hq6 : (xd != 0) = true := by simpa using q6
                      have HQ6 : Hid (¬ xd = 0) := q6
                      clear q6
                      have HOK : Hid (okM k ⟨(k : Int) + 1, xs, xl, xq, 3, xd⟩) := ⟨rfl, q1, q2, q3, .inr ⟨rfl, (show (1 : Int) ≤ xd by have h6 := HQ6.out; omega)⟩⟩
                      have HIC : Hid _ := HIX.out xs xl
                      by_cases q8 : hasK L.S xs xl = true
                      · rw [if_pos q8] at HIC
                        have HE : Hid (∀ i (h : i < L.M.length), i < k + 1 → okRM L.S i L.M[i]) := HNX.out ⟨HOK.out, q8⟩
                        obtain ⟨px, hpx⟩ : ∃ px, idxK L.S xs xl = px := ⟨_, rfl⟩
                        rw [hpx] at HIC
                        clear hpx q8
                        have hp0 : ¬ ((px : Int) < 0) := by omega
                        go_wp2_with fail
                        refine Calls.mono (HN1.out _) ?_; rintro e w1 ⟨rfl, rfl⟩
                        go_wp2_with fail
                        refine Calls.mono (HN2.out _) ?_; rintro e w1 ⟨rfl, rfl⟩
                        go_wp2_with fail
                        refine Calls.mono (HIC.out _ HB2.out) ?_; rintro e w6 ⟨rfl, k6⟩
                        have HB6 : Hid (Below w.heap.size w w6 ∧ Below W.heap.size W w6) := ⟨Below.next HBW.out k6, Below.next (Below.next HI.out.1 HB2.out) k6⟩
                        clear k6
                        go_wp2_with fail
                        go_roundw
                        case rel => exact ⟨k + 1, by omega, by go_num, HB6.out.2, HE.out⟩
                        case measure => simp [intOf]; omega
                      · rw [if_neg q8] at HIC
                        have HE : Hid (z = false) := HNO.out (fun e => q8 e.2)
                        clear q8
                        go_wp2_with fail
                        refine Calls.mono (HN1.out _) ?_; rintro e w1 ⟨rfl, rfl⟩
                        go_wp2_with fail
                        refine Calls.mono (HN2.out _) ?_; rintro e w1 ⟨rfl, rfl⟩
                        go_wp2_with fail
                        refine Calls.mono (HIC.out _ HB2.out) ?_; rintro e w6 ⟨rfl, k6⟩
                        have HB6 : Hid (Below w.heap.size w w6 ∧ Below W.heap.size W w6) := ⟨Below.next HBW.out k6, Below.next (Below.next HI.out.1 HB2.out) k6⟩
                        clear k6
                        go_wp2_with fail
                        go_ret
                        exact ⟨by rw [HE.out]; rfl, HB6.out.1⟩
                · have g3 : (xt == 3) = false := by simpa using k3
                  by_cases k6 : xt = 6
                  · subst k6
                    by_cases q5 : xd < 0
                    · have HE : Hid (z = false) := HNO.out (fun e => by rcases e.1.2.2.2.2 with ⟨_, c⟩ | ⟨_, c⟩ <;> dsimp only at c <;> omega)
                      go_wp2_with fail
                      refine Calls.mono (HN1.out _) ?_; rintro e w1 ⟨rfl, rfl⟩
                      go_wp2_with fail
                      refine Calls.mono (HN2.out _) ?_; rintro e w1 ⟨rfl, rfl⟩
                      go_wp2_with fail
                      go_ret
                      exact ⟨by rw [HE.out]; rfl, HBW.out⟩
                    · by_cases q6 : xd = 0
                      · have hq6 : (xd != 0) = false := by simpa using q6
                        have HQ6 : Hid (xd = 0) := q6
                        clear q6
                        have HOK : Hid (okM k ⟨(k : Int) + 1, xs, xl, xq, 6, xd⟩) := ⟨rfl, q1, q2, q3, .inl ⟨(by show ((6 : Int) = 1 ∨ (6 : Int) = 6 ∨ (6 : Int) = 7); omega), HQ6.out⟩⟩
                        have HIC : Hid _ := HIX.out xs xl
                        by_cases q8 : hasK L.S xs xl = true
                        · rw [if_pos q8] at HIC
                          have HE : Hid (∀ i (h : i < L.M.length), i < k + 1 → okRM L.S i L.M[i]) := HNX.out ⟨HOK.out, q8⟩
                          obtain ⟨px, hpx⟩ : ∃ px, idxK L.S xs xl = px := ⟨_, rfl⟩
                          rw [hpx] at HIC
                          clear hpx q8
                          have hp0 : ¬ ((px : Int) < 0) := by omega
                          go_wp2_with fail
                          refine Calls.mono (HN1.out _) ?_; rintro e w1 ⟨rfl, rfl⟩
                          go_wp2_with fail
                          refine Calls.mono (HN2.out _) ?_; rintro e w1 ⟨rfl, rfl⟩
                          go_wp2_with fail
                          refine Calls.mono (HIC.out _ HB2.out) ?_; rintro e w6 ⟨rfl, k6⟩
                          have HB6 : Hid (Below w.heap.size w w6 ∧ Below W.heap.size W w6) := ⟨Below.next HBW.out k6, Below.next (Below.next HI.out.1 HB2.out) k6⟩
                          clear k6
                          go_wp2_with fail
                          go_roundw
                          case rel => exact ⟨k + 1, by omega, by go_num, HB6.out.2, HE.out⟩
                          case measure => simp [intOf]; omega
                        · rw [if_neg q8] at HIC
                          have HE : Hid (z = false) := HNO.out (fun e => q8 e.2)
                          clear q8
                          go_wp2_with fail
                          refine Calls.mono (HN1.out _) ?_; rintro e w1 ⟨rfl, rfl⟩
                          go_wp2_with fail
                          refine Calls.mono (HN2.out _) ?_; rintro e w1 ⟨rfl, rfl⟩
                          go_wp2_with fail
                          refine Calls.mono (HIC.out _ HB2.out) ?_; rintro e w6 ⟨rfl, k6⟩
                          have HB6 : Hid (Below w.heap.size w w6 ∧ Below W.heap.size W w6) := ⟨Below.next HBW.out k6, Below.next (Below.next HI.out.1 HB2.out) k6⟩
                          clear k6
                          go_wp2_with fail
                          go_ret
                          exact ⟨by rw [HE.out]; rfl, HB6.out.1⟩
                      · have hq6 : (xd != 0) = true := by simpa using q6
                        have HQ6 : Hid (¬ xd = 0) := q6
                        clear q6
                        have HE : Hid (z = false) := HNO.out (fun e => by rcases e.1.2.2.2.2 with ⟨c, d⟩ | ⟨c, d⟩ <;> dsimp only at c d <;> (have h6 := HQ6.out; omega))
                        go_wp2_with fail
                        refine Calls.mono (HN1.out _) ?_; rintro e w1 ⟨rfl, rfl⟩
                        go_wp2_with fail
                        refine Calls.mono (HN2.out _) ?_; rintro e w1 ⟨rfl, rfl⟩
                        go_wp2_with fail
                        go_ret
                        exact ⟨by rw [HE.out]; rfl, HBW.out⟩
                  · have g6 : (xt == 6) = false := by simpa using k6
                    by_cases k7 : xt = 7
                    · subst k7
                      by_cases q5 : xd < 0
                      · have HE : Hid (z = false) := HNO.out (fun e => by rcases e.1.2.2.2.2 with ⟨_, c⟩ | ⟨_, c⟩ <;> dsimp only at c <;> omega)
                        go_wp2_with fail
                        refine Calls.mono (HN1.out _) ?_; rintro e w1 ⟨rfl, rfl⟩
                        go_wp2_with fail
                        refine Calls.mono (HN2.out _) ?_; rintro e w1 ⟨rfl, rfl⟩
                        go_wp2_with fail
                        go_ret
                        exact ⟨by rw [HE.out]; rfl, HBW.out⟩
                      · by_cases q6 : xd = 0
                        · have hq6 : (xd != 0) = false := by simpa using q6
                          have HQ6 : Hid (xd = 0) := q6
                          clear q6
                          have HOK : Hid (okM k ⟨(k : Int) + 1, xs, xl, xq, 7, xd⟩) := ⟨rfl, q1, q2, q3, .inl ⟨(by show ((7 : Int) = 1 ∨ (7 : Int) = 6 ∨ (7 : Int) = 7); omega), HQ6.out⟩⟩
                          have HIC : Hid _ := HIX.out xs xl
                          by_cases q8 : hasK L.S xs xl = true
                          · rw [if_pos q8] at HIC
                            have HE : Hid (∀ i (h : i < L.M.length), i < k + 1 → okRM L.S i L.M[i]) := HNX.out ⟨HOK.out, q8⟩
                            obtain ⟨px, hpx⟩ : ∃ px, idxK L.S xs xl = px := ⟨_, rfl⟩
                            rw [hpx] at HIC
                            clear hpx q8
                            have hp0 : ¬ ((px : Int) < 0) := by omega
                            go_wp2_with fail
                            refine Calls.mono (HN1.out _) ?_; rintro e w1 ⟨rfl, rfl⟩
                            go_wp2_with fail
                            refine Calls.mono (HN2.out _) ?_; rintro e w1 ⟨rfl, rfl⟩
                            go_wp2_with fail
                            refine Calls.mono (HIC.out _ HB2.out) ?_; rintro e w6 ⟨rfl, k6⟩
                            have HB6 : Hid (Below w.heap.size w w6 ∧ Below W.heap.size W w6) := ⟨Below.next HBW.out k6, Below.next (Below.next HI.out.1 HB2.out) k6⟩
                            clear k6
                            go_wp2_with fail
                            go_roundw
                            case rel => exact ⟨k + 1, by omega, by go_num, HB6.out.2, HE.out⟩
                            case measure => simp [intOf]; omega
                          · rw [if_neg q8] at HIC
                            have HE : Hid (z = false) := HNO.out (fun e => q8 e.2)
                            clear q8
                            go_wp2_with fail
                            refine Calls.mono (HN1.out _) ?_; rintro e w1 ⟨rfl, rfl⟩
                            go_wp2_with fail
                            refine Calls.mono (HN2.out _) ?_; rintro e w1 ⟨rfl, rfl⟩
                            go_wp2_with fail
                            refine Calls.mono (HIC.out _ HB2.out) ?_; rintro e w6 ⟨rfl, k6⟩
                            have HB6 : Hid (Below w.heap.size w w6 ∧ Below W.heap.size W w6) := ⟨Below.next HBW.out k6, Below.next (Below.next HI.out.1 HB2.out) k6⟩
                            clear k6
                            go_wp2_with fail
                            go_ret
                            exact ⟨by rw [HE.out]; rfl, HB6.out.1⟩
                        · have hq6 : (xd != 0) = true := by simpa using q6
                          have HQ6 : Hid (¬ xd = 0) := q6
                          clear q6
                          have HE : Hid (z = false) := HNO.out (fun e => by rcases e.1.2.2.2.2 with ⟨c, d⟩ | ⟨c, d⟩ <;> dsimp only at c d <;> (have h6 := HQ6.out; omega))
                          go_wp2_with fail
                          refine Calls.mono (HN1.out _) ?_; rintro e w1 ⟨rfl, rfl⟩
                          go_wp2_with fail
                          refine Calls.mono (HN2.out _) ?_; rintro e w1 ⟨rfl, rfl⟩
                          go_wp2_with fail
                          go_ret
                          exact ⟨by rw [HE.out]; rfl, HBW.out⟩
                    · have g7 : (xt == 7) = false := by simpa using k7
                      have HE : Hid (z = false) := HNO.out (fun e => by rcases e.1.2.2.2.2 with ⟨c, _⟩ | ⟨c, _⟩ <;> dsimp only at c <;> omega)
                      go_wp2_with fail
                      refine Calls.mono (HN1.out _) ?_; rintro e w1 ⟨rfl, rfl⟩
                      go_wp2_with fail
                      refine Calls.mono (HN2.out _) ?_; rintro e w1 ⟨rfl, rfl⟩
                      go_wp2_with fail
                      go_ret
                      exact ⟨by rw [HE.out]; rfl, HBW.out⟩
          · rw [decide_eq_false q2] at HN2
            have HE : Hid (z = false) := HNO.out (fun e => q2 e.1.2.2.1)
            by_cases k1 : xt = 1
            · subst k1
              go_wp2_with fail
              refine Calls.mono (HN1.out _) ?_; rintro e w1 ⟨rfl, rfl⟩
              go_wp2_with fail
              refine Calls.mono (HN2.out _) ?_; rintro e w1 ⟨rfl, rfl⟩
              go_wp2_with fail
              go_ret
              exact ⟨by rw [HE.out]; rfl, HBW.out⟩
            · have g1 : (xt == 1) = false := by simpa using k1
              by_cases k3 : xt = 3
              · subst k3
                go_wp2_with fail
                refine Calls.mono (HN1.out _) ?_; rintro e w1 ⟨rfl, rfl⟩
                go_wp2_with fail
                refine Calls.mono (HN2.out _) ?_; rintro e w1 ⟨rfl, rfl⟩
                go_wp2_with fail
                go_ret
                exact ⟨by rw [HE.out]; rfl, HBW.out⟩
              · have g3 : (xt == 3) = false := by simpa using k3
                by_cases k6 : xt = 6
                · subst k6
                  go_wp2_with fail
                  refine Calls.mono (HN1.out _) ?_; rintro e w1 ⟨rfl, rfl⟩
                  go_wp2_with fail
                  refine Calls.mono (HN2.out _) ?_; rintro e w1 ⟨rfl, rfl⟩
                  go_wp2_with fail
                  go_ret
                  exact ⟨by rw [HE.out]; rfl, HBW.out⟩
                · have g6 : (xt == 6) = false := by simpa using k6
                  by_cases k7 : xt = 7
                  · subst k7
                    go_wp2_with fail
                    refine Calls.mono (HN1.out _) ?_; rintro e w1 ⟨rfl, rfl⟩
                    go_wp2_with fail
                    refine Calls.mono (HN2.out _) ?_; rintro e w1 ⟨rfl, rfl⟩
                    go_wp2_with fail
                    go_ret
                    exact ⟨by rw [HE.out]; rfl, HBW.out⟩
                  · have g7 : (xt == 7) = false := by simpa using k7
                    go_wp2_with fail
                    refine Calls.mono (HN1.out _) ?_; rintro e w1 ⟨rfl, rfl⟩
                    go_wp2_with fail
                    refine Calls.mono (HN2.out _) ?_; rintro e w1 ⟨rfl, rfl⟩
                    go_wp2_with fail
                    go_ret
                    exact ⟨by rw [HE.out]; rfl, HBW.out⟩
        · rw [decide_eq_false q1] at HN1
          have HE : Hid (z = false) := HNO.out (fun e => q1 e.1.2.1)
          by_cases k1 : xt = 1
          · subst k1
            go_wp2_with fail
            refine Calls.mono (HN1.out _) ?_; rintro e w1 ⟨rfl, rfl⟩
            go_wp2_with fail
            go_ret
            exact ⟨by rw [HE.out]; rfl, HBW.out⟩
          · have g1 : (xt == 1) = false := by simpa using k1
            by_cases k3 : xt = 3
            · subst k3
              go_wp2_with fail
              refine Calls.mono (HN1.out _) ?_; rintro e w1 ⟨rfl, rfl⟩
              go_wp2_with fail
              go_ret
              exact ⟨by rw [HE.out]; rfl, HBW.out⟩
            · have g3 : (xt == 3) = false := by simpa using k3
              by_cases k6 : xt = 6
              · subst k6
                go_wp2_with fail
                refine Calls.mono (HN1.out _) ?_; rintro e w1 ⟨rfl, rfl⟩
                go_wp2_with fail
                go_ret
                exact ⟨by rw [HE.out]; rfl, HBW.out⟩
              · have g6 : (xt == 6) = false := by simpa using k6
                by_cases k7 : xt = 7
                · subst k7
                  go_wp2_with fail
                  refine Calls.mono (HN1.out _) ?_; rintro e w1 ⟨rfl, rfl⟩
                  go_wp2_with fail
                  go_ret
                  exact ⟨by rw [HE.out]; rfl, HBW.out⟩
                · have g7 : (xt == 7) = false := by simpa using k7
                  go_wp2_with fail
                  refine Calls.mono (HN1.out _) ?_; rintro e w1 ⟨rfl, rfl⟩
                  go_wp2_with fail
                  go_ret
                  exact ⟨by rw [HE.out]; rfl, HBW.out⟩
      · have HE : Hid (z = false) := HNO.out (fun e => q0 e.1.1)
        have hv : ¬ IntKind.i64.wrap (xi - 1) = (k : Int) := wrap_pred HFI.out.seq (by omega) q0
        obtain ⟨v, hvv⟩ : ∃ v, IntKind.i64.wrap (xi - 1) = v := ⟨_, rfl⟩
        rw [hvv] at hv
        have hvb : (v != (k : Int)) = true := by simpa using hv
        obtain ⟨W2, hW2⟩ : ∃ W2, wr.alloc (.cells #[.int .i64 xi, .string xs, .string xl, .int .i64 xq, .int .i64 xt, .int .i64 xd] 42) = W2 := ⟨_, rfl⟩
        have hB2 : Below wr.heap.size wr W2 := hW2 ▸ below1 _ _
        have hC2 : CellsF W2 wr.heap.size [.int .i64 xi, .string xs, .string xl, .int .i64 xq, .int .i64 xt, .int .i64 xd] := by rw [← hW2]; exact CellsF.at _ 42 (by simp) rfl
        have y0 := hC2.cs 0 _ rfl
        have y1 := hC2.cs 1 _ rfl
        have y2 := hC2.cs 2 _ rfl
        have y3 := hC2.cs 3 _ rfl
        have y4 := hC2.cs 4 _ rfl
        have y5 := hC2.cs 5 _ rfl
        have HB2 : Hid (Below wr.heap.size wr W2) := hB2
        have HBW : Hid (Below w.heap.size w W2) := Below.next (Below.next HB.out HI.out.1) hB2
        have m0' := (HC.out.next (Below.next HI.out.1 hB2)).cs 0 _ rfl
        have m1' := (HC.out.next (Below.next HI.out.1 hB2)).cs 1 _ rfl
        have m2' := (HC.out.next (Below.next HI.out.1 hB2)).cs 2 _ rfl
        have m3' := (HC.out.next (Below.next HI.out.1 hB2)).cs 3 _ rfl
        clear hB2 hC2
        by_cases k1 : xt = 1
        · subst k1
          go_wp2_with fail
          go_ret
          exact ⟨by rw [HE.out]; rfl, HBW.out⟩
        · have g1 : (xt == 1) = false := by simpa using k1
          by_cases k3 : xt = 3
          · subst k3
            go_wp2_with fail
            go_ret
            exact ⟨by rw [HE.out]; rfl, HBW.out⟩
          · have g3 : (xt == 3) = false := by simpa using k3
            by_cases k6 : xt = 6
            · subst k6
              go_wp2_with fail
              go_ret
              exact ⟨by rw [HE.out]; rfl, HBW.out⟩
            · have g6 : (xt == 6) = false := by simpa using k6
              by_cases k7 : xt = 7
              · subst k7
                go_wp2_with fail
                go_ret
                exact ⟨by rw [HE.out]; rfl, HBW.out⟩
              · have g7 : (xt == 7) = false := by simpa using k7
                go_wp2_with fail
                go_ret
                exact ⟨by rw [HE.out]; rfl, HBW.out⟩
    · have hlti : ¬ (k : Int) < (n2 : Int) := by omega
      have HE : Hid (z = true) := by
        show z = true
        rw [← HZ.out]
        exact decide_eq_true (fun i hi => HI.out.2 i hi (by have := HL.out.2.1; omega))
      go_wp2_with fail
      go_ret
      exact ⟨by rw [HE.out]; rfl, Below.next HB.out HI.out.1⟩
end Go.Proofs.Ytbclddgicnaamaa
