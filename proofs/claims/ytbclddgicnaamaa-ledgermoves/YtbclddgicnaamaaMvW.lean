/- LedgerMoves' walk. -/
import Derived.Test.YtbclddgicnaamaaTot
import Derived.Test.YtbclddgicnaamaaPlay
namespace Go.Proofs.Ytbclddgicnaamaa
open Go.ChangeShapes Go.WideShapes Go.RowKit
set_option linter.unusedVariables false
set_option maxRecDepth 100000

set_option maxHeartbeats 8000000 in
theorem moves_is (ap : Option Addr) (n cp : Nat) (l : List Opn) (hl : l.length = n) (hn : n ≤ 9223372036854775807) (hlf : ∀ o, o ∈ l → o.fit) (o : Opn) (hof : o.fit) (w : World) (hro : Rw opv 7 w ap l) :
    Calls Try.prog 6 #[.slice ap n cp, oval o] w fun e w' => e = .returned (.bool true) ∧ Below w.heap.size w w' := by
  obtain ⟨ok, os, ol, ot, oq, oi, od⟩ := o
  show Calls Try.prog 6 #[.slice ap n cp, .agg #[.int .i64 ok, .string os, .string ol, .string ot, .int .i64 oq, .int .i64 oi, .int .i64 od]] w _
  have HAW : Hid (∀ w, Calls Try.prog 10 #[] w fun e w' => e = .returned (.bool true) ∧ Below w.heap.size w w') := awake_is
  have HPL : Hid (∀ w', Below w.heap.size w w' → Calls Try.prog 19 #[.slice ap n cp, .int .i64 20] w' fun e w'' => ∃ a0 an0 ac0 a1 an1 ac1 a2 an2 ac2 L, e = .returned (.tuple #[.agg #[.slice a0 an0 ac0, .slice a1 an1 ac1, .slice a2 an2 ac2, .int .i64 L.ops], .bool true]) ∧ Have w'' a0 an0 ac0 a1 an1 ac1 a2 an2 ac2 L ∧ Below w'.heap.size w' w'' ∧ mayL L ∧ L.fit ∧ Few 20 L) := fun w' b => play_is ap n cp l hl hn hlf w' (hro.next opv_ne b)
  obtain ⟨W, hW⟩ : ∃ W, w.alloc (.cells #[.int .i64 ok, .string os, .string ol, .string ot, .int .i64 oq, .int .i64 oi, .int .i64 od] 28) = W := ⟨_, rfl⟩
  have HOB : Hid (CellsF W w.heap.size [.int .i64 ok, .string os, .string ol, .string ot, .int .i64 oq, .int .i64 oi, .int .i64 od] ∧ Below w.heap.size w W) := by show _ ∧ _; rw [← hW]; exact ⟨CellsF.at _ 28 (by simp) rfl, below1 _ _⟩
  have HOF : Hid (Opn.fit ⟨ok, os, ol, ot, oq, oi, od⟩) := hof
  clear hl hlf hro hof
  go_enter Try.func6, Try.ntmps6
  go_wp2_with fail
  try rw [hW]
  refine Calls.mono (HPL.out _ HOB.out.2) ?_; rintro e w1 ⟨a0, an0, ac0, a1, an1, ac1, a2, an2, ac2, L, rfl, hv, k1, hm, hf, hfew⟩
  clear hW
  obtain ⟨err, herr⟩ : ∃ err, doE L ⟨ok, os, ol, ot, oq, oi, od⟩ = err := ⟨_, rfl⟩
  obtain ⟨N, hN⟩ : ∃ N, apL L ⟨ok, os, ol, ot, oq, oi, od⟩ = N := ⟨_, rfl⟩
  have HAP : Hid (∀ w', Have w' a0 an0 ac0 a1 an1 ac1 a2 an2 ac2 L → Calls Try.prog 11 #[.agg #[.slice a0 an0 ac0, .slice a1 an1 ac1, .slice a2 an2 ac2, .int .i64 L.ops], .agg #[.int .i64 ok, .string os, .string ol, .string ot, .int .i64 oq, .int .i64 oi, .int .i64 od]] w' fun e w'' => ∃ d0 dn0 dc0 d1 dn1 dc1 d2 dn2 dc2, e = .returned (.tuple #[.agg #[.slice d0 dn0 dc0, .slice d1 dn1 dc1, .slice d2 dn2 dc2, .int .i64 N.ops], .int .i64 err]) ∧ Near w'.heap.size w''.heap.size w'' d0 dn0 dc0 d1 dn1 dc1 d2 dn2 dc2 N ∧ Below w'.heap.size w' w'') := fun w' h => by
    have := h.applied2 hm hf ⟨ok, os, ol, ot, oq, oi, od⟩ HOF.out
    rw [hN, herr] at this
    exact this
  have HMY : Hid (mayL L ∧ L.fit ∧ mayL N ∧ N.fit) := by
    have := apL_may hm hf HOF.out
    rw [hN] at this
    exact ⟨hm, hf, this.1, this.2⟩
  have HER : Hid (doE L ⟨ok, os, ol, ot, oq, oi, od⟩ = err) := herr
  have HNL : Hid (apL L ⟨ok, os, ol, ot, oq, oi, od⟩ = N) := hN
  obtain ⟨W1, hW1⟩ : ∃ W1, w1.alloc (.cells #[.slice a0 an0 ac0, .slice a1 an1 ac1, .slice a2 an2 ac2, .int .i64 L.ops] 26) = W1 := ⟨_, rfl⟩
  obtain ⟨B1, hB1⟩ : ∃ B1, w1.heap.size = B1 := ⟨_, rfl⟩
  have HF1 : Hid (CellsF W1 w.heap.size [.int .i64 ok, .string os, .string ol, .string ot, .int .i64 oq, .int .i64 oi, .int .i64 od] ∧ CellsF W1 B1 [.slice a0 an0 ac0, .slice a1 an1 ac1, .slice a2 an2 ac2, .int .i64 L.ops] ∧ Have W1 a0 an0 ac0 a1 an1 ac1 a2 an2 ac2 L ∧ Below w.heap.size w W1) := by
    show _ ∧ _
    rw [← hW1, ← hB1]
    exact ⟨(HOB.out.1.next k1).next (below1 _ _), CellsF.at _ 26 (by simp) rfl, hv.next (below1 _ _), Below.next (Below.next HOB.out.2 k1) (below1 _ _)⟩
  clear hv k1 hm hf hfew herr hN HOB HPL
  have c0 := (HF1.out.1).cs 0 _ rfl
  have c1 := (HF1.out.1).cs 1 _ rfl
  have c2 := (HF1.out.1).cs 2 _ rfl
  have c3 := (HF1.out.1).cs 3 _ rfl
  have c4 := (HF1.out.1).cs 4 _ rfl
  have c5 := (HF1.out.1).cs 5 _ rfl
  have c6 := (HF1.out.1).cs 6 _ rfl
  have l0 := (HF1.out.2.1).cs 0 _ rfl
  have l1 := (HF1.out.2.1).cs 1 _ rfl
  have l2 := (HF1.out.2.1).cs 2 _ rfl
  have l3 := (HF1.out.2.1).cs 3 _ rfl
  go_wp2_with fail
  refine Calls.mono (HAP.out _ HF1.out.2.2.1) ?_; rintro e w2 ⟨d0, dn0, dc0, d1, dn1, dc1, d2, dn2, dc2, rfl, hv2, k2⟩
  obtain ⟨W2, hW2⟩ : ∃ W2, w2.alloc (.cells #[.slice d0 dn0 dc0, .slice d1 dn1 dc1, .slice d2 dn2 dc2, .int .i64 N.ops] 26) = W2 := ⟨_, rfl⟩
  obtain ⟨B2, hB2⟩ : ∃ B2, w2.heap.size = B2 := ⟨_, rfl⟩
  have HF2 : Hid (CellsF W2 w.heap.size [.int .i64 ok, .string os, .string ol, .string ot, .int .i64 oq, .int .i64 oi, .int .i64 od] ∧ CellsF W2 B1 [.slice a0 an0 ac0, .slice a1 an1 ac1, .slice a2 an2 ac2, .int .i64 L.ops] ∧ CellsF W2 B2 [.slice d0 dn0 dc0, .slice d1 dn1 dc1, .slice d2 dn2 dc2, .int .i64 N.ops] ∧ Have W2 a0 an0 ac0 a1 an1 ac1 a2 an2 ac2 L ∧ Have W2 d0 dn0 dc0 d1 dn1 dc1 d2 dn2 dc2 N ∧ Below w.heap.size w W2) := by
    show _ ∧ _
    rw [← hW2, ← hB2]
    exact ⟨(HF1.out.1.next k2).next (below1 _ _), (HF1.out.2.1.next k2).next (below1 _ _), CellsF.at _ 26 (by simp) rfl, (HF1.out.2.2.1.next k2).next (below1 _ _), hv2.here.next (below1 _ _), Below.next (Below.next HF1.out.2.2.2 k2) (below1 _ _)⟩
  clear c0 c1 c2 c3 c4 c5 c6 l0 l1 l2 l3 hv2 k2 HAP HF1 hW1 hB1
  have c0 := (HF2.out.1).cs 0 _ rfl
  have c1 := (HF2.out.1).cs 1 _ rfl
  have c2 := (HF2.out.1).cs 2 _ rfl
  have c3 := (HF2.out.1).cs 3 _ rfl
  have c4 := (HF2.out.1).cs 4 _ rfl
  have c5 := (HF2.out.1).cs 5 _ rfl
  have c6 := (HF2.out.1).cs 6 _ rfl
  have l0 := (HF2.out.2.1).cs 0 _ rfl
  have l1 := (HF2.out.2.1).cs 1 _ rfl
  have l2 := (HF2.out.2.1).cs 2 _ rfl
  have l3 := (HF2.out.2.1).cs 3 _ rfl
  have m0 := (HF2.out.2.2.1).cs 0 _ rfl
  have m1 := (HF2.out.2.2.1).cs 1 _ rfl
  have m2 := (HF2.out.2.2.1).cs 2 _ rfl
  have m3 := (HF2.out.2.2.1).cs 3 _ rfl
  by_cases he : err = 0
  · subst he
    have HND : Hid (N = doL L ⟨ok, os, ol, ot, oq, oi, od⟩) := by show N = _; rw [← HNL.out]; unfold apL; rw [HER.out, if_pos rfl]
    have HLN : Hid (L.S.length = an0 ∧ L.M.length = an2 ∧ N.S.length = dn0 ∧ N.M.length = dn2 ∧ an0 ≤ 4096 ∧ dn0 ≤ 4096) := by
      have h1 := lens HMY.out.1
      have h2 := lens HMY.out.2.2.1
      have h3 := HF2.out.2.2.2.1
      have h4 := HF2.out.2.2.2.2.1
      have := h3.h0; have := h4.h0
      exact ⟨h3.h0, h3.h2, h4.h0, h4.h2, by omega, by omega⟩
    obtain ⟨tv, htv⟩ : ∃ tv, vl (tot L.S os) = tv := ⟨_, rfl⟩
    obtain ⟨tb, htb⟩ : ∃ tb, (er (tot L.S os) == 0) = tb := ⟨_, rfl⟩
    obtain ⟨uv, huv⟩ : ∃ uv, vl (tot N.S os) = uv := ⟨_, rfl⟩
    obtain ⟨ub, hub⟩ : ∃ ub, (er (tot N.S os) == 0) = ub := ⟨_, rfl⟩
    have HT1 : Hid (∀ w', Have w' a0 an0 ac0 a1 an1 ac1 a2 an2 ac2 L → Calls Try.prog 20 #[.agg #[.slice a0 an0 ac0, .slice a1 an1 ac1, .slice a2 an2 ac2, .int .i64 L.ops], .string os] w' fun e w'' => e = .returned (.tuple #[.int .i64 tv, .bool tb]) ∧ Below w'.heap.size w' w'') := fun w' h => by
      have := total_is a0 an0 ac0 a1 an1 ac1 a2 an2 ac2 L.ops L h.h0 HLN.out.2.2.2.2.1 HMY.out.2.1 os w' h.li.S
      rw [htv, htb] at this
      exact this
    have HT2 : Hid (∀ w', Have w' d0 dn0 dc0 d1 dn1 dc1 d2 dn2 dc2 N → Calls Try.prog 20 #[.agg #[.slice d0 dn0 dc0, .slice d1 dn1 dc1, .slice d2 dn2 dc2, .int .i64 N.ops], .string os] w' fun e w'' => e = .returned (.tuple #[.int .i64 uv, .bool ub]) ∧ Below w'.heap.size w' w'') := fun w' h => by
      have := total_is d0 dn0 dc0 d1 dn1 dc1 d2 dn2 dc2 N.ops N h.h0 HLN.out.2.2.2.2.2 HMY.out.2.2.2 os w' h.li.S
      rw [huv, hub] at this
      exact this
    have HTT : Hid (ok = 6 → uv = tv ∧ ub = tb) := fun h6 => by
      have h7 : tot N.S os = tot L.S os := by rw [HND.out]; exact tot_transfer HMY.out.1 h6 os
      rw [h7] at huv hub
      exact ⟨huv.symm.trans htv, hub.symm.trans htb⟩
    clear htv htb huv hub
    go_wp2_with fail
    refine Calls.mono (HT1.out _ HF2.out.2.2.2.1) ?_; rintro e w3 ⟨rfl, k3⟩
    have HF3 : Hid (CellsF w3 w.heap.size [.int .i64 ok, .string os, .string ol, .string ot, .int .i64 oq, .int .i64 oi, .int .i64 od] ∧ CellsF w3 B1 [.slice a0 an0 ac0, .slice a1 an1 ac1, .slice a2 an2 ac2, .int .i64 L.ops] ∧ CellsF w3 B2 [.slice d0 dn0 dc0, .slice d1 dn1 dc1, .slice d2 dn2 dc2, .int .i64 N.ops] ∧ Have w3 a0 an0 ac0 a1 an1 ac1 a2 an2 ac2 L ∧ Have w3 d0 dn0 dc0 d1 dn1 dc1 d2 dn2 dc2 N ∧ Below w.heap.size w w3) := ⟨HF2.out.1.next k3, HF2.out.2.1.next k3, HF2.out.2.2.1.next k3, HF2.out.2.2.2.1.next k3, HF2.out.2.2.2.2.1.next k3, Below.next HF2.out.2.2.2.2.2 k3⟩
    clear c0 c1 c2 c3 c4 c5 c6 l0 l1 l2 l3 m0 m1 m2 m3 k3 HT1 HF2 hW2 hB2
    have c0 := (HF3.out.1).cs 0 _ rfl
    have c1 := (HF3.out.1).cs 1 _ rfl
    have c2 := (HF3.out.1).cs 2 _ rfl
    have c3 := (HF3.out.1).cs 3 _ rfl
    have c4 := (HF3.out.1).cs 4 _ rfl
    have c5 := (HF3.out.1).cs 5 _ rfl
    have c6 := (HF3.out.1).cs 6 _ rfl
    have l0 := (HF3.out.2.1).cs 0 _ rfl
    have l1 := (HF3.out.2.1).cs 1 _ rfl
    have l2 := (HF3.out.2.1).cs 2 _ rfl
    have l3 := (HF3.out.2.1).cs 3 _ rfl
    have m0 := (HF3.out.2.2.1).cs 0 _ rfl
    have m1 := (HF3.out.2.2.1).cs 1 _ rfl
    have m2 := (HF3.out.2.2.1).cs 2 _ rfl
    have m3 := (HF3.out.2.2.1).cs 3 _ rfl
    go_wp2_with fail
    refine Calls.mono (HT2.out _ HF3.out.2.2.2.2.1) ?_; rintro e w4 ⟨rfl, k4⟩
    have HF4 : Hid (CellsF w4 w.heap.size [.int .i64 ok, .string os, .string ol, .string ot, .int .i64 oq, .int .i64 oi, .int .i64 od] ∧ CellsF w4 B1 [.slice a0 an0 ac0, .slice a1 an1 ac1, .slice a2 an2 ac2, .int .i64 L.ops] ∧ CellsF w4 B2 [.slice d0 dn0 dc0, .slice d1 dn1 dc1, .slice d2 dn2 dc2, .int .i64 N.ops] ∧ Have w4 a0 an0 ac0 a1 an1 ac1 a2 an2 ac2 L ∧ Have w4 d0 dn0 dc0 d1 dn1 dc1 d2 dn2 dc2 N ∧ Below w.heap.size w w4) := ⟨HF3.out.1.next k4, HF3.out.2.1.next k4, HF3.out.2.2.1.next k4, HF3.out.2.2.2.1.next k4, HF3.out.2.2.2.2.1.next k4, Below.next HF3.out.2.2.2.2.2 k4⟩
    clear c0 c1 c2 c3 c4 c5 c6 l0 l1 l2 l3 m0 m1 m2 m3 k4 HT2 HF3
    have c0 := (HF4.out.1).cs 0 _ rfl
    have c1 := (HF4.out.1).cs 1 _ rfl
    have c2 := (HF4.out.1).cs 2 _ rfl
    have c3 := (HF4.out.1).cs 3 _ rfl
    have c4 := (HF4.out.1).cs 4 _ rfl
    have c5 := (HF4.out.1).cs 5 _ rfl
    have c6 := (HF4.out.1).cs 6 _ rfl
    have l0 := (HF4.out.2.1).cs 0 _ rfl
    have l1 := (HF4.out.2.1).cs 1 _ rfl
    have l2 := (HF4.out.2.1).cs 2 _ rfl
    have l3 := (HF4.out.2.1).cs 3 _ rfl
    have m0 := (HF4.out.2.2.1).cs 0 _ rfl
    have m1 := (HF4.out.2.2.1).cs 1 _ rfl
    have m2 := (HF4.out.2.2.1).cs 2 _ rfl
    have m3 := (HF4.out.2.2.1).cs 3 _ rfl
    by_cases k6 : ok = 6
    · obtain ⟨hu1, hu2⟩ := HTT.out k6
      subst hu1 hu2
      subst k6
      cases ub
      · go_wp2_with fail
        refine Calls.mono (HAW.out _) ?_; rintro e w9 ⟨rfl, k9⟩
        have HF9 : Hid (Below w.heap.size w w9) := Below.next HF4.out.2.2.2.2.2 k9
        clear k9
        go_wp2_with fail
        go_ret
        exact ⟨rfl, HF9.out⟩
      · go_wp2_with fail
        refine Calls.mono (HAW.out _) ?_; rintro e w9 ⟨rfl, k9⟩
        have HF9 : Hid (Below w.heap.size w w9) := Below.next HF4.out.2.2.2.2.2 k9
        clear k9
        go_wp2_with fail
        go_ret
        exact ⟨rfl, HF9.out⟩
    · have g6 : (ok == 6) = false := by simpa using k6
      by_cases k2 : ok = 2
      · have HK : Hid (ok = 2) := k2
        have HSM : Hid _ := hold_same HMY.out.1 HMY.out.2.1 HER.out (by show ok = 2 ∨ ok = 4 ∨ ok = 5; omega)
        have HSO : Hid (SameOn L.S N.S ∧ N.M = L.M) := by show _ ∧ _; rw [HND.out]; exact HSM.out
        obtain rfl : an0 = dn0 := by have := HSO.out.1.len; have := HLN.out; omega
        obtain rfl : an2 = dn2 := by have := congrArg List.length HSO.out.2; have := HLN.out; omega
        have HSO : Hid (SameOn L.S N.S) := HSO.out.1
        subst k2
        go_wp2_with fail
        clear c0 c1 c2 c3 c4 c5 c6 l0 l1 l2 l3 m0 m1 m2 m3
        go_loopw [13] (fun vj wr => ∃ j : Nat, j ≤ an0 ∧ vj = .int .i64 j ∧ Hid (Below w4.heap.size w4 wr))
          (fun vj _ => an0 - (intOf vj).toNat)
        case atStart => exact ⟨0, Nat.zero_le _, rfl, Below.refl _ _⟩
        case round =>
          obtain ⟨j, hj, rfl, HJ⟩ := hrel
          have hb4 : an0 ≤ 4096 := by have := HLN.out; omega
          have r0 := (HF4.out.2.1.next HJ.out).cs 0 _ rfl
          have s0 := (HF4.out.2.2.1.next HJ.out).cs 0 _ rfl
          by_cases hjl : j < an0
          · have hji : (j : Int) < (an0 : Int) := by omega
            have q1 : j < L.S.length := by have := HLN.out; omega
            have q2 : j < N.S.length := by have := HLN.out; omega
            have hse : N.S[j].on = L.S[j].on := HSO.out.on j q1 q2
            obtain ⟨b1', o1, ha, hb1, hc1⟩ := HF4.out.2.2.2.1.li.S.stk (fun e => by rw [e] at q1; simp at q1)
            obtain ⟨b2', o2, hd, hb2, hc2⟩ := HF4.out.2.2.2.2.1.li.S.stk (fun e => by rw [e] at q2; simp at q2)
            have f2 := ((hc1 j q1).next (HJ.out.block b1' hb1)).c2
            have e2 := ((hc2 j q2).next (HJ.out.block b2' hb2)).c2
            rw [hse] at e2
            rw [ha] at r0
            rw [hd] at s0
            generalize L.S[j].on = xo at f2 e2
            clear hc1 hc2 hse hb1 hb2 ha hd
            have HJD : Hid (∀ n, Below w4.heap.size w4 (wr.drewN n)) := fun n => ⟨HJ.out.os, HJ.out.tape, HJ.out.output, HJ.out.size, HJ.out.block⟩
            go_wp2_with fail
            go_quiet (fail)
            go_wp2_with fail
            go_roundw
            case rel => exact ⟨j + 1, by omega, by go_num, HJD.out _⟩
            case measure => simp [intOf]; omega
          · have hji : ¬ (j : Int) < (an0 : Int) := by omega
            have HFJ : Hid (Below w.heap.size w wr) := Below.next HF4.out.2.2.2.2.2 HJ.out
            go_wp2_with fail
            refine Calls.mono (HAW.out _) ?_; rintro e w9 ⟨rfl, k9⟩
            have HF9 : Hid (Below w.heap.size w w9) := Below.next HFJ.out k9
            clear k9
            go_wp2_with fail
            go_ret
            exact ⟨rfl, HF9.out⟩
      · have g2 : (ok == 2) = false := by simpa using k2
        by_cases k4 : ok = 4
        · have HK : Hid (ok = 4) := k4
          have HSM : Hid _ := hold_same HMY.out.1 HMY.out.2.1 HER.out (by show ok = 2 ∨ ok = 4 ∨ ok = 5; omega)
          have HSO : Hid (SameOn L.S N.S ∧ N.M = L.M) := by show _ ∧ _; rw [HND.out]; exact HSM.out
          obtain rfl : an0 = dn0 := by have := HSO.out.1.len; have := HLN.out; omega
          obtain rfl : an2 = dn2 := by have := congrArg List.length HSO.out.2; have := HLN.out; omega
          have HSO : Hid (SameOn L.S N.S) := HSO.out.1
          subst k4
          go_wp2_with fail
          clear c0 c1 c2 c3 c4 c5 c6 l0 l1 l2 l3 m0 m1 m2 m3
          go_loopw [13] (fun vj wr => ∃ j : Nat, j ≤ an0 ∧ vj = .int .i64 j ∧ Hid (Below w4.heap.size w4 wr))
            (fun vj _ => an0 - (intOf vj).toNat)
          case atStart => exact ⟨0, Nat.zero_le _, rfl, Below.refl _ _⟩
          case round =>
            obtain ⟨j, hj, rfl, HJ⟩ := hrel
            have hb4 : an0 ≤ 4096 := by have := HLN.out; omega
            have r0 := (HF4.out.2.1.next HJ.out).cs 0 _ rfl
            have s0 := (HF4.out.2.2.1.next HJ.out).cs 0 _ rfl
            by_cases hjl : j < an0
            · have hji : (j : Int) < (an0 : Int) := by omega
              have q1 : j < L.S.length := by have := HLN.out; omega
              have q2 : j < N.S.length := by have := HLN.out; omega
              have hse : N.S[j].on = L.S[j].on := HSO.out.on j q1 q2
              obtain ⟨b1', o1, ha, hb1, hc1⟩ := HF4.out.2.2.2.1.li.S.stk (fun e => by rw [e] at q1; simp at q1)
              obtain ⟨b2', o2, hd, hb2, hc2⟩ := HF4.out.2.2.2.2.1.li.S.stk (fun e => by rw [e] at q2; simp at q2)
              have f2 := ((hc1 j q1).next (HJ.out.block b1' hb1)).c2
              have e2 := ((hc2 j q2).next (HJ.out.block b2' hb2)).c2
              rw [hse] at e2
              rw [ha] at r0
              rw [hd] at s0
              generalize L.S[j].on = xo at f2 e2
              clear hc1 hc2 hse hb1 hb2 ha hd
              have HJD : Hid (∀ n, Below w4.heap.size w4 (wr.drewN n)) := fun n => ⟨HJ.out.os, HJ.out.tape, HJ.out.output, HJ.out.size, HJ.out.block⟩
              go_wp2_with fail
              go_quiet (fail)
              go_wp2_with fail
              go_roundw
              case rel => exact ⟨j + 1, by omega, by go_num, HJD.out _⟩
              case measure => simp [intOf]; omega
            · have hji : ¬ (j : Int) < (an0 : Int) := by omega
              have HFJ : Hid (Below w.heap.size w wr) := Below.next HF4.out.2.2.2.2.2 HJ.out
              go_wp2_with fail
              refine Calls.mono (HAW.out _) ?_; rintro e w9 ⟨rfl, k9⟩
              have HF9 : Hid (Below w.heap.size w w9) := Below.next HFJ.out k9
              clear k9
              go_wp2_with fail
              go_ret
              exact ⟨rfl, HF9.out⟩
        · have g4 : (ok == 4) = false := by simpa using k4
          by_cases k5 : ok = 5
          · have HK : Hid (ok = 5) := k5
            have HSM : Hid _ := hold_same HMY.out.1 HMY.out.2.1 HER.out (by show ok = 2 ∨ ok = 4 ∨ ok = 5; omega)
            have HSO : Hid (SameOn L.S N.S ∧ N.M = L.M) := by show _ ∧ _; rw [HND.out]; exact HSM.out
            obtain rfl : an0 = dn0 := by have := HSO.out.1.len; have := HLN.out; omega
            obtain rfl : an2 = dn2 := by have := congrArg List.length HSO.out.2; have := HLN.out; omega
            have HSO : Hid (SameOn L.S N.S) := HSO.out.1
            subst k5
            go_wp2_with fail
            clear c0 c1 c2 c3 c4 c5 c6 l0 l1 l2 l3 m0 m1 m2 m3
            go_loopw [13] (fun vj wr => ∃ j : Nat, j ≤ an0 ∧ vj = .int .i64 j ∧ Hid (Below w4.heap.size w4 wr))
              (fun vj _ => an0 - (intOf vj).toNat)
            case atStart => exact ⟨0, Nat.zero_le _, rfl, Below.refl _ _⟩
            case round =>
              obtain ⟨j, hj, rfl, HJ⟩ := hrel
              have hb4 : an0 ≤ 4096 := by have := HLN.out; omega
              have r0 := (HF4.out.2.1.next HJ.out).cs 0 _ rfl
              have s0 := (HF4.out.2.2.1.next HJ.out).cs 0 _ rfl
              by_cases hjl : j < an0
              · have hji : (j : Int) < (an0 : Int) := by omega
                have q1 : j < L.S.length := by have := HLN.out; omega
                have q2 : j < N.S.length := by have := HLN.out; omega
                have hse : N.S[j].on = L.S[j].on := HSO.out.on j q1 q2
                obtain ⟨b1', o1, ha, hb1, hc1⟩ := HF4.out.2.2.2.1.li.S.stk (fun e => by rw [e] at q1; simp at q1)
                obtain ⟨b2', o2, hd, hb2, hc2⟩ := HF4.out.2.2.2.2.1.li.S.stk (fun e => by rw [e] at q2; simp at q2)
                have f2 := ((hc1 j q1).next (HJ.out.block b1' hb1)).c2
                have e2 := ((hc2 j q2).next (HJ.out.block b2' hb2)).c2
                rw [hse] at e2
                rw [ha] at r0
                rw [hd] at s0
                generalize L.S[j].on = xo at f2 e2
                clear hc1 hc2 hse hb1 hb2 ha hd
                have HJD : Hid (∀ n, Below w4.heap.size w4 (wr.drewN n)) := fun n => ⟨HJ.out.os, HJ.out.tape, HJ.out.output, HJ.out.size, HJ.out.block⟩
                go_wp2_with fail
                go_quiet (fail)
                go_wp2_with fail
                go_roundw
                case rel => exact ⟨j + 1, by omega, by go_num, HJD.out _⟩
                case measure => simp [intOf]; omega
              · have hji : ¬ (j : Int) < (an0 : Int) := by omega
                have HFJ : Hid (Below w.heap.size w wr) := Below.next HF4.out.2.2.2.2.2 HJ.out
                go_wp2_with fail
                refine Calls.mono (HAW.out _) ?_; rintro e w9 ⟨rfl, k9⟩
                have HF9 : Hid (Below w.heap.size w w9) := Below.next HFJ.out k9
                clear k9
                go_wp2_with fail
                go_ret
                exact ⟨rfl, HF9.out⟩
          · have g5 : (ok == 5) = false := by simpa using k5
            go_wp2_with fail
            refine Calls.mono (HAW.out _) ?_; rintro e w9 ⟨rfl, k9⟩
            have HF9 : Hid (Below w.heap.size w w9) := Below.next HF4.out.2.2.2.2.2 k9
            clear k9
            go_wp2_with fail
            go_ret
            exact ⟨rfl, HF9.out⟩
  · have heb : (err != 0) = true := by simpa using he
    go_wp2_with fail
    refine Calls.mono (HAW.out _) ?_; rintro e w9 ⟨rfl, k9⟩
    have HF9 : Hid (Below w.heap.size w w9) := Below.next HF2.out.2.2.2.2.2 k9
    clear k9
    go_wp2_with fail
    go_ret
    exact ⟨rfl, HF9.out⟩
end Go.Proofs.Ytbclddgicnaamaa
