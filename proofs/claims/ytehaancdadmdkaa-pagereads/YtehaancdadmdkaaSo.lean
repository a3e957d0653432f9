/- sound, of any bytes. -/
import Derived.Test.YtehaancdadmdkaaLo
namespace Go.Proofs.Ytehaancdadmdkaa
open Go.ChangeShapes Go.WideShapes Go.ChangeAt Go.RowKit
set_option linter.unusedVariables false
set_option maxRecDepth 100000

theorem wrapi_of (y : Int) (h : -1000 ≤ y ∧ y ≤ 1000) : IntKind.i64.wrap y = y := by rw [IntKind.wrap_i64]; omega

/-- Bytes that are those of cells. -/
def Cells (B : List UInt8) : Prop := ∃ cs, okC cs ∧ ris cs ∧ B = lay (UInt8.ofNat (byteAt B 0)) cs
set_option maxHeartbeats 4000000 in
theorem sound_gen {w : World} {p : Nat} {B : List UInt8} (h : Pg w p B) (h4 : (B.drop 4).take 4 = zs 4) : Calls Try.prog 39 #[.pointer (some ⟨p, 0, none⟩)] w fun e w' => TellE (Cells B) w e w' := by
  have hel := endB_le B (byteAt B 1)
  have hnl := byteAt_lt B 1
  have hb2 := byteAt_lt B 2
  have hb3 := byteAt_lt B 3
  obtain ⟨n, hn⟩ : ∃ n, byteAt B 1 = n := ⟨_, rfl⟩
  obtain ⟨en, hen⟩ : ∃ en, endB B n = en := ⟨_, rfl⟩
  obtain ⟨us, hus⟩ : ∃ us, byteAt B 2 + byteAt B 3 * 256 = us := ⟨_, rfl⟩
  obtain ⟨pn, hpn⟩ : ∃ pn, 8 + 2 * n = pn := ⟨_, rfl⟩
  rw [hn] at hnl
  rw [hn, hen] at hel
  have H19 : Hid (∀ z, Calls Try.prog 19 #[.pointer (some ⟨p, 0, none⟩)] (w.drewN z) fun e w' => e = .returned (.int .i64 (n : Int)) ∧ ∃ m, w' = (w.drewN z).drewN m) := fun z => by have := len_is (h.dr z); rw [hn] at this; exact this
  have H58 : Hid (∀ z, Calls Try.prog 58 #[.int .i64 (n : Int)] (w.drewN z) fun e w' => e = .returned (.int .i64 (pn : Int)) ∧ ∃ m, w' = (w.drewN z).drewN m) := fun z => by have := placeOf_is n (by omega) (w.drewN z); rw [hpn] at this; exact this
  by_cases c0 : (256 : Int) < (pn : Int)
  · clear h h4 hel hnl hb2 hb3 hn hen hus hpn
    rw [drewN0 w]
    go_enter Try.func39, Try.ntmps39
    go_wp2_with fail
    refine Calls.mono (H19.out _) ?_; rintro e w1 ⟨rfl, m1, rfl⟩
    go_wp2_with fail
    refine Calls.mono (H58.out _) ?_; rintro e w1 ⟨rfl, m2, rfl⟩
    go_wp2_with fail
    go_ret
    exact ⟨false, rfl, (fun e => nomatch e), _, rfl⟩
  · obtain ⟨R, hR⟩ : ∃ R : Int, (en : Int) - (pn : Int) = R := ⟨_, rfl⟩
    have H48 : Hid (∀ z, Calls Try.prog 48 #[.pointer (some ⟨p, 0, none⟩)] (w.drewN z) fun e w' => e = .returned (.int .i64 R) ∧ ∃ m, w' = (w.drewN z).drewN m) := fun z => by have := room_is (h.dr z) (by rw [hn]; omega); rw [hn, hen, hpn, hR] at this; exact this
    have H47 : Hid (∀ z, Calls Try.prog 47 #[.pointer (some ⟨p, 0, none⟩)] (w.drewN z) fun e w' => e = .returned (.int .i64 (us : Int)) ∧ ∃ m, w' = (w.drewN z).drewN m) := fun z => by have := used_is (h.dr z); rw [hus] at this; exact this
    have H43 : Hid (∀ z, Calls Try.prog 43 #[.pointer (some ⟨p, 0, none⟩), .int .i64 (n : Int)] (w.drewN z) fun e w' => e = .returned (.int .i64 (en : Int)) ∧ ∃ m, w' = (w.drewN z).drewN m) := fun z => by have := end_is (h.dr z) n (by omega); rw [hen] at this; exact this
    have HSC : Hid (∀ (m k : Nat), k < n → (k = 0 ∨ CK B (k - 1)) → Calls Try.prog 59 #[.pointer (some ⟨p, 0, none⟩), .int .i64 (k : Int)] (w.drewN m) fun e w' => TellE (CK B k) (w.drewN m) e w') := fun m k hk hc => soundCell_gen (h.dr m) k (by omega) (hc.imp id (fun q => by have := q.2.2.1; have := endB_le B (k - 1); omega))
    have HZG : Hid (∀ (z L o c : Nat), pn + L = en → offB pn = o → Calls Try.prog 60 #[.slice (some ⟨p, o, none⟩) L c] (w.drewN z) fun e w' => TellE (∀ i, pn ≤ i → i < en → byteAt B i = 0) (w.drewN z) e w') := fun z L o c q1 q2 => noughts_gen (h.dr z) pn en L o c q1 hel q2
    have HZY : Hid (∀ (z L o c : Nat), pn + L = en → offB pn = o → (∀ i, pn ≤ i → i < en → byteAt B i = 0) → Calls Try.prog 60 #[.slice (some ⟨p, o, none⟩) L c] (w.drewN z) fun e w' => e = .returned (.bool true) ∧ ∃ j, w' = (w.drewN z).drewN j) := fun z L o c q1 q2 q3 => noughts_yes (h.dr z) pn en L o c q1 hel q2 q3
    have HLAY : Hid ((∀ j, j < n → CK B j) → pn ≤ en → us = 256 - en → (∀ i, pn ≤ i → i < en → byteAt B i = 0) → Cells B) := fun q1 q2 q3 q4 => by
      obtain ⟨r1, r2, r3⟩ := lay_of B h.len h4 n hn (by omega) q1 (by omega) (by rw [hus, hen]; exact q3) (fun i i1 i2 => q4 i (by omega) (by omega))
      exact ⟨_, r1, r2, r3⟩
    have hnb : (n : Int) ≤ 1000 := by omega
    have HRE : Hid ((en : Int) - (pn : Int) = R ∧ en ≤ 256 ∧ pn ≤ 256) := ⟨hR, hel, by omega⟩
    obtain ⟨un, hun⟩ : ∃ un : Int, 256 - (en : Int) = un := ⟨_, rfl⟩
    have s1 : IntKind.i64.wrap (256 - (en : Int)) = un := by rw [hun]; exact wrapi_of _ (by omega)
    have HUN : Hid (256 - (en : Int) = un) := hun
    have HSL : Hid (pn ≤ en → ∀ W : World, (Instr.sliceAt 56 (.pointer (some ⟨p, 0, none⟩)) (some (.int .i64 (pn : Int))) (some (.int .i64 (en : Int))) none).run Try.prog W = .ok (.slice (some ⟨p, offB pn, none⟩) (en - pn) (256 - pn)) W) := fun q W => page_lh W p pn en q hel
    clear h h4 hel hnl hb2 hb3 hn hen hus hpn hR hun
    rw [drewN0 w]
    go_enter Try.func39, Try.ntmps39
    go_wp2_with fail
    refine Calls.mono (H19.out _) ?_; rintro e w1 ⟨rfl, m1, rfl⟩
    go_wp2_with fail
    refine Calls.mono (H58.out _) ?_; rintro e w1 ⟨rfl, m2, rfl⟩
    go_wp2_with fail
    go_loopw [11] (fun v11 wr => ∃ k m : Nat, k ≤ n ∧ v11 = .int .i64 k ∧ wr = w.drewN m ∧ Hid (∀ j, j < k → CK B j)) (fun v11 _ => n - (intOf v11).toNat)
    case atStart => exact ⟨0, m1 + m2, Nat.zero_le _, rfl, rfl, fun j hj => absurd hj (Nat.not_lt_zero _)⟩
    case round =>
      obtain ⟨k, m, hk, rfl, rfl, HI⟩ := hrel
      by_cases hlt : k < n
      · have d1 : (k : Int) < (n : Int) := by omega
        have HC : Hid (Calls Try.prog 59 #[.pointer (some ⟨p, 0, none⟩), .int .i64 (k : Int)] (w.drewN m) fun e w' => TellE (CK B k) (w.drewN m) e w') := HSC.out m k hlt (by
          rcases Nat.eq_zero_or_pos k with q | q
          · exact .inl q
          · exact .inr (HI.out (k - 1) (by omega)))
        have hkb : (k : Int) + 1 ≤ 1001 := by omega
        go_wp2_with fail
        refine Calls.mono HC.out ?_; rintro e w3 ⟨bb, rfl, hq, m3, rfl⟩
        cases bb with
        | true =>
          have HI2 : Hid (∀ j, j < k + 1 → CK B j) := fun j hj => by
            rcases Nat.lt_or_eq_of_le (Nat.lt_succ_iff.1 hj) with q | q
            · exact HI.out j q
            · subst q; exact hq rfl
          clear HC hq HI
          go_wp2_with fail
          go_roundw
          case rel => exact ⟨k + 1, m + m3, hlt, by rw [Int.natCast_add]; rfl, by first | rfl | rw [World.drewN_drewN], HI2.out⟩
          case measure => simp only [intOf]; omega
        | false =>
          clear HC hq HI
          go_wp2_with fail
          go_ret
          exact ⟨false, rfl, (fun e => nomatch e), m + m3, by first | rfl | rw [World.drewN_drewN]⟩
      · have d1 : ¬ (k : Int) < (n : Int) := by omega
        obtain rfl : k = n := by omega
        obtain ⟨W, hW⟩ : ∃ W, w.drewN m = W := ⟨_, rfl⟩
        have HWW : Hid (w.drewN m = W) := hW
        have K48 : Hid (∀ z, Calls Try.prog 48 #[.pointer (some ⟨p, 0, none⟩)] (W.drewN z) fun e w' => e = .returned (.int .i64 R) ∧ ∃ j, w' = (W.drewN z).drewN j) := fun z => by rw [← hW, World.drewN_drewN]; exact H48.out _
        have K47 : Hid (∀ z, Calls Try.prog 47 #[.pointer (some ⟨p, 0, none⟩)] (W.drewN z) fun e w' => e = .returned (.int .i64 (us : Int)) ∧ ∃ j, w' = (W.drewN z).drewN j) := fun z => by rw [← hW, World.drewN_drewN]; exact H47.out _
        have K43 : Hid (∀ z, Calls Try.prog 43 #[.pointer (some ⟨p, 0, none⟩), .int .i64 (k : Int)] (W.drewN z) fun e w' => e = .returned (.int .i64 (en : Int)) ∧ ∃ j, w' = (W.drewN z).drewN j) := fun z => by rw [← hW, World.drewN_drewN]; exact H43.out _
        have K58 : Hid (∀ z, Calls Try.prog 58 #[.int .i64 (k : Int)] (W.drewN z) fun e w' => e = .returned (.int .i64 (pn : Int)) ∧ ∃ j, w' = (W.drewN z).drewN j) := fun z => by rw [← hW, World.drewN_drewN]; exact H58.out _
        rw [hW]
        clear HSC H19 H58 H48 H47 H43 hlt
        by_cases cR : (0 : Int) ≤ R
        · have hle : pn ≤ en := by have := HRE.out; omega
          have hsl := HSL.out hle
          obtain ⟨o, ho⟩ : ∃ o, offB pn = o := ⟨_, rfl⟩
          obtain ⟨r, hr⟩ : ∃ r, en - pn = r := ⟨_, rfl⟩
          obtain ⟨cp, hcp⟩ : ∃ cp, 256 - pn = cp := ⟨_, rfl⟩
          rw [ho, hr, hcp] at hsl
          have HZ : Hid (∀ z, Calls Try.prog 60 #[.slice (some ⟨p, o, none⟩) r cp] (W.drewN z) fun e w' => TellE (∀ i, pn ≤ i → i < en → byteAt B i = 0) (W.drewN z) e w') := fun z => by rw [← hW, World.drewN_drewN]; exact HZG.out _ _ _ _ (by omega) ho
          have HRQ : Hid (0 ≤ R) := cR
          by_cases cU : (us : Int) = un
          · by_cases cZ : ∀ i, pn ≤ i → i < en → byteAt B i = 0
            · have HE : Hid (Cells B) := HLAY.out HI.out hle (by have := HUN.out; have := HRE.out; omega) cZ
              have K60 : Hid (∀ z, Calls Try.prog 60 #[.slice (some ⟨p, o, none⟩) r cp] (W.drewN z) fun e w' => e = .returned (.bool true) ∧ ∃ j, w' = (W.drewN z).drewN j) := fun z => by
                rw [← hW, World.drewN_drewN]
                exact HZY.out _ _ _ _ (by omega) ho cZ
              clear HZ HZG HZY HLAY HI hW hr hcp ho cZ hle HSL
              go_wp2_with fail
              have c3 : (0 : Int) ≤ R := HRQ.out
              go_quiet (first | with_reducible exact Calls.quiet_of (K48.out _) | with_reducible exact Calls.quiet_of (K47.out _) | with_reducible exact Calls.quiet_of (K43.out _) | with_reducible exact Calls.quiet_of (K58.out _) | with_reducible exact Calls.quiet_of (K60.out _))
              go_wp2_with fail
              go_ret
              exact ⟨true, rfl, fun _ => HE.out, m + nq, by rw [← HWW.out, World.drewN_drewN]; rfl⟩
            · have K60 : Hid (∀ z, Calls Try.prog 60 #[.slice (some ⟨p, o, none⟩) r cp] (W.drewN z) fun e w' => e = .returned (.bool false) ∧ ∃ j, w' = (W.drewN z).drewN j) := fun z => (HZ.out z).mono fun e w' ⟨b, q1, q2, q3⟩ => by
                cases b with
                | true => exact absurd (q2 rfl) cZ
                | false => exact ⟨q1, q3⟩
              clear HZ HZG HZY HLAY HI hW hr hcp ho cZ hle HSL
              go_wp2_with fail
              have c3 : (0 : Int) ≤ R := HRQ.out
              go_quiet (first | with_reducible exact Calls.quiet_of (K48.out _) | with_reducible exact Calls.quiet_of (K47.out _) | with_reducible exact Calls.quiet_of (K43.out _) | with_reducible exact Calls.quiet_of (K58.out _) | with_reducible exact Calls.quiet_of (K60.out _))
              go_wp2_with fail
              go_ret
              exact ⟨false, rfl, (fun e => nomatch e), m + nq, by rw [← HWW.out, World.drewN_drewN]; rfl⟩
          · have HCU : Hid (¬ (us : Int) = un) := cU
            clear HZ HZG HZY HLAY HI hW hr hcp ho hle HSL hsl
            go_wp2_with fail
            have c3 : (0 : Int) ≤ R := HRQ.out
            have c4 : ¬ (us : Int) = un := by have := HCU.out; exact this
            go_quiet (first | with_reducible exact Calls.quiet_of (K48.out _) | with_reducible exact Calls.quiet_of (K47.out _) | with_reducible exact Calls.quiet_of (K43.out _) | with_reducible exact Calls.quiet_of (K58.out _))
            go_wp2_with fail
            go_ret
            exact ⟨false, rfl, (fun e => nomatch e), m + nq, by rw [← HWW.out, World.drewN_drewN]; rfl⟩
        · have HRQ : Hid (R < 0) := by show R < 0; omega
          clear HZG HZY HLAY HI hW HSL
          go_wp2_with fail
          have c3 : ¬ (0 : Int) ≤ R := by have := HRQ.out; omega
          go_quiet (first | with_reducible exact Calls.quiet_of (K48.out _) | with_reducible exact Calls.quiet_of (K47.out _) | with_reducible exact Calls.quiet_of (K43.out _) | with_reducible exact Calls.quiet_of (K58.out _))
          go_wp2_with fail
          go_ret
          exact ⟨false, rfl, (fun e => nomatch e), m + nq, by rw [← HWW.out, World.drewN_drewN]; rfl⟩
end Go.Proofs.Ytehaancdadmdkaa
