/- PageSplits: its walk. -/
import Derived.Test.YtncpohimjmakpaaMd
import Derived.Test.YtncpohimjmakpaaSj
namespace Go.Proofs.Ytncpohimjmakpaa
open Go.ChangeShapes Go.WideShapes Go.ChangeAt Go.RowKit
set_option linter.unusedVariables false
set_option maxRecDepth 100000

theorem ahd_yes {a b : List Cel} (h : ∀ x, x ∈ a → ∀ y, y ∈ b → Op.bytesLess x.1 y.1 = true) : ahd a b = true := by
  cases a with
  | nil => cases b <;> rfl
  | cons z a =>
    cases b with
    | nil => rfl
    | cons y b =>
      show Op.bytesLess ((z :: a).getLastD ([], [])).1 y.1 = true
      rw [List.getLastD_eq_getLast?, List.getLast?_eq_some_getLast (List.cons_ne_nil z a)]
      exact h _ (List.getLast_mem _) y (List.mem_cons_self ..)
theorem ahd_no {a b : List Cel} (ha : a ≠ []) (hb : b ≠ []) (h : ∀ x, x ∈ a → ∀ y, y ∈ b → Op.bytesLess y.1 x.1 = true) : ahd a b = false := by
  cases a with
  | nil => exact absurd rfl ha
  | cons z a =>
    cases b with
    | nil => exact absurd rfl hb
    | cons y b =>
      show Op.bytesLess ((z :: a).getLastD ([], [])).1 y.1 = false
      rw [List.getLastD_eq_getLast?, List.getLast?_eq_some_getLast (List.cons_ne_nil z a)]
      have := h _ (List.getLast_mem (List.cons_ne_nil z a)) y (List.mem_cons_self ..)
      cases e : Op.bytesLess (some ((z :: a).getLast (List.cons_ne_nil z a)) |>.getD ([], [])).1 y.1 with
      | false => rfl
      | true => exact absurd (less_trans _ _ _ this e) (by rw [less_irr]; decide)
theorem td_less {cs : List Cel} (h : ris cs) (k : Nat) : ∀ x, x ∈ cs.take k → ∀ y, y ∈ cs.drop k → Op.bytesLess x.1 y.1 = true := by
  rw [ris_pw, ← List.take_append_drop k cs, List.pairwise_append] at h
  exact h.2.2
set_option maxHeartbeats 8000000 in
theorem splits_walk {w : World} (a : Option Addr) (N c : Nat) (l : List Cel) (hN : l.length = N) (h : Sl cv 2 w (.slice a N c) l) (at_ : Int) (m : Nat) (hm : m < 256) (h0 : bits .and .i64 at_ 255 = (m : Int)) : Calls Try.prog 6 #[.slice a N c, .int .i64 at_] w fun e w' => e = .returned (.bool true) ∧ Kept (fun _ => False) w w' := by
  have HAW : Hid (∀ V, Calls Try.prog 11 #[] V fun e w' => e = .returned (.bool true) ∧ Hid (Kept (fun _ => False) V w')) := fun V => awake_is V
  have HFW : Hid (Calls Try.prog 17 #[.slice a N c] w fun e w' => FewE l w e w') := few_is a N c l hN h
  have HMD : Hid (fewC l → Calls Try.prog 18 #[.slice a N c] w fun e w' => MadeE w e w') := fun hf => made_is a N c l hN h hf
  clear hN h
  go_enter Try.func6, Try.ntmps6
  go_wp2_with fail
  refine Calls.mono HFW.out ?_; rintro e x1 ⟨b, rfl, hb, rfl⟩
  clear HFW
  cases b with
  | false =>
    clear HMD hb
    go_wp2_with fail
    refine Calls.mono (HAW.out _) ?_; rintro e x2 ⟨rfl, HK⟩
    go_wp2_with fail
    go_ret
    exact ⟨rfl, HK.out⟩
  | true =>
    have HM2 : Hid (Calls Try.prog 18 #[.slice a N c] x1 fun e w' => MadeE x1 e w') := HMD.out (hb rfl)
    clear HMD hb
    go_wp2_with fail
    refine Calls.mono HM2.out ?_; rintro e x2 ⟨p, a2, N2, c2, cs, rfl, g1, g2, g3, g4, g5⟩
    have hkp : Kept (fun _ => False) x2 (x2.alloc (.cells #[.int .i64 7, .slice a2 N2 c2] 29)) := (Kept.refl _ _).alloc _
    obtain ⟨x3, hx3⟩ : ∃ x, x2.alloc (.cells #[.int .i64 7, .slice a2 N2 c2] 29) = x := ⟨_, rfl⟩
    rw [hx3] at hkp
    have HX3 : Hid (x2.alloc (.cells #[.int .i64 7, .slice a2 N2 c2] 29) = x3) := hx3
    have HP3 : Hid (Pg x3 p (lay 7 cs) ∧ Kept (fun _ => False) x1 x3) := ⟨g1.step hkp, g4.trans hkp (fun _ z => z.elim)⟩
    obtain ⟨s, hs⟩ : ∃ s, (⟨(bytesB (lay 7 cs)).toArray⟩ : ByteArray) = s := ⟨_, rfl⟩
    have HBY : Hid (∀ V, Pg V p (lay 7 cs) → Calls Try.prog 16 #[.pointer (some ⟨p, 0, none⟩)] V fun e w' => e = .returned (.string s) ∧ Hid (Kept (fun _ => False) V w')) := fun V hV => by
      have := bytesL hV (by decide)
      rw [hs] at this
      exact this
    obtain ⟨n, hn⟩ : ∃ n, cs.length = n := ⟨_, rfl⟩
    have hn1 : n ≤ 124 := by rw [← hn]; exact (okC_fit g2).1
    obtain ⟨k, hk⟩ : ∃ k, m % (n + 1) = k := ⟨_, rfl⟩
    have hkn : k ≤ n := by have := Nat.mod_lt m (show 0 < n + 1 by omega); omega
    have hrem : (m : Int).tmod ((n : Int) + 1) = (k : Int) := by
      rw [Int.tmod_eq_emod_of_nonneg (by omega), ← hk]
      have := Int.natCast_emod m (n + 1)
      rw [Int.natCast_add] at this
      exact this.symm
    have HLN : Hid (∀ V, Pg V p (lay 7 cs) → Calls Try.prog 19 #[.pointer (some ⟨p, 0, none⟩)] V fun e w' => e = .returned (.int .i64 (n : Int)) ∧ Hid (Kept (fun _ => False) V w')) := fun V hV => by have := lenL hV g2; rw [hn] at this; exact this
    obtain ⟨K1, hK1⟩ : ∃ K1 : ByteArray, (∀ V, Pg V p (lay 7 cs) → Calls Try.prog 20 #[.pointer (some ⟨p, 0, none⟩), .int .i64 (k : Int)] V fun e w' => ∃ V1, e = .returned (.tuple #[.string K1, .string V1]) ∧ Hid (Kept (fun _ => False) V w')) ∧ (∀ V q, Pg V q (lay 7 (cs.drop k)) → Calls Try.prog 20 #[.pointer (some ⟨q, 0, none⟩), .int .i64 0] V fun e w' => ∃ V1, e = .returned (.tuple #[.string K1, .string V1]) ∧ Hid (Kept (fun _ => False) V w')) := by
      by_cases hlt : k < cs.length
      · refine ⟨⟨cs[k].1.toArray⟩, fun V hV => (atL hV g2 k hlt).mono fun e w' ⟨q1, q2⟩ => ⟨_, q1, q2⟩, fun V q hV => ?_⟩
        have := atL hV (okC_td g2 k).2 0 (by rw [List.length_drop]; omega)
        have e : (cs.drop k)[0]'(by rw [List.length_drop]; omega) = cs[k] := by simp
        rw [e] at this
        exact this.mono fun e w' ⟨q1, q2⟩ => ⟨_, q1, q2⟩
      · refine ⟨⟨#[]⟩, fun V hV => (atN hV g2 k (by omega)).mono fun e w' ⟨q1, q2⟩ => ⟨_, q1, q2⟩, fun V q hV => (atN hV (okC_td g2 k).2 0 (by rw [List.length_drop]; omega)).mono fun e w' ⟨q1, q2⟩ => ⟨_, q1, q2⟩⟩
    have HAT : Hid (∀ V, Pg V p (lay 7 cs) → Calls Try.prog 20 #[.pointer (some ⟨p, 0, none⟩), .int .i64 (k : Int)] V fun e w' => ∃ V1, e = .returned (.tuple #[.string K1, .string V1]) ∧ Hid (Kept (fun _ => False) V w')) := hK1.1
    have HA0 : Hid (∀ V q, (Pg V p (lay 7 (cs.take k)) ∧ Pg V q (lay 7 (cs.drop k)) ∧ Kept (fun _ => False) x1 V) → Calls Try.prog 20 #[.pointer (some ⟨q, 0, none⟩), .int .i64 0] V fun e w' => ∃ V1, e = .returned (.tuple #[.string K1, .string V1]) ∧ Hid (Pg w' p (lay 7 (cs.take k)) ∧ Pg w' q (lay 7 (cs.drop k)) ∧ Kept (fun _ => False) x1 w')) := fun V q hV => (hK1.2 V q hV.2.1).mono fun e w' ⟨v1, q1, q2⟩ => ⟨v1, q1, hV.1.step q2.out, hV.2.1.step q2.out, hV.2.2.trans q2.out (fun _ z => z.elim)⟩
    have HSP : Hid (∀ V, Pg V p (lay 7 cs) ∧ Kept (fun _ => False) x1 V → Calls Try.prog 21 #[.pointer (some ⟨p, 0, none⟩), .int .i64 (k : Int)] V fun e w' => ∃ q, e = .returned (.tuple #[.pointer (some ⟨q, 0, none⟩), .int .i64 0]) ∧ Hid ((Pg w' p (lay 7 (cs.take k)) ∧ Pg w' q (lay 7 (cs.drop k)) ∧ Kept (fun _ => False) x1 w') ∧ p ≠ q)) := fun V hV => (split_is hV.1 g2 (by decide) k (by omega)).mono fun e w' ⟨q, q1, q2, q3, q4, q5⟩ => ⟨q, q1, ⟨q2, q3, hV.2.trans q4 (fun i e => .inr (by rw [e]; exact g5))⟩, by have := hV.1.lt; omega⟩
    have HLP : Hid (∀ V q, (Pg V p (lay 7 (cs.take k)) ∧ Pg V q (lay 7 (cs.drop k)) ∧ Kept (fun _ => False) x1 V) → Calls Try.prog 19 #[.pointer (some ⟨p, 0, none⟩)] V fun e w' => e = .returned (.int .i64 (k : Int)) ∧ Hid (Pg w' p (lay 7 (cs.take k)) ∧ Pg w' q (lay 7 (cs.drop k)) ∧ Kept (fun _ => False) x1 w')) := fun V q hV => by
      have := lenL hV.1 (okC_td g2 k).1
      rw [List.length_take, Nat.min_eq_left (by omega)] at this
      exact this.mono fun e w' ⟨q1, q2⟩ => ⟨q1, hV.1.step q2, hV.2.1.step q2, hV.2.2.trans q2 (fun _ z => z.elim)⟩
    have HLQ : Hid (∀ V q, (Pg V p (lay 7 (cs.take k)) ∧ Pg V q (lay 7 (cs.drop k)) ∧ Kept (fun _ => False) x1 V) → Calls Try.prog 19 #[.pointer (some ⟨q, 0, none⟩)] V fun e w' => e = .returned (.int .i64 ((n : Int) - (k : Int))) ∧ Hid (Pg w' p (lay 7 (cs.take k)) ∧ Pg w' q (lay 7 (cs.drop k)) ∧ Kept (fun _ => False) x1 w')) := fun V q hV => by
      have := lenL hV.2.1 (okC_td g2 k).2
      rw [List.length_drop, hn, (by omega : ((n - k : Nat) : Int) = (n : Int) - (k : Int))] at this
      exact this.mono fun e w' ⟨q1, q2⟩ => ⟨q1, hV.1.step q2, hV.2.1.step q2, hV.2.2.trans q2 (fun _ z => z.elim)⟩
    have HJB : Hid (0 < k → k < n → ∀ V q, (Pg V p (lay 7 (cs.take k)) ∧ Pg V q (lay 7 (cs.drop k)) ∧ Kept (fun _ => False) x1 V) → Calls Try.prog 22 #[.pointer (some ⟨q, 0, none⟩), .pointer (some ⟨p, 0, none⟩)] V fun e w' => e = .returned (.int .i64 1) ∧ Hid (Pg w' p (lay 7 (cs.take k)) ∧ Pg w' q (lay 7 (cs.drop k)) ∧ Kept (fun _ => False) x1 w')) := fun z1 z2 V q hV =>
      (join_behind hV.2.1 hV.1 (okC_td g2 k).2 (okC_td g2 k).1 (by decide) (ahd_no (fun e => by have := congrArg List.length e; rw [List.length_drop, List.length_nil] at this; omega) (fun e => by have := congrArg List.length e; rw [List.length_take, List.length_nil] at this; omega) (fun x hx y hy => td_less g3 k y hy x hx))).mono fun e w' ⟨q1, q2⟩ => ⟨q1, hV.1.step q2, hV.2.1.step q2, hV.2.2.trans q2 (fun _ z => z.elim)⟩
    have HJN : Hid (∀ V q, ((Pg V p (lay 7 (cs.take k)) ∧ Pg V q (lay 7 (cs.drop k)) ∧ Kept (fun _ => False) x1 V) ∧ p ≠ q) → Calls Try.prog 22 #[.pointer (some ⟨p, 0, none⟩), .pointer (some ⟨q, 0, none⟩)] V fun e w' => e = .returned (.int .i64 0) ∧ Hid (Pg w' p (lay 7 cs) ∧ Kept (fun _ => False) x1 w')) := fun V q hV => by
      have := join_is hV.1.1 hV.1.2.1 hV.2 (by rw [List.take_append_drop]; exact g2) (by decide) (ahd_yes (td_less g3 k))
      rw [List.take_append_drop] at this
      exact this.mono fun e w' ⟨q1, q2, q3⟩ => ⟨q1, q2, hV.1.2.2.trans q3 (fun i e => .inr (by rw [e]; exact g5))⟩
    clear HM2 g1 g2 g3 g4 g5 hkp hx3 hs hn hk hK1
    go_wp2_with fail
    rw [HX3.out]
    clear HX3
    go_wp2_with fail
    refine Calls.mono (HBY.out _ HP3.out.1) ?_; rintro e x4 ⟨rfl, HM⟩
    have HP4 : Hid (Pg x4 p (lay 7 cs) ∧ Kept (fun _ => False) x1 x4) := ⟨HP3.out.1.step HM.out, HP3.out.2.trans HM.out (fun _ z => z.elim)⟩
    clear HM HP3
    go_wp2_with fail
    refine Calls.mono (HLN.out _ HP4.out.1) ?_; rintro e x5 ⟨rfl, HM⟩
    have HP5 : Hid (Pg x5 p (lay 7 cs) ∧ Kept (fun _ => False) x1 x5) := ⟨HP4.out.1.step HM.out, HP4.out.2.trans HM.out (fun _ z => z.elim)⟩
    clear HM HP4 HLN
    have hz : ¬ (n : Int) + 1 = 0 := by omega
    go_wp2_with fail
    refine Calls.mono (HAT.out _ HP5.out.1) ?_; rintro e x6 ⟨V1, rfl, HM⟩
    have HP6 : Hid (Pg x6 p (lay 7 cs) ∧ Kept (fun _ => False) x1 x6) := ⟨HP5.out.1.step HM.out, HP5.out.2.trans HM.out (fun _ z => z.elim)⟩
    clear HM HP5 HAT hrem hz h0
    go_wp2_with fail
    refine Calls.mono (HSP.out _ HP6.out) ?_; rintro e x7 ⟨q, rfl, HQ7⟩
    have HNE : Hid (p ≠ q) := HQ7.out.2
    clear HSP HP6
    go_wp2_with fail
    refine Calls.mono (HLP.out _ q HQ7.out.1) ?_; rintro e x8 ⟨rfl, HQ8⟩
    clear HQ7 HLP
    go_wp2_with fail
    refine Calls.mono (HLQ.out _ q HQ8.out) ?_; rintro e x9 ⟨rfl, HQ9⟩
    clear HQ8 HLQ
    go_wp2_with fail
    refine Calls.mono (HA0.out _ q HQ9.out) ?_; rintro e y0 ⟨V2, rfl, HQ0⟩
    have HF : Hid ((Pg y0 p (lay 7 (cs.take k)) ∧ Pg y0 q (lay 7 (cs.drop k)) ∧ Kept (fun _ => False) x1 y0) ∧ p ≠ q) := ⟨HQ0.out, HNE.out⟩
    clear HQ9 HA0 HNE HQ0
    by_cases d1 : (0 : Int) < (n : Int) - (k : Int)
    · by_cases d2 : (0 : Int) < (k : Int)
      · have HJ2 : Hid (∀ V q, (Pg V p (lay 7 (cs.take k)) ∧ Pg V q (lay 7 (cs.drop k)) ∧ Kept (fun _ => False) x1 V) → Calls Try.prog 22 #[.pointer (some ⟨q, 0, none⟩), .pointer (some ⟨p, 0, none⟩)] V fun e w' => e = .returned (.int .i64 1) ∧ Hid (Pg w' p (lay 7 (cs.take k)) ∧ Pg w' q (lay 7 (cs.drop k)) ∧ Kept (fun _ => False) x1 w')) := HJB.out (by omega) (by omega)
        clear HJB
        go_wp2_with fail
        refine Calls.mono (HJ2.out _ q HF.out.1) ?_; rintro e y1 ⟨rfl, HQ1⟩
        have HF1 : Hid ((Pg y1 p (lay 7 (cs.take k)) ∧ Pg y1 q (lay 7 (cs.drop k)) ∧ Kept (fun _ => False) x1 y1) ∧ p ≠ q) := ⟨HQ1.out, HF.out.2⟩
        clear HF HQ1 HJ2
        go_wp2_with fail
        refine Calls.mono (HJN.out _ q HF1.out) ?_; rintro e y4 ⟨rfl, J1⟩
        go_wp2_with fail
        refine Calls.mono (HBY.out _ J1.out.1) ?_; rintro e y5 ⟨rfl, J2⟩
        have J3 : Hid (Kept (fun _ => False) x1 y5) := J1.out.2.trans J2.out (fun _ z => z.elim)
        clear J1 J2
        go_wp2_with fail
        refine Calls.mono (HAW.out _) ?_; rintro e y6 ⟨rfl, J4⟩
        have J5 : Hid (Kept (fun _ => False) x1 y6) := J3.out.trans J4.out (fun _ z => z.elim)
        clear J3 J4
        go_wp2_with fail
        go_ret
        exact ⟨rfl, J5.out⟩
      · clear HJB
        go_wp2_with fail
        refine Calls.mono (HJN.out _ q HF.out) ?_; rintro e y1 ⟨rfl, J1⟩
        go_wp2_with fail
        refine Calls.mono (HBY.out _ J1.out.1) ?_; rintro e y2 ⟨rfl, J2⟩
        have J3 : Hid (Kept (fun _ => False) x1 y2) := J1.out.2.trans J2.out (fun _ z => z.elim)
        clear J1 J2
        go_wp2_with fail
        refine Calls.mono (HAW.out _) ?_; rintro e y3 ⟨rfl, J4⟩
        have J5 : Hid (Kept (fun _ => False) x1 y3) := J3.out.trans J4.out (fun _ z => z.elim)
        clear J3 J4
        go_wp2_with fail
        go_ret
        exact ⟨rfl, J5.out⟩
    · clear HJB
      go_wp2_with fail
      refine Calls.mono (HJN.out _ q HF.out) ?_; rintro e y1 ⟨rfl, J1⟩
      go_wp2_with fail
      refine Calls.mono (HBY.out _ J1.out.1) ?_; rintro e y2 ⟨rfl, J2⟩
      have J3 : Hid (Kept (fun _ => False) x1 y2) := J1.out.2.trans J2.out (fun _ z => z.elim)
      clear J1 J2
      go_wp2_with fail
      refine Calls.mono (HAW.out _) ?_; rintro e y3 ⟨rfl, J4⟩
      have J5 : Hid (Kept (fun _ => False) x1 y3) := J3.out.trans J4.out (fun _ z => z.elim)
      clear J3 J4
      go_wp2_with fail
      go_ret
      exact ⟨rfl, J5.out⟩
end Go.Proofs.Ytncpohimjmakpaa
