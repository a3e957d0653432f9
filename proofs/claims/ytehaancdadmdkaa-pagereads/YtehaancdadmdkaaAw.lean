/- awake. -/
import Derived.Test.YtehaancdadmdkaaRe
namespace Go.Proofs.Ytehaancdadmdkaa
open Go.ChangeShapes Go.WideShapes Go.ChangeAt Go.RowKit
set_option linter.unusedVariables false
set_option maxRecDepth 100000

abbrev cA : Cel := ([97], [50])
abbrev cB : Cel := ([98], [49])
theorem ris0 : ris [] := fun i j hi _ _ => absurd hi (Nat.not_lt_zero _)
theorem ris1 (c : Cel) : ris [c] := fun i j hi hj h => by simp at hi hj; omega
theorem ris2 : ris [cA, cB] := fun i j hi hj h => by
  simp at hi hj
  obtain rfl : i = 0 := by omega
  obtain rfl : j = 1 := by omega
  show Op.bytesLess [97] [98] = true
  decide
theorem ok0 : okC [] := ⟨fun c hc => (by cases hc), (by decide)⟩
theorem ok1 : okC [cB] := ⟨fun c hc => (by simp at hc; subst hc; decide), (by decide)⟩
theorem ok1a : okC [cA] := ⟨fun c hc => (by simp at hc; subst hc; decide), (by decide)⟩
theorem ok2 : okC [cA, cB] := ⟨fun c hc => (by simp at hc; rcases hc with rfl | rfl <;> decide), (by decide)⟩
theorem fnd0 (key : List UInt8) {k : Nat} {b : Bool} (h : FindO [] key k b) : k = 0 ∧ b = false := by
  refine ⟨Nat.le_zero.1 h.1, ?_⟩
  cases b with
  | false => rfl
  | true => exact absurd (h.2.2.2.1 rfl).1 (Nat.not_lt_zero _)
theorem fnd1 {k : Nat} {b : Bool} (h : FindO [cB] [97] k b) : k = 0 ∧ b = false := by
  have hk : k = 0 := by
    have h1 := h.1
    rcases Nat.eq_zero_or_pos k with e | e
    · exact e
    · have := h.2.1 0 (by decide) e
      exact absurd this (by decide)
  subst hk
  refine ⟨rfl, ?_⟩
  cases b with
  | false => rfl
  | true => exact absurd (show ([98] : List UInt8) = [97] from (h.2.2.2.1 rfl).2) (by decide)
theorem fnd2 {k : Nat} {b : Bool} (h : FindO [cA, cB] [98] k b) : k = 1 ∧ b = true := by
  have h1 : k ≤ 2 := h.1
  have h2 : ¬ k = 0 := fun e => by
    subst e
    exact absurd (h.2.2.1 0 (by decide) (Nat.le_refl _)) (by decide)
  have h3 : ¬ k = 2 := fun e => by
    subst e
    exact absurd (h.2.1 1 (by decide) (by decide)) (by decide)
  obtain rfl : k = 1 := by omega
  exact ⟨rfl, h.2.2.2.2 ⟨by decide, rfl⟩⟩
theorem put1 {w : World} {p : Nat} (h : Pg w p (lay 1 [])) : Calls Try.prog 24 #[.pointer (some ⟨p, 0, none⟩), .string ⟨#[98]⟩, .string ⟨#[49]⟩] w fun e w' => e = .returned (.int .i64 0) ∧ Pg w' p (lay 1 [cB]) ∧ Kept (fun i => i = p) w w' := by
  refine (pput_is h ok0 ris0 (by decide) ⟨#[98]⟩ ⟨#[49]⟩ (by decide) (by decide)).mono ?_
  rintro e w' (⟨hm, _⟩ | ⟨_, k, b, hf, (⟨hbad, _⟩ | ⟨_, he, hp, hk⟩)⟩)
  · exact absurd (show mayC ⟨#[98]⟩ ⟨#[49]⟩ by decide) hm
  · obtain ⟨rfl, rfl⟩ := fnd0 _ hf
    exact absurd hbad (by decide)
  · obtain ⟨rfl, rfl⟩ := fnd0 _ hf
    exact ⟨he, hp, hk⟩
theorem put2 {w : World} {p : Nat} (h : Pg w p (lay 1 [cB])) : Calls Try.prog 24 #[.pointer (some ⟨p, 0, none⟩), .string ⟨#[97]⟩, .string ⟨#[50]⟩] w fun e w' => e = .returned (.int .i64 0) ∧ Pg w' p (lay 1 [cA, cB]) ∧ Kept (fun i => i = p) w w' := by
  refine (pput_is h ok1 (ris1 _) (by decide) ⟨#[97]⟩ ⟨#[50]⟩ (by decide) (by decide)).mono ?_
  rintro e w' (⟨hm, _⟩ | ⟨_, k, b, hf, (⟨hbad, _⟩ | ⟨_, he, hp, hk⟩)⟩)
  · exact absurd (show mayC ⟨#[97]⟩ ⟨#[50]⟩ by decide) hm
  · obtain ⟨rfl, rfl⟩ := fnd1 hf
    exact absurd hbad (by decide)
  · obtain ⟨rfl, rfl⟩ := fnd1 hf
    exact ⟨he, hp, hk⟩
theorem drop2 {w : World} {p : Nat} (h : Pg w p (lay 1 [cA, cB])) : Calls Try.prog 25 #[.pointer (some ⟨p, 0, none⟩), .string ⟨#[98]⟩] w fun e w' => e = .returned (.int .i64 0) ∧ Pg w' p (lay 1 [cA]) ∧ Kept (fun i => i = p) w w' := by
  refine (pdrop_is h ok2 ris2 (by decide) ⟨#[98]⟩).mono ?_
  rintro e w' ⟨k, b, hf, (⟨hb, _⟩ | ⟨_, he, hp, _, hk⟩)⟩
  · obtain ⟨rfl, rfl⟩ := fnd2 hf
    cases hb
  · obtain ⟨rfl, rfl⟩ := fnd2 hf
    exact ⟨he, hp, hk⟩
theorem find2 {w : World} {p : Nat} (h : Pg w p (lay 1 [cA, cB])) : Calls Try.prog 26 #[.pointer (some ⟨p, 0, none⟩), .string ⟨#[98]⟩] w fun e w' => e = .returned (.tuple #[.int .i64 1, .bool true]) ∧ Kept (fun _ => False) w w' := by
  refine (find_is h ok2 ris2 ⟨#[98]⟩).mono ?_
  rintro e w' ⟨k, b, he, hf, hk⟩
  obtain ⟨rfl, rfl⟩ := fnd2 hf
  exact ⟨he, hk⟩
theorem at2 {w : World} {p : Nat} (h : Pg w p (lay 1 [cA, cB])) : Calls Try.prog 20 #[.pointer (some ⟨p, 0, none⟩), .int .i64 0] w fun e w' => e = .returned (.tuple #[.string ⟨#[97]⟩, .string ⟨#[50]⟩]) ∧ ∃ m, w' = w.drewN m := by
  obtain ⟨l1, l2, l3, l4, l5⟩ := lay_cell 1 [] cA [cB] ok2
  have := at_is h 0 l4 l5 l3
  have e1 : keyB (lay 1 [cA, cB]) 0 = [97] := l1
  have e2 : valB (lay 1 [cA, cB]) 0 = [50] := l2
  rw [e1, e2] at this
  exact this
set_option maxHeartbeats 2000000 in
theorem awake_is (w : World) : Calls Try.prog 11 #[] w fun e w' => e = .returned (.bool true) ∧ Kept (fun _ => False) w w' := by
  obtain ⟨L0, hL0⟩ : ∃ L, lay 1 [] = L := ⟨_, rfl⟩
  obtain ⟨L1, hL1⟩ : ∃ L, lay 1 [cB] = L := ⟨_, rfl⟩
  obtain ⟨L2, hL2⟩ : ∃ L, lay 1 [cA, cB] = L := ⟨_, rfl⟩
  obtain ⟨L3, hL3⟩ : ∃ L, lay 1 [cA] = L := ⟨_, rfl⟩
  have HN : Hid (Calls Try.prog 9 #[.int .i64 1] w fun e w' => ∃ p, e = .returned (.tuple #[.pointer (some ⟨p, 0, none⟩), .int .i64 0]) ∧ Hid (Pg w' p L0 ∧ Kept (fun _ => False) w w' ∧ w.heap.size ≤ p)) := by
    have := new_is 1 (by decide) (by decide) w
    rw [show UInt8.ofNat 1 = 1 from rfl, hL0] at this
    exact this
  have HP1 : Hid (∀ V p, Pg V p L0 → Calls Try.prog 24 #[.pointer (some ⟨p, 0, none⟩), .string ⟨#[98]⟩, .string ⟨#[49]⟩] V fun e w' => e = .returned (.int .i64 0) ∧ Hid (Pg w' p L1 ∧ Kept (fun i => i = p) V w')) := fun V p hV => by rw [← hL0] at hV; rw [← hL1]; exact put1 hV
  have HP2 : Hid (∀ V p, Pg V p L1 → Calls Try.prog 24 #[.pointer (some ⟨p, 0, none⟩), .string ⟨#[97]⟩, .string ⟨#[50]⟩] V fun e w' => e = .returned (.int .i64 0) ∧ Hid (Pg w' p L2 ∧ Kept (fun i => i = p) V w')) := fun V p hV => by rw [← hL1] at hV; rw [← hL2]; exact put2 hV
  have HAT : Hid (∀ V p, Pg V p L2 → Calls Try.prog 20 #[.pointer (some ⟨p, 0, none⟩), .int .i64 0] V fun e w' => e = .returned (.tuple #[.string ⟨#[97]⟩, .string ⟨#[50]⟩]) ∧ Hid (Kept (fun _ => False) V w')) := fun V p hV => by
    rw [← hL2] at hV
    exact (at2 hV).mono fun e w' ⟨q1, m, q2⟩ => ⟨q1, by rw [q2]; exact (Kept.refl _ _).drewN m⟩
  obtain ⟨SB, hSB⟩ : ∃ S, (⟨(bytesB L2).toArray⟩ : ByteArray) = S := ⟨_, rfl⟩
  have hsz : SB.size = 256 := by
    rw [← hSB]
    show (bytesB L2).toArray.size = 256
    rw [List.size_toArray, ← hL2, bytes_len 1 _ ok2]
  have HBY : Hid (∀ V p, Pg V p L2 → Calls Try.prog 16 #[.pointer (some ⟨p, 0, none⟩)] V fun e w' => e = .returned (.string SB) ∧ Hid (Kept (fun _ => False) V w')) := fun V p hV => by
    have := bytes_is hV (by rw [← hL2]; decide)
    rw [hSB] at this
    exact this
  have HRE : Hid (∀ V, Calls Try.prog 14 #[.string SB] V fun e w' => ∃ q, e = .returned (.tuple #[.pointer (some ⟨q, 0, none⟩), .int .i64 0]) ∧ Hid (Pg w' q L2 ∧ Kept (fun _ => False) V w' ∧ V.heap.size ≤ q)) := fun V => by
    have := read_yes SB 1 [cA, cB] (by rw [← hSB, hL2]) ok2 ris2 (by decide) V
    rw [hL2] at this
    exact this
  have HLN2 : Hid (∀ V p, Pg V p L2 → Calls Try.prog 19 #[.pointer (some ⟨p, 0, none⟩)] V fun e w' => e = .returned (.int .i64 2) ∧ Hid (Kept (fun _ => False) V w')) := fun V p hV => by
    have := len_is hV
    rw [← hL2, lay_count 1 _ ok2] at this
    exact this.mono fun e w' ⟨q1, m, q2⟩ => ⟨q1, by rw [q2]; exact (Kept.refl _ _).drewN m⟩
  have HLN3 : Hid (∀ V p, Pg V p L3 → Calls Try.prog 19 #[.pointer (some ⟨p, 0, none⟩)] V fun e w' => e = .returned (.int .i64 1) ∧ Hid (Kept (fun _ => False) V w')) := fun V p hV => by
    have := len_is hV
    rw [← hL3, lay_count 1 _ ok1a] at this
    exact this.mono fun e w' ⟨q1, m, q2⟩ => ⟨q1, by rw [q2]; exact (Kept.refl _ _).drewN m⟩
  have HKD : Hid (∀ V p, Pg V p L2 → Calls Try.prog 27 #[.pointer (some ⟨p, 0, none⟩)] V fun e w' => e = .returned (.int .i64 1) ∧ Hid (Kept (fun _ => False) V w')) := fun V p hV => by
    have := kind_is hV
    rw [← hL2, lay_kind] at this
    exact this.mono fun e w' ⟨q1, m, q2⟩ => ⟨q1, by rw [q2]; exact (Kept.refl _ _).drewN m⟩
  have HFD : Hid (∀ V p, Pg V p L2 → Calls Try.prog 26 #[.pointer (some ⟨p, 0, none⟩), .string ⟨#[98]⟩] V fun e w' => e = .returned (.tuple #[.int .i64 1, .bool true]) ∧ Hid (Kept (fun _ => False) V w')) := fun V p hV => by rw [← hL2] at hV; exact find2 hV
  have HDR : Hid (∀ V p, Pg V p L2 → Calls Try.prog 25 #[.pointer (some ⟨p, 0, none⟩), .string ⟨#[98]⟩] V fun e w' => e = .returned (.int .i64 0) ∧ Hid (Pg w' p L3 ∧ Kept (fun i => i = p) V w')) := fun V p hV => by rw [← hL2] at hV; rw [← hL3]; exact drop2 hV
  clear hL0 hL1 hL2 hL3 hSB
  go_enter Try.func11, Try.ntmps11
  go_wp2_with fail
  refine Calls.mono HN.out ?_; rintro e x1 ⟨p, rfl, HM⟩
  have I1 : Hid (Pg x1 p L0 ∧ Kept (fun _ => False) w x1 ∧ w.heap.size ≤ p) := HM.out
  clear HM HN
  go_wp2_with fail
  refine Calls.mono (HP1.out _ _ I1.out.1) ?_; rintro e x2 ⟨rfl, HM⟩
  have I2 : Hid (Pg x2 p L1 ∧ Kept (fun _ => False) w x2 ∧ w.heap.size ≤ p) := ⟨HM.out.1, I1.out.2.1.trans HM.out.2 (fun i hi => .inr (by rw [hi]; exact I1.out.2.2)), I1.out.2.2⟩
  clear HM I1 HP1
  go_wp2_with fail
  refine Calls.mono (HP2.out _ _ I2.out.1) ?_; rintro e x3 ⟨rfl, HM⟩
  have I3 : Hid (Pg x3 p L2 ∧ Kept (fun _ => False) w x3 ∧ w.heap.size ≤ p) := ⟨HM.out.1, I2.out.2.1.trans HM.out.2 (fun i hi => .inr (by rw [hi]; exact I2.out.2.2)), I2.out.2.2⟩
  clear HM I2 HP2
  go_wp2_with fail
  refine Calls.mono (HAT.out _ _ I3.out.1) ?_; rintro e x4 ⟨rfl, HM⟩
  have I4 : Hid (Pg x4 p L2 ∧ Kept (fun _ => False) w x4 ∧ w.heap.size ≤ p) := ⟨I3.out.1.step HM.out, I3.out.2.1.trans HM.out (fun _ z => z.elim), I3.out.2.2⟩
  clear HM I3 HAT
  go_wp2_with fail
  refine Calls.mono (HBY.out _ _ I4.out.1) ?_; rintro e x5 ⟨rfl, HM⟩
  have I5 : Hid (Pg x5 p L2 ∧ Kept (fun _ => False) w x5 ∧ w.heap.size ≤ p) := ⟨I4.out.1.step HM.out, I4.out.2.1.trans HM.out (fun _ z => z.elim), I4.out.2.2⟩
  clear HM I4
  go_wp2_with fail
  refine Calls.mono (HRE.out _) ?_; rintro e x6 ⟨q, rfl, HM⟩
  have I6 : Hid (Pg x6 p L2 ∧ Pg x6 q L2 ∧ Kept (fun _ => False) w x6 ∧ w.heap.size ≤ p ∧ q ≠ p) := ⟨I5.out.1.step HM.out.2.1, HM.out.1, I5.out.2.1.trans HM.out.2.1 (fun _ z => z.elim), I5.out.2.2, by have := I5.out.1.lt; have := HM.out.2.2; omega⟩
  clear HM I5 HRE
  go_wp2_with fail
  refine Calls.mono (HLN2.out _ _ I6.out.2.1) ?_; rintro e x7 ⟨rfl, HM⟩
  have I7 : Hid (Pg x7 p L2 ∧ Pg x7 q L2 ∧ Kept (fun _ => False) w x7 ∧ w.heap.size ≤ p ∧ q ≠ p) := ⟨I6.out.1.step HM.out, I6.out.2.1.step HM.out, I6.out.2.2.1.trans HM.out (fun _ z => z.elim), I6.out.2.2.2⟩
  clear HM I6
  go_wp2_with fail
  refine Calls.mono (HBY.out _ _ I7.out.1) ?_; rintro e x8 ⟨rfl, HM⟩
  have I8 : Hid (Pg x8 p L2 ∧ Pg x8 q L2 ∧ Kept (fun _ => False) w x8 ∧ w.heap.size ≤ p ∧ q ≠ p) := ⟨I7.out.1.step HM.out, I7.out.2.1.step HM.out, I7.out.2.2.1.trans HM.out (fun _ z => z.elim), I7.out.2.2.2⟩
  clear HM I7 HBY
  go_wp2_with fail
  refine Calls.mono (HFD.out _ _ I8.out.2.1) ?_; rintro e x9 ⟨rfl, HM⟩
  have I9 : Hid (Pg x9 p L2 ∧ Pg x9 q L2 ∧ Kept (fun _ => False) w x9 ∧ w.heap.size ≤ p ∧ q ≠ p) := ⟨I8.out.1.step HM.out, I8.out.2.1.step HM.out, I8.out.2.2.1.trans HM.out (fun _ z => z.elim), I8.out.2.2.2⟩
  clear HM I8 HFD
  go_wp2_with fail
  refine Calls.mono (HDR.out _ _ I9.out.1) ?_; rintro e x10 ⟨rfl, HM⟩
  have I10 : Hid (Pg x10 p L3 ∧ Pg x10 q L2 ∧ Kept (fun _ => False) w x10 ∧ w.heap.size ≤ p ∧ q ≠ p) := ⟨HM.out.1, I9.out.2.1.kept HM.out.2 I9.out.2.2.2.2, I9.out.2.2.1.trans HM.out.2 (fun i hi => .inr (by rw [hi]; exact I9.out.2.2.2.1)), I9.out.2.2.2⟩
  clear HM I9 HDR
  go_wp2_with fail
  refine Calls.mono (HLN3.out _ _ I10.out.1) ?_; rintro e x11 ⟨rfl, HM⟩
  have I11 : Hid (Pg x11 p L3 ∧ Pg x11 q L2 ∧ Kept (fun _ => False) w x11 ∧ w.heap.size ≤ p ∧ q ≠ p) := ⟨I10.out.1.step HM.out, I10.out.2.1.step HM.out, I10.out.2.2.1.trans HM.out (fun _ z => z.elim), I10.out.2.2.2⟩
  clear HM I10 HLN3
  go_wp2_with fail
  refine Calls.mono (HLN2.out _ _ I11.out.2.1) ?_; rintro e x12 ⟨rfl, HM⟩
  have I12 : Hid (Pg x12 q L2 ∧ Kept (fun _ => False) w x12) := ⟨I11.out.2.1.step HM.out, I11.out.2.2.1.trans HM.out (fun _ z => z.elim)⟩
  clear HM I11 HLN2
  go_wp2_with fail
  refine Calls.mono (HKD.out _ _ I12.out.1) ?_; rintro e x13 ⟨rfl, HM⟩
  have I13 : Hid (Kept (fun _ => False) w x13) := I12.out.2.trans HM.out (fun _ z => z.elim)
  clear HM I12 HKD
  go_wp2_with fail
  go_ret
  exact ⟨rfl, I13.out⟩
end Go.Proofs.Ytehaancdadmdkaa
