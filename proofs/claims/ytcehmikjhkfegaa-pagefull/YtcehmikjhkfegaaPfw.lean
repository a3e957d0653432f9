/- PageFull: its walk. -/
import Derived.Test.YtcehmikjhkfegaaPfd
namespace Go.Proofs.Ytcehmikjhkfegaa
open Go.ChangeShapes Go.WideShapes Go.ChangeAt Go.RowKit
set_option linter.unusedVariables false
set_option maxRecDepth 100000

/-- The state at the head of a round. -/
def St7 (w wr : World) (p n i c : Nat) (R : Int) : Prop := R = 248 - ((c * n + 2 * c : Nat) : Int) ∧ 8 + 2 * c + c * n ≤ 256 ∧ c ≤ i ∧ (c = i ∨ 256 < 8 + 2 * (c + 1) + (c + 1) * n) ∧ Pg wr p (lay 2 (full n c)) ∧ Kept (fun _ => False) w wr ∧ w.heap.size ≤ p
theorem St7.R {w wr : World} {p n i c : Nat} {R : Int} (h : St7 w wr p n i c R) : 0 ≤ R ∧ R ≤ 248 := by
  obtain ⟨h1, h2, _⟩ := h
  generalize c * n = z at *
  omega
theorem St7.fit {w wr : World} {p n i c : Nat} {R : Int} (h : St7 w wr p n i c R) : ((n : Int) + 2 ≤ R ↔ 8 + 2 * (c + 1) + (c + 1) * n ≤ 256) := by
  obtain ⟨h1, h2, _⟩ := h
  have e : (c + 1) * n = c * n + n := Nat.succ_mul c n
  rw [e]
  rw [h1]
  generalize c * n = z at *
  constructor <;> intro _ <;> omega
theorem St7.step {w wr w' : World} {p n i c : Nat} {R : Int} (h : St7 w wr p n i c R) (k : Kept (fun _ => False) wr w') : St7 w w' p n i c R := ⟨h.1, h.2.1, h.2.2.1, h.2.2.2.1, h.2.2.2.2.1.step k, h.2.2.2.2.2.1.trans k (fun _ z => z.elim), h.2.2.2.2.2.2⟩
theorem St7.stay {w wr : World} {p n i c : Nat} {R : Int} (h : St7 w wr p n i c R) (hb : 256 < 8 + 2 * (c + 1) + (c + 1) * n) : St7 w wr p n (i + 1) c R := ⟨h.1, h.2.1, by have := h.2.2.1; omega, .inr hb, h.2.2.2.2⟩
theorem St7.next {w wr w' : World} {p n i c : Nat} {R : Int} (h : St7 w wr p n i c R) (hb : 8 + 2 * (c + 1) + (c + 1) * n ≤ 256) (g : Pg w' p (lay 2 (full n c ++ [fc n i]))) (k : Kept (fun k => k = p) wr w') : St7 w w' p n (i + 1) (c + 1) (R - n - 2) := by
  obtain ⟨h1, h2, h3, h4, h5, h6, h7⟩ := h
  have hci : c = i := by omega
  subst hci
  refine ⟨?_, hb, Nat.le_refl _, .inl rfl, g, h6.trans k (fun i hi => .inr (by rw [hi]; exact h7)), h7⟩
  rw [Nat.succ_mul]
  generalize c * n = z at *
  omega
set_option maxHeartbeats 2000000 in
theorem full_walk {m0 : Int} (r q : Nat) (hr : r < 97) (hq : q < 128) (size many : Int) (h0 : bits .and .i64 size 255 = m0) (hm : m0.tmod 97 = (r : Int)) (h1 : bits .and .i64 many 127 = (q : Int)) (w : World) : Calls Try.prog 7 #[.int .i64 size, .int .i64 many] w fun e w' => e = .returned (.bool true) ∧ Kept (fun _ => False) w w' := by
  obtain ⟨n, hn⟩ : ∃ n, n = r + 3 := ⟨_, rfl⟩
  have HN : Hid (3 ≤ n ∧ n ≤ 99 ∧ (n : Int) = 3 + (r : Int)) := ⟨by omega, by omega, by omega⟩
  have HAW : Hid (∀ V, Calls Try.prog 11 #[] V fun e w' => e = .returned (.bool true) ∧ Hid (Kept (fun _ => False) V w')) := fun V => awake_is V
  have HNW : Hid (∀ V, Calls Try.prog 9 #[.int .i64 2] V fun e w' => ∃ p, e = .returned (.tuple #[.pointer (some ⟨p, 0, none⟩), .int .i64 0]) ∧ Hid (Pg w' p (lay 2 []) ∧ Kept (fun _ => False) V w' ∧ V.heap.size ≤ p)) := fun V => new_is 2 (by decide) (by decide) V
  clear hn
  go_enter Try.func7, Try.ntmps7
  go_wp2_with fail
  refine Calls.mono (HNW.out _) ?_; rintro e x1 ⟨p, rfl, HM⟩
  have S0 : Hid (St7 w x1 p n 0 0 248) := ⟨by simp, by omega, Nat.le_refl _, .inl rfl, HM.out.1, HM.out.2.1, HM.out.2.2⟩
  clear HM HNW
  have HFR : Hid (∀ V i c R, St7 w V p n i c R → Calls Try.prog 23 #[.pointer (some ⟨p, 0, none⟩)] V fun e w' => e = .returned (.int .i64 (max 0 (R - 2))) ∧ Hid (St7 w w' p n i c R)) := fun V i c R h => by
    have := full_free h.2.2.2.2.1 (by have := HN.out; omega) (by have := HN.out; omega) h.2.1
    rw [← h.1, Int.max_comm] at this
    exact this.mono fun e w' ⟨q1, q2⟩ => ⟨q1, h.step q2⟩
  have HPU : Hid (∀ V i c R, i < 128 → St7 w V p n i c R → Calls Try.prog 24 #[.pointer (some ⟨p, 0, none⟩), .string ⟨#[107, UInt8.ofNat i]⟩, .string ⟨(List.replicate (n - 2) (0 : UInt8)).toArray⟩] V fun e w' => ((3 + (r : Int) + 2 ≤ R ∧ e = .returned (.int .i64 0) ∧ Hid (∃ c', St7 w w' p n (i + 1) c' (R - (3 + (r : Int)) - 2))) ∨ (R < 3 + (r : Int) + 2 ∧ e = .returned (.int .i64 2) ∧ Hid (∃ c', St7 w w' p n (i + 1) c' R)))) := fun V i c R hi h => by
    have hn := HN.out
    refine (full_add i h.2.2.2.2.1 hn.1 (by omega) h.2.1 h.2.2.1 hi ⟨(List.replicate (n - 2) (0 : UInt8)).toArray⟩ (by simp)).mono fun e w' hE => ?_
    have hf := h.fit
    rcases hE with ⟨g1, g2, g3, g4⟩ | ⟨g1, g2, g3, g4⟩
    · exact .inr ⟨by have := fun z => Nat.not_lt.2 (hf.1 z) g1; omega, g2, c, (h.step g4).stay g1⟩
    · refine .inl ⟨by have := hf.2 g1; omega, g2, c + 1, ?_⟩
      have := h.next g1 g3 g4
      rw [hn.2.2] at this
      exact this
  go_wp2_with fail
  go_loopw [8, 9] (fun v8 v9 wr => ∃ (i : Nat) (R : Int), i ≤ q ∧ (0 ≤ R ∧ R ≤ 248) ∧ v8 = .int .i64 R ∧ v9 = .int .i64 i ∧ Hid (∃ c, St7 w wr p n i c R)) (fun _ v9 _ => q - (intOf v9).toNat)
  case atStart => exact ⟨0, 248, by omega, by omega, rfl, rfl, 0, S0.out⟩
  case round =>
    obtain ⟨i, R, hi, hR, rfl, rfl, HS⟩ := hrel
    clear S0
    obtain ⟨c, hS⟩ := HS.out
    have S1 : Hid (St7 w wr p n i c R) := hS
    clear hS HS
    by_cases hlt : i < q
    · obtain ⟨W1, hW1⟩ : ∃ W, wr.alloc (.cells #[.int .u8 107, .int .u8 (i : Int)] 5) = W := ⟨_, rfl⟩
      obtain ⟨b1, hb1⟩ : ∃ b, wr.heap.size = b := ⟨_, rfl⟩
      have HB : Hid ((Instr.buildSlice 46 2 #[(0, .int .u8 107), (1, .int .u8 (i : Int))]).run Try.prog wr = .ok (.slice (some ⟨b1, 0, none⟩) 2 2) W1) := by have := bs2 107 (i : Int) wr; rw [hW1, hb1] at this; exact this
      have hu : (UInt8.ofNat i).toNat = i := by rw [UInt8.toNat_ofNat']; omega
      have hc1 : (convert 46 9 (.slice (some ⟨b1, 0, none⟩) 2 2)).run Try.prog W1 = .ok (.string ⟨#[107, UInt8.ofNat i]⟩) W1 := by
        have := convB wr [107, UInt8.ofNat i] (by simp) 2
        have e : ([107, UInt8.ofNat i].map (fun b => Value.int .u8 b.toNat)).toArray = #[.int .u8 107, .int .u8 (i : Int)] := by simp [hu]
        rw [e, hW1, hb1] at this
        exact this
      have S2 : Hid (St7 w W1 p n i c R) := S1.out.step (hW1 ▸ (Kept.refl _ wr).alloc _)
      have hlq : (i : Int) < (q : Int) := by omega
      clear hW1 hb1 S1 hu
      go_wp2_with ((with_reducible apply st_bslice); (case ho => rfl); (case hgd => rfl); (case hr => exact HB.out))
      refine Calls.mono (HFR.out _ _ _ _ S2.out) ?_; rintro e x2 ⟨rfl, S3⟩
      clear S2 hc1 HB
      obtain ⟨W3, hW3⟩ : ∃ W, x2.alloc (.cells (List.replicate (r + 1) (.int .u8 0)).toArray 5) = W := ⟨_, rfl⟩
      obtain ⟨b3, hb3⟩ : ∃ b, x2.heap.size = b := ⟨_, rfl⟩
      have er : ((r + 1 : Nat) : Int) = 3 + (r : Int) - 2 := by omega
      have HB : Hid ((Instr.makeSlice 46 (.int .i64 (3 + (r : Int) - 2)) (.int .i64 (3 + (r : Int) - 2))).run Try.prog x2 = .ok (.slice (some ⟨b3, 0, none⟩) (r + 1) (r + 1)) W3) := by have := mkB (r + 1) (by omega) x2; rw [hW3, hb3, er] at this; exact this
      have hc3 : (convert 46 9 (.slice (some ⟨b3, 0, none⟩) (r + 1) (r + 1))).run Try.prog W3 = .ok (.string ⟨(List.replicate (n - 2) (0 : UInt8)).toArray⟩) W3 := by
        have := convB x2 (List.replicate (r + 1) 0) (by simp) (r + 1)
        have e : ((List.replicate (r + 1) (0 : UInt8)).map (fun b => Value.int .u8 b.toNat)).toArray = (List.replicate (r + 1) (Value.int .u8 0)).toArray := by rw [List.map_replicate]; rfl
        rw [e, hW3, hb3, List.length_replicate, show r + 1 = n - 2 by have := HN.out; omega] at this
        rw [show r + 1 = n - 2 by have := HN.out; omega]
        exact this
      have S4 : Hid (St7 w W3 p n i c R) := S3.out.step (hW3 ▸ (Kept.refl _ x2).alloc _)
      clear hW3 hb3 S3 er
      go_wp2_with ((with_reducible apply st_make); (case ho => rfl); (case hgd => rfl); (case hr => exact HB.out))
      refine Calls.mono (HPU.out _ _ _ _ (by omega) S4.out) ?_; intro e x4 hE
      clear S4 hc3 HB
      rcases hE with ⟨hfit, rfl, HS⟩ | ⟨hfit, rfl, HS⟩
      · go_wp2_with fail
        go_roundw
        case rel => exact ⟨i + 1, R - (3 + (r : Int)) - 2, by omega, by omega, rfl, by simp, HS.out⟩
        case measure => simp [intOf]; omega
      · have hnf : (decide (3 + (r : Int) + 2 ≤ R)) = false := decide_eq_false (by omega)
        go_wp2_with fail
        go_roundw
        case rel => exact ⟨i + 1, R, by omega, by omega, rfl, by simp, HS.out⟩
        case measure => simp [intOf]; omega
    · have hlq : ¬ (i : Int) < (q : Int) := by omega
      clear HFR HPU hlt
      rcases Nat.eq_zero_or_pos c with hc0 | hc0
      · subst hc0
        have HAT : Hid (Calls Try.prog 20 #[.pointer (some ⟨p, 0, none⟩), .int .i64 0] wr fun e w' => e = .returned (.tuple #[.string ⟨#[]⟩, .string ⟨#[]⟩]) ∧ Hid (Kept (fun _ => False) w w')) := (full_at0 S1.out.2.2.2.2.1).mono fun e w' ⟨q1, q2⟩ => ⟨q1, S1.out.2.2.2.2.2.1.trans q2 (fun _ z => z.elim)⟩
        go_wp2_with fail
        refine Calls.mono HAT.out ?_; rintro e x2 ⟨rfl, K2⟩
        clear HAT S1
        go_wp2_with fail
        refine Calls.mono (HAW.out _) ?_; rintro e x3 ⟨rfl, K3⟩
        have K4 : Hid (Kept (fun _ => False) w x3) := K2.out.trans K3.out (fun _ z => z.elim)
        clear K2 K3
        go_wp2_with fail
        go_ret
        exact ⟨rfl, K4.out⟩
      · have HAT : Hid (Calls Try.prog 20 #[.pointer (some ⟨p, 0, none⟩), .int .i64 0] wr fun e w' => ∃ s, e = .returned (.tuple #[.string ⟨#[107, 0]⟩, .string s]) ∧ Hid (St7 w w' p n i c R)) := (full_at S1.out.2.2.2.2.1 (by have := HN.out; omega) (by have := HN.out; omega) S1.out.2.1 hc0).mono fun e w' ⟨⟨s, q1⟩, q2⟩ => ⟨s, q1, S1.out.step q2⟩
        have HC : Hid (c ≤ 200) := by have := S1.out.2.1; show c ≤ 200; omega
        go_wp2_with fail
        refine Calls.mono HAT.out ?_; rintro e x2 ⟨s, rfl, S2⟩
        clear HAT S1
        have HD1 : Hid (Calls Try.prog 25 #[.pointer (some ⟨p, 0, none⟩), .string ⟨#[107, 0]⟩] x2 fun e w' => e = .returned (.int .i64 0) ∧ Hid ((Pg w' p (lay 2 ((full n c).drop 1)) ∧ okC ((full n c).drop 1)) ∧ Kept (fun _ => False) w w')) := (full_drop S2.out.2.2.2.2.1 (by have := HN.out; omega) (by have := HN.out; omega) S2.out.2.1 hc0).mono fun e w' ⟨q1, q2, q3⟩ => ⟨q1, q2, S2.out.2.2.2.2.2.1.trans q3 (fun i hi => .inr (by rw [hi]; exact S2.out.2.2.2.2.2.2))⟩
        have HD2 : Hid (∀ V, Pg V p (lay 2 ((full n c).drop 1)) ∧ okC ((full n c).drop 1) → Calls Try.prog 25 #[.pointer (some ⟨p, 0, none⟩), .string ⟨#[107, 0]⟩] V fun e w' => e = .returned (.int .i64 3) ∧ Hid (Pg w' p (lay 2 ((full n c).drop 1)) ∧ Kept (fun _ => False) V w')) := fun V h => rest_drop h.1 h.2 HC.out
        have HF : Hid (∀ V, Pg V p (lay 2 ((full n c).drop 1)) ∧ okC ((full n c).drop 1) → Calls Try.prog 23 #[.pointer (some ⟨p, 0, none⟩)] V fun e w' => e = .returned (.int .i64 (max 0 (R + (3 + (r : Int))))) ∧ Hid (Kept (fun _ => False) V w')) := fun V h => by
          have := rest_free h.1 h.2 (by have := HN.out; omega) hc0
          rw [← S2.out.1, Int.max_comm, HN.out.2.2] at this
          exact this
        clear S2
        go_wp2_with fail
        refine Calls.mono HD1.out ?_; rintro e x3 ⟨rfl, K3⟩
        clear HD1
        go_wp2_with fail
        refine Calls.mono (HD2.out _ K3.out.1) ?_; rintro e x4 ⟨rfl, K4⟩
        have K5 : Hid ((Pg x4 p (lay 2 ((full n c).drop 1)) ∧ okC ((full n c).drop 1)) ∧ Kept (fun _ => False) w x4) := ⟨⟨K4.out.1, K3.out.1.2⟩, K3.out.2.trans K4.out.2 (fun _ z => z.elim)⟩
        clear HD2 K3 K4
        go_wp2_with fail
        refine Calls.mono (HF.out _ K5.out.1) ?_; rintro e x5 ⟨rfl, K6⟩
        have K7 : Hid (Kept (fun _ => False) w x5) := K5.out.2.trans K6.out (fun _ z => z.elim)
        clear HF K5 K6
        go_wp2_with fail
        refine Calls.mono (HAW.out _) ?_; rintro e x6 ⟨rfl, K8⟩
        have K9 : Hid (Kept (fun _ => False) w x6) := K7.out.trans K8.out (fun _ z => z.elim)
        clear K7 K8
        go_wp2_with fail
        go_ret
        exact ⟨rfl, K9.out⟩
end Go.Proofs.Ytcehmikjhkfegaa
