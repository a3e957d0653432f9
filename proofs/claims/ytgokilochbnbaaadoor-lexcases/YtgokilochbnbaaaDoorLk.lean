/- LexCases walked. -/
import Derived.Test.YtgokilochbnbaaaDoorLc
import Derived.LoopTactic
import Derived.Laws.BitsAllLaws
import Derived.Deep.RegionHeld
namespace Go.Proofs.YtgokilochbnbaaaDoor
open Go.ChangeShapes Go.WideShapes Go.ChangeAt Go.RowKit
set_option linter.unusedVariables false
set_option maxRecDepth 100000

structure CS (w wr : World) (j : Nat) (v3 v4 : Value) (ms : List Nat) : Prop where
  ltr : Ltr ms
  len : ms.length = j
  low : OwnB wr w.heap.size v3 (lowL ms)
  high : OwnB wr w.heap.size v4 (highL ms)
  lo : Below w.heap.size w wr
  ne : ∀ g, v3.ownBlock = some g → v4.ownBlock ≠ some g
theorem lowL_len (ms : List Nat) : (lowL ms).length = ms.length := by simp [lowL]
theorem highL_len (ms : List Nat) : (highL ms).length = ms.length := by simp [highL]
theorem lowL_snoc (ms : List Nat) (m : Nat) : lowL (ms ++ [m]) = lowL ms ++ [UInt8.ofNat (97 + m)] := by simp [lowL]
theorem highL_snoc (ms : List Nat) (m : Nat) : highL (ms ++ [m]) = highL ms ++ [UInt8.ofNat (65 + m)] := by simp [highL]
theorem CS.start (w : World) : CS w w 0 (.slice none 0 0) (.slice none 0 0) [] := ⟨(fun m hm => (by cases hm)), rfl, OwnB.nil _ _, OwnB.nil _ _, Below.refl _ _, (fun g hg => (by cases hg))⟩
theorem CS.step {w wr : World} {j : Nat} {v3 v4 : Value} {ms : List Nat} (h : CS w wr j v3 v4 ms) (hj : j ≤ 1000) (m : Nat) (hm : m < 26) (L H : Int) (hL : L = ((97 + m : Nat) : Int)) (hH : H = ((65 + m : Nat) : Int)) :
    ∃ v3' w1, (Builtin.append_ #[35, 35] 35 #[v3, .slice (some ⟨wr.heap.size, 0, none⟩) 1 1]).run Tryd.prog (wr.alloc (.cells #[.int .u8 L] 5)) = .ok v3' w1 ∧
    ∃ v4' w2, (Builtin.append_ #[35, 35] 35 #[v4, .slice (some ⟨w1.heap.size, 0, none⟩) 1 1]).run Tryd.prog (w1.alloc (.cells #[.int .u8 H] 5)) = .ok v4' w2 ∧ CS w w2 (j + 1) v3' v4' (ms ++ [m]) := by
  obtain ⟨v3', w1, a1, o1, b1, k1, n1⟩ := append_byte h.low (UInt8.ofNat (97 + m)) (by rw [lowL_len, h.len]; omega) h.lo.size
  rw [(low_ok m hm).2.2, ← hL] at a1
  have s1 : wr.heap.size ≤ w1.heap.size := b1.size
  have h4 : OwnB w1 w.heap.size v4 (highL ms) := h.high.far (fun g hg => k1 g (World.ownsRow.lt h.high g hg).2 (fun e => h.ne g e.symm hg))
  obtain ⟨v4', w2, a2, o2, b2, k2, n2⟩ := append_byte h4 (UInt8.ofNat (65 + m)) (by rw [highL_len, h.len]; omega) (Nat.le_trans h.lo.size s1)
  rw [(high_ok m hm).2.2.2, ← hH] at a2
  have n1' : ∀ g, v3'.ownBlock = some g → v4.ownBlock ≠ some g := fun g hg hq => by
    rcases n1 with n1 | ⟨k, n1, hk⟩
    · exact h.ne g (n1.symm.trans hg) hq
    · rw [n1] at hg
      cases hg
      have := (World.ownsRow.lt h.high _ hq).2
      omega
  refine ⟨v3', w1, a1, v4', w2, a2, ⟨fun x hx => ?_, by rw [List.length_append, h.len]; rfl, ?_, ?_, (h.lo.trans b1).trans b2, fun g hg hq => ?_⟩⟩
  · rcases List.mem_append.1 hx with hx | hx
    · exact h.ltr x hx
    · obtain rfl : x = m := by simpa using hx
      exact hm
  · rw [lowL_snoc]
    exact o1.far (fun g hg => k2 g (World.ownsRow.lt o1 g hg).2 (fun e => n1' g hg e.symm))
  · rw [highL_snoc]; exact o2
  · rcases n2 with n2 | ⟨k, n2, hk⟩
    · exact n1' g hg (n2.symm.trans hq)
    · rw [n2] at hq
      cases hq
      have := (World.ownsRow.lt o1 _ hg).2
      omega
theorem cases_short (s : ByteArray) (h : (s.size : Int) < 1) (w : World) (hg : Glob w) : Calls Tryd.prog 7 #[.string s] w fun e w' => e = .returned (.bool true) ∧ Below w.heap.size w w' := by
  have HA : Hid AwkC := awk_c
  have HG : Hid (Glob w) := hg
  clear hg
  go_enter Tryd.func7, Tryd.ntmps7
  go_wp2_with fail
  refine Calls.mono (HA.out _ HG.out) ?_; rintro e w1 ⟨rfl, k1⟩
  have HK : Hid (Below w.heap.size w w1) := k1
  clear k1
  go_wp2_with fail
  go_ret
  exact ⟨rfl, HK.out⟩
theorem cases_long (s : ByteArray) (h : ¬ (s.size : Int) < 1) (h2 : 30 < (s.size : Int)) (w : World) (hg : Glob w) : Calls Tryd.prog 7 #[.string s] w fun e w' => e = .returned (.bool true) ∧ Below w.heap.size w w' := by
  have HA : Hid AwkC := awk_c
  have HG : Hid (Glob w) := hg
  clear hg
  go_enter Tryd.func7, Tryd.ntmps7
  go_wp2_with fail
  refine Calls.mono (HA.out _ HG.out) ?_; rintro e w1 ⟨rfl, k1⟩
  have HK : Hid (Below w.heap.size w w1) := k1
  clear k1
  go_wp2_with fail
  go_ret
  exact ⟨rfl, HK.out⟩
/-- A row of one token and the end. -/
abbrev row1 (x : TK) (n : Nat) : List (TK × Nat) := [(x, 0), (endT, n)]
theorem tok_row {L : List UInt8} {x : TK} {n : Nat} (h : tokV L = (row1 x n, 0, 0)) (w : World) (hg : Glob w) :
    Calls Tryd.prog 9 #[.string ⟨L.toArray⟩] w fun e w' => ∃ g c, e = .returned (.tuple #[.slice (some ⟨g, 0, none⟩) 2 c, .int .i64 0, .int .i64 0]) ∧ Cells w' g (row1 x n) ∧ Below w.heap.size w w' := by
  refine (tokens_is ⟨L.toArray⟩ w hg).mono ?_
  rintro e w' ⟨v, rfl, o, k⟩
  have e1 : tokV (⟨L.toArray⟩ : ByteArray).data.toList = (row1 x n, 0, 0) := h
  rw [e1] at o ⊢
  obtain ⟨g, c, rfl, hc, _⟩ := OwnT.cells o (by simp)
  exact ⟨g, c, rfl, hc, k⟩

set_option maxHeartbeats 4000000 in
theorem cases_in (s : ByteArray) (h : ¬ (s.size : Int) < 1) (h2 : ¬ 30 < (s.size : Int)) (w : World) (hg : Glob w) : Calls Tryd.prog 7 #[.string s] w fun e w' => e = .returned (.bool true) ∧ Below w.heap.size w w' := by
  have HA : Hid AwkC := awk_c
  have HG : Hid (Glob w) := hg
  have H0 : Hid (CS w w 0 (.slice none 0 0) (.slice none 0 0) []) := CS.start w
  clear hg
  go_enter Tryd.func7, Tryd.ntmps7
  go_wp2_with fail
  go_loopw [3, 4, 5] (fun v3 v4 i wr => ∃ (j : Nat), j ≤ s.size ∧ i = .int .i64 (j : Int) ∧ Hid (∃ ms, CS w wr j v3 v4 ms)) (fun _ _ i _ => s.size - (intOf i).toNat)
  case atStart => exact ⟨0, Nat.zero_le _, rfl, _, H0.out⟩
  case round =>
    obtain ⟨j, hj, rfl, HM⟩ := hrel
    by_cases hlt : j < s.size
    · have hlti : (j : Int) < (s.size : Int) := by omega
      obtain ⟨X, hX⟩ : ∃ X, bits BinOp.and IntKind.u8 (s[j].toNat : Int) 31 = X := ⟨_, rfl⟩
      have HX : Hid (0 ≤ X) := by
        show 0 ≤ X
        rw [← hX, u8_and (s[j].toNat : Int) 31 (by omega) (by have := s[j].toNat_lt; omega) (by omega) (by omega)]
        omega
      obtain ⟨E, hE⟩ : ∃ E, X.tmod 26 = E := ⟨_, rfl⟩
      obtain ⟨L, hL⟩ : ∃ L, (97 + E) % 256 = L := ⟨_, rfl⟩
      obtain ⟨H, hH⟩ : ∃ H, (65 + E) % 256 = H := ⟨_, rfl⟩
      have HE : Hid (0 ≤ E ∧ E < 26) := by
        show 0 ≤ E ∧ E < 26
        have := HX.out
        rw [← hE, Int.tmod_eq_emod_of_nonneg this]
        omega
      have HR : Hid (∃ v3' w1, (Builtin.append_ #[35, 35] 35 #[u3, .slice (some ⟨wr.heap.size, 0, none⟩) 1 1]).run Tryd.prog (wr.alloc (.cells #[.int .u8 L] 5)) = .ok v3' w1 ∧
          ∃ v4' w2, (Builtin.append_ #[35, 35] 35 #[u4, .slice (some ⟨w1.heap.size, 0, none⟩) 1 1]).run Tryd.prog (w1.alloc (.cells #[.int .u8 H] 5)) = .ok v4' w2 ∧ ∃ ms, CS w w2 (j + 1) v3' v4' ms) := by
        obtain ⟨ms, hc⟩ := HM.out
        have := HE.out
        obtain ⟨a, b, c, d, e, f, g⟩ := hc.step (by omega) E.toNat (by omega) L H (by omega) (by omega)
        exact ⟨a, b, c, d, e, f, _, g⟩
      obtain ⟨v3', w1, r1, v4', w2, r2, hc⟩ := HR.out
      have R1 : Hid ((Builtin.append_ #[35, 35] 35 #[u3, .slice (some ⟨wr.heap.size, 0, none⟩) 1 1]).run Tryd.prog (wr.alloc (.cells #[.int .u8 L] 5)) = .ok v3' w1) := r1
      have R2 : Hid ((Builtin.append_ #[35, 35] 35 #[u4, .slice (some ⟨w1.heap.size, 0, none⟩) 1 1]).run Tryd.prog (w1.alloc (.cells #[.int .u8 H] 5)) = .ok v4' w2) := r2
      have HC2 : Hid (∃ ms, CS w w2 (j + 1) v3' v4' ms) := hc
      clear r1 r2 hc HR HM
      go_wp2_with (first | ((with_reducible apply st_append (x := .tmp 37)); (case ho => rfl); (case hgd => rfl); (case hr => exact R1.out)) | ((with_reducible apply st_append (x := .tmp 42)); (case ho => rfl); (case hgd => rfl); (case hr => exact R2.out)))
      go_roundw
      case rel => exact ⟨j + 1, by omega, by go_num, HC2⟩
      case measure => simp [intOf]; omega
    · have hlti : ¬ (j : Int) < (s.size : Int) := by omega
      obtain ⟨ms, hc⟩ := HM.out
      have hms : ms.length = j := hc.len
      have HC : Hid (CS w wr j u3 u4 ms) := hc
      have hm0 : ms ≠ [] := fun e => by rw [e] at hms; simp at hms; omega
      have h0 : lowL ms ≠ [] := fun e => hm0 (by simpa [lowL] using e)
      have h0' : highL ms ≠ [] := fun e => hm0 (by simpa [highL] using e)
      have hhd : ltB ((lowL ms).headD 0) = true ∧ ltB ((highL ms).headD 0) = true := by
        cases ms with
        | nil => exact absurd rfl hm0
        | cons m r => exact ⟨(low_ok m (hc.ltr m (by simp))).1, (high_ok m (hc.ltr m (by simp))).1⟩
      have h34 : ∀ c ∈ highL ms, c ≠ 34 := fun c hc' => by
        obtain ⟨m, hm, rfl⟩ := List.mem_map.1 hc'
        exact (high_ok m (hc.ltr m hm)).2.2.1
      have e1 := tok_word h0 hhd.1 (low_wd hc.ltr) (by rw [lowL_len]; omega)
      have e2 := tok_word h0' hhd.2 (high_wd hc.ltr) (by rw [highL_len]; omega)
      have e3 := tok_quoted h0' h34 (by rw [highL_len]; omega)
      rw [low_up hc.ltr, lowL_len] at e1
      rw [high_up hc.ltr, highL_len] at e2
      rw [highL_len] at e3
      have hke : ∀ w, Calls Tryd.prog 14 #[.string ⟨(highL ms).toArray⟩] w fun e w' => e = .returned (.bool (keyB (highL ms))) ∧ w' = w := fun w => by
        have := key_is ⟨(highL ms).toArray⟩ w
        rw [toList_ba] at this
        exact this
      have ta := fun w hg => tok_row (x := if keyB (highL ms) then ⟨2, highL ms, 0, ms.length⟩ else ⟨1, lowL ms, 0, ms.length⟩) e1 w hg
      have tb := fun w hg => tok_row (x := if keyB (highL ms) then ⟨2, highL ms, 0, ms.length⟩ else ⟨1, highL ms, 0, ms.length⟩) e2 w hg
      have tk := hke
      have tc := fun w hg => tok_row e3 w hg
      obtain ⟨LO, hLO⟩ : ∃ LO : ByteArray, LO = ⟨(lowL ms).toArray⟩ := ⟨_, rfl⟩
      obtain ⟨HI, hHI⟩ : ∃ HI : ByteArray, HI = ⟨(highL ms).toArray⟩ := ⟨_, rfl⟩
      have e4 : (⟨(34 :: (highL ms ++ [34])).toArray⟩ : ByteArray) = ⟨#[34]⟩ ++ HI ++ ⟨#[34]⟩ := by rw [hHI]; exact (quote_cat 34 (highL ms)).symm
      rw [e4] at tc
      rw [← hLO] at ta
      rw [← hHI] at tb tk
      have HLO : Hid ((⟨(lowL ms).toArray⟩ : ByteArray) = LO) := hLO.symm
      have HHI : Hid ((⟨(highL ms).toArray⟩ : ByteArray) = HI) := hHI.symm
      have HI3 : Hid (∀ W, OwnB W w.heap.size u3 (lowL ms) → (convert 35 9 u3).run Tryd.prog W = .ok (.string LO) W) := fun W o => by rw [hLO]; exact o.str
      have HI4 : Hid (∀ W, OwnB W w.heap.size u4 (highL ms) → (convert 35 9 u4).run Tryd.prog W = .ok (.string HI) W) := fun W o => by rw [hHI]; exact o.str
      have cv3 : (convert 35 9 u3).run Tryd.prog wr = .ok (.string LO) wr := HI3.out wr hc.low
      have cv4r : (convert 35 9 u4).run Tryd.prog wr = .ok (.string HI) wr := HI4.out wr hc.high
      have HA3 : Hid (∀ w, Glob w → Calls Tryd.prog 9 #[.string (⟨#[34]⟩ ++ HI ++ ⟨#[34]⟩)] w fun e w' => ∃ g c, e = .returned (.tuple #[.slice (some ⟨g, 0, none⟩) 2 c, .int .i64 0, .int .i64 0]) ∧ Cells w' g (row1 ⟨1, highL ms, 0, ms.length + 2⟩ (ms.length + 2)) ∧ Below w.heap.size w w') := tc
      have HG2 : Hid (Glob wr) := HG.out.next hc.lo
      have HSC : Hid (∀ (V W : World), Below V.heap.size V W → ∀ {a : Addr} {u : Value}, V.cell? a = some u → W.cell? a = some u) := fun V W k a u hu => (k.cell (p := a) (World.block_lt_of_cell? V _ hu)).trans hu
      have hsz : HI.size ≤ 30 := by rw [hHI, size_ba, highL_len]; omega
      have hz34 : (⟨#[34]⟩ : ByteArray).size = 1 := rfl
      clear hc hm0 h0 h0' hhd h34 e1 e2 e3 e4 hke tc hLO hHI HM hms
      generalize u3 = v3 at *
      generalize u4 = v4 at *
      cases hk : keyB (highL ms)
      · rw [hk] at ta tb tk
        simp only [Bool.false_eq_true, if_false] at ta tb
        clear hk
        have HA1 : Hid (∀ w, Glob w → Calls Tryd.prog 9 #[.string LO] w fun e w' => ∃ g c, e = .returned (.tuple #[.slice (some ⟨g, 0, none⟩) 2 c, .int .i64 0, .int .i64 0]) ∧ Cells w' g (row1 ⟨1, lowL ms, 0, ms.length⟩ ms.length) ∧ Below w.heap.size w w') := ta
        have HA2 : Hid (∀ w, Glob w → Calls Tryd.prog 9 #[.string HI] w fun e w' => ∃ g c, e = .returned (.tuple #[.slice (some ⟨g, 0, none⟩) 2 c, .int .i64 0, .int .i64 0]) ∧ Cells w' g (row1 ⟨1, highL ms, 0, ms.length⟩ ms.length) ∧ Below w.heap.size w w') := tb
        have HKE : Hid (∀ w, Calls Tryd.prog 14 #[.string HI] w fun e w' => e = .returned (.bool false) ∧ w' = w) := tk
        clear ta tb tk
        go_wp2_with fail
        refine Calls.mono (HA1.out _ HG2.out) ?_; rintro e w1 ⟨ga, ca, rfl, ca1, k1⟩
        have HB1 : Hid (Below w.heap.size w w1) := Below.next HC.out.lo k1
        have HGa : Hid (Glob w1) := HG2.out.next k1
        have HO3 : Hid (OwnB w1 w.heap.size v3 (lowL ms)) := HC.out.low.next k1
        have HO4 : Hid (OwnB w1 w.heap.size v4 (highL ms)) := HC.out.high.next k1
        have HCa : Hid (Cells w1 ga (row1 ⟨1, lowL ms, 0, ms.length⟩ ms.length)) := ca1
        have cv4 : (convert 35 9 v4).run Tryd.prog w1 = .ok (.string HI) w1 := HI4.out w1 HO4.out
        clear k1 ca1 cv3 cv4r
        go_wp2_with fail
        refine Calls.mono (HA2.out _ HGa.out) ?_; rintro e w2 ⟨gb, cb, rfl, cb1, k2⟩
        have HB2 : Hid (Below w.heap.size w w2) := Below.next HB1.out k2
        have HGb : Hid (Glob w2) := HGa.out.next k2
        have HO3b : Hid (OwnB w2 w.heap.size v3 (lowL ms)) := HO3.out.next k2
        have HO4b : Hid (OwnB w2 w.heap.size v4 (highL ms)) := HO4.out.next k2
        have HCa2 : Hid (Cells w2 ga (row1 ⟨1, lowL ms, 0, ms.length⟩ ms.length)) := HCa.out.next k2
        have HCb2 : Hid (Cells w2 gb (row1 ⟨1, highL ms, 0, ms.length⟩ ms.length)) := cb1
        have cv5 : (convert 35 9 v4).run Tryd.prog w2 = .ok (.string HI) w2 := HI4.out w2 HO4b.out
        clear k2 cb1 cv4
        go_wp2_with fail
        refine Calls.mono (HA3.out _ HGb.out) ?_; rintro e w3 ⟨gc, cc, rfl, cc1, k3⟩
        have HB3 : Hid (Below w.heap.size w w3) := Below.next HB2.out k3
        have HGc : Hid (Glob w3) := HGb.out.next k3
        have HO3c : Hid (OwnB w3 w.heap.size v3 (lowL ms)) := HO3b.out.next k3
        have HO4c : Hid (OwnB w3 w.heap.size v4 (highL ms)) := HO4b.out.next k3
        have HCa3 : Hid (Cells w3 ga (row1 ⟨1, lowL ms, 0, ms.length⟩ ms.length)) := HCa2.out.next k3
        have HCb3 : Hid (Cells w3 gb (row1 ⟨1, highL ms, 0, ms.length⟩ ms.length)) := HCb2.out.next k3
        have HCc3 : Hid (Cells w3 gc (row1 ⟨1, highL ms, 0, ms.length + 2⟩ (ms.length + 2))) := cc1
        have cv6 : (convert 35 9 v4).run Tryd.prog w3 = .ok (.string HI) w3 := HI4.out w3 HO4c.out
        clear k3 cc1 cv5
        go_wp2_with fail
        refine Calls.mono (HKE.out _) ?_; rintro e w4 ⟨rfl, rfl⟩
        have HS0 : Hid ((fun (W : World) => (Glob W ∧ Below w.heap.size w W) ∧ W.cell? ⟨ga, 0, none⟩ = some (.int .i64 1) ∧ W.cell? ⟨ga, 1, none⟩ = some (.string LO) ∧ W.cell? ⟨ga, 2, none⟩ = some (.int .i64 0) ∧ W.cell? ⟨ga, 3, none⟩ = some (.int .i64 0) ∧ W.cell? ⟨gb, 0, none⟩ = some (.int .i64 1) ∧ W.cell? ⟨gb, 1, none⟩ = some (.string HI) ∧ W.cell? ⟨gb, 2, none⟩ = some (.int .i64 0) ∧ W.cell? ⟨gb, 3, none⟩ = some (.int .i64 0) ∧ W.cell? ⟨gc, 0, none⟩ = some (.int .i64 1) ∧ W.cell? ⟨gc, 1, none⟩ = some (.string HI) ∧ W.cell? ⟨gc, 2, none⟩ = some (.int .i64 0) ∧ W.cell? ⟨gc, 3, none⟩ = some (.int .i64 0) ∧ (convert 35 9 v3).run Tryd.prog W = .ok (.string LO) W ∧ (convert 35 9 v4).run Tryd.prog W = .ok (.string HI) W) w4.drew) := ⟨⟨HGc.out, HB3.out.drew⟩, HCa3.out 0 _ rfl, (HLO.out ▸ HCa3.out 1 _ rfl), HCa3.out 2 _ rfl, HCa3.out 3 _ rfl, HCb3.out 0 _ rfl, (HHI.out ▸ HCb3.out 1 _ rfl), HCb3.out 2 _ rfl, HCb3.out 3 _ rfl, HCc3.out 0 _ rfl, (HHI.out ▸ HCc3.out 1 _ rfl), HCc3.out 2 _ rfl, HCc3.out 3 _ rfl, HI3.out _ (HO3c.out.next (drewN_below w4 1)), HI4.out _ (HO4c.out.next (drewN_below w4 1))⟩
        have HSN : Hid (∀ W, Below w4.drew.heap.size w4.drew W → (fun (W : World) => (Glob W ∧ Below w.heap.size w W) ∧ W.cell? ⟨ga, 0, none⟩ = some (.int .i64 1) ∧ W.cell? ⟨ga, 1, none⟩ = some (.string LO) ∧ W.cell? ⟨ga, 2, none⟩ = some (.int .i64 0) ∧ W.cell? ⟨ga, 3, none⟩ = some (.int .i64 0) ∧ W.cell? ⟨gb, 0, none⟩ = some (.int .i64 1) ∧ W.cell? ⟨gb, 1, none⟩ = some (.string HI) ∧ W.cell? ⟨gb, 2, none⟩ = some (.int .i64 0) ∧ W.cell? ⟨gb, 3, none⟩ = some (.int .i64 0) ∧ W.cell? ⟨gc, 0, none⟩ = some (.int .i64 1) ∧ W.cell? ⟨gc, 1, none⟩ = some (.string HI) ∧ W.cell? ⟨gc, 2, none⟩ = some (.int .i64 0) ∧ W.cell? ⟨gc, 3, none⟩ = some (.int .i64 0) ∧ (convert 35 9 v3).run Tryd.prog W = .ok (.string LO) W ∧ (convert 35 9 v4).run Tryd.prog W = .ok (.string HI) W) W) := fun W k => ⟨⟨Glob.next (w := w4.drew) HGc.out k, Below.next HB3.out.drew k⟩, HSC.out _ _ k (HCa3.out 0 _ rfl), HSC.out _ _ k (HLO.out ▸ HCa3.out 1 _ rfl), HSC.out _ _ k (HCa3.out 2 _ rfl), HSC.out _ _ k (HCa3.out 3 _ rfl), HSC.out _ _ k (HCb3.out 0 _ rfl), HSC.out _ _ k (HHI.out ▸ HCb3.out 1 _ rfl), HSC.out _ _ k (HCb3.out 2 _ rfl), HSC.out _ _ k (HCb3.out 3 _ rfl), HSC.out _ _ k (HCc3.out 0 _ rfl), HSC.out _ _ k (HHI.out ▸ HCc3.out 1 _ rfl), HSC.out _ _ k (HCc3.out 2 _ rfl), HSC.out _ _ k (HCc3.out 3 _ rfl), HI3.out _ ((HO3c.out.next (drewN_below w4 1)).next k), HI4.out _ ((HO4c.out.next (drewN_below w4 1)).next k)⟩
        clear cv6
        go_wp2_with fail
        refine wp_region_held_drew (S := (fun (W : World) => (Glob W ∧ Below w.heap.size w W) ∧ W.cell? ⟨ga, 0, none⟩ = some (.int .i64 1) ∧ W.cell? ⟨ga, 1, none⟩ = some (.string LO) ∧ W.cell? ⟨ga, 2, none⟩ = some (.int .i64 0) ∧ W.cell? ⟨ga, 3, none⟩ = some (.int .i64 0) ∧ W.cell? ⟨gb, 0, none⟩ = some (.int .i64 1) ∧ W.cell? ⟨gb, 1, none⟩ = some (.string HI) ∧ W.cell? ⟨gb, 2, none⟩ = some (.int .i64 0) ∧ W.cell? ⟨gb, 3, none⟩ = some (.int .i64 0) ∧ W.cell? ⟨gc, 0, none⟩ = some (.int .i64 1) ∧ W.cell? ⟨gc, 1, none⟩ = some (.string HI) ∧ W.cell? ⟨gc, 2, none⟩ = some (.int .i64 0) ∧ W.cell? ⟨gc, 3, none⟩ = some (.int .i64 0) ∧ (convert 35 9 v3).run Tryd.prog W = .ok (.string LO) W ∧ (convert 35 9 v4).run Tryd.prog W = .ok (.string HI) W)) (by kernel_rfl) (HS0.out) (fun hS0 => ?_)
        refine wpAnyH_take (i := 0) (oi := { dst := some 98, op := Op.move (Operand.tmp 7), type := 23, pos := "law.go:105", after := #[], guard := none }) (v := (.slice (some ⟨ga, 0, none⟩) 2 ca)) rfl (by kernel_rfl) (by kernel_rfl) (by kernel_rfl) (fun _ _ _ h => h) (Or.inl ⟨by rfl, ?_⟩) hS0 ?_
        · intro wx hSw
          (try dsimp only at hSw)
          first | (go_simp; done) | (go_simp; with_reducible rfl)
        (try simp only [Act.put]); (try simp only [List.setIfInBounds_toArray]); (try simp only [List.set_cons_succ]); (try simp only [List.set_cons_zero])
        refine wpAnyH_take (i := 1) (oi := { dst := some 99, op := Op.indexAddr 23 (Operand.tmp 98) (Operand.const (Value.int IntKind.i64 0)), type := 0, pos := "law.go:105", after := #[{ on := 0, ground := Ground.data }], guard := none }) (v := (.pointer (some ⟨ga, 0, none⟩))) rfl (by kernel_rfl) (by kernel_rfl) (by kernel_rfl) (fun _ _ _ h => h) (Or.inl ⟨by rfl, ?_⟩) hS0 ?_
        · intro wx hSw
          (try dsimp only at hSw)
          first | (go_simp; done) | (go_simp; with_reducible rfl)
        (try simp only [Act.put]); (try simp only [List.setIfInBounds_toArray]); (try simp only [List.set_cons_succ]); (try simp only [List.set_cons_zero])
        refine wpAnyH_take (i := 2) (oi := { dst := some 100, op := Op.fieldAddr 29 (Operand.tmp 99) 0, type := 0, pos := "law.go:105", after := #[{ on := 1, ground := Ground.data }], guard := none }) (v := (.pointer (some ⟨ga, 0, none⟩))) rfl (by kernel_rfl) (by kernel_rfl) (by kernel_rfl) (fun _ _ _ h => h) (Or.inl ⟨by rfl, ?_⟩) hS0 ?_
        · intro wx hSw
          (try dsimp only at hSw)
          first | (go_simp; done) | (go_simp; with_reducible rfl)
        (try simp only [Act.put]); (try simp only [List.setIfInBounds_toArray]); (try simp only [List.set_cons_succ]); (try simp only [List.set_cons_zero])
        refine wpAnyH_take (i := 3) (oi := { dst := some 101, op := Op.load 3 (Operand.tmp 100), type := 3, pos := "law.go:105", after := #[{ on := 2, ground := Ground.data }], guard := none }) (v := (.int .i64 1)) rfl (by kernel_rfl) (by kernel_rfl) (by kernel_rfl) (fun _ _ _ h => h) (Or.inl ⟨by rfl, ?_⟩) hS0 ?_
        · intro wx hSw
          (try dsimp only at hSw)
          first | (go_simp; done) | (go_simp; with_reducible rfl)
        (try simp only [Act.put]); (try simp only [List.setIfInBounds_toArray]); (try simp only [List.set_cons_succ]); (try simp only [List.set_cons_zero])
        refine wpAnyH_take (i := 4) (oi := { dst := some 102, op := Op.binOp BinOp.eql 3 (Operand.tmp 101) (Operand.const (Value.int IntKind.i64 2)) 3, type := 4, pos := "law.go:105", after := #[{ on := 3, ground := Ground.data }], guard := none }) (v := (.bool false)) rfl (by kernel_rfl) (by kernel_rfl) (by kernel_rfl) (fun _ _ _ h => h) (Or.inl ⟨by rfl, ?_⟩) hS0 ?_
        · intro wx hSw
          (try dsimp only at hSw)
          first | (go_simp; done) | (go_simp; with_reducible rfl)
        (try simp only [Act.put]); (try simp only [List.setIfInBounds_toArray]); (try simp only [List.set_cons_succ]); (try simp only [List.set_cons_zero])
        refine wpAnyH_take (i := 5) (oi := { dst := some 103, op := Op.move (Operand.tmp 16), type := 4, pos := "law.go:105", after := #[], guard := none }) (v := (.bool false)) rfl (by kernel_rfl) (by kernel_rfl) (by kernel_rfl) (fun _ _ _ h => h) (Or.inl ⟨by rfl, ?_⟩) hS0 ?_
        · intro wx hSw
          (try dsimp only at hSw)
          first | (go_simp; done) | (go_simp; with_reducible rfl)
        (try simp only [Act.put]); (try simp only [List.setIfInBounds_toArray]); (try simp only [List.set_cons_succ]); (try simp only [List.set_cons_zero])
        refine wpAnyH_take (i := 6) (oi := { dst := some 104, op := Op.binOp BinOp.eql 4 (Operand.tmp 102) (Operand.tmp 103) 4, type := 4, pos := "law.go:105", after := #[{ on := 4, ground := Ground.data }, { on := 5, ground := Ground.data }], guard := none }) (v := (.bool true)) rfl (by kernel_rfl) (by kernel_rfl) (by kernel_rfl) (fun _ _ _ h => h) (Or.inl ⟨by rfl, ?_⟩) hS0 ?_
        · intro wx hSw
          (try dsimp only at hSw)
          first | (go_simp; done) | (go_simp; with_reducible rfl)
        (try simp only [Act.put]); (try simp only [List.setIfInBounds_toArray]); (try simp only [List.set_cons_succ]); (try simp only [List.set_cons_zero])
        refine wpAnyH_take (i := 7) (oi := { dst := some 105, op := Op.move (Operand.tmp 104), type := 4, pos := "law.go:105", after := #[{ on := 6, ground := Ground.data }], guard := none }) (v := (.bool true)) rfl (by kernel_rfl) (by kernel_rfl) (by kernel_rfl) (fun _ _ _ h => h) (Or.inl ⟨by rfl, ?_⟩) hS0 ?_
        · intro wx hSw
          (try dsimp only at hSw)
          first | (go_simp; done) | (go_simp; with_reducible rfl)
        (try simp only [Act.put]); (try simp only [List.setIfInBounds_toArray]); (try simp only [List.set_cons_succ]); (try simp only [List.set_cons_zero])
        refine wpAnyH_take (i := 8) (oi := { dst := some 106, op := Op.move (Operand.tmp 10), type := 23, pos := "law.go:105", after := #[{ on := 7, ground := Ground.guard }], guard := some (7, true) }) (v := (.slice (some ⟨gb, 0, none⟩) 2 cb)) rfl (by kernel_rfl) (by kernel_rfl) (by kernel_rfl) (fun _ _ _ h => h) (Or.inl ⟨by rfl, ?_⟩) hS0 ?_
        · intro wx hSw
          (try dsimp only at hSw)
          first | (go_simp; done) | (go_simp; with_reducible rfl)
        (try simp only [Act.put]); (try simp only [List.setIfInBounds_toArray]); (try simp only [List.set_cons_succ]); (try simp only [List.set_cons_zero])
        refine wpAnyH_take (i := 9) (oi := { dst := some 107, op := Op.indexAddr 23 (Operand.tmp 106) (Operand.const (Value.int IntKind.i64 0)), type := 0, pos := "law.go:105", after := #[{ on := 8, ground := Ground.data }, { on := 7, ground := Ground.guard }], guard := some (7, true) }) (v := (.pointer (some ⟨gb, 0, none⟩))) rfl (by kernel_rfl) (by kernel_rfl) (by kernel_rfl) (fun _ _ _ h => h) (Or.inl ⟨by rfl, ?_⟩) hS0 ?_
        · intro wx hSw
          (try dsimp only at hSw)
          first | (go_simp; done) | (go_simp; with_reducible rfl)
        (try simp only [Act.put]); (try simp only [List.setIfInBounds_toArray]); (try simp only [List.set_cons_succ]); (try simp only [List.set_cons_zero])
        refine wpAnyH_take (i := 10) (oi := { dst := some 108, op := Op.fieldAddr 29 (Operand.tmp 107) 0, type := 0, pos := "law.go:105", after := #[{ on := 9, ground := Ground.data }, { on := 7, ground := Ground.guard }], guard := some (7, true) }) (v := (.pointer (some ⟨gb, 0, none⟩))) rfl (by kernel_rfl) (by kernel_rfl) (by kernel_rfl) (fun _ _ _ h => h) (Or.inl ⟨by rfl, ?_⟩) hS0 ?_
        · intro wx hSw
          (try dsimp only at hSw)
          first | (go_simp; done) | (go_simp; with_reducible rfl)
        (try simp only [Act.put]); (try simp only [List.setIfInBounds_toArray]); (try simp only [List.set_cons_succ]); (try simp only [List.set_cons_zero])
        refine wpAnyH_take (i := 11) (oi := { dst := some 109, op := Op.load 3 (Operand.tmp 108), type := 3, pos := "law.go:105", after := #[{ on := 10, ground := Ground.data }, { on := 7, ground := Ground.guard }], guard := some (7, true) }) (v := (.int .i64 1)) rfl (by kernel_rfl) (by kernel_rfl) (by kernel_rfl) (fun _ _ _ h => h) (Or.inl ⟨by rfl, ?_⟩) hS0 ?_
        · intro wx hSw
          (try dsimp only at hSw)
          first | (go_simp; done) | (go_simp; with_reducible rfl)
        (try simp only [Act.put]); (try simp only [List.setIfInBounds_toArray]); (try simp only [List.set_cons_succ]); (try simp only [List.set_cons_zero])
        refine wpAnyH_take (i := 12) (oi := { dst := some 110, op := Op.binOp BinOp.eql 3 (Operand.tmp 109) (Operand.const (Value.int IntKind.i64 2)) 3, type := 4, pos := "law.go:105", after := #[{ on := 11, ground := Ground.data }, { on := 7, ground := Ground.guard }], guard := some (7, true) }) (v := (.bool false)) rfl (by kernel_rfl) (by kernel_rfl) (by kernel_rfl) (fun _ _ _ h => h) (Or.inl ⟨by rfl, ?_⟩) hS0 ?_
        · intro wx hSw
          (try dsimp only at hSw)
          first | (go_simp; done) | (go_simp; with_reducible rfl)
        (try simp only [Act.put]); (try simp only [List.setIfInBounds_toArray]); (try simp only [List.set_cons_succ]); (try simp only [List.set_cons_zero])
        refine wpAnyH_take (i := 13) (oi := { dst := some 111, op := Op.move (Operand.tmp 16), type := 4, pos := "law.go:105", after := #[{ on := 7, ground := Ground.guard }], guard := some (7, true) }) (v := (.bool false)) rfl (by kernel_rfl) (by kernel_rfl) (by kernel_rfl) (fun _ _ _ h => h) (Or.inl ⟨by rfl, ?_⟩) hS0 ?_
        · intro wx hSw
          (try dsimp only at hSw)
          first | (go_simp; done) | (go_simp; with_reducible rfl)
        (try simp only [Act.put]); (try simp only [List.setIfInBounds_toArray]); (try simp only [List.set_cons_succ]); (try simp only [List.set_cons_zero])
        refine wpAnyH_take (i := 14) (oi := { dst := some 112, op := Op.binOp BinOp.eql 4 (Operand.tmp 110) (Operand.tmp 111) 4, type := 4, pos := "law.go:105", after := #[{ on := 12, ground := Ground.data }, { on := 13, ground := Ground.data }, { on := 7, ground := Ground.guard }], guard := some (7, true) }) (v := (.bool true)) rfl (by kernel_rfl) (by kernel_rfl) (by kernel_rfl) (fun _ _ _ h => h) (Or.inl ⟨by rfl, ?_⟩) hS0 ?_
        · intro wx hSw
          (try dsimp only at hSw)
          first | (go_simp; done) | (go_simp; with_reducible rfl)
        (try simp only [Act.put]); (try simp only [List.setIfInBounds_toArray]); (try simp only [List.set_cons_succ]); (try simp only [List.set_cons_zero])
        refine wpAnyH_take (i := 15) (oi := { dst := some 113, op := Op.pick (Operand.tmp 105) (Operand.tmp 112) (Operand.const (Value.bool false)), type := 4, pos := "law.go:105", after := #[{ on := 7, ground := Ground.data }, { on := 14, ground := Ground.data }], guard := none }) (v := (.bool true)) rfl (by kernel_rfl) (by kernel_rfl) (by kernel_rfl) (fun _ _ _ h => h) (Or.inl ⟨by rfl, ?_⟩) hS0 ?_
        · intro wx hSw
          (try dsimp only at hSw)
          first | (go_simp; done) | (go_simp; with_reducible rfl)
        (try simp only [Act.put]); (try simp only [List.setIfInBounds_toArray]); (try simp only [List.set_cons_succ]); (try simp only [List.set_cons_zero])
        refine wpAnyH_take (i := 16) (oi := { dst := some 114, op := Op.move (Operand.tmp 113), type := 4, pos := "law.go:105", after := #[{ on := 15, ground := Ground.data }, { on := 7, ground := Ground.chain }], guard := none }) (v := (.bool true)) rfl (by kernel_rfl) (by kernel_rfl) (by kernel_rfl) (fun _ _ _ h => h) (Or.inl ⟨by rfl, ?_⟩) hS0 ?_
        · intro wx hSw
          (try dsimp only at hSw)
          first | (go_simp; done) | (go_simp; with_reducible rfl)
        (try simp only [Act.put]); (try simp only [List.setIfInBounds_toArray]); (try simp only [List.set_cons_succ]); (try simp only [List.set_cons_zero])
        refine wpAnyH_take (i := 17) (oi := { dst := some 115, op := Op.move (Operand.tmp 16), type := 4, pos := "law.go:105", after := #[{ on := 16, ground := Ground.guard }], guard := some (16, true) }) (v := (.bool false)) rfl (by kernel_rfl) (by kernel_rfl) (by kernel_rfl) (fun _ _ _ h => h) (Or.inl ⟨by rfl, ?_⟩) hS0 ?_
        · intro wx hSw
          (try dsimp only at hSw)
          first | (go_simp; done) | (go_simp; with_reducible rfl)
        (try simp only [Act.put]); (try simp only [List.setIfInBounds_toArray]); (try simp only [List.set_cons_succ]); (try simp only [List.set_cons_zero])
        refine wpAnyH_take (i := 18) (oi := { dst := some 116, op := Op.unOp UnOp.not 4 (Operand.tmp 115), type := 4, pos := "law.go:105", after := #[{ on := 17, ground := Ground.data }, { on := 16, ground := Ground.guard }], guard := some (16, true) }) (v := (.bool true)) rfl (by kernel_rfl) (by kernel_rfl) (by kernel_rfl) (fun _ _ _ h => h) (Or.inl ⟨by rfl, ?_⟩) hS0 ?_
        · intro wx hSw
          (try dsimp only at hSw)
          first | (go_simp; done) | (go_simp; with_reducible rfl)
        (try simp only [Act.put]); (try simp only [List.setIfInBounds_toArray]); (try simp only [List.set_cons_succ]); (try simp only [List.set_cons_zero])
        refine wpAnyH_take (i := 19) (oi := { dst := some 117, op := Op.move (Operand.tmp 116), type := 4, pos := "law.go:105", after := #[{ on := 18, ground := Ground.data }, { on := 16, ground := Ground.chain }, { on := 16, ground := Ground.guard }], guard := some (16, true) }) (v := (.bool true)) rfl (by kernel_rfl) (by kernel_rfl) (by kernel_rfl) (fun _ _ _ h => h) (Or.inl ⟨by rfl, ?_⟩) hS0 ?_
        · intro wx hSw
          (try dsimp only at hSw)
          first | (go_simp; done) | (go_simp; with_reducible rfl)
        (try simp only [Act.put]); (try simp only [List.setIfInBounds_toArray]); (try simp only [List.set_cons_succ]); (try simp only [List.set_cons_zero])
        refine wpAnyH_take (i := 20) (oi := { dst := some 118, op := Op.move (Operand.tmp 7), type := 23, pos := "law.go:105", after := #[{ on := 19, ground := Ground.guard }], guard := some (19, false) }) (v := undef) rfl (by kernel_rfl) (by kernel_rfl) (by kernel_rfl) (fun _ _ _ h => h) (Or.inr ⟨by rfl, rfl⟩) hS0 ?_
        (try simp only [Act.put]); (try simp only [List.setIfInBounds_toArray]); (try simp only [List.set_cons_succ]); (try simp only [List.set_cons_zero])
        refine wpAnyH_take (i := 21) (oi := { dst := some 119, op := Op.indexAddr 23 (Operand.tmp 118) (Operand.const (Value.int IntKind.i64 0)), type := 0, pos := "law.go:105", after := #[{ on := 20, ground := Ground.data }, { on := 19, ground := Ground.guard }], guard := some (19, false) }) (v := undef) rfl (by kernel_rfl) (by kernel_rfl) (by kernel_rfl) (fun _ _ _ h => h) (Or.inr ⟨by rfl, rfl⟩) hS0 ?_
        (try simp only [Act.put]); (try simp only [List.setIfInBounds_toArray]); (try simp only [List.set_cons_succ]); (try simp only [List.set_cons_zero])
        refine wpAnyH_take (i := 22) (oi := { dst := some 120, op := Op.load 29 (Operand.tmp 119), type := 29, pos := "law.go:105", after := #[{ on := 21, ground := Ground.data }, { on := 19, ground := Ground.guard }], guard := some (19, false) }) (v := undef) rfl (by kernel_rfl) (by kernel_rfl) (by kernel_rfl) (fun _ _ _ h => h) (Or.inr ⟨by rfl, rfl⟩) hS0 ?_
        (try simp only [Act.put]); (try simp only [List.setIfInBounds_toArray]); (try simp only [List.set_cons_succ]); (try simp only [List.set_cons_zero])
        refine wpAnyH_take (i := 23) (oi := { dst := some 121, op := Op.move (Operand.tmp 10), type := 23, pos := "law.go:105", after := #[{ on := 19, ground := Ground.guard }], guard := some (19, false) }) (v := undef) rfl (by kernel_rfl) (by kernel_rfl) (by kernel_rfl) (fun _ _ _ h => h) (Or.inr ⟨by rfl, rfl⟩) hS0 ?_
        (try simp only [Act.put]); (try simp only [List.setIfInBounds_toArray]); (try simp only [List.set_cons_succ]); (try simp only [List.set_cons_zero])
        refine wpAnyH_take (i := 24) (oi := { dst := some 122, op := Op.indexAddr 23 (Operand.tmp 121) (Operand.const (Value.int IntKind.i64 0)), type := 0, pos := "law.go:105", after := #[{ on := 23, ground := Ground.data }, { on := 19, ground := Ground.guard }], guard := some (19, false) }) (v := undef) rfl (by kernel_rfl) (by kernel_rfl) (by kernel_rfl) (fun _ _ _ h => h) (Or.inr ⟨by rfl, rfl⟩) hS0 ?_
        (try simp only [Act.put]); (try simp only [List.setIfInBounds_toArray]); (try simp only [List.set_cons_succ]); (try simp only [List.set_cons_zero])
        refine wpAnyH_take (i := 25) (oi := { dst := some 123, op := Op.load 29 (Operand.tmp 122), type := 29, pos := "law.go:105", after := #[{ on := 24, ground := Ground.data }, { on := 19, ground := Ground.guard }], guard := some (19, false) }) (v := undef) rfl (by kernel_rfl) (by kernel_rfl) (by kernel_rfl) (fun _ _ _ h => h) (Or.inr ⟨by rfl, rfl⟩) hS0 ?_
        (try simp only [Act.put]); (try simp only [List.setIfInBounds_toArray]); (try simp only [List.set_cons_succ]); (try simp only [List.set_cons_zero])
        refine wpAnyH_take (i := 26) (oi := { dst := some 124, op := Op.binOp BinOp.eql 29 (Operand.tmp 120) (Operand.tmp 123) 29, type := 4, pos := "law.go:105", after := #[{ on := 22, ground := Ground.data }, { on := 25, ground := Ground.data }, { on := 19, ground := Ground.guard }], guard := some (19, false) }) (v := undef) rfl (by kernel_rfl) (by kernel_rfl) (by kernel_rfl) (fun _ _ _ h => h) (Or.inr ⟨by rfl, rfl⟩) hS0 ?_
        (try simp only [Act.put]); (try simp only [List.setIfInBounds_toArray]); (try simp only [List.set_cons_succ]); (try simp only [List.set_cons_zero])
        refine wpAnyH_take (i := 27) (oi := { dst := some 125, op := Op.pick (Operand.tmp 117) (Operand.const (Value.bool true)) (Operand.tmp 124), type := 4, pos := "law.go:105", after := #[{ on := 19, ground := Ground.data }, { on := 26, ground := Ground.data }, { on := 16, ground := Ground.guard }], guard := some (16, true) }) (v := (.bool true)) rfl (by kernel_rfl) (by kernel_rfl) (by kernel_rfl) (fun _ _ _ h => h) (Or.inl ⟨by rfl, ?_⟩) hS0 ?_
        · intro wx hSw
          (try dsimp only at hSw)
          first | (go_simp; done) | (go_simp; with_reducible rfl)
        (try simp only [Act.put]); (try simp only [List.setIfInBounds_toArray]); (try simp only [List.set_cons_succ]); (try simp only [List.set_cons_zero])
        refine wpAnyH_take (i := 28) (oi := { dst := some 126, op := Op.pick (Operand.tmp 114) (Operand.tmp 125) (Operand.const (Value.bool false)), type := 4, pos := "law.go:105", after := #[{ on := 16, ground := Ground.data }, { on := 27, ground := Ground.data }], guard := none }) (v := (.bool true)) rfl (by kernel_rfl) (by kernel_rfl) (by kernel_rfl) (fun _ _ _ h => h) (Or.inl ⟨by rfl, ?_⟩) hS0 ?_
        · intro wx hSw
          (try dsimp only at hSw)
          first | (go_simp; done) | (go_simp; with_reducible rfl)
        (try simp only [Act.put]); (try simp only [List.setIfInBounds_toArray]); (try simp only [List.set_cons_succ]); (try simp only [List.set_cons_zero])
        refine wpAnyH_take (i := 29) (oi := { dst := some 127, op := Op.move (Operand.tmp 126), type := 4, pos := "law.go:105", after := #[{ on := 28, ground := Ground.data }, { on := 19, ground := Ground.chain }], guard := none }) (v := (.bool true)) rfl (by kernel_rfl) (by kernel_rfl) (by kernel_rfl) (fun _ _ _ h => h) (Or.inl ⟨by rfl, ?_⟩) hS0 ?_
        · intro wx hSw
          (try dsimp only at hSw)
          first | (go_simp; done) | (go_simp; with_reducible rfl)
        (try simp only [Act.put]); (try simp only [List.setIfInBounds_toArray]); (try simp only [List.set_cons_succ]); (try simp only [List.set_cons_zero])
        refine wpAnyH_take (i := 30) (oi := { dst := some 128, op := Op.move (Operand.tmp 13), type := 23, pos := "law.go:105", after := #[{ on := 29, ground := Ground.guard }], guard := some (29, true) }) (v := (.slice (some ⟨gc, 0, none⟩) 2 cc)) rfl (by kernel_rfl) (by kernel_rfl) (by kernel_rfl) (fun _ _ _ h => h) (Or.inl ⟨by rfl, ?_⟩) hS0 ?_
        · intro wx hSw
          (try dsimp only at hSw)
          first | (go_simp; done) | (go_simp; with_reducible rfl)
        (try simp only [Act.put]); (try simp only [List.setIfInBounds_toArray]); (try simp only [List.set_cons_succ]); (try simp only [List.set_cons_zero])
        refine wpAnyH_take (i := 31) (oi := { dst := some 129, op := Op.indexAddr 23 (Operand.tmp 128) (Operand.const (Value.int IntKind.i64 0)), type := 0, pos := "law.go:105", after := #[{ on := 30, ground := Ground.data }, { on := 29, ground := Ground.guard }], guard := some (29, true) }) (v := (.pointer (some ⟨gc, 0, none⟩))) rfl (by kernel_rfl) (by kernel_rfl) (by kernel_rfl) (fun _ _ _ h => h) (Or.inl ⟨by rfl, ?_⟩) hS0 ?_
        · intro wx hSw
          (try dsimp only at hSw)
          first | (go_simp; done) | (go_simp; with_reducible rfl)
        (try simp only [Act.put]); (try simp only [List.setIfInBounds_toArray]); (try simp only [List.set_cons_succ]); (try simp only [List.set_cons_zero])
        refine wpAnyH_take (i := 32) (oi := { dst := some 130, op := Op.load 29 (Operand.tmp 129), type := 29, pos := "law.go:105", after := #[{ on := 31, ground := Ground.data }, { on := 29, ground := Ground.guard }], guard := some (29, true) }) (v := (.agg #[.int .i64 1, .string HI, .int .i64 0, .int .i64 0])) rfl (by kernel_rfl) (by kernel_rfl) (by kernel_rfl) (fun _ _ _ h => h) (Or.inl ⟨by rfl, ?_⟩) hS0 ?_
        · intro wx hSw
          (try dsimp only at hSw)
          first | (go_simp; done) | (go_simp; with_reducible rfl)
        (try simp only [Act.put]); (try simp only [List.setIfInBounds_toArray]); (try simp only [List.set_cons_succ]); (try simp only [List.set_cons_zero])
        refine wpAnyH_take (i := 33) (oi := { dst := some 131, op := Op.move (Operand.tmp 4), type := 35, pos := "law.go:105", after := #[{ on := 29, ground := Ground.guard }], guard := some (29, true) }) (v := v4) rfl (by kernel_rfl) (by kernel_rfl) (by kernel_rfl) (fun _ _ _ h => h) (Or.inl ⟨by rfl, ?_⟩) hS0 ?_
        · intro wx hSw
          (try dsimp only at hSw)
          first | (go_simp; done) | (go_simp; with_reducible rfl)
        (try simp only [Act.put]); (try simp only [List.setIfInBounds_toArray]); (try simp only [List.set_cons_succ]); (try simp only [List.set_cons_zero])
        refine wpAnyH_take (i := 34) (oi := { dst := some 132, op := Op.convert 35 9 (Operand.tmp 131), type := 9, pos := "law.go:105", after := #[{ on := 33, ground := Ground.data }, { on := 29, ground := Ground.guard }], guard := some (29, true) }) (v := (.string HI)) rfl (by kernel_rfl) (by kernel_rfl) (by kernel_rfl) (fun _ _ _ h => h) (Or.inl ⟨by rfl, ?_⟩) hS0 ?_
        · intro wx hSw
          (try dsimp only at hSw)
          first | (go_simp; done) | (go_simp; with_reducible rfl)
        (try simp only [Act.put]); (try simp only [List.setIfInBounds_toArray]); (try simp only [List.set_cons_succ]); (try simp only [List.set_cons_zero])
        refine wpAnyH_take (i := 35) (oi := { dst := some 133, op := Op.build 29 #[(0, Operand.const (Value.int IntKind.i64 1)), (1, Operand.tmp 132)], type := 29, pos := "law.go:105", after := #[{ on := 34, ground := Ground.data }, { on := 29, ground := Ground.guard }], guard := some (29, true) }) (v := (.agg #[.int .i64 1, .string HI, .int .i64 0, .int .i64 0])) rfl (by kernel_rfl) (by kernel_rfl) (by kernel_rfl) (fun _ _ _ h => h) (Or.inl ⟨by rfl, ?_⟩) hS0 ?_
        · intro wx hSw
          (try dsimp only at hSw)
          first | (go_simp; done) | (go_simp; with_reducible rfl)
        (try simp only [Act.put]); (try simp only [List.setIfInBounds_toArray]); (try simp only [List.set_cons_succ]); (try simp only [List.set_cons_zero])
        refine wpAnyH_take (i := 36) (oi := { dst := some 134, op := Op.binOp BinOp.eql 29 (Operand.tmp 130) (Operand.tmp 133) 29, type := 4, pos := "law.go:105", after := #[{ on := 32, ground := Ground.data }, { on := 35, ground := Ground.data }, { on := 29, ground := Ground.guard }], guard := some (29, true) }) (v := (.bool true)) rfl (by kernel_rfl) (by kernel_rfl) (by kernel_rfl) (fun _ _ _ h => h) (Or.inl ⟨by rfl, ?_⟩) hS0 ?_
        · intro wx hSw
          (try dsimp only at hSw)
          first | (go_simp; done) | (go_simp; with_reducible rfl)
        (try simp only [Act.put]); (try simp only [List.setIfInBounds_toArray]); (try simp only [List.set_cons_succ]); (try simp only [List.set_cons_zero])
        refine wpAnyH_take (i := 37) (oi := { dst := some 135, op := Op.pick (Operand.tmp 127) (Operand.tmp 134) (Operand.const (Value.bool false)), type := 4, pos := "law.go:105", after := #[{ on := 29, ground := Ground.data }, { on := 36, ground := Ground.data }], guard := none }) (v := (.bool true)) rfl (by kernel_rfl) (by kernel_rfl) (by kernel_rfl) (fun _ _ _ h => h) (Or.inl ⟨by rfl, ?_⟩) hS0 ?_
        · intro wx hSw
          (try dsimp only at hSw)
          first | (go_simp; done) | (go_simp; with_reducible rfl)
        (try simp only [Act.put]); (try simp only [List.setIfInBounds_toArray]); (try simp only [List.set_cons_succ]); (try simp only [List.set_cons_zero])
        refine wpAnyH_take (i := 38) (oi := { dst := some 136, op := Op.move (Operand.tmp 135), type := 4, pos := "law.go:105", after := #[{ on := 37, ground := Ground.data }, { on := 29, ground := Ground.chain }], guard := none }) (v := (.bool true)) rfl (by kernel_rfl) (by kernel_rfl) (by kernel_rfl) (fun _ _ _ h => h) (Or.inl ⟨by rfl, ?_⟩) hS0 ?_
        · intro wx hSw
          (try dsimp only at hSw)
          first | (go_simp; done) | (go_simp; with_reducible rfl)
        (try simp only [Act.put]); (try simp only [List.setIfInBounds_toArray]); (try simp only [List.set_cons_succ]); (try simp only [List.set_cons_zero])
        refine wpAnyH_take (i := 39) (oi := { dst := some 137, op := Op.move (Operand.tmp 16), type := 4, pos := "law.go:105", after := #[{ on := 38, ground := Ground.guard }], guard := some (38, true) }) (v := (.bool false)) rfl (by kernel_rfl) (by kernel_rfl) (by kernel_rfl) (fun _ _ _ h => h) (Or.inl ⟨by rfl, ?_⟩) hS0 ?_
        · intro wx hSw
          (try dsimp only at hSw)
          first | (go_simp; done) | (go_simp; with_reducible rfl)
        (try simp only [Act.put]); (try simp only [List.setIfInBounds_toArray]); (try simp only [List.set_cons_succ]); (try simp only [List.set_cons_zero])
        refine wpAnyH_take (i := 40) (oi := { dst := some 138, op := Op.move (Operand.tmp 137), type := 4, pos := "law.go:105", after := #[{ on := 39, ground := Ground.data }, { on := 38, ground := Ground.chain }, { on := 38, ground := Ground.guard }], guard := some (38, true) }) (v := (.bool false)) rfl (by kernel_rfl) (by kernel_rfl) (by kernel_rfl) (fun _ _ _ h => h) (Or.inl ⟨by rfl, ?_⟩) hS0 ?_
        · intro wx hSw
          (try dsimp only at hSw)
          first | (go_simp; done) | (go_simp; with_reducible rfl)
        (try simp only [Act.put]); (try simp only [List.setIfInBounds_toArray]); (try simp only [List.set_cons_succ]); (try simp only [List.set_cons_zero])
        refine wpAnyH_take (i := 41) (oi := { dst := some 139, op := Op.move (Operand.tmp 7), type := 23, pos := "law.go:105", after := #[{ on := 40, ground := Ground.guard }], guard := some (40, false) }) (v := (.slice (some ⟨ga, 0, none⟩) 2 ca)) rfl (by kernel_rfl) (by kernel_rfl) (by kernel_rfl) (fun _ _ _ h => h) (Or.inl ⟨by rfl, ?_⟩) hS0 ?_
        · intro wx hSw
          (try dsimp only at hSw)
          first | (go_simp; done) | (go_simp; with_reducible rfl)
        (try simp only [Act.put]); (try simp only [List.setIfInBounds_toArray]); (try simp only [List.set_cons_succ]); (try simp only [List.set_cons_zero])
        refine wpAnyH_take (i := 42) (oi := { dst := some 140, op := Op.indexAddr 23 (Operand.tmp 139) (Operand.const (Value.int IntKind.i64 0)), type := 0, pos := "law.go:105", after := #[{ on := 41, ground := Ground.data }, { on := 40, ground := Ground.guard }], guard := some (40, false) }) (v := (.pointer (some ⟨ga, 0, none⟩))) rfl (by kernel_rfl) (by kernel_rfl) (by kernel_rfl) (fun _ _ _ h => h) (Or.inl ⟨by rfl, ?_⟩) hS0 ?_
        · intro wx hSw
          (try dsimp only at hSw)
          first | (go_simp; done) | (go_simp; with_reducible rfl)
        (try simp only [Act.put]); (try simp only [List.setIfInBounds_toArray]); (try simp only [List.set_cons_succ]); (try simp only [List.set_cons_zero])
        refine wpAnyH_take (i := 43) (oi := { dst := some 141, op := Op.fieldAddr 29 (Operand.tmp 140) 1, type := 0, pos := "law.go:105", after := #[{ on := 42, ground := Ground.data }, { on := 40, ground := Ground.guard }], guard := some (40, false) }) (v := (.pointer (some ⟨ga, 1, none⟩))) rfl (by kernel_rfl) (by kernel_rfl) (by kernel_rfl) (fun _ _ _ h => h) (Or.inl ⟨by rfl, ?_⟩) hS0 ?_
        · intro wx hSw
          (try dsimp only at hSw)
          first | (go_simp; done) | (go_simp; with_reducible rfl)
        (try simp only [Act.put]); (try simp only [List.setIfInBounds_toArray]); (try simp only [List.set_cons_succ]); (try simp only [List.set_cons_zero])
        refine wpAnyH_take (i := 44) (oi := { dst := some 142, op := Op.load 9 (Operand.tmp 141), type := 9, pos := "law.go:105", after := #[{ on := 43, ground := Ground.data }, { on := 40, ground := Ground.guard }], guard := some (40, false) }) (v := (.string LO)) rfl (by kernel_rfl) (by kernel_rfl) (by kernel_rfl) (fun _ _ _ h => h) (Or.inl ⟨by rfl, ?_⟩) hS0 ?_
        · intro wx hSw
          (try dsimp only at hSw)
          first | (go_simp; done) | (go_simp; with_reducible rfl)
        (try simp only [Act.put]); (try simp only [List.setIfInBounds_toArray]); (try simp only [List.set_cons_succ]); (try simp only [List.set_cons_zero])
        refine wpAnyH_take (i := 45) (oi := { dst := some 143, op := Op.move (Operand.tmp 3), type := 35, pos := "law.go:105", after := #[{ on := 40, ground := Ground.guard }], guard := some (40, false) }) (v := v3) rfl (by kernel_rfl) (by kernel_rfl) (by kernel_rfl) (fun _ _ _ h => h) (Or.inl ⟨by rfl, ?_⟩) hS0 ?_
        · intro wx hSw
          (try dsimp only at hSw)
          first | (go_simp; done) | (go_simp; with_reducible rfl)
        (try simp only [Act.put]); (try simp only [List.setIfInBounds_toArray]); (try simp only [List.set_cons_succ]); (try simp only [List.set_cons_zero])
        refine wpAnyH_take (i := 46) (oi := { dst := some 144, op := Op.convert 35 9 (Operand.tmp 143), type := 9, pos := "law.go:105", after := #[{ on := 45, ground := Ground.data }, { on := 40, ground := Ground.guard }], guard := some (40, false) }) (v := (.string LO)) rfl (by kernel_rfl) (by kernel_rfl) (by kernel_rfl) (fun _ _ _ h => h) (Or.inl ⟨by rfl, ?_⟩) hS0 ?_
        · intro wx hSw
          (try dsimp only at hSw)
          first | (go_simp; done) | (go_simp; with_reducible rfl)
        (try simp only [Act.put]); (try simp only [List.setIfInBounds_toArray]); (try simp only [List.set_cons_succ]); (try simp only [List.set_cons_zero])
        refine wpAnyH_take (i := 47) (oi := { dst := some 145, op := Op.binOp BinOp.eql 9 (Operand.tmp 142) (Operand.tmp 144) 9, type := 4, pos := "law.go:105", after := #[{ on := 44, ground := Ground.data }, { on := 46, ground := Ground.data }, { on := 40, ground := Ground.guard }], guard := some (40, false) }) (v := (.bool true)) rfl (by kernel_rfl) (by kernel_rfl) (by kernel_rfl) (fun _ _ _ h => h) (Or.inl ⟨by rfl, ?_⟩) hS0 ?_
        · intro wx hSw
          (try dsimp only at hSw)
          first | (go_simp; done) | (go_simp; with_reducible rfl)
        (try simp only [Act.put]); (try simp only [List.setIfInBounds_toArray]); (try simp only [List.set_cons_succ]); (try simp only [List.set_cons_zero])
        refine wpAnyH_take (i := 48) (oi := { dst := some 146, op := Op.pick (Operand.tmp 138) (Operand.const (Value.bool true)) (Operand.tmp 145), type := 4, pos := "law.go:105", after := #[{ on := 40, ground := Ground.data }, { on := 47, ground := Ground.data }, { on := 38, ground := Ground.guard }], guard := some (38, true) }) (v := (.bool true)) rfl (by kernel_rfl) (by kernel_rfl) (by kernel_rfl) (fun _ _ _ h => h) (Or.inl ⟨by rfl, ?_⟩) hS0 ?_
        · intro wx hSw
          (try dsimp only at hSw)
          first | (go_simp; done) | (go_simp; with_reducible rfl)
        (try simp only [Act.put]); (try simp only [List.setIfInBounds_toArray]); (try simp only [List.set_cons_succ]); (try simp only [List.set_cons_zero])
        refine wpAnyH_take (i := 49) (oi := { dst := some 147, op := Op.pick (Operand.tmp 136) (Operand.tmp 146) (Operand.const (Value.bool false)), type := 4, pos := "law.go:105", after := #[{ on := 38, ground := Ground.data }, { on := 48, ground := Ground.data }], guard := none }) (v := (.bool true)) rfl (by kernel_rfl) (by kernel_rfl) (by kernel_rfl) (fun _ _ _ h => h) (Or.inl ⟨by rfl, ?_⟩) hS0 ?_
        · intro wx hSw
          (try dsimp only at hSw)
          first | (go_simp; done) | (go_simp; with_reducible rfl)
        (try simp only [Act.put]); (try simp only [List.setIfInBounds_toArray]); (try simp only [List.set_cons_succ]); (try simp only [List.set_cons_zero])
        refine wpAnyH_take (i := 50) (oi := { dst := some 148, op := Op.move (Operand.tmp 147), type := 4, pos := "law.go:105", after := #[{ on := 49, ground := Ground.data }, { on := 40, ground := Ground.chain }], guard := none }) (v := (.bool true)) rfl (by kernel_rfl) (by kernel_rfl) (by kernel_rfl) (fun _ _ _ h => h) (Or.inl ⟨by rfl, ?_⟩) hS0 ?_
        · intro wx hSw
          (try dsimp only at hSw)
          first | (go_simp; done) | (go_simp; with_reducible rfl)
        (try simp only [Act.put]); (try simp only [List.setIfInBounds_toArray]); (try simp only [List.set_cons_succ]); (try simp only [List.set_cons_zero])
        refine wpAnyH_ready (rs := [51]) (by kernel_rfl) (by simp) ?_
        refine AllReadyH.cons rfl (fun K hK => ?_) AllReadyH.nil
        go_simp
        refine Calls.mono (HA.out _ (And.left (And.left hS0))) ?_
        rintro e w9 ⟨rfl, k9⟩
        have HB9 : Hid (Below w.heap.size w w9) := Below.next hS0.1.2 k9
        refine hK.out _ _ (HSN.out _ k9) (fun hS1 => ?_)
        clear hK K
        (try simp only [Act.put]); (try simp only [List.setIfInBounds_toArray]); (try simp only [List.set_cons_succ]); (try simp only [List.set_cons_zero])
        refine wpAnyH_take (i := 52) (oi := { dst := some 150, op := Op.pick (Operand.tmp 148) (Operand.tmp 149) (Operand.const (Value.bool false)), type := 4, pos := "law.go:105", after := #[{ on := 50, ground := Ground.data }, { on := 51, ground := Ground.data }], guard := none }) (v := (.bool true)) rfl (by kernel_rfl) (by kernel_rfl) (by kernel_rfl) (fun _ _ _ h => h) (Or.inl ⟨by rfl, ?_⟩) hS1 ?_
        · intro wx hSw
          (try dsimp only at hSw)
          first | (go_simp; done) | (go_simp; with_reducible rfl)
        (try simp only [Act.put]); (try simp only [List.setIfInBounds_toArray]); (try simp only [List.set_cons_succ]); (try simp only [List.set_cons_zero])
        refine wpAnyH_take (i := 53) (oi := { dst := some 2, op := Op.assign (Operand.tmp 150), type := 4, pos := "law.go:105", after := #[{ on := 52, ground := Ground.data }, { on := 51, ground := Ground.chain }, { on := 0, ground := Ground.phase }, { on := 1, ground := Ground.phase }, { on := 2, ground := Ground.phase }, { on := 3, ground := Ground.phase }, { on := 4, ground := Ground.phase }, { on := 5, ground := Ground.phase }, { on := 6, ground := Ground.phase }, { on := 7, ground := Ground.phase }, { on := 8, ground := Ground.phase }, { on := 9, ground := Ground.phase }, { on := 10, ground := Ground.phase }, { on := 11, ground := Ground.phase }, { on := 12, ground := Ground.phase }, { on := 13, ground := Ground.phase }, { on := 14, ground := Ground.phase }, { on := 15, ground := Ground.phase }, { on := 16, ground := Ground.phase }, { on := 17, ground := Ground.phase }, { on := 18, ground := Ground.phase }, { on := 19, ground := Ground.phase }, { on := 20, ground := Ground.phase }, { on := 21, ground := Ground.phase }, { on := 22, ground := Ground.phase }, { on := 23, ground := Ground.phase }, { on := 24, ground := Ground.phase }, { on := 25, ground := Ground.phase }, { on := 26, ground := Ground.phase }, { on := 27, ground := Ground.phase }, { on := 28, ground := Ground.phase }, { on := 29, ground := Ground.phase }, { on := 30, ground := Ground.phase }, { on := 31, ground := Ground.phase }, { on := 32, ground := Ground.phase }, { on := 33, ground := Ground.phase }, { on := 34, ground := Ground.phase }, { on := 35, ground := Ground.phase }, { on := 36, ground := Ground.phase }, { on := 37, ground := Ground.phase }, { on := 38, ground := Ground.phase }, { on := 39, ground := Ground.phase }, { on := 40, ground := Ground.phase }, { on := 41, ground := Ground.phase }, { on := 42, ground := Ground.phase }, { on := 43, ground := Ground.phase }, { on := 44, ground := Ground.phase }, { on := 45, ground := Ground.phase }, { on := 46, ground := Ground.phase }, { on := 47, ground := Ground.phase }, { on := 48, ground := Ground.phase }, { on := 49, ground := Ground.phase }, { on := 50, ground := Ground.phase }, { on := 51, ground := Ground.phase }, { on := 52, ground := Ground.phase }], guard := none }) (v := (.bool true)) rfl (by kernel_rfl) (by kernel_rfl) (by kernel_rfl) (fun _ _ _ h => h) (Or.inl ⟨by rfl, ?_⟩) hS1 ?_
        · intro wx hSw
          (try dsimp only at hSw)
          first | (go_simp; done) | (go_simp; with_reducible rfl)
        (try simp only [Act.put]); (try simp only [List.setIfInBounds_toArray]); (try simp only [List.set_cons_succ]); (try simp only [List.set_cons_zero])
        refine wpAnyH_done (by kernel_rfl) ?_ _
        try simp only [Exit.then]
        clear HS0 HSN
        go_wp2_with fail
        go_ret
        exact ⟨rfl, HB9.out⟩

      · rw [hk] at ta tb tk
        simp only [if_true] at ta tb
        clear hk
        have HA1 : Hid (∀ w, Glob w → Calls Tryd.prog 9 #[.string LO] w fun e w' => ∃ g c, e = .returned (.tuple #[.slice (some ⟨g, 0, none⟩) 2 c, .int .i64 0, .int .i64 0]) ∧ Cells w' g (row1 ⟨2, highL ms, 0, ms.length⟩ ms.length) ∧ Below w.heap.size w w') := ta
        have HA2 : Hid (∀ w, Glob w → Calls Tryd.prog 9 #[.string HI] w fun e w' => ∃ g c, e = .returned (.tuple #[.slice (some ⟨g, 0, none⟩) 2 c, .int .i64 0, .int .i64 0]) ∧ Cells w' g (row1 ⟨2, highL ms, 0, ms.length⟩ ms.length) ∧ Below w.heap.size w w') := tb
        have HKE : Hid (∀ w, Calls Tryd.prog 14 #[.string HI] w fun e w' => e = .returned (.bool true) ∧ w' = w) := tk
        clear ta tb tk
        go_wp2_with fail
        refine Calls.mono (HA1.out _ HG2.out) ?_; rintro e w1 ⟨ga, ca, rfl, ca1, k1⟩
        have HB1 : Hid (Below w.heap.size w w1) := Below.next HC.out.lo k1
        have HGa : Hid (Glob w1) := HG2.out.next k1
        have HO3 : Hid (OwnB w1 w.heap.size v3 (lowL ms)) := HC.out.low.next k1
        have HO4 : Hid (OwnB w1 w.heap.size v4 (highL ms)) := HC.out.high.next k1
        have HCa : Hid (Cells w1 ga (row1 ⟨2, highL ms, 0, ms.length⟩ ms.length)) := ca1
        have cv4 : (convert 35 9 v4).run Tryd.prog w1 = .ok (.string HI) w1 := HI4.out w1 HO4.out
        clear k1 ca1 cv3 cv4r
        go_wp2_with fail
        refine Calls.mono (HA2.out _ HGa.out) ?_; rintro e w2 ⟨gb, cb, rfl, cb1, k2⟩
        have HB2 : Hid (Below w.heap.size w w2) := Below.next HB1.out k2
        have HGb : Hid (Glob w2) := HGa.out.next k2
        have HO3b : Hid (OwnB w2 w.heap.size v3 (lowL ms)) := HO3.out.next k2
        have HO4b : Hid (OwnB w2 w.heap.size v4 (highL ms)) := HO4.out.next k2
        have HCa2 : Hid (Cells w2 ga (row1 ⟨2, highL ms, 0, ms.length⟩ ms.length)) := HCa.out.next k2
        have HCb2 : Hid (Cells w2 gb (row1 ⟨2, highL ms, 0, ms.length⟩ ms.length)) := cb1
        have cv5 : (convert 35 9 v4).run Tryd.prog w2 = .ok (.string HI) w2 := HI4.out w2 HO4b.out
        clear k2 cb1 cv4
        go_wp2_with fail
        refine Calls.mono (HA3.out _ HGb.out) ?_; rintro e w3 ⟨gc, cc, rfl, cc1, k3⟩
        have HB3 : Hid (Below w.heap.size w w3) := Below.next HB2.out k3
        have HGc : Hid (Glob w3) := HGb.out.next k3
        have HO3c : Hid (OwnB w3 w.heap.size v3 (lowL ms)) := HO3b.out.next k3
        have HO4c : Hid (OwnB w3 w.heap.size v4 (highL ms)) := HO4b.out.next k3
        have HCa3 : Hid (Cells w3 ga (row1 ⟨2, highL ms, 0, ms.length⟩ ms.length)) := HCa2.out.next k3
        have HCb3 : Hid (Cells w3 gb (row1 ⟨2, highL ms, 0, ms.length⟩ ms.length)) := HCb2.out.next k3
        have HCc3 : Hid (Cells w3 gc (row1 ⟨1, highL ms, 0, ms.length + 2⟩ (ms.length + 2))) := cc1
        have cv6 : (convert 35 9 v4).run Tryd.prog w3 = .ok (.string HI) w3 := HI4.out w3 HO4c.out
        clear k3 cc1 cv5
        go_wp2_with fail
        refine Calls.mono (HKE.out _) ?_; rintro e w4 ⟨rfl, rfl⟩
        have HS0 : Hid ((fun (W : World) => (Glob W ∧ Below w.heap.size w W) ∧ W.cell? ⟨ga, 0, none⟩ = some (.int .i64 2) ∧ W.cell? ⟨ga, 1, none⟩ = some (.string HI) ∧ W.cell? ⟨ga, 2, none⟩ = some (.int .i64 0) ∧ W.cell? ⟨ga, 3, none⟩ = some (.int .i64 0) ∧ W.cell? ⟨gb, 0, none⟩ = some (.int .i64 2) ∧ W.cell? ⟨gb, 1, none⟩ = some (.string HI) ∧ W.cell? ⟨gb, 2, none⟩ = some (.int .i64 0) ∧ W.cell? ⟨gb, 3, none⟩ = some (.int .i64 0) ∧ W.cell? ⟨gc, 0, none⟩ = some (.int .i64 1) ∧ W.cell? ⟨gc, 1, none⟩ = some (.string HI) ∧ W.cell? ⟨gc, 2, none⟩ = some (.int .i64 0) ∧ W.cell? ⟨gc, 3, none⟩ = some (.int .i64 0) ∧ (convert 35 9 v3).run Tryd.prog W = .ok (.string LO) W ∧ (convert 35 9 v4).run Tryd.prog W = .ok (.string HI) W) w4.drew) := ⟨⟨HGc.out, HB3.out.drew⟩, HCa3.out 0 _ rfl, (HHI.out ▸ HCa3.out 1 _ rfl), HCa3.out 2 _ rfl, HCa3.out 3 _ rfl, HCb3.out 0 _ rfl, (HHI.out ▸ HCb3.out 1 _ rfl), HCb3.out 2 _ rfl, HCb3.out 3 _ rfl, HCc3.out 0 _ rfl, (HHI.out ▸ HCc3.out 1 _ rfl), HCc3.out 2 _ rfl, HCc3.out 3 _ rfl, HI3.out _ (HO3c.out.next (drewN_below w4 1)), HI4.out _ (HO4c.out.next (drewN_below w4 1))⟩
        have HSN : Hid (∀ W, Below w4.drew.heap.size w4.drew W → (fun (W : World) => (Glob W ∧ Below w.heap.size w W) ∧ W.cell? ⟨ga, 0, none⟩ = some (.int .i64 2) ∧ W.cell? ⟨ga, 1, none⟩ = some (.string HI) ∧ W.cell? ⟨ga, 2, none⟩ = some (.int .i64 0) ∧ W.cell? ⟨ga, 3, none⟩ = some (.int .i64 0) ∧ W.cell? ⟨gb, 0, none⟩ = some (.int .i64 2) ∧ W.cell? ⟨gb, 1, none⟩ = some (.string HI) ∧ W.cell? ⟨gb, 2, none⟩ = some (.int .i64 0) ∧ W.cell? ⟨gb, 3, none⟩ = some (.int .i64 0) ∧ W.cell? ⟨gc, 0, none⟩ = some (.int .i64 1) ∧ W.cell? ⟨gc, 1, none⟩ = some (.string HI) ∧ W.cell? ⟨gc, 2, none⟩ = some (.int .i64 0) ∧ W.cell? ⟨gc, 3, none⟩ = some (.int .i64 0) ∧ (convert 35 9 v3).run Tryd.prog W = .ok (.string LO) W ∧ (convert 35 9 v4).run Tryd.prog W = .ok (.string HI) W) W) := fun W k => ⟨⟨Glob.next (w := w4.drew) HGc.out k, Below.next HB3.out.drew k⟩, HSC.out _ _ k (HCa3.out 0 _ rfl), HSC.out _ _ k (HHI.out ▸ HCa3.out 1 _ rfl), HSC.out _ _ k (HCa3.out 2 _ rfl), HSC.out _ _ k (HCa3.out 3 _ rfl), HSC.out _ _ k (HCb3.out 0 _ rfl), HSC.out _ _ k (HHI.out ▸ HCb3.out 1 _ rfl), HSC.out _ _ k (HCb3.out 2 _ rfl), HSC.out _ _ k (HCb3.out 3 _ rfl), HSC.out _ _ k (HCc3.out 0 _ rfl), HSC.out _ _ k (HHI.out ▸ HCc3.out 1 _ rfl), HSC.out _ _ k (HCc3.out 2 _ rfl), HSC.out _ _ k (HCc3.out 3 _ rfl), HI3.out _ ((HO3c.out.next (drewN_below w4 1)).next k), HI4.out _ ((HO4c.out.next (drewN_below w4 1)).next k)⟩
        clear cv6
        go_wp2_with fail
        refine wp_region_held_drew (S := (fun (W : World) => (Glob W ∧ Below w.heap.size w W) ∧ W.cell? ⟨ga, 0, none⟩ = some (.int .i64 2) ∧ W.cell? ⟨ga, 1, none⟩ = some (.string HI) ∧ W.cell? ⟨ga, 2, none⟩ = some (.int .i64 0) ∧ W.cell? ⟨ga, 3, none⟩ = some (.int .i64 0) ∧ W.cell? ⟨gb, 0, none⟩ = some (.int .i64 2) ∧ W.cell? ⟨gb, 1, none⟩ = some (.string HI) ∧ W.cell? ⟨gb, 2, none⟩ = some (.int .i64 0) ∧ W.cell? ⟨gb, 3, none⟩ = some (.int .i64 0) ∧ W.cell? ⟨gc, 0, none⟩ = some (.int .i64 1) ∧ W.cell? ⟨gc, 1, none⟩ = some (.string HI) ∧ W.cell? ⟨gc, 2, none⟩ = some (.int .i64 0) ∧ W.cell? ⟨gc, 3, none⟩ = some (.int .i64 0) ∧ (convert 35 9 v3).run Tryd.prog W = .ok (.string LO) W ∧ (convert 35 9 v4).run Tryd.prog W = .ok (.string HI) W)) (by kernel_rfl) (HS0.out) (fun hS0 => ?_)
        refine wpAnyH_take (i := 0) (oi := { dst := some 98, op := Op.move (Operand.tmp 7), type := 23, pos := "law.go:105", after := #[], guard := none }) (v := (.slice (some ⟨ga, 0, none⟩) 2 ca)) rfl (by kernel_rfl) (by kernel_rfl) (by kernel_rfl) (fun _ _ _ h => h) (Or.inl ⟨by rfl, ?_⟩) hS0 ?_
        · intro wx hSw
          (try dsimp only at hSw)
          first | (go_simp; done) | (go_simp; with_reducible rfl)
        (try simp only [Act.put]); (try simp only [List.setIfInBounds_toArray]); (try simp only [List.set_cons_succ]); (try simp only [List.set_cons_zero])
        refine wpAnyH_take (i := 1) (oi := { dst := some 99, op := Op.indexAddr 23 (Operand.tmp 98) (Operand.const (Value.int IntKind.i64 0)), type := 0, pos := "law.go:105", after := #[{ on := 0, ground := Ground.data }], guard := none }) (v := (.pointer (some ⟨ga, 0, none⟩))) rfl (by kernel_rfl) (by kernel_rfl) (by kernel_rfl) (fun _ _ _ h => h) (Or.inl ⟨by rfl, ?_⟩) hS0 ?_
        · intro wx hSw
          (try dsimp only at hSw)
          first | (go_simp; done) | (go_simp; with_reducible rfl)
        (try simp only [Act.put]); (try simp only [List.setIfInBounds_toArray]); (try simp only [List.set_cons_succ]); (try simp only [List.set_cons_zero])
        refine wpAnyH_take (i := 2) (oi := { dst := some 100, op := Op.fieldAddr 29 (Operand.tmp 99) 0, type := 0, pos := "law.go:105", after := #[{ on := 1, ground := Ground.data }], guard := none }) (v := (.pointer (some ⟨ga, 0, none⟩))) rfl (by kernel_rfl) (by kernel_rfl) (by kernel_rfl) (fun _ _ _ h => h) (Or.inl ⟨by rfl, ?_⟩) hS0 ?_
        · intro wx hSw
          (try dsimp only at hSw)
          first | (go_simp; done) | (go_simp; with_reducible rfl)
        (try simp only [Act.put]); (try simp only [List.setIfInBounds_toArray]); (try simp only [List.set_cons_succ]); (try simp only [List.set_cons_zero])
        refine wpAnyH_take (i := 3) (oi := { dst := some 101, op := Op.load 3 (Operand.tmp 100), type := 3, pos := "law.go:105", after := #[{ on := 2, ground := Ground.data }], guard := none }) (v := (.int .i64 2)) rfl (by kernel_rfl) (by kernel_rfl) (by kernel_rfl) (fun _ _ _ h => h) (Or.inl ⟨by rfl, ?_⟩) hS0 ?_
        · intro wx hSw
          (try dsimp only at hSw)
          first | (go_simp; done) | (go_simp; with_reducible rfl)
        (try simp only [Act.put]); (try simp only [List.setIfInBounds_toArray]); (try simp only [List.set_cons_succ]); (try simp only [List.set_cons_zero])
        refine wpAnyH_take (i := 4) (oi := { dst := some 102, op := Op.binOp BinOp.eql 3 (Operand.tmp 101) (Operand.const (Value.int IntKind.i64 2)) 3, type := 4, pos := "law.go:105", after := #[{ on := 3, ground := Ground.data }], guard := none }) (v := (.bool true)) rfl (by kernel_rfl) (by kernel_rfl) (by kernel_rfl) (fun _ _ _ h => h) (Or.inl ⟨by rfl, ?_⟩) hS0 ?_
        · intro wx hSw
          (try dsimp only at hSw)
          first | (go_simp; done) | (go_simp; with_reducible rfl)
        (try simp only [Act.put]); (try simp only [List.setIfInBounds_toArray]); (try simp only [List.set_cons_succ]); (try simp only [List.set_cons_zero])
        refine wpAnyH_take (i := 5) (oi := { dst := some 103, op := Op.move (Operand.tmp 16), type := 4, pos := "law.go:105", after := #[], guard := none }) (v := (.bool true)) rfl (by kernel_rfl) (by kernel_rfl) (by kernel_rfl) (fun _ _ _ h => h) (Or.inl ⟨by rfl, ?_⟩) hS0 ?_
        · intro wx hSw
          (try dsimp only at hSw)
          first | (go_simp; done) | (go_simp; with_reducible rfl)
        (try simp only [Act.put]); (try simp only [List.setIfInBounds_toArray]); (try simp only [List.set_cons_succ]); (try simp only [List.set_cons_zero])
        refine wpAnyH_take (i := 6) (oi := { dst := some 104, op := Op.binOp BinOp.eql 4 (Operand.tmp 102) (Operand.tmp 103) 4, type := 4, pos := "law.go:105", after := #[{ on := 4, ground := Ground.data }, { on := 5, ground := Ground.data }], guard := none }) (v := (.bool true)) rfl (by kernel_rfl) (by kernel_rfl) (by kernel_rfl) (fun _ _ _ h => h) (Or.inl ⟨by rfl, ?_⟩) hS0 ?_
        · intro wx hSw
          (try dsimp only at hSw)
          first | (go_simp; done) | (go_simp; with_reducible rfl)
        (try simp only [Act.put]); (try simp only [List.setIfInBounds_toArray]); (try simp only [List.set_cons_succ]); (try simp only [List.set_cons_zero])
        refine wpAnyH_take (i := 7) (oi := { dst := some 105, op := Op.move (Operand.tmp 104), type := 4, pos := "law.go:105", after := #[{ on := 6, ground := Ground.data }], guard := none }) (v := (.bool true)) rfl (by kernel_rfl) (by kernel_rfl) (by kernel_rfl) (fun _ _ _ h => h) (Or.inl ⟨by rfl, ?_⟩) hS0 ?_
        · intro wx hSw
          (try dsimp only at hSw)
          first | (go_simp; done) | (go_simp; with_reducible rfl)
        (try simp only [Act.put]); (try simp only [List.setIfInBounds_toArray]); (try simp only [List.set_cons_succ]); (try simp only [List.set_cons_zero])
        refine wpAnyH_take (i := 8) (oi := { dst := some 106, op := Op.move (Operand.tmp 10), type := 23, pos := "law.go:105", after := #[{ on := 7, ground := Ground.guard }], guard := some (7, true) }) (v := (.slice (some ⟨gb, 0, none⟩) 2 cb)) rfl (by kernel_rfl) (by kernel_rfl) (by kernel_rfl) (fun _ _ _ h => h) (Or.inl ⟨by rfl, ?_⟩) hS0 ?_
        · intro wx hSw
          (try dsimp only at hSw)
          first | (go_simp; done) | (go_simp; with_reducible rfl)
        (try simp only [Act.put]); (try simp only [List.setIfInBounds_toArray]); (try simp only [List.set_cons_succ]); (try simp only [List.set_cons_zero])
        refine wpAnyH_take (i := 9) (oi := { dst := some 107, op := Op.indexAddr 23 (Operand.tmp 106) (Operand.const (Value.int IntKind.i64 0)), type := 0, pos := "law.go:105", after := #[{ on := 8, ground := Ground.data }, { on := 7, ground := Ground.guard }], guard := some (7, true) }) (v := (.pointer (some ⟨gb, 0, none⟩))) rfl (by kernel_rfl) (by kernel_rfl) (by kernel_rfl) (fun _ _ _ h => h) (Or.inl ⟨by rfl, ?_⟩) hS0 ?_
        · intro wx hSw
          (try dsimp only at hSw)
          first | (go_simp; done) | (go_simp; with_reducible rfl)
        (try simp only [Act.put]); (try simp only [List.setIfInBounds_toArray]); (try simp only [List.set_cons_succ]); (try simp only [List.set_cons_zero])
        refine wpAnyH_take (i := 10) (oi := { dst := some 108, op := Op.fieldAddr 29 (Operand.tmp 107) 0, type := 0, pos := "law.go:105", after := #[{ on := 9, ground := Ground.data }, { on := 7, ground := Ground.guard }], guard := some (7, true) }) (v := (.pointer (some ⟨gb, 0, none⟩))) rfl (by kernel_rfl) (by kernel_rfl) (by kernel_rfl) (fun _ _ _ h => h) (Or.inl ⟨by rfl, ?_⟩) hS0 ?_
        · intro wx hSw
          (try dsimp only at hSw)
          first | (go_simp; done) | (go_simp; with_reducible rfl)
        (try simp only [Act.put]); (try simp only [List.setIfInBounds_toArray]); (try simp only [List.set_cons_succ]); (try simp only [List.set_cons_zero])
        refine wpAnyH_take (i := 11) (oi := { dst := some 109, op := Op.load 3 (Operand.tmp 108), type := 3, pos := "law.go:105", after := #[{ on := 10, ground := Ground.data }, { on := 7, ground := Ground.guard }], guard := some (7, true) }) (v := (.int .i64 2)) rfl (by kernel_rfl) (by kernel_rfl) (by kernel_rfl) (fun _ _ _ h => h) (Or.inl ⟨by rfl, ?_⟩) hS0 ?_
        · intro wx hSw
          (try dsimp only at hSw)
          first | (go_simp; done) | (go_simp; with_reducible rfl)
        (try simp only [Act.put]); (try simp only [List.setIfInBounds_toArray]); (try simp only [List.set_cons_succ]); (try simp only [List.set_cons_zero])
        refine wpAnyH_take (i := 12) (oi := { dst := some 110, op := Op.binOp BinOp.eql 3 (Operand.tmp 109) (Operand.const (Value.int IntKind.i64 2)) 3, type := 4, pos := "law.go:105", after := #[{ on := 11, ground := Ground.data }, { on := 7, ground := Ground.guard }], guard := some (7, true) }) (v := (.bool true)) rfl (by kernel_rfl) (by kernel_rfl) (by kernel_rfl) (fun _ _ _ h => h) (Or.inl ⟨by rfl, ?_⟩) hS0 ?_
        · intro wx hSw
          (try dsimp only at hSw)
          first | (go_simp; done) | (go_simp; with_reducible rfl)
        (try simp only [Act.put]); (try simp only [List.setIfInBounds_toArray]); (try simp only [List.set_cons_succ]); (try simp only [List.set_cons_zero])
        refine wpAnyH_take (i := 13) (oi := { dst := some 111, op := Op.move (Operand.tmp 16), type := 4, pos := "law.go:105", after := #[{ on := 7, ground := Ground.guard }], guard := some (7, true) }) (v := (.bool true)) rfl (by kernel_rfl) (by kernel_rfl) (by kernel_rfl) (fun _ _ _ h => h) (Or.inl ⟨by rfl, ?_⟩) hS0 ?_
        · intro wx hSw
          (try dsimp only at hSw)
          first | (go_simp; done) | (go_simp; with_reducible rfl)
        (try simp only [Act.put]); (try simp only [List.setIfInBounds_toArray]); (try simp only [List.set_cons_succ]); (try simp only [List.set_cons_zero])
        refine wpAnyH_take (i := 14) (oi := { dst := some 112, op := Op.binOp BinOp.eql 4 (Operand.tmp 110) (Operand.tmp 111) 4, type := 4, pos := "law.go:105", after := #[{ on := 12, ground := Ground.data }, { on := 13, ground := Ground.data }, { on := 7, ground := Ground.guard }], guard := some (7, true) }) (v := (.bool true)) rfl (by kernel_rfl) (by kernel_rfl) (by kernel_rfl) (fun _ _ _ h => h) (Or.inl ⟨by rfl, ?_⟩) hS0 ?_
        · intro wx hSw
          (try dsimp only at hSw)
          first | (go_simp; done) | (go_simp; with_reducible rfl)
        (try simp only [Act.put]); (try simp only [List.setIfInBounds_toArray]); (try simp only [List.set_cons_succ]); (try simp only [List.set_cons_zero])
        refine wpAnyH_take (i := 15) (oi := { dst := some 113, op := Op.pick (Operand.tmp 105) (Operand.tmp 112) (Operand.const (Value.bool false)), type := 4, pos := "law.go:105", after := #[{ on := 7, ground := Ground.data }, { on := 14, ground := Ground.data }], guard := none }) (v := (.bool true)) rfl (by kernel_rfl) (by kernel_rfl) (by kernel_rfl) (fun _ _ _ h => h) (Or.inl ⟨by rfl, ?_⟩) hS0 ?_
        · intro wx hSw
          (try dsimp only at hSw)
          first | (go_simp; done) | (go_simp; with_reducible rfl)
        (try simp only [Act.put]); (try simp only [List.setIfInBounds_toArray]); (try simp only [List.set_cons_succ]); (try simp only [List.set_cons_zero])
        refine wpAnyH_take (i := 16) (oi := { dst := some 114, op := Op.move (Operand.tmp 113), type := 4, pos := "law.go:105", after := #[{ on := 15, ground := Ground.data }, { on := 7, ground := Ground.chain }], guard := none }) (v := (.bool true)) rfl (by kernel_rfl) (by kernel_rfl) (by kernel_rfl) (fun _ _ _ h => h) (Or.inl ⟨by rfl, ?_⟩) hS0 ?_
        · intro wx hSw
          (try dsimp only at hSw)
          first | (go_simp; done) | (go_simp; with_reducible rfl)
        (try simp only [Act.put]); (try simp only [List.setIfInBounds_toArray]); (try simp only [List.set_cons_succ]); (try simp only [List.set_cons_zero])
        refine wpAnyH_take (i := 17) (oi := { dst := some 115, op := Op.move (Operand.tmp 16), type := 4, pos := "law.go:105", after := #[{ on := 16, ground := Ground.guard }], guard := some (16, true) }) (v := (.bool true)) rfl (by kernel_rfl) (by kernel_rfl) (by kernel_rfl) (fun _ _ _ h => h) (Or.inl ⟨by rfl, ?_⟩) hS0 ?_
        · intro wx hSw
          (try dsimp only at hSw)
          first | (go_simp; done) | (go_simp; with_reducible rfl)
        (try simp only [Act.put]); (try simp only [List.setIfInBounds_toArray]); (try simp only [List.set_cons_succ]); (try simp only [List.set_cons_zero])
        refine wpAnyH_take (i := 18) (oi := { dst := some 116, op := Op.unOp UnOp.not 4 (Operand.tmp 115), type := 4, pos := "law.go:105", after := #[{ on := 17, ground := Ground.data }, { on := 16, ground := Ground.guard }], guard := some (16, true) }) (v := (.bool false)) rfl (by kernel_rfl) (by kernel_rfl) (by kernel_rfl) (fun _ _ _ h => h) (Or.inl ⟨by rfl, ?_⟩) hS0 ?_
        · intro wx hSw
          (try dsimp only at hSw)
          first | (go_simp; done) | (go_simp; with_reducible rfl)
        (try simp only [Act.put]); (try simp only [List.setIfInBounds_toArray]); (try simp only [List.set_cons_succ]); (try simp only [List.set_cons_zero])
        refine wpAnyH_take (i := 19) (oi := { dst := some 117, op := Op.move (Operand.tmp 116), type := 4, pos := "law.go:105", after := #[{ on := 18, ground := Ground.data }, { on := 16, ground := Ground.chain }, { on := 16, ground := Ground.guard }], guard := some (16, true) }) (v := (.bool false)) rfl (by kernel_rfl) (by kernel_rfl) (by kernel_rfl) (fun _ _ _ h => h) (Or.inl ⟨by rfl, ?_⟩) hS0 ?_
        · intro wx hSw
          (try dsimp only at hSw)
          first | (go_simp; done) | (go_simp; with_reducible rfl)
        (try simp only [Act.put]); (try simp only [List.setIfInBounds_toArray]); (try simp only [List.set_cons_succ]); (try simp only [List.set_cons_zero])
        refine wpAnyH_take (i := 20) (oi := { dst := some 118, op := Op.move (Operand.tmp 7), type := 23, pos := "law.go:105", after := #[{ on := 19, ground := Ground.guard }], guard := some (19, false) }) (v := (.slice (some ⟨ga, 0, none⟩) 2 ca)) rfl (by kernel_rfl) (by kernel_rfl) (by kernel_rfl) (fun _ _ _ h => h) (Or.inl ⟨by rfl, ?_⟩) hS0 ?_
        · intro wx hSw
          (try dsimp only at hSw)
          first | (go_simp; done) | (go_simp; with_reducible rfl)
        (try simp only [Act.put]); (try simp only [List.setIfInBounds_toArray]); (try simp only [List.set_cons_succ]); (try simp only [List.set_cons_zero])
        refine wpAnyH_take (i := 21) (oi := { dst := some 119, op := Op.indexAddr 23 (Operand.tmp 118) (Operand.const (Value.int IntKind.i64 0)), type := 0, pos := "law.go:105", after := #[{ on := 20, ground := Ground.data }, { on := 19, ground := Ground.guard }], guard := some (19, false) }) (v := (.pointer (some ⟨ga, 0, none⟩))) rfl (by kernel_rfl) (by kernel_rfl) (by kernel_rfl) (fun _ _ _ h => h) (Or.inl ⟨by rfl, ?_⟩) hS0 ?_
        · intro wx hSw
          (try dsimp only at hSw)
          first | (go_simp; done) | (go_simp; with_reducible rfl)
        (try simp only [Act.put]); (try simp only [List.setIfInBounds_toArray]); (try simp only [List.set_cons_succ]); (try simp only [List.set_cons_zero])
        refine wpAnyH_take (i := 22) (oi := { dst := some 120, op := Op.load 29 (Operand.tmp 119), type := 29, pos := "law.go:105", after := #[{ on := 21, ground := Ground.data }, { on := 19, ground := Ground.guard }], guard := some (19, false) }) (v := (.agg #[.int .i64 2, .string HI, .int .i64 0, .int .i64 0])) rfl (by kernel_rfl) (by kernel_rfl) (by kernel_rfl) (fun _ _ _ h => h) (Or.inl ⟨by rfl, ?_⟩) hS0 ?_
        · intro wx hSw
          (try dsimp only at hSw)
          first | (go_simp; done) | (go_simp; with_reducible rfl)
        (try simp only [Act.put]); (try simp only [List.setIfInBounds_toArray]); (try simp only [List.set_cons_succ]); (try simp only [List.set_cons_zero])
        refine wpAnyH_take (i := 23) (oi := { dst := some 121, op := Op.move (Operand.tmp 10), type := 23, pos := "law.go:105", after := #[{ on := 19, ground := Ground.guard }], guard := some (19, false) }) (v := (.slice (some ⟨gb, 0, none⟩) 2 cb)) rfl (by kernel_rfl) (by kernel_rfl) (by kernel_rfl) (fun _ _ _ h => h) (Or.inl ⟨by rfl, ?_⟩) hS0 ?_
        · intro wx hSw
          (try dsimp only at hSw)
          first | (go_simp; done) | (go_simp; with_reducible rfl)
        (try simp only [Act.put]); (try simp only [List.setIfInBounds_toArray]); (try simp only [List.set_cons_succ]); (try simp only [List.set_cons_zero])
        refine wpAnyH_take (i := 24) (oi := { dst := some 122, op := Op.indexAddr 23 (Operand.tmp 121) (Operand.const (Value.int IntKind.i64 0)), type := 0, pos := "law.go:105", after := #[{ on := 23, ground := Ground.data }, { on := 19, ground := Ground.guard }], guard := some (19, false) }) (v := (.pointer (some ⟨gb, 0, none⟩))) rfl (by kernel_rfl) (by kernel_rfl) (by kernel_rfl) (fun _ _ _ h => h) (Or.inl ⟨by rfl, ?_⟩) hS0 ?_
        · intro wx hSw
          (try dsimp only at hSw)
          first | (go_simp; done) | (go_simp; with_reducible rfl)
        (try simp only [Act.put]); (try simp only [List.setIfInBounds_toArray]); (try simp only [List.set_cons_succ]); (try simp only [List.set_cons_zero])
        refine wpAnyH_take (i := 25) (oi := { dst := some 123, op := Op.load 29 (Operand.tmp 122), type := 29, pos := "law.go:105", after := #[{ on := 24, ground := Ground.data }, { on := 19, ground := Ground.guard }], guard := some (19, false) }) (v := (.agg #[.int .i64 2, .string HI, .int .i64 0, .int .i64 0])) rfl (by kernel_rfl) (by kernel_rfl) (by kernel_rfl) (fun _ _ _ h => h) (Or.inl ⟨by rfl, ?_⟩) hS0 ?_
        · intro wx hSw
          (try dsimp only at hSw)
          first | (go_simp; done) | (go_simp; with_reducible rfl)
        (try simp only [Act.put]); (try simp only [List.setIfInBounds_toArray]); (try simp only [List.set_cons_succ]); (try simp only [List.set_cons_zero])
        refine wpAnyH_take (i := 26) (oi := { dst := some 124, op := Op.binOp BinOp.eql 29 (Operand.tmp 120) (Operand.tmp 123) 29, type := 4, pos := "law.go:105", after := #[{ on := 22, ground := Ground.data }, { on := 25, ground := Ground.data }, { on := 19, ground := Ground.guard }], guard := some (19, false) }) (v := (.bool true)) rfl (by kernel_rfl) (by kernel_rfl) (by kernel_rfl) (fun _ _ _ h => h) (Or.inl ⟨by rfl, ?_⟩) hS0 ?_
        · intro wx hSw
          (try dsimp only at hSw)
          first | (go_simp; done) | (go_simp; with_reducible rfl)
        (try simp only [Act.put]); (try simp only [List.setIfInBounds_toArray]); (try simp only [List.set_cons_succ]); (try simp only [List.set_cons_zero])
        refine wpAnyH_take (i := 27) (oi := { dst := some 125, op := Op.pick (Operand.tmp 117) (Operand.const (Value.bool true)) (Operand.tmp 124), type := 4, pos := "law.go:105", after := #[{ on := 19, ground := Ground.data }, { on := 26, ground := Ground.data }, { on := 16, ground := Ground.guard }], guard := some (16, true) }) (v := (.bool true)) rfl (by kernel_rfl) (by kernel_rfl) (by kernel_rfl) (fun _ _ _ h => h) (Or.inl ⟨by rfl, ?_⟩) hS0 ?_
        · intro wx hSw
          (try dsimp only at hSw)
          first | (go_simp; done) | (go_simp; with_reducible rfl)
        (try simp only [Act.put]); (try simp only [List.setIfInBounds_toArray]); (try simp only [List.set_cons_succ]); (try simp only [List.set_cons_zero])
        refine wpAnyH_take (i := 28) (oi := { dst := some 126, op := Op.pick (Operand.tmp 114) (Operand.tmp 125) (Operand.const (Value.bool false)), type := 4, pos := "law.go:105", after := #[{ on := 16, ground := Ground.data }, { on := 27, ground := Ground.data }], guard := none }) (v := (.bool true)) rfl (by kernel_rfl) (by kernel_rfl) (by kernel_rfl) (fun _ _ _ h => h) (Or.inl ⟨by rfl, ?_⟩) hS0 ?_
        · intro wx hSw
          (try dsimp only at hSw)
          first | (go_simp; done) | (go_simp; with_reducible rfl)
        (try simp only [Act.put]); (try simp only [List.setIfInBounds_toArray]); (try simp only [List.set_cons_succ]); (try simp only [List.set_cons_zero])
        refine wpAnyH_take (i := 29) (oi := { dst := some 127, op := Op.move (Operand.tmp 126), type := 4, pos := "law.go:105", after := #[{ on := 28, ground := Ground.data }, { on := 19, ground := Ground.chain }], guard := none }) (v := (.bool true)) rfl (by kernel_rfl) (by kernel_rfl) (by kernel_rfl) (fun _ _ _ h => h) (Or.inl ⟨by rfl, ?_⟩) hS0 ?_
        · intro wx hSw
          (try dsimp only at hSw)
          first | (go_simp; done) | (go_simp; with_reducible rfl)
        (try simp only [Act.put]); (try simp only [List.setIfInBounds_toArray]); (try simp only [List.set_cons_succ]); (try simp only [List.set_cons_zero])
        refine wpAnyH_take (i := 30) (oi := { dst := some 128, op := Op.move (Operand.tmp 13), type := 23, pos := "law.go:105", after := #[{ on := 29, ground := Ground.guard }], guard := some (29, true) }) (v := (.slice (some ⟨gc, 0, none⟩) 2 cc)) rfl (by kernel_rfl) (by kernel_rfl) (by kernel_rfl) (fun _ _ _ h => h) (Or.inl ⟨by rfl, ?_⟩) hS0 ?_
        · intro wx hSw
          (try dsimp only at hSw)
          first | (go_simp; done) | (go_simp; with_reducible rfl)
        (try simp only [Act.put]); (try simp only [List.setIfInBounds_toArray]); (try simp only [List.set_cons_succ]); (try simp only [List.set_cons_zero])
        refine wpAnyH_take (i := 31) (oi := { dst := some 129, op := Op.indexAddr 23 (Operand.tmp 128) (Operand.const (Value.int IntKind.i64 0)), type := 0, pos := "law.go:105", after := #[{ on := 30, ground := Ground.data }, { on := 29, ground := Ground.guard }], guard := some (29, true) }) (v := (.pointer (some ⟨gc, 0, none⟩))) rfl (by kernel_rfl) (by kernel_rfl) (by kernel_rfl) (fun _ _ _ h => h) (Or.inl ⟨by rfl, ?_⟩) hS0 ?_
        · intro wx hSw
          (try dsimp only at hSw)
          first | (go_simp; done) | (go_simp; with_reducible rfl)
        (try simp only [Act.put]); (try simp only [List.setIfInBounds_toArray]); (try simp only [List.set_cons_succ]); (try simp only [List.set_cons_zero])
        refine wpAnyH_take (i := 32) (oi := { dst := some 130, op := Op.load 29 (Operand.tmp 129), type := 29, pos := "law.go:105", after := #[{ on := 31, ground := Ground.data }, { on := 29, ground := Ground.guard }], guard := some (29, true) }) (v := (.agg #[.int .i64 1, .string HI, .int .i64 0, .int .i64 0])) rfl (by kernel_rfl) (by kernel_rfl) (by kernel_rfl) (fun _ _ _ h => h) (Or.inl ⟨by rfl, ?_⟩) hS0 ?_
        · intro wx hSw
          (try dsimp only at hSw)
          first | (go_simp; done) | (go_simp; with_reducible rfl)
        (try simp only [Act.put]); (try simp only [List.setIfInBounds_toArray]); (try simp only [List.set_cons_succ]); (try simp only [List.set_cons_zero])
        refine wpAnyH_take (i := 33) (oi := { dst := some 131, op := Op.move (Operand.tmp 4), type := 35, pos := "law.go:105", after := #[{ on := 29, ground := Ground.guard }], guard := some (29, true) }) (v := v4) rfl (by kernel_rfl) (by kernel_rfl) (by kernel_rfl) (fun _ _ _ h => h) (Or.inl ⟨by rfl, ?_⟩) hS0 ?_
        · intro wx hSw
          (try dsimp only at hSw)
          first | (go_simp; done) | (go_simp; with_reducible rfl)
        (try simp only [Act.put]); (try simp only [List.setIfInBounds_toArray]); (try simp only [List.set_cons_succ]); (try simp only [List.set_cons_zero])
        refine wpAnyH_take (i := 34) (oi := { dst := some 132, op := Op.convert 35 9 (Operand.tmp 131), type := 9, pos := "law.go:105", after := #[{ on := 33, ground := Ground.data }, { on := 29, ground := Ground.guard }], guard := some (29, true) }) (v := (.string HI)) rfl (by kernel_rfl) (by kernel_rfl) (by kernel_rfl) (fun _ _ _ h => h) (Or.inl ⟨by rfl, ?_⟩) hS0 ?_
        · intro wx hSw
          (try dsimp only at hSw)
          first | (go_simp; done) | (go_simp; with_reducible rfl)
        (try simp only [Act.put]); (try simp only [List.setIfInBounds_toArray]); (try simp only [List.set_cons_succ]); (try simp only [List.set_cons_zero])
        refine wpAnyH_take (i := 35) (oi := { dst := some 133, op := Op.build 29 #[(0, Operand.const (Value.int IntKind.i64 1)), (1, Operand.tmp 132)], type := 29, pos := "law.go:105", after := #[{ on := 34, ground := Ground.data }, { on := 29, ground := Ground.guard }], guard := some (29, true) }) (v := (.agg #[.int .i64 1, .string HI, .int .i64 0, .int .i64 0])) rfl (by kernel_rfl) (by kernel_rfl) (by kernel_rfl) (fun _ _ _ h => h) (Or.inl ⟨by rfl, ?_⟩) hS0 ?_
        · intro wx hSw
          (try dsimp only at hSw)
          first | (go_simp; done) | (go_simp; with_reducible rfl)
        (try simp only [Act.put]); (try simp only [List.setIfInBounds_toArray]); (try simp only [List.set_cons_succ]); (try simp only [List.set_cons_zero])
        refine wpAnyH_take (i := 36) (oi := { dst := some 134, op := Op.binOp BinOp.eql 29 (Operand.tmp 130) (Operand.tmp 133) 29, type := 4, pos := "law.go:105", after := #[{ on := 32, ground := Ground.data }, { on := 35, ground := Ground.data }, { on := 29, ground := Ground.guard }], guard := some (29, true) }) (v := (.bool true)) rfl (by kernel_rfl) (by kernel_rfl) (by kernel_rfl) (fun _ _ _ h => h) (Or.inl ⟨by rfl, ?_⟩) hS0 ?_
        · intro wx hSw
          (try dsimp only at hSw)
          first | (go_simp; done) | (go_simp; with_reducible rfl)
        (try simp only [Act.put]); (try simp only [List.setIfInBounds_toArray]); (try simp only [List.set_cons_succ]); (try simp only [List.set_cons_zero])
        refine wpAnyH_take (i := 37) (oi := { dst := some 135, op := Op.pick (Operand.tmp 127) (Operand.tmp 134) (Operand.const (Value.bool false)), type := 4, pos := "law.go:105", after := #[{ on := 29, ground := Ground.data }, { on := 36, ground := Ground.data }], guard := none }) (v := (.bool true)) rfl (by kernel_rfl) (by kernel_rfl) (by kernel_rfl) (fun _ _ _ h => h) (Or.inl ⟨by rfl, ?_⟩) hS0 ?_
        · intro wx hSw
          (try dsimp only at hSw)
          first | (go_simp; done) | (go_simp; with_reducible rfl)
        (try simp only [Act.put]); (try simp only [List.setIfInBounds_toArray]); (try simp only [List.set_cons_succ]); (try simp only [List.set_cons_zero])
        refine wpAnyH_take (i := 38) (oi := { dst := some 136, op := Op.move (Operand.tmp 135), type := 4, pos := "law.go:105", after := #[{ on := 37, ground := Ground.data }, { on := 29, ground := Ground.chain }], guard := none }) (v := (.bool true)) rfl (by kernel_rfl) (by kernel_rfl) (by kernel_rfl) (fun _ _ _ h => h) (Or.inl ⟨by rfl, ?_⟩) hS0 ?_
        · intro wx hSw
          (try dsimp only at hSw)
          first | (go_simp; done) | (go_simp; with_reducible rfl)
        (try simp only [Act.put]); (try simp only [List.setIfInBounds_toArray]); (try simp only [List.set_cons_succ]); (try simp only [List.set_cons_zero])
        refine wpAnyH_take (i := 39) (oi := { dst := some 137, op := Op.move (Operand.tmp 16), type := 4, pos := "law.go:105", after := #[{ on := 38, ground := Ground.guard }], guard := some (38, true) }) (v := (.bool true)) rfl (by kernel_rfl) (by kernel_rfl) (by kernel_rfl) (fun _ _ _ h => h) (Or.inl ⟨by rfl, ?_⟩) hS0 ?_
        · intro wx hSw
          (try dsimp only at hSw)
          first | (go_simp; done) | (go_simp; with_reducible rfl)
        (try simp only [Act.put]); (try simp only [List.setIfInBounds_toArray]); (try simp only [List.set_cons_succ]); (try simp only [List.set_cons_zero])
        refine wpAnyH_take (i := 40) (oi := { dst := some 138, op := Op.move (Operand.tmp 137), type := 4, pos := "law.go:105", after := #[{ on := 39, ground := Ground.data }, { on := 38, ground := Ground.chain }, { on := 38, ground := Ground.guard }], guard := some (38, true) }) (v := (.bool true)) rfl (by kernel_rfl) (by kernel_rfl) (by kernel_rfl) (fun _ _ _ h => h) (Or.inl ⟨by rfl, ?_⟩) hS0 ?_
        · intro wx hSw
          (try dsimp only at hSw)
          first | (go_simp; done) | (go_simp; with_reducible rfl)
        (try simp only [Act.put]); (try simp only [List.setIfInBounds_toArray]); (try simp only [List.set_cons_succ]); (try simp only [List.set_cons_zero])
        refine wpAnyH_take (i := 41) (oi := { dst := some 139, op := Op.move (Operand.tmp 7), type := 23, pos := "law.go:105", after := #[{ on := 40, ground := Ground.guard }], guard := some (40, false) }) (v := undef) rfl (by kernel_rfl) (by kernel_rfl) (by kernel_rfl) (fun _ _ _ h => h) (Or.inr ⟨by rfl, rfl⟩) hS0 ?_
        (try simp only [Act.put]); (try simp only [List.setIfInBounds_toArray]); (try simp only [List.set_cons_succ]); (try simp only [List.set_cons_zero])
        refine wpAnyH_take (i := 42) (oi := { dst := some 140, op := Op.indexAddr 23 (Operand.tmp 139) (Operand.const (Value.int IntKind.i64 0)), type := 0, pos := "law.go:105", after := #[{ on := 41, ground := Ground.data }, { on := 40, ground := Ground.guard }], guard := some (40, false) }) (v := undef) rfl (by kernel_rfl) (by kernel_rfl) (by kernel_rfl) (fun _ _ _ h => h) (Or.inr ⟨by rfl, rfl⟩) hS0 ?_
        (try simp only [Act.put]); (try simp only [List.setIfInBounds_toArray]); (try simp only [List.set_cons_succ]); (try simp only [List.set_cons_zero])
        refine wpAnyH_take (i := 43) (oi := { dst := some 141, op := Op.fieldAddr 29 (Operand.tmp 140) 1, type := 0, pos := "law.go:105", after := #[{ on := 42, ground := Ground.data }, { on := 40, ground := Ground.guard }], guard := some (40, false) }) (v := undef) rfl (by kernel_rfl) (by kernel_rfl) (by kernel_rfl) (fun _ _ _ h => h) (Or.inr ⟨by rfl, rfl⟩) hS0 ?_
        (try simp only [Act.put]); (try simp only [List.setIfInBounds_toArray]); (try simp only [List.set_cons_succ]); (try simp only [List.set_cons_zero])
        refine wpAnyH_take (i := 44) (oi := { dst := some 142, op := Op.load 9 (Operand.tmp 141), type := 9, pos := "law.go:105", after := #[{ on := 43, ground := Ground.data }, { on := 40, ground := Ground.guard }], guard := some (40, false) }) (v := undef) rfl (by kernel_rfl) (by kernel_rfl) (by kernel_rfl) (fun _ _ _ h => h) (Or.inr ⟨by rfl, rfl⟩) hS0 ?_
        (try simp only [Act.put]); (try simp only [List.setIfInBounds_toArray]); (try simp only [List.set_cons_succ]); (try simp only [List.set_cons_zero])
        refine wpAnyH_take (i := 45) (oi := { dst := some 143, op := Op.move (Operand.tmp 3), type := 35, pos := "law.go:105", after := #[{ on := 40, ground := Ground.guard }], guard := some (40, false) }) (v := undef) rfl (by kernel_rfl) (by kernel_rfl) (by kernel_rfl) (fun _ _ _ h => h) (Or.inr ⟨by rfl, rfl⟩) hS0 ?_
        (try simp only [Act.put]); (try simp only [List.setIfInBounds_toArray]); (try simp only [List.set_cons_succ]); (try simp only [List.set_cons_zero])
        refine wpAnyH_take (i := 46) (oi := { dst := some 144, op := Op.convert 35 9 (Operand.tmp 143), type := 9, pos := "law.go:105", after := #[{ on := 45, ground := Ground.data }, { on := 40, ground := Ground.guard }], guard := some (40, false) }) (v := undef) rfl (by kernel_rfl) (by kernel_rfl) (by kernel_rfl) (fun _ _ _ h => h) (Or.inr ⟨by rfl, rfl⟩) hS0 ?_
        (try simp only [Act.put]); (try simp only [List.setIfInBounds_toArray]); (try simp only [List.set_cons_succ]); (try simp only [List.set_cons_zero])
        refine wpAnyH_take (i := 47) (oi := { dst := some 145, op := Op.binOp BinOp.eql 9 (Operand.tmp 142) (Operand.tmp 144) 9, type := 4, pos := "law.go:105", after := #[{ on := 44, ground := Ground.data }, { on := 46, ground := Ground.data }, { on := 40, ground := Ground.guard }], guard := some (40, false) }) (v := undef) rfl (by kernel_rfl) (by kernel_rfl) (by kernel_rfl) (fun _ _ _ h => h) (Or.inr ⟨by rfl, rfl⟩) hS0 ?_
        (try simp only [Act.put]); (try simp only [List.setIfInBounds_toArray]); (try simp only [List.set_cons_succ]); (try simp only [List.set_cons_zero])
        refine wpAnyH_take (i := 48) (oi := { dst := some 146, op := Op.pick (Operand.tmp 138) (Operand.const (Value.bool true)) (Operand.tmp 145), type := 4, pos := "law.go:105", after := #[{ on := 40, ground := Ground.data }, { on := 47, ground := Ground.data }, { on := 38, ground := Ground.guard }], guard := some (38, true) }) (v := (.bool true)) rfl (by kernel_rfl) (by kernel_rfl) (by kernel_rfl) (fun _ _ _ h => h) (Or.inl ⟨by rfl, ?_⟩) hS0 ?_
        · intro wx hSw
          (try dsimp only at hSw)
          first | (go_simp; done) | (go_simp; with_reducible rfl)
        (try simp only [Act.put]); (try simp only [List.setIfInBounds_toArray]); (try simp only [List.set_cons_succ]); (try simp only [List.set_cons_zero])
        refine wpAnyH_take (i := 49) (oi := { dst := some 147, op := Op.pick (Operand.tmp 136) (Operand.tmp 146) (Operand.const (Value.bool false)), type := 4, pos := "law.go:105", after := #[{ on := 38, ground := Ground.data }, { on := 48, ground := Ground.data }], guard := none }) (v := (.bool true)) rfl (by kernel_rfl) (by kernel_rfl) (by kernel_rfl) (fun _ _ _ h => h) (Or.inl ⟨by rfl, ?_⟩) hS0 ?_
        · intro wx hSw
          (try dsimp only at hSw)
          first | (go_simp; done) | (go_simp; with_reducible rfl)
        (try simp only [Act.put]); (try simp only [List.setIfInBounds_toArray]); (try simp only [List.set_cons_succ]); (try simp only [List.set_cons_zero])
        refine wpAnyH_take (i := 50) (oi := { dst := some 148, op := Op.move (Operand.tmp 147), type := 4, pos := "law.go:105", after := #[{ on := 49, ground := Ground.data }, { on := 40, ground := Ground.chain }], guard := none }) (v := (.bool true)) rfl (by kernel_rfl) (by kernel_rfl) (by kernel_rfl) (fun _ _ _ h => h) (Or.inl ⟨by rfl, ?_⟩) hS0 ?_
        · intro wx hSw
          (try dsimp only at hSw)
          first | (go_simp; done) | (go_simp; with_reducible rfl)
        (try simp only [Act.put]); (try simp only [List.setIfInBounds_toArray]); (try simp only [List.set_cons_succ]); (try simp only [List.set_cons_zero])
        refine wpAnyH_ready (rs := [51]) (by kernel_rfl) (by simp) ?_
        refine AllReadyH.cons rfl (fun K hK => ?_) AllReadyH.nil
        go_simp
        refine Calls.mono (HA.out _ (And.left (And.left hS0))) ?_
        rintro e w9 ⟨rfl, k9⟩
        have HB9 : Hid (Below w.heap.size w w9) := Below.next hS0.1.2 k9
        refine hK.out _ _ (HSN.out _ k9) (fun hS1 => ?_)
        clear hK K
        (try simp only [Act.put]); (try simp only [List.setIfInBounds_toArray]); (try simp only [List.set_cons_succ]); (try simp only [List.set_cons_zero])
        refine wpAnyH_take (i := 52) (oi := { dst := some 150, op := Op.pick (Operand.tmp 148) (Operand.tmp 149) (Operand.const (Value.bool false)), type := 4, pos := "law.go:105", after := #[{ on := 50, ground := Ground.data }, { on := 51, ground := Ground.data }], guard := none }) (v := (.bool true)) rfl (by kernel_rfl) (by kernel_rfl) (by kernel_rfl) (fun _ _ _ h => h) (Or.inl ⟨by rfl, ?_⟩) hS1 ?_
        · intro wx hSw
          (try dsimp only at hSw)
          first | (go_simp; done) | (go_simp; with_reducible rfl)
        (try simp only [Act.put]); (try simp only [List.setIfInBounds_toArray]); (try simp only [List.set_cons_succ]); (try simp only [List.set_cons_zero])
        refine wpAnyH_take (i := 53) (oi := { dst := some 2, op := Op.assign (Operand.tmp 150), type := 4, pos := "law.go:105", after := #[{ on := 52, ground := Ground.data }, { on := 51, ground := Ground.chain }, { on := 0, ground := Ground.phase }, { on := 1, ground := Ground.phase }, { on := 2, ground := Ground.phase }, { on := 3, ground := Ground.phase }, { on := 4, ground := Ground.phase }, { on := 5, ground := Ground.phase }, { on := 6, ground := Ground.phase }, { on := 7, ground := Ground.phase }, { on := 8, ground := Ground.phase }, { on := 9, ground := Ground.phase }, { on := 10, ground := Ground.phase }, { on := 11, ground := Ground.phase }, { on := 12, ground := Ground.phase }, { on := 13, ground := Ground.phase }, { on := 14, ground := Ground.phase }, { on := 15, ground := Ground.phase }, { on := 16, ground := Ground.phase }, { on := 17, ground := Ground.phase }, { on := 18, ground := Ground.phase }, { on := 19, ground := Ground.phase }, { on := 20, ground := Ground.phase }, { on := 21, ground := Ground.phase }, { on := 22, ground := Ground.phase }, { on := 23, ground := Ground.phase }, { on := 24, ground := Ground.phase }, { on := 25, ground := Ground.phase }, { on := 26, ground := Ground.phase }, { on := 27, ground := Ground.phase }, { on := 28, ground := Ground.phase }, { on := 29, ground := Ground.phase }, { on := 30, ground := Ground.phase }, { on := 31, ground := Ground.phase }, { on := 32, ground := Ground.phase }, { on := 33, ground := Ground.phase }, { on := 34, ground := Ground.phase }, { on := 35, ground := Ground.phase }, { on := 36, ground := Ground.phase }, { on := 37, ground := Ground.phase }, { on := 38, ground := Ground.phase }, { on := 39, ground := Ground.phase }, { on := 40, ground := Ground.phase }, { on := 41, ground := Ground.phase }, { on := 42, ground := Ground.phase }, { on := 43, ground := Ground.phase }, { on := 44, ground := Ground.phase }, { on := 45, ground := Ground.phase }, { on := 46, ground := Ground.phase }, { on := 47, ground := Ground.phase }, { on := 48, ground := Ground.phase }, { on := 49, ground := Ground.phase }, { on := 50, ground := Ground.phase }, { on := 51, ground := Ground.phase }, { on := 52, ground := Ground.phase }], guard := none }) (v := (.bool true)) rfl (by kernel_rfl) (by kernel_rfl) (by kernel_rfl) (fun _ _ _ h => h) (Or.inl ⟨by rfl, ?_⟩) hS1 ?_
        · intro wx hSw
          (try dsimp only at hSw)
          first | (go_simp; done) | (go_simp; with_reducible rfl)
        (try simp only [Act.put]); (try simp only [List.setIfInBounds_toArray]); (try simp only [List.set_cons_succ]); (try simp only [List.set_cons_zero])
        refine wpAnyH_done (by kernel_rfl) ?_ _
        try simp only [Exit.then]
        clear HS0 HSN
        go_wp2_with fail
        go_ret
        exact ⟨rfl, HB9.out⟩

theorem walk_cases (s : ByteArray) (w : World) (hg : Glob w) : Calls Tryd.prog 7 #[.string s] w fun e w' => e = .returned (.bool true) ∧ Below w.heap.size w w' := by
  by_cases h : (s.size : Int) < 1
  · exact cases_short s h w hg
  · by_cases h2 : 30 < (s.size : Int)
    · exact cases_long s h h2 w hg
    · exact cases_in s h h2 w hg
end Go.Proofs.YtgokilochbnbaaaDoor
