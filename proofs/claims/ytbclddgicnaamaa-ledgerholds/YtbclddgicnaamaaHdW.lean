/- LedgerHolds' walk. -/
import Derived.Test.YtbclddgicnaamaaHldP
import Derived.Test.YtbclddgicnaamaaPlay
import Derived.Deep.DeepCutAuto
namespace Go.Proofs.Ytbclddgicnaamaa
open Go.ChangeShapes Go.WideShapes Go.RowKit
set_option linter.unusedVariables false
set_option maxRecDepth 100000

theorem field_held (a b c d : Value) (w : World) : (Instr.field 50 (.agg #[a, b, c, d]) 3).run Try.prog w = .ok d w := by
  rfl
theorem wid1 {k : Nat} (h : k ≤ 20) : wrap64 ((k : Int) + 1) = (k : Int) + 1 := by unfold wrap64; omega
theorem wid2 {k : Nat} (h : k ≤ 20) : wrap64 ((k : Int) + 1 - 1) = (k : Int) := by unfold wrap64; omega
theorem wfr {q fr : Int} (hq : 1 ≤ q ∧ q ≤ 8) (hb : 0 ≤ fr ∧ fr ≤ 9223372036854775807) (h : q ≤ fr) : wrap64 (fr - q) = fr - q := by unfold wrap64; omega
theorem wid3 {k : Nat} (h : k ≤ 20) : IntKind.i64.wrap (k : Int) = (k : Int) := by rw [IntKind.wrap_i64]; omega
theorem wfr2 {q fr : Int} (hq : 1 ≤ q ∧ q ≤ 8) (hb : 0 ≤ fr ∧ fr ≤ 9223372036854775807) (h : q ≤ fr) : IntKind.i64.wrap (fr - q) = fr - q := by rw [IntKind.wrap_i64]; omega
theorem nsl (k : Nat) : ¬ ((k : Int) + 1 ≤ (k : Int)) := by omega
theorem bfr {q fr : Int} (hq : 1 ≤ q ∧ q ≤ 8) (hb : 0 ≤ fr ∧ fr ≤ 9223372036854775807) (h : q ≤ fr) : -9223372036854775808 ≤ fr - q ∧ fr - q ≤ 9223372036854775807 := by omega
set_option maxHeartbeats 8000000 in
theorem holds_is (ap : Option Addr) (n cp : Nat) (l : List Opn) (hl : l.length = n) (hn : n ≤ 9223372036854775807) (hlf : ∀ o, o ∈ l → o.fit) (qty m q : Int) (hqm : bits .and .i64 qty 7 = m) (hmb : 0 ≤ m ∧ m ≤ 7) (hq : 1 + m = q) (ob : Bool) (kk : Int) (hkk : kk = if ob then 3 else 4) (w : World) (hro : Rw opv 7 w ap l) :
    Calls Try.prog 7 #[.slice ap n cp, .int .i64 qty, .bool ob] w fun e w' => e = .returned (.bool true) ∧ Below w.heap.size w w' := by
  have HAW : Hid (∀ w, Calls Try.prog 10 #[] w fun e w' => e = .returned (.bool true) ∧ Below w.heap.size w w') := awake_is
  have hw1 : wrap64 (1 + m) = q := by unfold wrap64; omega
  have hqb : 1 ≤ q ∧ q ≤ 8 := by omega
  have hk34 : kk = 3 ∨ kk = 4 := by cases ob <;> simp at hkk <;> omega
  have HPL : Hid (Calls Try.prog 19 #[.slice ap n cp, .int .i64 20] w fun e w'' => ∃ a0 an0 ac0 a1 an1 ac1 a2 an2 ac2 L, e = .returned (.tuple #[.agg #[.slice a0 an0 ac0, .slice a1 an1 ac1, .slice a2 an2 ac2, .int .i64 L.ops], .bool true]) ∧ Have w'' a0 an0 ac0 a1 an1 ac1 a2 an2 ac2 L ∧ Below w.heap.size w w'' ∧ mayL L ∧ L.fit ∧ Few 20 L) := play_is ap n cp l hl hn hlf w hro
  clear hl hlf hro hmb hq
  go_enter Try.func7, Try.ntmps7
  go_wp2_with fail
  refine Calls.mono HPL.out ?_; rintro e w1 ⟨a0, an0, ac0, a1, an1, ac1, a2, an2, ac2, L, rfl, hv, k1, hm, hf, hfew⟩
  have HMY : Hid (mayL L ∧ L.fit ∧ Few 20 L) := ⟨hm, hf, hfew⟩
  obtain ⟨W1, hW1⟩ : ∃ W1, w1.alloc (.cells #[.slice a0 an0 ac0, .slice a1 an1 ac1, .slice a2 an2 ac2, .int .i64 L.ops] 26) = W1 := ⟨_, rfl⟩
  obtain ⟨B1, hB1⟩ : ∃ B1, w1.heap.size = B1 := ⟨_, rfl⟩
  have HF1 : Hid (CellsF W1 B1 [.slice a0 an0 ac0, .slice a1 an1 ac1, .slice a2 an2 ac2, .int .i64 L.ops] ∧ Have W1 a0 an0 ac0 a1 an1 ac1 a2 an2 ac2 L ∧ Below w.heap.size w W1) := by
    show _ ∧ _
    rw [← hW1, ← hB1]
    exact ⟨CellsF.at _ 26 (by simp) rfl, hv.next (below1 _ _), Below.next k1 (below1 _ _)⟩
  have hln := lens hm
  have HLN : Hid (L.S.length = an0 ∧ L.H.length = an1 ∧ an0 ≤ 4096 ∧ an1 ≤ 20) := ⟨hv.h0, hv.h1, by have := hv.h0; omega, by have := hv.h1; have := hfew.H; omega⟩
  have hb4 : an0 ≤ 4096 ∧ an1 ≤ 20 := ⟨HLN.out.2.2.1, HLN.out.2.2.2⟩
  clear hv k1 hm hf hfew hln HPL
  go_wp2_with fail
  clear hW1 hB1
  go_loopw [9] (fun vi wr => ∃ i : Nat, i ≤ an0 ∧ vi = .int .i64 i ∧ Hid (Below W1.heap.size W1 wr))
    (fun vi _ => an0 - (intOf vi).toNat)
  case atStart => exact ⟨0, Nat.zero_le _, rfl, Below.refl _ _⟩
  case round =>
    obtain ⟨i, hi, rfl, HJ⟩ := hrel
    have HFR : Hid (CellsF wr B1 [.slice a0 an0 ac0, .slice a1 an1 ac1, .slice a2 an2 ac2, .int .i64 L.ops] ∧ Have wr a0 an0 ac0 a1 an1 ac1 a2 an2 ac2 L) := ⟨HF1.out.1.next HJ.out, HF1.out.2.1.next HJ.out⟩
    have l0 := (HFR.out.1).cs 0 _ rfl
    have l1 := (HFR.out.1).cs 1 _ rfl
    have l2 := (HFR.out.1).cs 2 _ rfl
    have l3 := (HFR.out.1).cs 3 _ rfl
    by_cases hil : i < an0
    · have hii : (i : Int) < (an0 : Int) := by omega
      have q1 : i < L.S.length := by have := HLN.out; omega
      obtain ⟨b, o, ha, hb, hc⟩ := HFR.out.2.li.S.stk (fun e => by rw [e] at q1; simp at q1)
      obtain ⟨s, hs⟩ : ∃ s, L.S[i] = s := ⟨_, rfl⟩
      have hx := hc i q1
      rw [hs] at hx
      have hsm : s ∈ L.S := hs ▸ List.getElem_mem q1
      have HSM : Hid (s ∈ L.S ∧ s.fit) := ⟨hsm, HMY.out.2.1.S _ hsm⟩
      have hfind : findK L.S s.sku s.loc = s := find_of HMY.out.1.S.2 hsm
      have hok := HMY.out.1.S.1 s hsm
      rw [ha] at l0
      obtain ⟨ss, sl, so, sh⟩ := s
      obtain ⟨x0, x1, x2, x3⟩ := hx
      dsimp only at x0 x1 x2 x3 hfind
      have hfr0 : sh ≤ so ∧ 0 ≤ sh := ⟨hok.2.2.2, hok.2.2.1⟩
      have hfr1 : i64b so ∧ i64b sh := ⟨HSM.out.2.on, HSM.out.2.held⟩
      obtain ⟨fr, hfr⟩ : ∃ fr, so - sh = fr := ⟨_, rfl⟩
      have hfrb : 0 ≤ fr ∧ fr ≤ 9223372036854775807 := by unfold i64b at hfr1; omega
      have HFE : Hid (∀ w', Have w' a0 an0 ac0 a1 an1 ac1 a2 an2 ac2 L → Calls Try.prog 21 #[.agg #[.slice a0 an0 ac0, .slice a1 an1 ac1, .slice a2 an2 ac2, .int .i64 L.ops], .string ss, .string sl] w' fun e w'' => e = .returned (.int .i64 fr) ∧ Below w'.heap.size w' w'') := fun w' h => by
        have := freeL_is a0 an0 ac0 a1 an1 ac1 a2 an2 ac2 L.ops L.S h.h0 (by omega) HMY.out.2.1.S ss sl w' h.li.S
        rw [hfind] at this
        dsimp only at this
        rw [hfr, (vl_in (by omega)).1] at this
        exact this
      obtain ⟨err, herr⟩ : ∃ err, doE L (oH ⟨ss, sl, so, sh⟩ q) = err := ⟨_, rfl⟩
      obtain ⟨A, hA⟩ : ∃ A, apL L (oH ⟨ss, sl, so, sh⟩ q) = A := ⟨_, rfl⟩
      have HA1 : Hid (∀ w', Have w' a0 an0 ac0 a1 an1 ac1 a2 an2 ac2 L → Calls Try.prog 11 #[.agg #[.slice a0 an0 ac0, .slice a1 an1 ac1, .slice a2 an2 ac2, .int .i64 L.ops], .agg #[.int .i64 2, .string ss, .string sl, .string ⟨#[]⟩, .int .i64 q, .int .i64 0, .int .i64 0]] w' fun e w'' => ∃ d0 dn0 dc0 d1 dn1 dc1 d2 dn2 dc2, e = .returned (.tuple #[.agg #[.slice d0 dn0 dc0, .slice d1 dn1 dc1, .slice d2 dn2 dc2, .int .i64 A.ops], .int .i64 err]) ∧ Near w'.heap.size w''.heap.size w'' d0 dn0 dc0 d1 dn1 dc1 d2 dn2 dc2 A ∧ Below w'.heap.size w' w'') := fun w' h => by
        have := h.applied2 HMY.out.1 HMY.out.2.1 (oH ⟨ss, sl, so, sh⟩ q) (fit8 hqb)
        rw [hA, herr] at this
        exact this
      have herr2 : err = if q ≤ fr then 0 else 70 := by rw [← herr, oH_err HMY.out.1 HMY.out.2.1 HMY.out.2.2 HSM.out.1 hqb.1, ← hfr]
      have HER : Hid (doE L (oH ⟨ss, sl, so, sh⟩ q) = err ∧ apL L (oH ⟨ss, sl, so, sh⟩ q) = A) := ⟨herr, hA⟩
      obtain ⟨S2, hS2⟩ : ∃ S2, wr.alloc (.cells #[.string ss, .string sl, .int .i64 so, .int .i64 sh] 50) = S2 := ⟨_, rfl⟩
      obtain ⟨Bs, hBs⟩ : ∃ Bs, wr.heap.size = Bs := ⟨_, rfl⟩
      have HF2 : Hid (CellsF S2 B1 [.slice a0 an0 ac0, .slice a1 an1 ac1, .slice a2 an2 ac2, .int .i64 L.ops] ∧ CellsF S2 Bs [.string ss, .string sl, .int .i64 so, .int .i64 sh] ∧ Have S2 a0 an0 ac0 a1 an1 ac1 a2 an2 ac2 L ∧ Below W1.heap.size W1 S2) := by
        show _ ∧ _
        rw [← hS2, ← hBs]
        exact ⟨HFR.out.1.next (below1 _ _), CellsF.at _ 50 (by simp) rfl, HFR.out.2.next (below1 _ _), Below.next HJ.out (below1 _ _)⟩
      clear hc hb hsm hok hfind herr hA HFR
      have t0 := (HF2.out.1).cs 0 _ rfl
      have t1 := (HF2.out.1).cs 1 _ rfl
      have t2 := (HF2.out.1).cs 2 _ rfl
      have t3 := (HF2.out.1).cs 3 _ rfl
      have u0 := (HF2.out.2.1).cs 0 _ rfl
      have u1 := (HF2.out.2.1).cs 1 _ rfl
      have u2 := (HF2.out.2.1).cs 2 _ rfl
      have u3 := (HF2.out.2.1).cs 3 _ rfl
      rw [ha] at t0
      have HAE : Hid (a0 = some ⟨b, o, none⟩) := ha
      subst ha
      go_wp2_with fail
      refine Calls.mono (HFE.out _ HF2.out.2.2.1) ?_; rintro e w3 ⟨rfl, k3⟩
      have HF3 : Hid (CellsF w3 B1 [.slice (some ⟨b, o, none⟩) an0 ac0, .slice a1 an1 ac1, .slice a2 an2 ac2, .int .i64 L.ops] ∧ CellsF w3 Bs [.string ss, .string sl, .int .i64 so, .int .i64 sh] ∧ Have w3 (some ⟨b, o, none⟩) an0 ac0 a1 an1 ac1 a2 an2 ac2 L ∧ Below W1.heap.size W1 w3) := ⟨HF2.out.1.next k3, HF2.out.2.1.next k3, HF2.out.2.2.1.next k3, Below.next HF2.out.2.2.2 k3⟩
      clear k3 t0 t1 t2 t3 u0 u1 u2 u3 x0 x1 x2 x3 l0 l1 l2 l3 HF2 hS2 hBs
      have t0 := (HF3.out.1).cs 0 _ rfl
      have t1 := (HF3.out.1).cs 1 _ rfl
      have t2 := (HF3.out.1).cs 2 _ rfl
      have t3 := (HF3.out.1).cs 3 _ rfl
      have u0 := (HF3.out.2.1).cs 0 _ rfl
      have u1 := (HF3.out.2.1).cs 1 _ rfl
      have u2 := (HF3.out.2.1).cs 2 _ rfl
      have u3 := (HF3.out.2.1).cs 3 _ rfl
      go_wp2_with fail
      refine Calls.mono (HA1.out _ HF3.out.2.2.1) ?_; rintro e w4 ⟨d0, dn0, dc0, d1, dn1, dc1, d2, dn2, dc2, rfl, hv4, k4⟩
      obtain ⟨W4, hW4⟩ : ∃ W4, w4.alloc (.cells #[.slice d0 dn0 dc0, .slice d1 dn1 dc1, .slice d2 dn2 dc2, .int .i64 A.ops] 26) = W4 := ⟨_, rfl⟩
      obtain ⟨Ba, hBa⟩ : ∃ Ba, w4.heap.size = Ba := ⟨_, rfl⟩
      have HF4 : Hid (CellsF W4 B1 [.slice (some ⟨b, o, none⟩) an0 ac0, .slice a1 an1 ac1, .slice a2 an2 ac2, .int .i64 L.ops] ∧ CellsF W4 Bs [.string ss, .string sl, .int .i64 so, .int .i64 sh] ∧ CellsF W4 Ba [.slice d0 dn0 dc0, .slice d1 dn1 dc1, .slice d2 dn2 dc2, .int .i64 A.ops] ∧ Have W4 d0 dn0 dc0 d1 dn1 dc1 d2 dn2 dc2 A ∧ Below W1.heap.size W1 W4) := by
        show _ ∧ _
        rw [← hW4, ← hBa]
        exact ⟨(HF3.out.1.next k4).next (below1 _ _), (HF3.out.2.1.next k4).next (below1 _ _), CellsF.at _ 26 (by simp) rfl, hv4.here.next (below1 _ _), Below.next (Below.next HF3.out.2.2.2 k4) (below1 _ _)⟩
      clear hv4 k4 t0 t1 t2 t3 u0 u1 u2 u3 HF3
      have t0 := (HF4.out.1).cs 0 _ rfl
      have t1 := (HF4.out.1).cs 1 _ rfl
      have t2 := (HF4.out.1).cs 2 _ rfl
      have t3 := (HF4.out.1).cs 3 _ rfl
      have u0 := (HF4.out.2.1).cs 0 _ rfl
      have u1 := (HF4.out.2.1).cs 1 _ rfl
      have u2 := (HF4.out.2.1).cs 2 _ rfl
      have u3 := (HF4.out.2.1).cs 3 _ rfl
      have v0 := (HF4.out.2.2.1).cs 0 _ rfl
      have v1 := (HF4.out.2.2.1).cs 1 _ rfl
      have v2 := (HF4.out.2.2.1).cs 2 _ rfl
      have v3 := (HF4.out.2.2.1).cs 3 _ rfl
      by_cases hqf : q ≤ fr
      · rw [if_pos hqf] at herr2
        subst herr2
        have HOV : Hid (OverF L ⟨ss, sl, so, sh⟩ q kk) := over_of HMY.out.1 HMY.out.2.1 HMY.out.2.2 HSM.out.1 hqb (by show q ≤ so - sh; omega) hk34
        have hAd : A = doL L (oH ⟨ss, sl, so, sh⟩ q) := by rw [← HER.out.2]; unfold apL; rw [HER.out.1, if_pos rfl]
        have HAD : Hid (A = doL L (oH ⟨ss, sl, so, sh⟩ q)) := hAd
        have hAH : A.H = L.H ++ [xH L ⟨ss, sl, so, sh⟩ q] := by rw [hAd]; exact HOV.out.hA
        obtain rfl : an1 + 1 = dn1 := by
          have h1 := HF4.out.2.2.2.1.h1
          rw [hAH, List.length_append, HLN.out.2.1] at h1
          exact h1
        have hq2 : an1 < A.H.length := by rw [HF4.out.2.2.2.1.h1]; omega
        have hAx : A.H[an1] = ⟨(an1 : Int) + 1, ss, sl, q, 0, 0⟩ := by
          have h1 : A.H[an1]? = some (xH L ⟨ss, sl, so, sh⟩ q) := by rw [hAH, ← HLN.out.2.1]; simp
          rw [List.getElem?_eq_getElem hq2] at h1
          rw [Option.some.inj h1]; unfold xH; rw [HLN.out.2.1]
        obtain ⟨hb1, ho1, had, hbl, hbc⟩ := HF4.out.2.2.2.1.li.H.hld (fun e => by rw [e] at hq2; simp at hq2)
        have hhx := hbc an1 hq2
        rw [hAx] at hhx
        have HHX : Hid (hb1 < W4.heap.size ∧ HldAt W4 hb1 (ho1 + an1 * 6) ⟨(an1 : Int) + 1, ss, sl, q, 0, 0⟩) := ⟨hbl, hhx⟩
        subst had
        have hmA := HOV.out.mA
        rw [← hAd] at hmA
        have HMA : Hid (mayL A ∧ A.fit) := hmA
        have HFA : Hid (∀ w', Have w' d0 dn0 dc0 (some ⟨hb1, ho1, none⟩) (an1 + 1) dc1 d2 dn2 dc2 A → Calls Try.prog 21 #[.agg #[.slice d0 dn0 dc0, .slice (some ⟨hb1, ho1, none⟩) (an1 + 1) dc1, .slice d2 dn2 dc2, .int .i64 A.ops], .string ss, .string sl] w' fun e w'' => e = .returned (.int .i64 (fr - q)) ∧ Below w'.heap.size w' w'') := fun w' h => by
          have hl4 := lens hmA.1
          have := h.h0
          have h5 := freeL_is d0 dn0 dc0 (some ⟨hb1, ho1, none⟩) (an1 + 1) dc1 d2 dn2 dc2 A.ops A.S h.h0 (by omega) hmA.2.S ss sl w' h.li.S
          have h6 := HOV.out.fA
          rw [← hAd] at h6
          dsimp only at h6
          rw [h6] at h5
          dsimp only at h5
          rw [show so - (sh + q) = fr - q by omega, (vl_in (by omega)).1] at h5
          exact h5
        have HWI : Hid (IntKind.i64.wrap (an1 : Int) = (an1 : Int)) := wid3 hb4.2
        have HWF : Hid (IntKind.i64.wrap (fr - q) = fr - q) := wfr2 hqb hfrb hqf
        clear hAd hAH hAx hq2 hbc hhx hbl hmA
        have HS : Hid (∀ w' : World, Below W4.heap.size W4 w' → (Below W4.heap.size W4 w' ∧ w'.cell? ⟨Ba, 0, none⟩ = some (.slice d0 dn0 dc0) ∧ w'.cell? ⟨Ba, 1, none⟩ = some (.slice (some ⟨hb1, ho1, none⟩) (an1 + 1) dc1) ∧ w'.cell? ⟨Ba, 2, none⟩ = some (.slice d2 dn2 dc2) ∧ w'.cell? ⟨Ba, 3, none⟩ = some (.int .i64 A.ops) ∧ w'.cell? ⟨Bs, 0, none⟩ = some (.string ss) ∧ w'.cell? ⟨Bs, 1, none⟩ = some (.string sl) ∧ w'.cell? ⟨hb1, ho1 + an1 * 6, none⟩ = some (.int .i64 ((an1 : Int) + 1)) ∧ w'.cell? ⟨hb1, ho1 + an1 * 6 + 1, none⟩ = some (.string ss) ∧ w'.cell? ⟨hb1, ho1 + an1 * 6 + 2, none⟩ = some (.string sl) ∧ w'.cell? ⟨hb1, ho1 + an1 * 6 + 3, none⟩ = some (.int .i64 q) ∧ w'.cell? ⟨hb1, ho1 + an1 * 6 + 4, none⟩ = some (.int .i64 0) ∧ w'.cell? ⟨hb1, ho1 + an1 * 6 + 5, none⟩ = some (.int .i64 0))) := fun w' kx => by
          have h1 := HF4.out.2.2.1.next kx
          have h2 := HF4.out.2.1.next kx
          have h3 := HHX.out.2.next (kx.block hb1 HHX.out.1)
          exact ⟨kx, h1.cs 0 _ rfl, h1.cs 1 _ rfl, h1.cs 2 _ rfl, h1.cs 3 _ rfl, h2.cs 0 _ rfl, h2.cs 1 _ rfl, h3.c0, h3.c1, h3.c2, h3.c3, h3.c4, h3.c5⟩
        have HSD : Hid (∀ w' : World, (Below W4.heap.size W4 w' ∧ w'.cell? ⟨Ba, 0, none⟩ = some (.slice d0 dn0 dc0) ∧ w'.cell? ⟨Ba, 1, none⟩ = some (.slice (some ⟨hb1, ho1, none⟩) (an1 + 1) dc1) ∧ w'.cell? ⟨Ba, 2, none⟩ = some (.slice d2 dn2 dc2) ∧ w'.cell? ⟨Ba, 3, none⟩ = some (.int .i64 A.ops) ∧ w'.cell? ⟨Bs, 0, none⟩ = some (.string ss) ∧ w'.cell? ⟨Bs, 1, none⟩ = some (.string sl) ∧ w'.cell? ⟨hb1, ho1 + an1 * 6, none⟩ = some (.int .i64 ((an1 : Int) + 1)) ∧ w'.cell? ⟨hb1, ho1 + an1 * 6 + 1, none⟩ = some (.string ss) ∧ w'.cell? ⟨hb1, ho1 + an1 * 6 + 2, none⟩ = some (.string sl) ∧ w'.cell? ⟨hb1, ho1 + an1 * 6 + 3, none⟩ = some (.int .i64 q) ∧ w'.cell? ⟨hb1, ho1 + an1 * 6 + 4, none⟩ = some (.int .i64 0) ∧ w'.cell? ⟨hb1, ho1 + an1 * 6 + 5, none⟩ = some (.int .i64 0)) → (Below W4.heap.size W4 w'.drew ∧ w'.drew.cell? ⟨Ba, 0, none⟩ = some (.slice d0 dn0 dc0) ∧ w'.drew.cell? ⟨Ba, 1, none⟩ = some (.slice (some ⟨hb1, ho1, none⟩) (an1 + 1) dc1) ∧ w'.drew.cell? ⟨Ba, 2, none⟩ = some (.slice d2 dn2 dc2) ∧ w'.drew.cell? ⟨Ba, 3, none⟩ = some (.int .i64 A.ops) ∧ w'.drew.cell? ⟨Bs, 0, none⟩ = some (.string ss) ∧ w'.drew.cell? ⟨Bs, 1, none⟩ = some (.string sl) ∧ w'.drew.cell? ⟨hb1, ho1 + an1 * 6, none⟩ = some (.int .i64 ((an1 : Int) + 1)) ∧ w'.drew.cell? ⟨hb1, ho1 + an1 * 6 + 1, none⟩ = some (.string ss) ∧ w'.drew.cell? ⟨hb1, ho1 + an1 * 6 + 2, none⟩ = some (.string sl) ∧ w'.drew.cell? ⟨hb1, ho1 + an1 * 6 + 3, none⟩ = some (.int .i64 q) ∧ w'.drew.cell? ⟨hb1, ho1 + an1 * 6 + 4, none⟩ = some (.int .i64 0) ∧ w'.drew.cell? ⟨hb1, ho1 + an1 * 6 + 5, none⟩ = some (.int .i64 0))) := fun w' h => HS.out _ h.1.drew
        have HC1 : Hid (∀ w' : World, (Below W4.heap.size W4 w' ∧ w'.cell? ⟨Ba, 0, none⟩ = some (.slice d0 dn0 dc0) ∧ w'.cell? ⟨Ba, 1, none⟩ = some (.slice (some ⟨hb1, ho1, none⟩) (an1 + 1) dc1) ∧ w'.cell? ⟨Ba, 2, none⟩ = some (.slice d2 dn2 dc2) ∧ w'.cell? ⟨Ba, 3, none⟩ = some (.int .i64 A.ops) ∧ w'.cell? ⟨Bs, 0, none⟩ = some (.string ss) ∧ w'.cell? ⟨Bs, 1, none⟩ = some (.string sl) ∧ w'.cell? ⟨hb1, ho1 + an1 * 6, none⟩ = some (.int .i64 ((an1 : Int) + 1)) ∧ w'.cell? ⟨hb1, ho1 + an1 * 6 + 1, none⟩ = some (.string ss) ∧ w'.cell? ⟨hb1, ho1 + an1 * 6 + 2, none⟩ = some (.string sl) ∧ w'.cell? ⟨hb1, ho1 + an1 * 6 + 3, none⟩ = some (.int .i64 q) ∧ w'.cell? ⟨hb1, ho1 + an1 * 6 + 4, none⟩ = some (.int .i64 0) ∧ w'.cell? ⟨hb1, ho1 + an1 * 6 + 5, none⟩ = some (.int .i64 0)) → Calls Try.prog 21 #[.agg #[.slice d0 dn0 dc0, .slice (some ⟨hb1, ho1, none⟩) (an1 + 1) dc1, .slice d2 dn2 dc2, .int .i64 A.ops], .string ss, .string sl] w' fun e w'' => e = .returned (.int .i64 (fr - q)) ∧ (Below W4.heap.size W4 w'' ∧ w''.cell? ⟨Ba, 0, none⟩ = some (.slice d0 dn0 dc0) ∧ w''.cell? ⟨Ba, 1, none⟩ = some (.slice (some ⟨hb1, ho1, none⟩) (an1 + 1) dc1) ∧ w''.cell? ⟨Ba, 2, none⟩ = some (.slice d2 dn2 dc2) ∧ w''.cell? ⟨Ba, 3, none⟩ = some (.int .i64 A.ops) ∧ w''.cell? ⟨Bs, 0, none⟩ = some (.string ss) ∧ w''.cell? ⟨Bs, 1, none⟩ = some (.string sl) ∧ w''.cell? ⟨hb1, ho1 + an1 * 6, none⟩ = some (.int .i64 ((an1 : Int) + 1)) ∧ w''.cell? ⟨hb1, ho1 + an1 * 6 + 1, none⟩ = some (.string ss) ∧ w''.cell? ⟨hb1, ho1 + an1 * 6 + 2, none⟩ = some (.string sl) ∧ w''.cell? ⟨hb1, ho1 + an1 * 6 + 3, none⟩ = some (.int .i64 q) ∧ w''.cell? ⟨hb1, ho1 + an1 * 6 + 4, none⟩ = some (.int .i64 0) ∧ w''.cell? ⟨hb1, ho1 + an1 * 6 + 5, none⟩ = some (.int .i64 0))) := fun w' h => (HFA.out w' (HF4.out.2.2.2.1.next h.1)).mono fun e w'' ⟨r1, r2⟩ => ⟨r1, HS.out _ (Below.next h.1 r2)⟩
        go_wp2_with fail
        refine wp_region_held_drew (S := (fun (w' : World) => (Below W4.heap.size W4 w' ∧ w'.cell? ⟨Ba, 0, none⟩ = some (.slice d0 dn0 dc0) ∧ w'.cell? ⟨Ba, 1, none⟩ = some (.slice (some ⟨hb1, ho1, none⟩) (an1 + 1) dc1) ∧ w'.cell? ⟨Ba, 2, none⟩ = some (.slice d2 dn2 dc2) ∧ w'.cell? ⟨Ba, 3, none⟩ = some (.int .i64 A.ops) ∧ w'.cell? ⟨Bs, 0, none⟩ = some (.string ss) ∧ w'.cell? ⟨Bs, 1, none⟩ = some (.string sl) ∧ w'.cell? ⟨hb1, ho1 + an1 * 6, none⟩ = some (.int .i64 ((an1 : Int) + 1)) ∧ w'.cell? ⟨hb1, ho1 + an1 * 6 + 1, none⟩ = some (.string ss) ∧ w'.cell? ⟨hb1, ho1 + an1 * 6 + 2, none⟩ = some (.string sl) ∧ w'.cell? ⟨hb1, ho1 + an1 * 6 + 3, none⟩ = some (.int .i64 q) ∧ w'.cell? ⟨hb1, ho1 + an1 * 6 + 4, none⟩ = some (.int .i64 0) ∧ w'.cell? ⟨hb1, ho1 + an1 * 6 + 5, none⟩ = some (.int .i64 0)))) (by kernel_rfl) (HSD.out _ (HS.out _ (Below.refl _ _))) (fun hHeld => ?_)
        refine wpAnyH_take (i := 0) (oi := { dst := some 81, op := Op.fieldAddr 26 (Operand.tmp 13) 1, type := 0, pos := "law.go:146", after := #[], guard := none }) (v := .pointer (some ⟨Ba, 1, none⟩)) rfl (by kernel_rfl) (by kernel_rfl) (by kernel_rfl) (fun _ _ _ h => h) (Or.inl ⟨by rfl, ?_⟩) (by with_reducible assumption) ?_
        · intro wx hSw
          (try dsimp only at hSw)
          first | (go_simp; done) | (go_simp; with_reducible rfl) | (go_simp; exact fun hx => absurd hx (nsl _))
        try simp only [Act.put, List.setIfInBounds_toArray, List.set_cons_zero, List.set_cons_succ]
        refine wpAnyH_take (i := 1) (oi := { dst := some 82, op := Op.load 23 (Operand.tmp 81), type := 23, pos := "law.go:146", after := #[{ on := 0, ground := Ground.data }], guard := none }) (v := .slice (some ⟨hb1, ho1, none⟩) (an1 + 1) dc1) rfl (by kernel_rfl) (by kernel_rfl) (by kernel_rfl) (fun _ _ _ h => h) (Or.inl ⟨by rfl, ?_⟩) (by with_reducible assumption) ?_
        · intro wx hSw
          (try dsimp only at hSw)
          first | (go_simp; done) | (go_simp; with_reducible rfl) | (go_simp; exact fun hx => absurd hx (nsl _))
        try simp only [Act.put, List.setIfInBounds_toArray, List.set_cons_zero, List.set_cons_succ]
        refine wpAnyH_take (i := 2) (oi := { dst := some 83, op := Op.call { callee := Callee.builtin Builtin.len, args := #[Operand.tmp 82], argTypes := #[23] }, type := 3, pos := "law.go:146", after := #[{ on := 1, ground := Ground.data }], guard := none }) (v := .int .i64 ((an1 : Int) + 1)) rfl (by kernel_rfl) (by kernel_rfl) (by kernel_rfl) (fun _ _ _ h => h) (Or.inl ⟨by rfl, ?_⟩) (by with_reducible assumption) ?_
        · intro wx hSw
          (try dsimp only at hSw)
          first | (go_simp; done) | (go_simp; with_reducible rfl) | (go_simp; exact fun hx => absurd hx (nsl _))
        try simp only [Act.put, List.setIfInBounds_toArray, List.set_cons_zero, List.set_cons_succ]
        refine wpAnyH_take (i := 3) (oi := { dst := some 84, op := Op.move (Operand.tmp 15), type := 3, pos := "law.go:146", after := #[], guard := none }) (v := .int .i64 ((an1 : Int) + 1)) rfl (by kernel_rfl) (by kernel_rfl) (by kernel_rfl) (fun _ _ _ h => h) (Or.inl ⟨by rfl, ?_⟩) (by with_reducible assumption) ?_
        · intro wx hSw
          (try dsimp only at hSw)
          first | (go_simp; done) | (go_simp; with_reducible rfl) | (go_simp; exact fun hx => absurd hx (nsl _))
        try simp only [Act.put, List.setIfInBounds_toArray, List.set_cons_zero, List.set_cons_succ]
        refine wpAnyH_take (i := 4) (oi := { dst := some 85, op := Op.binOp BinOp.neq 3 (Operand.tmp 83) (Operand.tmp 84) 3, type := 4, pos := "law.go:146", after := #[{ on := 2, ground := Ground.data }, { on := 3, ground := Ground.data }], guard := none }) (v := .bool false) rfl (by kernel_rfl) (by kernel_rfl) (by kernel_rfl) (fun _ _ _ h => h) (Or.inl ⟨by rfl, ?_⟩) (by with_reducible assumption) ?_
        · intro wx hSw
          (try dsimp only at hSw)
          first | (go_simp; done) | (go_simp; with_reducible rfl) | (go_simp; exact fun hx => absurd hx (nsl _))
        try simp only [Act.put, List.setIfInBounds_toArray, List.set_cons_zero, List.set_cons_succ]
        refine wpAnyH_take (i := 5) (oi := { dst := some 86, op := Op.move (Operand.tmp 85), type := 4, pos := "law.go:146", after := #[{ on := 4, ground := Ground.data }], guard := none }) (v := .bool false) rfl (by kernel_rfl) (by kernel_rfl) (by kernel_rfl) (fun _ _ _ h => h) (Or.inl ⟨by rfl, ?_⟩) (by with_reducible assumption) ?_
        · intro wx hSw
          (try dsimp only at hSw)
          first | (go_simp; done) | (go_simp; with_reducible rfl) | (go_simp; exact fun hx => absurd hx (nsl _))
        try simp only [Act.put, List.setIfInBounds_toArray, List.set_cons_zero, List.set_cons_succ]
        refine wpAnyH_take (i := 6) (oi := { dst := some 87, op := Op.fieldAddr 26 (Operand.tmp 13) 1, type := 0, pos := "law.go:146", after := #[{ on := 5, ground := Ground.guard }], guard := some (5, false) }) (v := .pointer (some ⟨Ba, 1, none⟩)) rfl (by kernel_rfl) (by kernel_rfl) (by kernel_rfl) (fun _ _ _ h => h) (Or.inl ⟨by rfl, ?_⟩) (by with_reducible assumption) ?_
        · intro wx hSw
          (try dsimp only at hSw)
          first | (go_simp; done) | (go_simp; with_reducible rfl) | (go_simp; exact fun hx => absurd hx (nsl _))
        try simp only [Act.put, List.setIfInBounds_toArray, List.set_cons_zero, List.set_cons_succ]
        refine wpAnyH_take (i := 7) (oi := { dst := some 88, op := Op.load 23 (Operand.tmp 87), type := 23, pos := "law.go:146", after := #[{ on := 6, ground := Ground.data }, { on := 5, ground := Ground.guard }], guard := some (5, false) }) (v := .slice (some ⟨hb1, ho1, none⟩) (an1 + 1) dc1) rfl (by kernel_rfl) (by kernel_rfl) (by kernel_rfl) (fun _ _ _ h => h) (Or.inl ⟨by rfl, ?_⟩) (by with_reducible assumption) ?_
        · intro wx hSw
          (try dsimp only at hSw)
          first | (go_simp; done) | (go_simp; with_reducible rfl) | (go_simp; exact fun hx => absurd hx (nsl _))
        try simp only [Act.put, List.setIfInBounds_toArray, List.set_cons_zero, List.set_cons_succ]
        refine wpAnyH_take (i := 8) (oi := { dst := some 89, op := Op.move (Operand.tmp 15), type := 3, pos := "law.go:146", after := #[{ on := 5, ground := Ground.guard }], guard := some (5, false) }) (v := .int .i64 ((an1 : Int) + 1)) rfl (by kernel_rfl) (by kernel_rfl) (by kernel_rfl) (fun _ _ _ h => h) (Or.inl ⟨by rfl, ?_⟩) (by with_reducible assumption) ?_
        · intro wx hSw
          (try dsimp only at hSw)
          first | (go_simp; done) | (go_simp; with_reducible rfl) | (go_simp; exact fun hx => absurd hx (nsl _))
        try simp only [Act.put, List.setIfInBounds_toArray, List.set_cons_zero, List.set_cons_succ]
        have e9 := HWI.out
        refine wpAnyH_take (i := 9) (oi := { dst := some 90, op := Op.binOp BinOp.sub 3 (Operand.tmp 89) (Operand.const (Value.int IntKind.i64 1)) 3, type := 3, pos := "law.go:146", after := #[{ on := 8, ground := Ground.data }, { on := 5, ground := Ground.guard }], guard := some (5, false) }) (v := .int .i64 an1) rfl (by kernel_rfl) (by kernel_rfl) (by kernel_rfl) (fun _ _ _ h => h) (Or.inl ⟨by rfl, ?_⟩) (by with_reducible assumption) ?_
        · intro wx hSw
          (try dsimp only at hSw)
          first | (go_simp; done) | (go_simp; with_reducible rfl) | (go_simp; exact fun hx => absurd hx (nsl _))
        clear e9
        try simp only [Act.put, List.setIfInBounds_toArray, List.set_cons_zero, List.set_cons_succ]
        refine wpAnyH_take (i := 10) (oi := { dst := some 91, op := Op.indexAddr 23 (Operand.tmp 88) (Operand.tmp 90), type := 0, pos := "law.go:146", after := #[{ on := 7, ground := Ground.data }, { on := 9, ground := Ground.data }, { on := 5, ground := Ground.guard }], guard := some (5, false) }) (v := .pointer (some ⟨hb1, ho1 + an1 * 6, none⟩)) rfl (by kernel_rfl) (by kernel_rfl) (by kernel_rfl) (fun _ _ _ h => h) (Or.inl ⟨by rfl, ?_⟩) (by with_reducible assumption) ?_
        · intro wx hSw
          (try dsimp only at hSw)
          first | (go_simp; done) | (go_simp; with_reducible rfl) | (go_simp; exact fun hx => absurd hx (nsl _))
        try simp only [Act.put, List.setIfInBounds_toArray, List.set_cons_zero, List.set_cons_succ]
        refine wpAnyH_take (i := 11) (oi := { dst := some 92, op := Op.load 44 (Operand.tmp 91), type := 44, pos := "law.go:146", after := #[{ on := 10, ground := Ground.data }, { on := 5, ground := Ground.guard }], guard := some (5, false) }) (v := .agg #[.int .i64 ((an1 : Int) + 1), .string ss, .string sl, .int .i64 q, .int .i64 0, .int .i64 0]) rfl (by kernel_rfl) (by kernel_rfl) (by kernel_rfl) (fun _ _ _ h => h) (Or.inl ⟨by rfl, ?_⟩) (by with_reducible assumption) ?_
        · intro wx hSw
          (try dsimp only at hSw)
          first | (go_simp; done) | (go_simp; with_reducible rfl) | (go_simp; exact fun hx => absurd hx (nsl _))
        try simp only [Act.put, List.setIfInBounds_toArray, List.set_cons_zero, List.set_cons_succ]
        refine wpAnyH_take (i := 12) (oi := { dst := some 93, op := Op.move (Operand.tmp 15), type := 3, pos := "law.go:146", after := #[{ on := 5, ground := Ground.guard }], guard := some (5, false) }) (v := .int .i64 ((an1 : Int) + 1)) rfl (by kernel_rfl) (by kernel_rfl) (by kernel_rfl) (fun _ _ _ h => h) (Or.inl ⟨by rfl, ?_⟩) (by with_reducible assumption) ?_
        · intro wx hSw
          (try dsimp only at hSw)
          first | (go_simp; done) | (go_simp; with_reducible rfl) | (go_simp; exact fun hx => absurd hx (nsl _))
        try simp only [Act.put, List.setIfInBounds_toArray, List.set_cons_zero, List.set_cons_succ]
        refine wpAnyH_take (i := 13) (oi := { dst := some 94, op := Op.fieldAddr 50 (Operand.tmp 10) 0, type := 0, pos := "law.go:146", after := #[{ on := 5, ground := Ground.guard }], guard := some (5, false) }) (v := .pointer (some ⟨Bs, 0, none⟩)) rfl (by kernel_rfl) (by kernel_rfl) (by kernel_rfl) (fun _ _ _ h => h) (Or.inl ⟨by rfl, ?_⟩) (by with_reducible assumption) ?_
        · intro wx hSw
          (try dsimp only at hSw)
          first | (go_simp; done) | (go_simp; with_reducible rfl) | (go_simp; exact fun hx => absurd hx (nsl _))
        try simp only [Act.put, List.setIfInBounds_toArray, List.set_cons_zero, List.set_cons_succ]
        refine wpAnyH_take (i := 14) (oi := { dst := some 95, op := Op.load 9 (Operand.tmp 94), type := 9, pos := "law.go:146", after := #[{ on := 13, ground := Ground.data }, { on := 5, ground := Ground.guard }], guard := some (5, false) }) (v := .string ss) rfl (by kernel_rfl) (by kernel_rfl) (by kernel_rfl) (fun _ _ _ h => h) (Or.inl ⟨by rfl, ?_⟩) (by with_reducible assumption) ?_
        · intro wx hSw
          (try dsimp only at hSw)
          first | (go_simp; done) | (go_simp; with_reducible rfl) | (go_simp; exact fun hx => absurd hx (nsl _))
        try simp only [Act.put, List.setIfInBounds_toArray, List.set_cons_zero, List.set_cons_succ]
        refine wpAnyH_take (i := 15) (oi := { dst := some 96, op := Op.fieldAddr 50 (Operand.tmp 10) 1, type := 0, pos := "law.go:146", after := #[{ on := 5, ground := Ground.guard }], guard := some (5, false) }) (v := .pointer (some ⟨Bs, 1, none⟩)) rfl (by kernel_rfl) (by kernel_rfl) (by kernel_rfl) (fun _ _ _ h => h) (Or.inl ⟨by rfl, ?_⟩) (by with_reducible assumption) ?_
        · intro wx hSw
          (try dsimp only at hSw)
          first | (go_simp; done) | (go_simp; with_reducible rfl) | (go_simp; exact fun hx => absurd hx (nsl _))
        try simp only [Act.put, List.setIfInBounds_toArray, List.set_cons_zero, List.set_cons_succ]
        refine wpAnyH_take (i := 16) (oi := { dst := some 97, op := Op.load 9 (Operand.tmp 96), type := 9, pos := "law.go:146", after := #[{ on := 15, ground := Ground.data }, { on := 5, ground := Ground.guard }], guard := some (5, false) }) (v := .string sl) rfl (by kernel_rfl) (by kernel_rfl) (by kernel_rfl) (fun _ _ _ h => h) (Or.inl ⟨by rfl, ?_⟩) (by with_reducible assumption) ?_
        · intro wx hSw
          (try dsimp only at hSw)
          first | (go_simp; done) | (go_simp; with_reducible rfl) | (go_simp; exact fun hx => absurd hx (nsl _))
        try simp only [Act.put, List.setIfInBounds_toArray, List.set_cons_zero, List.set_cons_succ]
        refine wpAnyH_take (i := 17) (oi := { dst := some 98, op := Op.move (Operand.tmp 12), type := 3, pos := "law.go:146", after := #[{ on := 5, ground := Ground.guard }], guard := some (5, false) }) (v := .int .i64 q) rfl (by kernel_rfl) (by kernel_rfl) (by kernel_rfl) (fun _ _ _ h => h) (Or.inl ⟨by rfl, ?_⟩) (by with_reducible assumption) ?_
        · intro wx hSw
          (try dsimp only at hSw)
          first | (go_simp; done) | (go_simp; with_reducible rfl) | (go_simp; exact fun hx => absurd hx (nsl _))
        try simp only [Act.put, List.setIfInBounds_toArray, List.set_cons_zero, List.set_cons_succ]
        refine wpAnyH_take (i := 18) (oi := { dst := some 99, op := Op.build 44 #[(0, Operand.tmp 93), (1, Operand.tmp 95), (2, Operand.tmp 97), (3, Operand.tmp 98)], type := 44, pos := "law.go:146", after := #[{ on := 12, ground := Ground.data }, { on := 14, ground := Ground.data }, { on := 16, ground := Ground.data }, { on := 17, ground := Ground.data }, { on := 5, ground := Ground.guard }], guard := some (5, false) }) (v := .agg #[.int .i64 ((an1 : Int) + 1), .string ss, .string sl, .int .i64 q, .int .i64 0, .int .i64 0]) rfl (by kernel_rfl) (by kernel_rfl) (by kernel_rfl) (fun _ _ _ h => h) (Or.inl ⟨by rfl, ?_⟩) (by with_reducible assumption) ?_
        · intro wx hSw
          (try dsimp only at hSw)
          first | (go_simp; done) | (go_simp; with_reducible rfl) | (go_simp; exact fun hx => absurd hx (nsl _))
        try simp only [Act.put, List.setIfInBounds_toArray, List.set_cons_zero, List.set_cons_succ]
        refine wpAnyH_take (i := 19) (oi := { dst := some 100, op := Op.binOp BinOp.neq 44 (Operand.tmp 92) (Operand.tmp 99) 44, type := 4, pos := "law.go:146", after := #[{ on := 11, ground := Ground.data }, { on := 18, ground := Ground.data }, { on := 5, ground := Ground.guard }], guard := some (5, false) }) (v := .bool false) rfl (by kernel_rfl) (by kernel_rfl) (by kernel_rfl) (fun _ _ _ h => h) (Or.inl ⟨by rfl, ?_⟩) (by with_reducible assumption) ?_
        · intro wx hSw
          (try dsimp only at hSw)
          first | (go_simp; done) | (go_simp; with_reducible rfl) | (go_simp; exact fun hx => absurd hx (nsl _))
        try simp only [Act.put, List.setIfInBounds_toArray, List.set_cons_zero, List.set_cons_succ]
        refine wpAnyH_take (i := 20) (oi := { dst := some 101, op := Op.pick (Operand.tmp 86) (Operand.const (Value.bool true)) (Operand.tmp 100), type := 4, pos := "law.go:146", after := #[{ on := 5, ground := Ground.data }, { on := 19, ground := Ground.data }], guard := none }) (v := .bool false) rfl (by kernel_rfl) (by kernel_rfl) (by kernel_rfl) (fun _ _ _ h => h) (Or.inl ⟨by rfl, ?_⟩) (by with_reducible assumption) ?_
        · intro wx hSw
          (try dsimp only at hSw)
          first | (go_simp; done) | (go_simp; with_reducible rfl) | (go_simp; exact fun hx => absurd hx (nsl _))
        try simp only [Act.put, List.setIfInBounds_toArray, List.set_cons_zero, List.set_cons_succ]
        refine wpAnyH_take (i := 21) (oi := { dst := some 102, op := Op.move (Operand.tmp 101), type := 4, pos := "law.go:146", after := #[{ on := 20, ground := Ground.data }, { on := 5, ground := Ground.chain }], guard := none }) (v := .bool false) rfl (by kernel_rfl) (by kernel_rfl) (by kernel_rfl) (fun _ _ _ h => h) (Or.inl ⟨by rfl, ?_⟩) (by with_reducible assumption) ?_
        · intro wx hSw
          (try dsimp only at hSw)
          first | (go_simp; done) | (go_simp; with_reducible rfl) | (go_simp; exact fun hx => absurd hx (nsl _))
        try simp only [Act.put, List.setIfInBounds_toArray, List.set_cons_zero, List.set_cons_succ]
        refine wpAnyH_take (i := 22) (oi := { dst := some 103, op := Op.load 26 (Operand.tmp 13), type := 26, pos := "law.go:146", after := #[{ on := 21, ground := Ground.guard }], guard := some (21, false) }) (v := .agg #[.slice d0 dn0 dc0, .slice (some ⟨hb1, ho1, none⟩) (an1 + 1) dc1, .slice d2 dn2 dc2, .int .i64 A.ops]) rfl (by kernel_rfl) (by kernel_rfl) (by kernel_rfl) (fun _ _ _ h => h) (Or.inl ⟨by rfl, ?_⟩) (by with_reducible assumption) ?_
        · intro wx hSw
          (try dsimp only at hSw)
          first | (go_simp; done) | (go_simp; with_reducible rfl) | (go_simp; exact fun hx => absurd hx (nsl _))
        try simp only [Act.put, List.setIfInBounds_toArray, List.set_cons_zero, List.set_cons_succ]
        refine wpAnyH_take (i := 23) (oi := { dst := some 104, op := Op.fieldAddr 50 (Operand.tmp 10) 0, type := 0, pos := "law.go:146", after := #[{ on := 21, ground := Ground.guard }], guard := some (21, false) }) (v := .pointer (some ⟨Bs, 0, none⟩)) rfl (by kernel_rfl) (by kernel_rfl) (by kernel_rfl) (fun _ _ _ h => h) (Or.inl ⟨by rfl, ?_⟩) (by with_reducible assumption) ?_
        · intro wx hSw
          (try dsimp only at hSw)
          first | (go_simp; done) | (go_simp; with_reducible rfl) | (go_simp; exact fun hx => absurd hx (nsl _))
        try simp only [Act.put, List.setIfInBounds_toArray, List.set_cons_zero, List.set_cons_succ]
        refine wpAnyH_take (i := 24) (oi := { dst := some 105, op := Op.load 9 (Operand.tmp 104), type := 9, pos := "law.go:146", after := #[{ on := 23, ground := Ground.data }, { on := 21, ground := Ground.guard }], guard := some (21, false) }) (v := .string ss) rfl (by kernel_rfl) (by kernel_rfl) (by kernel_rfl) (fun _ _ _ h => h) (Or.inl ⟨by rfl, ?_⟩) (by with_reducible assumption) ?_
        · intro wx hSw
          (try dsimp only at hSw)
          first | (go_simp; done) | (go_simp; with_reducible rfl) | (go_simp; exact fun hx => absurd hx (nsl _))
        try simp only [Act.put, List.setIfInBounds_toArray, List.set_cons_zero, List.set_cons_succ]
        refine wpAnyH_take (i := 25) (oi := { dst := some 106, op := Op.fieldAddr 50 (Operand.tmp 10) 1, type := 0, pos := "law.go:146", after := #[{ on := 21, ground := Ground.guard }], guard := some (21, false) }) (v := .pointer (some ⟨Bs, 1, none⟩)) rfl (by kernel_rfl) (by kernel_rfl) (by kernel_rfl) (fun _ _ _ h => h) (Or.inl ⟨by rfl, ?_⟩) (by with_reducible assumption) ?_
        · intro wx hSw
          (try dsimp only at hSw)
          first | (go_simp; done) | (go_simp; with_reducible rfl) | (go_simp; exact fun hx => absurd hx (nsl _))
        try simp only [Act.put, List.setIfInBounds_toArray, List.set_cons_zero, List.set_cons_succ]
        refine wpAnyH_take (i := 26) (oi := { dst := some 107, op := Op.load 9 (Operand.tmp 106), type := 9, pos := "law.go:146", after := #[{ on := 25, ground := Ground.data }, { on := 21, ground := Ground.guard }], guard := some (21, false) }) (v := .string sl) rfl (by kernel_rfl) (by kernel_rfl) (by kernel_rfl) (fun _ _ _ h => h) (Or.inl ⟨by rfl, ?_⟩) (by with_reducible assumption) ?_
        · intro wx hSw
          (try dsimp only at hSw)
          first | (go_simp; done) | (go_simp; with_reducible rfl) | (go_simp; exact fun hx => absurd hx (nsl _))
        try simp only [Act.put, List.setIfInBounds_toArray, List.set_cons_zero, List.set_cons_succ]
        refine wpAnyH_take (i := 28) (oi := { dst := some 109, op := Op.move (Operand.tmp 11), type := 3, pos := "law.go:146", after := #[{ on := 21, ground := Ground.guard }], guard := some (21, false) }) (v := .int .i64 fr) rfl (by kernel_rfl) (by kernel_rfl) (by kernel_rfl) (fun _ _ _ h => h) (Or.inl ⟨by rfl, ?_⟩) (by with_reducible assumption) ?_
        · intro wx hSw
          (try dsimp only at hSw)
          first | (go_simp; done) | (go_simp; with_reducible rfl) | (go_simp; exact fun hx => absurd hx (nsl _))
        try simp only [Act.put, List.setIfInBounds_toArray, List.set_cons_zero, List.set_cons_succ]
        refine wpAnyH_take (i := 29) (oi := { dst := some 110, op := Op.move (Operand.tmp 12), type := 3, pos := "law.go:146", after := #[{ on := 21, ground := Ground.guard }], guard := some (21, false) }) (v := .int .i64 q) rfl (by kernel_rfl) (by kernel_rfl) (by kernel_rfl) (fun _ _ _ h => h) (Or.inl ⟨by rfl, ?_⟩) (by with_reducible assumption) ?_
        · intro wx hSw
          (try dsimp only at hSw)
          first | (go_simp; done) | (go_simp; with_reducible rfl) | (go_simp; exact fun hx => absurd hx (nsl _))
        try simp only [Act.put, List.setIfInBounds_toArray, List.set_cons_zero, List.set_cons_succ]
        have e30 := HWF.out
        refine wpAnyH_take (i := 30) (oi := { dst := some 111, op := Op.binOp BinOp.sub 3 (Operand.tmp 109) (Operand.tmp 110) 3, type := 3, pos := "law.go:146", after := #[{ on := 28, ground := Ground.data }, { on := 29, ground := Ground.data }, { on := 21, ground := Ground.guard }], guard := some (21, false) }) (v := .int .i64 (fr - q)) rfl (by kernel_rfl) (by kernel_rfl) (by kernel_rfl) (fun _ _ _ h => h) (Or.inl ⟨by rfl, ?_⟩) (by with_reducible assumption) ?_
        · intro wx hSw
          (try dsimp only at hSw)
          first | (go_simp; done) | (go_simp; with_reducible rfl) | (go_simp; exact fun hx => absurd hx (nsl _))
        clear e30
        try simp only [Act.put, List.setIfInBounds_toArray, List.set_cons_zero, List.set_cons_succ]
        refine wpAnyH_ready (rs := [27]) (by kernel_rfl) (by simp) ?_
        refine AllReadyH.cons rfl (fun K hK => ?_) AllReadyH.nil
        go_simp
        go_wp2_with (((with_reducible refine Calls.mono (HC1.out _ (by with_reducible assumption)) ?_); rintro e w127 ⟨rfl, hS27⟩))
        refine hK.out _ _ (by with_reducible assumption) (fun hHeld27 => ?_)
        clear hK K
        try simp only [Act.put, List.setIfInBounds_toArray, List.set_cons_zero, List.set_cons_succ]
        refine wpAnyH_take (i := 31) (oi := { dst := some 112, op := Op.binOp BinOp.neq 3 (Operand.tmp 108) (Operand.tmp 111) 3, type := 4, pos := "law.go:146", after := #[{ on := 27, ground := Ground.data }, { on := 30, ground := Ground.data }, { on := 21, ground := Ground.guard }], guard := some (21, false) }) (v := .bool false) rfl (by kernel_rfl) (by kernel_rfl) (by kernel_rfl) (fun _ _ _ h => h) (Or.inl ⟨by rfl, ?_⟩) (by with_reducible assumption) ?_
        · intro wx hSw
          (try dsimp only at hSw)
          first | (go_simp; done) | (go_simp; with_reducible rfl) | (go_simp; exact fun hx => absurd hx (nsl _))
        try simp only [Act.put, List.setIfInBounds_toArray, List.set_cons_zero, List.set_cons_succ]
        refine wpAnyH_take (i := 32) (oi := { dst := some 113, op := Op.pick (Operand.tmp 102) (Operand.const (Value.bool true)) (Operand.tmp 112), type := 4, pos := "law.go:146", after := #[{ on := 21, ground := Ground.data }, { on := 31, ground := Ground.data }], guard := none }) (v := .bool false) rfl (by kernel_rfl) (by kernel_rfl) (by kernel_rfl) (fun _ _ _ h => h) (Or.inl ⟨by rfl, ?_⟩) (by with_reducible assumption) ?_
        · intro wx hSw
          (try dsimp only at hSw)
          first | (go_simp; done) | (go_simp; with_reducible rfl) | (go_simp; exact fun hx => absurd hx (nsl _))
        try simp only [Act.put, List.setIfInBounds_toArray, List.set_cons_zero, List.set_cons_succ]
        refine wpAnyH_done (by kernel_rfl) ?_ _
        have HB5 : Hid (Below W4.heap.size W4 w127) := hS27.1
        clear HS HSD HC1 HHX
        have HF5 : Hid (CellsF w127 Bs [.string ss, .string sl, .int .i64 so, .int .i64 sh] ∧ CellsF w127 Ba [.slice d0 dn0 dc0, .slice (some ⟨hb1, ho1, none⟩) (an1 + 1) dc1, .slice d2 dn2 dc2, .int .i64 A.ops] ∧ Have w127  d0 dn0 dc0 (some ⟨hb1, ho1, none⟩) (an1 + 1) dc1 d2 dn2 dc2 A ∧ Below W1.heap.size W1 w127) := ⟨HF4.out.2.1.next HB5.out, HF4.out.2.2.1.next HB5.out, HF4.out.2.2.2.1.next HB5.out, Below.next HF4.out.2.2.2.2 HB5.out⟩
        
        obtain ⟨err2, herr3⟩ : ∃ err2, doE A (oE kk ((an1 : Int) + 1)) = err2 := ⟨_, rfl⟩
        have hAn : (L.H.length : Int) + 1 = (an1 : Int) + 1 := by rw [HLN.out.2.1]
        have hOV2 := HOV.out.e2
        have hOV3 := HOV.out.fB
        have hOV4 := HOV.out.mB
        have hOV5 := HOV.out.e3
        rw [← HAD.out, hAn] at hOV2 hOV3 hOV4 hOV5
        obtain rfl : 0 = err2 := hOV2.symm.trans herr3
        obtain ⟨Bl, hBl⟩ : ∃ Bl, doL A (oE kk ((an1 : Int) + 1)) = Bl := ⟨_, rfl⟩
        rw [hBl] at hOV3 hOV4 hOV5
        obtain ⟨C, hC⟩ : ∃ C, apL Bl (oE kk ((an1 : Int) + 1)) = C := ⟨_, rfl⟩
        have hAB : apL A (oE kk ((an1 : Int) + 1)) = Bl := by unfold apL; rw [hOV2, if_pos rfl, hBl]
        have HA2 : Hid (∀ w', Have w'  d0 dn0 dc0 (some ⟨hb1, ho1, none⟩) (an1 + 1) dc1 d2 dn2 dc2 A → Calls Try.prog 11 #[.agg #[.slice d0 dn0 dc0, .slice (some ⟨hb1, ho1, none⟩) (an1 + 1) dc1, .slice d2 dn2 dc2, .int .i64 A.ops], .agg #[.int .i64 kk, .string ⟨#[]⟩, .string ⟨#[]⟩, .string ⟨#[]⟩, .int .i64 0, .int .i64 ((an1 : Int) + 1), .int .i64 0]] w' fun e w'' => ∃ e0 en0 ec0 e1 en1 ec1 e2 en2 ec2, e = .returned (.tuple #[.agg #[.slice e0 en0 ec0, .slice e1 en1 ec1, .slice e2 en2 ec2, .int .i64 Bl.ops], .int .i64 0]) ∧ Near w'.heap.size w''.heap.size w'' e0 en0 ec0 e1 en1 ec1 e2 en2 ec2 Bl ∧ Below w'.heap.size w' w'') := fun w' h => by
          have := h.applied2 HMA.out.1 HMA.out.2 (oE kk ((an1 : Int) + 1)) (fitE hk34 (by omega))
          rw [hAB, hOV2] at this
          exact this
        have HA3 : Hid (∀ w' (e0 : Option Addr) (en0 ec0 : Nat) (e1 : Option Addr) (en1 ec1 : Nat) (e2 : Option Addr) (en2 ec2 : Nat), Have w' e0 en0 ec0 e1 en1 ec1 e2 en2 ec2 Bl → Calls Try.prog 11 #[.agg #[.slice e0 en0 ec0, .slice e1 en1 ec1, .slice e2 en2 ec2, .int .i64 Bl.ops], .agg #[.int .i64 kk, .string ⟨#[]⟩, .string ⟨#[]⟩, .string ⟨#[]⟩, .int .i64 0, .int .i64 ((an1 : Int) + 1), .int .i64 0]] w' fun e w'' => ∃ g0 gn0 gc0 g1 gn1 gc1 g2 gn2 gc2, e = .returned (.tuple #[.agg #[.slice g0 gn0 gc0, .slice g1 gn1 gc1, .slice g2 gn2 gc2, .int .i64 C.ops], .int .i64 71]) ∧ Near w'.heap.size w''.heap.size w'' g0 gn0 gc0 g1 gn1 gc1 g2 gn2 gc2 C ∧ Below w'.heap.size w' w'') := fun w' e0 en0 ec0 e1 en1 ec1 e2 en2 ec2 h => by
          have := h.applied2 hOV4.1 hOV4.2 (oE kk ((an1 : Int) + 1)) (fitE hk34 (by omega))
          rw [hC, hOV5] at this
          exact this
        obtain ⟨on', hon⟩ : ∃ on', so - (if kk = 3 then q else 0) = on' := ⟨_, rfl⟩
        obtain ⟨lf', hlf⟩ : ∃ lf', fr - (if kk = 3 then q else 0) = lf' := ⟨_, rfl⟩
        dsimp only at hOV3
        rw [hon] at hOV3
        have hlb : on' - sh = lf' ∧ 0 ≤ lf' ∧ lf' ≤ 9223372036854775807 := by
          rw [← hon, ← hlf]
          rcases hk34 with h | h <;> rw [h] <;> simp <;> omega
        have HFB : Hid (∀ w' (e0 : Option Addr) (en0 ec0 : Nat) (e1 : Option Addr) (en1 ec1 : Nat) (e2 : Option Addr) (en2 ec2 : Nat), Have w' e0 en0 ec0 e1 en1 ec1 e2 en2 ec2 Bl → Calls Try.prog 21 #[.agg #[.slice e0 en0 ec0, .slice e1 en1 ec1, .slice e2 en2 ec2, .int .i64 Bl.ops], .string ss, .string sl] w' fun e w'' => e = .returned (.int .i64 lf') ∧ Below w'.heap.size w' w'') := fun w' e0 en0 ec0 e1 en1 ec1 e2 en2 ec2 h => by
          have hl4 := lens hOV4.1
          have := h.h0
          have h5 := freeL_is e0 en0 ec0 e1 en1 ec1 e2 en2 ec2 Bl.ops Bl.S h.h0 (by omega) hOV4.2.S ss sl w' h.li.S
          rw [hOV3] at h5
          dsimp only at h5
          rw [hlb.1, (vl_in (by omega)).1] at h5
          exact h5
        have HFD : Hid (∀ w' (e0 : Option Addr) (en0 ec0 : Nat) (e1 : Option Addr) (en1 ec1 : Nat) (e2 : Option Addr) (en2 ec2 : Nat), Have w' e0 en0 ec0 e1 en1 ec1 e2 en2 ec2 Bl → Calls Try.prog 22 #[.agg #[.slice e0 en0 ec0, .slice e1 en1 ec1, .slice e2 en2 ec2, .int .i64 Bl.ops], .string ss, .string sl] w' fun e w'' => e = .returned (.agg #[.string ss, .string sl, .int .i64 on', .int .i64 sh]) ∧ Below w'.heap.size w' w'') := fun w' e0 en0 ec0 e1 en1 ec1 e2 en2 ec2 h => by
          have hl4 := lens hOV4.1
          have := h.h0
          have h5 := find_is e0 en0 ec0 e1 en1 ec1 e2 en2 ec2 Bl.ops Bl.S h.h0 (by omega) ss sl w' h.li.S
          rw [hOV3] at h5
          exact h5
        have HLF : Hid (fr - (if kk = 3 then q else 0) = lf') := hlf
        clear hOV2 hOV3 hOV4 hOV5 hBl hC hAB hon hlf hlb herr3 hAn t0 t1 t2 t3 u0 u1 u2 u3 v0 v1 v2 v3
        have u0 := (HF5.out.1).cs 0 _ rfl
        have u1 := (HF5.out.1).cs 1 _ rfl
        have u2 := (HF5.out.1).cs 2 _ rfl
        have u3 := (HF5.out.1).cs 3 _ rfl
        have v0 := (HF5.out.2.1).cs 0 _ rfl
        have v1 := (HF5.out.2.1).cs 1 _ rfl
        have v2 := (HF5.out.2.1).cs 2 _ rfl
        have v3 := (HF5.out.2.1).cs 3 _ rfl
        cases ob
        · obtain rfl : kk = 4 := hkk
          obtain rfl : fr = lf' := by have := HLF.out; simp at this; exact this
          go_wp2_with fail
          refine Calls.mono (HA2.out _ HF5.out.2.2.1) ?_; rintro e w6 ⟨e0, en0, ec0, e1, en1, ec1, e2, en2, ec2, rfl, hv6, k6⟩
          obtain ⟨W6, hW6⟩ : ∃ W6, w6.alloc (.cells #[.slice e0 en0 ec0, .slice e1 en1 ec1, .slice e2 en2 ec2, .int .i64 Bl.ops] 26) = W6 := ⟨_, rfl⟩
          obtain ⟨Bb, hBb⟩ : ∃ Bb, w6.heap.size = Bb := ⟨_, rfl⟩
          have HF6 : Hid (CellsF W6 Bs [.string ss, .string sl, .int .i64 so, .int .i64 sh] ∧ CellsF W6 Bb [.slice e0 en0 ec0, .slice e1 en1 ec1, .slice e2 en2 ec2, .int .i64 Bl.ops] ∧ Have W6 e0 en0 ec0 e1 en1 ec1 e2 en2 ec2 Bl ∧ Below W1.heap.size W1 W6) := by
            show _ ∧ _
            rw [← hW6, ← hBb]
            exact ⟨(HF5.out.1.next k6).next (below1 _ _), CellsF.at _ 26 (by simp) rfl, hv6.here.next (below1 _ _), Below.next (Below.next HF5.out.2.2.2 k6) (below1 _ _)⟩
          clear hv6 k6 u0 u1 u2 u3 v0 v1 v2 v3 HF5
          have u0 := (HF6.out.1).cs 0 _ rfl
          have u1 := (HF6.out.1).cs 1 _ rfl
          have u2 := (HF6.out.1).cs 2 _ rfl
          have u3 := (HF6.out.1).cs 3 _ rfl
          have v0 := (HF6.out.2.1).cs 0 _ rfl
          have v1 := (HF6.out.2.1).cs 1 _ rfl
          have v2 := (HF6.out.2.1).cs 2 _ rfl
          have v3 := (HF6.out.2.1).cs 3 _ rfl
          go_wp2_with fail
          refine Calls.mono (HA3.out _ _ _ _ _ _ _ _ _ _ HF6.out.2.2.1) ?_; rintro e w7 ⟨g0, gn0, gc0, g1, gn1, gc1, g2, gn2, gc2, rfl, hv7, k7⟩
          obtain ⟨W7, hW7⟩ : ∃ W7, w7.alloc (.cells #[.slice g0 gn0 gc0, .slice g1 gn1 gc1, .slice g2 gn2 gc2, .int .i64 C.ops] 26) = W7 := ⟨_, rfl⟩
          have HF7 : Hid (CellsF W7 Bs [.string ss, .string sl, .int .i64 so, .int .i64 sh] ∧ CellsF W7 Bb [.slice e0 en0 ec0, .slice e1 en1 ec1, .slice e2 en2 ec2, .int .i64 Bl.ops] ∧ Have W7 e0 en0 ec0 e1 en1 ec1 e2 en2 ec2 Bl ∧ Below W1.heap.size W1 W7) := by
            show _ ∧ _
            rw [← hW7]
            exact ⟨(HF6.out.1.next k7).next (below1 _ _), (HF6.out.2.1.next k7).next (below1 _ _), (HF6.out.2.2.1.next k7).next (below1 _ _), Below.next (Below.next HF6.out.2.2.2 k7) (below1 _ _)⟩
          clear hv7 k7 u0 u1 u2 u3 v0 v1 v2 v3 HF6 hW6 hBb
          have HS : Hid (∀ w' : World, Below W7.heap.size W7 w' → (Below W7.heap.size W7 w' ∧ w'.cell? ⟨Bb, 0, none⟩ = some (.slice e0 en0 ec0) ∧ w'.cell? ⟨Bb, 1, none⟩ = some (.slice e1 en1 ec1) ∧ w'.cell? ⟨Bb, 2, none⟩ = some (.slice e2 en2 ec2) ∧ w'.cell? ⟨Bb, 3, none⟩ = some (.int .i64 Bl.ops) ∧ w'.cell? ⟨Bs, 0, none⟩ = some (.string ss) ∧ w'.cell? ⟨Bs, 1, none⟩ = some (.string sl) ∧ w'.cell? ⟨Bs, 3, none⟩ = some (.int .i64 sh))) := fun w' kx => by
            have h1 := HF7.out.2.1.next kx
            have h2 := HF7.out.1.next kx
            exact ⟨kx, h1.cs 0 _ rfl, h1.cs 1 _ rfl, h1.cs 2 _ rfl, h1.cs 3 _ rfl, h2.cs 0 _ rfl, h2.cs 1 _ rfl, h2.cs 3 _ rfl⟩
          have HSD : Hid (∀ w' : World, (Below W7.heap.size W7 w' ∧ w'.cell? ⟨Bb, 0, none⟩ = some (.slice e0 en0 ec0) ∧ w'.cell? ⟨Bb, 1, none⟩ = some (.slice e1 en1 ec1) ∧ w'.cell? ⟨Bb, 2, none⟩ = some (.slice e2 en2 ec2) ∧ w'.cell? ⟨Bb, 3, none⟩ = some (.int .i64 Bl.ops) ∧ w'.cell? ⟨Bs, 0, none⟩ = some (.string ss) ∧ w'.cell? ⟨Bs, 1, none⟩ = some (.string sl) ∧ w'.cell? ⟨Bs, 3, none⟩ = some (.int .i64 sh)) → (Below W7.heap.size W7 w'.drew ∧ w'.drew.cell? ⟨Bb, 0, none⟩ = some (.slice e0 en0 ec0) ∧ w'.drew.cell? ⟨Bb, 1, none⟩ = some (.slice e1 en1 ec1) ∧ w'.drew.cell? ⟨Bb, 2, none⟩ = some (.slice e2 en2 ec2) ∧ w'.drew.cell? ⟨Bb, 3, none⟩ = some (.int .i64 Bl.ops) ∧ w'.drew.cell? ⟨Bs, 0, none⟩ = some (.string ss) ∧ w'.drew.cell? ⟨Bs, 1, none⟩ = some (.string sl) ∧ w'.drew.cell? ⟨Bs, 3, none⟩ = some (.int .i64 sh))) := fun w' h => HS.out _ h.1.drew
          have HC2 : Hid (∀ w' : World, (Below W7.heap.size W7 w' ∧ w'.cell? ⟨Bb, 0, none⟩ = some (.slice e0 en0 ec0) ∧ w'.cell? ⟨Bb, 1, none⟩ = some (.slice e1 en1 ec1) ∧ w'.cell? ⟨Bb, 2, none⟩ = some (.slice e2 en2 ec2) ∧ w'.cell? ⟨Bb, 3, none⟩ = some (.int .i64 Bl.ops) ∧ w'.cell? ⟨Bs, 0, none⟩ = some (.string ss) ∧ w'.cell? ⟨Bs, 1, none⟩ = some (.string sl) ∧ w'.cell? ⟨Bs, 3, none⟩ = some (.int .i64 sh)) → Calls Try.prog 21 #[.agg #[.slice e0 en0 ec0, .slice e1 en1 ec1, .slice e2 en2 ec2, .int .i64 Bl.ops], .string ss, .string sl] w' fun e w'' => e = .returned (.int .i64 fr) ∧ (Below W7.heap.size W7 w'' ∧ w''.cell? ⟨Bb, 0, none⟩ = some (.slice e0 en0 ec0) ∧ w''.cell? ⟨Bb, 1, none⟩ = some (.slice e1 en1 ec1) ∧ w''.cell? ⟨Bb, 2, none⟩ = some (.slice e2 en2 ec2) ∧ w''.cell? ⟨Bb, 3, none⟩ = some (.int .i64 Bl.ops) ∧ w''.cell? ⟨Bs, 0, none⟩ = some (.string ss) ∧ w''.cell? ⟨Bs, 1, none⟩ = some (.string sl) ∧ w''.cell? ⟨Bs, 3, none⟩ = some (.int .i64 sh))) := fun w' h => (HFB.out w' _ _ _ _ _ _ _ _ _ (HF7.out.2.2.1.next h.1)).mono fun e w'' ⟨r1, r2⟩ => ⟨r1, HS.out _ (Below.next h.1 r2)⟩
          have HC3 : Hid (∀ w' : World, (Below W7.heap.size W7 w' ∧ w'.cell? ⟨Bb, 0, none⟩ = some (.slice e0 en0 ec0) ∧ w'.cell? ⟨Bb, 1, none⟩ = some (.slice e1 en1 ec1) ∧ w'.cell? ⟨Bb, 2, none⟩ = some (.slice e2 en2 ec2) ∧ w'.cell? ⟨Bb, 3, none⟩ = some (.int .i64 Bl.ops) ∧ w'.cell? ⟨Bs, 0, none⟩ = some (.string ss) ∧ w'.cell? ⟨Bs, 1, none⟩ = some (.string sl) ∧ w'.cell? ⟨Bs, 3, none⟩ = some (.int .i64 sh)) → Calls Try.prog 22 #[.agg #[.slice e0 en0 ec0, .slice e1 en1 ec1, .slice e2 en2 ec2, .int .i64 Bl.ops], .string ss, .string sl] w' fun e w'' => e = .returned (.agg #[.string ss, .string sl, .int .i64 on', .int .i64 sh]) ∧ (Below W7.heap.size W7 w'' ∧ w''.cell? ⟨Bb, 0, none⟩ = some (.slice e0 en0 ec0) ∧ w''.cell? ⟨Bb, 1, none⟩ = some (.slice e1 en1 ec1) ∧ w''.cell? ⟨Bb, 2, none⟩ = some (.slice e2 en2 ec2) ∧ w''.cell? ⟨Bb, 3, none⟩ = some (.int .i64 Bl.ops) ∧ w''.cell? ⟨Bs, 0, none⟩ = some (.string ss) ∧ w''.cell? ⟨Bs, 1, none⟩ = some (.string sl) ∧ w''.cell? ⟨Bs, 3, none⟩ = some (.int .i64 sh))) := fun w' h => (HFD.out w' _ _ _ _ _ _ _ _ _ (HF7.out.2.2.1.next h.1)).mono fun e w'' ⟨r1, r2⟩ => ⟨r1, HS.out _ (Below.next h.1 r2)⟩
          have hfh := fun w => field_held (.string ss) (.string sl) (.int .i64 on') (.int .i64 sh) w
          go_wp2_with fail
          refine wp_region_held_drew (S := (fun (w' : World) => (Below W7.heap.size W7 w' ∧ w'.cell? ⟨Bb, 0, none⟩ = some (.slice e0 en0 ec0) ∧ w'.cell? ⟨Bb, 1, none⟩ = some (.slice e1 en1 ec1) ∧ w'.cell? ⟨Bb, 2, none⟩ = some (.slice e2 en2 ec2) ∧ w'.cell? ⟨Bb, 3, none⟩ = some (.int .i64 Bl.ops) ∧ w'.cell? ⟨Bs, 0, none⟩ = some (.string ss) ∧ w'.cell? ⟨Bs, 1, none⟩ = some (.string sl) ∧ w'.cell? ⟨Bs, 3, none⟩ = some (.int .i64 sh)))) (by kernel_rfl) (HSD.out _ (HS.out _ (Below.refl _ _))) (fun hHeld => ?_)
          refine wpAnyH_take (i := 0) (oi := { dst := some 135, op := Op.move (Operand.tmp 19), type := 31, pos := "law.go:155", after := #[], guard := none }) (v := .int .i64 0) rfl (by kernel_rfl) (by kernel_rfl) (by kernel_rfl) (fun _ _ _ h => h) (Or.inl ⟨by rfl, ?_⟩) (by with_reducible assumption) ?_
          · intro wx hSw
            (try dsimp only at hSw)
            first | (go_simp; done) | (go_simp; with_reducible rfl) | (go_simp; exact fun hx => absurd hx (nsl _))
          try simp only [Act.put, List.setIfInBounds_toArray, List.set_cons_zero, List.set_cons_succ]
          refine wpAnyH_take (i := 1) (oi := { dst := some 136, op := Op.binOp BinOp.neq 31 (Operand.tmp 135) (Operand.const (Value.int IntKind.i64 0)) 31, type := 4, pos := "law.go:155", after := #[{ on := 0, ground := Ground.data }], guard := none }) (v := .bool false) rfl (by kernel_rfl) (by kernel_rfl) (by kernel_rfl) (fun _ _ _ h => h) (Or.inl ⟨by rfl, ?_⟩) (by with_reducible assumption) ?_
          · intro wx hSw
            (try dsimp only at hSw)
            first | (go_simp; done) | (go_simp; with_reducible rfl) | (go_simp; exact fun hx => absurd hx (nsl _))
          try simp only [Act.put, List.setIfInBounds_toArray, List.set_cons_zero, List.set_cons_succ]
          refine wpAnyH_take (i := 2) (oi := { dst := some 137, op := Op.move (Operand.tmp 136), type := 4, pos := "law.go:155", after := #[{ on := 1, ground := Ground.data }], guard := none }) (v := .bool false) rfl (by kernel_rfl) (by kernel_rfl) (by kernel_rfl) (fun _ _ _ h => h) (Or.inl ⟨by rfl, ?_⟩) (by with_reducible assumption) ?_
          · intro wx hSw
            (try dsimp only at hSw)
            first | (go_simp; done) | (go_simp; with_reducible rfl) | (go_simp; exact fun hx => absurd hx (nsl _))
          try simp only [Act.put, List.setIfInBounds_toArray, List.set_cons_zero, List.set_cons_succ]
          refine wpAnyH_take (i := 3) (oi := { dst := some 138, op := Op.move (Operand.tmp 21), type := 31, pos := "law.go:155", after := #[{ on := 2, ground := Ground.guard }], guard := some (2, false) }) (v := .int .i64 71) rfl (by kernel_rfl) (by kernel_rfl) (by kernel_rfl) (fun _ _ _ h => h) (Or.inl ⟨by rfl, ?_⟩) (by with_reducible assumption) ?_
          · intro wx hSw
            (try dsimp only at hSw)
            first | (go_simp; done) | (go_simp; with_reducible rfl) | (go_simp; exact fun hx => absurd hx (nsl _))
          try simp only [Act.put, List.setIfInBounds_toArray, List.set_cons_zero, List.set_cons_succ]
          refine wpAnyH_take (i := 4) (oi := { dst := some 139, op := Op.binOp BinOp.neq 31 (Operand.tmp 138) (Operand.const (Value.int IntKind.i64 71)) 31, type := 4, pos := "law.go:155", after := #[{ on := 3, ground := Ground.data }, { on := 2, ground := Ground.guard }], guard := some (2, false) }) (v := .bool false) rfl (by kernel_rfl) (by kernel_rfl) (by kernel_rfl) (fun _ _ _ h => h) (Or.inl ⟨by rfl, ?_⟩) (by with_reducible assumption) ?_
          · intro wx hSw
            (try dsimp only at hSw)
            first | (go_simp; done) | (go_simp; with_reducible rfl) | (go_simp; exact fun hx => absurd hx (nsl _))
          try simp only [Act.put, List.setIfInBounds_toArray, List.set_cons_zero, List.set_cons_succ]
          refine wpAnyH_take (i := 5) (oi := { dst := some 140, op := Op.pick (Operand.tmp 137) (Operand.const (Value.bool true)) (Operand.tmp 139), type := 4, pos := "law.go:155", after := #[{ on := 2, ground := Ground.data }, { on := 4, ground := Ground.data }], guard := none }) (v := .bool false) rfl (by kernel_rfl) (by kernel_rfl) (by kernel_rfl) (fun _ _ _ h => h) (Or.inl ⟨by rfl, ?_⟩) (by with_reducible assumption) ?_
          · intro wx hSw
            (try dsimp only at hSw)
            first | (go_simp; done) | (go_simp; with_reducible rfl) | (go_simp; exact fun hx => absurd hx (nsl _))
          try simp only [Act.put, List.setIfInBounds_toArray, List.set_cons_zero, List.set_cons_succ]
          refine wpAnyH_take (i := 6) (oi := { dst := some 141, op := Op.move (Operand.tmp 140), type := 4, pos := "law.go:155", after := #[{ on := 5, ground := Ground.data }, { on := 2, ground := Ground.chain }], guard := none }) (v := .bool false) rfl (by kernel_rfl) (by kernel_rfl) (by kernel_rfl) (fun _ _ _ h => h) (Or.inl ⟨by rfl, ?_⟩) (by with_reducible assumption) ?_
          · intro wx hSw
            (try dsimp only at hSw)
            first | (go_simp; done) | (go_simp; with_reducible rfl) | (go_simp; exact fun hx => absurd hx (nsl _))
          try simp only [Act.put, List.setIfInBounds_toArray, List.set_cons_zero, List.set_cons_succ]
          refine wpAnyH_take (i := 7) (oi := { dst := some 142, op := Op.load 26 (Operand.tmp 18), type := 26, pos := "law.go:155", after := #[{ on := 6, ground := Ground.guard }], guard := some (6, false) }) (v := .agg #[.slice e0 en0 ec0, .slice e1 en1 ec1, .slice e2 en2 ec2, .int .i64 Bl.ops]) rfl (by kernel_rfl) (by kernel_rfl) (by kernel_rfl) (fun _ _ _ h => h) (Or.inl ⟨by rfl, ?_⟩) (by with_reducible assumption) ?_
          · intro wx hSw
            (try dsimp only at hSw)
            first | (go_simp; done) | (go_simp; with_reducible rfl) | (go_simp; exact fun hx => absurd hx (nsl _))
          try simp only [Act.put, List.setIfInBounds_toArray, List.set_cons_zero, List.set_cons_succ]
          refine wpAnyH_take (i := 8) (oi := { dst := some 143, op := Op.fieldAddr 50 (Operand.tmp 10) 0, type := 0, pos := "law.go:155", after := #[{ on := 6, ground := Ground.guard }], guard := some (6, false) }) (v := .pointer (some ⟨Bs, 0, none⟩)) rfl (by kernel_rfl) (by kernel_rfl) (by kernel_rfl) (fun _ _ _ h => h) (Or.inl ⟨by rfl, ?_⟩) (by with_reducible assumption) ?_
          · intro wx hSw
            (try dsimp only at hSw)
            first | (go_simp; done) | (go_simp; with_reducible rfl) | (go_simp; exact fun hx => absurd hx (nsl _))
          try simp only [Act.put, List.setIfInBounds_toArray, List.set_cons_zero, List.set_cons_succ]
          refine wpAnyH_take (i := 9) (oi := { dst := some 144, op := Op.load 9 (Operand.tmp 143), type := 9, pos := "law.go:155", after := #[{ on := 8, ground := Ground.data }, { on := 6, ground := Ground.guard }], guard := some (6, false) }) (v := .string ss) rfl (by kernel_rfl) (by kernel_rfl) (by kernel_rfl) (fun _ _ _ h => h) (Or.inl ⟨by rfl, ?_⟩) (by with_reducible assumption) ?_
          · intro wx hSw
            (try dsimp only at hSw)
            first | (go_simp; done) | (go_simp; with_reducible rfl) | (go_simp; exact fun hx => absurd hx (nsl _))
          try simp only [Act.put, List.setIfInBounds_toArray, List.set_cons_zero, List.set_cons_succ]
          refine wpAnyH_take (i := 10) (oi := { dst := some 145, op := Op.fieldAddr 50 (Operand.tmp 10) 1, type := 0, pos := "law.go:155", after := #[{ on := 6, ground := Ground.guard }], guard := some (6, false) }) (v := .pointer (some ⟨Bs, 1, none⟩)) rfl (by kernel_rfl) (by kernel_rfl) (by kernel_rfl) (fun _ _ _ h => h) (Or.inl ⟨by rfl, ?_⟩) (by with_reducible assumption) ?_
          · intro wx hSw
            (try dsimp only at hSw)
            first | (go_simp; done) | (go_simp; with_reducible rfl) | (go_simp; exact fun hx => absurd hx (nsl _))
          try simp only [Act.put, List.setIfInBounds_toArray, List.set_cons_zero, List.set_cons_succ]
          refine wpAnyH_take (i := 11) (oi := { dst := some 146, op := Op.load 9 (Operand.tmp 145), type := 9, pos := "law.go:155", after := #[{ on := 10, ground := Ground.data }, { on := 6, ground := Ground.guard }], guard := some (6, false) }) (v := .string sl) rfl (by kernel_rfl) (by kernel_rfl) (by kernel_rfl) (fun _ _ _ h => h) (Or.inl ⟨by rfl, ?_⟩) (by with_reducible assumption) ?_
          · intro wx hSw
            (try dsimp only at hSw)
            first | (go_simp; done) | (go_simp; with_reducible rfl) | (go_simp; exact fun hx => absurd hx (nsl _))
          try simp only [Act.put, List.setIfInBounds_toArray, List.set_cons_zero, List.set_cons_succ]
          refine wpAnyH_take (i := 13) (oi := { dst := some 148, op := Op.move (Operand.tmp 17), type := 3, pos := "law.go:155", after := #[{ on := 6, ground := Ground.guard }], guard := some (6, false) }) (v := .int .i64 fr) rfl (by kernel_rfl) (by kernel_rfl) (by kernel_rfl) (fun _ _ _ h => h) (Or.inl ⟨by rfl, ?_⟩) (by with_reducible assumption) ?_
          · intro wx hSw
            (try dsimp only at hSw)
            first | (go_simp; done) | (go_simp; with_reducible rfl) | (go_simp; exact fun hx => absurd hx (nsl _))
          try simp only [Act.put, List.setIfInBounds_toArray, List.set_cons_zero, List.set_cons_succ]
          refine wpAnyH_ready (rs := [12]) (by kernel_rfl) (by simp) ?_
          refine AllReadyH.cons rfl (fun K hK => ?_) AllReadyH.nil
          go_simp
          go_wp2_with (((with_reducible refine Calls.mono (HC2.out _ (by with_reducible assumption)) ?_); rintro e w112 ⟨rfl, hS12⟩))
          refine hK.out _ _ (by with_reducible assumption) (fun hHeld12 => ?_)
          clear hK K
          try simp only [Act.put, List.setIfInBounds_toArray, List.set_cons_zero, List.set_cons_succ]
          refine wpAnyH_take (i := 14) (oi := { dst := some 149, op := Op.binOp BinOp.neq 3 (Operand.tmp 147) (Operand.tmp 148) 3, type := 4, pos := "law.go:155", after := #[{ on := 12, ground := Ground.data }, { on := 13, ground := Ground.data }, { on := 6, ground := Ground.guard }], guard := some (6, false) }) (v := .bool false) rfl (by kernel_rfl) (by kernel_rfl) (by kernel_rfl) (fun _ _ _ h => h) (Or.inl ⟨by rfl, ?_⟩) (by with_reducible assumption) ?_
          · intro wx hSw
            (try dsimp only at hSw)
            first | (go_simp; done) | (go_simp; with_reducible rfl) | (go_simp; exact fun hx => absurd hx (nsl _))
          try simp only [Act.put, List.setIfInBounds_toArray, List.set_cons_zero, List.set_cons_succ]
          refine wpAnyH_take (i := 15) (oi := { dst := some 150, op := Op.pick (Operand.tmp 141) (Operand.const (Value.bool true)) (Operand.tmp 149), type := 4, pos := "law.go:155", after := #[{ on := 6, ground := Ground.data }, { on := 14, ground := Ground.data }], guard := none }) (v := .bool false) rfl (by kernel_rfl) (by kernel_rfl) (by kernel_rfl) (fun _ _ _ h => h) (Or.inl ⟨by rfl, ?_⟩) (by with_reducible assumption) ?_
          · intro wx hSw
            (try dsimp only at hSw)
            first | (go_simp; done) | (go_simp; with_reducible rfl) | (go_simp; exact fun hx => absurd hx (nsl _))
          try simp only [Act.put, List.setIfInBounds_toArray, List.set_cons_zero, List.set_cons_succ]
          refine wpAnyH_take (i := 16) (oi := { dst := some 151, op := Op.move (Operand.tmp 150), type := 4, pos := "law.go:155", after := #[{ on := 15, ground := Ground.data }, { on := 12, ground := Ground.chain }], guard := none }) (v := .bool false) rfl (by kernel_rfl) (by kernel_rfl) (by kernel_rfl) (fun _ _ _ h => h) (Or.inl ⟨by rfl, ?_⟩) (by with_reducible assumption) ?_
          · intro wx hSw
            (try dsimp only at hSw)
            first | (go_simp; done) | (go_simp; with_reducible rfl) | (go_simp; exact fun hx => absurd hx (nsl _))
          try simp only [Act.put, List.setIfInBounds_toArray, List.set_cons_zero, List.set_cons_succ]
          refine wpAnyH_take (i := 17) (oi := { dst := some 152, op := Op.load 26 (Operand.tmp 18), type := 26, pos := "law.go:155", after := #[{ on := 16, ground := Ground.guard }], guard := some (16, false) }) (v := .agg #[.slice e0 en0 ec0, .slice e1 en1 ec1, .slice e2 en2 ec2, .int .i64 Bl.ops]) rfl (by kernel_rfl) (by kernel_rfl) (by kernel_rfl) (fun _ _ _ h => h) (Or.inl ⟨by rfl, ?_⟩) (by with_reducible assumption) ?_
          · intro wx hSw
            (try dsimp only at hSw)
            first | (go_simp; done) | (go_simp; with_reducible rfl) | (go_simp; exact fun hx => absurd hx (nsl _))
          try simp only [Act.put, List.setIfInBounds_toArray, List.set_cons_zero, List.set_cons_succ]
          refine wpAnyH_take (i := 18) (oi := { dst := some 153, op := Op.fieldAddr 50 (Operand.tmp 10) 0, type := 0, pos := "law.go:155", after := #[{ on := 16, ground := Ground.guard }], guard := some (16, false) }) (v := .pointer (some ⟨Bs, 0, none⟩)) rfl (by kernel_rfl) (by kernel_rfl) (by kernel_rfl) (fun _ _ _ h => h) (Or.inl ⟨by rfl, ?_⟩) (by with_reducible assumption) ?_
          · intro wx hSw
            (try dsimp only at hSw)
            first | (go_simp; done) | (go_simp; with_reducible rfl) | (go_simp; exact fun hx => absurd hx (nsl _))
          try simp only [Act.put, List.setIfInBounds_toArray, List.set_cons_zero, List.set_cons_succ]
          refine wpAnyH_take (i := 19) (oi := { dst := some 154, op := Op.load 9 (Operand.tmp 153), type := 9, pos := "law.go:155", after := #[{ on := 18, ground := Ground.data }, { on := 16, ground := Ground.guard }], guard := some (16, false) }) (v := .string ss) rfl (by kernel_rfl) (by kernel_rfl) (by kernel_rfl) (fun _ _ _ h => h) (Or.inl ⟨by rfl, ?_⟩) (by with_reducible assumption) ?_
          · intro wx hSw
            (try dsimp only at hSw)
            first | (go_simp; done) | (go_simp; with_reducible rfl) | (go_simp; exact fun hx => absurd hx (nsl _))
          try simp only [Act.put, List.setIfInBounds_toArray, List.set_cons_zero, List.set_cons_succ]
          refine wpAnyH_take (i := 20) (oi := { dst := some 155, op := Op.fieldAddr 50 (Operand.tmp 10) 1, type := 0, pos := "law.go:155", after := #[{ on := 16, ground := Ground.guard }], guard := some (16, false) }) (v := .pointer (some ⟨Bs, 1, none⟩)) rfl (by kernel_rfl) (by kernel_rfl) (by kernel_rfl) (fun _ _ _ h => h) (Or.inl ⟨by rfl, ?_⟩) (by with_reducible assumption) ?_
          · intro wx hSw
            (try dsimp only at hSw)
            first | (go_simp; done) | (go_simp; with_reducible rfl) | (go_simp; exact fun hx => absurd hx (nsl _))
          try simp only [Act.put, List.setIfInBounds_toArray, List.set_cons_zero, List.set_cons_succ]
          refine wpAnyH_take (i := 21) (oi := { dst := some 156, op := Op.load 9 (Operand.tmp 155), type := 9, pos := "law.go:155", after := #[{ on := 20, ground := Ground.data }, { on := 16, ground := Ground.guard }], guard := some (16, false) }) (v := .string sl) rfl (by kernel_rfl) (by kernel_rfl) (by kernel_rfl) (fun _ _ _ h => h) (Or.inl ⟨by rfl, ?_⟩) (by with_reducible assumption) ?_
          · intro wx hSw
            (try dsimp only at hSw)
            first | (go_simp; done) | (go_simp; with_reducible rfl) | (go_simp; exact fun hx => absurd hx (nsl _))
          try simp only [Act.put, List.setIfInBounds_toArray, List.set_cons_zero, List.set_cons_succ]
          refine wpAnyH_take (i := 24) (oi := { dst := some 159, op := Op.fieldAddr 50 (Operand.tmp 10) 3, type := 0, pos := "law.go:155", after := #[{ on := 16, ground := Ground.guard }], guard := some (16, false) }) (v := .pointer (some ⟨Bs, 3, none⟩)) rfl (by kernel_rfl) (by kernel_rfl) (by kernel_rfl) (fun _ _ _ h => h) (Or.inl ⟨by rfl, ?_⟩) (by with_reducible assumption) ?_
          · intro wx hSw
            (try dsimp only at hSw)
            first | (go_simp; done) | (go_simp; with_reducible rfl) | (go_simp; exact fun hx => absurd hx (nsl _))
          try simp only [Act.put, List.setIfInBounds_toArray, List.set_cons_zero, List.set_cons_succ]
          refine wpAnyH_take (i := 25) (oi := { dst := some 160, op := Op.load 3 (Operand.tmp 159), type := 3, pos := "law.go:155", after := #[{ on := 24, ground := Ground.data }, { on := 16, ground := Ground.guard }], guard := some (16, false) }) (v := .int .i64 sh) rfl (by kernel_rfl) (by kernel_rfl) (by kernel_rfl) (fun _ _ _ h => h) (Or.inl ⟨by rfl, ?_⟩) (by with_reducible assumption) ?_
          · intro wx hSw
            (try dsimp only at hSw)
            first | (go_simp; done) | (go_simp; with_reducible rfl) | (go_simp; exact fun hx => absurd hx (nsl _))
          try simp only [Act.put, List.setIfInBounds_toArray, List.set_cons_zero, List.set_cons_succ]
          refine wpAnyH_ready (rs := [22]) (by kernel_rfl) (by simp) ?_
          refine AllReadyH.cons rfl (fun K hK => ?_) AllReadyH.nil
          go_simp
          go_wp2_with (((with_reducible refine Calls.mono (HC3.out _ (by with_reducible assumption)) ?_); rintro e w122 ⟨rfl, hS22⟩))
          refine hK.out _ _ (by with_reducible assumption) (fun hHeld22 => ?_)
          clear hK K
          try simp only [Act.put, List.setIfInBounds_toArray, List.set_cons_zero, List.set_cons_succ]
          refine wpAnyH_take (i := 23) (oi := { dst := some 158, op := Op.field 50 (Operand.tmp 157) 3, type := 3, pos := "law.go:155", after := #[{ on := 22, ground := Ground.data }, { on := 16, ground := Ground.guard }], guard := some (16, false) }) (v := .int .i64 sh) rfl (by kernel_rfl) (by kernel_rfl) (by kernel_rfl) (fun _ _ _ h => h) (Or.inl ⟨by rfl, ?_⟩) (by with_reducible assumption) ?_
          · intro wx hSw
            (try dsimp only at hSw)
            first | (go_simp; done) | (go_simp; with_reducible rfl) | (go_simp; exact fun hx => absurd hx (nsl _))
          try simp only [Act.put, List.setIfInBounds_toArray, List.set_cons_zero, List.set_cons_succ]
          refine wpAnyH_take (i := 26) (oi := { dst := some 161, op := Op.binOp BinOp.neq 3 (Operand.tmp 158) (Operand.tmp 160) 3, type := 4, pos := "law.go:155", after := #[{ on := 23, ground := Ground.data }, { on := 25, ground := Ground.data }, { on := 16, ground := Ground.guard }], guard := some (16, false) }) (v := .bool false) rfl (by kernel_rfl) (by kernel_rfl) (by kernel_rfl) (fun _ _ _ h => h) (Or.inl ⟨by rfl, ?_⟩) (by with_reducible assumption) ?_
          · intro wx hSw
            (try dsimp only at hSw)
            first | (go_simp; done) | (go_simp; with_reducible rfl) | (go_simp; exact fun hx => absurd hx (nsl _))
          try simp only [Act.put, List.setIfInBounds_toArray, List.set_cons_zero, List.set_cons_succ]
          refine wpAnyH_take (i := 27) (oi := { dst := some 162, op := Op.pick (Operand.tmp 151) (Operand.const (Value.bool true)) (Operand.tmp 161), type := 4, pos := "law.go:155", after := #[{ on := 16, ground := Ground.data }, { on := 26, ground := Ground.data }], guard := none }) (v := .bool false) rfl (by kernel_rfl) (by kernel_rfl) (by kernel_rfl) (fun _ _ _ h => h) (Or.inl ⟨by rfl, ?_⟩) (by with_reducible assumption) ?_
          · intro wx hSw
            (try dsimp only at hSw)
            first | (go_simp; done) | (go_simp; with_reducible rfl) | (go_simp; exact fun hx => absurd hx (nsl _))
          try simp only [Act.put, List.setIfInBounds_toArray, List.set_cons_zero, List.set_cons_succ]
          refine wpAnyH_done (by kernel_rfl) ?_ _
          have HB9 : Hid (Below W1.heap.size W1 w122) := Below.next HF7.out.2.2.2 hS22.1
          go_wp2_with fail
          go_roundw
          case rel => exact ⟨i + 1, by omega, by go_num, HB9.out⟩
          case measure => simp [intOf]; omega
        · obtain rfl : kk = 3 := hkk
          obtain rfl : fr - q = lf' := by have := HLF.out; simp at this; exact this
          go_wp2_with fail
          refine Calls.mono (HA2.out _ HF5.out.2.2.1) ?_; rintro e w6 ⟨e0, en0, ec0, e1, en1, ec1, e2, en2, ec2, rfl, hv6, k6⟩
          obtain ⟨W6, hW6⟩ : ∃ W6, w6.alloc (.cells #[.slice e0 en0 ec0, .slice e1 en1 ec1, .slice e2 en2 ec2, .int .i64 Bl.ops] 26) = W6 := ⟨_, rfl⟩
          obtain ⟨Bb, hBb⟩ : ∃ Bb, w6.heap.size = Bb := ⟨_, rfl⟩
          have HF6 : Hid (CellsF W6 Bs [.string ss, .string sl, .int .i64 so, .int .i64 sh] ∧ CellsF W6 Bb [.slice e0 en0 ec0, .slice e1 en1 ec1, .slice e2 en2 ec2, .int .i64 Bl.ops] ∧ Have W6 e0 en0 ec0 e1 en1 ec1 e2 en2 ec2 Bl ∧ Below W1.heap.size W1 W6) := by
            show _ ∧ _
            rw [← hW6, ← hBb]
            exact ⟨(HF5.out.1.next k6).next (below1 _ _), CellsF.at _ 26 (by simp) rfl, hv6.here.next (below1 _ _), Below.next (Below.next HF5.out.2.2.2 k6) (below1 _ _)⟩
          clear hv6 k6 u0 u1 u2 u3 v0 v1 v2 v3 HF5
          have u0 := (HF6.out.1).cs 0 _ rfl
          have u1 := (HF6.out.1).cs 1 _ rfl
          have u2 := (HF6.out.1).cs 2 _ rfl
          have u3 := (HF6.out.1).cs 3 _ rfl
          have v0 := (HF6.out.2.1).cs 0 _ rfl
          have v1 := (HF6.out.2.1).cs 1 _ rfl
          have v2 := (HF6.out.2.1).cs 2 _ rfl
          have v3 := (HF6.out.2.1).cs 3 _ rfl
          go_wp2_with fail
          refine Calls.mono (HA3.out _ _ _ _ _ _ _ _ _ _ HF6.out.2.2.1) ?_; rintro e w7 ⟨g0, gn0, gc0, g1, gn1, gc1, g2, gn2, gc2, rfl, hv7, k7⟩
          obtain ⟨W7, hW7⟩ : ∃ W7, w7.alloc (.cells #[.slice g0 gn0 gc0, .slice g1 gn1 gc1, .slice g2 gn2 gc2, .int .i64 C.ops] 26) = W7 := ⟨_, rfl⟩
          have HF7 : Hid (CellsF W7 Bs [.string ss, .string sl, .int .i64 so, .int .i64 sh] ∧ CellsF W7 Bb [.slice e0 en0 ec0, .slice e1 en1 ec1, .slice e2 en2 ec2, .int .i64 Bl.ops] ∧ Have W7 e0 en0 ec0 e1 en1 ec1 e2 en2 ec2 Bl ∧ Below W1.heap.size W1 W7) := by
            show _ ∧ _
            rw [← hW7]
            exact ⟨(HF6.out.1.next k7).next (below1 _ _), (HF6.out.2.1.next k7).next (below1 _ _), (HF6.out.2.2.1.next k7).next (below1 _ _), Below.next (Below.next HF6.out.2.2.2 k7) (below1 _ _)⟩
          clear hv7 k7 u0 u1 u2 u3 v0 v1 v2 v3 HF6 hW6 hBb
          have HS : Hid (∀ w' : World, Below W7.heap.size W7 w' → (Below W7.heap.size W7 w' ∧ w'.cell? ⟨Bb, 0, none⟩ = some (.slice e0 en0 ec0) ∧ w'.cell? ⟨Bb, 1, none⟩ = some (.slice e1 en1 ec1) ∧ w'.cell? ⟨Bb, 2, none⟩ = some (.slice e2 en2 ec2) ∧ w'.cell? ⟨Bb, 3, none⟩ = some (.int .i64 Bl.ops) ∧ w'.cell? ⟨Bs, 0, none⟩ = some (.string ss) ∧ w'.cell? ⟨Bs, 1, none⟩ = some (.string sl) ∧ w'.cell? ⟨Bs, 3, none⟩ = some (.int .i64 sh))) := fun w' kx => by
            have h1 := HF7.out.2.1.next kx
            have h2 := HF7.out.1.next kx
            exact ⟨kx, h1.cs 0 _ rfl, h1.cs 1 _ rfl, h1.cs 2 _ rfl, h1.cs 3 _ rfl, h2.cs 0 _ rfl, h2.cs 1 _ rfl, h2.cs 3 _ rfl⟩
          have HSD : Hid (∀ w' : World, (Below W7.heap.size W7 w' ∧ w'.cell? ⟨Bb, 0, none⟩ = some (.slice e0 en0 ec0) ∧ w'.cell? ⟨Bb, 1, none⟩ = some (.slice e1 en1 ec1) ∧ w'.cell? ⟨Bb, 2, none⟩ = some (.slice e2 en2 ec2) ∧ w'.cell? ⟨Bb, 3, none⟩ = some (.int .i64 Bl.ops) ∧ w'.cell? ⟨Bs, 0, none⟩ = some (.string ss) ∧ w'.cell? ⟨Bs, 1, none⟩ = some (.string sl) ∧ w'.cell? ⟨Bs, 3, none⟩ = some (.int .i64 sh)) → (Below W7.heap.size W7 w'.drew ∧ w'.drew.cell? ⟨Bb, 0, none⟩ = some (.slice e0 en0 ec0) ∧ w'.drew.cell? ⟨Bb, 1, none⟩ = some (.slice e1 en1 ec1) ∧ w'.drew.cell? ⟨Bb, 2, none⟩ = some (.slice e2 en2 ec2) ∧ w'.drew.cell? ⟨Bb, 3, none⟩ = some (.int .i64 Bl.ops) ∧ w'.drew.cell? ⟨Bs, 0, none⟩ = some (.string ss) ∧ w'.drew.cell? ⟨Bs, 1, none⟩ = some (.string sl) ∧ w'.drew.cell? ⟨Bs, 3, none⟩ = some (.int .i64 sh))) := fun w' h => HS.out _ h.1.drew
          have HC2 : Hid (∀ w' : World, (Below W7.heap.size W7 w' ∧ w'.cell? ⟨Bb, 0, none⟩ = some (.slice e0 en0 ec0) ∧ w'.cell? ⟨Bb, 1, none⟩ = some (.slice e1 en1 ec1) ∧ w'.cell? ⟨Bb, 2, none⟩ = some (.slice e2 en2 ec2) ∧ w'.cell? ⟨Bb, 3, none⟩ = some (.int .i64 Bl.ops) ∧ w'.cell? ⟨Bs, 0, none⟩ = some (.string ss) ∧ w'.cell? ⟨Bs, 1, none⟩ = some (.string sl) ∧ w'.cell? ⟨Bs, 3, none⟩ = some (.int .i64 sh)) → Calls Try.prog 21 #[.agg #[.slice e0 en0 ec0, .slice e1 en1 ec1, .slice e2 en2 ec2, .int .i64 Bl.ops], .string ss, .string sl] w' fun e w'' => e = .returned (.int .i64 (fr - q)) ∧ (Below W7.heap.size W7 w'' ∧ w''.cell? ⟨Bb, 0, none⟩ = some (.slice e0 en0 ec0) ∧ w''.cell? ⟨Bb, 1, none⟩ = some (.slice e1 en1 ec1) ∧ w''.cell? ⟨Bb, 2, none⟩ = some (.slice e2 en2 ec2) ∧ w''.cell? ⟨Bb, 3, none⟩ = some (.int .i64 Bl.ops) ∧ w''.cell? ⟨Bs, 0, none⟩ = some (.string ss) ∧ w''.cell? ⟨Bs, 1, none⟩ = some (.string sl) ∧ w''.cell? ⟨Bs, 3, none⟩ = some (.int .i64 sh))) := fun w' h => (HFB.out w' _ _ _ _ _ _ _ _ _ (HF7.out.2.2.1.next h.1)).mono fun e w'' ⟨r1, r2⟩ => ⟨r1, HS.out _ (Below.next h.1 r2)⟩
          have HC3 : Hid (∀ w' : World, (Below W7.heap.size W7 w' ∧ w'.cell? ⟨Bb, 0, none⟩ = some (.slice e0 en0 ec0) ∧ w'.cell? ⟨Bb, 1, none⟩ = some (.slice e1 en1 ec1) ∧ w'.cell? ⟨Bb, 2, none⟩ = some (.slice e2 en2 ec2) ∧ w'.cell? ⟨Bb, 3, none⟩ = some (.int .i64 Bl.ops) ∧ w'.cell? ⟨Bs, 0, none⟩ = some (.string ss) ∧ w'.cell? ⟨Bs, 1, none⟩ = some (.string sl) ∧ w'.cell? ⟨Bs, 3, none⟩ = some (.int .i64 sh)) → Calls Try.prog 22 #[.agg #[.slice e0 en0 ec0, .slice e1 en1 ec1, .slice e2 en2 ec2, .int .i64 Bl.ops], .string ss, .string sl] w' fun e w'' => e = .returned (.agg #[.string ss, .string sl, .int .i64 on', .int .i64 sh]) ∧ (Below W7.heap.size W7 w'' ∧ w''.cell? ⟨Bb, 0, none⟩ = some (.slice e0 en0 ec0) ∧ w''.cell? ⟨Bb, 1, none⟩ = some (.slice e1 en1 ec1) ∧ w''.cell? ⟨Bb, 2, none⟩ = some (.slice e2 en2 ec2) ∧ w''.cell? ⟨Bb, 3, none⟩ = some (.int .i64 Bl.ops) ∧ w''.cell? ⟨Bs, 0, none⟩ = some (.string ss) ∧ w''.cell? ⟨Bs, 1, none⟩ = some (.string sl) ∧ w''.cell? ⟨Bs, 3, none⟩ = some (.int .i64 sh))) := fun w' h => (HFD.out w' _ _ _ _ _ _ _ _ _ (HF7.out.2.2.1.next h.1)).mono fun e w'' ⟨r1, r2⟩ => ⟨r1, HS.out _ (Below.next h.1 r2)⟩
          have hfh := fun w => field_held (.string ss) (.string sl) (.int .i64 on') (.int .i64 sh) w
          go_wp2_with fail
          refine wp_region_held_drew (S := (fun (w' : World) => (Below W7.heap.size W7 w' ∧ w'.cell? ⟨Bb, 0, none⟩ = some (.slice e0 en0 ec0) ∧ w'.cell? ⟨Bb, 1, none⟩ = some (.slice e1 en1 ec1) ∧ w'.cell? ⟨Bb, 2, none⟩ = some (.slice e2 en2 ec2) ∧ w'.cell? ⟨Bb, 3, none⟩ = some (.int .i64 Bl.ops) ∧ w'.cell? ⟨Bs, 0, none⟩ = some (.string ss) ∧ w'.cell? ⟨Bs, 1, none⟩ = some (.string sl) ∧ w'.cell? ⟨Bs, 3, none⟩ = some (.int .i64 sh)))) (by kernel_rfl) (HSD.out _ (HS.out _ (Below.refl _ _))) (fun hHeld => ?_)
          refine wpAnyH_take (i := 0) (oi := { dst := some 135, op := Op.move (Operand.tmp 19), type := 31, pos := "law.go:155", after := #[], guard := none }) (v := .int .i64 0) rfl (by kernel_rfl) (by kernel_rfl) (by kernel_rfl) (fun _ _ _ h => h) (Or.inl ⟨by rfl, ?_⟩) (by with_reducible assumption) ?_
          · intro wx hSw
            (try dsimp only at hSw)
            first | (go_simp; done) | (go_simp; with_reducible rfl) | (go_simp; exact fun hx => absurd hx (nsl _))
          try simp only [Act.put, List.setIfInBounds_toArray, List.set_cons_zero, List.set_cons_succ]
          refine wpAnyH_take (i := 1) (oi := { dst := some 136, op := Op.binOp BinOp.neq 31 (Operand.tmp 135) (Operand.const (Value.int IntKind.i64 0)) 31, type := 4, pos := "law.go:155", after := #[{ on := 0, ground := Ground.data }], guard := none }) (v := .bool false) rfl (by kernel_rfl) (by kernel_rfl) (by kernel_rfl) (fun _ _ _ h => h) (Or.inl ⟨by rfl, ?_⟩) (by with_reducible assumption) ?_
          · intro wx hSw
            (try dsimp only at hSw)
            first | (go_simp; done) | (go_simp; with_reducible rfl) | (go_simp; exact fun hx => absurd hx (nsl _))
          try simp only [Act.put, List.setIfInBounds_toArray, List.set_cons_zero, List.set_cons_succ]
          refine wpAnyH_take (i := 2) (oi := { dst := some 137, op := Op.move (Operand.tmp 136), type := 4, pos := "law.go:155", after := #[{ on := 1, ground := Ground.data }], guard := none }) (v := .bool false) rfl (by kernel_rfl) (by kernel_rfl) (by kernel_rfl) (fun _ _ _ h => h) (Or.inl ⟨by rfl, ?_⟩) (by with_reducible assumption) ?_
          · intro wx hSw
            (try dsimp only at hSw)
            first | (go_simp; done) | (go_simp; with_reducible rfl) | (go_simp; exact fun hx => absurd hx (nsl _))
          try simp only [Act.put, List.setIfInBounds_toArray, List.set_cons_zero, List.set_cons_succ]
          refine wpAnyH_take (i := 3) (oi := { dst := some 138, op := Op.move (Operand.tmp 21), type := 31, pos := "law.go:155", after := #[{ on := 2, ground := Ground.guard }], guard := some (2, false) }) (v := .int .i64 71) rfl (by kernel_rfl) (by kernel_rfl) (by kernel_rfl) (fun _ _ _ h => h) (Or.inl ⟨by rfl, ?_⟩) (by with_reducible assumption) ?_
          · intro wx hSw
            (try dsimp only at hSw)
            first | (go_simp; done) | (go_simp; with_reducible rfl) | (go_simp; exact fun hx => absurd hx (nsl _))
          try simp only [Act.put, List.setIfInBounds_toArray, List.set_cons_zero, List.set_cons_succ]
          refine wpAnyH_take (i := 4) (oi := { dst := some 139, op := Op.binOp BinOp.neq 31 (Operand.tmp 138) (Operand.const (Value.int IntKind.i64 71)) 31, type := 4, pos := "law.go:155", after := #[{ on := 3, ground := Ground.data }, { on := 2, ground := Ground.guard }], guard := some (2, false) }) (v := .bool false) rfl (by kernel_rfl) (by kernel_rfl) (by kernel_rfl) (fun _ _ _ h => h) (Or.inl ⟨by rfl, ?_⟩) (by with_reducible assumption) ?_
          · intro wx hSw
            (try dsimp only at hSw)
            first | (go_simp; done) | (go_simp; with_reducible rfl) | (go_simp; exact fun hx => absurd hx (nsl _))
          try simp only [Act.put, List.setIfInBounds_toArray, List.set_cons_zero, List.set_cons_succ]
          refine wpAnyH_take (i := 5) (oi := { dst := some 140, op := Op.pick (Operand.tmp 137) (Operand.const (Value.bool true)) (Operand.tmp 139), type := 4, pos := "law.go:155", after := #[{ on := 2, ground := Ground.data }, { on := 4, ground := Ground.data }], guard := none }) (v := .bool false) rfl (by kernel_rfl) (by kernel_rfl) (by kernel_rfl) (fun _ _ _ h => h) (Or.inl ⟨by rfl, ?_⟩) (by with_reducible assumption) ?_
          · intro wx hSw
            (try dsimp only at hSw)
            first | (go_simp; done) | (go_simp; with_reducible rfl) | (go_simp; exact fun hx => absurd hx (nsl _))
          try simp only [Act.put, List.setIfInBounds_toArray, List.set_cons_zero, List.set_cons_succ]
          refine wpAnyH_take (i := 6) (oi := { dst := some 141, op := Op.move (Operand.tmp 140), type := 4, pos := "law.go:155", after := #[{ on := 5, ground := Ground.data }, { on := 2, ground := Ground.chain }], guard := none }) (v := .bool false) rfl (by kernel_rfl) (by kernel_rfl) (by kernel_rfl) (fun _ _ _ h => h) (Or.inl ⟨by rfl, ?_⟩) (by with_reducible assumption) ?_
          · intro wx hSw
            (try dsimp only at hSw)
            first | (go_simp; done) | (go_simp; with_reducible rfl) | (go_simp; exact fun hx => absurd hx (nsl _))
          try simp only [Act.put, List.setIfInBounds_toArray, List.set_cons_zero, List.set_cons_succ]
          refine wpAnyH_take (i := 7) (oi := { dst := some 142, op := Op.load 26 (Operand.tmp 18), type := 26, pos := "law.go:155", after := #[{ on := 6, ground := Ground.guard }], guard := some (6, false) }) (v := .agg #[.slice e0 en0 ec0, .slice e1 en1 ec1, .slice e2 en2 ec2, .int .i64 Bl.ops]) rfl (by kernel_rfl) (by kernel_rfl) (by kernel_rfl) (fun _ _ _ h => h) (Or.inl ⟨by rfl, ?_⟩) (by with_reducible assumption) ?_
          · intro wx hSw
            (try dsimp only at hSw)
            first | (go_simp; done) | (go_simp; with_reducible rfl) | (go_simp; exact fun hx => absurd hx (nsl _))
          try simp only [Act.put, List.setIfInBounds_toArray, List.set_cons_zero, List.set_cons_succ]
          refine wpAnyH_take (i := 8) (oi := { dst := some 143, op := Op.fieldAddr 50 (Operand.tmp 10) 0, type := 0, pos := "law.go:155", after := #[{ on := 6, ground := Ground.guard }], guard := some (6, false) }) (v := .pointer (some ⟨Bs, 0, none⟩)) rfl (by kernel_rfl) (by kernel_rfl) (by kernel_rfl) (fun _ _ _ h => h) (Or.inl ⟨by rfl, ?_⟩) (by with_reducible assumption) ?_
          · intro wx hSw
            (try dsimp only at hSw)
            first | (go_simp; done) | (go_simp; with_reducible rfl) | (go_simp; exact fun hx => absurd hx (nsl _))
          try simp only [Act.put, List.setIfInBounds_toArray, List.set_cons_zero, List.set_cons_succ]
          refine wpAnyH_take (i := 9) (oi := { dst := some 144, op := Op.load 9 (Operand.tmp 143), type := 9, pos := "law.go:155", after := #[{ on := 8, ground := Ground.data }, { on := 6, ground := Ground.guard }], guard := some (6, false) }) (v := .string ss) rfl (by kernel_rfl) (by kernel_rfl) (by kernel_rfl) (fun _ _ _ h => h) (Or.inl ⟨by rfl, ?_⟩) (by with_reducible assumption) ?_
          · intro wx hSw
            (try dsimp only at hSw)
            first | (go_simp; done) | (go_simp; with_reducible rfl) | (go_simp; exact fun hx => absurd hx (nsl _))
          try simp only [Act.put, List.setIfInBounds_toArray, List.set_cons_zero, List.set_cons_succ]
          refine wpAnyH_take (i := 10) (oi := { dst := some 145, op := Op.fieldAddr 50 (Operand.tmp 10) 1, type := 0, pos := "law.go:155", after := #[{ on := 6, ground := Ground.guard }], guard := some (6, false) }) (v := .pointer (some ⟨Bs, 1, none⟩)) rfl (by kernel_rfl) (by kernel_rfl) (by kernel_rfl) (fun _ _ _ h => h) (Or.inl ⟨by rfl, ?_⟩) (by with_reducible assumption) ?_
          · intro wx hSw
            (try dsimp only at hSw)
            first | (go_simp; done) | (go_simp; with_reducible rfl) | (go_simp; exact fun hx => absurd hx (nsl _))
          try simp only [Act.put, List.setIfInBounds_toArray, List.set_cons_zero, List.set_cons_succ]
          refine wpAnyH_take (i := 11) (oi := { dst := some 146, op := Op.load 9 (Operand.tmp 145), type := 9, pos := "law.go:155", after := #[{ on := 10, ground := Ground.data }, { on := 6, ground := Ground.guard }], guard := some (6, false) }) (v := .string sl) rfl (by kernel_rfl) (by kernel_rfl) (by kernel_rfl) (fun _ _ _ h => h) (Or.inl ⟨by rfl, ?_⟩) (by with_reducible assumption) ?_
          · intro wx hSw
            (try dsimp only at hSw)
            first | (go_simp; done) | (go_simp; with_reducible rfl) | (go_simp; exact fun hx => absurd hx (nsl _))
          try simp only [Act.put, List.setIfInBounds_toArray, List.set_cons_zero, List.set_cons_succ]
          refine wpAnyH_take (i := 13) (oi := { dst := some 148, op := Op.move (Operand.tmp 17), type := 3, pos := "law.go:155", after := #[{ on := 6, ground := Ground.guard }], guard := some (6, false) }) (v := .int .i64 (fr - q)) rfl (by kernel_rfl) (by kernel_rfl) (by kernel_rfl) (fun _ _ _ h => h) (Or.inl ⟨by rfl, ?_⟩) (by with_reducible assumption) ?_
          · intro wx hSw
            (try dsimp only at hSw)
            first | (go_simp; done) | (go_simp; with_reducible rfl) | (go_simp; exact fun hx => absurd hx (nsl _))
          try simp only [Act.put, List.setIfInBounds_toArray, List.set_cons_zero, List.set_cons_succ]
          refine wpAnyH_ready (rs := [12]) (by kernel_rfl) (by simp) ?_
          refine AllReadyH.cons rfl (fun K hK => ?_) AllReadyH.nil
          go_simp
          go_wp2_with (((with_reducible refine Calls.mono (HC2.out _ (by with_reducible assumption)) ?_); rintro e w112 ⟨rfl, hS12⟩))
          refine hK.out _ _ (by with_reducible assumption) (fun hHeld12 => ?_)
          clear hK K
          try simp only [Act.put, List.setIfInBounds_toArray, List.set_cons_zero, List.set_cons_succ]
          refine wpAnyH_take (i := 14) (oi := { dst := some 149, op := Op.binOp BinOp.neq 3 (Operand.tmp 147) (Operand.tmp 148) 3, type := 4, pos := "law.go:155", after := #[{ on := 12, ground := Ground.data }, { on := 13, ground := Ground.data }, { on := 6, ground := Ground.guard }], guard := some (6, false) }) (v := .bool false) rfl (by kernel_rfl) (by kernel_rfl) (by kernel_rfl) (fun _ _ _ h => h) (Or.inl ⟨by rfl, ?_⟩) (by with_reducible assumption) ?_
          · intro wx hSw
            (try dsimp only at hSw)
            first | (go_simp; done) | (go_simp; with_reducible rfl) | (go_simp; exact fun hx => absurd hx (nsl _))
          try simp only [Act.put, List.setIfInBounds_toArray, List.set_cons_zero, List.set_cons_succ]
          refine wpAnyH_take (i := 15) (oi := { dst := some 150, op := Op.pick (Operand.tmp 141) (Operand.const (Value.bool true)) (Operand.tmp 149), type := 4, pos := "law.go:155", after := #[{ on := 6, ground := Ground.data }, { on := 14, ground := Ground.data }], guard := none }) (v := .bool false) rfl (by kernel_rfl) (by kernel_rfl) (by kernel_rfl) (fun _ _ _ h => h) (Or.inl ⟨by rfl, ?_⟩) (by with_reducible assumption) ?_
          · intro wx hSw
            (try dsimp only at hSw)
            first | (go_simp; done) | (go_simp; with_reducible rfl) | (go_simp; exact fun hx => absurd hx (nsl _))
          try simp only [Act.put, List.setIfInBounds_toArray, List.set_cons_zero, List.set_cons_succ]
          refine wpAnyH_take (i := 16) (oi := { dst := some 151, op := Op.move (Operand.tmp 150), type := 4, pos := "law.go:155", after := #[{ on := 15, ground := Ground.data }, { on := 12, ground := Ground.chain }], guard := none }) (v := .bool false) rfl (by kernel_rfl) (by kernel_rfl) (by kernel_rfl) (fun _ _ _ h => h) (Or.inl ⟨by rfl, ?_⟩) (by with_reducible assumption) ?_
          · intro wx hSw
            (try dsimp only at hSw)
            first | (go_simp; done) | (go_simp; with_reducible rfl) | (go_simp; exact fun hx => absurd hx (nsl _))
          try simp only [Act.put, List.setIfInBounds_toArray, List.set_cons_zero, List.set_cons_succ]
          refine wpAnyH_take (i := 17) (oi := { dst := some 152, op := Op.load 26 (Operand.tmp 18), type := 26, pos := "law.go:155", after := #[{ on := 16, ground := Ground.guard }], guard := some (16, false) }) (v := .agg #[.slice e0 en0 ec0, .slice e1 en1 ec1, .slice e2 en2 ec2, .int .i64 Bl.ops]) rfl (by kernel_rfl) (by kernel_rfl) (by kernel_rfl) (fun _ _ _ h => h) (Or.inl ⟨by rfl, ?_⟩) (by with_reducible assumption) ?_
          · intro wx hSw
            (try dsimp only at hSw)
            first | (go_simp; done) | (go_simp; with_reducible rfl) | (go_simp; exact fun hx => absurd hx (nsl _))
          try simp only [Act.put, List.setIfInBounds_toArray, List.set_cons_zero, List.set_cons_succ]
          refine wpAnyH_take (i := 18) (oi := { dst := some 153, op := Op.fieldAddr 50 (Operand.tmp 10) 0, type := 0, pos := "law.go:155", after := #[{ on := 16, ground := Ground.guard }], guard := some (16, false) }) (v := .pointer (some ⟨Bs, 0, none⟩)) rfl (by kernel_rfl) (by kernel_rfl) (by kernel_rfl) (fun _ _ _ h => h) (Or.inl ⟨by rfl, ?_⟩) (by with_reducible assumption) ?_
          · intro wx hSw
            (try dsimp only at hSw)
            first | (go_simp; done) | (go_simp; with_reducible rfl) | (go_simp; exact fun hx => absurd hx (nsl _))
          try simp only [Act.put, List.setIfInBounds_toArray, List.set_cons_zero, List.set_cons_succ]
          refine wpAnyH_take (i := 19) (oi := { dst := some 154, op := Op.load 9 (Operand.tmp 153), type := 9, pos := "law.go:155", after := #[{ on := 18, ground := Ground.data }, { on := 16, ground := Ground.guard }], guard := some (16, false) }) (v := .string ss) rfl (by kernel_rfl) (by kernel_rfl) (by kernel_rfl) (fun _ _ _ h => h) (Or.inl ⟨by rfl, ?_⟩) (by with_reducible assumption) ?_
          · intro wx hSw
            (try dsimp only at hSw)
            first | (go_simp; done) | (go_simp; with_reducible rfl) | (go_simp; exact fun hx => absurd hx (nsl _))
          try simp only [Act.put, List.setIfInBounds_toArray, List.set_cons_zero, List.set_cons_succ]
          refine wpAnyH_take (i := 20) (oi := { dst := some 155, op := Op.fieldAddr 50 (Operand.tmp 10) 1, type := 0, pos := "law.go:155", after := #[{ on := 16, ground := Ground.guard }], guard := some (16, false) }) (v := .pointer (some ⟨Bs, 1, none⟩)) rfl (by kernel_rfl) (by kernel_rfl) (by kernel_rfl) (fun _ _ _ h => h) (Or.inl ⟨by rfl, ?_⟩) (by with_reducible assumption) ?_
          · intro wx hSw
            (try dsimp only at hSw)
            first | (go_simp; done) | (go_simp; with_reducible rfl) | (go_simp; exact fun hx => absurd hx (nsl _))
          try simp only [Act.put, List.setIfInBounds_toArray, List.set_cons_zero, List.set_cons_succ]
          refine wpAnyH_take (i := 21) (oi := { dst := some 156, op := Op.load 9 (Operand.tmp 155), type := 9, pos := "law.go:155", after := #[{ on := 20, ground := Ground.data }, { on := 16, ground := Ground.guard }], guard := some (16, false) }) (v := .string sl) rfl (by kernel_rfl) (by kernel_rfl) (by kernel_rfl) (fun _ _ _ h => h) (Or.inl ⟨by rfl, ?_⟩) (by with_reducible assumption) ?_
          · intro wx hSw
            (try dsimp only at hSw)
            first | (go_simp; done) | (go_simp; with_reducible rfl) | (go_simp; exact fun hx => absurd hx (nsl _))
          try simp only [Act.put, List.setIfInBounds_toArray, List.set_cons_zero, List.set_cons_succ]
          refine wpAnyH_take (i := 24) (oi := { dst := some 159, op := Op.fieldAddr 50 (Operand.tmp 10) 3, type := 0, pos := "law.go:155", after := #[{ on := 16, ground := Ground.guard }], guard := some (16, false) }) (v := .pointer (some ⟨Bs, 3, none⟩)) rfl (by kernel_rfl) (by kernel_rfl) (by kernel_rfl) (fun _ _ _ h => h) (Or.inl ⟨by rfl, ?_⟩) (by with_reducible assumption) ?_
          · intro wx hSw
            (try dsimp only at hSw)
            first | (go_simp; done) | (go_simp; with_reducible rfl) | (go_simp; exact fun hx => absurd hx (nsl _))
          try simp only [Act.put, List.setIfInBounds_toArray, List.set_cons_zero, List.set_cons_succ]
          refine wpAnyH_take (i := 25) (oi := { dst := some 160, op := Op.load 3 (Operand.tmp 159), type := 3, pos := "law.go:155", after := #[{ on := 24, ground := Ground.data }, { on := 16, ground := Ground.guard }], guard := some (16, false) }) (v := .int .i64 sh) rfl (by kernel_rfl) (by kernel_rfl) (by kernel_rfl) (fun _ _ _ h => h) (Or.inl ⟨by rfl, ?_⟩) (by with_reducible assumption) ?_
          · intro wx hSw
            (try dsimp only at hSw)
            first | (go_simp; done) | (go_simp; with_reducible rfl) | (go_simp; exact fun hx => absurd hx (nsl _))
          try simp only [Act.put, List.setIfInBounds_toArray, List.set_cons_zero, List.set_cons_succ]
          refine wpAnyH_ready (rs := [22]) (by kernel_rfl) (by simp) ?_
          refine AllReadyH.cons rfl (fun K hK => ?_) AllReadyH.nil
          go_simp
          go_wp2_with (((with_reducible refine Calls.mono (HC3.out _ (by with_reducible assumption)) ?_); rintro e w122 ⟨rfl, hS22⟩))
          refine hK.out _ _ (by with_reducible assumption) (fun hHeld22 => ?_)
          clear hK K
          try simp only [Act.put, List.setIfInBounds_toArray, List.set_cons_zero, List.set_cons_succ]
          refine wpAnyH_take (i := 23) (oi := { dst := some 158, op := Op.field 50 (Operand.tmp 157) 3, type := 3, pos := "law.go:155", after := #[{ on := 22, ground := Ground.data }, { on := 16, ground := Ground.guard }], guard := some (16, false) }) (v := .int .i64 sh) rfl (by kernel_rfl) (by kernel_rfl) (by kernel_rfl) (fun _ _ _ h => h) (Or.inl ⟨by rfl, ?_⟩) (by with_reducible assumption) ?_
          · intro wx hSw
            (try dsimp only at hSw)
            first | (go_simp; done) | (go_simp; with_reducible rfl) | (go_simp; exact fun hx => absurd hx (nsl _))
          try simp only [Act.put, List.setIfInBounds_toArray, List.set_cons_zero, List.set_cons_succ]
          refine wpAnyH_take (i := 26) (oi := { dst := some 161, op := Op.binOp BinOp.neq 3 (Operand.tmp 158) (Operand.tmp 160) 3, type := 4, pos := "law.go:155", after := #[{ on := 23, ground := Ground.data }, { on := 25, ground := Ground.data }, { on := 16, ground := Ground.guard }], guard := some (16, false) }) (v := .bool false) rfl (by kernel_rfl) (by kernel_rfl) (by kernel_rfl) (fun _ _ _ h => h) (Or.inl ⟨by rfl, ?_⟩) (by with_reducible assumption) ?_
          · intro wx hSw
            (try dsimp only at hSw)
            first | (go_simp; done) | (go_simp; with_reducible rfl) | (go_simp; exact fun hx => absurd hx (nsl _))
          try simp only [Act.put, List.setIfInBounds_toArray, List.set_cons_zero, List.set_cons_succ]
          refine wpAnyH_take (i := 27) (oi := { dst := some 162, op := Op.pick (Operand.tmp 151) (Operand.const (Value.bool true)) (Operand.tmp 161), type := 4, pos := "law.go:155", after := #[{ on := 16, ground := Ground.data }, { on := 26, ground := Ground.data }], guard := none }) (v := .bool false) rfl (by kernel_rfl) (by kernel_rfl) (by kernel_rfl) (fun _ _ _ h => h) (Or.inl ⟨by rfl, ?_⟩) (by with_reducible assumption) ?_
          · intro wx hSw
            (try dsimp only at hSw)
            first | (go_simp; done) | (go_simp; with_reducible rfl) | (go_simp; exact fun hx => absurd hx (nsl _))
          try simp only [Act.put, List.setIfInBounds_toArray, List.set_cons_zero, List.set_cons_succ]
          refine wpAnyH_done (by kernel_rfl) ?_ _
          have HB9 : Hid (Below W1.heap.size W1 w122) := Below.next HF7.out.2.2.2 hS22.1
          go_wp2_with fail
          go_roundw
          case rel => exact ⟨i + 1, by omega, by go_num, HB9.out⟩
          case measure => simp [intOf]; omega
      · rw [if_neg hqf] at herr2
        subst herr2
        have hqf2 : ¬ q ≤ fr := hqf
        go_wp2_with fail
        go_roundw
        case rel => exact ⟨i + 1, by omega, by go_num, HF4.out.2.2.2.2⟩
        case measure => simp [intOf]; omega
    · have hii : ¬ (i : Int) < (an0 : Int) := by omega
      have HB8 : Hid (Below w.heap.size w wr) := Below.next HF1.out.2.2 HJ.out
      go_wp2_with fail
      refine Calls.mono (HAW.out _) ?_; rintro e w9 ⟨rfl, k9⟩
      have HF9 : Hid (Below w.heap.size w w9) := Below.next HB8.out k9
      clear k9
      go_wp2_with fail
      go_ret
      exact ⟨rfl, HF9.out⟩
end Go.Proofs.Ytbclddgicnaamaa
