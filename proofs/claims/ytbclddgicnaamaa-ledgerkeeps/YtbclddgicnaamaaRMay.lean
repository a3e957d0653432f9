/- The document's ledger: which ledgers may be. -/
import Derived.Test.YtbclddgicnaamaaRSums
import Derived.Test.YtbclddgicnaamaaRM
import Derived.Test.YtbclddgicnaamaaMayL
namespace Go.Proofs.Ytbclddgicnaamaa
open Go.ChangeShapes Go.WideShapes Go.RowKit
set_option linter.unusedVariables false
set_option maxRecDepth 100000

theorem bless_yes {s t : ByteArray} (h : cmpB s t = -1) : Op.bytesLess s.toList t.toList = true := by rw [bytesLess_is]; exact decide_eq_true h
theorem bless_no {s t : ByteArray} (h : ¬ cmpB s t = -1) : Op.bytesLess s.toList t.toList = false := by rw [bytesLess_is]; exact decide_eq_false h
theorem ahead_is (a b : Stk) (w : World) : Calls Try.prog 32 #[.agg #[.string a.sku, .string a.loc, .int .i64 a.on, .int .i64 a.held], .agg #[.string b.sku, .string b.loc, .int .i64 b.on, .int .i64 b.held]] w fun e w' => e = .returned (.bool (decide (cmpK a.sku a.loc b.sku b.loc = -1))) ∧ Below w.heap.size w w' := by
  obtain ⟨sa, la, oa, ha⟩ := a
  obtain ⟨sb, lb, ob, hb⟩ := b
  dsimp only
  by_cases h0 : sa = sb
  · subst h0
    have b0 : Op.bytesLess sa.toList sa.toList = false := bless_no (by rw [cmpB_zero.2 rfl]; decide)
    have e0 : cmpK sa la sa lb = cmpB la lb := by unfold cmpK; rw [if_pos (cmpB_zero.2 rfl)]
    by_cases h1 : cmpB la lb = -1
    · have b1 := bless_yes h1
      have HE : Hid (decide (cmpK sa la sa lb = -1) = true) := decide_eq_true (e0.trans h1)
      clear h1 e0
      go_enter Try.func32, Try.ntmps32
      go_wp2_with fail
      go_ret
      exact ⟨by rw [HE.out]; rfl, below2 _ _ _⟩
    · have b1 := bless_no h1
      have HE : Hid (decide (cmpK sa la sa lb = -1) = false) := decide_eq_false (fun e => h1 (e0.symm.trans e))
      clear h1 e0
      go_enter Try.func32, Try.ntmps32
      go_wp2_with fail
      go_ret
      exact ⟨by rw [HE.out]; rfl, below2 _ _ _⟩
  · have e0 : cmpK sa la sb lb = cmpB sa sb := by unfold cmpK; rw [if_neg (fun e => h0 (cmpB_zero.1 e))]
    have b0 := byte_bne h0
    by_cases h1 : cmpB sa sb = -1
    · have b1 := bless_yes h1
      have HE : Hid (decide (cmpK sa la sb lb = -1) = true) := decide_eq_true (e0.trans h1)
      clear h1 e0
      go_enter Try.func32, Try.ntmps32
      go_wp2_with fail
      go_ret
      exact ⟨by rw [HE.out]; rfl, below2 _ _ _⟩
    · have b1 := bless_no h1
      have HE : Hid (decide (cmpK sa la sb lb = -1) = false) := decide_eq_false (fun e => h1 (e0.symm.trans e))
      clear h1 e0
      go_enter Try.func32, Try.ntmps32
      go_wp2_with fail
      go_ret
      exact ⟨by rw [HE.out]; rfl, below2 _ _ _⟩
theorem rmay_iff (L : Led) : mayL L ↔ 0 ≤ L.ops ∧ (L.S.length ≤ 4096 ∧ L.H.length ≤ 4096 ∧ L.M.length ≤ 4096) ∧ (∀ x, x ∈ L.S → okS x ∧ sumsP L x) ∧ Rises L.S ∧ mayRH L ∧ mayRM L := by
  constructor
  · intro h
    have hr := h.room
    refine ⟨h.ops, ?_, fun x hx => ⟨h.S.1 x hx, h.ag.2.2 x hx⟩, h.S.2, fun i hi => ⟨h.H i hi, fun e => h.ag.1 _ (List.getElem_mem hi) e⟩, fun i hi => ⟨h.M i hi, h.ag.2.1 _ (List.getElem_mem hi)⟩⟩
    unfold room at hr
    omega
  · rintro ⟨h1, h2, h3, h4, h5, h6⟩
    refine ⟨h1, ?_, ⟨fun x hx => (h3 x hx).1, h4⟩, fun i hi => (h5 i hi).1, fun i hi => (h6 i hi).1, fun x hx e => ?_, fun x hx => ?_, fun x hx => (h3 x hx).2⟩
    · unfold room
      omega
    · obtain ⟨i, hi, rfl⟩ := List.getElem_of_mem hx
      exact (h5 i hi).2 e
    · obtain ⟨i, hi, rfl⟩ := List.getElem_of_mem hx
      exact (h6 i hi).2
set_option maxHeartbeats 8000000 in
theorem refMay_yes (a0 : Option Addr) (n0 c0 : Nat) (a1 : Option Addr) (n1 c1 : Nat) (a2 : Option Addr) (n2 c2 : Nat) (L : Led) (h0 : L.S.length = n0) (h1 : L.H.length = n1) (h2 : L.M.length = n2) (m0 : n0 ≤ 1000000000000) (m1 : n1 ≤ 1000000000000) (m2 : n2 ≤ 1000000000000) (hf : L.fit) (hm : mayL L) (w : World) (hr : Lies w a0 a1 a2 L) :
    Calls Try.prog 18 #[.agg #[.slice a0 n0 c0, .slice a1 n1 c1, .slice a2 n2 c2, .int .i64 L.ops]] w fun e w' => e = .returned (.bool true) ∧ Below w.heap.size w w' := by
  have HMY : Hid (mayL L) := hm
  have hlr := ((rmay_iff L).1 hm).2.1
  have HRI : Hid _ := (rmay_iff L).1 hm
  obtain ⟨W, hW⟩ : ∃ W, w.alloc (.cells #[.slice a0 n0 c0, .slice a1 n1 c1, .slice a2 n2 c2, .int .i64 L.ops] 26) = W := ⟨_, rfl⟩
  have hB : Below w.heap.size w W := hW ▸ below1 _ _
  have hC : CellsF W w.heap.size [.slice a0 n0 c0, .slice a1 n1 c1, .slice a2 n2 c2, .int .i64 L.ops] := by rw [← hW]; exact CellsF.at _ 26 (by simp) rfl
  have HC : Hid (CellsF W w.heap.size [.slice a0 n0 c0, .slice a1 n1 c1, .slice a2 n2 c2, .int .i64 L.ops]) := hC
  have HL : Hid (L.S.length = n0 ∧ L.H.length = n1 ∧ L.M.length = n2 ∧ L.fit) := ⟨h0, h1, h2, hf⟩
  have HR : Hid (Lies w a0 a1 a2 L) := hr
  have HB : Hid (Below w.heap.size w W) := hB
  have l0 := hC.cs 0 _ rfl
  have l1 := hC.cs 1 _ rfl
  have l2 := hC.cs 2 _ rfl
  have l3 := hC.cs 3 _ rfl
  clear hr hB hf hC
  have q0 : ¬ L.ops < 0 := by have := hm.ops; omega
  have q1i : ¬ (4096 : Int) < (n0 : Int) := by omega
  have q2i : ¬ (4096 : Int) < (n1 : Int) := by omega
  have q3i : ¬ (4096 : Int) < (n2 : Int) := by omega
  have q1 : ¬ 4096 < n0 := by omega
  have q2 : ¬ 4096 < n1 := by omega
  have q3 : ¬ 4096 < n2 := by omega
  clear hm h0 h1 h2 hlr
  go_enter Try.func18, Try.ntmps18
  go_wp2_with fail
  try rw [hW]
  clear hW
  go_wp2_with fail
  clear l0 l1 l2 l3
  go_loopw [3] (fun vi wr => ∃ k : Nat, k ≤ n0 ∧ vi = .int .i64 k ∧ Hid (Below w.heap.size w wr ∧ Below W.heap.size W wr) ∧ Hid ((∀ i (h : i < L.S.length), i < k → okS L.S[i] ∧ sumsP L L.S[i]) ∧ Rises (L.S.take k)))
    (fun vi _ => n0 - (intOf vi).toNat)
  case atStart => exact ⟨0, Nat.zero_le _, rfl, ⟨HB.out, Below.refl _ _⟩, fun i h q => absurd q (Nat.not_lt_zero _), by unfold Rises; simp⟩
  case round =>
    obtain ⟨k, hk, rfl, HI, HV⟩ := hrel
    have l0 := (HC.out.next HI.out.2).cs 0 _ rfl
    have l1 := (HC.out.next HI.out.2).cs 1 _ rfl
    have l2 := (HC.out.next HI.out.2).cs 2 _ rfl
    have l3 := (HC.out.next HI.out.2).cs 3 _ rfl
    by_cases hlt : k < n0
    · have hlti : (k : Int) < (n0 : Int) := by omega
      have hkl : k < L.S.length := by have := HL.out.1; omega
      obtain ⟨b, o, ha, hb, hc⟩ := HR.out.S.stk (fun e => by rw [e] at hkl; simp at hkl)
      have hx := (hc k hkl).next (HI.out.1.block b hb)
      obtain ⟨x, hxk⟩ : ∃ x, L.S[k] = x := ⟨_, rfl⟩
      rw [hxk] at hx
      have HX : Hid (L.S[k] = x ∧ x ∈ L.S) := ⟨hxk, hxk ▸ List.getElem_mem hkl⟩
      have HXF : Hid (x.fit) := HL.out.2.2.2.S _ HX.out.2
      have HCC : Hid (b < w.heap.size ∧ ∀ i (hi : i < L.S.length), StkAt w b (o + i * 4) L.S[i]) := ⟨hb, hc⟩
      have HRS : Hid (Lies w a0 a1 a2 L) := HR.out
      subst ha
      clear hc hb hxk
      obtain ⟨xs, xl, xo, xh⟩ := x
      obtain ⟨x0, x1, x2, x3⟩ := hx
      dsimp only at x0 x1 x2 x3
      have HOK : Hid (okS ⟨xs, xl, xo, xh⟩) := (HRI.out.2.2.1 _ HX.out.2).1
      have q9 : sumsP L ⟨xs, xl, xo, xh⟩ := (HRI.out.2.2.1 _ HX.out.2).2
      have q1 : name xs := HOK.out.1
      have q2 : name xl := HOK.out.2.1
      obtain ⟨W2, hW2⟩ : ∃ W2, wr.alloc (.cells #[.string xs, .string xl, .int .i64 xo, .int .i64 xh] 50) = W2 := ⟨_, rfl⟩
      have hB2 : Below wr.heap.size wr W2 := hW2 ▸ below1 _ _
      have hC2 : CellsF W2 wr.heap.size [.string xs, .string xl, .int .i64 xo, .int .i64 xh] := by rw [← hW2]; exact CellsF.at _ 50 (by simp) rfl
      have hC3 := HC.out.next (Below.next HI.out.2 hB2)
      have HBW : Hid (Below w.heap.size w W2 ∧ Below W.heap.size W W2) := ⟨Below.next HI.out.1 hB2, Below.next HI.out.2 hB2⟩
      have HPP : Hid (∀ i (hi : i < L.S.length), StkAt W2 b (o + i * 4) L.S[i]) := fun i hi => (HCC.out.2 i hi).next (HBW.out.1.block b HCC.out.1)
      have HS0' : Hid (Below W.heap.size W W2 ∧ W2.cell? ⟨w.heap.size, 0, none⟩ = some (.slice (some ⟨b, o, none⟩) n0 c0) ∧ W2.cell? ⟨w.heap.size, 1, none⟩ = some (.slice a1 n1 c1) ∧ W2.cell? ⟨w.heap.size, 2, none⟩ = some (.slice a2 n2 c2) ∧ W2.cell? ⟨w.heap.size, 3, none⟩ = some (.int .i64 L.ops) ∧ W2.cell? ⟨wr.heap.size, 0, none⟩ = some (.string xs) ∧ W2.cell? ⟨wr.heap.size, 1, none⟩ = some (.string xl) ∧ W2.cell? ⟨wr.heap.size, 2, none⟩ = some (.int .i64 xo) ∧ W2.cell? ⟨wr.heap.size, 3, none⟩ = some (.int .i64 xh)) := ⟨HBW.out.2, hC3.cs 0 _ rfl, hC3.cs 1 _ rfl, hC3.cs 2 _ rfl, hC3.cs 3 _ rfl, hC2.cs 0 _ rfl, hC2.cs 1 _ rfl, hC2.cs 2 _ rfl, hC2.cs 3 _ rfl⟩
      clear hB2 hC2 hC3
      have HSUM : Hid (∀ w', Below w.heap.size w w' → Calls Try.prog 33 #[.agg #[.slice (some ⟨b, o, none⟩) n0 c0, .slice a1 n1 c1, .slice a2 n2 c2, .int .i64 L.ops], .agg #[.string xs, .string xl, .int .i64 xo, .int .i64 xh]] w' fun e w'' => e = .returned (.bool (decide (sumsP L ⟨xs, xl, xo, xh⟩))) ∧ Below w'.heap.size w' w'') := fun w' b' => sums_is (some ⟨b, o, none⟩) n0 c0 a1 n1 c1 a2 n2 c2 L.ops L HL.out.2.1 HL.out.2.2.1 (by omega) (by omega) HL.out.2.2.2 ⟨xs, xl, xo, xh⟩ HXF.out w' (HRS.out.next b')
      by_cases hk0 : k = 0
      · have HK0 : Hid (k = 0) := hk0
        clear hk0
        have HE : Hid ((∀ i (h : i < L.S.length), i < k + 1 → okS L.S[i] ∧ sumsP L L.S[i]) ∧ Rises (L.S.take (k + 1))) := ⟨fun i h q => by
            have : i = k := by have := HK0.out; omega
            subst this
            rw [HX.out.1]; exact ⟨HOK.out, q9⟩, rises_snoc hkl HV.out.2 (fun q => absurd HK0.out (by omega))⟩
        have HS0 : Hid (Below W.heap.size W W2 ∧ W2.cell? ⟨w.heap.size, 0, none⟩ = some (.slice (some ⟨b, o, none⟩) n0 c0) ∧ W2.cell? ⟨w.heap.size, 1, none⟩ = some (.slice a1 n1 c1) ∧ W2.cell? ⟨w.heap.size, 2, none⟩ = some (.slice a2 n2 c2) ∧ W2.cell? ⟨w.heap.size, 3, none⟩ = some (.int .i64 L.ops) ∧ W2.cell? ⟨wr.heap.size, 0, none⟩ = some (.string xs) ∧ W2.cell? ⟨wr.heap.size, 1, none⟩ = some (.string xl) ∧ W2.cell? ⟨wr.heap.size, 2, none⟩ = some (.int .i64 xo) ∧ W2.cell? ⟨wr.heap.size, 3, none⟩ = some (.int .i64 xh)) := HS0'.out
        have HN : Hid (∀ w' w'' : World, (Below W.heap.size W w' ∧ w'.cell? ⟨w.heap.size, 0, none⟩ = some (.slice (some ⟨b, o, none⟩) n0 c0) ∧ w'.cell? ⟨w.heap.size, 1, none⟩ = some (.slice a1 n1 c1) ∧ w'.cell? ⟨w.heap.size, 2, none⟩ = some (.slice a2 n2 c2) ∧ w'.cell? ⟨w.heap.size, 3, none⟩ = some (.int .i64 L.ops) ∧ w'.cell? ⟨wr.heap.size, 0, none⟩ = some (.string xs) ∧ w'.cell? ⟨wr.heap.size, 1, none⟩ = some (.string xl) ∧ w'.cell? ⟨wr.heap.size, 2, none⟩ = some (.int .i64 xo) ∧ w'.cell? ⟨wr.heap.size, 3, none⟩ = some (.int .i64 xh)) → Below w'.heap.size w' w'' → (Below W.heap.size W w'' ∧ w''.cell? ⟨w.heap.size, 0, none⟩ = some (.slice (some ⟨b, o, none⟩) n0 c0) ∧ w''.cell? ⟨w.heap.size, 1, none⟩ = some (.slice a1 n1 c1) ∧ w''.cell? ⟨w.heap.size, 2, none⟩ = some (.slice a2 n2 c2) ∧ w''.cell? ⟨w.heap.size, 3, none⟩ = some (.int .i64 L.ops) ∧ w''.cell? ⟨wr.heap.size, 0, none⟩ = some (.string xs) ∧ w''.cell? ⟨wr.heap.size, 1, none⟩ = some (.string xl) ∧ w''.cell? ⟨wr.heap.size, 2, none⟩ = some (.int .i64 xo) ∧ w''.cell? ⟨wr.heap.size, 3, none⟩ = some (.int .i64 xh))) := fun w' w'' h q => by
          have b0 := (q.cell (p := ⟨w.heap.size, 0, none⟩) (World.block_lt_of_cell? w' _ (h.2.1))).trans (h.2.1)
          have b1 := (q.cell (p := ⟨w.heap.size, 1, none⟩) (World.block_lt_of_cell? w' _ (h.2.2.1))).trans (h.2.2.1)
          have b2 := (q.cell (p := ⟨w.heap.size, 2, none⟩) (World.block_lt_of_cell? w' _ (h.2.2.2.1))).trans (h.2.2.2.1)
          have b3 := (q.cell (p := ⟨w.heap.size, 3, none⟩) (World.block_lt_of_cell? w' _ (h.2.2.2.2.1))).trans (h.2.2.2.2.1)
          have b4 := (q.cell (p := ⟨wr.heap.size, 0, none⟩) (World.block_lt_of_cell? w' _ (h.2.2.2.2.2.1))).trans (h.2.2.2.2.2.1)
          have b5 := (q.cell (p := ⟨wr.heap.size, 1, none⟩) (World.block_lt_of_cell? w' _ (h.2.2.2.2.2.2.1))).trans (h.2.2.2.2.2.2.1)
          have b6 := (q.cell (p := ⟨wr.heap.size, 2, none⟩) (World.block_lt_of_cell? w' _ (h.2.2.2.2.2.2.2.1))).trans (h.2.2.2.2.2.2.2.1)
          have b7 := (q.cell (p := ⟨wr.heap.size, 3, none⟩) (World.block_lt_of_cell? w' _ (h.2.2.2.2.2.2.2.2))).trans (h.2.2.2.2.2.2.2.2)
          exact ⟨Below.next h.1 q, b0, b1, b2, b3, b4, b5, b6, b7⟩
        have HSD : Hid (∀ w', (Below W.heap.size W w' ∧ w'.cell? ⟨w.heap.size, 0, none⟩ = some (.slice (some ⟨b, o, none⟩) n0 c0) ∧ w'.cell? ⟨w.heap.size, 1, none⟩ = some (.slice a1 n1 c1) ∧ w'.cell? ⟨w.heap.size, 2, none⟩ = some (.slice a2 n2 c2) ∧ w'.cell? ⟨w.heap.size, 3, none⟩ = some (.int .i64 L.ops) ∧ w'.cell? ⟨wr.heap.size, 0, none⟩ = some (.string xs) ∧ w'.cell? ⟨wr.heap.size, 1, none⟩ = some (.string xl) ∧ w'.cell? ⟨wr.heap.size, 2, none⟩ = some (.int .i64 xo) ∧ w'.cell? ⟨wr.heap.size, 3, none⟩ = some (.int .i64 xh)) → (Below W.heap.size W w'.drew ∧ w'.drew.cell? ⟨w.heap.size, 0, none⟩ = some (.slice (some ⟨b, o, none⟩) n0 c0) ∧ w'.drew.cell? ⟨w.heap.size, 1, none⟩ = some (.slice a1 n1 c1) ∧ w'.drew.cell? ⟨w.heap.size, 2, none⟩ = some (.slice a2 n2 c2) ∧ w'.drew.cell? ⟨w.heap.size, 3, none⟩ = some (.int .i64 L.ops) ∧ w'.drew.cell? ⟨wr.heap.size, 0, none⟩ = some (.string xs) ∧ w'.drew.cell? ⟨wr.heap.size, 1, none⟩ = some (.string xl) ∧ w'.drew.cell? ⟨wr.heap.size, 2, none⟩ = some (.int .i64 xo) ∧ w'.drew.cell? ⟨wr.heap.size, 3, none⟩ = some (.int .i64 xh))) := fun w' h => HN.out w' w'.drew h (Below.refl _ _).drew
        have HN1 : Hid (∀ (w' : World), (Below W.heap.size W w' ∧ w'.cell? ⟨w.heap.size, 0, none⟩ = some (.slice (some ⟨b, o, none⟩) n0 c0) ∧ w'.cell? ⟨w.heap.size, 1, none⟩ = some (.slice a1 n1 c1) ∧ w'.cell? ⟨w.heap.size, 2, none⟩ = some (.slice a2 n2 c2) ∧ w'.cell? ⟨w.heap.size, 3, none⟩ = some (.int .i64 L.ops) ∧ w'.cell? ⟨wr.heap.size, 0, none⟩ = some (.string xs) ∧ w'.cell? ⟨wr.heap.size, 1, none⟩ = some (.string xl) ∧ w'.cell? ⟨wr.heap.size, 2, none⟩ = some (.int .i64 xo) ∧ w'.cell? ⟨wr.heap.size, 3, none⟩ = some (.int .i64 xh)) → Calls Try.prog 31 #[.string xs] w' fun e w'' => e = .returned (.bool true) ∧ (Below W.heap.size W w'' ∧ w''.cell? ⟨w.heap.size, 0, none⟩ = some (.slice (some ⟨b, o, none⟩) n0 c0) ∧ w''.cell? ⟨w.heap.size, 1, none⟩ = some (.slice a1 n1 c1) ∧ w''.cell? ⟨w.heap.size, 2, none⟩ = some (.slice a2 n2 c2) ∧ w''.cell? ⟨w.heap.size, 3, none⟩ = some (.int .i64 L.ops) ∧ w''.cell? ⟨wr.heap.size, 0, none⟩ = some (.string xs) ∧ w''.cell? ⟨wr.heap.size, 1, none⟩ = some (.string xl) ∧ w''.cell? ⟨wr.heap.size, 2, none⟩ = some (.int .i64 xo) ∧ w''.cell? ⟨wr.heap.size, 3, none⟩ = some (.int .i64 xh))) := fun w' hS => (refName_is xs w').mono (by
          rintro e w'' ⟨he, rfl⟩
          exact ⟨by rw [he, decide_eq_true q1], hS⟩)
        have HN2 : Hid (∀ (w' : World), (Below W.heap.size W w' ∧ w'.cell? ⟨w.heap.size, 0, none⟩ = some (.slice (some ⟨b, o, none⟩) n0 c0) ∧ w'.cell? ⟨w.heap.size, 1, none⟩ = some (.slice a1 n1 c1) ∧ w'.cell? ⟨w.heap.size, 2, none⟩ = some (.slice a2 n2 c2) ∧ w'.cell? ⟨w.heap.size, 3, none⟩ = some (.int .i64 L.ops) ∧ w'.cell? ⟨wr.heap.size, 0, none⟩ = some (.string xs) ∧ w'.cell? ⟨wr.heap.size, 1, none⟩ = some (.string xl) ∧ w'.cell? ⟨wr.heap.size, 2, none⟩ = some (.int .i64 xo) ∧ w'.cell? ⟨wr.heap.size, 3, none⟩ = some (.int .i64 xh)) → Calls Try.prog 31 #[.string xl] w' fun e w'' => e = .returned (.bool true) ∧ (Below W.heap.size W w'' ∧ w''.cell? ⟨w.heap.size, 0, none⟩ = some (.slice (some ⟨b, o, none⟩) n0 c0) ∧ w''.cell? ⟨w.heap.size, 1, none⟩ = some (.slice a1 n1 c1) ∧ w''.cell? ⟨w.heap.size, 2, none⟩ = some (.slice a2 n2 c2) ∧ w''.cell? ⟨w.heap.size, 3, none⟩ = some (.int .i64 L.ops) ∧ w''.cell? ⟨wr.heap.size, 0, none⟩ = some (.string xs) ∧ w''.cell? ⟨wr.heap.size, 1, none⟩ = some (.string xl) ∧ w''.cell? ⟨wr.heap.size, 2, none⟩ = some (.int .i64 xo) ∧ w''.cell? ⟨wr.heap.size, 3, none⟩ = some (.int .i64 xh))) := fun w' hS => (refName_is xl w').mono (by
          rintro e w'' ⟨he, rfl⟩
          exact ⟨by rw [he, decide_eq_true q2], hS⟩)
        have HSM : Hid (∀ (w' : World), (Below W.heap.size W w' ∧ w'.cell? ⟨w.heap.size, 0, none⟩ = some (.slice (some ⟨b, o, none⟩) n0 c0) ∧ w'.cell? ⟨w.heap.size, 1, none⟩ = some (.slice a1 n1 c1) ∧ w'.cell? ⟨w.heap.size, 2, none⟩ = some (.slice a2 n2 c2) ∧ w'.cell? ⟨w.heap.size, 3, none⟩ = some (.int .i64 L.ops) ∧ w'.cell? ⟨wr.heap.size, 0, none⟩ = some (.string xs) ∧ w'.cell? ⟨wr.heap.size, 1, none⟩ = some (.string xl) ∧ w'.cell? ⟨wr.heap.size, 2, none⟩ = some (.int .i64 xo) ∧ w'.cell? ⟨wr.heap.size, 3, none⟩ = some (.int .i64 xh)) → Calls Try.prog 33 #[.agg #[.slice (some ⟨b, o, none⟩) n0 c0, .slice a1 n1 c1, .slice a2 n2 c2, .int .i64 L.ops], .agg #[.string xs, .string xl, .int .i64 xo, .int .i64 xh]] w' fun e w'' => e = .returned (.bool true) ∧ (Below W.heap.size W w'' ∧ w''.cell? ⟨w.heap.size, 0, none⟩ = some (.slice (some ⟨b, o, none⟩) n0 c0) ∧ w''.cell? ⟨w.heap.size, 1, none⟩ = some (.slice a1 n1 c1) ∧ w''.cell? ⟨w.heap.size, 2, none⟩ = some (.slice a2 n2 c2) ∧ w''.cell? ⟨w.heap.size, 3, none⟩ = some (.int .i64 L.ops) ∧ w''.cell? ⟨wr.heap.size, 0, none⟩ = some (.string xs) ∧ w''.cell? ⟨wr.heap.size, 1, none⟩ = some (.string xl) ∧ w''.cell? ⟨wr.heap.size, 2, none⟩ = some (.int .i64 xo) ∧ w''.cell? ⟨wr.heap.size, 3, none⟩ = some (.int .i64 xh))) := fun w' hS => (HSUM.out w' (Below.next HB.out hS.1)).mono (by
          rintro e w'' ⟨he, hb⟩
          exact ⟨by rw [he]; exact congrArg (fun x => Ending.returned (Value.bool x)) (decide_eq_true q9), HN.out _ _ hS hb⟩)
        clear l1 l2 l3
        clear HN
        go_wp2_with fail
        have hS0 := HS0.out
        have HF0 : Hid (¬ xh < 0) := by have := HOK.out.2.2.1; dsimp only at this; show ¬ _; omega
        have HF1 : Hid (¬ xo < xh) := by have := HOK.out.2.2.2; dsimp only at this; show ¬ _; omega
        have HF2 : Hid (¬ (0 : Int) < (k : Int)) := by have := HK0.out; show ¬ _; omega
        refine wp_region_held_drew (S := (fun (w' : World) => (Below W.heap.size W w' ∧ w'.cell? ⟨w.heap.size, 0, none⟩ = some (.slice (some ⟨b, o, none⟩) n0 c0) ∧ w'.cell? ⟨w.heap.size, 1, none⟩ = some (.slice a1 n1 c1) ∧ w'.cell? ⟨w.heap.size, 2, none⟩ = some (.slice a2 n2 c2) ∧ w'.cell? ⟨w.heap.size, 3, none⟩ = some (.int .i64 L.ops) ∧ w'.cell? ⟨wr.heap.size, 0, none⟩ = some (.string xs) ∧ w'.cell? ⟨wr.heap.size, 1, none⟩ = some (.string xl) ∧ w'.cell? ⟨wr.heap.size, 2, none⟩ = some (.int .i64 xo) ∧ w'.cell? ⟨wr.heap.size, 3, none⟩ = some (.int .i64 xh)))) (by kernel_rfl) (HSD.out _ HS0.out) (fun hHeld => ?_)
        refine wpAnyH_take (i := 0) (oi := { dst := some 38, op := Op.fieldAddr 50 (Operand.tmp 4) 0, type := 0, pos := "ref.go:77", after := #[], guard := none }) (v := .pointer (some ⟨wr.heap.size, 0, none⟩)) rfl (by kernel_rfl) (by kernel_rfl) (by kernel_rfl) (fun _ _ _ h => h) (Or.inl ⟨by rfl, ?_⟩) (by with_reducible assumption) ?_
        · intro wx hSw
          (try dsimp only at hSw)
          first | (go_simp; done) | (go_simp; with_reducible rfl)
        try simp only [Act.put, List.setIfInBounds_toArray, List.set_cons_zero, List.set_cons_succ]
        refine wpAnyH_take (i := 1) (oi := { dst := some 39, op := Op.load 9 (Operand.tmp 38), type := 9, pos := "ref.go:77", after := #[{ on := 0, ground := Ground.data }], guard := none }) (v := .string xs) rfl (by kernel_rfl) (by kernel_rfl) (by kernel_rfl) (fun _ _ _ h => h) (Or.inl ⟨by rfl, ?_⟩) (by with_reducible assumption) ?_
        · intro wx hSw
          (try dsimp only at hSw)
          first | (go_simp; done) | (go_simp; with_reducible rfl)
        try simp only [Act.put, List.setIfInBounds_toArray, List.set_cons_zero, List.set_cons_succ]
        refine wpAnyH_ready (rs := [2]) (by kernel_rfl) (by simp) ?_
        refine AllReadyH.cons rfl (fun K hK => ?_) AllReadyH.nil
        go_simp
        go_wp2_with (((with_reducible refine Calls.mono (HN1.out _ (by with_reducible assumption)) ?_); rintro e w102 ⟨rfl, hS2⟩))
        refine hK.out _ _ (by with_reducible assumption) (fun hHeld2 => ?_)
        clear hK K
        try simp only [Act.put, List.setIfInBounds_toArray, List.set_cons_zero, List.set_cons_succ]
        refine wpAnyH_take (i := 3) (oi := { dst := some 41, op := Op.unOp UnOp.not 4 (Operand.tmp 40), type := 4, pos := "ref.go:77", after := #[{ on := 2, ground := Ground.data }], guard := none }) (v := .bool false) rfl (by kernel_rfl) (by kernel_rfl) (by kernel_rfl) (fun _ _ _ h => h) (Or.inl ⟨by rfl, ?_⟩) (by with_reducible assumption) ?_
        · intro wx hSw
          (try dsimp only at hSw)
          first | (go_simp; done) | (go_simp; with_reducible rfl)
        try simp only [Act.put, List.setIfInBounds_toArray, List.set_cons_zero, List.set_cons_succ]
        refine wpAnyH_take (i := 4) (oi := { dst := some 42, op := Op.move (Operand.tmp 41), type := 4, pos := "ref.go:77", after := #[{ on := 3, ground := Ground.data }, { on := 2, ground := Ground.chain }], guard := none }) (v := .bool false) rfl (by kernel_rfl) (by kernel_rfl) (by kernel_rfl) (fun _ _ _ h => h) (Or.inl ⟨by rfl, ?_⟩) (by with_reducible assumption) ?_
        · intro wx hSw
          (try dsimp only at hSw)
          first | (go_simp; done) | (go_simp; with_reducible rfl)
        try simp only [Act.put, List.setIfInBounds_toArray, List.set_cons_zero, List.set_cons_succ]
        refine wpAnyH_take (i := 5) (oi := { dst := some 43, op := Op.fieldAddr 50 (Operand.tmp 4) 1, type := 0, pos := "ref.go:77", after := #[{ on := 4, ground := Ground.guard }], guard := some (4, false) }) (v := .pointer (some ⟨wr.heap.size, 1, none⟩)) rfl (by kernel_rfl) (by kernel_rfl) (by kernel_rfl) (fun _ _ _ h => h) (Or.inl ⟨by rfl, ?_⟩) (by with_reducible assumption) ?_
        · intro wx hSw
          (try dsimp only at hSw)
          first | (go_simp; done) | (go_simp; with_reducible rfl)
        try simp only [Act.put, List.setIfInBounds_toArray, List.set_cons_zero, List.set_cons_succ]
        refine wpAnyH_take (i := 6) (oi := { dst := some 44, op := Op.load 9 (Operand.tmp 43), type := 9, pos := "ref.go:77", after := #[{ on := 5, ground := Ground.data }, { on := 4, ground := Ground.guard }], guard := some (4, false) }) (v := .string xl) rfl (by kernel_rfl) (by kernel_rfl) (by kernel_rfl) (fun _ _ _ h => h) (Or.inl ⟨by rfl, ?_⟩) (by with_reducible assumption) ?_
        · intro wx hSw
          (try dsimp only at hSw)
          first | (go_simp; done) | (go_simp; with_reducible rfl)
        try simp only [Act.put, List.setIfInBounds_toArray, List.set_cons_zero, List.set_cons_succ]
        refine wpAnyH_ready (rs := [7]) (by kernel_rfl) (by simp) ?_
        refine AllReadyH.cons rfl (fun K hK => ?_) AllReadyH.nil
        go_simp
        go_wp2_with (((with_reducible refine Calls.mono (HN2.out _ (by with_reducible assumption)) ?_); rintro e w107 ⟨rfl, hS7⟩))
        refine hK.out _ _ (by with_reducible assumption) (fun hHeld7 => ?_)
        clear hK K
        try simp only [Act.put, List.setIfInBounds_toArray, List.set_cons_zero, List.set_cons_succ]
        refine wpAnyH_take (i := 8) (oi := { dst := some 46, op := Op.unOp UnOp.not 4 (Operand.tmp 45), type := 4, pos := "ref.go:77", after := #[{ on := 7, ground := Ground.data }, { on := 4, ground := Ground.guard }], guard := some (4, false) }) (v := .bool false) rfl (by kernel_rfl) (by kernel_rfl) (by kernel_rfl) (fun _ _ _ h => h) (Or.inl ⟨by rfl, ?_⟩) (by with_reducible assumption) ?_
        · intro wx hSw
          (try dsimp only at hSw)
          first | (go_simp; done) | (go_simp; with_reducible rfl)
        try simp only [Act.put, List.setIfInBounds_toArray, List.set_cons_zero, List.set_cons_succ]
        refine wpAnyH_take (i := 9) (oi := { dst := some 47, op := Op.pick (Operand.tmp 42) (Operand.const (Value.bool true)) (Operand.tmp 46), type := 4, pos := "ref.go:77", after := #[{ on := 4, ground := Ground.data }, { on := 8, ground := Ground.data }], guard := none }) (v := .bool false) rfl (by kernel_rfl) (by kernel_rfl) (by kernel_rfl) (fun _ _ _ h => h) (Or.inl ⟨by rfl, ?_⟩) (by with_reducible assumption) ?_
        · intro wx hSw
          (try dsimp only at hSw)
          first | (go_simp; done) | (go_simp; with_reducible rfl)
        try simp only [Act.put, List.setIfInBounds_toArray, List.set_cons_zero, List.set_cons_succ]
        refine wpAnyH_take (i := 10) (oi := { dst := some 48, op := Op.move (Operand.tmp 47), type := 4, pos := "ref.go:77", after := #[{ on := 9, ground := Ground.data }, { on := 7, ground := Ground.chain }], guard := none }) (v := .bool false) rfl (by kernel_rfl) (by kernel_rfl) (by kernel_rfl) (fun _ _ _ h => h) (Or.inl ⟨by rfl, ?_⟩) (by with_reducible assumption) ?_
        · intro wx hSw
          (try dsimp only at hSw)
          first | (go_simp; done) | (go_simp; with_reducible rfl)
        try simp only [Act.put, List.setIfInBounds_toArray, List.set_cons_zero, List.set_cons_succ]
        refine wpAnyH_take (i := 11) (oi := { dst := some 49, op := Op.fieldAddr 50 (Operand.tmp 4) 3, type := 0, pos := "ref.go:77", after := #[{ on := 10, ground := Ground.guard }], guard := some (10, false) }) (v := .pointer (some ⟨wr.heap.size, 3, none⟩)) rfl (by kernel_rfl) (by kernel_rfl) (by kernel_rfl) (fun _ _ _ h => h) (Or.inl ⟨by rfl, ?_⟩) (by with_reducible assumption) ?_
        · intro wx hSw
          (try dsimp only at hSw)
          first | (go_simp; done) | (go_simp; with_reducible rfl)
        try simp only [Act.put, List.setIfInBounds_toArray, List.set_cons_zero, List.set_cons_succ]
        refine wpAnyH_take (i := 12) (oi := { dst := some 50, op := Op.load 3 (Operand.tmp 49), type := 3, pos := "ref.go:77", after := #[{ on := 11, ground := Ground.data }, { on := 10, ground := Ground.guard }], guard := some (10, false) }) (v := .int .i64 xh) rfl (by kernel_rfl) (by kernel_rfl) (by kernel_rfl) (fun _ _ _ h => h) (Or.inl ⟨by rfl, ?_⟩) (by with_reducible assumption) ?_
        · intro wx hSw
          (try dsimp only at hSw)
          first | (go_simp; done) | (go_simp; with_reducible rfl)
        try simp only [Act.put, List.setIfInBounds_toArray, List.set_cons_zero, List.set_cons_succ]
        have f0 := HF0.out
        refine wpAnyH_take (i := 13) (oi := { dst := some 51, op := Op.binOp BinOp.lss 3 (Operand.tmp 50) (Operand.const (Value.int IntKind.i64 0)) 3, type := 4, pos := "ref.go:77", after := #[{ on := 12, ground := Ground.data }, { on := 10, ground := Ground.guard }], guard := some (10, false) }) (v := .bool false) rfl (by kernel_rfl) (by kernel_rfl) (by kernel_rfl) (fun _ _ _ h => h) (Or.inl ⟨by rfl, ?_⟩) (by with_reducible assumption) ?_
        · intro wx hSw
          (try dsimp only at hSw)
          first | (go_simp; done) | (go_simp; with_reducible rfl)
        try simp only [Act.put, List.setIfInBounds_toArray, List.set_cons_zero, List.set_cons_succ]
        clear f0
        refine wpAnyH_take (i := 14) (oi := { dst := some 52, op := Op.pick (Operand.tmp 48) (Operand.const (Value.bool true)) (Operand.tmp 51), type := 4, pos := "ref.go:77", after := #[{ on := 10, ground := Ground.data }, { on := 13, ground := Ground.data }], guard := none }) (v := .bool false) rfl (by kernel_rfl) (by kernel_rfl) (by kernel_rfl) (fun _ _ _ h => h) (Or.inl ⟨by rfl, ?_⟩) (by with_reducible assumption) ?_
        · intro wx hSw
          (try dsimp only at hSw)
          first | (go_simp; done) | (go_simp; with_reducible rfl)
        try simp only [Act.put, List.setIfInBounds_toArray, List.set_cons_zero, List.set_cons_succ]
        refine wpAnyH_take (i := 15) (oi := { dst := some 53, op := Op.move (Operand.tmp 52), type := 4, pos := "ref.go:77", after := #[{ on := 14, ground := Ground.data }, { on := 10, ground := Ground.chain }], guard := none }) (v := .bool false) rfl (by kernel_rfl) (by kernel_rfl) (by kernel_rfl) (fun _ _ _ h => h) (Or.inl ⟨by rfl, ?_⟩) (by with_reducible assumption) ?_
        · intro wx hSw
          (try dsimp only at hSw)
          first | (go_simp; done) | (go_simp; with_reducible rfl)
        try simp only [Act.put, List.setIfInBounds_toArray, List.set_cons_zero, List.set_cons_succ]
        refine wpAnyH_take (i := 16) (oi := { dst := some 54, op := Op.fieldAddr 50 (Operand.tmp 4) 3, type := 0, pos := "ref.go:77", after := #[{ on := 15, ground := Ground.guard }], guard := some (15, false) }) (v := .pointer (some ⟨wr.heap.size, 3, none⟩)) rfl (by kernel_rfl) (by kernel_rfl) (by kernel_rfl) (fun _ _ _ h => h) (Or.inl ⟨by rfl, ?_⟩) (by with_reducible assumption) ?_
        · intro wx hSw
          (try dsimp only at hSw)
          first | (go_simp; done) | (go_simp; with_reducible rfl)
        try simp only [Act.put, List.setIfInBounds_toArray, List.set_cons_zero, List.set_cons_succ]
        refine wpAnyH_take (i := 17) (oi := { dst := some 55, op := Op.load 3 (Operand.tmp 54), type := 3, pos := "ref.go:77", after := #[{ on := 16, ground := Ground.data }, { on := 15, ground := Ground.guard }], guard := some (15, false) }) (v := .int .i64 xh) rfl (by kernel_rfl) (by kernel_rfl) (by kernel_rfl) (fun _ _ _ h => h) (Or.inl ⟨by rfl, ?_⟩) (by with_reducible assumption) ?_
        · intro wx hSw
          (try dsimp only at hSw)
          first | (go_simp; done) | (go_simp; with_reducible rfl)
        try simp only [Act.put, List.setIfInBounds_toArray, List.set_cons_zero, List.set_cons_succ]
        refine wpAnyH_take (i := 18) (oi := { dst := some 56, op := Op.fieldAddr 50 (Operand.tmp 4) 2, type := 0, pos := "ref.go:77", after := #[{ on := 15, ground := Ground.guard }], guard := some (15, false) }) (v := .pointer (some ⟨wr.heap.size, 2, none⟩)) rfl (by kernel_rfl) (by kernel_rfl) (by kernel_rfl) (fun _ _ _ h => h) (Or.inl ⟨by rfl, ?_⟩) (by with_reducible assumption) ?_
        · intro wx hSw
          (try dsimp only at hSw)
          first | (go_simp; done) | (go_simp; with_reducible rfl)
        try simp only [Act.put, List.setIfInBounds_toArray, List.set_cons_zero, List.set_cons_succ]
        refine wpAnyH_take (i := 19) (oi := { dst := some 57, op := Op.load 3 (Operand.tmp 56), type := 3, pos := "ref.go:77", after := #[{ on := 18, ground := Ground.data }, { on := 15, ground := Ground.guard }], guard := some (15, false) }) (v := .int .i64 xo) rfl (by kernel_rfl) (by kernel_rfl) (by kernel_rfl) (fun _ _ _ h => h) (Or.inl ⟨by rfl, ?_⟩) (by with_reducible assumption) ?_
        · intro wx hSw
          (try dsimp only at hSw)
          first | (go_simp; done) | (go_simp; with_reducible rfl)
        try simp only [Act.put, List.setIfInBounds_toArray, List.set_cons_zero, List.set_cons_succ]
        have f1 := HF1.out
        refine wpAnyH_take (i := 20) (oi := { dst := some 58, op := Op.binOp BinOp.gtr 3 (Operand.tmp 55) (Operand.tmp 57) 3, type := 4, pos := "ref.go:77", after := #[{ on := 17, ground := Ground.data }, { on := 19, ground := Ground.data }, { on := 15, ground := Ground.guard }], guard := some (15, false) }) (v := .bool false) rfl (by kernel_rfl) (by kernel_rfl) (by kernel_rfl) (fun _ _ _ h => h) (Or.inl ⟨by rfl, ?_⟩) (by with_reducible assumption) ?_
        · intro wx hSw
          (try dsimp only at hSw)
          first | (go_simp; done) | (go_simp; with_reducible rfl)
        try simp only [Act.put, List.setIfInBounds_toArray, List.set_cons_zero, List.set_cons_succ]
        clear f1
        refine wpAnyH_take (i := 21) (oi := { dst := some 59, op := Op.pick (Operand.tmp 53) (Operand.const (Value.bool true)) (Operand.tmp 58), type := 4, pos := "ref.go:77", after := #[{ on := 15, ground := Ground.data }, { on := 20, ground := Ground.data }], guard := none }) (v := .bool false) rfl (by kernel_rfl) (by kernel_rfl) (by kernel_rfl) (fun _ _ _ h => h) (Or.inl ⟨by rfl, ?_⟩) (by with_reducible assumption) ?_
        · intro wx hSw
          (try dsimp only at hSw)
          first | (go_simp; done) | (go_simp; with_reducible rfl)
        try simp only [Act.put, List.setIfInBounds_toArray, List.set_cons_zero, List.set_cons_succ]
        refine wpAnyH_take (i := 22) (oi := { dst := some 60, op := Op.move (Operand.tmp 59), type := 4, pos := "ref.go:77", after := #[{ on := 21, ground := Ground.data }, { on := 15, ground := Ground.chain }], guard := none }) (v := .bool false) rfl (by kernel_rfl) (by kernel_rfl) (by kernel_rfl) (fun _ _ _ h => h) (Or.inl ⟨by rfl, ?_⟩) (by with_reducible assumption) ?_
        · intro wx hSw
          (try dsimp only at hSw)
          first | (go_simp; done) | (go_simp; with_reducible rfl)
        try simp only [Act.put, List.setIfInBounds_toArray, List.set_cons_zero, List.set_cons_succ]
        refine wpAnyH_take (i := 23) (oi := { dst := some 61, op := Op.move (Operand.tmp 3), type := 3, pos := "ref.go:77", after := #[{ on := 22, ground := Ground.guard }], guard := some (22, false) }) (v := .int .i64 k) rfl (by kernel_rfl) (by kernel_rfl) (by kernel_rfl) (fun _ _ _ h => h) (Or.inl ⟨by rfl, ?_⟩) (by with_reducible assumption) ?_
        · intro wx hSw
          (try dsimp only at hSw)
          first | (go_simp; done) | (go_simp; with_reducible rfl)
        try simp only [Act.put, List.setIfInBounds_toArray, List.set_cons_zero, List.set_cons_succ]
        have f2 := HK0.out
        refine wpAnyH_take (i := 24) (oi := { dst := some 62, op := Op.binOp BinOp.gtr 3 (Operand.tmp 61) (Operand.const (Value.int IntKind.i64 0)) 3, type := 4, pos := "ref.go:77", after := #[{ on := 23, ground := Ground.data }, { on := 22, ground := Ground.guard }], guard := some (22, false) }) (v := .bool false) rfl (by kernel_rfl) (by kernel_rfl) (by kernel_rfl) (fun _ _ _ h => h) (Or.inl ⟨by rfl, ?_⟩) (by with_reducible assumption) ?_
        · intro wx hSw
          (try dsimp only at hSw)
          first | (go_simp; done) | (go_simp; with_reducible rfl)
        try simp only [Act.put, List.setIfInBounds_toArray, List.set_cons_zero, List.set_cons_succ]
        clear f2
        refine wpAnyH_take (i := 25) (oi := { dst := some 63, op := Op.move (Operand.tmp 62), type := 4, pos := "ref.go:77", after := #[{ on := 24, ground := Ground.data }, { on := 22, ground := Ground.chain }, { on := 22, ground := Ground.guard }], guard := some (22, false) }) (v := .bool false) rfl (by kernel_rfl) (by kernel_rfl) (by kernel_rfl) (fun _ _ _ h => h) (Or.inl ⟨by rfl, ?_⟩) (by with_reducible assumption) ?_
        · intro wx hSw
          (try dsimp only at hSw)
          first | (go_simp; done) | (go_simp; with_reducible rfl)
        try simp only [Act.put, List.setIfInBounds_toArray, List.set_cons_zero, List.set_cons_succ]
        refine wpAnyH_take (i := 26) (oi := { dst := some 64, op := Op.fieldAddr 26 (Operand.tmp 1) 0, type := 0, pos := "ref.go:77", after := #[{ on := 25, ground := Ground.guard }], guard := some (25, true) }) (v := undef) rfl (by kernel_rfl) (by kernel_rfl) (by kernel_rfl) (fun _ _ _ h => h) (Or.inr ⟨by rfl, rfl⟩) (by with_reducible assumption) ?_
        try simp only [Act.put, List.setIfInBounds_toArray, List.set_cons_zero, List.set_cons_succ]
        refine wpAnyH_take (i := 27) (oi := { dst := some 65, op := Op.load 22 (Operand.tmp 64), type := 22, pos := "ref.go:77", after := #[{ on := 26, ground := Ground.data }, { on := 25, ground := Ground.guard }], guard := some (25, true) }) (v := undef) rfl (by kernel_rfl) (by kernel_rfl) (by kernel_rfl) (fun _ _ _ h => h) (Or.inr ⟨by rfl, rfl⟩) (by with_reducible assumption) ?_
        try simp only [Act.put, List.setIfInBounds_toArray, List.set_cons_zero, List.set_cons_succ]
        refine wpAnyH_take (i := 28) (oi := { dst := some 66, op := Op.move (Operand.tmp 3), type := 3, pos := "ref.go:77", after := #[{ on := 25, ground := Ground.guard }], guard := some (25, true) }) (v := undef) rfl (by kernel_rfl) (by kernel_rfl) (by kernel_rfl) (fun _ _ _ h => h) (Or.inr ⟨by rfl, rfl⟩) (by with_reducible assumption) ?_
        try simp only [Act.put, List.setIfInBounds_toArray, List.set_cons_zero, List.set_cons_succ]
        refine wpAnyH_take (i := 29) (oi := { dst := some 67, op := Op.binOp BinOp.sub 3 (Operand.tmp 66) (Operand.const (Value.int IntKind.i64 1)) 3, type := 3, pos := "ref.go:77", after := #[{ on := 28, ground := Ground.data }, { on := 25, ground := Ground.guard }], guard := some (25, true) }) (v := undef) rfl (by kernel_rfl) (by kernel_rfl) (by kernel_rfl) (fun _ _ _ h => h) (Or.inr ⟨by rfl, rfl⟩) (by with_reducible assumption) ?_
        try simp only [Act.put, List.setIfInBounds_toArray, List.set_cons_zero, List.set_cons_succ]
        refine wpAnyH_take (i := 30) (oi := { dst := some 68, op := Op.indexAddr 22 (Operand.tmp 65) (Operand.tmp 67), type := 0, pos := "ref.go:77", after := #[{ on := 27, ground := Ground.data }, { on := 29, ground := Ground.data }, { on := 25, ground := Ground.guard }], guard := some (25, true) }) (v := undef) rfl (by kernel_rfl) (by kernel_rfl) (by kernel_rfl) (fun _ _ _ h => h) (Or.inr ⟨by rfl, rfl⟩) (by with_reducible assumption) ?_
        try simp only [Act.put, List.setIfInBounds_toArray, List.set_cons_zero, List.set_cons_succ]
        refine wpAnyH_take (i := 31) (oi := { dst := some 69, op := Op.load 50 (Operand.tmp 68), type := 50, pos := "ref.go:77", after := #[{ on := 30, ground := Ground.data }, { on := 25, ground := Ground.guard }], guard := some (25, true) }) (v := undef) rfl (by kernel_rfl) (by kernel_rfl) (by kernel_rfl) (fun _ _ _ h => h) (Or.inr ⟨by rfl, rfl⟩) (by with_reducible assumption) ?_
        try simp only [Act.put, List.setIfInBounds_toArray, List.set_cons_zero, List.set_cons_succ]
        refine wpAnyH_take (i := 32) (oi := { dst := some 70, op := Op.load 50 (Operand.tmp 4), type := 50, pos := "ref.go:77", after := #[{ on := 25, ground := Ground.guard }], guard := some (25, true) }) (v := undef) rfl (by kernel_rfl) (by kernel_rfl) (by kernel_rfl) (fun _ _ _ h => h) (Or.inr ⟨by rfl, rfl⟩) (by with_reducible assumption) ?_
        try simp only [Act.put, List.setIfInBounds_toArray, List.set_cons_zero, List.set_cons_succ]
        refine wpAnyH_ready (rs := [33]) (by kernel_rfl) (by simp) ?_
        refine AllReadyH.cons rfl (fun K hK => ?_) AllReadyH.nil
        go_simp
        refine hK.out _ _ (by with_reducible assumption) (fun hHeld33 => ?_)
        clear hK K
        try simp only [Act.put, List.setIfInBounds_toArray, List.set_cons_zero, List.set_cons_succ]
        refine wpAnyH_take (i := 34) (oi := { dst := some 72, op := Op.unOp UnOp.not 4 (Operand.tmp 71), type := 4, pos := "ref.go:77", after := #[{ on := 33, ground := Ground.data }, { on := 25, ground := Ground.guard }], guard := some (25, true) }) (v := undef) rfl (by kernel_rfl) (by kernel_rfl) (by kernel_rfl) (fun _ _ _ h => h) (Or.inr ⟨by rfl, rfl⟩) (by with_reducible assumption) ?_
        try simp only [Act.put, List.setIfInBounds_toArray, List.set_cons_zero, List.set_cons_succ]
        refine wpAnyH_take (i := 35) (oi := { dst := some 73, op := Op.pick (Operand.tmp 63) (Operand.tmp 72) (Operand.const (Value.bool false)), type := 4, pos := "ref.go:77", after := #[{ on := 25, ground := Ground.data }, { on := 34, ground := Ground.data }, { on := 22, ground := Ground.guard }], guard := some (22, false) }) (v := .bool false) rfl (by kernel_rfl) (by kernel_rfl) (by kernel_rfl) (fun _ _ _ h => h) (Or.inl ⟨by rfl, ?_⟩) (by with_reducible assumption) ?_
        · intro wx hSw
          (try dsimp only at hSw)
          first | (go_simp; done) | (go_simp; with_reducible rfl)
        try simp only [Act.put, List.setIfInBounds_toArray, List.set_cons_zero, List.set_cons_succ]
        refine wpAnyH_take (i := 36) (oi := { dst := some 74, op := Op.pick (Operand.tmp 60) (Operand.const (Value.bool true)) (Operand.tmp 73), type := 4, pos := "ref.go:77", after := #[{ on := 22, ground := Ground.data }, { on := 35, ground := Ground.data }], guard := none }) (v := .bool false) rfl (by kernel_rfl) (by kernel_rfl) (by kernel_rfl) (fun _ _ _ h => h) (Or.inl ⟨by rfl, ?_⟩) (by with_reducible assumption) ?_
        · intro wx hSw
          (try dsimp only at hSw)
          first | (go_simp; done) | (go_simp; with_reducible rfl)
        try simp only [Act.put, List.setIfInBounds_toArray, List.set_cons_zero, List.set_cons_succ]
        refine wpAnyH_take (i := 37) (oi := { dst := some 75, op := Op.move (Operand.tmp 74), type := 4, pos := "ref.go:77", after := #[{ on := 36, ground := Ground.data }, { on := 33, ground := Ground.chain }], guard := none }) (v := .bool false) rfl (by kernel_rfl) (by kernel_rfl) (by kernel_rfl) (fun _ _ _ h => h) (Or.inl ⟨by rfl, ?_⟩) (by with_reducible assumption) ?_
        · intro wx hSw
          (try dsimp only at hSw)
          first | (go_simp; done) | (go_simp; with_reducible rfl)
        try simp only [Act.put, List.setIfInBounds_toArray, List.set_cons_zero, List.set_cons_succ]
        refine wpAnyH_take (i := 38) (oi := { dst := some 76, op := Op.load 26 (Operand.tmp 1), type := 26, pos := "ref.go:77", after := #[{ on := 37, ground := Ground.guard }], guard := some (37, false) }) (v := .agg #[.slice (some ⟨b, o, none⟩) n0 c0, .slice a1 n1 c1, .slice a2 n2 c2, .int .i64 L.ops]) rfl (by kernel_rfl) (by kernel_rfl) (by kernel_rfl) (fun _ _ _ h => h) (Or.inl ⟨by rfl, ?_⟩) (by with_reducible assumption) ?_
        · intro wx hSw
          (try dsimp only at hSw)
          first | (go_simp; done) | (go_simp; with_reducible rfl)
        try simp only [Act.put, List.setIfInBounds_toArray, List.set_cons_zero, List.set_cons_succ]
        refine wpAnyH_take (i := 39) (oi := { dst := some 77, op := Op.load 50 (Operand.tmp 4), type := 50, pos := "ref.go:77", after := #[{ on := 37, ground := Ground.guard }], guard := some (37, false) }) (v := .agg #[.string xs, .string xl, .int .i64 xo, .int .i64 xh]) rfl (by kernel_rfl) (by kernel_rfl) (by kernel_rfl) (fun _ _ _ h => h) (Or.inl ⟨by rfl, ?_⟩) (by with_reducible assumption) ?_
        · intro wx hSw
          (try dsimp only at hSw)
          first | (go_simp; done) | (go_simp; with_reducible rfl)
        try simp only [Act.put, List.setIfInBounds_toArray, List.set_cons_zero, List.set_cons_succ]
        refine wpAnyH_ready (rs := [40]) (by kernel_rfl) (by simp) ?_
        refine AllReadyH.cons rfl (fun K hK => ?_) AllReadyH.nil
        go_simp
        go_wp2_with (((with_reducible refine Calls.mono (HSM.out _ (by with_reducible assumption)) ?_); rintro e w140 ⟨rfl, hS40⟩))
        refine hK.out _ _ (by with_reducible assumption) (fun hHeld40 => ?_)
        clear hK K
        try simp only [Act.put, List.setIfInBounds_toArray, List.set_cons_zero, List.set_cons_succ]
        refine wpAnyH_take (i := 41) (oi := { dst := some 79, op := Op.unOp UnOp.not 4 (Operand.tmp 78), type := 4, pos := "ref.go:77", after := #[{ on := 40, ground := Ground.data }, { on := 37, ground := Ground.guard }], guard := some (37, false) }) (v := .bool false) rfl (by kernel_rfl) (by kernel_rfl) (by kernel_rfl) (fun _ _ _ h => h) (Or.inl ⟨by rfl, ?_⟩) (by with_reducible assumption) ?_
        · intro wx hSw
          (try dsimp only at hSw)
          first | (go_simp; done) | (go_simp; with_reducible rfl)
        try simp only [Act.put, List.setIfInBounds_toArray, List.set_cons_zero, List.set_cons_succ]
        refine wpAnyH_take (i := 42) (oi := { dst := some 80, op := Op.pick (Operand.tmp 75) (Operand.const (Value.bool true)) (Operand.tmp 79), type := 4, pos := "ref.go:77", after := #[{ on := 37, ground := Ground.data }, { on := 41, ground := Ground.data }], guard := none }) (v := .bool false) rfl (by kernel_rfl) (by kernel_rfl) (by kernel_rfl) (fun _ _ _ h => h) (Or.inl ⟨by rfl, ?_⟩) (by with_reducible assumption) ?_
        · intro wx hSw
          (try dsimp only at hSw)
          first | (go_simp; done) | (go_simp; with_reducible rfl)
        try simp only [Act.put, List.setIfInBounds_toArray, List.set_cons_zero, List.set_cons_succ]
        refine wpAnyH_done (by kernel_rfl) ?_ _
        (have HB3 : Hid (Below w.heap.size w w140 ∧ Below W.heap.size W w140) := ⟨Below.next HB.out hS40.1, hS40.1⟩)
        go_wp2_with fail
        go_roundw
        case rel => exact ⟨k + 1, by omega, by go_num, HB3.out, HE.out⟩
        case measure => simp [intOf]; omega
      · obtain ⟨j, rfl⟩ : ∃ j, k = j + 1 := ⟨k - 1, by omega⟩
        have hjl : j < L.S.length := by omega
        have hp := HPP.out j hjl
        obtain ⟨p, hpj⟩ : ∃ p, L.S[j] = p := ⟨_, rfl⟩
        rw [hpj] at hp
        have HP : Hid (L.S[j] = p) := hpj
        clear hpj
        obtain ⟨ps, pl, po, ph⟩ := p
        obtain ⟨p0, p1, p2, p3⟩ := hp
        dsimp only at p0 p1 p2 p3
        have q8 : cmpK ps pl xs xl = -1 := by
          have h1 := List.pairwise_iff_getElem.1 HMY.out.S.2 j (j + 1) hjl hkl (by omega)
          rw [HP.out, HX.out.1] at h1
          exact h1
        have HE : Hid ((∀ i (h : i < L.S.length), i < j + 1 + 1 → okS L.S[i] ∧ sumsP L L.S[i]) ∧ Rises (L.S.take (j + 1 + 1))) := ⟨fun i h q => by
              by_cases c : i = j + 1
              · subst c; rw [HX.out.1]; exact ⟨HOK.out, q9⟩
              · exact HV.out.1 i h (by omega), rises_snoc hkl HV.out.2 (fun q => by
                have h1 : L.S[j + 1 - 1] = ⟨ps, pl, po, ph⟩ := HP.out
                rw [h1, HX.out.1]
                exact q8)⟩
        have HS0 : Hid (Below W.heap.size W W2 ∧ W2.cell? ⟨w.heap.size, 0, none⟩ = some (.slice (some ⟨b, o, none⟩) n0 c0) ∧ W2.cell? ⟨w.heap.size, 1, none⟩ = some (.slice a1 n1 c1) ∧ W2.cell? ⟨w.heap.size, 2, none⟩ = some (.slice a2 n2 c2) ∧ W2.cell? ⟨w.heap.size, 3, none⟩ = some (.int .i64 L.ops) ∧ W2.cell? ⟨wr.heap.size, 0, none⟩ = some (.string xs) ∧ W2.cell? ⟨wr.heap.size, 1, none⟩ = some (.string xl) ∧ W2.cell? ⟨wr.heap.size, 2, none⟩ = some (.int .i64 xo) ∧ W2.cell? ⟨wr.heap.size, 3, none⟩ = some (.int .i64 xh) ∧ W2.cell? ⟨b, o + j * 4, none⟩ = some (.string ps) ∧ W2.cell? ⟨b, o + j * 4 + 1, none⟩ = some (.string pl) ∧ W2.cell? ⟨b, o + j * 4 + 2, none⟩ = some (.int .i64 po) ∧ W2.cell? ⟨b, o + j * 4 + 3, none⟩ = some (.int .i64 ph)) := ⟨HS0'.out.1, HS0'.out.2.1, HS0'.out.2.2.1, HS0'.out.2.2.2.1, HS0'.out.2.2.2.2.1, HS0'.out.2.2.2.2.2.1, HS0'.out.2.2.2.2.2.2.1, HS0'.out.2.2.2.2.2.2.2.1, HS0'.out.2.2.2.2.2.2.2.2, p0, p1, p2, p3⟩
        have HN : Hid (∀ w' w'' : World, (Below W.heap.size W w' ∧ w'.cell? ⟨w.heap.size, 0, none⟩ = some (.slice (some ⟨b, o, none⟩) n0 c0) ∧ w'.cell? ⟨w.heap.size, 1, none⟩ = some (.slice a1 n1 c1) ∧ w'.cell? ⟨w.heap.size, 2, none⟩ = some (.slice a2 n2 c2) ∧ w'.cell? ⟨w.heap.size, 3, none⟩ = some (.int .i64 L.ops) ∧ w'.cell? ⟨wr.heap.size, 0, none⟩ = some (.string xs) ∧ w'.cell? ⟨wr.heap.size, 1, none⟩ = some (.string xl) ∧ w'.cell? ⟨wr.heap.size, 2, none⟩ = some (.int .i64 xo) ∧ w'.cell? ⟨wr.heap.size, 3, none⟩ = some (.int .i64 xh) ∧ w'.cell? ⟨b, o + j * 4, none⟩ = some (.string ps) ∧ w'.cell? ⟨b, o + j * 4 + 1, none⟩ = some (.string pl) ∧ w'.cell? ⟨b, o + j * 4 + 2, none⟩ = some (.int .i64 po) ∧ w'.cell? ⟨b, o + j * 4 + 3, none⟩ = some (.int .i64 ph)) → Below w'.heap.size w' w'' → (Below W.heap.size W w'' ∧ w''.cell? ⟨w.heap.size, 0, none⟩ = some (.slice (some ⟨b, o, none⟩) n0 c0) ∧ w''.cell? ⟨w.heap.size, 1, none⟩ = some (.slice a1 n1 c1) ∧ w''.cell? ⟨w.heap.size, 2, none⟩ = some (.slice a2 n2 c2) ∧ w''.cell? ⟨w.heap.size, 3, none⟩ = some (.int .i64 L.ops) ∧ w''.cell? ⟨wr.heap.size, 0, none⟩ = some (.string xs) ∧ w''.cell? ⟨wr.heap.size, 1, none⟩ = some (.string xl) ∧ w''.cell? ⟨wr.heap.size, 2, none⟩ = some (.int .i64 xo) ∧ w''.cell? ⟨wr.heap.size, 3, none⟩ = some (.int .i64 xh) ∧ w''.cell? ⟨b, o + j * 4, none⟩ = some (.string ps) ∧ w''.cell? ⟨b, o + j * 4 + 1, none⟩ = some (.string pl) ∧ w''.cell? ⟨b, o + j * 4 + 2, none⟩ = some (.int .i64 po) ∧ w''.cell? ⟨b, o + j * 4 + 3, none⟩ = some (.int .i64 ph))) := fun w' w'' h q => by
          have b0 := (q.cell (p := ⟨w.heap.size, 0, none⟩) (World.block_lt_of_cell? w' _ (h.2.1))).trans (h.2.1)
          have b1 := (q.cell (p := ⟨w.heap.size, 1, none⟩) (World.block_lt_of_cell? w' _ (h.2.2.1))).trans (h.2.2.1)
          have b2 := (q.cell (p := ⟨w.heap.size, 2, none⟩) (World.block_lt_of_cell? w' _ (h.2.2.2.1))).trans (h.2.2.2.1)
          have b3 := (q.cell (p := ⟨w.heap.size, 3, none⟩) (World.block_lt_of_cell? w' _ (h.2.2.2.2.1))).trans (h.2.2.2.2.1)
          have b4 := (q.cell (p := ⟨wr.heap.size, 0, none⟩) (World.block_lt_of_cell? w' _ (h.2.2.2.2.2.1))).trans (h.2.2.2.2.2.1)
          have b5 := (q.cell (p := ⟨wr.heap.size, 1, none⟩) (World.block_lt_of_cell? w' _ (h.2.2.2.2.2.2.1))).trans (h.2.2.2.2.2.2.1)
          have b6 := (q.cell (p := ⟨wr.heap.size, 2, none⟩) (World.block_lt_of_cell? w' _ (h.2.2.2.2.2.2.2.1))).trans (h.2.2.2.2.2.2.2.1)
          have b7 := (q.cell (p := ⟨wr.heap.size, 3, none⟩) (World.block_lt_of_cell? w' _ (h.2.2.2.2.2.2.2.2.1))).trans (h.2.2.2.2.2.2.2.2.1)
          have b8 := (q.cell (p := ⟨b, o + j * 4, none⟩) (World.block_lt_of_cell? w' _ (h.2.2.2.2.2.2.2.2.2.1))).trans (h.2.2.2.2.2.2.2.2.2.1)
          have b9 := (q.cell (p := ⟨b, o + j * 4 + 1, none⟩) (World.block_lt_of_cell? w' _ (h.2.2.2.2.2.2.2.2.2.2.1))).trans (h.2.2.2.2.2.2.2.2.2.2.1)
          have b10 := (q.cell (p := ⟨b, o + j * 4 + 2, none⟩) (World.block_lt_of_cell? w' _ (h.2.2.2.2.2.2.2.2.2.2.2.1))).trans (h.2.2.2.2.2.2.2.2.2.2.2.1)
          have b11 := (q.cell (p := ⟨b, o + j * 4 + 3, none⟩) (World.block_lt_of_cell? w' _ (h.2.2.2.2.2.2.2.2.2.2.2.2))).trans (h.2.2.2.2.2.2.2.2.2.2.2.2)
          exact ⟨Below.next h.1 q, b0, b1, b2, b3, b4, b5, b6, b7, b8, b9, b10, b11⟩
        have HSD : Hid (∀ w', (Below W.heap.size W w' ∧ w'.cell? ⟨w.heap.size, 0, none⟩ = some (.slice (some ⟨b, o, none⟩) n0 c0) ∧ w'.cell? ⟨w.heap.size, 1, none⟩ = some (.slice a1 n1 c1) ∧ w'.cell? ⟨w.heap.size, 2, none⟩ = some (.slice a2 n2 c2) ∧ w'.cell? ⟨w.heap.size, 3, none⟩ = some (.int .i64 L.ops) ∧ w'.cell? ⟨wr.heap.size, 0, none⟩ = some (.string xs) ∧ w'.cell? ⟨wr.heap.size, 1, none⟩ = some (.string xl) ∧ w'.cell? ⟨wr.heap.size, 2, none⟩ = some (.int .i64 xo) ∧ w'.cell? ⟨wr.heap.size, 3, none⟩ = some (.int .i64 xh) ∧ w'.cell? ⟨b, o + j * 4, none⟩ = some (.string ps) ∧ w'.cell? ⟨b, o + j * 4 + 1, none⟩ = some (.string pl) ∧ w'.cell? ⟨b, o + j * 4 + 2, none⟩ = some (.int .i64 po) ∧ w'.cell? ⟨b, o + j * 4 + 3, none⟩ = some (.int .i64 ph)) → (Below W.heap.size W w'.drew ∧ w'.drew.cell? ⟨w.heap.size, 0, none⟩ = some (.slice (some ⟨b, o, none⟩) n0 c0) ∧ w'.drew.cell? ⟨w.heap.size, 1, none⟩ = some (.slice a1 n1 c1) ∧ w'.drew.cell? ⟨w.heap.size, 2, none⟩ = some (.slice a2 n2 c2) ∧ w'.drew.cell? ⟨w.heap.size, 3, none⟩ = some (.int .i64 L.ops) ∧ w'.drew.cell? ⟨wr.heap.size, 0, none⟩ = some (.string xs) ∧ w'.drew.cell? ⟨wr.heap.size, 1, none⟩ = some (.string xl) ∧ w'.drew.cell? ⟨wr.heap.size, 2, none⟩ = some (.int .i64 xo) ∧ w'.drew.cell? ⟨wr.heap.size, 3, none⟩ = some (.int .i64 xh) ∧ w'.drew.cell? ⟨b, o + j * 4, none⟩ = some (.string ps) ∧ w'.drew.cell? ⟨b, o + j * 4 + 1, none⟩ = some (.string pl) ∧ w'.drew.cell? ⟨b, o + j * 4 + 2, none⟩ = some (.int .i64 po) ∧ w'.drew.cell? ⟨b, o + j * 4 + 3, none⟩ = some (.int .i64 ph))) := fun w' h => HN.out w' w'.drew h (Below.refl _ _).drew
        have HN1 : Hid (∀ (w' : World), (Below W.heap.size W w' ∧ w'.cell? ⟨w.heap.size, 0, none⟩ = some (.slice (some ⟨b, o, none⟩) n0 c0) ∧ w'.cell? ⟨w.heap.size, 1, none⟩ = some (.slice a1 n1 c1) ∧ w'.cell? ⟨w.heap.size, 2, none⟩ = some (.slice a2 n2 c2) ∧ w'.cell? ⟨w.heap.size, 3, none⟩ = some (.int .i64 L.ops) ∧ w'.cell? ⟨wr.heap.size, 0, none⟩ = some (.string xs) ∧ w'.cell? ⟨wr.heap.size, 1, none⟩ = some (.string xl) ∧ w'.cell? ⟨wr.heap.size, 2, none⟩ = some (.int .i64 xo) ∧ w'.cell? ⟨wr.heap.size, 3, none⟩ = some (.int .i64 xh) ∧ w'.cell? ⟨b, o + j * 4, none⟩ = some (.string ps) ∧ w'.cell? ⟨b, o + j * 4 + 1, none⟩ = some (.string pl) ∧ w'.cell? ⟨b, o + j * 4 + 2, none⟩ = some (.int .i64 po) ∧ w'.cell? ⟨b, o + j * 4 + 3, none⟩ = some (.int .i64 ph)) → Calls Try.prog 31 #[.string xs] w' fun e w'' => e = .returned (.bool true) ∧ (Below W.heap.size W w'' ∧ w''.cell? ⟨w.heap.size, 0, none⟩ = some (.slice (some ⟨b, o, none⟩) n0 c0) ∧ w''.cell? ⟨w.heap.size, 1, none⟩ = some (.slice a1 n1 c1) ∧ w''.cell? ⟨w.heap.size, 2, none⟩ = some (.slice a2 n2 c2) ∧ w''.cell? ⟨w.heap.size, 3, none⟩ = some (.int .i64 L.ops) ∧ w''.cell? ⟨wr.heap.size, 0, none⟩ = some (.string xs) ∧ w''.cell? ⟨wr.heap.size, 1, none⟩ = some (.string xl) ∧ w''.cell? ⟨wr.heap.size, 2, none⟩ = some (.int .i64 xo) ∧ w''.cell? ⟨wr.heap.size, 3, none⟩ = some (.int .i64 xh) ∧ w''.cell? ⟨b, o + j * 4, none⟩ = some (.string ps) ∧ w''.cell? ⟨b, o + j * 4 + 1, none⟩ = some (.string pl) ∧ w''.cell? ⟨b, o + j * 4 + 2, none⟩ = some (.int .i64 po) ∧ w''.cell? ⟨b, o + j * 4 + 3, none⟩ = some (.int .i64 ph))) := fun w' hS => (refName_is xs w').mono (by
          rintro e w'' ⟨he, rfl⟩
          exact ⟨by rw [he, decide_eq_true q1], hS⟩)
        have HN2 : Hid (∀ (w' : World), (Below W.heap.size W w' ∧ w'.cell? ⟨w.heap.size, 0, none⟩ = some (.slice (some ⟨b, o, none⟩) n0 c0) ∧ w'.cell? ⟨w.heap.size, 1, none⟩ = some (.slice a1 n1 c1) ∧ w'.cell? ⟨w.heap.size, 2, none⟩ = some (.slice a2 n2 c2) ∧ w'.cell? ⟨w.heap.size, 3, none⟩ = some (.int .i64 L.ops) ∧ w'.cell? ⟨wr.heap.size, 0, none⟩ = some (.string xs) ∧ w'.cell? ⟨wr.heap.size, 1, none⟩ = some (.string xl) ∧ w'.cell? ⟨wr.heap.size, 2, none⟩ = some (.int .i64 xo) ∧ w'.cell? ⟨wr.heap.size, 3, none⟩ = some (.int .i64 xh) ∧ w'.cell? ⟨b, o + j * 4, none⟩ = some (.string ps) ∧ w'.cell? ⟨b, o + j * 4 + 1, none⟩ = some (.string pl) ∧ w'.cell? ⟨b, o + j * 4 + 2, none⟩ = some (.int .i64 po) ∧ w'.cell? ⟨b, o + j * 4 + 3, none⟩ = some (.int .i64 ph)) → Calls Try.prog 31 #[.string xl] w' fun e w'' => e = .returned (.bool true) ∧ (Below W.heap.size W w'' ∧ w''.cell? ⟨w.heap.size, 0, none⟩ = some (.slice (some ⟨b, o, none⟩) n0 c0) ∧ w''.cell? ⟨w.heap.size, 1, none⟩ = some (.slice a1 n1 c1) ∧ w''.cell? ⟨w.heap.size, 2, none⟩ = some (.slice a2 n2 c2) ∧ w''.cell? ⟨w.heap.size, 3, none⟩ = some (.int .i64 L.ops) ∧ w''.cell? ⟨wr.heap.size, 0, none⟩ = some (.string xs) ∧ w''.cell? ⟨wr.heap.size, 1, none⟩ = some (.string xl) ∧ w''.cell? ⟨wr.heap.size, 2, none⟩ = some (.int .i64 xo) ∧ w''.cell? ⟨wr.heap.size, 3, none⟩ = some (.int .i64 xh) ∧ w''.cell? ⟨b, o + j * 4, none⟩ = some (.string ps) ∧ w''.cell? ⟨b, o + j * 4 + 1, none⟩ = some (.string pl) ∧ w''.cell? ⟨b, o + j * 4 + 2, none⟩ = some (.int .i64 po) ∧ w''.cell? ⟨b, o + j * 4 + 3, none⟩ = some (.int .i64 ph))) := fun w' hS => (refName_is xl w').mono (by
          rintro e w'' ⟨he, rfl⟩
          exact ⟨by rw [he, decide_eq_true q2], hS⟩)
        have HAH : Hid (∀ (w' : World), (Below W.heap.size W w' ∧ w'.cell? ⟨w.heap.size, 0, none⟩ = some (.slice (some ⟨b, o, none⟩) n0 c0) ∧ w'.cell? ⟨w.heap.size, 1, none⟩ = some (.slice a1 n1 c1) ∧ w'.cell? ⟨w.heap.size, 2, none⟩ = some (.slice a2 n2 c2) ∧ w'.cell? ⟨w.heap.size, 3, none⟩ = some (.int .i64 L.ops) ∧ w'.cell? ⟨wr.heap.size, 0, none⟩ = some (.string xs) ∧ w'.cell? ⟨wr.heap.size, 1, none⟩ = some (.string xl) ∧ w'.cell? ⟨wr.heap.size, 2, none⟩ = some (.int .i64 xo) ∧ w'.cell? ⟨wr.heap.size, 3, none⟩ = some (.int .i64 xh) ∧ w'.cell? ⟨b, o + j * 4, none⟩ = some (.string ps) ∧ w'.cell? ⟨b, o + j * 4 + 1, none⟩ = some (.string pl) ∧ w'.cell? ⟨b, o + j * 4 + 2, none⟩ = some (.int .i64 po) ∧ w'.cell? ⟨b, o + j * 4 + 3, none⟩ = some (.int .i64 ph)) → Calls Try.prog 32 #[.agg #[.string ps, .string pl, .int .i64 po, .int .i64 ph], .agg #[.string xs, .string xl, .int .i64 xo, .int .i64 xh]] w' fun e w'' => e = .returned (.bool true) ∧ (Below W.heap.size W w'' ∧ w''.cell? ⟨w.heap.size, 0, none⟩ = some (.slice (some ⟨b, o, none⟩) n0 c0) ∧ w''.cell? ⟨w.heap.size, 1, none⟩ = some (.slice a1 n1 c1) ∧ w''.cell? ⟨w.heap.size, 2, none⟩ = some (.slice a2 n2 c2) ∧ w''.cell? ⟨w.heap.size, 3, none⟩ = some (.int .i64 L.ops) ∧ w''.cell? ⟨wr.heap.size, 0, none⟩ = some (.string xs) ∧ w''.cell? ⟨wr.heap.size, 1, none⟩ = some (.string xl) ∧ w''.cell? ⟨wr.heap.size, 2, none⟩ = some (.int .i64 xo) ∧ w''.cell? ⟨wr.heap.size, 3, none⟩ = some (.int .i64 xh) ∧ w''.cell? ⟨b, o + j * 4, none⟩ = some (.string ps) ∧ w''.cell? ⟨b, o + j * 4 + 1, none⟩ = some (.string pl) ∧ w''.cell? ⟨b, o + j * 4 + 2, none⟩ = some (.int .i64 po) ∧ w''.cell? ⟨b, o + j * 4 + 3, none⟩ = some (.int .i64 ph))) := fun w' hS => (ahead_is ⟨ps, pl, po, ph⟩ ⟨xs, xl, xo, xh⟩ w').mono (by
          rintro e w'' ⟨he, hb⟩
          exact ⟨by rw [he]; exact congrArg (fun x => Ending.returned (Value.bool x)) (decide_eq_true q8), HN.out _ _ hS hb⟩)
        have HSM : Hid (∀ (w' : World), (Below W.heap.size W w' ∧ w'.cell? ⟨w.heap.size, 0, none⟩ = some (.slice (some ⟨b, o, none⟩) n0 c0) ∧ w'.cell? ⟨w.heap.size, 1, none⟩ = some (.slice a1 n1 c1) ∧ w'.cell? ⟨w.heap.size, 2, none⟩ = some (.slice a2 n2 c2) ∧ w'.cell? ⟨w.heap.size, 3, none⟩ = some (.int .i64 L.ops) ∧ w'.cell? ⟨wr.heap.size, 0, none⟩ = some (.string xs) ∧ w'.cell? ⟨wr.heap.size, 1, none⟩ = some (.string xl) ∧ w'.cell? ⟨wr.heap.size, 2, none⟩ = some (.int .i64 xo) ∧ w'.cell? ⟨wr.heap.size, 3, none⟩ = some (.int .i64 xh) ∧ w'.cell? ⟨b, o + j * 4, none⟩ = some (.string ps) ∧ w'.cell? ⟨b, o + j * 4 + 1, none⟩ = some (.string pl) ∧ w'.cell? ⟨b, o + j * 4 + 2, none⟩ = some (.int .i64 po) ∧ w'.cell? ⟨b, o + j * 4 + 3, none⟩ = some (.int .i64 ph)) → Calls Try.prog 33 #[.agg #[.slice (some ⟨b, o, none⟩) n0 c0, .slice a1 n1 c1, .slice a2 n2 c2, .int .i64 L.ops], .agg #[.string xs, .string xl, .int .i64 xo, .int .i64 xh]] w' fun e w'' => e = .returned (.bool true) ∧ (Below W.heap.size W w'' ∧ w''.cell? ⟨w.heap.size, 0, none⟩ = some (.slice (some ⟨b, o, none⟩) n0 c0) ∧ w''.cell? ⟨w.heap.size, 1, none⟩ = some (.slice a1 n1 c1) ∧ w''.cell? ⟨w.heap.size, 2, none⟩ = some (.slice a2 n2 c2) ∧ w''.cell? ⟨w.heap.size, 3, none⟩ = some (.int .i64 L.ops) ∧ w''.cell? ⟨wr.heap.size, 0, none⟩ = some (.string xs) ∧ w''.cell? ⟨wr.heap.size, 1, none⟩ = some (.string xl) ∧ w''.cell? ⟨wr.heap.size, 2, none⟩ = some (.int .i64 xo) ∧ w''.cell? ⟨wr.heap.size, 3, none⟩ = some (.int .i64 xh) ∧ w''.cell? ⟨b, o + j * 4, none⟩ = some (.string ps) ∧ w''.cell? ⟨b, o + j * 4 + 1, none⟩ = some (.string pl) ∧ w''.cell? ⟨b, o + j * 4 + 2, none⟩ = some (.int .i64 po) ∧ w''.cell? ⟨b, o + j * 4 + 3, none⟩ = some (.int .i64 ph))) := fun w' hS => (HSUM.out w' (Below.next HB.out hS.1)).mono (by
          rintro e w'' ⟨he, hb⟩
          exact ⟨by rw [he]; exact congrArg (fun x => Ending.returned (Value.bool x)) (decide_eq_true q9), HN.out _ _ hS hb⟩)
        clear l1 l2 l3
        clear HN
        go_wp2_with fail
        have hS0 := HS0.out
        have HF0 : Hid (¬ xh < 0) := by have := HOK.out.2.2.1; dsimp only at this; show ¬ _; omega
        have HF1 : Hid (¬ xo < xh) := by have := HOK.out.2.2.2; dsimp only at this; show ¬ _; omega
        have d2 : (0 : Int) < (j : Int) + 1 := by omega
        have d3 : (j : Int) < (n0 : Int) := by omega
        have d4 : IntKind.i64.wrap (j : Int) = (j : Int) := by rw [IntKind.wrap_i64]; omega
        have d5 : IntKind.i64.wrap ((j : Int) + 1 - 1) = (j : Int) := by rw [IntKind.wrap_i64]; omega
        have d6 : ¬ ((j : Int) < 0) := by omega
        have d7 : j < n0 := by omega
        have d8 : ((j + 1 : Nat) : Int) - 1 = (j : Int) := by omega
        have HD2 : Hid ((0 : Int) < (j : Int) + 1) := d2
        have HD3 : Hid ((j : Int) < (n0 : Int)) := d3
        have HD4 : Hid (IntKind.i64.wrap (j : Int) = (j : Int)) := d4
        have HD5 : Hid (IntKind.i64.wrap ((j : Int) + 1 - 1) = (j : Int)) := d5
        have HD6 : Hid (¬ ((j : Int) < 0)) := d6
        have HD7 : Hid (j < n0) := d7
        have HD8 : Hid (((j + 1 : Nat) : Int) - 1 = (j : Int)) := d8
        clear d2 d3 d4 d5 d6 d7 d8
        refine wp_region_held_drew (S := (fun (w' : World) => (Below W.heap.size W w' ∧ w'.cell? ⟨w.heap.size, 0, none⟩ = some (.slice (some ⟨b, o, none⟩) n0 c0) ∧ w'.cell? ⟨w.heap.size, 1, none⟩ = some (.slice a1 n1 c1) ∧ w'.cell? ⟨w.heap.size, 2, none⟩ = some (.slice a2 n2 c2) ∧ w'.cell? ⟨w.heap.size, 3, none⟩ = some (.int .i64 L.ops) ∧ w'.cell? ⟨wr.heap.size, 0, none⟩ = some (.string xs) ∧ w'.cell? ⟨wr.heap.size, 1, none⟩ = some (.string xl) ∧ w'.cell? ⟨wr.heap.size, 2, none⟩ = some (.int .i64 xo) ∧ w'.cell? ⟨wr.heap.size, 3, none⟩ = some (.int .i64 xh) ∧ w'.cell? ⟨b, o + j * 4, none⟩ = some (.string ps) ∧ w'.cell? ⟨b, o + j * 4 + 1, none⟩ = some (.string pl) ∧ w'.cell? ⟨b, o + j * 4 + 2, none⟩ = some (.int .i64 po) ∧ w'.cell? ⟨b, o + j * 4 + 3, none⟩ = some (.int .i64 ph)))) (by kernel_rfl) (HSD.out _ HS0.out) (fun hHeld => ?_)
        refine wpAnyH_take (i := 0) (oi := { dst := some 38, op := Op.fieldAddr 50 (Operand.tmp 4) 0, type := 0, pos := "ref.go:77", after := #[], guard := none }) (v := .pointer (some ⟨wr.heap.size, 0, none⟩)) rfl (by kernel_rfl) (by kernel_rfl) (by kernel_rfl) (fun _ _ _ h => h) (Or.inl ⟨by rfl, ?_⟩) (by with_reducible assumption) ?_
        · intro wx hSw
          (try dsimp only at hSw)
          first | (go_simp; done) | (go_simp; with_reducible rfl)
        try simp only [Act.put, List.setIfInBounds_toArray, List.set_cons_zero, List.set_cons_succ]
        refine wpAnyH_take (i := 1) (oi := { dst := some 39, op := Op.load 9 (Operand.tmp 38), type := 9, pos := "ref.go:77", after := #[{ on := 0, ground := Ground.data }], guard := none }) (v := .string xs) rfl (by kernel_rfl) (by kernel_rfl) (by kernel_rfl) (fun _ _ _ h => h) (Or.inl ⟨by rfl, ?_⟩) (by with_reducible assumption) ?_
        · intro wx hSw
          (try dsimp only at hSw)
          first | (go_simp; done) | (go_simp; with_reducible rfl)
        try simp only [Act.put, List.setIfInBounds_toArray, List.set_cons_zero, List.set_cons_succ]
        refine wpAnyH_ready (rs := [2]) (by kernel_rfl) (by simp) ?_
        refine AllReadyH.cons rfl (fun K hK => ?_) AllReadyH.nil
        go_simp
        go_wp2_with (((with_reducible refine Calls.mono (HN1.out _ (by with_reducible assumption)) ?_); rintro e w102 ⟨rfl, hS2⟩))
        refine hK.out _ _ (by with_reducible assumption) (fun hHeld2 => ?_)
        clear hK K
        try simp only [Act.put, List.setIfInBounds_toArray, List.set_cons_zero, List.set_cons_succ]
        refine wpAnyH_take (i := 3) (oi := { dst := some 41, op := Op.unOp UnOp.not 4 (Operand.tmp 40), type := 4, pos := "ref.go:77", after := #[{ on := 2, ground := Ground.data }], guard := none }) (v := .bool false) rfl (by kernel_rfl) (by kernel_rfl) (by kernel_rfl) (fun _ _ _ h => h) (Or.inl ⟨by rfl, ?_⟩) (by with_reducible assumption) ?_
        · intro wx hSw
          (try dsimp only at hSw)
          first | (go_simp; done) | (go_simp; with_reducible rfl)
        try simp only [Act.put, List.setIfInBounds_toArray, List.set_cons_zero, List.set_cons_succ]
        refine wpAnyH_take (i := 4) (oi := { dst := some 42, op := Op.move (Operand.tmp 41), type := 4, pos := "ref.go:77", after := #[{ on := 3, ground := Ground.data }, { on := 2, ground := Ground.chain }], guard := none }) (v := .bool false) rfl (by kernel_rfl) (by kernel_rfl) (by kernel_rfl) (fun _ _ _ h => h) (Or.inl ⟨by rfl, ?_⟩) (by with_reducible assumption) ?_
        · intro wx hSw
          (try dsimp only at hSw)
          first | (go_simp; done) | (go_simp; with_reducible rfl)
        try simp only [Act.put, List.setIfInBounds_toArray, List.set_cons_zero, List.set_cons_succ]
        refine wpAnyH_take (i := 5) (oi := { dst := some 43, op := Op.fieldAddr 50 (Operand.tmp 4) 1, type := 0, pos := "ref.go:77", after := #[{ on := 4, ground := Ground.guard }], guard := some (4, false) }) (v := .pointer (some ⟨wr.heap.size, 1, none⟩)) rfl (by kernel_rfl) (by kernel_rfl) (by kernel_rfl) (fun _ _ _ h => h) (Or.inl ⟨by rfl, ?_⟩) (by with_reducible assumption) ?_
        · intro wx hSw
          (try dsimp only at hSw)
          first | (go_simp; done) | (go_simp; with_reducible rfl)
        try simp only [Act.put, List.setIfInBounds_toArray, List.set_cons_zero, List.set_cons_succ]
        refine wpAnyH_take (i := 6) (oi := { dst := some 44, op := Op.load 9 (Operand.tmp 43), type := 9, pos := "ref.go:77", after := #[{ on := 5, ground := Ground.data }, { on := 4, ground := Ground.guard }], guard := some (4, false) }) (v := .string xl) rfl (by kernel_rfl) (by kernel_rfl) (by kernel_rfl) (fun _ _ _ h => h) (Or.inl ⟨by rfl, ?_⟩) (by with_reducible assumption) ?_
        · intro wx hSw
          (try dsimp only at hSw)
          first | (go_simp; done) | (go_simp; with_reducible rfl)
        try simp only [Act.put, List.setIfInBounds_toArray, List.set_cons_zero, List.set_cons_succ]
        refine wpAnyH_ready (rs := [7]) (by kernel_rfl) (by simp) ?_
        refine AllReadyH.cons rfl (fun K hK => ?_) AllReadyH.nil
        go_simp
        go_wp2_with (((with_reducible refine Calls.mono (HN2.out _ (by with_reducible assumption)) ?_); rintro e w107 ⟨rfl, hS7⟩))
        refine hK.out _ _ (by with_reducible assumption) (fun hHeld7 => ?_)
        clear hK K
        try simp only [Act.put, List.setIfInBounds_toArray, List.set_cons_zero, List.set_cons_succ]
        refine wpAnyH_take (i := 8) (oi := { dst := some 46, op := Op.unOp UnOp.not 4 (Operand.tmp 45), type := 4, pos := "ref.go:77", after := #[{ on := 7, ground := Ground.data }, { on := 4, ground := Ground.guard }], guard := some (4, false) }) (v := .bool false) rfl (by kernel_rfl) (by kernel_rfl) (by kernel_rfl) (fun _ _ _ h => h) (Or.inl ⟨by rfl, ?_⟩) (by with_reducible assumption) ?_
        · intro wx hSw
          (try dsimp only at hSw)
          first | (go_simp; done) | (go_simp; with_reducible rfl)
        try simp only [Act.put, List.setIfInBounds_toArray, List.set_cons_zero, List.set_cons_succ]
        refine wpAnyH_take (i := 9) (oi := { dst := some 47, op := Op.pick (Operand.tmp 42) (Operand.const (Value.bool true)) (Operand.tmp 46), type := 4, pos := "ref.go:77", after := #[{ on := 4, ground := Ground.data }, { on := 8, ground := Ground.data }], guard := none }) (v := .bool false) rfl (by kernel_rfl) (by kernel_rfl) (by kernel_rfl) (fun _ _ _ h => h) (Or.inl ⟨by rfl, ?_⟩) (by with_reducible assumption) ?_
        · intro wx hSw
          (try dsimp only at hSw)
          first | (go_simp; done) | (go_simp; with_reducible rfl)
        try simp only [Act.put, List.setIfInBounds_toArray, List.set_cons_zero, List.set_cons_succ]
        refine wpAnyH_take (i := 10) (oi := { dst := some 48, op := Op.move (Operand.tmp 47), type := 4, pos := "ref.go:77", after := #[{ on := 9, ground := Ground.data }, { on := 7, ground := Ground.chain }], guard := none }) (v := .bool false) rfl (by kernel_rfl) (by kernel_rfl) (by kernel_rfl) (fun _ _ _ h => h) (Or.inl ⟨by rfl, ?_⟩) (by with_reducible assumption) ?_
        · intro wx hSw
          (try dsimp only at hSw)
          first | (go_simp; done) | (go_simp; with_reducible rfl)
        try simp only [Act.put, List.setIfInBounds_toArray, List.set_cons_zero, List.set_cons_succ]
        refine wpAnyH_take (i := 11) (oi := { dst := some 49, op := Op.fieldAddr 50 (Operand.tmp 4) 3, type := 0, pos := "ref.go:77", after := #[{ on := 10, ground := Ground.guard }], guard := some (10, false) }) (v := .pointer (some ⟨wr.heap.size, 3, none⟩)) rfl (by kernel_rfl) (by kernel_rfl) (by kernel_rfl) (fun _ _ _ h => h) (Or.inl ⟨by rfl, ?_⟩) (by with_reducible assumption) ?_
        · intro wx hSw
          (try dsimp only at hSw)
          first | (go_simp; done) | (go_simp; with_reducible rfl)
        try simp only [Act.put, List.setIfInBounds_toArray, List.set_cons_zero, List.set_cons_succ]
        refine wpAnyH_take (i := 12) (oi := { dst := some 50, op := Op.load 3 (Operand.tmp 49), type := 3, pos := "ref.go:77", after := #[{ on := 11, ground := Ground.data }, { on := 10, ground := Ground.guard }], guard := some (10, false) }) (v := .int .i64 xh) rfl (by kernel_rfl) (by kernel_rfl) (by kernel_rfl) (fun _ _ _ h => h) (Or.inl ⟨by rfl, ?_⟩) (by with_reducible assumption) ?_
        · intro wx hSw
          (try dsimp only at hSw)
          first | (go_simp; done) | (go_simp; with_reducible rfl)
        try simp only [Act.put, List.setIfInBounds_toArray, List.set_cons_zero, List.set_cons_succ]
        have f0 := HF0.out
        refine wpAnyH_take (i := 13) (oi := { dst := some 51, op := Op.binOp BinOp.lss 3 (Operand.tmp 50) (Operand.const (Value.int IntKind.i64 0)) 3, type := 4, pos := "ref.go:77", after := #[{ on := 12, ground := Ground.data }, { on := 10, ground := Ground.guard }], guard := some (10, false) }) (v := .bool false) rfl (by kernel_rfl) (by kernel_rfl) (by kernel_rfl) (fun _ _ _ h => h) (Or.inl ⟨by rfl, ?_⟩) (by with_reducible assumption) ?_
        · intro wx hSw
          (try dsimp only at hSw)
          first | (go_simp; done) | (go_simp; with_reducible rfl)
        try simp only [Act.put, List.setIfInBounds_toArray, List.set_cons_zero, List.set_cons_succ]
        clear f0
        refine wpAnyH_take (i := 14) (oi := { dst := some 52, op := Op.pick (Operand.tmp 48) (Operand.const (Value.bool true)) (Operand.tmp 51), type := 4, pos := "ref.go:77", after := #[{ on := 10, ground := Ground.data }, { on := 13, ground := Ground.data }], guard := none }) (v := .bool false) rfl (by kernel_rfl) (by kernel_rfl) (by kernel_rfl) (fun _ _ _ h => h) (Or.inl ⟨by rfl, ?_⟩) (by with_reducible assumption) ?_
        · intro wx hSw
          (try dsimp only at hSw)
          first | (go_simp; done) | (go_simp; with_reducible rfl)
        try simp only [Act.put, List.setIfInBounds_toArray, List.set_cons_zero, List.set_cons_succ]
        refine wpAnyH_take (i := 15) (oi := { dst := some 53, op := Op.move (Operand.tmp 52), type := 4, pos := "ref.go:77", after := #[{ on := 14, ground := Ground.data }, { on := 10, ground := Ground.chain }], guard := none }) (v := .bool false) rfl (by kernel_rfl) (by kernel_rfl) (by kernel_rfl) (fun _ _ _ h => h) (Or.inl ⟨by rfl, ?_⟩) (by with_reducible assumption) ?_
        · intro wx hSw
          (try dsimp only at hSw)
          first | (go_simp; done) | (go_simp; with_reducible rfl)
        try simp only [Act.put, List.setIfInBounds_toArray, List.set_cons_zero, List.set_cons_succ]
        refine wpAnyH_take (i := 16) (oi := { dst := some 54, op := Op.fieldAddr 50 (Operand.tmp 4) 3, type := 0, pos := "ref.go:77", after := #[{ on := 15, ground := Ground.guard }], guard := some (15, false) }) (v := .pointer (some ⟨wr.heap.size, 3, none⟩)) rfl (by kernel_rfl) (by kernel_rfl) (by kernel_rfl) (fun _ _ _ h => h) (Or.inl ⟨by rfl, ?_⟩) (by with_reducible assumption) ?_
        · intro wx hSw
          (try dsimp only at hSw)
          first | (go_simp; done) | (go_simp; with_reducible rfl)
        try simp only [Act.put, List.setIfInBounds_toArray, List.set_cons_zero, List.set_cons_succ]
        refine wpAnyH_take (i := 17) (oi := { dst := some 55, op := Op.load 3 (Operand.tmp 54), type := 3, pos := "ref.go:77", after := #[{ on := 16, ground := Ground.data }, { on := 15, ground := Ground.guard }], guard := some (15, false) }) (v := .int .i64 xh) rfl (by kernel_rfl) (by kernel_rfl) (by kernel_rfl) (fun _ _ _ h => h) (Or.inl ⟨by rfl, ?_⟩) (by with_reducible assumption) ?_
        · intro wx hSw
          (try dsimp only at hSw)
          first | (go_simp; done) | (go_simp; with_reducible rfl)
        try simp only [Act.put, List.setIfInBounds_toArray, List.set_cons_zero, List.set_cons_succ]
        refine wpAnyH_take (i := 18) (oi := { dst := some 56, op := Op.fieldAddr 50 (Operand.tmp 4) 2, type := 0, pos := "ref.go:77", after := #[{ on := 15, ground := Ground.guard }], guard := some (15, false) }) (v := .pointer (some ⟨wr.heap.size, 2, none⟩)) rfl (by kernel_rfl) (by kernel_rfl) (by kernel_rfl) (fun _ _ _ h => h) (Or.inl ⟨by rfl, ?_⟩) (by with_reducible assumption) ?_
        · intro wx hSw
          (try dsimp only at hSw)
          first | (go_simp; done) | (go_simp; with_reducible rfl)
        try simp only [Act.put, List.setIfInBounds_toArray, List.set_cons_zero, List.set_cons_succ]
        refine wpAnyH_take (i := 19) (oi := { dst := some 57, op := Op.load 3 (Operand.tmp 56), type := 3, pos := "ref.go:77", after := #[{ on := 18, ground := Ground.data }, { on := 15, ground := Ground.guard }], guard := some (15, false) }) (v := .int .i64 xo) rfl (by kernel_rfl) (by kernel_rfl) (by kernel_rfl) (fun _ _ _ h => h) (Or.inl ⟨by rfl, ?_⟩) (by with_reducible assumption) ?_
        · intro wx hSw
          (try dsimp only at hSw)
          first | (go_simp; done) | (go_simp; with_reducible rfl)
        try simp only [Act.put, List.setIfInBounds_toArray, List.set_cons_zero, List.set_cons_succ]
        have f1 := HF1.out
        refine wpAnyH_take (i := 20) (oi := { dst := some 58, op := Op.binOp BinOp.gtr 3 (Operand.tmp 55) (Operand.tmp 57) 3, type := 4, pos := "ref.go:77", after := #[{ on := 17, ground := Ground.data }, { on := 19, ground := Ground.data }, { on := 15, ground := Ground.guard }], guard := some (15, false) }) (v := .bool false) rfl (by kernel_rfl) (by kernel_rfl) (by kernel_rfl) (fun _ _ _ h => h) (Or.inl ⟨by rfl, ?_⟩) (by with_reducible assumption) ?_
        · intro wx hSw
          (try dsimp only at hSw)
          first | (go_simp; done) | (go_simp; with_reducible rfl)
        try simp only [Act.put, List.setIfInBounds_toArray, List.set_cons_zero, List.set_cons_succ]
        clear f1
        refine wpAnyH_take (i := 21) (oi := { dst := some 59, op := Op.pick (Operand.tmp 53) (Operand.const (Value.bool true)) (Operand.tmp 58), type := 4, pos := "ref.go:77", after := #[{ on := 15, ground := Ground.data }, { on := 20, ground := Ground.data }], guard := none }) (v := .bool false) rfl (by kernel_rfl) (by kernel_rfl) (by kernel_rfl) (fun _ _ _ h => h) (Or.inl ⟨by rfl, ?_⟩) (by with_reducible assumption) ?_
        · intro wx hSw
          (try dsimp only at hSw)
          first | (go_simp; done) | (go_simp; with_reducible rfl)
        try simp only [Act.put, List.setIfInBounds_toArray, List.set_cons_zero, List.set_cons_succ]
        refine wpAnyH_take (i := 22) (oi := { dst := some 60, op := Op.move (Operand.tmp 59), type := 4, pos := "ref.go:77", after := #[{ on := 21, ground := Ground.data }, { on := 15, ground := Ground.chain }], guard := none }) (v := .bool false) rfl (by kernel_rfl) (by kernel_rfl) (by kernel_rfl) (fun _ _ _ h => h) (Or.inl ⟨by rfl, ?_⟩) (by with_reducible assumption) ?_
        · intro wx hSw
          (try dsimp only at hSw)
          first | (go_simp; done) | (go_simp; with_reducible rfl)
        try simp only [Act.put, List.setIfInBounds_toArray, List.set_cons_zero, List.set_cons_succ]
        refine wpAnyH_take (i := 23) (oi := { dst := some 61, op := Op.move (Operand.tmp 3), type := 3, pos := "ref.go:77", after := #[{ on := 22, ground := Ground.guard }], guard := some (22, false) }) (v := .int .i64 ((j : Int) + 1)) rfl (by kernel_rfl) (by kernel_rfl) (by kernel_rfl) (fun _ _ _ h => h) (Or.inl ⟨by rfl, ?_⟩) (by with_reducible assumption) ?_
        · intro wx hSw
          (try dsimp only at hSw)
          first | (go_simp; done) | (go_simp; with_reducible rfl)
        try simp only [Act.put, List.setIfInBounds_toArray, List.set_cons_zero, List.set_cons_succ]
        have e2 := HD2.out
        refine wpAnyH_take (i := 24) (oi := { dst := some 62, op := Op.binOp BinOp.gtr 3 (Operand.tmp 61) (Operand.const (Value.int IntKind.i64 0)) 3, type := 4, pos := "ref.go:77", after := #[{ on := 23, ground := Ground.data }, { on := 22, ground := Ground.guard }], guard := some (22, false) }) (v := .bool true) rfl (by kernel_rfl) (by kernel_rfl) (by kernel_rfl) (fun _ _ _ h => h) (Or.inl ⟨by rfl, ?_⟩) (by with_reducible assumption) ?_
        · intro wx hSw
          (try dsimp only at hSw)
          first | (go_simp; done) | (go_simp; with_reducible rfl)
        try simp only [Act.put, List.setIfInBounds_toArray, List.set_cons_zero, List.set_cons_succ]
        clear e2
        refine wpAnyH_take (i := 25) (oi := { dst := some 63, op := Op.move (Operand.tmp 62), type := 4, pos := "ref.go:77", after := #[{ on := 24, ground := Ground.data }, { on := 22, ground := Ground.chain }, { on := 22, ground := Ground.guard }], guard := some (22, false) }) (v := .bool true) rfl (by kernel_rfl) (by kernel_rfl) (by kernel_rfl) (fun _ _ _ h => h) (Or.inl ⟨by rfl, ?_⟩) (by with_reducible assumption) ?_
        · intro wx hSw
          (try dsimp only at hSw)
          first | (go_simp; done) | (go_simp; with_reducible rfl)
        try simp only [Act.put, List.setIfInBounds_toArray, List.set_cons_zero, List.set_cons_succ]
        refine wpAnyH_take (i := 26) (oi := { dst := some 64, op := Op.fieldAddr 26 (Operand.tmp 1) 0, type := 0, pos := "ref.go:77", after := #[{ on := 25, ground := Ground.guard }], guard := some (25, true) }) (v := .pointer (some ⟨w.heap.size, 0, none⟩)) rfl (by kernel_rfl) (by kernel_rfl) (by kernel_rfl) (fun _ _ _ h => h) (Or.inl ⟨by rfl, ?_⟩) (by with_reducible assumption) ?_
        · intro wx hSw
          (try dsimp only at hSw)
          first | (go_simp; done) | (go_simp; with_reducible rfl)
        try simp only [Act.put, List.setIfInBounds_toArray, List.set_cons_zero, List.set_cons_succ]
        refine wpAnyH_take (i := 27) (oi := { dst := some 65, op := Op.load 22 (Operand.tmp 64), type := 22, pos := "ref.go:77", after := #[{ on := 26, ground := Ground.data }, { on := 25, ground := Ground.guard }], guard := some (25, true) }) (v := .slice (some ⟨b, o, none⟩) n0 c0) rfl (by kernel_rfl) (by kernel_rfl) (by kernel_rfl) (fun _ _ _ h => h) (Or.inl ⟨by rfl, ?_⟩) (by with_reducible assumption) ?_
        · intro wx hSw
          (try dsimp only at hSw)
          first | (go_simp; done) | (go_simp; with_reducible rfl)
        try simp only [Act.put, List.setIfInBounds_toArray, List.set_cons_zero, List.set_cons_succ]
        refine wpAnyH_take (i := 28) (oi := { dst := some 66, op := Op.move (Operand.tmp 3), type := 3, pos := "ref.go:77", after := #[{ on := 25, ground := Ground.guard }], guard := some (25, true) }) (v := .int .i64 ((j : Int) + 1)) rfl (by kernel_rfl) (by kernel_rfl) (by kernel_rfl) (fun _ _ _ h => h) (Or.inl ⟨by rfl, ?_⟩) (by with_reducible assumption) ?_
        · intro wx hSw
          (try dsimp only at hSw)
          first | (go_simp; done) | (go_simp; with_reducible rfl)
        try simp only [Act.put, List.setIfInBounds_toArray, List.set_cons_zero, List.set_cons_succ]
        have e4 := HD4.out
        have e5 := HD5.out
        refine wpAnyH_take (i := 29) (oi := { dst := some 67, op := Op.binOp BinOp.sub 3 (Operand.tmp 66) (Operand.const (Value.int IntKind.i64 1)) 3, type := 3, pos := "ref.go:77", after := #[{ on := 28, ground := Ground.data }, { on := 25, ground := Ground.guard }], guard := some (25, true) }) (v := .int .i64 j) rfl (by kernel_rfl) (by kernel_rfl) (by kernel_rfl) (fun _ _ _ h => h) (Or.inl ⟨by rfl, ?_⟩) (by with_reducible assumption) ?_
        · intro wx hSw
          (try dsimp only at hSw)
          first | (go_simp; done) | (go_simp; with_reducible rfl)
        try simp only [Act.put, List.setIfInBounds_toArray, List.set_cons_zero, List.set_cons_succ]
        clear e4
        clear e5
        have e3 := HD3.out
        have e6 := HD6.out
        have e7 := HD7.out
        refine wpAnyH_take (i := 30) (oi := { dst := some 68, op := Op.indexAddr 22 (Operand.tmp 65) (Operand.tmp 67), type := 0, pos := "ref.go:77", after := #[{ on := 27, ground := Ground.data }, { on := 29, ground := Ground.data }, { on := 25, ground := Ground.guard }], guard := some (25, true) }) (v := .pointer (some ⟨b, o + j * 4, none⟩)) rfl (by kernel_rfl) (by kernel_rfl) (by kernel_rfl) (fun _ _ _ h => h) (Or.inl ⟨by rfl, ?_⟩) (by with_reducible assumption) ?_
        · intro wx hSw
          (try dsimp only at hSw)
          first | (go_simp; done) | (go_simp; with_reducible rfl)
        try simp only [Act.put, List.setIfInBounds_toArray, List.set_cons_zero, List.set_cons_succ]
        clear e3
        clear e6
        clear e7
        refine wpAnyH_take (i := 31) (oi := { dst := some 69, op := Op.load 50 (Operand.tmp 68), type := 50, pos := "ref.go:77", after := #[{ on := 30, ground := Ground.data }, { on := 25, ground := Ground.guard }], guard := some (25, true) }) (v := .agg #[.string ps, .string pl, .int .i64 po, .int .i64 ph]) rfl (by kernel_rfl) (by kernel_rfl) (by kernel_rfl) (fun _ _ _ h => h) (Or.inl ⟨by rfl, ?_⟩) (by with_reducible assumption) ?_
        · intro wx hSw
          (try dsimp only at hSw)
          first | (go_simp; done) | (go_simp; with_reducible rfl)
        try simp only [Act.put, List.setIfInBounds_toArray, List.set_cons_zero, List.set_cons_succ]
        refine wpAnyH_take (i := 32) (oi := { dst := some 70, op := Op.load 50 (Operand.tmp 4), type := 50, pos := "ref.go:77", after := #[{ on := 25, ground := Ground.guard }], guard := some (25, true) }) (v := .agg #[.string xs, .string xl, .int .i64 xo, .int .i64 xh]) rfl (by kernel_rfl) (by kernel_rfl) (by kernel_rfl) (fun _ _ _ h => h) (Or.inl ⟨by rfl, ?_⟩) (by with_reducible assumption) ?_
        · intro wx hSw
          (try dsimp only at hSw)
          first | (go_simp; done) | (go_simp; with_reducible rfl)
        try simp only [Act.put, List.setIfInBounds_toArray, List.set_cons_zero, List.set_cons_succ]
        refine wpAnyH_ready (rs := [33]) (by kernel_rfl) (by simp) ?_
        refine AllReadyH.cons rfl (fun K hK => ?_) AllReadyH.nil
        go_simp
        go_wp2_with (((with_reducible refine Calls.mono (HAH.out _ (by with_reducible assumption)) ?_); rintro e w133 ⟨rfl, hS33⟩))
        refine hK.out _ _ (by with_reducible assumption) (fun hHeld33 => ?_)
        clear hK K
        try simp only [Act.put, List.setIfInBounds_toArray, List.set_cons_zero, List.set_cons_succ]
        refine wpAnyH_take (i := 34) (oi := { dst := some 72, op := Op.unOp UnOp.not 4 (Operand.tmp 71), type := 4, pos := "ref.go:77", after := #[{ on := 33, ground := Ground.data }, { on := 25, ground := Ground.guard }], guard := some (25, true) }) (v := .bool false) rfl (by kernel_rfl) (by kernel_rfl) (by kernel_rfl) (fun _ _ _ h => h) (Or.inl ⟨by rfl, ?_⟩) (by with_reducible assumption) ?_
        · intro wx hSw
          (try dsimp only at hSw)
          first | (go_simp; done) | (go_simp; with_reducible rfl)
        try simp only [Act.put, List.setIfInBounds_toArray, List.set_cons_zero, List.set_cons_succ]
        refine wpAnyH_take (i := 35) (oi := { dst := some 73, op := Op.pick (Operand.tmp 63) (Operand.tmp 72) (Operand.const (Value.bool false)), type := 4, pos := "ref.go:77", after := #[{ on := 25, ground := Ground.data }, { on := 34, ground := Ground.data }, { on := 22, ground := Ground.guard }], guard := some (22, false) }) (v := .bool false) rfl (by kernel_rfl) (by kernel_rfl) (by kernel_rfl) (fun _ _ _ h => h) (Or.inl ⟨by rfl, ?_⟩) (by with_reducible assumption) ?_
        · intro wx hSw
          (try dsimp only at hSw)
          first | (go_simp; done) | (go_simp; with_reducible rfl)
        try simp only [Act.put, List.setIfInBounds_toArray, List.set_cons_zero, List.set_cons_succ]
        refine wpAnyH_take (i := 36) (oi := { dst := some 74, op := Op.pick (Operand.tmp 60) (Operand.const (Value.bool true)) (Operand.tmp 73), type := 4, pos := "ref.go:77", after := #[{ on := 22, ground := Ground.data }, { on := 35, ground := Ground.data }], guard := none }) (v := .bool false) rfl (by kernel_rfl) (by kernel_rfl) (by kernel_rfl) (fun _ _ _ h => h) (Or.inl ⟨by rfl, ?_⟩) (by with_reducible assumption) ?_
        · intro wx hSw
          (try dsimp only at hSw)
          first | (go_simp; done) | (go_simp; with_reducible rfl)
        try simp only [Act.put, List.setIfInBounds_toArray, List.set_cons_zero, List.set_cons_succ]
        refine wpAnyH_take (i := 37) (oi := { dst := some 75, op := Op.move (Operand.tmp 74), type := 4, pos := "ref.go:77", after := #[{ on := 36, ground := Ground.data }, { on := 33, ground := Ground.chain }], guard := none }) (v := .bool false) rfl (by kernel_rfl) (by kernel_rfl) (by kernel_rfl) (fun _ _ _ h => h) (Or.inl ⟨by rfl, ?_⟩) (by with_reducible assumption) ?_
        · intro wx hSw
          (try dsimp only at hSw)
          first | (go_simp; done) | (go_simp; with_reducible rfl)
        try simp only [Act.put, List.setIfInBounds_toArray, List.set_cons_zero, List.set_cons_succ]
        refine wpAnyH_take (i := 38) (oi := { dst := some 76, op := Op.load 26 (Operand.tmp 1), type := 26, pos := "ref.go:77", after := #[{ on := 37, ground := Ground.guard }], guard := some (37, false) }) (v := .agg #[.slice (some ⟨b, o, none⟩) n0 c0, .slice a1 n1 c1, .slice a2 n2 c2, .int .i64 L.ops]) rfl (by kernel_rfl) (by kernel_rfl) (by kernel_rfl) (fun _ _ _ h => h) (Or.inl ⟨by rfl, ?_⟩) (by with_reducible assumption) ?_
        · intro wx hSw
          (try dsimp only at hSw)
          first | (go_simp; done) | (go_simp; with_reducible rfl)
        try simp only [Act.put, List.setIfInBounds_toArray, List.set_cons_zero, List.set_cons_succ]
        refine wpAnyH_take (i := 39) (oi := { dst := some 77, op := Op.load 50 (Operand.tmp 4), type := 50, pos := "ref.go:77", after := #[{ on := 37, ground := Ground.guard }], guard := some (37, false) }) (v := .agg #[.string xs, .string xl, .int .i64 xo, .int .i64 xh]) rfl (by kernel_rfl) (by kernel_rfl) (by kernel_rfl) (fun _ _ _ h => h) (Or.inl ⟨by rfl, ?_⟩) (by with_reducible assumption) ?_
        · intro wx hSw
          (try dsimp only at hSw)
          first | (go_simp; done) | (go_simp; with_reducible rfl)
        try simp only [Act.put, List.setIfInBounds_toArray, List.set_cons_zero, List.set_cons_succ]
        refine wpAnyH_ready (rs := [40]) (by kernel_rfl) (by simp) ?_
        refine AllReadyH.cons rfl (fun K hK => ?_) AllReadyH.nil
        go_simp
        go_wp2_with (((with_reducible refine Calls.mono (HSM.out _ (by with_reducible assumption)) ?_); rintro e w140 ⟨rfl, hS40⟩))
        refine hK.out _ _ (by with_reducible assumption) (fun hHeld40 => ?_)
        clear hK K
        try simp only [Act.put, List.setIfInBounds_toArray, List.set_cons_zero, List.set_cons_succ]
        refine wpAnyH_take (i := 41) (oi := { dst := some 79, op := Op.unOp UnOp.not 4 (Operand.tmp 78), type := 4, pos := "ref.go:77", after := #[{ on := 40, ground := Ground.data }, { on := 37, ground := Ground.guard }], guard := some (37, false) }) (v := .bool false) rfl (by kernel_rfl) (by kernel_rfl) (by kernel_rfl) (fun _ _ _ h => h) (Or.inl ⟨by rfl, ?_⟩) (by with_reducible assumption) ?_
        · intro wx hSw
          (try dsimp only at hSw)
          first | (go_simp; done) | (go_simp; with_reducible rfl)
        try simp only [Act.put, List.setIfInBounds_toArray, List.set_cons_zero, List.set_cons_succ]
        refine wpAnyH_take (i := 42) (oi := { dst := some 80, op := Op.pick (Operand.tmp 75) (Operand.const (Value.bool true)) (Operand.tmp 79), type := 4, pos := "ref.go:77", after := #[{ on := 37, ground := Ground.data }, { on := 41, ground := Ground.data }], guard := none }) (v := .bool false) rfl (by kernel_rfl) (by kernel_rfl) (by kernel_rfl) (fun _ _ _ h => h) (Or.inl ⟨by rfl, ?_⟩) (by with_reducible assumption) ?_
        · intro wx hSw
          (try dsimp only at hSw)
          first | (go_simp; done) | (go_simp; with_reducible rfl)
        try simp only [Act.put, List.setIfInBounds_toArray, List.set_cons_zero, List.set_cons_succ]
        refine wpAnyH_done (by kernel_rfl) ?_ _
        (have HB3 : Hid (Below w.heap.size w w140 ∧ Below W.heap.size W w140) := ⟨Below.next HB.out hS40.1, hS40.1⟩)
        go_wp2_with fail
        go_roundw
        case rel => exact ⟨j + 1 + 1, by omega, by go_num, HB3.out, HE.out⟩
        case measure => simp [intOf]; omega
    · have hlti : ¬ (k : Int) < (n0 : Int) := by omega
      have HRH : Hid _ := rholds_is a0 n0 c0 a1 n1 c1 a2 n2 c2 L.ops L HL.out.1 HL.out.2.1 m0 m1 HL.out.2.2.2 wr (HR.out.next HI.out.1)
      have HRM : Hid (∀ w', Below wr.heap.size wr w' → Calls Try.prog 35 #[.agg #[.slice a0 n0 c0, .slice a1 n1 c1, .slice a2 n2 c2, .int .i64 L.ops]] w' fun e w'' => e = .returned (.bool (decide (mayRM L))) ∧ Below w'.heap.size w' w'') := fun w' b => rmoves_is a0 n0 c0 a1 n1 c1 a2 n2 c2 L.ops L HL.out.1 HL.out.2.2.1 m0 m2 HL.out.2.2.2 w' ((HR.out.next HI.out.1).next b)
      rw [decide_eq_true HRI.out.2.2.2.2.1] at HRH
      rw [decide_eq_true HRI.out.2.2.2.2.2] at HRM
      go_wp2_with fail
      refine Calls.mono HRH.out ?_; rintro e w5 ⟨rfl, k5⟩
      have HK5 : Hid (Below wr.heap.size wr w5) := k5
      have hC5 := (HC.out.next HI.out.2).next k5
      have t0 := hC5.cs 0 _ rfl
      have t1 := hC5.cs 1 _ rfl
      have t2 := hC5.cs 2 _ rfl
      have t3 := hC5.cs 3 _ rfl
      clear k5 hC5
      go_wp2_with fail
      refine Calls.mono (HRM.out _ HK5.out) ?_; rintro e w6 ⟨rfl, k6⟩
      have HF : Hid (Below w.heap.size w w6) := Below.next (Below.next HI.out.1 HK5.out) k6
      clear k6
      go_wp2_with fail
      go_ret
      exact ⟨rfl, HF.out⟩
end Go.Proofs.Ytbclddgicnaamaa
