/- Contract of the document's Sum (package quaysideref01). The document's ledger: sums of holds and movements. -/
import Derived.Test.YtbclddgicnaamaaNSum
import Derived.Deep.RegionWith
import Derived.Test.YtbclddgicnaamaaRIdx
import Derived.Test.YtbclddgicnaamaaAgreeA
namespace Go.Proofs.Ytbclddgicnaamaa
open Go.ChangeShapes Go.WideShapes Go.ChangeAt Go.RowKit
set_option linter.unusedVariables false
set_option maxRecDepth 100000

theorem bcell {W w1 : World} (hb : Below W.heap.size W w1) : (∀ b o, b < W.heap.size → w1.cell? ⟨b, o, none⟩ = W.cell? ⟨b, o, none⟩) ∧ (∀ b o, b < W.heap.size → w1.frozen? ⟨b, o, none⟩ = W.frozen? ⟨b, o, none⟩) :=
  ⟨fun b o h => hb.cell (p := ⟨b, o, none⟩) h, fun b o h => hb.frozen (p := ⟨b, o, none⟩) h⟩

theorem Below.of_drew {B : Nat} {w w' : World} (h : Below B w.drew w') : Below B w w' := ⟨h.os, h.tape, h.output, h.size, h.block⟩

theorem below_two {B : Nat} {a w : World} (h : Below B a w) {c : Nat} (hc : B ≤ c) (u v : Value) : Below B a ((w.setCell ⟨c, 0, none⟩ u).setCell ⟨c, 1, none⟩ v) := (h.setCell (p := ⟨c, 0, none⟩) hc u).setCell (p := ⟨c, 1, none⟩) hc v
theorem hi_wide (x : Int) (k : Nat) (hk : k ≤ 140737488351232) (h : -9223372036854775808 * (k : Int) ≤ x ∧ x ≤ 9223372036854775808 * (k : Int)) : -1152921504606846976 ≤ hi x ∧ hi x ≤ 1152921504606846976 := by unfold hi; omega

theorem refSum_none (a : Option Addr) (cap : Nat) (w : World) :
    Calls Try.prog 36 #[.slice a 0 cap] w fun e w' => e = .returned (.tuple #[.int .i64 (vl 0), .int .i64 (er 0)]) ∧ Below w.heap.size w w' := by
  go_enter Try.func36, Try.ntmps36
  go_wp2
  refine wp_loop_rounds 1 ?_
  rw [rounds_succ]
  go_wp2_with fail
  refine (number_any 0 _).mono ?_; rintro e w1 ⟨rfl, k1⟩
  go_wp2_with fail
  go_ret2
  exact ⟨rfl, bnext ((Below.refl _ _).alloc (Nat.le_refl _) _) k1⟩

set_option maxHeartbeats 1000000 in
theorem refSum_row (b off cap : Nat) (zs : List Int) (w : World) (hl : zs.length ≤ 140737488351232) (hb : b < w.heap.size)
    (hc : ∀ k, k < zs.length → w.cell? ⟨b, off + k, none⟩ = some (.int .i64 (zs[k]?.getD 0)))
    (hz : ∀ k, k < zs.length → -9223372036854775808 ≤ zs[k]?.getD 0 ∧ zs[k]?.getD 0 ≤ 9223372036854775807) :
    Calls Try.prog 36 #[.slice (some ⟨b, off, none⟩) zs.length cap] w fun e w' => e = .returned (.tuple #[.int .i64 (vl zs.sum), .int .i64 (er zs.sum)]) ∧ Below w.heap.size w w' := by
  have HC : Hid (∀ k, k < zs.length → w.cell? ⟨b, off + k, none⟩ = some (.int .i64 (zs[k]?.getD 0))) := hc
  have HZ : Hid (∀ k, k < zs.length → -9223372036854775808 ≤ zs[k]?.getD 0 ∧ zs[k]?.getD 0 ≤ 9223372036854775807) := hz
  clear hc hz
  obtain ⟨n, hn⟩ : ∃ n, n = zs.length := ⟨_, rfl⟩
  have HN : Hid (n = zs.length) := hn
  rw [← hn] at hl ⊢
  clear hn
  go_enter Try.func36, Try.ntmps36
  go_wp2
  go_loopw [5] (fun i wr => ∃ k : Nat, k ≤ n ∧ i = .int .i64 k ∧ Pair wr w.heap.size (upto zs k) ∧ (-9223372036854775808 * (k : Int) ≤ upto zs k ∧ upto zs k ≤ 9223372036854775808 * (k : Int)) ∧ Below w.heap.size w wr)
    (fun i _ => n - (intOf i).toNat)
  case atStart => exact ⟨0, Nat.zero_le _, rfl, Pair.zero_at _ _ _ rfl rfl, by simp [upto_zero], (Below.refl _ _).alloc (Nat.le_refl _) _⟩
  case round =>
    obtain ⟨k, hk, rfl, pS, hu, KB⟩ := hrel
    by_cases c : k < n
    · have hcell := (KB.cell (p := ⟨b, off + k, none⟩) hb).trans (HC.out k (by have := HN.out; omega))
      have hzb := HZ.out k (by have := HN.out; omega)
      have HS : Hid (upto zs (k + 1) = upto zs k + zs[k]?.getD 0) := upto_succ zs k (by have := HN.out; omega)
      generalize zs[k]?.getD 0 = z at hcell hzb HS
      have hw := hi_wide _ k (by omega) hu
      have hwz := hi_small z (by omega)
      have HU : Hid (-9223372036854775808 * (k : Int) ≤ upto zs k ∧ upto zs k ≤ 9223372036854775808 * (k : Int)) := hu
      obtain ⟨s0, s1, s2, s3, s4⟩ := id pS
      clear hu
      go_wp2_with fail
      go_region_with (first
        | (go_at_call 59; refine (of_any z hzb _).mono ?_; rintro e w1 ⟨rfl, k1⟩; have pS1 := pS.below (Below.of_drew k1); obtain ⟨a0, a1, a2, a3, a4⟩ := id pS1)
        | (go_at_call 58; refine (plus_any (upto zs k) z hw hwz _).mono ?_; rintro e w2 ⟨rfl, k2⟩; have pS2 := pS1.below k2; obtain ⟨b0, b1, b2, b3, b4⟩ := id pS2))
      all_goals
        go_wp2_with fail
        go_roundw
        case rel =>
          refine ⟨k + 1, by omega, by go_num, ?_, ?_, below_two (bnext (bnext KB (Below.of_drew k1)) k2) (Nat.le_refl _) _ _⟩
          · rw [HS.out]; exact pS2.put (upto zs k + z)
          · have h1 := HS.out; have h2 := HU.out; rw [h1]; omega
        case measure => simp [intOf]; omega
    · obtain rfl : k = n := by omega
      have he : upto zs k = zs.sum := by rw [HN.out, upto_all]
      rw [he] at pS
      clear hu he
      obtain ⟨s0, s1, s2, s3, s4⟩ := id pS
      go_wp2_with fail
      refine (number_any zs.sum _).mono ?_; rintro e w1 ⟨rfl, k1⟩
      go_wp2_with fail
      go_ret2
      exact ⟨rfl, bnext KB k1⟩
end Go.Proofs.Ytbclddgicnaamaa

namespace Go.Proofs.Ytbclddgicnaamaa
open Go.ChangeShapes Go.WideShapes Go.RowKit
set_option linter.unusedVariables false
set_option maxRecDepth 100000

theorem refSum_own (v : Value) (l : List Int) (w : World) (h : w.ownsRow 0 3 1 v l.length (ivs l)) (hl : l.length ≤ 1000000) (hz : ∀ x, x ∈ l → i64b x) : Calls Try.prog 36 #[v] w fun e w' => e = .returned (.tuple #[.int .i64 (vl l.sum), .int .i64 (er l.sum)]) ∧ Below w.heap.size w w' := by
  rcases h.2 with ⟨rfl, h0⟩ | ⟨g, cap, cur, rfl, _, hg, hcap, hmax, hsz, htk⟩
  · have : l = [] := List.eq_nil_of_length_eq_zero h0
    subst this
    exact refSum_none none 0 w
  · refine refSum_row g 0 cap l w (by omega) (World.ownsRow.lt h g rfl).2 (fun k hk => ?_) (fun k hk => ?_)
    · have := World.ownsRow.cellAt h k (by omega)
      rw [Nat.zero_add, this]
      simp [ivs, hk]
    · have := hz _ (List.getElem_mem hk)
      rw [List.getElem?_eq_getElem hk]
      exact this
/-- Numbers in a list of the call's own. -/
structure IntsAt (N : Nat) (w : World) (v : Value) (l : List Int) : Prop where
  own : w.ownsRow 0 3 1 v l.length (ivs l)
  new : ∀ g, v.ownBlock = some g → N ≤ g ∧ g < w.heap.size
theorem IntsAt.void (N : Nat) (w : World) : IntsAt N w (.slice none 0 0) [] := ⟨World.ownsRow_nil _ _ _ _, fun g h => by cases h⟩
theorem IntsAt.next {N : Nat} {w w' : World} {v : Value} {l : List Int} (h : IntsAt N w v l) (b : Below w.heap.size w w') : IntsAt N w' v l :=
  ⟨ownsRow_kept h.own (fun k hk => b.block k (h.new k hk).2), fun g hg => ⟨(h.new g hg).1, Nat.lt_of_lt_of_le (h.new g hg).2 b.size⟩⟩
theorem IntsAt.more {N : Nat} {w : World} {o : Option Addr} {m c : Nat} {l : List Int} (h : IntsAt N w (.slice o m c) l) (hm : m = l.length) (hN : N ≤ w.heap.size) (x : Int) (hs : l.length ≤ 1000000) :
    ∃ g d w1, (Builtin.append_ #[64, 64] 64 #[.slice o m c, .slice (some ⟨w.heap.size, 0, none⟩) 1 1]).run Try.prog (w.alloc (.cells #[.int .i64 x] 3)) = .ok (.slice (some ⟨g, 0, none⟩) (m + 1) d) w1 ∧ IntsAt N w1 (.slice (some ⟨g, 0, none⟩) (m + 1) d) (l ++ [x]) ∧ Below N w w1 := by
  subst hm
  have hw2 : (w.alloc (.cells #[.int .i64 x] 3)).ownsRow 0 3 1 (.slice o l.length c) l.length (ivs l) := World.ownsRow.alloc h.own _
  obtain ⟨g, cap, w1, a1, a2, a3, a4, a5⟩ := append_int hw2 w.heap.size x ((CellsF.at (w := w) [.int .i64 x] 3 (by simp) rfl).cs 0 _ rfl) hs
  have hz : (w.alloc (.cells #[.int .i64 x] 3)).heap.size = w.heap.size + 1 := by simp
  refine ⟨g, cap, w1, a1, ⟨a2, fun g' hg' => ?_⟩, ?_⟩
  · cases hg'
    refine ⟨?_, a5⟩
    rcases a4 with e | e
    · exact (h.new g e).1
    · rw [e, hz]; exact Nat.le_succ_of_le hN
  · have hst : Stay (fun k => k < N) w w1 := ((Stay.refl _ w).alloc (fun i hi => Nat.lt_of_lt_of_le hi hN) _).grown a3 (fun i hi => Nat.lt_of_lt_of_le hi hN) (fun b hb hlt => by have h9 : N ≤ b := (h.new b hb).1; exact absurd hlt (Nat.not_lt_of_le h9))
    exact hst.to_below
theorem heldOf_le (H : List Hld) (sku loc : ByteArray) : (heldOf H sku loc).length ≤ H.length := by unfold heldOf; rw [List.length_map]; exact List.length_filter_le _ _
theorem movedOf_le (M : List Mov) (sku loc : ByteArray) : (movedOf M sku loc).length ≤ M.length := by unfold movedOf; rw [List.length_map]; exact List.length_filter_le _ _
theorem heldOf_fit {H : List Hld} (h : ∀ x, x ∈ H → x.fit) (sku loc : ByteArray) : ∀ x, x ∈ heldOf H sku loc → i64b x := fun x hx => by
  unfold heldOf at hx
  obtain ⟨y, hy, rfl⟩ := List.mem_map.1 hx
  exact (h y (List.mem_filter.1 hy).1).qty
theorem movedOf_fit {M : List Mov} (h : ∀ x, x ∈ M → x.fit) (sku loc : ByteArray) : ∀ x, x ∈ movedOf M sku loc → i64b x := fun x hx => by
  unfold movedOf at hx
  obtain ⟨y, hy, rfl⟩ := List.mem_map.1 hx
  exact (h y (List.mem_filter.1 hy).1).delta
def sumsP (L : Led) (x : Stk) : Prop := (heldOf L.H x.sku x.loc).sum = x.held ∧ (movedOf L.M x.sku x.loc).sum = x.on
instance (L : Led) (x : Stk) : Decidable (sumsP L x) := by unfold sumsP; infer_instance
set_option maxHeartbeats 4000000 in
theorem sums_is (a0 : Option Addr) (n0 c0 : Nat) (a1 : Option Addr) (n1 c1 : Nat) (a2 : Option Addr) (n2 c2 : Nat) (ops : Int) (L : Led) (h1 : L.H.length = n1) (h2 : L.M.length = n2) (m1 : n1 ≤ 4096) (m2 : n2 ≤ 4096) (hf : L.fit) (s : Stk) (hsf : s.fit) (w : World) (hr : Lies w a0 a1 a2 L) :
    Calls Try.prog 33 #[.agg #[.slice a0 n0 c0, .slice a1 n1 c1, .slice a2 n2 c2, .int .i64 ops], .agg #[.string s.sku, .string s.loc, .int .i64 s.on, .int .i64 s.held]] w fun e w' => e = .returned (.bool (decide (sumsP L s))) ∧ Below w.heap.size w w' := by
  obtain ⟨z, hz⟩ : ∃ z, decide (sumsP L s) = z := ⟨_, rfl⟩
  rw [hz]
  have HNO : Hid (¬ sumsP L s → z = false) := fun q => by rw [← hz]; exact decide_eq_false q
  have HYES : Hid (sumsP L s → z = true) := fun q => by rw [← hz]; exact decide_eq_true q
  obtain ⟨W, hW⟩ : ∃ W, (w.alloc (.cells #[.slice a0 n0 c0, .slice a1 n1 c1, .slice a2 n2 c2, .int .i64 ops] 26)).alloc (.cells #[.string s.sku, .string s.loc, .int .i64 s.on, .int .i64 s.held] 50) = W := ⟨_, rfl⟩
  have hB : Below w.heap.size w W := hW ▸ below2 _ _ _
  have hL : CellsF W w.heap.size [.slice a0 n0 c0, .slice a1 n1 c1, .slice a2 n2 c2, .int .i64 ops] := by rw [← hW]; exact (CellsF.at _ 26 (by simp) rfl).next (below1 _ _)
  have hS : CellsF W (w.heap.size + 1) [.string s.sku, .string s.loc, .int .i64 s.on, .int .i64 s.held] := by rw [← hW]; exact CellsF.at _ 50 (by simp) (by rw [size_alloc])
  have HL : Hid (L.H.length = n1 ∧ L.M.length = n2 ∧ L.fit ∧ s.fit) := ⟨h1, h2, hf, hsf⟩
  have HR : Hid (Lies W a0 a1 a2 L) := hr.next hB
  have HB : Hid (Below w.heap.size w W) := hB
  have HC : Hid (CellsF W w.heap.size [.slice a0 n0 c0, .slice a1 n1 c1, .slice a2 n2 c2, .int .i64 ops] ∧ CellsF W (w.heap.size + 1) [.string s.sku, .string s.loc, .int .i64 s.on, .int .i64 s.held]) := ⟨hL, hS⟩
  obtain ⟨ss, sl, so, sh⟩ := s
  dsimp only at hW HC
  clear hz h1 h2 hr hB hL hS hf hsf
  go_enter Try.func33, Try.ntmps33
  go_wp2_with fail
  try rw [hW]
  clear hW
  go_loopw [5, 7] (fun vl vi wr => ∃ (k : Nat) (o : Option Addr) (m c : Nat), k ≤ n1 ∧ vi = .int .i64 k ∧ vl = .slice o m c ∧ Hid (m = (heldOf (L.H.take k) ss sl).length ∧ IntsAt W.heap.size wr (.slice o m c) (heldOf (L.H.take k) ss sl) ∧ Below W.heap.size W wr))
    (fun _ vi _ => n1 - (intOf vi).toNat)
  case atStart => exact ⟨0, none, 0, 0, Nat.zero_le _, rfl, rfl, rfl, IntsAt.void _ _, Below.refl _ _⟩
  case round =>
    obtain ⟨k, o, m, c, hk, rfl, rfl, HI⟩ := hrel
    have l1 := (HC.out.1.next HI.out.2.2).cs 1 _ rfl
    have l2 := (HC.out.1.next HI.out.2.2).cs 2 _ rfl
    by_cases hlt : k < n1
    · have hlti : (k : Int) < (n1 : Int) := by omega
      have hkl : k < L.H.length := by have := HL.out.1; omega
      obtain ⟨b, p, rfl, hb, hc⟩ := HR.out.H.hld (fun e => by rw [e] at hkl; simp at hkl)
      have hx := (hc k hkl).next (HI.out.2.2.block b hb)
      have HSN : Hid _ := heldOf_snoc L.H k hkl ss sl
      have HLE : Hid ((heldOf (L.H.take k) ss sl).length ≤ 1000000) := by
        have h3 := heldOf_le (L.H.take k) ss sl
        have h4 : (L.H.take k).length ≤ 4096 := by rw [List.length_take]; omega
        show _ ≤ _
        omega
      generalize L.H[k] = x at hx HSN
      obtain ⟨xi, xs, xl, xq, xt, xd⟩ := x
      obtain ⟨x0, x1, x2, x3, x4, x5⟩ := hx
      dsimp only at x0 x1 x2 x3 x4 x5 HSN
      clear hc hb
      obtain ⟨W2, hW2⟩ : ∃ W2, wr.alloc (.cells #[.int .i64 xi, .string xs, .string xl, .int .i64 xq, .int .i64 xt, .int .i64 xd] 44) = W2 := ⟨_, rfl⟩
      have hB2 : Below wr.heap.size wr W2 := hW2 ▸ below1 _ _
      have hC2 : CellsF W2 wr.heap.size [.int .i64 xi, .string xs, .string xl, .int .i64 xq, .int .i64 xt, .int .i64 xd] := by rw [← hW2]; exact CellsF.at _ 44 (by simp) rfl
      have y1 := hC2.cs 1 _ rfl
      have y2 := hC2.cs 2 _ rfl
      have y3 := hC2.cs 3 _ rfl
      have y4 := hC2.cs 4 _ rfl
      have hBW : Below W.heap.size W W2 := Below.next HI.out.2.2 hB2
      have s0 := (HC.out.2.next hBW).cs 0 _ rfl
      have s1 := (HC.out.2.next hBW).cs 1 _ rfl
      have HBW : Hid (Below W.heap.size W W2) := hBW
      have HI2 : Hid (IntsAt W.heap.size W2 (.slice o m c) (heldOf (L.H.take k) ss sl)) := HI.out.2.1.next hB2
      have HMM : Hid (m = (heldOf (L.H.take k) ss sl).length) := HI.out.1
      clear hB2 hC2 hBW
      by_cases q0 : xs = ss
      · subst q0
        by_cases q1 : xl = sl
        · subst q1
          by_cases q2 : xt = 0
          · subst q2
            rw [if_pos ⟨rfl, rfl, rfl⟩] at HSN
            obtain ⟨g, d, w3, RA, RI, RB⟩ := HI2.out.more HMM.out HBW.out.size xq HLE.out
            have HRA : Hid _ := RA
            have HRI : Hid (m + 1 = (heldOf (L.H.take (k + 1)) xs xl).length ∧ IntsAt W.heap.size w3 (.slice (some ⟨g, 0, none⟩) (m + 1) d) (heldOf (L.H.take (k + 1)) xs xl) ∧ Below W.heap.size W w3) := ⟨by rw [HSN.out, List.length_append, ← HMM.out]; rfl, by rw [HSN.out]; exact RI, HBW.out.trans RB⟩
            clear RA RI RB
            go_wp2_with (first | ((with_reducible apply st_append (x := .tmp 43)); (case ho => rfl); (case hgd => rfl); (case hr => exact HRA.out)))
            go_roundw
            case rel => exact ⟨k + 1, _, _, _, by omega, by go_num, rfl, HRI.out⟩
            case measure => simp [intOf]; omega
          · rw [if_neg (fun e => q2 e.1), List.append_nil] at HSN
            have HNX : Hid (m = (heldOf (L.H.take (k + 1)) xs xl).length ∧ IntsAt W.heap.size W2 (.slice o m c) (heldOf (L.H.take (k + 1)) xs xl) ∧ Below W.heap.size W W2) := by rw [HSN.out]; exact ⟨HMM.out, HI2.out, HBW.out⟩
            go_wp2_with fail
            go_roundw
            case rel => exact ⟨k + 1, _, _, _, by omega, by go_num, rfl, HNX.out⟩
            case measure => simp [intOf]; omega
        · rw [if_neg (fun e => q1 e.2.2), List.append_nil] at HSN
          have HNX : Hid (m = (heldOf (L.H.take (k + 1)) xs sl).length ∧ IntsAt W.heap.size W2 (.slice o m c) (heldOf (L.H.take (k + 1)) xs sl) ∧ Below W.heap.size W W2) := by rw [HSN.out]; exact ⟨HMM.out, HI2.out, HBW.out⟩
          have b1 := byte_bne q1
          go_wp2_with fail
          go_roundw
          case rel => exact ⟨k + 1, _, _, _, by omega, by go_num, rfl, HNX.out⟩
          case measure => simp [intOf]; omega
      · rw [if_neg (fun e => q0 e.2.1), List.append_nil] at HSN
        have HNX : Hid (m = (heldOf (L.H.take (k + 1)) ss sl).length ∧ IntsAt W.heap.size W2 (.slice o m c) (heldOf (L.H.take (k + 1)) ss sl) ∧ Below W.heap.size W W2) := by rw [HSN.out]; exact ⟨HMM.out, HI2.out, HBW.out⟩
        have b0 := byte_bne q0
        go_wp2_with fail
        go_roundw
        case rel => exact ⟨k + 1, _, _, _, by omega, by go_num, rfl, HNX.out⟩
        case measure => simp [intOf]; omega
    · have hkn : k = n1 := by omega
      have hall : L.H.take k = L.H := List.take_of_length_le (by have := HL.out.1; omega)
      have HI1 : Hid (m = (heldOf L.H ss sl).length ∧ IntsAt W.heap.size wr (.slice o m c) (heldOf L.H ss sl) ∧ Below W.heap.size W wr) := by have := HI.out; rw [hall] at this; exact this
      clear HI hall
      have hlti : ¬ (k : Int) < (n1 : Int) := by omega
      go_wp2_with fail
      have HW1 : Hid (Below W.heap.size W wr) := HI1.out.2.2
      rename World => W1
      have HC1 : Hid (CellsF W1 w.heap.size [.slice a0 n0 c0, .slice a1 n1 c1, .slice a2 n2 c2, .int .i64 ops] ∧ CellsF W1 (w.heap.size + 1) [.string ss, .string sl, .int .i64 so, .int .i64 sh]) := ⟨HC.out.1.next HW1.out, HC.out.2.next HW1.out⟩
      have HR1 : Hid (Lies W1 a0 a1 a2 L) := HR.out.next HW1.out
      clear l1 l2 hlti hkn hk
      go_loopw [6, 9] (fun vl vi wr => ∃ (j : Nat) (o : Option Addr) (m c : Nat), j ≤ n2 ∧ vi = .int .i64 j ∧ vl = .slice o m c ∧ Hid (m = (movedOf (L.M.take j) ss sl).length ∧ IntsAt W1.heap.size wr (.slice o m c) (movedOf (L.M.take j) ss sl) ∧ Below W1.heap.size W1 wr))
        (fun _ vi _ => n2 - (intOf vi).toNat)
      case atStart => exact ⟨0, none, 0, 0, Nat.zero_le _, rfl, rfl, rfl, IntsAt.void _ _, Below.refl _ _⟩
      case round =>
        obtain ⟨j, o', m', c', hj, rfl, rfl, HJ⟩ := hrel
        have l2 := (HC1.out.1.next HJ.out.2.2).cs 2 _ rfl
        have s0 := (HC1.out.2.next HJ.out.2.2).cs 0 _ rfl
        have s1 := (HC1.out.2.next HJ.out.2.2).cs 1 _ rfl
        by_cases hlt : j < n2
        · have hlti : (j : Int) < (n2 : Int) := by omega
          have hjl : j < L.M.length := by have := HL.out.2.1; omega
          obtain ⟨b, p, rfl, hb, hc⟩ := HR1.out.M.mov (fun e => by rw [e] at hjl; simp at hjl)
          have hx := (hc j hjl).next (HJ.out.2.2.block b hb)
          have HSN : Hid _ := movedOf_snoc L.M j hjl ss sl
          have HLE : Hid ((movedOf (L.M.take j) ss sl).length ≤ 1000000) := by
            have h3 := movedOf_le (L.M.take j) ss sl
            have h4 : (L.M.take j).length ≤ 4096 := by rw [List.length_take]; omega
            show _ ≤ _
            omega
          generalize L.M[j] = x at hx HSN
          obtain ⟨xi, xs, xl, xq, xt, xd⟩ := x
          obtain ⟨x0, x1, x2, x3, x4, x5⟩ := hx
          dsimp only at x0 x1 x2 x3 x4 x5 HSN
          clear hc hb
          have HMM : Hid (m' = (movedOf (L.M.take j) ss sl).length) := HJ.out.1
          by_cases q0 : xs = ss
          · subst q0
            by_cases q1 : xl = sl
            · subst q1
              rw [if_pos ⟨rfl, rfl⟩] at HSN
              go_wp2_with fail
              go_quiet (fail)
              have hdn : Below wr.heap.size wr (wr.drewN nq) := ⟨rfl, rfl, rfl, Nat.le_refl _, fun _ _ => rfl⟩
              obtain ⟨g, d, w3, RA, RI, RB⟩ := (HJ.out.2.1.next hdn).more HMM.out (Nat.le_trans HJ.out.2.2.size hdn.size) xq HLE.out
              have HRA : Hid _ := RA
              have HRI : Hid (m' + 1 = (movedOf (L.M.take (j + 1)) xs xl).length ∧ IntsAt W1.heap.size w3 (.slice (some ⟨g, 0, none⟩) (m' + 1) d) (movedOf (L.M.take (j + 1)) xs xl) ∧ Below W1.heap.size W1 w3) := ⟨by rw [HSN.out, List.length_append, ← HMM.out]; rfl, by rw [HSN.out]; exact RI, (Below.next HJ.out.2.2 hdn).trans RB⟩
              clear RA RI RB hdn
              go_wp2_with (first | ((with_reducible apply st_append (x := .tmp 75)); (case ho => rfl); (case hgd => rfl); (case hr => exact HRA.out)))
              go_roundw
              case rel => exact ⟨j + 1, _, _, _, by omega, by go_num, rfl, HRI.out⟩
              case measure => simp [intOf]; omega
            · rw [if_neg (fun e => q1 e.2), List.append_nil] at HSN
              have HNX : Hid (∀ n, m' = (movedOf (L.M.take (j + 1)) xs sl).length ∧ IntsAt W1.heap.size (wr.drewN n) (.slice o' m' c') (movedOf (L.M.take (j + 1)) xs sl) ∧ Below W1.heap.size W1 (wr.drewN n)) := fun n => by
                  have hdn : Below wr.heap.size wr (wr.drewN n) := ⟨rfl, rfl, rfl, Nat.le_refl _, fun _ _ => rfl⟩
                  rw [HSN.out]; exact ⟨HMM.out, HJ.out.2.1.next hdn, Below.next HJ.out.2.2 hdn⟩
              have b1 := byte_bne q1
              go_wp2_with fail
              go_quiet (fail)
              go_wp2_with fail
              go_roundw
              case rel => exact ⟨j + 1, _, _, _, by omega, by go_num, rfl, HNX.out _⟩
              case measure => simp [intOf]; omega
          · rw [if_neg (fun e => q0 e.1), List.append_nil] at HSN
            have HNX : Hid (∀ n, m' = (movedOf (L.M.take (j + 1)) ss sl).length ∧ IntsAt W1.heap.size (wr.drewN n) (.slice o' m' c') (movedOf (L.M.take (j + 1)) ss sl) ∧ Below W1.heap.size W1 (wr.drewN n)) := fun n => by
                  have hdn : Below wr.heap.size wr (wr.drewN n) := ⟨rfl, rfl, rfl, Nat.le_refl _, fun _ _ => rfl⟩
                  rw [HSN.out]; exact ⟨HMM.out, HJ.out.2.1.next hdn, Below.next HJ.out.2.2 hdn⟩
            have b0 := byte_bne q0
            go_wp2_with fail
            go_quiet (fail)
            go_wp2_with fail
            go_roundw
            case rel => exact ⟨j + 1, _, _, _, by omega, by go_num, rfl, HNX.out _⟩
            case measure => simp [intOf]; omega
        · have hall : L.M.take j = L.M := List.take_of_length_le (by have := HL.out.2.1; omega)
          have HJ1 : Hid (m' = (movedOf L.M ss sl).length ∧ IntsAt W1.heap.size wr (.slice o' m' c') (movedOf L.M ss sl) ∧ Below W1.heap.size W1 wr) := by have := HJ.out; rw [hall] at this; exact this
          clear HJ hall
          have hlti : ¬ (j : Int) < (n2 : Int) := by omega
          have HLH : Hid ((heldOf L.H ss sl).length ≤ 1000000 ∧ (movedOf L.M ss sl).length ≤ 1000000) := by
            have h3 := heldOf_le L.H ss sl
            have h4 := movedOf_le L.M ss sl
            have := HL.out.1; have := HL.out.2.1
            show _ ∧ _
            omega
          have HS1 : Hid _ := refSum_own (.slice o m c) _ wr (HI1.out.2.1.next HJ1.out.2.2).own HLH.out.1 (heldOf_fit HL.out.2.2.1.H ss sl)
          have HS2 : Hid (∀ w', Below wr.heap.size wr w' → Calls Try.prog 36 #[.slice o' m' c'] w' fun e w'' => e = .returned (.tuple #[.int .i64 (vl (movedOf L.M ss sl).sum), .int .i64 (er (movedOf L.M ss sl).sum)]) ∧ Below w'.heap.size w' w'') := fun w' b => refSum_own (.slice o' m' c') _ w' (HJ1.out.2.1.next b).own HLH.out.2 (movedOf_fit HL.out.2.2.1.M ss sl)
          have HBV : Hid (∀ w' w'', Below wr.heap.size wr w' → Below w'.heap.size w' w'' → CellsF w'' (w.heap.size + 1) [.string ss, .string sl, .int .i64 so, .int .i64 sh] ∧ Below w.heap.size w w'') := fun w' w'' h1 h2 => ⟨((HC1.out.2.next HJ1.out.2.2).next h1).next h2, Below.next (Below.next (Below.next (Below.next HB.out HW1.out) HJ1.out.2.2) h1) h2⟩
          have HSB : Hid (i64b sh ∧ i64b so) := ⟨HL.out.2.2.2.held, HL.out.2.2.2.on⟩
          have HNO' : Hid (¬ ((heldOf L.H ss sl).sum = sh ∧ (movedOf L.M ss sl).sum = so) → z = false) := HNO.out
          have HYES' : Hid ((heldOf L.H ss sl).sum = sh ∧ (movedOf L.M ss sl).sum = so → z = true) := HYES.out
          clear HNO HYES HI1 HJ1 HLH s0 s1
          obtain ⟨p, hp⟩ : ∃ p, (heldOf L.H ss sl).sum = p := ⟨_, rfl⟩
          obtain ⟨q, hq⟩ : ∃ q, (movedOf L.M ss sl).sum = q := ⟨_, rfl⟩
          rw [hp] at HS1
          rw [hq] at HS2
          rw [hp, hq] at HNO' HYES'
          clear hp hq
          by_cases r1 : -9223372036854775808 ≤ p ∧ p ≤ 9223372036854775807
          · rw [(vl_in r1).1, (vl_in r1).2] at HS1
            by_cases r2 : -9223372036854775808 ≤ q ∧ q ≤ 9223372036854775807
            · rw [(vl_in r2).1, (vl_in r2).2] at HS2
              by_cases e1 : p = sh
              · by_cases e2 : q = so
                · have HE : Hid (z = true) := HYES'.out ⟨e1, e2⟩
                  go_wp2_with fail
                  refine Calls.mono HS1.out ?_; rintro e w5 ⟨rfl, k5⟩
                  have HK5 : Hid (Below wr.heap.size wr w5) := k5
                  clear k5
                  go_wp2_with fail
                  refine Calls.mono (HS2.out _ HK5.out) ?_; rintro e w6 ⟨rfl, k6⟩
                  have hfin := HBV.out _ _ HK5.out k6
                  have t2 := hfin.1.cs 2 _ rfl
                  have t3 := hfin.1.cs 3 _ rfl
                  have HF : Hid (Below w.heap.size w w6) := hfin.2
                  clear k6 hfin
                  subst e1
                  subst e2
                  go_wp2_with fail
                  go_ret
                  exact ⟨by rw [HE.out]; rfl, HF.out⟩
                · have HE : Hid (z = false) := HNO'.out (fun e => e2 e.2)
                  have hqs : (q == so) = false := by simpa using e2
                  go_wp2_with fail
                  refine Calls.mono HS1.out ?_; rintro e w5 ⟨rfl, k5⟩
                  have HK5 : Hid (Below wr.heap.size wr w5) := k5
                  clear k5
                  go_wp2_with fail
                  refine Calls.mono (HS2.out _ HK5.out) ?_; rintro e w6 ⟨rfl, k6⟩
                  have hfin := HBV.out _ _ HK5.out k6
                  have t2 := hfin.1.cs 2 _ rfl
                  have t3 := hfin.1.cs 3 _ rfl
                  have HF : Hid (Below w.heap.size w w6) := hfin.2
                  clear k6 hfin
                  subst e1
                  go_wp2_with fail
                  go_ret
                  exact ⟨by rw [HE.out]; rfl, HF.out⟩
              · have HE : Hid (z = false) := HNO'.out (fun e => e1 e.1)
                go_wp2_with fail
                refine Calls.mono HS1.out ?_; rintro e w5 ⟨rfl, k5⟩
                have HK5 : Hid (Below wr.heap.size wr w5) := k5
                clear k5
                go_wp2_with fail
                refine Calls.mono (HS2.out _ HK5.out) ?_; rintro e w6 ⟨rfl, k6⟩
                have hfin := HBV.out _ _ HK5.out k6
                have t2 := hfin.1.cs 2 _ rfl
                have t3 := hfin.1.cs 3 _ rfl
                have HF : Hid (Below w.heap.size w w6) := hfin.2
                clear k6 hfin
                go_wp2_with fail
                go_ret
                exact ⟨by rw [HE.out]; rfl, HF.out⟩
            · rw [(vl_out r2).1, (vl_out r2).2] at HS2
              have HE : Hid (z = false) := HNO'.out (fun e => r2 (by rw [e.2]; exact HSB.out.2))
              go_wp2_with fail
              refine Calls.mono HS1.out ?_; rintro e w5 ⟨rfl, k5⟩
              have HK5 : Hid (Below wr.heap.size wr w5) := k5
              clear k5
              go_wp2_with fail
              refine Calls.mono (HS2.out _ HK5.out) ?_; rintro e w6 ⟨rfl, k6⟩
              have HF : Hid (Below w.heap.size w w6) := (HBV.out _ _ HK5.out k6).2
              clear k6
              go_wp2_with fail
              go_ret
              exact ⟨by rw [HE.out]; rfl, HF.out⟩
          · rw [(vl_out r1).1, (vl_out r1).2] at HS1
            have HE : Hid (z = false) := HNO'.out (fun e => r1 (by rw [e.1]; exact HSB.out.1))
            go_wp2_with fail
            refine Calls.mono HS1.out ?_; rintro e w5 ⟨rfl, k5⟩
            have HK5 : Hid (Below wr.heap.size wr w5) := k5
            clear k5
            go_wp2_with fail
            refine Calls.mono (HS2.out _ HK5.out) ?_; rintro e w6 ⟨rfl, k6⟩
            have HF : Hid (Below w.heap.size w w6) := (HBV.out _ _ HK5.out k6).2
            clear k6
            go_wp2_with fail
            go_ret
            exact ⟨by rw [HE.out]; rfl, HF.out⟩
end Go.Proofs.Ytbclddgicnaamaa
