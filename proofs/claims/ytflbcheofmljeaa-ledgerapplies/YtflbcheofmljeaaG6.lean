/- The document's ledger: index, ahead, Same of nothing. The document's May of operations. Contract of the document's Sum (package quaysideref01). The document's ledger: sums of holds and movements. The document's ledger: which holds and movements may be. The document's ledger: which movements may be. The document's ledger: which ledgers may be. -/
import Derived.Test.YtflbcheofmljeaaFind
import Derived.Test.YtflbcheofmljeaaEOp
import Derived.Test.YtflbcheofmljeaaNSum
import Derived.Deep.RegionWith
import Derived.Test.YtflbcheofmljeaaAgreeA
import Derived.Test.YtflbcheofmljeaaMayHM
import Derived.Test.YtflbcheofmljeaaMayL
namespace Go.Proofs.Ytflbcheofmljeaa
open Go.ChangeShapes Go.WideShapes Go.RowKit
set_option linter.unusedVariables false
set_option maxRecDepth 100000

set_option maxHeartbeats 2000000 in
theorem index_is (a0 : Option Addr) (n0 c0 : Nat) (a1 : Option Addr) (n1 c1 : Nat) (a2 : Option Addr) (n2 c2 : Nat) (ops : Int) (l : List Stk) (hn : l.length = n0) (hm : n0 ≤ 1000000000000) (sku loc : ByteArray) (w : World) (hr : Rw stv 4 w a0 l) :
    Calls Try.prog 57 #[.agg #[.slice a0 n0 c0, .slice a1 n1 c1, .slice a2 n2 c2, .int .i64 ops], .string sku, .string loc] w fun e w' => e = .returned (.int .i64 (if hasK l sku loc then (idxK l sku loc : Nat) else -1)) ∧ Below w.heap.size w w' := by
  obtain ⟨z, hz⟩ : ∃ z : Int, (if hasK l sku loc then ((idxK l sku loc : Nat) : Int) else -1) = z := ⟨_, rfl⟩
  rw [hz]
  have HZ : Hid ((if hasK l sku loc then ((idxK l sku loc : Nat) : Int) else -1) = z) := hz
  obtain ⟨W, hW⟩ : ∃ W, w.alloc (.cells #[.slice a0 n0 c0, .slice a1 n1 c1, .slice a2 n2 c2, .int .i64 ops] 26) = W := ⟨_, rfl⟩
  have hB : Below w.heap.size w W := hW ▸ below1 _ _
  have hL : CellsF W w.heap.size [.slice a0 n0 c0, .slice a1 n1 c1, .slice a2 n2 c2, .int .i64 ops] := by rw [← hW]; exact CellsF.at _ 26 (by simp) rfl
  have HL : Hid (l.length = n0) := hn
  have HR : Hid (Rw stv 4 w a0 l) := hr
  have HB : Hid (Below w.heap.size w W) := hB
  have l0 := hL.cs 0 _ rfl
  clear hz hn hr hB hL
  go_enter Try.func57, Try.ntmps57
  go_wp2_with fail
  try rw [hW]
  clear hW
  go_wp2_with fail
  go_loopw [7] (fun vi wr => ∃ k : Nat, k ≤ n0 ∧ vi = .int .i64 k ∧ wr = W ∧ Hid (∀ i (h : i < l.length), i < k → isK sku loc l[i] = false))
    (fun vi _ => n0 - (intOf vi).toNat)
  case atStart => exact ⟨0, Nat.zero_le _, rfl, rfl, fun i h q => absurd q (Nat.not_lt_zero _)⟩
  case round =>
    obtain ⟨k, hk, rfl, rfl, HI⟩ := hrel
    by_cases hlt : k < n0
    · have hlti : (k : Int) < (n0 : Int) := by omega
      have hkl : k < l.length := by have := HL.out; omega
      obtain ⟨b, o, rfl, hb, hc⟩ := HR.out.stk (fun e => by rw [e] at hkl; simp at hkl)
      have hx := (hc k hkl).next (HB.out.block b hb)
      have HY : Hid (isK sku loc l[k] = true → z = (k : Int)) := fun e => by
        rw [← HZ.out, if_pos (show hasK l sku loc = true from List.any_eq_true.2 ⟨_, List.getElem_mem hkl, e⟩)]
        have : idxK l sku loc = k := by
          unfold idxK
          exact (List.findIdx_eq hkl).2 ⟨e, fun j hj => HI.out j (by omega) hj⟩
        rw [this]
      have HNX : Hid (isK sku loc l[k] = false → ∀ i (h : i < l.length), i < k + 1 → isK sku loc l[i] = false) := fun e i h q => by
        by_cases c : i = k
        · subst c; exact e
        · exact HI.out i h (by omega)
      clear hc hb
      generalize l[k] = x at *
      obtain ⟨x0, x1, x2, x3⟩ := hx
      obtain ⟨xs, xl, xo, xh⟩ := x
      dsimp only at x0 x1 x2 x3
      by_cases c0 : xs = sku
      · subst c0
        by_cases c1 : xl = loc
        · subst c1
          have HE : Hid (z = (k : Int)) := HY.out (decide_eq_true ⟨rfl, rfl⟩)
          clear HY HNX
          go_wp2_with fail
          go_ret
          exact ⟨by rw [HE.out]; rfl, HB.out⟩
        · have HE : Hid (∀ i (h : i < l.length), i < k + 1 → isK xs loc l[i] = false) := HNX.out (decide_eq_false (fun e => c1 e.2))
          have b1 := byte_bne c1
          clear HY HNX
          go_wp2_with fail
          go_roundw
          case rel => exact ⟨k + 1, by omega, by go_num, by trivial, HE.out⟩
          case measure => simp [intOf]; omega
      · have HE : Hid (∀ i (h : i < l.length), i < k + 1 → isK sku loc l[i] = false) := HNX.out (decide_eq_false (fun e => c0 e.1))
        have b0 := byte_bne c0
        clear HY HNX
        go_wp2_with fail
        go_roundw
        case rel => exact ⟨k + 1, by omega, by go_num, by trivial, HE.out⟩
        case measure => simp [intOf]; omega
    · have hlti : ¬ (k : Int) < (n0 : Int) := by omega
      have HE : Hid (z = -1) := by
        show z = -1
        rw [← HZ.out, if_neg (fun e => by
          obtain ⟨x, hx, hi⟩ := List.any_eq_true.1 e
          obtain ⟨i, h, rfl⟩ := List.getElem_of_mem hx
          have := HI.out i h (by have := HL.out; omega)
          rw [this] at hi; cases hi)]
      go_wp2_with fail
      go_ret
      exact ⟨by rw [HE.out]; rfl, HB.out⟩
/-- Of ledgers without anything. -/
theorem refSame_none (a0 : Option Addr) (c0 : Nat) (a1 : Option Addr) (c1 : Nat) (a2 : Option Addr) (c2 : Nat) (b0 : Option Addr) (d0 : Nat) (b1 : Option Addr) (d1 : Nat) (b2 : Option Addr) (d2 : Nat) (w : World) :
    Calls Try.prog 13 #[.agg #[.slice a0 0 c0, .slice a1 0 c1, .slice a2 0 c2, .int .i64 0], .agg #[.slice b0 0 d0, .slice b1 0 d1, .slice b2 0 d2, .int .i64 0]] w fun e w' => e = .returned (.bool true) ∧ Below w.heap.size w w' := by
  go_enter Try.func13, Try.ntmps13
  go_wp2_with fail
  refine wp_loop_rounds 1 ?_
  rw [rounds_succ]
  go_wp2_with fail
  refine wp_loop_rounds 1 ?_
  rw [rounds_succ]
  go_wp2_with fail
  refine wp_loop_rounds 1 ?_
  rw [rounds_succ]
  go_wp2_with fail
  go_ret
  exact ⟨rfl, below2 _ _ _⟩
end Go.Proofs.Ytflbcheofmljeaa

namespace Go.Proofs.Ytflbcheofmljeaa
open Go.ChangeShapes Go.WideShapes Go.RowKit
set_option linter.unusedVariables false
set_option maxRecDepth 100000
set_option maxRecDepth 100000

theorem refName_is (s : ByteArray) (w : World) : Calls Try.prog 31 #[.string s] w fun e w' => e = .returned (.bool (decide (name s))) ∧ w' = w := by
  by_cases h1 : 1 ≤ s.size
  · have h1i : 1 ≤ (s.size : Int) := by omega
    by_cases h2 : s.size ≤ 64
    · have h2i : (s.size : Int) ≤ 64 := by omega
      have HM : Hid (decide (name s) = true) := decide_eq_true ⟨h1, h2⟩
      go_enter Try.func31, Try.ntmps31
      go_wp2_with fail
      go_ret
      exact ⟨by rw [HM.out]; rfl, rfl⟩
    · have h2i : ¬ (s.size : Int) ≤ 64 := by omega
      have HM : Hid (decide (name s) = false) := decide_eq_false (fun q => h2 q.2)
      go_enter Try.func31, Try.ntmps31
      go_wp2_with fail
      go_ret
      exact ⟨by rw [HM.out]; rfl, rfl⟩
  · have h1i : ¬ 1 ≤ (s.size : Int) := by omega
    have HM : Hid (decide (name s) = false) := decide_eq_false (fun q => h1 q.1)
    go_enter Try.func31, Try.ntmps31
    go_wp2_with fail
    go_ret
    exact ⟨by rw [HM.out]; rfl, rfl⟩
end Go.Proofs.Ytflbcheofmljeaa

namespace Go.Proofs.Ytflbcheofmljeaa
open Go.ChangeShapes Go.WideShapes Go.ChangeAt Go.RowKit
set_option linter.unusedVariables false
set_option maxRecDepth 100000

theorem bcell {W w1 : World} (hb : Below W.heap.size W w1) : (∀ b o, b < W.heap.size → w1.cell? ⟨b, o, none⟩ = W.cell? ⟨b, o, none⟩) ∧ (∀ b o, b < W.heap.size → w1.frozen? ⟨b, o, none⟩ = W.frozen? ⟨b, o, none⟩) :=
  ⟨fun b o h => hb.cell (p := ⟨b, o, none⟩) h, fun b o h => hb.frozen (p := ⟨b, o, none⟩) h⟩

theorem Below.of_drew {B : Nat} {w w' : World} (h : Below B w.drew w') : Below B w w' := ⟨h.os, h.tape, h.output, h.size, h.block⟩

theorem below_two {B : Nat} {a w : World} (h : Below B a w) {c : Nat} (hc : B ≤ c) (u v : Value) : Below B a ((w.setCell ⟨c, 0, none⟩ u).setCell ⟨c, 1, none⟩ v) := (h.setCell (p := ⟨c, 0, none⟩) hc u).setCell (p := ⟨c, 1, none⟩) hc v
theorem hi_wide (x : Int) (k : Nat) (hk : k ≤ 140737488351232) (h : -9223372036854775808 * (k : Int) ≤ x ∧ x ≤ 9223372036854775808 * (k : Int)) : -1152921504606846976 ≤ hi x ∧ hi x ≤ 1152921504606846976 := by unfold hi; omega

theorem refSum_none (a : Option Addr) (cap : Nat) (w : World) :
    Calls Try.prog 36 #[.slice a 0 cap] w fun e w' => e = .returned (.tuple #[.int .i64 (vl 0), .int .i64 (er 0)]) ∧ Below w.heap.size w w' := by
  go_enter Try.func36, Try.ntmps36
  go_wp2
  refine wp_loop_rounds 1 ?_
  rw [rounds_succ]
  go_wp2_with fail
  refine (number_any 0 _).mono ?_; rintro e w1 ⟨rfl, k1⟩
  go_wp2_with fail
  go_ret2
  exact ⟨rfl, bnext ((Below.refl _ _).alloc (Nat.le_refl _) _) k1⟩

set_option maxHeartbeats 1000000 in
theorem refSum_row (b off cap : Nat) (zs : List Int) (w : World) (hl : zs.length ≤ 140737488351232) (hb : b < w.heap.size)
    (hc : ∀ k, k < zs.length → w.cell? ⟨b, off + k, none⟩ = some (.int .i64 (zs[k]?.getD 0)))
    (hz : ∀ k, k < zs.length → -9223372036854775808 ≤ zs[k]?.getD 0 ∧ zs[k]?.getD 0 ≤ 9223372036854775807) :
    Calls Try.prog 36 #[.slice (some ⟨b, off, none⟩) zs.length cap] w fun e w' => e = .returned (.tuple #[.int .i64 (vl zs.sum), .int .i64 (er zs.sum)]) ∧ Below w.heap.size w w' := by
  have HC : Hid (∀ k, k < zs.length → w.cell? ⟨b, off + k, none⟩ = some (.int .i64 (zs[k]?.getD 0))) := hc
  have HZ : Hid (∀ k, k < zs.length → -9223372036854775808 ≤ zs[k]?.getD 0 ∧ zs[k]?.getD 0 ≤ 9223372036854775807) := hz
  clear hc hz
  obtain ⟨n, hn⟩ : ∃ n, n = zs.length := ⟨_, rfl⟩
  have HN : Hid (n = zs.length) := hn
  rw [← hn] at hl ⊢
  clear hn
  go_enter Try.func36, Try.ntmps36
  go_wp2
  go_loopw [5] (fun i wr => ∃ k : Nat, k ≤ n ∧ i = .int .i64 k ∧ Pair wr w.heap.size (upto zs k) ∧ (-9223372036854775808 * (k : Int) ≤ upto zs k ∧ upto zs k ≤ 9223372036854775808 * (k : Int)) ∧ Below w.heap.size w wr)
    (fun i _ => n - (intOf i).toNat)
  case atStart => exact ⟨0, Nat.zero_le _, rfl, Pair.zero_at _ _ _ rfl rfl, by simp [upto_zero], (Below.refl _ _).alloc (Nat.le_refl _) _⟩
  case round =>
    obtain ⟨k, hk, rfl, pS, hu, KB⟩ := hrel
    by_cases c : k < n
    · have hcell := (KB.cell (p := ⟨b, off + k, none⟩) hb).trans (HC.out k (by have := HN.out; omega))
      have hzb := HZ.out k (by have := HN.out; omega)
      have HS : Hid (upto zs (k + 1) = upto zs k + zs[k]?.getD 0) := upto_succ zs k (by have := HN.out; omega)
      generalize zs[k]?.getD 0 = z at hcell hzb HS
      have hw := hi_wide _ k (by omega) hu
      have hwz := hi_small z (by omega)
      have HU : Hid (-9223372036854775808 * (k : Int) ≤ upto zs k ∧ upto zs k ≤ 9223372036854775808 * (k : Int)) := hu
      obtain ⟨s0, s1, s2, s3, s4⟩ := id pS
      clear hu
      go_wp2_with fail
      go_region_with (first
        | (go_at_call 59; refine (of_any z hzb _).mono ?_; rintro e w1 ⟨rfl, k1⟩; have pS1 := pS.below (Below.of_drew k1); obtain ⟨a0, a1, a2, a3, a4⟩ := id pS1)
        | (go_at_call 58; refine (plus_any (upto zs k) z hw hwz _).mono ?_; rintro e w2 ⟨rfl, k2⟩; have pS2 := pS1.below k2; obtain ⟨b0, b1, b2, b3, b4⟩ := id pS2))
      all_goals
        go_wp2_with fail
        go_roundw
        case rel =>
          refine ⟨k + 1, by omega, by go_num, ?_, ?_, below_two (bnext (bnext KB (Below.of_drew k1)) k2) (Nat.le_refl _) _ _⟩
          · rw [HS.out]; exact pS2.put (upto zs k + z)
          · have h1 := HS.out; have h2 := HU.out; rw [h1]; omega
        case measure => simp [intOf]; omega
    · obtain rfl : k = n := by omega
      have he : upto zs k = zs.sum := by rw [HN.out, upto_all]
      rw [he] at pS
      clear hu he
      obtain ⟨s0, s1, s2, s3, s4⟩ := id pS
      go_wp2_with fail
      refine (number_any zs.sum _).mono ?_; rintro e w1 ⟨rfl, k1⟩
      go_wp2_with fail
      go_ret2
      exact ⟨rfl, bnext KB k1⟩
end Go.Proofs.Ytflbcheofmljeaa

namespace Go.Proofs.Ytflbcheofmljeaa
open Go.ChangeShapes Go.WideShapes Go.RowKit
set_option linter.unusedVariables false
set_option maxRecDepth 100000

theorem refSum_own (v : Value) (l : List Int) (w : World) (h : w.ownsRow 0 3 1 v l.length (ivs l)) (hl : l.length ≤ 1000000) (hz : ∀ x, x ∈ l → i64b x) : Calls Try.prog 36 #[v] w fun e w' => e = .returned (.tuple #[.int .i64 (vl l.sum), .int .i64 (er l.sum)]) ∧ Below w.heap.size w w' := by
  rcases h.2 with ⟨rfl, h0⟩ | ⟨g, cap, cur, rfl, _, hg, hcap, hmax, hsz, htk⟩
  · have : l = [] := List.eq_nil_of_length_eq_zero h0
    subst this
    exact refSum_none none 0 w
  · refine refSum_row g 0 cap l w (by omega) (World.ownsRow.lt h g rfl).2 (fun k hk => ?_) (fun k hk => ?_)
    · have := World.ownsRow.cellAt h k (by omega)
      rw [Nat.zero_add, this]
      simp [ivs, hk]
    · have := hz _ (List.getElem_mem hk)
      rw [List.getElem?_eq_getElem hk]
      exact this
/-- Numbers in a list of the call's own. -/
structure IntsAt (N : Nat) (w : World) (v : Value) (l : List Int) : Prop where
  own : w.ownsRow 0 3 1 v l.length (ivs l)
  new : ∀ g, v.ownBlock = some g → N ≤ g ∧ g < w.heap.size
theorem IntsAt.void (N : Nat) (w : World) : IntsAt N w (.slice none 0 0) [] := ⟨World.ownsRow_nil _ _ _ _, fun g h => by cases h⟩
theorem IntsAt.next {N : Nat} {w w' : World} {v : Value} {l : List Int} (h : IntsAt N w v l) (b : Below w.heap.size w w') : IntsAt N w' v l :=
  ⟨ownsRow_kept h.own (fun k hk => b.block k (h.new k hk).2), fun g hg => ⟨(h.new g hg).1, Nat.lt_of_lt_of_le (h.new g hg).2 b.size⟩⟩
theorem IntsAt.more {N : Nat} {w : World} {o : Option Addr} {m c : Nat} {l : List Int} (h : IntsAt N w (.slice o m c) l) (hm : m = l.length) (hN : N ≤ w.heap.size) (x : Int) (hs : l.length ≤ 1000000) :
    ∃ g d w1, (Builtin.append_ #[64, 64] 64 #[.slice o m c, .slice (some ⟨w.heap.size, 0, none⟩) 1 1]).run Try.prog (w.alloc (.cells #[.int .i64 x] 3)) = .ok (.slice (some ⟨g, 0, none⟩) (m + 1) d) w1 ∧ IntsAt N w1 (.slice (some ⟨g, 0, none⟩) (m + 1) d) (l ++ [x]) ∧ Below N w w1 := by
  subst hm
  have hw2 : (w.alloc (.cells #[.int .i64 x] 3)).ownsRow 0 3 1 (.slice o l.length c) l.length (ivs l) := World.ownsRow.alloc h.own _
  obtain ⟨g, cap, w1, a1, a2, a3, a4, a5⟩ := append_int hw2 w.heap.size x ((CellsF.at (w := w) [.int .i64 x] 3 (by simp) rfl).cs 0 _ rfl) hs
  have hz : (w.alloc (.cells #[.int .i64 x] 3)).heap.size = w.heap.size + 1 := by simp
  refine ⟨g, cap, w1, a1, ⟨a2, fun g' hg' => ?_⟩, ?_⟩
  · cases hg'
    refine ⟨?_, a5⟩
    rcases a4 with e | e
    · exact (h.new g e).1
    · rw [e, hz]; exact Nat.le_succ_of_le hN
  · have hst : Stay (fun k => k < N) w w1 := ((Stay.refl _ w).alloc (fun i hi => Nat.lt_of_lt_of_le hi hN) _).grown a3 (fun i hi => Nat.lt_of_lt_of_le hi hN) (fun b hb hlt => by have h9 : N ≤ b := (h.new b hb).1; exact absurd hlt (Nat.not_lt_of_le h9))
    exact hst.to_below
theorem heldOf_le (H : List Hld) (sku loc : ByteArray) : (heldOf H sku loc).length ≤ H.length := by unfold heldOf; rw [List.length_map]; exact List.length_filter_le _ _
theorem movedOf_le (M : List Mov) (sku loc : ByteArray) : (movedOf M sku loc).length ≤ M.length := by unfold movedOf; rw [List.length_map]; exact List.length_filter_le _ _
theorem heldOf_fit {H : List Hld} (h : ∀ x, x ∈ H → x.fit) (sku loc : ByteArray) : ∀ x, x ∈ heldOf H sku loc → i64b x := fun x hx => by
  unfold heldOf at hx
  obtain ⟨y, hy, rfl⟩ := List.mem_map.1 hx
  exact (h y (List.mem_filter.1 hy).1).qty
theorem movedOf_fit {M : List Mov} (h : ∀ x, x ∈ M → x.fit) (sku loc : ByteArray) : ∀ x, x ∈ movedOf M sku loc → i64b x := fun x hx => by
  unfold movedOf at hx
  obtain ⟨y, hy, rfl⟩ := List.mem_map.1 hx
  exact (h y (List.mem_filter.1 hy).1).delta
def sumsP (L : Led) (x : Stk) : Prop := (heldOf L.H x.sku x.loc).sum = x.held ∧ (movedOf L.M x.sku x.loc).sum = x.on
instance (L : Led) (x : Stk) : Decidable (sumsP L x) := by unfold sumsP; infer_instance
set_option maxHeartbeats 4000000 in
theorem sums_is (a0 : Option Addr) (n0 c0 : Nat) (a1 : Option Addr) (n1 c1 : Nat) (a2 : Option Addr) (n2 c2 : Nat) (ops : Int) (L : Led) (h1 : L.H.length = n1) (h2 : L.M.length = n2) (m1 : n1 ≤ 4096) (m2 : n2 ≤ 4096) (hf : L.fit) (s : Stk) (hsf : s.fit) (w : World) (hr : Lies w a0 a1 a2 L) :
    Calls Try.prog 33 #[.agg #[.slice a0 n0 c0, .slice a1 n1 c1, .slice a2 n2 c2, .int .i64 ops], .agg #[.string s.sku, .string s.loc, .int .i64 s.on, .int .i64 s.held]] w fun e w' => e = .returned (.bool (decide (sumsP L s))) ∧ Below w.heap.size w w' := by
  obtain ⟨z, hz⟩ : ∃ z, decide (sumsP L s) = z := ⟨_, rfl⟩
  rw [hz]
  have HNO : Hid (¬ sumsP L s → z = false) := fun q => by rw [← hz]; exact decide_eq_false q
  have HYES : Hid (sumsP L s → z = true) := fun q => by rw [← hz]; exact decide_eq_true q
  obtain ⟨W, hW⟩ : ∃ W, (w.alloc (.cells #[.slice a0 n0 c0, .slice a1 n1 c1, .slice a2 n2 c2, .int .i64 ops] 26)).alloc (.cells #[.string s.sku, .string s.loc, .int .i64 s.on, .int .i64 s.held] 50) = W := ⟨_, rfl⟩
  have hB : Below w.heap.size w W := hW ▸ below2 _ _ _
  have hL : CellsF W w.heap.size [.slice a0 n0 c0, .slice a1 n1 c1, .slice a2 n2 c2, .int .i64 ops] := by rw [← hW]; exact (CellsF.at _ 26 (by simp) rfl).next (below1 _ _)
  have hS : CellsF W (w.heap.size + 1) [.string s.sku, .string s.loc, .int .i64 s.on, .int .i64 s.held] := by rw [← hW]; exact CellsF.at _ 50 (by simp) (by rw [size_alloc])
  have HL : Hid (L.H.length = n1 ∧ L.M.length = n2 ∧ L.fit ∧ s.fit) := ⟨h1, h2, hf, hsf⟩
  have HR : Hid (Lies W a0 a1 a2 L) := hr.next hB
  have HB : Hid (Below w.heap.size w W) := hB
  have HC : Hid (CellsF W w.heap.size [.slice a0 n0 c0, .slice a1 n1 c1, .slice a2 n2 c2, .int .i64 ops] ∧ CellsF W (w.heap.size + 1) [.string s.sku, .string s.loc, .int .i64 s.on, .int .i64 s.held]) := ⟨hL, hS⟩
  obtain ⟨ss, sl, so, sh⟩ := s
  dsimp only at hW HC
  clear hz h1 h2 hr hB hL hS hf hsf
  go_enter Try.func33, Try.ntmps33
  go_wp2_with fail
  try rw [hW]
  clear hW
  go_loopw [5, 7] (fun vl vi wr => ∃ (k : Nat) (o : Option Addr) (m c : Nat), k ≤ n1 ∧ vi = .int .i64 k ∧ vl = .slice o m c ∧ Hid (m = (heldOf (L.H.take k) ss sl).length ∧ IntsAt W.heap.size wr (.slice o m c) (heldOf (L.H.take k) ss sl) ∧ Below W.heap.size W wr))
    (fun _ vi _ => n1 - (intOf vi).toNat)
  case atStart => exact ⟨0, none, 0, 0, Nat.zero_le _, rfl, rfl, rfl, IntsAt.void _ _, Below.refl _ _⟩
  case round =>
    obtain ⟨k, o, m, c, hk, rfl, rfl, HI⟩ := hrel
    have l1 := (HC.out.1.next HI.out.2.2).cs 1 _ rfl
    have l2 := (HC.out.1.next HI.out.2.2).cs 2 _ rfl
    by_cases hlt : k < n1
    · have hlti : (k : Int) < (n1 : Int) := by omega
      have hkl : k < L.H.length := by have := HL.out.1; omega
      obtain ⟨b, p, rfl, hb, hc⟩ := HR.out.H.hld (fun e => by rw [e] at hkl; simp at hkl)
      have hx := (hc k hkl).next (HI.out.2.2.block b hb)
      have HSN : Hid _ := heldOf_snoc L.H k hkl ss sl
      have HLE : Hid ((heldOf (L.H.take k) ss sl).length ≤ 1000000) := by
        have h3 := heldOf_le (L.H.take k) ss sl
        have h4 : (L.H.take k).length ≤ 4096 := by rw [List.length_take]; omega
        show _ ≤ _
        omega
      generalize L.H[k] = x at hx HSN
      obtain ⟨xi, xs, xl, xq, xt, xd⟩ := x
      obtain ⟨x0, x1, x2, x3, x4, x5⟩ := hx
      dsimp only at x0 x1 x2 x3 x4 x5 HSN
      clear hc hb
      obtain ⟨W2, hW2⟩ : ∃ W2, wr.alloc (.cells #[.int .i64 xi, .string xs, .string xl, .int .i64 xq, .int .i64 xt, .int .i64 xd] 44) = W2 := ⟨_, rfl⟩
      have hB2 : Below wr.heap.size wr W2 := hW2 ▸ below1 _ _
      have hC2 : CellsF W2 wr.heap.size [.int .i64 xi, .string xs, .string xl, .int .i64 xq, .int .i64 xt, .int .i64 xd] := by rw [← hW2]; exact CellsF.at _ 44 (by simp) rfl
      have y1 := hC2.cs 1 _ rfl
      have y2 := hC2.cs 2 _ rfl
      have y3 := hC2.cs 3 _ rfl
      have y4 := hC2.cs 4 _ rfl
      have hBW : Below W.heap.size W W2 := Below.next HI.out.2.2 hB2
      have s0 := (HC.out.2.next hBW).cs 0 _ rfl
      have s1 := (HC.out.2.next hBW).cs 1 _ rfl
      have HBW : Hid (Below W.heap.size W W2) := hBW
      have HI2 : Hid (IntsAt W.heap.size W2 (.slice o m c) (heldOf (L.H.take k) ss sl)) := HI.out.2.1.next hB2
      have HMM : Hid (m = (heldOf (L.H.take k) ss sl).length) := HI.out.1
      clear hB2 hC2 hBW
      by_cases q0 : xs = ss
      · subst q0
        by_cases q1 : xl = sl
        · subst q1
          by_cases q2 : xt = 0
          · subst q2
            rw [if_pos ⟨rfl, rfl, rfl⟩] at HSN
            obtain ⟨g, d, w3, RA, RI, RB⟩ := HI2.out.more HMM.out HBW.out.size xq HLE.out
            have HRA : Hid _ := RA
            have HRI : Hid (m + 1 = (heldOf (L.H.take (k + 1)) xs xl).length ∧ IntsAt W.heap.size w3 (.slice (some ⟨g, 0, none⟩) (m + 1) d) (heldOf (L.H.take (k + 1)) xs xl) ∧ Below W.heap.size W w3) := ⟨by rw [HSN.out, List.length_append, ← HMM.out]; rfl, by rw [HSN.out]; exact RI, HBW.out.trans RB⟩
            clear RA RI RB
            go_wp2_with (first | ((with_reducible apply st_append (x := .tmp 43)); (case ho => rfl); (case hgd => rfl); (case hr => exact HRA.out)))
            go_roundw
            case rel => exact ⟨k + 1, _, _, _, by omega, by go_num, rfl, HRI.out⟩
            case measure => simp [intOf]; omega
          · rw [if_neg (fun e => q2 e.1), List.append_nil] at HSN
            have HNX : Hid (m = (heldOf (L.H.take (k + 1)) xs xl).length ∧ IntsAt W.heap.size W2 (.slice o m c) (heldOf (L.H.take (k + 1)) xs xl) ∧ Below W.heap.size W W2) := by rw [HSN.out]; exact ⟨HMM.out, HI2.out, HBW.out⟩
            go_wp2_with fail
            go_roundw
            case rel => exact ⟨k + 1, _, _, _, by omega, by go_num, rfl, HNX.out⟩
            case measure => simp [intOf]; omega
        · rw [if_neg (fun e => q1 e.2.2), List.append_nil] at HSN
          have HNX : Hid (m = (heldOf (L.H.take (k + 1)) xs sl).length ∧ IntsAt W.heap.size W2 (.slice o m c) (heldOf (L.H.take (k + 1)) xs sl) ∧ Below W.heap.size W W2) := by rw [HSN.out]; exact ⟨HMM.out, HI2.out, HBW.out⟩
          have b1 := byte_bne q1
          go_wp2_with fail
          go_roundw
          case rel => exact ⟨k + 1, _, _, _, by omega, by go_num, rfl, HNX.out⟩
          case measure => simp [intOf]; omega
      · rw [if_neg (fun e => q0 e.2.1), List.append_nil] at HSN
        have HNX : Hid (m = (heldOf (L.H.take (k + 1)) ss sl).length ∧ IntsAt W.heap.size W2 (.slice o m c) (heldOf (L.H.take (k + 1)) ss sl) ∧ Below W.heap.size W W2) := by rw [HSN.out]; exact ⟨HMM.out, HI2.out, HBW.out⟩
        have b0 := byte_bne q0
        go_wp2_with fail
        go_roundw
        case rel => exact ⟨k + 1, _, _, _, by omega, by go_num, rfl, HNX.out⟩
        case measure => simp [intOf]; omega
    · have hkn : k = n1 := by omega
      have hall : L.H.take k = L.H := List.take_of_length_le (by have := HL.out.1; omega)
      have HI1 : Hid (m = (heldOf L.H ss sl).length ∧ IntsAt W.heap.size wr (.slice o m c) (heldOf L.H ss sl) ∧ Below W.heap.size W wr) := by have := HI.out; rw [hall] at this; exact this
      clear HI hall
      have hlti : ¬ (k : Int) < (n1 : Int) := by omega
      go_wp2_with fail
      have HW1 : Hid (Below W.heap.size W wr) := HI1.out.2.2
      rename World => W1
      have HC1 : Hid (CellsF W1 w.heap.size [.slice a0 n0 c0, .slice a1 n1 c1, .slice a2 n2 c2, .int .i64 ops] ∧ CellsF W1 (w.heap.size + 1) [.string ss, .string sl, .int .i64 so, .int .i64 sh]) := ⟨HC.out.1.next HW1.out, HC.out.2.next HW1.out⟩
      have HR1 : Hid (Lies W1 a0 a1 a2 L) := HR.out.next HW1.out
      clear l1 l2 hlti hkn hk
      go_loopw [6, 9] (fun vl vi wr => ∃ (j : Nat) (o : Option Addr) (m c : Nat), j ≤ n2 ∧ vi = .int .i64 j ∧ vl = .slice o m c ∧ Hid (m = (movedOf (L.M.take j) ss sl).length ∧ IntsAt W1.heap.size wr (.slice o m c) (movedOf (L.M.take j) ss sl) ∧ Below W1.heap.size W1 wr))
        (fun _ vi _ => n2 - (intOf vi).toNat)
      case atStart => exact ⟨0, none, 0, 0, Nat.zero_le _, rfl, rfl, rfl, IntsAt.void _ _, Below.refl _ _⟩
      case round =>
        obtain ⟨j, o', m', c', hj, rfl, rfl, HJ⟩ := hrel
        have l2 := (HC1.out.1.next HJ.out.2.2).cs 2 _ rfl
        have s0 := (HC1.out.2.next HJ.out.2.2).cs 0 _ rfl
        have s1 := (HC1.out.2.next HJ.out.2.2).cs 1 _ rfl
        by_cases hlt : j < n2
        · have hlti : (j : Int) < (n2 : Int) := by omega
          have hjl : j < L.M.length := by have := HL.out.2.1; omega
          obtain ⟨b, p, rfl, hb, hc⟩ := HR1.out.M.mov (fun e => by rw [e] at hjl; simp at hjl)
          have hx := (hc j hjl).next (HJ.out.2.2.block b hb)
          have HSN : Hid _ := movedOf_snoc L.M j hjl ss sl
          have HLE : Hid ((movedOf (L.M.take j) ss sl).length ≤ 1000000) := by
            have h3 := movedOf_le (L.M.take j) ss sl
            have h4 : (L.M.take j).length ≤ 4096 := by rw [List.length_take]; omega
            show _ ≤ _
            omega
          generalize L.M[j] = x at hx HSN
          obtain ⟨xi, xs, xl, xq, xt, xd⟩ := x
          obtain ⟨x0, x1, x2, x3, x4, x5⟩ := hx
          dsimp only at x0 x1 x2 x3 x4 x5 HSN
          clear hc hb
          have HMM : Hid (m' = (movedOf (L.M.take j) ss sl).length) := HJ.out.1
          by_cases q0 : xs = ss
          · subst q0
            by_cases q1 : xl = sl
            · subst q1
              rw [if_pos ⟨rfl, rfl⟩] at HSN
              go_wp2_with fail
              go_quiet (fail)
              have hdn : Below wr.heap.size wr (wr.drewN nq) := ⟨rfl, rfl, rfl, Nat.le_refl _, fun _ _ => rfl⟩
              obtain ⟨g, d, w3, RA, RI, RB⟩ := (HJ.out.2.1.next hdn).more HMM.out (Nat.le_trans HJ.out.2.2.size hdn.size) xq HLE.out
              have HRA : Hid _ := RA
              have HRI : Hid (m' + 1 = (movedOf (L.M.take (j + 1)) xs xl).length ∧ IntsAt W1.heap.size w3 (.slice (some ⟨g, 0, none⟩) (m' + 1) d) (movedOf (L.M.take (j + 1)) xs xl) ∧ Below W1.heap.size W1 w3) := ⟨by rw [HSN.out, List.length_append, ← HMM.out]; rfl, by rw [HSN.out]; exact RI, (Below.next HJ.out.2.2 hdn).trans RB⟩
              clear RA RI RB hdn
              go_wp2_with (first | ((with_reducible apply st_append (x := .tmp 75)); (case ho => rfl); (case hgd => rfl); (case hr => exact HRA.out)))
              go_roundw
              case rel => exact ⟨j + 1, _, _, _, by omega, by go_num, rfl, HRI.out⟩
              case measure => simp [intOf]; omega
            · rw [if_neg (fun e => q1 e.2), List.append_nil] at HSN
              have HNX : Hid (∀ n, m' = (movedOf (L.M.take (j + 1)) xs sl).length ∧ IntsAt W1.heap.size (wr.drewN n) (.slice o' m' c') (movedOf (L.M.take (j + 1)) xs sl) ∧ Below W1.heap.size W1 (wr.drewN n)) := fun n => by
                  have hdn : Below wr.heap.size wr (wr.drewN n) := ⟨rfl, rfl, rfl, Nat.le_refl _, fun _ _ => rfl⟩
                  rw [HSN.out]; exact ⟨HMM.out, HJ.out.2.1.next hdn, Below.next HJ.out.2.2 hdn⟩
              have b1 := byte_bne q1
              go_wp2_with fail
              go_quiet (fail)
              go_wp2_with fail
              go_roundw
              case rel => exact ⟨j + 1, _, _, _, by omega, by go_num, rfl, HNX.out _⟩
              case measure => simp [intOf]; omega
          · rw [if_neg (fun e => q0 e.1), List.append_nil] at HSN
            have HNX : Hid (∀ n, m' = (movedOf (L.M.take (j + 1)) ss sl).length ∧ IntsAt W1.heap.size (wr.drewN n) (.slice o' m' c') (movedOf (L.M.take (j + 1)) ss sl) ∧ Below W1.heap.size W1 (wr.drewN n)) := fun n => by
                  have hdn : Below wr.heap.size wr (wr.drewN n) := ⟨rfl, rfl, rfl, Nat.le_refl _, fun _ _ => rfl⟩
                  rw [HSN.out]; exact ⟨HMM.out, HJ.out.2.1.next hdn, Below.next HJ.out.2.2 hdn⟩
            have b0 := byte_bne q0
            go_wp2_with fail
            go_quiet (fail)
            go_wp2_with fail
            go_roundw
            case rel => exact ⟨j + 1, _, _, _, by omega, by go_num, rfl, HNX.out _⟩
            case measure => simp [intOf]; omega
        · have hall : L.M.take j = L.M := List.take_of_length_le (by have := HL.out.2.1; omega)
          have HJ1 : Hid (m' = (movedOf L.M ss sl).length ∧ IntsAt W1.heap.size wr (.slice o' m' c') (movedOf L.M ss sl) ∧ Below W1.heap.size W1 wr) := by have := HJ.out; rw [hall] at this; exact this
          clear HJ hall
          have hlti : ¬ (j : Int) < (n2 : Int) := by omega
          have HLH : Hid ((heldOf L.H ss sl).length ≤ 1000000 ∧ (movedOf L.M ss sl).length ≤ 1000000) := by
            have h3 := heldOf_le L.H ss sl
            have h4 := movedOf_le L.M ss sl
            have := HL.out.1; have := HL.out.2.1
            show _ ∧ _
            omega
          have HS1 : Hid _ := refSum_own (.slice o m c) _ wr (HI1.out.2.1.next HJ1.out.2.2).own HLH.out.1 (heldOf_fit HL.out.2.2.1.H ss sl)
          have HS2 : Hid (∀ w', Below wr.heap.size wr w' → Calls Try.prog 36 #[.slice o' m' c'] w' fun e w'' => e = .returned (.tuple #[.int .i64 (vl (movedOf L.M ss sl).sum), .int .i64 (er (movedOf L.M ss sl).sum)]) ∧ Below w'.heap.size w' w'') := fun w' b => refSum_own (.slice o' m' c') _ w' (HJ1.out.2.1.next b).own HLH.out.2 (movedOf_fit HL.out.2.2.1.M ss sl)
          have HBV : Hid (∀ w' w'', Below wr.heap.size wr w' → Below w'.heap.size w' w'' → CellsF w'' (w.heap.size + 1) [.string ss, .string sl, .int .i64 so, .int .i64 sh] ∧ Below w.heap.size w w'') := fun w' w'' h1 h2 => ⟨((HC1.out.2.next HJ1.out.2.2).next h1).next h2, Below.next (Below.next (Below.next (Below.next HB.out HW1.out) HJ1.out.2.2) h1) h2⟩
          have HSB : Hid (i64b sh ∧ i64b so) := ⟨HL.out.2.2.2.held, HL.out.2.2.2.on⟩
          have HNO' : Hid (¬ ((heldOf L.H ss sl).sum = sh ∧ (movedOf L.M ss sl).sum = so) → z = false) := HNO.out
          have HYES' : Hid ((heldOf L.H ss sl).sum = sh ∧ (movedOf L.M ss sl).sum = so → z = true) := HYES.out
          clear HNO HYES HI1 HJ1 HLH s0 s1
          obtain ⟨p, hp⟩ : ∃ p, (heldOf L.H ss sl).sum = p := ⟨_, rfl⟩
          obtain ⟨q, hq⟩ : ∃ q, (movedOf L.M ss sl).sum = q := ⟨_, rfl⟩
          rw [hp] at HS1
          rw [hq] at HS2
          rw [hp, hq] at HNO' HYES'
          clear hp hq
          by_cases r1 : -9223372036854775808 ≤ p ∧ p ≤ 9223372036854775807
          · rw [(vl_in r1).1, (vl_in r1).2] at HS1
            by_cases r2 : -9223372036854775808 ≤ q ∧ q ≤ 9223372036854775807
            · rw [(vl_in r2).1, (vl_in r2).2] at HS2
              by_cases e1 : p = sh
              · by_cases e2 : q = so
                · have HE : Hid (z = true) := HYES'.out ⟨e1, e2⟩
                  go_wp2_with fail
                  refine Calls.mono HS1.out ?_; rintro e w5 ⟨rfl, k5⟩
                  have HK5 : Hid (Below wr.heap.size wr w5) := k5
                  clear k5
                  go_wp2_with fail
                  refine Calls.mono (HS2.out _ HK5.out) ?_; rintro e w6 ⟨rfl, k6⟩
                  have hfin := HBV.out _ _ HK5.out k6
                  have t2 := hfin.1.cs 2 _ rfl
                  have t3 := hfin.1.cs 3 _ rfl
                  have HF : Hid (Below w.heap.size w w6) := hfin.2
                  clear k6 hfin
                  subst e1
                  subst e2
                  go_wp2_with fail
                  go_ret
                  exact ⟨by rw [HE.out]; rfl, HF.out⟩
                · have HE : Hid (z = false) := HNO'.out (fun e => e2 e.2)
                  have hqs : (q == so) = false := by simpa using e2
                  go_wp2_with fail
                  refine Calls.mono HS1.out ?_; rintro e w5 ⟨rfl, k5⟩
                  have HK5 : Hid (Below wr.heap.size wr w5) := k5
                  clear k5
                  go_wp2_with fail
                  refine Calls.mono (HS2.out _ HK5.out) ?_; rintro e w6 ⟨rfl, k6⟩
                  have hfin := HBV.out _ _ HK5.out k6
                  have t2 := hfin.1.cs 2 _ rfl
                  have t3 := hfin.1.cs 3 _ rfl
                  have HF : Hid (Below w.heap.size w w6) := hfin.2
                  clear k6 hfin
                  subst e1
                  go_wp2_with fail
                  go_ret
                  exact ⟨by rw [HE.out]; rfl, HF.out⟩
              · have HE : Hid (z = false) := HNO'.out (fun e => e1 e.1)
                go_wp2_with fail
                refine Calls.mono HS1.out ?_; rintro e w5 ⟨rfl, k5⟩
                have HK5 : Hid (Below wr.heap.size wr w5) := k5
                clear k5
                go_wp2_with fail
                refine Calls.mono (HS2.out _ HK5.out) ?_; rintro e w6 ⟨rfl, k6⟩
                have hfin := HBV.out _ _ HK5.out k6
                have t2 := hfin.1.cs 2 _ rfl
                have t3 := hfin.1.cs 3 _ rfl
                have HF : Hid (Below w.heap.size w w6) := hfin.2
                clear k6 hfin
                go_wp2_with fail
                go_ret
                exact ⟨by rw [HE.out]; rfl, HF.out⟩
            · rw [(vl_out r2).1, (vl_out r2).2] at HS2
              have HE : Hid (z = false) := HNO'.out (fun e => r2 (by rw [e.2]; exact HSB.out.2))
              go_wp2_with fail
              refine Calls.mono HS1.out ?_; rintro e w5 ⟨rfl, k5⟩
              have HK5 : Hid (Below wr.heap.size wr w5) := k5
              clear k5
              go_wp2_with fail
              refine Calls.mono (HS2.out _ HK5.out) ?_; rintro e w6 ⟨rfl, k6⟩
              have HF : Hid (Below w.heap.size w w6) := (HBV.out _ _ HK5.out k6).2
              clear k6
              go_wp2_with fail
              go_ret
              exact ⟨by rw [HE.out]; rfl, HF.out⟩
          · rw [(vl_out r1).1, (vl_out r1).2] at HS1
            have HE : Hid (z = false) := HNO'.out (fun e => r1 (by rw [e.1]; exact HSB.out.1))
            go_wp2_with fail
            refine Calls.mono HS1.out ?_; rintro e w5 ⟨rfl, k5⟩
            have HK5 : Hid (Below wr.heap.size wr w5) := k5
            clear k5
            go_wp2_with fail
            refine Calls.mono (HS2.out _ HK5.out) ?_; rintro e w6 ⟨rfl, k6⟩
            have HF : Hid (Below w.heap.size w w6) := (HBV.out _ _ HK5.out k6).2
            clear k6
            go_wp2_with fail
            go_ret
            exact ⟨by rw [HE.out]; rfl, HF.out⟩
end Go.Proofs.Ytflbcheofmljeaa

namespace Go.Proofs.Ytflbcheofmljeaa
open Go.ChangeShapes Go.WideShapes Go.RowKit
set_option linter.unusedVariables false
set_option maxRecDepth 100000

def okRH (S : List Stk) (k : Nat) (x : Hld) : Prop := okH k x ∧ (x.st = 0 → hasK S x.sku x.loc = true)
instance (S : List Stk) (k : Nat) (x : Hld) : Decidable (okRH S k x) := by unfold okRH; infer_instance
def mayRH (L : Led) : Prop := ∀ i (h : i < L.H.length), okRH L.S i L.H[i]
instance (L : Led) : Decidable (mayRH L) := by unfold mayRH; infer_instance
def okRM (S : List Stk) (k : Nat) (x : Mov) : Prop := okM k x ∧ hasK S x.sku x.loc = true
instance (S : List Stk) (k : Nat) (x : Mov) : Decidable (okRM S k x) := by unfold okRM; infer_instance
def mayRM (L : Led) : Prop := ∀ i (h : i < L.M.length), okRM L.S i L.M[i]
instance (L : Led) : Decidable (mayRM L) := by unfold mayRM; infer_instance
theorem wrap_pred {x : Int} (hx : i64b x) {k : Nat} (hk : k ≤ 1000000000000) (h : ¬ x = (k : Int) + 1) : ¬ IntKind.i64.wrap (x - 1) = (k : Int) := by
  unfold i64b at hx
  rw [IntKind.wrap_i64]
  omega
theorem wrap_succ (k : Nat) (hk : k ≤ 1000000000000) : IntKind.i64.wrap ((k : Int) + 1 - 1) = (k : Int) := by
  rw [IntKind.wrap_i64]
  omega
set_option maxHeartbeats 4000000 in
theorem rholds_is (a0 : Option Addr) (n0 c0 : Nat) (a1 : Option Addr) (n1 c1 : Nat) (a2 : Option Addr) (n2 c2 : Nat) (ops : Int) (L : Led) (h0 : L.S.length = n0) (h1 : L.H.length = n1) (m0 : n0 ≤ 1000000000000) (m1 : n1 ≤ 1000000000000) (hf : L.fit) (w : World) (hr : Lies w a0 a1 a2 L) :
    Calls Try.prog 34 #[.agg #[.slice a0 n0 c0, .slice a1 n1 c1, .slice a2 n2 c2, .int .i64 ops]] w fun e w' => e = .returned (.bool (decide (mayRH L))) ∧ Below w.heap.size w w' := by
  obtain ⟨z, hz⟩ : ∃ z, decide (mayRH L) = z := ⟨_, rfl⟩
  rw [hz]
  have HZ : Hid (decide (mayRH L) = z) := hz
  obtain ⟨W, hW⟩ : ∃ W, w.alloc (.cells #[.slice a0 n0 c0, .slice a1 n1 c1, .slice a2 n2 c2, .int .i64 ops] 26) = W := ⟨_, rfl⟩
  have hB : Below w.heap.size w W := hW ▸ below1 _ _
  have HC : Hid (CellsF W w.heap.size [.slice a0 n0 c0, .slice a1 n1 c1, .slice a2 n2 c2, .int .i64 ops]) := by show CellsF _ _ _; rw [← hW]; exact CellsF.at _ 26 (by simp) rfl
  have HL : Hid (L.S.length = n0 ∧ L.H.length = n1 ∧ L.fit) := ⟨h0, h1, hf⟩
  have HR : Hid (Lies W a0 a1 a2 L) := hr.next hB
  have HB : Hid (Below w.heap.size w W) := hB
  clear hz h0 h1 hr hB hf
  go_enter Try.func34, Try.ntmps34
  go_wp2_with fail
  try rw [hW]
  clear hW
  go_loopw [3] (fun vi wr => ∃ k : Nat, k ≤ n1 ∧ vi = .int .i64 k ∧ Hid (Below W.heap.size W wr ∧ ∀ i (h : i < L.H.length), i < k → okRH L.S i L.H[i]))
    (fun vi _ => n1 - (intOf vi).toNat)
  case atStart => exact ⟨0, Nat.zero_le _, rfl, Below.refl _ _, fun i h q => absurd q (Nat.not_lt_zero _)⟩
  case round =>
    obtain ⟨k, hk, rfl, HI⟩ := hrel
    have l0 := (HC.out.next HI.out.1).cs 0 _ rfl
    have l1 := (HC.out.next HI.out.1).cs 1 _ rfl
    have l2 := (HC.out.next HI.out.1).cs 2 _ rfl
    have l3 := (HC.out.next HI.out.1).cs 3 _ rfl
    by_cases hlt : k < n1
    · have hlti : (k : Int) < (n1 : Int) := by omega
      have hkl : k < L.H.length := by have := HL.out.2.1; omega
      obtain ⟨b, o, ha, hb, hc⟩ := HR.out.H.hld (fun e => by rw [e] at hkl; simp at hkl)
      have hx := (hc k hkl).next (HI.out.1.block b hb)
      obtain ⟨x, hxk⟩ : ∃ x, L.H[k] = x := ⟨_, rfl⟩
      rw [hxk] at hx
      have HX : Hid (L.H[k] = x) := hxk
      have HFI : Hid (x.fit) := by show x.fit; rw [← hxk]; exact HL.out.2.2.H _ (List.getElem_mem hkl)
      have HNO : Hid (¬ okRH L.S k x → z = false) := fun q => by rw [← HZ.out]; exact decide_eq_false (fun e => q (HX.out ▸ e _ hkl))
      have HIX : Hid (∀ (sku loc : ByteArray) w', Below wr.heap.size wr w' → Calls Try.prog 57 #[.agg #[.slice a0 n0 c0, .slice a1 n1 c1, .slice a2 n2 c2, .int .i64 ops], .string sku, .string loc] w' fun e w'' => e = .returned (.int .i64 (if hasK L.S sku loc then (idxK L.S sku loc : Nat) else -1)) ∧ Below w'.heap.size w' w'') := fun sku loc w' b => index_is a0 n0 c0 a1 n1 c1 a2 n2 c2 ops L.S HL.out.1 m0 sku loc w' ((HR.out.next HI.out.1).next b).S
      have HNX : Hid (okRH L.S k x → ∀ i (h : i < L.H.length), i < k + 1 → okRH L.S i L.H[i]) := fun q i h p => by
        by_cases c : i = k
        · subst c; rw [HX.out]; exact q
        · exact HI.out.2 i h (by omega)
      subst ha
      clear hc hb hxk
      obtain ⟨xi, xs, xl, xq, xt, xd⟩ := x
      obtain ⟨x0, x1, x2, x3, x4, x5⟩ := hx
      dsimp only at x0 x1 x2 x3 x4 x5
      have HN1 : Hid _ := fun w => refName_is xs w
      have HN2 : Hid _ := fun w => refName_is xl w
      by_cases q0 : xi = (k : Int) + 1
      · subst q0
        have wk := wrap_succ k (by omega)
        obtain ⟨W2, hW2⟩ : ∃ W2, wr.alloc (.cells #[.int .i64 ((k : Int) + 1), .string xs, .string xl, .int .i64 xq, .int .i64 xt, .int .i64 xd] 44) = W2 := ⟨_, rfl⟩
        have hB2 : Below wr.heap.size wr W2 := hW2 ▸ below1 _ _
        have hC2 : CellsF W2 wr.heap.size [.int .i64 ((k : Int) + 1), .string xs, .string xl, .int .i64 xq, .int .i64 xt, .int .i64 xd] := by rw [← hW2]; exact CellsF.at _ 44 (by simp) rfl
        have y0 := hC2.cs 0 _ rfl
        have y1 := hC2.cs 1 _ rfl
        have y2 := hC2.cs 2 _ rfl
        have y3 := hC2.cs 3 _ rfl
        have y4 := hC2.cs 4 _ rfl
        have y5 := hC2.cs 5 _ rfl
        have HB2 : Hid (Below wr.heap.size wr W2) := hB2
        have HBW : Hid (Below w.heap.size w W2) := Below.next (Below.next HB.out HI.out.1) hB2
        have m0' := (HC.out.next (Below.next HI.out.1 hB2)).cs 0 _ rfl
        have m1' := (HC.out.next (Below.next HI.out.1 hB2)).cs 1 _ rfl
        have m2' := (HC.out.next (Below.next HI.out.1 hB2)).cs 2 _ rfl
        have m3' := (HC.out.next (Below.next HI.out.1 hB2)).cs 3 _ rfl
        clear hB2 hC2
        by_cases q1 : name xs
        · rw [decide_eq_true q1] at HN1
          by_cases q2 : name xl
          · rw [decide_eq_true q2] at HN2
            by_cases q3 : xq < 1
            · have HE : Hid (z = false) := HNO.out (fun e => by have := e.1.2.2.2.1; dsimp only at this; omega)
              go_wp2_with fail
              refine Calls.mono (HN1.out _) ?_; rintro e w1 ⟨rfl, rfl⟩
              go_wp2_with fail
              refine Calls.mono (HN2.out _) ?_; rintro e w1 ⟨rfl, rfl⟩
              go_wp2_with fail
              go_ret
              exact ⟨by rw [HE.out]; rfl, HBW.out⟩
            · skip
              by_cases q4 : xt < 0
              · have HE : Hid (z = false) := HNO.out (fun e => by have := e.1.2.2.2.2.2.1; dsimp only at this; omega)
                go_wp2_with fail
                refine Calls.mono (HN1.out _) ?_; rintro e w1 ⟨rfl, rfl⟩
                go_wp2_with fail
                refine Calls.mono (HN2.out _) ?_; rintro e w1 ⟨rfl, rfl⟩
                go_wp2_with fail
                go_ret
                exact ⟨by rw [HE.out]; rfl, HBW.out⟩
              · skip
                by_cases q5 : 2 < xt
                · have HE : Hid (z = false) := HNO.out (fun e => by have := e.1.2.2.2.2.2.2; dsimp only at this; omega)
                  go_wp2_with fail
                  refine Calls.mono (HN1.out _) ?_; rintro e w1 ⟨rfl, rfl⟩
                  go_wp2_with fail
                  refine Calls.mono (HN2.out _) ?_; rintro e w1 ⟨rfl, rfl⟩
                  go_wp2_with fail
                  go_ret
                  exact ⟨by rw [HE.out]; rfl, HBW.out⟩
                · skip
                  by_cases q6 : xd < 0
                  · have HE : Hid (z = false) := HNO.out (fun e => by have := e.1.2.2.2.2.1; dsimp only at this; omega)
                    go_wp2_with fail
                    refine Calls.mono (HN1.out _) ?_; rintro e w1 ⟨rfl, rfl⟩
                    go_wp2_with fail
                    refine Calls.mono (HN2.out _) ?_; rintro e w1 ⟨rfl, rfl⟩
                    go_wp2_with fail
                    go_ret
                    exact ⟨by rw [HE.out]; rfl, HBW.out⟩
                  · skip
                    have HOK : Hid (okH k ⟨(k : Int) + 1, xs, xl, xq, xt, xd⟩) := ⟨rfl, q1, q2, (show (1 : Int) ≤ xq by omega), (show (0 : Int) ≤ xd by omega), (show (0 : Int) ≤ xt by omega), (show xt ≤ (2 : Int) by omega)⟩
                    by_cases q7 : xt = 0
                    · subst q7
                      have HIC : Hid _ := HIX.out xs xl
                      by_cases q8 : hasK L.S xs xl = true
                      · rw [if_pos q8] at HIC
                        have HE : Hid (∀ i (h : i < L.H.length), i < k + 1 → okRH L.S i L.H[i]) := HNX.out ⟨HOK.out, fun _ => q8⟩
                        obtain ⟨px, hpx⟩ : ∃ px, idxK L.S xs xl = px := ⟨_, rfl⟩
                        rw [hpx] at HIC
                        clear hpx q8
                        have hp0 : ¬ ((px : Int) < 0) := by omega
                        go_wp2_with fail
                        refine Calls.mono (HN1.out _) ?_; rintro e w1 ⟨rfl, rfl⟩
                        go_wp2_with fail
                        refine Calls.mono (HN2.out _) ?_; rintro e w1 ⟨rfl, rfl⟩
                        go_wp2_with fail
                        refine Calls.mono (HIC.out _ HB2.out) ?_; rintro e w6 ⟨rfl, k6⟩
                        have HB6 : Hid (Below w.heap.size w w6 ∧ Below W.heap.size W w6) := ⟨Below.next HBW.out k6, Below.next (Below.next HI.out.1 HB2.out) k6⟩
                        clear k6
                        go_wp2_with fail
                        go_roundw
                        case rel => exact ⟨k + 1, by omega, by go_num, HB6.out.2, HE.out⟩
                        case measure => simp [intOf]; omega
                      · rw [if_neg q8] at HIC
                        have HE : Hid (z = false) := HNO.out (fun e => q8 (e.2 rfl))
                        clear q8
                        go_wp2_with fail
                        refine Calls.mono (HN1.out _) ?_; rintro e w1 ⟨rfl, rfl⟩
                        go_wp2_with fail
                        refine Calls.mono (HN2.out _) ?_; rintro e w1 ⟨rfl, rfl⟩
                        go_wp2_with fail
                        refine Calls.mono (HIC.out _ HB2.out) ?_; rintro e w6 ⟨rfl, k6⟩
                        have HB6 : Hid (Below w.heap.size w w6 ∧ Below W.heap.size W w6) := ⟨Below.next HBW.out k6, Below.next (Below.next HI.out.1 HB2.out) k6⟩
                        clear k6
                        go_wp2_with fail
                        go_ret
                        exact ⟨by rw [HE.out]; rfl, HB6.out.1⟩
                    · have HE : Hid (∀ i (h : i < L.H.length), i < k + 1 → okRH L.S i L.H[i]) := HNX.out ⟨HOK.out, fun e => absurd e q7⟩
                      have HBW2 : Hid (Below W.heap.size W W2) := Below.next HI.out.1 HB2.out
                      go_wp2_with fail
                      refine Calls.mono (HN1.out _) ?_; rintro e w1 ⟨rfl, rfl⟩
                      go_wp2_with fail
                      refine Calls.mono (HN2.out _) ?_; rintro e w1 ⟨rfl, rfl⟩
                      go_wp2_with fail
                      go_roundw
                      case rel => exact ⟨k + 1, by omega, by go_num, HBW2.out, HE.out⟩
                      case measure => simp [intOf]; omega
          · rw [decide_eq_false q2] at HN2
            have HE : Hid (z = false) := HNO.out (fun e => q2 e.1.2.2.1)
            go_wp2_with fail
            refine Calls.mono (HN1.out _) ?_; rintro e w1 ⟨rfl, rfl⟩
            go_wp2_with fail
            refine Calls.mono (HN2.out _) ?_; rintro e w1 ⟨rfl, rfl⟩
            go_wp2_with fail
            go_ret
            exact ⟨by rw [HE.out]; rfl, HBW.out⟩
        · rw [decide_eq_false q1] at HN1
          have HE : Hid (z = false) := HNO.out (fun e => q1 e.1.2.1)
          go_wp2_with fail
          refine Calls.mono (HN1.out _) ?_; rintro e w1 ⟨rfl, rfl⟩
          go_wp2_with fail
          go_ret
          exact ⟨by rw [HE.out]; rfl, HBW.out⟩
      · have HE : Hid (z = false) := HNO.out (fun e => q0 e.1.1)
        have hv : ¬ IntKind.i64.wrap (xi - 1) = (k : Int) := wrap_pred HFI.out.id (by omega) q0
        obtain ⟨v, hvv⟩ : ∃ v, IntKind.i64.wrap (xi - 1) = v := ⟨_, rfl⟩
        rw [hvv] at hv
        have hvb : (v != (k : Int)) = true := by simpa using hv
        obtain ⟨W2, hW2⟩ : ∃ W2, wr.alloc (.cells #[.int .i64 xi, .string xs, .string xl, .int .i64 xq, .int .i64 xt, .int .i64 xd] 44) = W2 := ⟨_, rfl⟩
        have hB2 : Below wr.heap.size wr W2 := hW2 ▸ below1 _ _
        have hC2 : CellsF W2 wr.heap.size [.int .i64 xi, .string xs, .string xl, .int .i64 xq, .int .i64 xt, .int .i64 xd] := by rw [← hW2]; exact CellsF.at _ 44 (by simp) rfl
        have y0 := hC2.cs 0 _ rfl
        have y1 := hC2.cs 1 _ rfl
        have y2 := hC2.cs 2 _ rfl
        have y3 := hC2.cs 3 _ rfl
        have y4 := hC2.cs 4 _ rfl
        have y5 := hC2.cs 5 _ rfl
        have HB2 : Hid (Below wr.heap.size wr W2) := hB2
        have HBW : Hid (Below w.heap.size w W2) := Below.next (Below.next HB.out HI.out.1) hB2
        have m0' := (HC.out.next (Below.next HI.out.1 hB2)).cs 0 _ rfl
        have m1' := (HC.out.next (Below.next HI.out.1 hB2)).cs 1 _ rfl
        have m2' := (HC.out.next (Below.next HI.out.1 hB2)).cs 2 _ rfl
        have m3' := (HC.out.next (Below.next HI.out.1 hB2)).cs 3 _ rfl
        clear hB2 hC2
        go_wp2_with fail
        go_ret
        exact ⟨by rw [HE.out]; rfl, HBW.out⟩
    · have hlti : ¬ (k : Int) < (n1 : Int) := by omega
      have HE : Hid (z = true) := by
        show z = true
        rw [← HZ.out]
        exact decide_eq_true (fun i hi => HI.out.2 i hi (by have := HL.out.2.1; omega))
      go_wp2_with fail
      go_ret
      exact ⟨by rw [HE.out]; rfl, Below.next HB.out HI.out.1⟩
end Go.Proofs.Ytflbcheofmljeaa

namespace Go.Proofs.Ytflbcheofmljeaa
open Go.ChangeShapes Go.WideShapes Go.RowKit
set_option linter.unusedVariables false
set_option maxRecDepth 100000

set_option maxHeartbeats 4000000 in
theorem rmoves_is (a0 : Option Addr) (n0 c0 : Nat) (a1 : Option Addr) (n1 c1 : Nat) (a2 : Option Addr) (n2 c2 : Nat) (ops : Int) (L : Led) (h0 : L.S.length = n0) (h1 : L.M.length = n2) (m0 : n0 ≤ 1000000000000) (m1 : n2 ≤ 1000000000000) (hf : L.fit) (w : World) (hr : Lies w a0 a1 a2 L) :
    Calls Try.prog 35 #[.agg #[.slice a0 n0 c0, .slice a1 n1 c1, .slice a2 n2 c2, .int .i64 ops]] w fun e w' => e = .returned (.bool (decide (mayRM L))) ∧ Below w.heap.size w w' := by
  obtain ⟨z, hz⟩ : ∃ z, decide (mayRM L) = z := ⟨_, rfl⟩
  rw [hz]
  have HZ : Hid (decide (mayRM L) = z) := hz
  obtain ⟨W, hW⟩ : ∃ W, w.alloc (.cells #[.slice a0 n0 c0, .slice a1 n1 c1, .slice a2 n2 c2, .int .i64 ops] 26) = W := ⟨_, rfl⟩
  have hB : Below w.heap.size w W := hW ▸ below1 _ _
  have HC : Hid (CellsF W w.heap.size [.slice a0 n0 c0, .slice a1 n1 c1, .slice a2 n2 c2, .int .i64 ops]) := by show CellsF _ _ _; rw [← hW]; exact CellsF.at _ 26 (by simp) rfl
  have HL : Hid (L.S.length = n0 ∧ L.M.length = n2 ∧ L.fit) := ⟨h0, h1, hf⟩
  have HR : Hid (Lies W a0 a1 a2 L) := hr.next hB
  have HB : Hid (Below w.heap.size w W) := hB
  clear hz h0 h1 hr hB hf
  go_enter Try.func35, Try.ntmps35
  go_wp2_with fail
  try rw [hW]
  clear hW
  go_loopw [3] (fun vi wr => ∃ k : Nat, k ≤ n2 ∧ vi = .int .i64 k ∧ Hid (Below W.heap.size W wr ∧ ∀ i (h : i < L.M.length), i < k → okRM L.S i L.M[i]))
    (fun vi _ => n2 - (intOf vi).toNat)
  case atStart => exact ⟨0, Nat.zero_le _, rfl, Below.refl _ _, fun i h q => absurd q (Nat.not_lt_zero _)⟩
  case round =>
    obtain ⟨k, hk, rfl, HI⟩ := hrel
    have l0 := (HC.out.next HI.out.1).cs 0 _ rfl
    have l1 := (HC.out.next HI.out.1).cs 1 _ rfl
    have l2 := (HC.out.next HI.out.1).cs 2 _ rfl
    have l3 := (HC.out.next HI.out.1).cs 3 _ rfl
    by_cases hlt : k < n2
    · have hlti : (k : Int) < (n2 : Int) := by omega
      have hkl : k < L.M.length := by have := HL.out.2.1; omega
      obtain ⟨b, o, ha, hb, hc⟩ := HR.out.M.mov (fun e => by rw [e] at hkl; simp at hkl)
      have hx := (hc k hkl).next (HI.out.1.block b hb)
      obtain ⟨x, hxk⟩ : ∃ x, L.M[k] = x := ⟨_, rfl⟩
      rw [hxk] at hx
      have HX : Hid (L.M[k] = x) := hxk
      have HFI : Hid (x.fit) := by show x.fit; rw [← hxk]; exact HL.out.2.2.M _ (List.getElem_mem hkl)
      have HNO : Hid (¬ okRM L.S k x → z = false) := fun q => by rw [← HZ.out]; exact decide_eq_false (fun e => q (HX.out ▸ e _ hkl))
      have HIX : Hid (∀ (sku loc : ByteArray) w', Below wr.heap.size wr w' → Calls Try.prog 57 #[.agg #[.slice a0 n0 c0, .slice a1 n1 c1, .slice a2 n2 c2, .int .i64 ops], .string sku, .string loc] w' fun e w'' => e = .returned (.int .i64 (if hasK L.S sku loc then (idxK L.S sku loc : Nat) else -1)) ∧ Below w'.heap.size w' w'') := fun sku loc w' b => index_is a0 n0 c0 a1 n1 c1 a2 n2 c2 ops L.S HL.out.1 m0 sku loc w' ((HR.out.next HI.out.1).next b).S
      have HNX : Hid (okRM L.S k x → ∀ i (h : i < L.M.length), i < k + 1 → okRM L.S i L.M[i]) := fun q i h p => by
        by_cases c : i = k
        · subst c; rw [HX.out]; exact q
        · exact HI.out.2 i h (by omega)
      subst ha
      clear hc hb hxk
      obtain ⟨xi, xs, xl, xq, xt, xd⟩ := x
      obtain ⟨x0, x1, x2, x3, x4, x5⟩ := hx
      dsimp only at x0 x1 x2 x3 x4 x5
      have HN1 : Hid _ := fun w => refName_is xs w
      have HN2 : Hid _ := fun w => refName_is xl w
      by_cases q0 : xi = (k : Int) + 1
      · subst q0
        have wk := wrap_succ k (by omega)
        obtain ⟨W2, hW2⟩ : ∃ W2, wr.alloc (.cells #[.int .i64 ((k : Int) + 1), .string xs, .string xl, .int .i64 xq, .int .i64 xt, .int .i64 xd] 42) = W2 := ⟨_, rfl⟩
        have hB2 : Below wr.heap.size wr W2 := hW2 ▸ below1 _ _
        have hC2 : CellsF W2 wr.heap.size [.int .i64 ((k : Int) + 1), .string xs, .string xl, .int .i64 xq, .int .i64 xt, .int .i64 xd] := by rw [← hW2]; exact CellsF.at _ 42 (by simp) rfl
        have y0 := hC2.cs 0 _ rfl
        have y1 := hC2.cs 1 _ rfl
        have y2 := hC2.cs 2 _ rfl
        have y3 := hC2.cs 3 _ rfl
        have y4 := hC2.cs 4 _ rfl
        have y5 := hC2.cs 5 _ rfl
        have HB2 : Hid (Below wr.heap.size wr W2) := hB2
        have HBW : Hid (Below w.heap.size w W2) := Below.next (Below.next HB.out HI.out.1) hB2
        have m0' := (HC.out.next (Below.next HI.out.1 hB2)).cs 0 _ rfl
        have m1' := (HC.out.next (Below.next HI.out.1 hB2)).cs 1 _ rfl
        have m2' := (HC.out.next (Below.next HI.out.1 hB2)).cs 2 _ rfl
        have m3' := (HC.out.next (Below.next HI.out.1 hB2)).cs 3 _ rfl
        clear hB2 hC2
        by_cases q1 : name xs
        · rw [decide_eq_true q1] at HN1
          by_cases q2 : name xl
          · rw [decide_eq_true q2] at HN2
            by_cases q3 : xq = 0
            · have HE : Hid (z = false) := HNO.out (fun e => e.1.2.2.2.1 q3)
              subst q3
              by_cases k1 : xt = 1
              · subst k1
                go_wp2_with fail
                refine Calls.mono (HN1.out _) ?_; rintro e w1 ⟨rfl, rfl⟩
                go_wp2_with fail
                refine Calls.mono (HN2.out _) ?_; rintro e w1 ⟨rfl, rfl⟩
                go_wp2_with fail
                go_ret
                exact ⟨by rw [HE.out]; rfl, HBW.out⟩
              · have g1 : (xt == 1) = false := by simpa using k1
                by_cases k3 : xt = 3
                · subst k3
                  go_wp2_with fail
                  refine Calls.mono (HN1.out _) ?_; rintro e w1 ⟨rfl, rfl⟩
                  go_wp2_with fail
                  refine Calls.mono (HN2.out _) ?_; rintro e w1 ⟨rfl, rfl⟩
                  go_wp2_with fail
                  go_ret
                  exact ⟨by rw [HE.out]; rfl, HBW.out⟩
                · have g3 : (xt == 3) = false := by simpa using k3
                  by_cases k6 : xt = 6
                  · subst k6
                    go_wp2_with fail
                    refine Calls.mono (HN1.out _) ?_; rintro e w1 ⟨rfl, rfl⟩
                    go_wp2_with fail
                    refine Calls.mono (HN2.out _) ?_; rintro e w1 ⟨rfl, rfl⟩
                    go_wp2_with fail
                    go_ret
                    exact ⟨by rw [HE.out]; rfl, HBW.out⟩
                  · have g6 : (xt == 6) = false := by simpa using k6
                    by_cases k7 : xt = 7
                    · subst k7
                      go_wp2_with fail
                      refine Calls.mono (HN1.out _) ?_; rintro e w1 ⟨rfl, rfl⟩
                      go_wp2_with fail
                      refine Calls.mono (HN2.out _) ?_; rintro e w1 ⟨rfl, rfl⟩
                      go_wp2_with fail
                      go_ret
                      exact ⟨by rw [HE.out]; rfl, HBW.out⟩
                    · have g7 : (xt == 7) = false := by simpa using k7
                      go_wp2_with fail
                      refine Calls.mono (HN1.out _) ?_; rintro e w1 ⟨rfl, rfl⟩
                      go_wp2_with fail
                      refine Calls.mono (HN2.out _) ?_; rintro e w1 ⟨rfl, rfl⟩
                      go_wp2_with fail
                      go_ret
                      exact ⟨by rw [HE.out]; rfl, HBW.out⟩
            · have hq3 : (xq == 0) = false := by simpa using q3
              by_cases k1 : xt = 1
              · subst k1
                by_cases q5 : xd < 0
                · have HE : Hid (z = false) := HNO.out (fun e => by rcases e.1.2.2.2.2 with ⟨_, c⟩ | ⟨_, c⟩ <;> dsimp only at c <;> omega)
                  go_wp2_with fail
                  refine Calls.mono (HN1.out _) ?_; rintro e w1 ⟨rfl, rfl⟩
                  go_wp2_with fail
                  refine Calls.mono (HN2.out _) ?_; rintro e w1 ⟨rfl, rfl⟩
                  go_wp2_with fail
                  go_ret
                  exact ⟨by rw [HE.out]; rfl, HBW.out⟩
                · by_cases q6 : xd = 0
                  · have hq6 : (xd != 0) = false := by simpa using q6
                    have HQ6 : Hid (xd = 0) := q6
                    clear q6
                    have HOK : Hid (okM k ⟨(k : Int) + 1, xs, xl, xq, 1, xd⟩) := ⟨rfl, q1, q2, q3, .inl ⟨(by show ((1 : Int) = 1 ∨ (1 : Int) = 6 ∨ (1 : Int) = 7); omega), HQ6.out⟩⟩
                    have HIC : Hid _ := HIX.out xs xl
                    by_cases q8 : hasK L.S xs xl = true
                    · rw [if_pos q8] at HIC
                      have HE : Hid (∀ i (h : i < L.M.length), i < k + 1 → okRM L.S i L.M[i]) := HNX.out ⟨HOK.out, q8⟩
                      obtain ⟨px, hpx⟩ : ∃ px, idxK L.S xs xl = px := ⟨_, rfl⟩
                      rw [hpx] at HIC
                      clear hpx q8
                      have hp0 : ¬ ((px : Int) < 0) := by omega
                      go_wp2_with fail
                      refine Calls.mono (HN1.out _) ?_; rintro e w1 ⟨rfl, rfl⟩
                      go_wp2_with fail
                      refine Calls.mono (HN2.out _) ?_; rintro e w1 ⟨rfl, rfl⟩
                      go_wp2_with fail
                      refine Calls.mono (HIC.out _ HB2.out) ?_; rintro e w6 ⟨rfl, k6⟩
                      have HB6 : Hid (Below w.heap.size w w6 ∧ Below W.heap.size W w6) := ⟨Below.next HBW.out k6, Below.next (Below.next HI.out.1 HB2.out) k6⟩
                      clear k6
                      go_wp2_with fail
                      go_roundw
                      case rel => exact ⟨k + 1, by omega, by go_num, HB6.out.2, HE.out⟩
                      case measure => simp [intOf]; omega
                    · rw [if_neg q8] at HIC
                      have HE : Hid (z = false) := HNO.out (fun e => q8 e.2)
                      clear q8
                      go_wp2_with fail
                      refine Calls.mono (HN1.out _) ?_; rintro e w1 ⟨rfl, rfl⟩
                      go_wp2_with fail
                      refine Calls.mono (HN2.out _) ?_; rintro e w1 ⟨rfl, rfl⟩
                      go_wp2_with fail
                      refine Calls.mono (HIC.out _ HB2.out) ?_; rintro e w6 ⟨rfl, k6⟩
                      have HB6 : Hid (Below w.heap.size w w6 ∧ Below W.heap.size W w6) := ⟨Below.next HBW.out k6, Below.next (Below.next HI.out.1 HB2.out) k6⟩
                      clear k6
                      go_wp2_with fail
                      go_ret
                      exact ⟨by rw [HE.out]; rfl, HB6.out.1⟩
                  · have hq6 : (xd != 0) = true := by simpa using q6
                    have HQ6 : Hid (¬ xd = 0) := q6
                    clear q6
                    have HE : Hid (z = false) := HNO.out (fun e => by rcases e.1.2.2.2.2 with ⟨c, d⟩ | ⟨c, d⟩ <;> dsimp only at c d <;> (have h6 := HQ6.out; omega))
                    go_wp2_with fail
                    refine Calls.mono (HN1.out _) ?_; rintro e w1 ⟨rfl, rfl⟩
                    go_wp2_with fail
                    refine Calls.mono (HN2.out _) ?_; rintro e w1 ⟨rfl, rfl⟩
                    go_wp2_with fail
                    go_ret
                    exact ⟨by rw [HE.out]; rfl, HBW.out⟩
              · have g1 : (xt == 1) = false := by simpa using k1
                by_cases k3 : xt = 3
                · subst k3
                  by_cases q5 : xd < 0
                  · have HE : Hid (z = false) := HNO.out (fun e => by rcases e.1.2.2.2.2 with ⟨_, c⟩ | ⟨_, c⟩ <;> dsimp only at c <;> omega)
                    go_wp2_with fail
                    refine Calls.mono (HN1.out _) ?_; rintro e w1 ⟨rfl, rfl⟩
                    go_wp2_with fail
                    refine Calls.mono (HN2.out _) ?_; rintro e w1 ⟨rfl, rfl⟩
                    go_wp2_with fail
                    go_ret
                    exact ⟨by rw [HE.out]; rfl, HBW.out⟩
                  · by_cases q6 : xd = 0
                    · have hq6 : (xd != 0) = false := by simpa using q6
                      have HQ6 : Hid (xd = 0) := q6
                      clear q6
                      have HE : Hid (z = false) := HNO.out (fun e => by rcases e.1.2.2.2.2 with ⟨c, d⟩ | ⟨c, d⟩ <;> dsimp only at c d <;> (have h6 := HQ6.out; omega))
                      go_wp2_with fail
                      refine Calls.mono (HN1.out _) ?_; rintro e w1 ⟨rfl, rfl⟩
                      go_wp2_with fail
                      refine Calls.mono (HN2.out _) ?_; rintro e w1 ⟨rfl, rfl⟩
                      go_wp2_with fail
                      go_ret
                      exact ⟨by rw [HE.out]; rfl, HBW.out⟩
                    · have hq6 : (xd != 0) = true := by simpa using q6
                      have HQ6 : Hid (¬ xd = 0) := q6
                      clear q6
                      have HOK : Hid (okM k ⟨(k : Int) + 1, xs, xl, xq, 3, xd⟩) := ⟨rfl, q1, q2, q3, .inr ⟨rfl, (show (1 : Int) ≤ xd by have h6 := HQ6.out; omega)⟩⟩
                      have HIC : Hid _ := HIX.out xs xl
                      by_cases q8 : hasK L.S xs xl = true
                      · rw [if_pos q8] at HIC
                        have HE : Hid (∀ i (h : i < L.M.length), i < k + 1 → okRM L.S i L.M[i]) := HNX.out ⟨HOK.out, q8⟩
                        obtain ⟨px, hpx⟩ : ∃ px, idxK L.S xs xl = px := ⟨_, rfl⟩
                        rw [hpx] at HIC
                        clear hpx q8
                        have hp0 : ¬ ((px : Int) < 0) := by omega
                        go_wp2_with fail
                        refine Calls.mono (HN1.out _) ?_; rintro e w1 ⟨rfl, rfl⟩
                        go_wp2_with fail
                        refine Calls.mono (HN2.out _) ?_; rintro e w1 ⟨rfl, rfl⟩
                        go_wp2_with fail
                        refine Calls.mono (HIC.out _ HB2.out) ?_; rintro e w6 ⟨rfl, k6⟩
                        have HB6 : Hid (Below w.heap.size w w6 ∧ Below W.heap.size W w6) := ⟨Below.next HBW.out k6, Below.next (Below.next HI.out.1 HB2.out) k6⟩
                        clear k6
                        go_wp2_with fail
                        go_roundw
                        case rel => exact ⟨k + 1, by omega, by go_num, HB6.out.2, HE.out⟩
                        case measure => simp [intOf]; omega
                      · rw [if_neg q8] at HIC
                        have HE : Hid (z = false) := HNO.out (fun e => q8 e.2)
                        clear q8
                        go_wp2_with fail
                        refine Calls.mono (HN1.out _) ?_; rintro e w1 ⟨rfl, rfl⟩
                        go_wp2_with fail
                        refine Calls.mono (HN2.out _) ?_; rintro e w1 ⟨rfl, rfl⟩
                        go_wp2_with fail
                        refine Calls.mono (HIC.out _ HB2.out) ?_; rintro e w6 ⟨rfl, k6⟩
                        have HB6 : Hid (Below w.heap.size w w6 ∧ Below W.heap.size W w6) := ⟨Below.next HBW.out k6, Below.next (Below.next HI.out.1 HB2.out) k6⟩
                        clear k6
                        go_wp2_with fail
                        go_ret
                        exact ⟨by rw [HE.out]; rfl, HB6.out.1⟩
                · have g3 : (xt == 3) = false := by simpa using k3
                  by_cases k6 : xt = 6
                  · subst k6
                    by_cases q5 : xd < 0
                    · have HE : Hid (z = false) := HNO.out (fun e => by rcases e.1.2.2.2.2 with ⟨_, c⟩ | ⟨_, c⟩ <;> dsimp only at c <;> omega)
                      go_wp2_with fail
                      refine Calls.mono (HN1.out _) ?_; rintro e w1 ⟨rfl, rfl⟩
                      go_wp2_with fail
                      refine Calls.mono (HN2.out _) ?_; rintro e w1 ⟨rfl, rfl⟩
                      go_wp2_with fail
                      go_ret
                      exact ⟨by rw [HE.out]; rfl, HBW.out⟩
                    · by_cases q6 : xd = 0
                      · have hq6 : (xd != 0) = false := by simpa using q6
                        have HQ6 : Hid (xd = 0) := q6
                        clear q6
                        have HOK : Hid (okM k ⟨(k : Int) + 1, xs, xl, xq, 6, xd⟩) := ⟨rfl, q1, q2, q3, .inl ⟨(by show ((6 : Int) = 1 ∨ (6 : Int) = 6 ∨ (6 : Int) = 7); omega), HQ6.out⟩⟩
                        have HIC : Hid _ := HIX.out xs xl
                        by_cases q8 : hasK L.S xs xl = true
                        · rw [if_pos q8] at HIC
                          have HE : Hid (∀ i (h : i < L.M.length), i < k + 1 → okRM L.S i L.M[i]) := HNX.out ⟨HOK.out, q8⟩
                          obtain ⟨px, hpx⟩ : ∃ px, idxK L.S xs xl = px := ⟨_, rfl⟩
                          rw [hpx] at HIC
                          clear hpx q8
                          have hp0 : ¬ ((px : Int) < 0) := by omega
                          go_wp2_with fail
                          refine Calls.mono (HN1.out _) ?_; rintro e w1 ⟨rfl, rfl⟩
                          go_wp2_with fail
                          refine Calls.mono (HN2.out _) ?_; rintro e w1 ⟨rfl, rfl⟩
                          go_wp2_with fail
                          refine Calls.mono (HIC.out _ HB2.out) ?_; rintro e w6 ⟨rfl, k6⟩
                          have HB6 : Hid (Below w.heap.size w w6 ∧ Below W.heap.size W w6) := ⟨Below.next HBW.out k6, Below.next (Below.next HI.out.1 HB2.out) k6⟩
                          clear k6
                          go_wp2_with fail
                          go_roundw
                          case rel => exact ⟨k + 1, by omega, by go_num, HB6.out.2, HE.out⟩
                          case measure => simp [intOf]; omega
                        · rw [if_neg q8] at HIC
                          have HE : Hid (z = false) := HNO.out (fun e => q8 e.2)
                          clear q8
                          go_wp2_with fail
                          refine Calls.mono (HN1.out _) ?_; rintro e w1 ⟨rfl, rfl⟩
                          go_wp2_with fail
                          refine Calls.mono (HN2.out _) ?_; rintro e w1 ⟨rfl, rfl⟩
                          go_wp2_with fail
                          refine Calls.mono (HIC.out _ HB2.out) ?_; rintro e w6 ⟨rfl, k6⟩
                          have HB6 : Hid (Below w.heap.size w w6 ∧ Below W.heap.size W w6) := ⟨Below.next HBW.out k6, Below.next (Below.next HI.out.1 HB2.out) k6⟩
                          clear k6
                          go_wp2_with fail
                          go_ret
                          exact ⟨by rw [HE.out]; rfl, HB6.out.1⟩
                      · have hq6 : (xd != 0) = true := by simpa using q6
                        have HQ6 : Hid (¬ xd = 0) := q6
                        clear q6
                        have HE : Hid (z = false) := HNO.out (fun e => by rcases e.1.2.2.2.2 with ⟨c, d⟩ | ⟨c, d⟩ <;> dsimp only at c d <;> (have h6 := HQ6.out; omega))
                        go_wp2_with fail
                        refine Calls.mono (HN1.out _) ?_; rintro e w1 ⟨rfl, rfl⟩
                        go_wp2_with fail
                        refine Calls.mono (HN2.out _) ?_; rintro e w1 ⟨rfl, rfl⟩
                        go_wp2_with fail
                        go_ret
                        exact ⟨by rw [HE.out]; rfl, HBW.out⟩
                  · have g6 : (xt == 6) = false := by simpa using k6
                    by_cases k7 : xt = 7
                    · subst k7
                      by_cases q5 : xd < 0
                      · have HE : Hid (z = false) := HNO.out (fun e => by rcases e.1.2.2.2.2 with ⟨_, c⟩ | ⟨_, c⟩ <;> dsimp only at c <;> omega)
                        go_wp2_with fail
                        refine Calls.mono (HN1.out _) ?_; rintro e w1 ⟨rfl, rfl⟩
                        go_wp2_with fail
                        refine Calls.mono (HN2.out _) ?_; rintro e w1 ⟨rfl, rfl⟩
                        go_wp2_with fail
                        go_ret
                        exact ⟨by rw [HE.out]; rfl, HBW.out⟩
                      · by_cases q6 : xd = 0
                        · have hq6 : (xd != 0) = false := by simpa using q6
                          have HQ6 : Hid (xd = 0) := q6
                          clear q6
                          have HOK : Hid (okM k ⟨(k : Int) + 1, xs, xl, xq, 7, xd⟩) := ⟨rfl, q1, q2, q3, .inl ⟨(by show ((7 : Int) = 1 ∨ (7 : Int) = 6 ∨ (7 : Int) = 7); omega), HQ6.out⟩⟩
                          have HIC : Hid _ := HIX.out xs xl
                          by_cases q8 : hasK L.S xs xl = true
                          · rw [if_pos q8] at HIC
                            have HE : Hid (∀ i (h : i < L.M.length), i < k + 1 → okRM L.S i L.M[i]) := HNX.out ⟨HOK.out, q8⟩
                            obtain ⟨px, hpx⟩ : ∃ px, idxK L.S xs xl = px := ⟨_, rfl⟩
                            rw [hpx] at HIC
                            clear hpx q8
                            have hp0 : ¬ ((px : Int) < 0) := by omega
                            go_wp2_with fail
                            refine Calls.mono (HN1.out _) ?_; rintro e w1 ⟨rfl, rfl⟩
                            go_wp2_with fail
                            refine Calls.mono (HN2.out _) ?_; rintro e w1 ⟨rfl, rfl⟩
                            go_wp2_with fail
                            refine Calls.mono (HIC.out _ HB2.out) ?_; rintro e w6 ⟨rfl, k6⟩
                            have HB6 : Hid (Below w.heap.size w w6 ∧ Below W.heap.size W w6) := ⟨Below.next HBW.out k6, Below.next (Below.next HI.out.1 HB2.out) k6⟩
                            clear k6
                            go_wp2_with fail
                            go_roundw
                            case rel => exact ⟨k + 1, by omega, by go_num, HB6.out.2, HE.out⟩
                            case measure => simp [intOf]; omega
                          · rw [if_neg q8] at HIC
                            have HE : Hid (z = false) := HNO.out (fun e => q8 e.2)
                            clear q8
                            go_wp2_with fail
                            refine Calls.mono (HN1.out _) ?_; rintro e w1 ⟨rfl, rfl⟩
                            go_wp2_with fail
                            refine Calls.mono (HN2.out _) ?_; rintro e w1 ⟨rfl, rfl⟩
                            go_wp2_with fail
                            refine Calls.mono (HIC.out _ HB2.out) ?_; rintro e w6 ⟨rfl, k6⟩
                            have HB6 : Hid (Below w.heap.size w w6 ∧ Below W.heap.size W w6) := ⟨Below.next HBW.out k6, Below.next (Below.next HI.out.1 HB2.out) k6⟩
                            clear k6
                            go_wp2_with fail
                            go_ret
                            exact ⟨by rw [HE.out]; rfl, HB6.out.1⟩
                        · have hq6 : (xd != 0) = true := by simpa using q6
                          have HQ6 : Hid (¬ xd = 0) := q6
                          clear q6
                          have HE : Hid (z = false) := HNO.out (fun e => by rcases e.1.2.2.2.2 with ⟨c, d⟩ | ⟨c, d⟩ <;> dsimp only at c d <;> (have h6 := HQ6.out; omega))
                          go_wp2_with fail
                          refine Calls.mono (HN1.out _) ?_; rintro e w1 ⟨rfl, rfl⟩
                          go_wp2_with fail
                          refine Calls.mono (HN2.out _) ?_; rintro e w1 ⟨rfl, rfl⟩
                          go_wp2_with fail
                          go_ret
                          exact ⟨by rw [HE.out]; rfl, HBW.out⟩
                    · have g7 : (xt == 7) = false := by simpa using k7
                      have HE : Hid (z = false) := HNO.out (fun e => by rcases e.1.2.2.2.2 with ⟨c, _⟩ | ⟨c, _⟩ <;> dsimp only at c <;> omega)
                      go_wp2_with fail
                      refine Calls.mono (HN1.out _) ?_; rintro e w1 ⟨rfl, rfl⟩
                      go_wp2_with fail
                      refine Calls.mono (HN2.out _) ?_; rintro e w1 ⟨rfl, rfl⟩
                      go_wp2_with fail
                      go_ret
                      exact ⟨by rw [HE.out]; rfl, HBW.out⟩
          · rw [decide_eq_false q2] at HN2
            have HE : Hid (z = false) := HNO.out (fun e => q2 e.1.2.2.1)
            by_cases k1 : xt = 1
            · subst k1
              go_wp2_with fail
              refine Calls.mono (HN1.out _) ?_; rintro e w1 ⟨rfl, rfl⟩
              go_wp2_with fail
              refine Calls.mono (HN2.out _) ?_; rintro e w1 ⟨rfl, rfl⟩
              go_wp2_with fail
              go_ret
              exact ⟨by rw [HE.out]; rfl, HBW.out⟩
            · have g1 : (xt == 1) = false := by simpa using k1
              by_cases k3 : xt = 3
              · subst k3
                go_wp2_with fail
                refine Calls.mono (HN1.out _) ?_; rintro e w1 ⟨rfl, rfl⟩
                go_wp2_with fail
                refine Calls.mono (HN2.out _) ?_; rintro e w1 ⟨rfl, rfl⟩
                go_wp2_with fail
                go_ret
                exact ⟨by rw [HE.out]; rfl, HBW.out⟩
              · have g3 : (xt == 3) = false := by simpa using k3
                by_cases k6 : xt = 6
                · subst k6
                  go_wp2_with fail
                  refine Calls.mono (HN1.out _) ?_; rintro e w1 ⟨rfl, rfl⟩
                  go_wp2_with fail
                  refine Calls.mono (HN2.out _) ?_; rintro e w1 ⟨rfl, rfl⟩
                  go_wp2_with fail
                  go_ret
                  exact ⟨by rw [HE.out]; rfl, HBW.out⟩
                · have g6 : (xt == 6) = false := by simpa using k6
                  by_cases k7 : xt = 7
                  · subst k7
                    go_wp2_with fail
                    refine Calls.mono (HN1.out _) ?_; rintro e w1 ⟨rfl, rfl⟩
                    go_wp2_with fail
                    refine Calls.mono (HN2.out _) ?_; rintro e w1 ⟨rfl, rfl⟩
                    go_wp2_with fail
                    go_ret
                    exact ⟨by rw [HE.out]; rfl, HBW.out⟩
                  · have g7 : (xt == 7) = false := by simpa using k7
                    go_wp2_with fail
                    refine Calls.mono (HN1.out _) ?_; rintro e w1 ⟨rfl, rfl⟩
                    go_wp2_with fail
                    refine Calls.mono (HN2.out _) ?_; rintro e w1 ⟨rfl, rfl⟩
                    go_wp2_with fail
                    go_ret
                    exact ⟨by rw [HE.out]; rfl, HBW.out⟩
        · rw [decide_eq_false q1] at HN1
          have HE : Hid (z = false) := HNO.out (fun e => q1 e.1.2.1)
          by_cases k1 : xt = 1
          · subst k1
            go_wp2_with fail
            refine Calls.mono (HN1.out _) ?_; rintro e w1 ⟨rfl, rfl⟩
            go_wp2_with fail
            go_ret
            exact ⟨by rw [HE.out]; rfl, HBW.out⟩
          · have g1 : (xt == 1) = false := by simpa using k1
            by_cases k3 : xt = 3
            · subst k3
              go_wp2_with fail
              refine Calls.mono (HN1.out _) ?_; rintro e w1 ⟨rfl, rfl⟩
              go_wp2_with fail
              go_ret
              exact ⟨by rw [HE.out]; rfl, HBW.out⟩
            · have g3 : (xt == 3) = false := by simpa using k3
              by_cases k6 : xt = 6
              · subst k6
                go_wp2_with fail
                refine Calls.mono (HN1.out _) ?_; rintro e w1 ⟨rfl, rfl⟩
                go_wp2_with fail
                go_ret
                exact ⟨by rw [HE.out]; rfl, HBW.out⟩
              · have g6 : (xt == 6) = false := by simpa using k6
                by_cases k7 : xt = 7
                · subst k7
                  go_wp2_with fail
                  refine Calls.mono (HN1.out _) ?_; rintro e w1 ⟨rfl, rfl⟩
                  go_wp2_with fail
                  go_ret
                  exact ⟨by rw [HE.out]; rfl, HBW.out⟩
                · have g7 : (xt == 7) = false := by simpa using k7
                  go_wp2_with fail
                  refine Calls.mono (HN1.out _) ?_; rintro e w1 ⟨rfl, rfl⟩
                  go_wp2_with fail
                  go_ret
                  exact ⟨by rw [HE.out]; rfl, HBW.out⟩
      · have HE : Hid (z = false) := HNO.out (fun e => q0 e.1.1)
        have hv : ¬ IntKind.i64.wrap (xi - 1) = (k : Int) := wrap_pred HFI.out.seq (by omega) q0
        obtain ⟨v, hvv⟩ : ∃ v, IntKind.i64.wrap (xi - 1) = v := ⟨_, rfl⟩
        rw [hvv] at hv
        have hvb : (v != (k : Int)) = true := by simpa using hv
        obtain ⟨W2, hW2⟩ : ∃ W2, wr.alloc (.cells #[.int .i64 xi, .string xs, .string xl, .int .i64 xq, .int .i64 xt, .int .i64 xd] 42) = W2 := ⟨_, rfl⟩
        have hB2 : Below wr.heap.size wr W2 := hW2 ▸ below1 _ _
        have hC2 : CellsF W2 wr.heap.size [.int .i64 xi, .string xs, .string xl, .int .i64 xq, .int .i64 xt, .int .i64 xd] := by rw [← hW2]; exact CellsF.at _ 42 (by simp) rfl
        have y0 := hC2.cs 0 _ rfl
        have y1 := hC2.cs 1 _ rfl
        have y2 := hC2.cs 2 _ rfl
        have y3 := hC2.cs 3 _ rfl
        have y4 := hC2.cs 4 _ rfl
        have y5 := hC2.cs 5 _ rfl
        have HB2 : Hid (Below wr.heap.size wr W2) := hB2
        have HBW : Hid (Below w.heap.size w W2) := Below.next (Below.next HB.out HI.out.1) hB2
        have m0' := (HC.out.next (Below.next HI.out.1 hB2)).cs 0 _ rfl
        have m1' := (HC.out.next (Below.next HI.out.1 hB2)).cs 1 _ rfl
        have m2' := (HC.out.next (Below.next HI.out.1 hB2)).cs 2 _ rfl
        have m3' := (HC.out.next (Below.next HI.out.1 hB2)).cs 3 _ rfl
        clear hB2 hC2
        by_cases k1 : xt = 1
        · subst k1
          go_wp2_with fail
          go_ret
          exact ⟨by rw [HE.out]; rfl, HBW.out⟩
        · have g1 : (xt == 1) = false := by simpa using k1
          by_cases k3 : xt = 3
          · subst k3
            go_wp2_with fail
            go_ret
            exact ⟨by rw [HE.out]; rfl, HBW.out⟩
          · have g3 : (xt == 3) = false := by simpa using k3
            by_cases k6 : xt = 6
            · subst k6
              go_wp2_with fail
              go_ret
              exact ⟨by rw [HE.out]; rfl, HBW.out⟩
            · have g6 : (xt == 6) = false := by simpa using k6
              by_cases k7 : xt = 7
              · subst k7
                go_wp2_with fail
                go_ret
                exact ⟨by rw [HE.out]; rfl, HBW.out⟩
              · have g7 : (xt == 7) = false := by simpa using k7
                go_wp2_with fail
                go_ret
                exact ⟨by rw [HE.out]; rfl, HBW.out⟩
    · have hlti : ¬ (k : Int) < (n2 : Int) := by omega
      have HE : Hid (z = true) := by
        show z = true
        rw [← HZ.out]
        exact decide_eq_true (fun i hi => HI.out.2 i hi (by have := HL.out.2.1; omega))
      go_wp2_with fail
      go_ret
      exact ⟨by rw [HE.out]; rfl, Below.next HB.out HI.out.1⟩
end Go.Proofs.Ytflbcheofmljeaa

namespace Go.Proofs.Ytflbcheofmljeaa
open Go.ChangeShapes Go.WideShapes Go.RowKit
set_option linter.unusedVariables false
set_option maxRecDepth 100000

theorem bless_yes {s t : ByteArray} (h : cmpB s t = -1) : Op.bytesLess s.toList t.toList = true := by rw [bytesLess_is]; exact decide_eq_true h
theorem bless_no {s t : ByteArray} (h : ¬ cmpB s t = -1) : Op.bytesLess s.toList t.toList = false := by rw [bytesLess_is]; exact decide_eq_false h
theorem ahead_is (a b : Stk) (w : World) : Calls Try.prog 32 #[.agg #[.string a.sku, .string a.loc, .int .i64 a.on, .int .i64 a.held], .agg #[.string b.sku, .string b.loc, .int .i64 b.on, .int .i64 b.held]] w fun e w' => e = .returned (.bool (decide (cmpK a.sku a.loc b.sku b.loc = -1))) ∧ Below w.heap.size w w' := by
  obtain ⟨sa, la, oa, ha⟩ := a
  obtain ⟨sb, lb, ob, hb⟩ := b
  dsimp only
  by_cases h0 : sa = sb
  · subst h0
    have b0 : Op.bytesLess sa.toList sa.toList = false := bless_no (by rw [cmpB_zero.2 rfl]; decide)
    have e0 : cmpK sa la sa lb = cmpB la lb := by unfold cmpK; rw [if_pos (cmpB_zero.2 rfl)]
    by_cases h1 : cmpB la lb = -1
    · have b1 := bless_yes h1
      have HE : Hid (decide (cmpK sa la sa lb = -1) = true) := decide_eq_true (e0.trans h1)
      clear h1 e0
      go_enter Try.func32, Try.ntmps32
      go_wp2_with fail
      go_ret
      exact ⟨by rw [HE.out]; rfl, below2 _ _ _⟩
    · have b1 := bless_no h1
      have HE : Hid (decide (cmpK sa la sa lb = -1) = false) := decide_eq_false (fun e => h1 (e0.symm.trans e))
      clear h1 e0
      go_enter Try.func32, Try.ntmps32
      go_wp2_with fail
      go_ret
      exact ⟨by rw [HE.out]; rfl, below2 _ _ _⟩
  · have e0 : cmpK sa la sb lb = cmpB sa sb := by unfold cmpK; rw [if_neg (fun e => h0 (cmpB_zero.1 e))]
    have b0 := byte_bne h0
    by_cases h1 : cmpB sa sb = -1
    · have b1 := bless_yes h1
      have HE : Hid (decide (cmpK sa la sb lb = -1) = true) := decide_eq_true (e0.trans h1)
      clear h1 e0
      go_enter Try.func32, Try.ntmps32
      go_wp2_with fail
      go_ret
      exact ⟨by rw [HE.out]; rfl, below2 _ _ _⟩
    · have b1 := bless_no h1
      have HE : Hid (decide (cmpK sa la sb lb = -1) = false) := decide_eq_false (fun e => h1 (e0.symm.trans e))
      clear h1 e0
      go_enter Try.func32, Try.ntmps32
      go_wp2_with fail
      go_ret
      exact ⟨by rw [HE.out]; rfl, below2 _ _ _⟩
theorem rmay_iff (L : Led) : mayL L ↔ 0 ≤ L.ops ∧ (L.S.length ≤ 4096 ∧ L.H.length ≤ 4096 ∧ L.M.length ≤ 4096) ∧ (∀ x, x ∈ L.S → okS x ∧ sumsP L x) ∧ Rises L.S ∧ mayRH L ∧ mayRM L := by
  constructor
  · intro h
    have hr := h.room
    refine ⟨h.ops, ?_, fun x hx => ⟨h.S.1 x hx, h.ag.2.2 x hx⟩, h.S.2, fun i hi => ⟨h.H i hi, fun e => h.ag.1 _ (List.getElem_mem hi) e⟩, fun i hi => ⟨h.M i hi, h.ag.2.1 _ (List.getElem_mem hi)⟩⟩
    unfold room at hr
    omega
  · rintro ⟨h1, h2, h3, h4, h5, h6⟩
    refine ⟨h1, ?_, ⟨fun x hx => (h3 x hx).1, h4⟩, fun i hi => (h5 i hi).1, fun i hi => (h6 i hi).1, fun x hx e => ?_, fun x hx => ?_, fun x hx => (h3 x hx).2⟩
    · unfold room
      omega
    · obtain ⟨i, hi, rfl⟩ := List.getElem_of_mem hx
      exact (h5 i hi).2 e
    · obtain ⟨i, hi, rfl⟩ := List.getElem_of_mem hx
      exact (h6 i hi).2
end Go.Proofs.Ytflbcheofmljeaa
