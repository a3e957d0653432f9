/- ledger.Apply. -/
import Derived.Test.YtflbcheofmljeaaDo
import Derived.Test.YtflbcheofmljeaaCopied
namespace Go.Proofs.Ytflbcheofmljeaa
open Go.ChangeShapes Go.WideShapes Go.RowKit
set_option linter.unusedVariables false
set_option maxRecDepth 100000

theorem led_new {w1 w2 : World} {N : Nat} {v0 v1 v2 : Value} {L : Led} (h : Own3 w1 w2 v0 v1 v2 L) {l : List Value} (hc : CellsF w2 N l) (hl : l.length = 4) (hN : N < w1.heap.size) :
    LedO ((((w2.setCell ⟨N, 0, none⟩ v0).setCell ⟨N, 1, none⟩ v1).setCell ⟨N, 2, none⟩ v2).setCell ⟨N, 3, none⟩ (.int .i64 L.ops)) (fun k => k < w1.heap.size ∧ k ≠ N) N v0 v1 v2 L := by
  have hk : ∀ g, w1.heap.size ≤ g → ((((w2.setCell ⟨N, 0, none⟩ v0).setCell ⟨N, 1, none⟩ v1).setCell ⟨N, 2, none⟩ v2).setCell ⟨N, 3, none⟩ (.int .i64 L.ops)).heap[g]? = w2.heap[g]? := fun g hg => by
    have n0 : g ≠ N := by omega
    rw [Below.heap_setCell _ _ _ _ n0, Below.heap_setCell _ _ _ _ n0, Below.heap_setCell _ _ _ _ n0, Below.heap_setCell _ _ _ _ n0]
  refine ⟨hc.four hl _ _ _ _, ownsRow_kept h.S (fun g hg => hk g (h.n0 g hg)), ownsRow_kept h.H (fun g hg => hk g (h.n1 g hg)), ownsRow_kept h.M (fun g hg => hk g (h.n2 g hg)), fun q => q.2 rfl, fun g hg => ?_, fun g hg => ?_, fun g hg => ?_, h.d01, h.d02, h.d12, fun k q => ?_⟩
  · have := h.n0 g hg; exact ⟨fun q => by have := q.1; omega, by omega⟩
  · have := h.n1 g hg; exact ⟨fun q => by have := q.1; omega, by omega⟩
  · have := h.n2 g hg; exact ⟨fun q => by have := q.1; omega, by omega⟩
  · rw [size_set, size_set, size_set, size_set]
    exact Nat.lt_of_lt_of_le q.1 h.bel.size
theorem own_of_led {w w1 w4 : World} {N M : Nat} {v0 v1 v2 : Value} {L : Led} (h : LedO w4 (fun k => k < w1.heap.size ∧ k ≠ N) N v0 v1 v2 L) (hb : Below w.heap.size w w4) (hN : w.heap.size ≤ N) (hM : M < w1.heap.size ∧ M ≠ N) (hM2 : w.heap.size ≤ M) (hw : w.heap.size ≤ w1.heap.size) (u0 u1 u2 u3 : Value) :
    Own3 w ((((w4.setCell ⟨M, 0, none⟩ u0).setCell ⟨M, 1, none⟩ u1).setCell ⟨M, 2, none⟩ u2).setCell ⟨M, 3, none⟩ u3) v0 v1 v2 L := by
  have hk : ∀ g, g ≠ M → ((((w4.setCell ⟨M, 0, none⟩ u0).setCell ⟨M, 1, none⟩ u1).setCell ⟨M, 2, none⟩ u2).setCell ⟨M, 3, none⟩ u3).heap[g]? = w4.heap[g]? := fun g n0 => by
    rw [Below.heap_setCell _ _ _ _ n0, Below.heap_setCell _ _ _ _ n0, Below.heap_setCell _ _ _ _ n0, Below.heap_setCell _ _ _ _ n0]
  have hn : ∀ g, ¬ (g < w1.heap.size ∧ g ≠ N) ∧ g ≠ N → g ≠ M ∧ w.heap.size ≤ g := fun g q => by omega
  exact ⟨ownsRow_kept h.S (fun g hg => hk g (hn g (h.e0 g hg)).1), ownsRow_kept h.H (fun g hg => hk g (hn g (h.e1 g hg)).1), ownsRow_kept h.M (fun g hg => hk g (hn g (h.e2 g hg)).1),
    fun g hg => (hn g (h.e0 g hg)).2, fun g hg => (hn g (h.e1 g hg)).2, fun g hg => (hn g (h.e2 g hg)).2, h.d01, h.d02, h.d12, below_four hb M hM2 _ _ _ _⟩
theorem below_of_stay {w w2 w4 : World} {E : Nat → Prop} (hb : Below w.heap.size w w2) (s : Stay E w2 w4) (hE : ∀ k, k < w.heap.size → E k) : Below w.heap.size w w4 :=
  ⟨s.os.trans hb.os, s.tape.trans hb.tape, s.output.trans hb.output, Nat.le_trans hb.size s.size, fun k hk => (s.block k (hE k hk)).trans (hb.block k hk)⟩
/-- Why Apply refuses. -/
def apE (L : Led) (o : Opn) : Int := if mayL L then doE L o else 1
/-- What Apply answers. -/
def ApP (w w' : World) (L : Led) (o : Opn) (e : Ending) : Prop :=
  (¬ apE L o = 0 ∧ e = .returned (.tuple #[lval none 0 0 none 0 0 none 0 0 0, .int .i64 (apE L o)]) ∧ Below w.heap.size w w') ∨
  (apE L o = 0 ∧ ∃ a0 n0 c0 a1 n1 c1 a2 n2 c2, e = .returned (.tuple #[lval a0 n0 c0 a1 n1 c1 a2 n2 c2 (doL L o).ops, .int .i64 0]) ∧ Own3 w w' (.slice a0 n0 c0) (.slice a1 n1 c1) (.slice a2 n2 c2) (doL L o))
set_option maxHeartbeats 4000000 in
theorem apply_is (a0 : Option Addr) (n0 c0 : Nat) (a1 : Option Addr) (n1 c1 : Nat) (a2 : Option Addr) (n2 c2 : Nat) (L : Led) (h0 : L.S.length = n0) (h1 : L.H.length = n1) (h2 : L.M.length = n2) (m0 : n0 ≤ 1000000000000) (m1 : n1 ≤ 1000000000000) (m2 : n2 ≤ 1000000000000) (z0 : a0 = none → n0 = 0 ∧ c0 = 0) (z1 : a1 = none → n1 = 0 ∧ c1 = 0) (z2 : a2 = none → n2 = 0 ∧ c2 = 0) (hf : L.fit) (o : Opn) (ho : o.fit) (w : World) (hr : Lies w a0 a1 a2 L) :
    Calls Try.prog 11 #[lval a0 n0 c0 a1 n1 c1 a2 n2 c2 L.ops, oval o] w fun e w' => ApP w w' L o e := by
  obtain ⟨ok, os, ol, ot, oq, oi, od⟩ := o
  show Calls Try.prog 11 #[.agg #[.slice a0 n0 c0, .slice a1 n1 c1, .slice a2 n2 c2, .int .i64 L.ops], .agg #[.int .i64 ok, .string os, .string ol, .string ot, .int .i64 oq, .int .i64 oi, .int .i64 od]] w _
  have HMY : Hid (∀ w', Below w.heap.size w w' → Calls Try.prog 24 #[.agg #[.slice a0 n0 c0, .slice a1 n1 c1, .slice a2 n2 c2, .int .i64 L.ops]] w' fun e w'' => e = .returned (.bool (decide (mayL L))) ∧ Below w'.heap.size w' w'') := fun w' k => mayL_is a0 n0 c0 a1 n1 c1 a2 n2 c2 L h0 h1 h2 m0 m1 m2 hf w' (hr.next k)
  have HC1 : Hid (∀ z1 z2 x, CellsF (((w.alloc (.cells #[.slice a0 n0 c0, .slice a1 n1 c1, .slice a2 n2 c2, .int .i64 L.ops] x)).alloc z1).alloc z2) w.heap.size [.slice a0 n0 c0, .slice a1 n1 c1, .slice a2 n2 c2, .int .i64 L.ops]) := fun z1 z2 x => ((CellsF.at _ x (by simp) rfl).next (below1 _ _)).next (below1 _ _)
  have HC2 : Hid (∀ z1 z2 x, CellsF (((w.alloc z1).alloc (.cells #[.int .i64 ok, .string os, .string ol, .string ot, .int .i64 oq, .int .i64 oi, .int .i64 od] x)).alloc z2) (w.heap.size + 1) [.int .i64 ok, .string os, .string ol, .string ot, .int .i64 oq, .int .i64 oi, .int .i64 od]) := fun z1 z2 x => (CellsF.at _ x (by simp) (size_alloc _ _).symm).next (below1 _ _)
  have HC3 : Hid (∀ z1 z2 x, CellsF (((w.alloc z1).alloc z2).alloc (.cells #[.slice none 0 0, .slice none 0 0, .slice none 0 0, .int .i64 0] x)) (w.heap.size + 1 + 1) [.slice none 0 0, .slice none 0 0, .slice none 0 0, .int .i64 0]) := fun z1 z2 x => CellsF.at _ x (by simp) (by rw [size_alloc, size_alloc])
  by_cases hm : mayL L
  · rw [decide_eq_true hm] at HMY
    have hl := lens hm
    have hE0 : apE L ⟨ok, os, ol, ot, oq, oi, od⟩ = doE L ⟨ok, os, ol, ot, oq, oi, od⟩ := by unfold apE; rw [if_pos hm]
    have HCP : Hid (∀ w', Below w.heap.size w w' → Calls Try.prog 25 #[.agg #[.slice a0 n0 c0, .slice a1 n1 c1, .slice a2 n2 c2, .int .i64 L.ops]] w' fun e w'' => ∃ b0 d0 b1 d1 b2 d2, e = .returned (.agg #[.slice b0 n0 d0, .slice b1 n1 d1, .slice b2 n2 d2, .int .i64 L.ops]) ∧ Own3 w' w'' (.slice b0 n0 d0) (.slice b1 n1 d1) (.slice b2 n2 d2) L) := fun w' k => copied_is a0 n0 c0 a1 n1 c1 a2 n2 c2 L.ops L h0 h1 h2 (by omega) (by omega) (by omega) z0 z1 z2 w' (hr.next k)
    obtain ⟨err, herr⟩ : ∃ err, doE L ⟨ok, os, ol, ot, oq, oi, od⟩ = err := ⟨_, rfl⟩
    have HDO : Hid (∀ (w' : World) (E : Nat → Prop) (b : Nat) (v0 v1 v2 : Value), LedO w' E b v0 v1 v2 L → Calls Try.prog 26 #[.pointer (some ⟨b, 0, none⟩), .agg #[.int .i64 ok, .string os, .string ol, .string ot, .int .i64 oq, .int .i64 oi, .int .i64 od]] w' fun e w'' => e = .returned (.int .i64 err) ∧ DoP w' w'' E b v0 v1 v2 L ⟨ok, os, ol, ot, oq, oi, od⟩) := fun w' E b v0 v1 v2 q => by rw [← herr]; exact do_is q hm hf ⟨ok, os, ol, ot, oq, oi, od⟩ ho
    have HNO : Hid (∀ w', Below w.heap.size w w' → ¬ err = 0 → ApP w w' L ⟨ok, os, ol, ot, oq, oi, od⟩ (.returned (.tuple #[.agg #[.slice none 0 0, .slice none 0 0, .slice none 0 0, .int .i64 0], .int .i64 err]))) := fun w' k e => .inl ⟨by rw [hE0, herr]; exact e, by rw [hE0, herr], k⟩
    have HYES : Hid (∀ w' b0 k0 d0 b1 k1 d1 b2 k2 d2 n, err = 0 → (doL L ⟨ok, os, ol, ot, oq, oi, od⟩).ops = n → Own3 w w' (.slice b0 k0 d0) (.slice b1 k1 d1) (.slice b2 k2 d2) (doL L ⟨ok, os, ol, ot, oq, oi, od⟩) → ApP w w' L ⟨ok, os, ol, ot, oq, oi, od⟩ (.returned (.tuple #[.agg #[.slice b0 k0 d0, .slice b1 k1 d1, .slice b2 k2 d2, .int .i64 n], .int .i64 0]))) := fun w' b0 k0 d0 b1 k1 d1 b2 k2 d2 n e1 e2 q => .inr ⟨by rw [hE0, herr]; exact e1, _, _, _, _, _, _, _, _, _, by rw [e2], q⟩
    have HDE : Hid (doE L ⟨ok, os, ol, ot, oq, oi, od⟩ = err) := herr
    clear hm hl hE0 herr h0 h1 h2 m0 m1 m2 z0 z1 z2 hf ho hr
    go_enter Try.func11, Try.ntmps11
    go_wp2_with fail
    refine Calls.mono (HMY.out _ (Below.next (below2 _ _ _) (below1 _ _))) ?_; rintro e w1 ⟨rfl, k1⟩
    have q1 := (HC1.out _ _ _).next k1
    have q2 := (HC2.out _ _ _).next k1
    have q3 := (HC3.out _ _ _).next k1
    have hb1 : Below w.heap.size w w1 := Below.next (Below.next (below2 _ _ _) (below1 _ _)) k1
    have HB1 : Hid (Below w.heap.size w w1) := hb1
    have HC : Hid (CellsF w1 w.heap.size [.slice a0 n0 c0, .slice a1 n1 c1, .slice a2 n2 c2, .int .i64 L.ops] ∧ CellsF w1 (w.heap.size + 1) [.int .i64 ok, .string os, .string ol, .string ot, .int .i64 oq, .int .i64 oi, .int .i64 od] ∧ CellsF w1 (w.heap.size + 1 + 1) [.slice none 0 0, .slice none 0 0, .slice none 0 0, .int .i64 0]) := ⟨q1, q2, q3⟩
    have x0 := q1.cs 0 _ rfl
    have x1 := q1.cs 1 _ rfl
    have x2 := q1.cs 2 _ rfl
    have x3 := q1.cs 3 _ rfl
    clear k1 q1 q2 q3 hb1
    go_wp2_with fail
    refine Calls.mono (HCP.out _ HB1.out) ?_; rintro e w2 ⟨b0, d0, b1, d1, b2, d2, rfl, ho3⟩
    clear x0 x1 x2 x3
    have HO : Hid (Own3 w1 w2 (.slice b0 n0 d0) (.slice b1 n1 d1) (.slice b2 n2 d2) L) := ho3
    have k2 := ho3.bel
    have q1 := HC.out.1.next k2
    have q2 := HC.out.2.1.next k2
    have q3 := HC.out.2.2.next k2
    have hl3 : w.heap.size + 1 + 1 < w1.heap.size := HC.out.2.2.lt
    have HLT : Hid (w.heap.size + 1 + 1 < w1.heap.size) := hl3
    have HLD : Hid (LedO ((((w2.setCell ⟨w.heap.size, 0, none⟩ (.slice b0 n0 d0)).setCell ⟨w.heap.size, 1, none⟩ (.slice b1 n1 d1)).setCell ⟨w.heap.size, 2, none⟩ (.slice b2 n2 d2)).setCell ⟨w.heap.size, 3, none⟩ (.int .i64 L.ops)) (fun k => k < w1.heap.size ∧ k ≠ w.heap.size) w.heap.size (.slice b0 n0 d0) (.slice b1 n1 d1) (.slice b2 n2 d2) L) := led_new ho3 q1 rfl HC.out.1.lt
    have HB3 : Hid (Below w.heap.size w ((((w2.setCell ⟨w.heap.size, 0, none⟩ (.slice b0 n0 d0)).setCell ⟨w.heap.size, 1, none⟩ (.slice b1 n1 d1)).setCell ⟨w.heap.size, 2, none⟩ (.slice b2 n2 d2)).setCell ⟨w.heap.size, 3, none⟩ (.int .i64 L.ops))) := below_four (Below.next HB1.out k2) _ (Nat.le_refl _) _ _ _ _
    have y0 := q1.cs 0 _ rfl
    have y1 := q1.cs 1 _ rfl
    have y2 := q1.cs 2 _ rfl
    have y3 := q1.cs 3 _ rfl
    have g0 := q1.fz 0
    have g1 := q1.fz 1
    have g2 := q1.fz 2
    have g3 := q1.fz 3
    have o0 := q2.cs 0 _ rfl
    have o1 := q2.cs 1 _ rfl
    have o2 := q2.cs 2 _ rfl
    have o3 := q2.cs 3 _ rfl
    have o4 := q2.cs 4 _ rfl
    have o5 := q2.cs 5 _ rfl
    have o6 := q2.cs 6 _ rfl
    have HQ3 : Hid (CellsF ((((w2.setCell ⟨w.heap.size, 0, none⟩ (.slice b0 n0 d0)).setCell ⟨w.heap.size, 1, none⟩ (.slice b1 n1 d1)).setCell ⟨w.heap.size, 2, none⟩ (.slice b2 n2 d2)).setCell ⟨w.heap.size, 3, none⟩ (.int .i64 L.ops)) (w.heap.size + 1 + 1) [.slice none 0 0, .slice none 0 0, .slice none 0 0, .int .i64 0]) := q3.far (by
      have n0 : w.heap.size + 1 + 1 ≠ w.heap.size := by omega
      rw [Below.heap_setCell _ _ _ _ n0, Below.heap_setCell _ _ _ _ n0, Below.heap_setCell _ _ _ _ n0, Below.heap_setCell _ _ _ _ n0])
    clear ho3 k2 q1 q2 q3 hl3
    go_wp2_with fail
    refine Calls.mono (HDO.out _ _ _ _ _ _ HLD.out) ?_; rintro e w4 ⟨rfl, hdo⟩
    have HST : Hid _ := hdo.1
    have HB4 : Hid (Below w.heap.size w w4) := below_of_stay HB3.out HST.out (fun k hk => ⟨by have := HLT.out; omega, by omega⟩)
    have hq4 : CellsF w4 (w.heap.size + 1 + 1) [.slice none 0 0, .slice none 0 0, .slice none 0 0, .int .i64 0] := HQ3.out.far (HST.out.block _ ⟨by have := HLT.out; omega, by omega⟩)
    have HQ4 : Hid (CellsF w4 (w.heap.size + 1 + 1) [.slice none 0 0, .slice none 0 0, .slice none 0 0, .int .i64 0]) := hq4
    have r0 := hq4.cs 0 _ rfl
    have r1 := hq4.cs 1 _ rfl
    have r2 := hq4.cs 2 _ rfl
    have r3 := hq4.cs 3 _ rfl
    have s0 := hq4.fz 0
    have s1 := hq4.fz 1
    have s2 := hq4.fz 2
    have s3 := hq4.fz 3
    clear hq4 y0 y1 y2 y3 g0 g1 g2 g3 o0 o1 o2 o3 o4 o5 o6 HLD HB3 HQ3 HO
    rcases hdo with ⟨hst, ⟨hne, hled⟩ | ⟨hz, v0', v1', v2', hled⟩⟩
    · rw [HDE.out] at hne
      clear hst hled
      go_wp2_with fail
      try simp only [Exit.inBlock, Exit.then]
      refine bodyPost_ret (end_cell_tmp rfl rfl (loadLed _ (HQ4.out.four rfl _ _ _ _) rfl)) rfl ?_
      exact HNO.out _ (below_four HB4.out _ (by omega) _ _ _ _) hne
    · rw [HDE.out] at hz
      subst hz
      obtain ⟨e0, f0, e1, f1, e2, f2, rfl, rfl, rfl, hli⟩ := hled.forms
      have t0 := hled.c.cs 0 _ rfl
      have t1 := hled.c.cs 1 _ rfl
      have t2 := hled.c.cs 2 _ rfl
      have t3 := hled.c.cs 3 _ rfl
      have HLD : Hid (LedO w4 _ w.heap.size _ _ _ _) := hled
      have HFIN : Hid _ := fun u0 u1 u2 u3 => own_of_led (M := w.heap.size + 1 + 1) HLD.out HB4.out (Nat.le_refl _) ⟨HLT.out, by omega⟩ (by omega) HB1.out.size u0 u1 u2 u3
      clear hst hled hli
      go_wp2_with fail
      try simp only [Exit.inBlock, Exit.then]
      refine bodyPost_ret (end_cell_tmp rfl rfl (loadLed _ (HQ4.out.four rfl _ _ _ _) rfl)) rfl ?_
      exact HYES.out _ _ _ _ _ _ _ _ _ _ _ (by first | trivial | rfl) (by first | trivial | rfl) (HFIN.out _ _ _ _)
  · rw [decide_eq_false hm] at HMY
    have hE0 : apE L ⟨ok, os, ol, ot, oq, oi, od⟩ = 1 := by unfold apE; rw [if_neg hm]
    have HNO : Hid (∀ w', Below w.heap.size w w' → ApP w w' L ⟨ok, os, ol, ot, oq, oi, od⟩ (.returned (.tuple #[.agg #[.slice none 0 0, .slice none 0 0, .slice none 0 0, .int .i64 0], .int .i64 1]))) := fun w' k => .inl ⟨by rw [hE0]; omega, by rw [hE0], k⟩
    clear hm hE0 h0 h1 h2 m0 m1 m2 z0 z1 z2 hf ho hr
    go_enter Try.func11, Try.ntmps11
    go_wp2_with fail
    refine Calls.mono (HMY.out _ (Below.next (below2 _ _ _) (below1 _ _))) ?_; rintro e w1 ⟨rfl, k1⟩
    have HB1 : Hid (Below w.heap.size w w1) := Below.next (Below.next (below2 _ _ _) (below1 _ _)) k1
    have hq4 := (HC3.out _ _ _).next k1
    have HQ4 : Hid (CellsF w1 (w.heap.size + 1 + 1) [.slice none 0 0, .slice none 0 0, .slice none 0 0, .int .i64 0]) := hq4
    have r0 := hq4.cs 0 _ rfl
    have r1 := hq4.cs 1 _ rfl
    have r2 := hq4.cs 2 _ rfl
    have r3 := hq4.cs 3 _ rfl
    have s0 := hq4.fz 0
    have s1 := hq4.fz 1
    have s2 := hq4.fz 2
    have s3 := hq4.fz 3
    clear k1 hq4
    go_wp2_with fail
    try simp only [Exit.inBlock, Exit.then]
    refine bodyPost_ret (end_cell_tmp rfl rfl (loadLed _ (HQ4.out.four rfl _ _ _ _) rfl)) rfl ?_
    exact HNO.out _ (below_four HB1.out _ (by omega) _ _ _ _)
end Go.Proofs.Ytflbcheofmljeaa
