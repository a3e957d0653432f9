/- ledger.Replay of a ledger that may be. -/
import Derived.Test.YtgbomgfffhfliaaRep
namespace Go.Proofs.Ytgbomgfffhfliaa
open Go.ChangeShapes Go.WideShapes Go.RowKit
set_option linter.unusedVariables false
set_option maxRecDepth 100000

set_option maxHeartbeats 4000000 in
theorem replay_is (a0 : Option Addr) (n0 c0 : Nat) (a1 : Option Addr) (n1 c1 : Nat) (a2 : Option Addr) (n2 c2 : Nat) (L : Led) (h0 : L.S.length = n0) (h1 : L.H.length = n1) (h2 : L.M.length = n2) (z0 : a0 = none → n0 = 0 ∧ c0 = 0) (z1 : a1 = none → n1 = 0 ∧ c1 = 0) (z2 : a2 = none → n2 = 0 ∧ c2 = 0) (hm : mayL L) (hf : L.fit) (ap : Option Addr) (cp n : Nat) (l : List Opn) (hl : l.length = n) (hn : n ≤ 1000000000000) (hlf : ∀ o, o ∈ l → o.fit) (w : World) (hr : Lies w a0 a1 a2 L) (hro : Rw opv 7 w ap l) :
    Calls Try.prog 16 #[lval a0 n0 c0 a1 n1 c1 a2 n2 c2 L.ops, .slice ap n cp] w fun e w' => RpP w w' (rpL L l) e := by
  show Calls Try.prog 16 #[.agg #[.slice a0 n0 c0, .slice a1 n1 c1, .slice a2 n2 c2, .int .i64 L.ops], .slice ap n cp] w _
  have hln := lens hm
  have HMY : Hid (∀ w', Below w.heap.size w w' → Calls Try.prog 24 #[.agg #[.slice a0 n0 c0, .slice a1 n1 c1, .slice a2 n2 c2, .int .i64 L.ops]] w' fun e w'' => e = .returned (.bool true) ∧ Below w'.heap.size w' w'') := fun w' k => by
    have := mayL_is a0 n0 c0 a1 n1 c1 a2 n2 c2 L h0 h1 h2 (by omega) (by omega) (by omega) hf w' (hr.next k)
    rw [decide_eq_true hm] at this
    exact this
  have HC1 : Hid (∀ z2 x, CellsF ((w.alloc (.cells #[.slice a0 n0 c0, .slice a1 n1 c1, .slice a2 n2 c2, .int .i64 L.ops] x)).alloc z2) w.heap.size [.slice a0 n0 c0, .slice a1 n1 c1, .slice a2 n2 c2, .int .i64 L.ops]) := fun z2 x => ((CellsF.at _ x (by simp) rfl).next (below1 _ _))
  have HC3 : Hid (∀ z1 x, CellsF ((w.alloc z1).alloc (.cells #[.slice none 0 0, .slice none 0 0, .slice none 0 0, .int .i64 0] x)) (w.heap.size + 1) [.slice none 0 0, .slice none 0 0, .slice none 0 0, .int .i64 0]) := fun z1 x => CellsF.at _ x (by simp) (by rw [size_alloc])
  have HCP : Hid (∀ w', Below w.heap.size w w' → Calls Try.prog 25 #[.agg #[.slice a0 n0 c0, .slice a1 n1 c1, .slice a2 n2 c2, .int .i64 L.ops]] w' fun e w'' => ∃ b0 d0 b1 d1 b2 d2, e = .returned (.agg #[.slice b0 n0 d0, .slice b1 n1 d1, .slice b2 n2 d2, .int .i64 L.ops]) ∧ Own3 w' w'' (.slice b0 n0 d0) (.slice b1 n1 d1) (.slice b2 n2 d2) L) := fun w' k => copied_is a0 n0 c0 a1 n1 c1 a2 n2 c2 L.ops L h0 h1 h2 (by omega) (by omega) (by omega) z0 z1 z2 w' (hr.next k)
  obtain ⟨r, hrp⟩ : ∃ r, rpL L l = r := ⟨_, rfl⟩
  rw [hrp]
  have HM : Hid (mayL L ∧ L.fit ∧ rpL L l = r ∧ l.length = n ∧ (∀ o, o ∈ l → o.fit) ∧ Rw opv 7 w ap l) := ⟨hm, hf, hrp, hl, hlf, hro⟩
  clear hm hf hrp hl hlf hro hr h0 h1 h2 z0 z1 z2 hln
  go_enter Try.func16, Try.ntmps16
  go_wp2_with fail
  refine Calls.mono (HMY.out _ (below2 _ _ _)) ?_; rintro e w1 ⟨rfl, k1⟩
  have q1 := (HC1.out _ _).next k1
  have q3 := (HC3.out _ _).next k1
  have hb1 : Below w.heap.size w w1 := Below.next (below2 _ _ _) k1
  have HB1 : Hid (Below w.heap.size w w1) := hb1
  have HC : Hid (CellsF w1 w.heap.size [.slice a0 n0 c0, .slice a1 n1 c1, .slice a2 n2 c2, .int .i64 L.ops] ∧ CellsF w1 (w.heap.size + 1) [.slice none 0 0, .slice none 0 0, .slice none 0 0, .int .i64 0]) := ⟨q1, q3⟩
  have x0 := q1.cs 0 _ rfl
  have x1 := q1.cs 1 _ rfl
  have x2 := q1.cs 2 _ rfl
  have x3 := q1.cs 3 _ rfl
  clear k1 q1 q3 hb1
  go_wp2_with fail
  refine Calls.mono (HCP.out _ HB1.out) ?_; rintro e w2 ⟨b0, d0, b1, d1, b2, d2, rfl, ho3⟩
  clear x0 x1 x2 x3
  have k2 := ho3.bel
  have q1 := HC.out.1.next k2
  have HLT : Hid (w.heap.size + 1 < w1.heap.size) := HC.out.2.lt
  have HI0 : Hid (RpI w w1 ((((w2.setCell ⟨w.heap.size, 0, none⟩ (.slice b0 n0 d0)).setCell ⟨w.heap.size, 1, none⟩ (.slice b1 n1 d1)).setCell ⟨w.heap.size, 2, none⟩ (.slice b2 n2 d2)).setCell ⟨w.heap.size, 3, none⟩ (.int .i64 L.ops)) w.heap.size l r 0) := by
    refine ⟨⟨_, _, _, L, led_new ho3 q1 rfl HC.out.1.lt, HM.out.1, HM.out.2.1, ?_⟩, below_four (Below.next HB1.out k2) _ (Nat.le_refl _) _ _ _ _, fun g hg hne => ?_⟩
    · rw [List.drop_zero, HM.out.2.2.1]; simp
    · rw [Below.heap_setCell _ _ _ _ hne, Below.heap_setCell _ _ _ _ hne, Below.heap_setCell _ _ _ _ hne, Below.heap_setCell _ _ _ _ hne]
      exact k2.block g hg
  have y0 := q1.cs 0 _ rfl
  have y1 := q1.cs 1 _ rfl
  have y2 := q1.cs 2 _ rfl
  have y3 := q1.cs 3 _ rfl
  have g0 := q1.fz 0
  have g1 := q1.fz 1
  have g2 := q1.fz 2
  have g3 := q1.fz 3
  clear ho3 k2 q1
  go_wp2_with fail
  go_loopw [18] (fun vi wr => ∃ k : Nat, k ≤ n ∧ vi = .int .i64 k ∧ Hid (RpI w w1 wr w.heap.size l r k))
    (fun vi _ => n - (intOf vi).toNat)
  case atStart => exact ⟨0, Nat.zero_le _, rfl, HI0.out⟩
  case round =>
    obtain ⟨k, hk, rfl, HI⟩ := hrel
    clear y0 y1 y2 y3 g0 g1 g2 g3 HI0
    obtain ⟨⟨v0, v1, v2, Lk, q1, q2, q3, q4⟩, qb, qs⟩ := HI.out
    have HQ : Hid (LedO wr (fun k => k < w1.heap.size ∧ k ≠ w.heap.size) w.heap.size v0 v1 v2 Lk ∧ mayL Lk ∧ Lk.fit ∧ r = ((rpL Lk (l.drop k)).1, (rpL Lk (l.drop k)).2.1 + k, (rpL Lk (l.drop k)).2.2) ∧ Below w.heap.size w wr ∧ ∀ g, g < w1.heap.size → g ≠ w.heap.size → wr.heap[g]? = w1.heap[g]?) := ⟨q1, q2, q3, q4, qb, qs⟩
    clear q1 q2 q3 q4 qb qs
    by_cases hlt : k < n
    · have hlti : (k : Int) < (n : Int) := by omega
      have hkl : k < l.length := by have := HM.out.2.2.2.1; omega
      obtain ⟨b, o, rfl, hb, hc⟩ := HM.out.2.2.2.2.2.opn (fun e => by rw [e] at hkl; simp at hkl)
      have hx := (hc k hkl).next (HQ.out.2.2.2.2.1.block b hb)
      obtain ⟨x, hxk⟩ : ∃ x, l[k] = x := ⟨_, rfl⟩
      rw [hxk] at hx
      have hxf : x.fit := by rw [← hxk]; exact HM.out.2.2.2.2.1 _ (List.getElem_mem hkl)
      have hdr : l.drop k = x :: l.drop (k + 1) := by rw [← hxk]; exact List.drop_eq_getElem_cons hkl
      obtain ⟨err, herr⟩ : ∃ err, doE Lk x = err := ⟨_, rfl⟩
      have hrn : ¬ err = 0 → r = (Lk, (k : Int), err) := fun e => by
        rw [HQ.out.2.2.2.1, hdr, rpL, herr, if_neg e]; simp
      have hry : err = 0 → r = ((rpL (doL Lk x) (l.drop (k + 1))).1, (rpL (doL Lk x) (l.drop (k + 1))).2.1 + (k + 1 : Nat), (rpL (doL Lk x) (l.drop (k + 1))).2.2) := fun e => by
        rw [HQ.out.2.2.2.1, hdr, rpL, herr, if_pos e]; simp; omega
      have HX : Hid ((¬ err = 0 → r = (Lk, (k : Int), err)) ∧ (err = 0 → r = ((rpL (doL Lk x) (l.drop (k + 1))).1, (rpL (doL Lk x) (l.drop (k + 1))).2.1 + (k + 1 : Nat), (rpL (doL Lk x) (l.drop (k + 1))).2.2)) ∧ doE Lk x = err ∧ (err = 0 → mayL (doL Lk x) ∧ (doL Lk x).fit)) := ⟨hrn, hry, herr, fun e => do_may HQ.out.2.1 HQ.out.2.2.1 hxf (herr.trans e)⟩
      obtain ⟨x0, x1, x2, x3, x4, x5, x6⟩ := hx
      have HDO : Hid (∀ z, Calls Try.prog 26 #[.pointer (some ⟨w.heap.size, 0, none⟩), .agg #[.int .i64 x.k, .string x.sku, .string x.loc, .string x.to, .int .i64 x.qty, .int .i64 x.id, .int .i64 x.due]] (wr.alloc z) fun e w'' => e = .returned (.int .i64 err) ∧ DoP wr w'' (fun k => k < w1.heap.size ∧ k ≠ w.heap.size) w.heap.size v0 v1 v2 Lk x) := fun z => by
        have := do_is (HQ.out.1.next (below1 wr z)) HQ.out.2.1 HQ.out.2.2.1 x hxf
        rw [herr] at this
        refine this.mono fun e w'' q => ⟨q.1, ?_, q.2.2⟩
        exact (stay_below (below1 wr z) HQ.out.1.lt).trans q.2.1
      obtain ⟨xk, xs, xl, xt, xq, xi, xd⟩ := x
      dsimp only at x0 x1 x2 x3 x4 x5 x6 HDO
      clear hc hb hxk hxf hdr hrn hry herr
      go_wp2_with fail
      refine Calls.mono (HDO.out _) ?_; rintro e w4 ⟨rfl, hdo⟩
      have HST : Hid _ := hdo.1
      have HB4 : Hid (Below w.heap.size w w4) := below_of_stay HQ.out.2.2.2.2.1 HST.out (fun k hk => ⟨by have := HLT.out; omega, by omega⟩)
      have HS4 : Hid (∀ g, g < w1.heap.size → g ≠ w.heap.size → w4.heap[g]? = w1.heap[g]?) := fun g h1 h2 => (HST.out.block g ⟨h1, h2⟩).trans (HQ.out.2.2.2.2.2 g h1 h2)
      have hq4 : CellsF w4 (w.heap.size + 1) [.slice none 0 0, .slice none 0 0, .slice none 0 0, .int .i64 0] := HC.out.2.far (HS4.out _ HLT.out (by omega))
      have HQ4 : Hid (CellsF w4 (w.heap.size + 1) [.slice none 0 0, .slice none 0 0, .slice none 0 0, .int .i64 0]) := hq4
      have r0 := hq4.cs 0 _ rfl
      have r1 := hq4.cs 1 _ rfl
      have r2 := hq4.cs 2 _ rfl
      have r3 := hq4.cs 3 _ rfl
      have s0 := hq4.fz 0
      have s1 := hq4.fz 1
      have s2 := hq4.fz 2
      have s3 := hq4.fz 3
      clear hq4 x0 x1 x2 x3 x4 x5 x6
      rcases hdo with ⟨hst, ⟨hne, hled⟩ | ⟨hz, v0', v1', v2', hled⟩⟩
      · rw [HX.out.2.2.1] at hne
        obtain ⟨e0, f0, e1, f1, e2, f2, rfl, rfl, rfl, hli⟩ := hled.forms
        have t0 := hled.c.cs 0 _ rfl
        have t1 := hled.c.cs 1 _ rfl
        have t2 := hled.c.cs 2 _ rfl
        have t3 := hled.c.cs 3 _ rfl
        have HLD : Hid (LedO w4 _ w.heap.size _ _ _ _) := hled
        have HFIN : Hid _ := fun u0 u1 u2 u3 => own_of_led (M := w.heap.size + 1) HLD.out HB4.out (Nat.le_refl _) ⟨HLT.out, by omega⟩ (by omega) HB1.out.size u0 u1 u2 u3
        have HR : Hid (r = (Lk, (k : Int), err)) := HX.out.1 hne
        clear hst hled hli
        go_wp2_with fail
        try simp only [Exit.inBlock, Exit.then]
        refine bodyPost_ret (end_cell_tmp2 rfl rfl (loadLed _ (HQ4.out.four rfl _ _ _ _) rfl)) rfl ?_
        rw [HR.out]
        exact ⟨_, _, _, _, _, _, _, _, _, rfl, HFIN.out _ _ _ _⟩
      · rw [HX.out.2.2.1] at hz
        have HNX : Hid (RpI w w1 w4 w.heap.size l r (k + 1)) := ⟨⟨_, _, _, _, hled, (HX.out.2.2.2 hz).1, (HX.out.2.2.2 hz).2, HX.out.2.1 hz⟩, HB4.out, HS4.out⟩
        subst hz
        clear hst hled r0 r1 r2 r3 s0 s1 s2 s3
        go_wp2_with fail
        go_roundw
        case rel => exact ⟨k + 1, by omega, by go_num, HNX.out⟩
        case measure => simp [intOf]; omega
    · have hkn : k = n := by omega
      subst hkn
      have hR : r = (Lk, (l.length : Int), 0) := by
        rw [HQ.out.2.2.2.1, List.drop_of_length_le (by rw [HM.out.2.2.2.1]; exact Nat.le_refl _), rpL, HM.out.2.2.2.1]; simp
      obtain ⟨e0, f0, e1, f1, e2, f2, rfl, rfl, rfl, hli⟩ := HQ.out.1.forms
      have t0 := HQ.out.1.c.cs 0 _ rfl
      have t1 := HQ.out.1.c.cs 1 _ rfl
      have t2 := HQ.out.1.c.cs 2 _ rfl
      have t3 := HQ.out.1.c.cs 3 _ rfl
      have hq4 : CellsF wr (w.heap.size + 1) [.slice none 0 0, .slice none 0 0, .slice none 0 0, .int .i64 0] := HC.out.2.far (HQ.out.2.2.2.2.2 _ HLT.out (by omega))
      have HQ4 : Hid (CellsF wr (w.heap.size + 1) [.slice none 0 0, .slice none 0 0, .slice none 0 0, .int .i64 0]) := hq4
      have r0 := hq4.cs 0 _ rfl
      have r1 := hq4.cs 1 _ rfl
      have r2 := hq4.cs 2 _ rfl
      have r3 := hq4.cs 3 _ rfl
      have s0 := hq4.fz 0
      have s1 := hq4.fz 1
      have s2 := hq4.fz 2
      have s3 := hq4.fz 3
      have HFIN : Hid _ := fun u0 u1 u2 u3 => own_of_led (M := w.heap.size + 1) HQ.out.1 HQ.out.2.2.2.2.1 (Nat.le_refl _) ⟨HLT.out, by omega⟩ (by omega) HB1.out.size u0 u1 u2 u3
      have HR : Hid (r = (Lk, (k : Int), 0)) := by show r = _; rw [hR, HM.out.2.2.2.1]
      clear hq4 hli hR
      go_wp2_with fail
      try simp only [Exit.inBlock, Exit.then]
      refine bodyPost_ret (end_cell_tmp2 rfl rfl (loadLed _ (HQ4.out.four rfl _ _ _ _) rfl)) rfl ?_
      rw [HR.out]
      exact ⟨_, _, _, _, _, _, _, _, _, rfl, HFIN.out _ _ _ _⟩
end Go.Proofs.Ytgbomgfffhfliaa
