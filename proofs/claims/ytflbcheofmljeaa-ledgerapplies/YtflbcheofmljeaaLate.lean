/- Operations, as they came in. ledger.Replay of a ledger that may be. ledger.Replay of a ledger that may be. What awake asks, without memory; a ledger that is had. awake. What LedgerEdges asks, without memory. A ledger that is had behind Apply, wherever its blocks are as they were. What an operation leaves as it was, without memory. A ledger behind few operations is small. -/
import Derived.Test.YtflbcheofmljeaaBase
import Derived.Deep.Slices
import Derived.Test.YtflbcheofmljeaaApp
namespace Go.Proofs.Ytflbcheofmljeaa
open Go.ChangeShapes Go.WideShapes Go.ChangeAt Go.RowKit
set_option linter.unusedVariables false
set_option maxRecDepth 100000

theorem Try.cells28 : Try.prog.cellsOf 28 = 7 := by kernel_rfl
theorem Try.fields28 : ∃ f0 f1 f2 f3 f4 f5 f6 : Field, Try.prog.underlying 28 = some (.struct #[f0, f1, f2, f3, f4, f5, f6]) ∧ (f0.type = 3 ∧ f0.offset = 0) ∧ (f1.type = 9 ∧ f1.offset = 1) ∧ (f2.type = 9 ∧ f2.offset = 2) ∧ (f3.type = 9 ∧ f3.offset = 3) ∧ (f4.type = 3 ∧ f4.offset = 4) ∧ (f5.type = 3 ∧ f5.offset = 5) ∧ (f6.type = 3 ∧ f6.offset = 6) :=
  ⟨_, _, _, _, _, _, _, Try.underlying28, ⟨rfl, rfl⟩, ⟨rfl, rfl⟩, ⟨rfl, rfl⟩, ⟨rfl, rfl⟩, ⟨rfl, rfl⟩, ⟨rfl, rfl⟩, ⟨rfl, rfl⟩⟩
theorem Try.cells3' : Try.prog.cellsOf 3 = 1 := by kernel_rfl
theorem Try.cells9' : Try.prog.cellsOf 9 = 1 := by kernel_rfl
theorem wf_i64 {z : Int} (w : (Lit.int .i64 z).wf = true) : i64b z := by
  simp [Lit.wf, IntKind.min, IntKind.max, IntKind.signed, IntKind.bits] at w
  unfold i64b
  omega
theorem gather {α : Type} {P : Nat → α → Prop} (n : Nat) (h : ∀ i, i < n → ∃ x, P i x) : ∃ l : List α, l.length = n ∧ ∀ i (hi : i < l.length), P i l[i] := by
  induction n with
  | zero => exact ⟨[], rfl, fun i hi => absurd hi (Nat.not_lt_zero _)⟩
  | succ n ih =>
    obtain ⟨l, hl, hp⟩ := ih (fun i hi => h i (by omega))
    obtain ⟨x, hx⟩ := h n (by omega)
    refine ⟨l ++ [x], by simp [hl], fun i hi => ?_⟩
    by_cases c : i < l.length
    · rw [List.getElem_append_left c]; exact hp i c
    · have e : i = l.length := by simp at hi; omega
      subst e
      rw [List.getElem_append_right (Nat.le_refl _)]
      simp only [Nat.sub_self, List.getElem_cons_zero]
      rw [hl]; exact hx
end Go.Proofs.Ytflbcheofmljeaa

namespace Go.Proofs.Ytflbcheofmljeaa
open Go.ChangeShapes Go.WideShapes Go.RowKit
set_option linter.unusedVariables false
set_option maxRecDepth 100000

theorem ch_may {L : Led} (hm : mayL L) (hf : L.fit) (o : Opn) (ho : o.fit) (hm0 : o.may) (he : errOf L o = 0) : mayL (chL L o) ∧ (chL L o).fit := by
  rcases kinds hm0 with k | k | k | k | k | k | k
  · have e1 : errOf L o = errR L o := by unfold errOf; rw [k]; rfl
    have e2 : chL L o = mvL L o.k o.sku o.loc o.qty 0 := by unfold chL; rw [k]; rfl
    rw [e1] at he
    have q := one_receive hm hf ho hm0 k he
    exact ⟨by rw [e2]; exact q.may, by rw [e2]; exact q.fit⟩
  · have e1 : errOf L o = errH L o := by unfold errOf; rw [k]; rfl
    have e2 : chL L o = holdL L o.sku o.loc o.qty o.due := by unfold chL; rw [k]; rfl
    rw [e1] at he
    have q := hold_of hm hf ho hm0 k he
    exact ⟨by rw [e2]; exact q.may, by rw [e2]; exact q.fit⟩
  · have e1 : errOf L o = errC L o := by unfold errOf; rw [k]; rfl
    rw [e1] at he
    obtain ⟨⟨x, hx, h0⟩, hr⟩ := errC_zero he
    have q := out_of hm hf ho (may34 hm0 (.inl k)) k hx h0 hr
    have e2 : chL L o = mvL (endL L (o.id - 1).toNat x 1) o.k x.sku x.loc (-x.qty) x.id := by unfold chL; rw [k, hx]; rfl
    exact ⟨by rw [e2]; exact q.may, by rw [e2]; exact q.fit⟩
  · have e1 : errOf L o = errU L o := by unfold errOf; rw [k]; rfl
    rw [e1] at he
    obtain ⟨x, hx, h0⟩ := errU_zero he
    have q := up_of hm hf (may34 hm0 (.inr k)) (.inr rfl) hx h0
    have e2 : chL L o = endL L (o.id - 1).toNat x 2 := by unfold chL; rw [k, hx]; rfl
    exact ⟨by rw [e2]; exact q.may, by rw [e2]; exact q.fit⟩
  · have e2 : chL L o = expL L o.due L.H.length := by unfold chL; rw [k]; rfl
    exact ⟨by rw [e2]; exact expL_may hm _ _, by rw [e2]; exact expL_fit hm hf _ _⟩
  · have e1 : errOf L o = errT L o := by unfold errOf; rw [k]; rfl
    have e2 : chL L o = mvL (mvL L o.k o.sku o.loc (-o.qty) 0) o.k o.sku o.to o.qty 0 := by unfold chL; rw [k]; rfl
    rw [e1] at he
    have q := tra_of hm hf ho hm0 k he
    exact ⟨by rw [e2]; exact q.may, by rw [e2]; exact q.fit⟩
  · have e1 : errOf L o = errA L o := by unfold errOf; rw [k]; rfl
    have e2 : chL L o = mvL L o.k o.sku o.loc o.qty 0 := by unfold chL; rw [k]; rfl
    rw [e1] at he
    have q := one_adjust hm hf ho hm0 k he
    exact ⟨by rw [e2]; exact q.may, by rw [e2]; exact q.fit⟩
theorem do_zero {L : Led} {o : Opn} (h : doE L o = 0) : o.may ∧ errOf L o = 0 ∧ L.ops < 4611686018427387904 := by
  unfold doE at h
  by_cases h1 : o.may
  · rw [if_pos h1] at h
    by_cases h2 : errOf L o = 0
    · rw [if_pos h2] at h
      by_cases h3 : 4611686018427387904 ≤ L.ops
      · rw [if_pos h3] at h; omega
      · exact ⟨h1, h2, by omega⟩
    · rw [if_neg h2] at h; exact absurd h h2
  · rw [if_neg h1] at h; omega
theorem do_may {L : Led} (hm : mayL L) (hf : L.fit) {o : Opn} (ho : o.fit) (h : doE L o = 0) : mayL (doL L o) ∧ (doL L o).fit := by
  obtain ⟨h1, h2, h3⟩ := do_zero h
  obtain ⟨q1, q2⟩ := ch_may hm hf o ho h1 h2
  have := hm.ops
  exact ⟨mayL_ops q1 (by omega), fit_ops q2 (by unfold i64b; omega)⟩
/-- A ledger behind operations, how many were done, and why the next one was not. -/
def rpL : Led → List Opn → Led × Int × Int
  | L, [] => (L, 0, 0)
  | L, o :: os => if doE L o = 0 then ((rpL (doL L o) os).1, (rpL (doL L o) os).2.1 + 1, (rpL (doL L o) os).2.2) else (L, 0, doE L o)
theorem end_cell_tmp2 {fn : Func} {p u x : Tmp} {ty : TypeId} {b : Addr} {v : Value} {tmps : Array Value} {w : World} (h : fn.results = #[.cell p ty, .tmp u, .tmp x]) (hp : tmps.getD p undef = .pointer (some b)) (hl : (loadVar ty b).run Try.prog w = .ok v w) :
    (results fn tmps).run Try.prog w = .ok (.tuple #[v, tmps.getD u undef, tmps.getD x undef]) w := by
  have hp' : tmps[p]?.getD undef = .pointer (some b) := by rw [← Array.getD_eq_getD_getElem?]; exact hp
  simp only [results, h]
  simp [hp', asAddr, hl]
/-- What Replay answers. -/
def RpP (w w' : World) (r : Led × Int × Int) (e : Ending) : Prop :=
  ∃ a0 n0 c0 a1 n1 c1 a2 n2 c2, e = .returned (.tuple #[lval a0 n0 c0 a1 n1 c1 a2 n2 c2 r.1.ops, .int .i64 r.2.1, .int .i64 r.2.2]) ∧ Own3 w w' (.slice a0 n0 c0) (.slice a1 n1 c1) (.slice a2 n2 c2) r.1
/-- Between two operations. -/
structure RpI (w w1 wr : World) (N : Nat) (l : List Opn) (r : Led × Int × Int) (k : Nat) : Prop where
  i : ∃ v0 v1 v2 Lk, LedO wr (fun k => k < w1.heap.size ∧ k ≠ N) N v0 v1 v2 Lk ∧ mayL Lk ∧ Lk.fit ∧ r = ((rpL Lk (l.drop k)).1, (rpL Lk (l.drop k)).2.1 + k, (rpL Lk (l.drop k)).2.2)
  b : Below w.heap.size w wr
  s : ∀ g, g < w1.heap.size → g ≠ N → wr.heap[g]? = w1.heap[g]?
end Go.Proofs.Ytflbcheofmljeaa

namespace Go.Proofs.Ytflbcheofmljeaa
open Go.ChangeShapes Go.WideShapes Go.RowKit
set_option linter.unusedVariables false
set_option maxRecDepth 100000

set_option maxHeartbeats 4000000 in
theorem replay_is (a0 : Option Addr) (n0 c0 : Nat) (a1 : Option Addr) (n1 c1 : Nat) (a2 : Option Addr) (n2 c2 : Nat) (L : Led) (h0 : L.S.length = n0) (h1 : L.H.length = n1) (h2 : L.M.length = n2) (z0 : a0 = none → n0 = 0 ∧ c0 = 0) (z1 : a1 = none → n1 = 0 ∧ c1 = 0) (z2 : a2 = none → n2 = 0 ∧ c2 = 0) (hm : mayL L) (hf : L.fit) (ap : Option Addr) (cp n : Nat) (l : List Opn) (hl : l.length = n) (hn : n ≤ 1000000000000) (hlf : ∀ o, o ∈ l → o.fit) (w : World) (hr : Lies w a0 a1 a2 L) (hro : Rw opv 7 w ap l) :
    Calls Try.prog 16 #[lval a0 n0 c0 a1 n1 c1 a2 n2 c2 L.ops, .slice ap n cp] w fun e w' => RpP w w' (rpL L l) e := by
  show Calls Try.prog 16 #[.agg #[.slice a0 n0 c0, .slice a1 n1 c1, .slice a2 n2 c2, .int .i64 L.ops], .slice ap n cp] w _
  have hln := lens hm
  have HMY : Hid (∀ w', Below w.heap.size w w' → Calls Try.prog 24 #[.agg #[.slice a0 n0 c0, .slice a1 n1 c1, .slice a2 n2 c2, .int .i64 L.ops]] w' fun e w'' => e = .returned (.bool true) ∧ Below w'.heap.size w' w'') := fun w' k => by
    have := mayL_is a0 n0 c0 a1 n1 c1 a2 n2 c2 L h0 h1 h2 (by omega) (by omega) (by omega) hf w' (hr.next k)
    rw [decide_eq_true hm] at this
    exact this
  have HC1 : Hid (∀ z2 x, CellsF ((w.alloc (.cells #[.slice a0 n0 c0, .slice a1 n1 c1, .slice a2 n2 c2, .int .i64 L.ops] x)).alloc z2) w.heap.size [.slice a0 n0 c0, .slice a1 n1 c1, .slice a2 n2 c2, .int .i64 L.ops]) := fun z2 x => ((CellsF.at _ x (by simp) rfl).next (below1 _ _))
  have HC3 : Hid (∀ z1 x, CellsF ((w.alloc z1).alloc (.cells #[.slice none 0 0, .slice none 0 0, .slice none 0 0, .int .i64 0] x)) (w.heap.size + 1) [.slice none 0 0, .slice none 0 0, .slice none 0 0, .int .i64 0]) := fun z1 x => CellsF.at _ x (by simp) (by rw [size_alloc])
  have HCP : Hid (∀ w', Below w.heap.size w w' → Calls Try.prog 25 #[.agg #[.slice a0 n0 c0, .slice a1 n1 c1, .slice a2 n2 c2, .int .i64 L.ops]] w' fun e w'' => ∃ b0 d0 b1 d1 b2 d2, e = .returned (.agg #[.slice b0 n0 d0, .slice b1 n1 d1, .slice b2 n2 d2, .int .i64 L.ops]) ∧ Own3 w' w'' (.slice b0 n0 d0) (.slice b1 n1 d1) (.slice b2 n2 d2) L) := fun w' k => copied_is a0 n0 c0 a1 n1 c1 a2 n2 c2 L.ops L h0 h1 h2 (by omega) (by omega) (by omega) z0 z1 z2 w' (hr.next k)
  obtain ⟨r, hrp⟩ : ∃ r, rpL L l = r := ⟨_, rfl⟩
  rw [hrp]
  have HM : Hid (mayL L ∧ L.fit ∧ rpL L l = r ∧ l.length = n ∧ (∀ o, o ∈ l → o.fit) ∧ Rw opv 7 w ap l) := ⟨hm, hf, hrp, hl, hlf, hro⟩
  clear hm hf hrp hl hlf hro hr h0 h1 h2 z0 z1 z2 hln
  go_enter Try.func16, Try.ntmps16
  go_wp2_with fail
  refine Calls.mono (HMY.out _ (below2 _ _ _)) ?_; rintro e w1 ⟨rfl, k1⟩
  have q1 := (HC1.out _ _).next k1
  have q3 := (HC3.out _ _).next k1
  have hb1 : Below w.heap.size w w1 := Below.next (below2 _ _ _) k1
  have HB1 : Hid (Below w.heap.size w w1) := hb1
  have HC : Hid (CellsF w1 w.heap.size [.slice a0 n0 c0, .slice a1 n1 c1, .slice a2 n2 c2, .int .i64 L.ops] ∧ CellsF w1 (w.heap.size + 1) [.slice none 0 0, .slice none 0 0, .slice none 0 0, .int .i64 0]) := ⟨q1, q3⟩
  have x0 := q1.cs 0 _ rfl
  have x1 := q1.cs 1 _ rfl
  have x2 := q1.cs 2 _ rfl
  have x3 := q1.cs 3 _ rfl
  clear k1 q1 q3 hb1
  go_wp2_with fail
  refine Calls.mono (HCP.out _ HB1.out) ?_; rintro e w2 ⟨b0, d0, b1, d1, b2, d2, rfl, ho3⟩
  clear x0 x1 x2 x3
  have k2 := ho3.bel
  have q1 := HC.out.1.next k2
  have HLT : Hid (w.heap.size + 1 < w1.heap.size) := HC.out.2.lt
  have HI0 : Hid (RpI w w1 ((((w2.setCell ⟨w.heap.size, 0, none⟩ (.slice b0 n0 d0)).setCell ⟨w.heap.size, 1, none⟩ (.slice b1 n1 d1)).setCell ⟨w.heap.size, 2, none⟩ (.slice b2 n2 d2)).setCell ⟨w.heap.size, 3, none⟩ (.int .i64 L.ops)) w.heap.size l r 0) := by
    refine ⟨⟨_, _, _, L, led_new ho3 q1 rfl HC.out.1.lt, HM.out.1, HM.out.2.1, ?_⟩, below_four (Below.next HB1.out k2) _ (Nat.le_refl _) _ _ _ _, fun g hg hne => ?_⟩
    · rw [List.drop_zero, HM.out.2.2.1]; simp
    · rw [Below.heap_setCell _ _ _ _ hne, Below.heap_setCell _ _ _ _ hne, Below.heap_setCell _ _ _ _ hne, Below.heap_setCell _ _ _ _ hne]
      exact k2.block g hg
  have y0 := q1.cs 0 _ rfl
  have y1 := q1.cs 1 _ rfl
  have y2 := q1.cs 2 _ rfl
  have y3 := q1.cs 3 _ rfl
  have g0 := q1.fz 0
  have g1 := q1.fz 1
  have g2 := q1.fz 2
  have g3 := q1.fz 3
  clear ho3 k2 q1
  go_wp2_with fail
  go_loopw [18] (fun vi wr => ∃ k : Nat, k ≤ n ∧ vi = .int .i64 k ∧ Hid (RpI w w1 wr w.heap.size l r k))
    (fun vi _ => n - (intOf vi).toNat)
  case atStart => exact ⟨0, Nat.zero_le _, rfl, HI0.out⟩
  case round =>
    obtain ⟨k, hk, rfl, HI⟩ := hrel
    clear y0 y1 y2 y3 g0 g1 g2 g3 HI0
    obtain ⟨⟨v0, v1, v2, Lk, q1, q2, q3, q4⟩, qb, qs⟩ := HI.out
    have HQ : Hid (LedO wr (fun k => k < w1.heap.size ∧ k ≠ w.heap.size) w.heap.size v0 v1 v2 Lk ∧ mayL Lk ∧ Lk.fit ∧ r = ((rpL Lk (l.drop k)).1, (rpL Lk (l.drop k)).2.1 + k, (rpL Lk (l.drop k)).2.2) ∧ Below w.heap.size w wr ∧ ∀ g, g < w1.heap.size → g ≠ w.heap.size → wr.heap[g]? = w1.heap[g]?) := ⟨q1, q2, q3, q4, qb, qs⟩
    clear q1 q2 q3 q4 qb qs
    by_cases hlt : k < n
    · have hlti : (k : Int) < (n : Int) := by omega
      have hkl : k < l.length := by have := HM.out.2.2.2.1; omega
      obtain ⟨b, o, rfl, hb, hc⟩ := HM.out.2.2.2.2.2.opn (fun e => by rw [e] at hkl; simp at hkl)
      have hx := (hc k hkl).next (HQ.out.2.2.2.2.1.block b hb)
      obtain ⟨x, hxk⟩ : ∃ x, l[k] = x := ⟨_, rfl⟩
      rw [hxk] at hx
      have hxf : x.fit := by rw [← hxk]; exact HM.out.2.2.2.2.1 _ (List.getElem_mem hkl)
      have hdr : l.drop k = x :: l.drop (k + 1) := by rw [← hxk]; exact List.drop_eq_getElem_cons hkl
      obtain ⟨err, herr⟩ : ∃ err, doE Lk x = err := ⟨_, rfl⟩
      have hrn : ¬ err = 0 → r = (Lk, (k : Int), err) := fun e => by
        rw [HQ.out.2.2.2.1, hdr, rpL, herr, if_neg e]; simp
      have hry : err = 0 → r = ((rpL (doL Lk x) (l.drop (k + 1))).1, (rpL (doL Lk x) (l.drop (k + 1))).2.1 + (k + 1 : Nat), (rpL (doL Lk x) (l.drop (k + 1))).2.2) := fun e => by
        rw [HQ.out.2.2.2.1, hdr, rpL, herr, if_pos e]; simp; omega
      have HX : Hid ((¬ err = 0 → r = (Lk, (k : Int), err)) ∧ (err = 0 → r = ((rpL (doL Lk x) (l.drop (k + 1))).1, (rpL (doL Lk x) (l.drop (k + 1))).2.1 + (k + 1 : Nat), (rpL (doL Lk x) (l.drop (k + 1))).2.2)) ∧ doE Lk x = err ∧ (err = 0 → mayL (doL Lk x) ∧ (doL Lk x).fit)) := ⟨hrn, hry, herr, fun e => do_may HQ.out.2.1 HQ.out.2.2.1 hxf (herr.trans e)⟩
      obtain ⟨x0, x1, x2, x3, x4, x5, x6⟩ := hx
      have HDO : Hid (∀ z, Calls Try.prog 26 #[.pointer (some ⟨w.heap.size, 0, none⟩), .agg #[.int .i64 x.k, .string x.sku, .string x.loc, .string x.to, .int .i64 x.qty, .int .i64 x.id, .int .i64 x.due]] (wr.alloc z) fun e w'' => e = .returned (.int .i64 err) ∧ DoP wr w'' (fun k => k < w1.heap.size ∧ k ≠ w.heap.size) w.heap.size v0 v1 v2 Lk x) := fun z => by
        have := do_is (HQ.out.1.next (below1 wr z)) HQ.out.2.1 HQ.out.2.2.1 x hxf
        rw [herr] at this
        refine this.mono fun e w'' q => ⟨q.1, ?_, q.2.2⟩
        exact (stay_below (below1 wr z) HQ.out.1.lt).trans q.2.1
      obtain ⟨xk, xs, xl, xt, xq, xi, xd⟩ := x
      dsimp only at x0 x1 x2 x3 x4 x5 x6 HDO
      clear hc hb hxk hxf hdr hrn hry herr
      go_wp2_with fail
      refine Calls.mono (HDO.out _) ?_; rintro e w4 ⟨rfl, hdo⟩
      have HST : Hid _ := hdo.1
      have HB4 : Hid (Below w.heap.size w w4) := below_of_stay HQ.out.2.2.2.2.1 HST.out (fun k hk => ⟨by have := HLT.out; omega, by omega⟩)
      have HS4 : Hid (∀ g, g < w1.heap.size → g ≠ w.heap.size → w4.heap[g]? = w1.heap[g]?) := fun g h1 h2 => (HST.out.block g ⟨h1, h2⟩).trans (HQ.out.2.2.2.2.2 g h1 h2)
      have hq4 : CellsF w4 (w.heap.size + 1) [.slice none 0 0, .slice none 0 0, .slice none 0 0, .int .i64 0] := HC.out.2.far (HS4.out _ HLT.out (by omega))
      have HQ4 : Hid (CellsF w4 (w.heap.size + 1) [.slice none 0 0, .slice none 0 0, .slice none 0 0, .int .i64 0]) := hq4
      have r0 := hq4.cs 0 _ rfl
      have r1 := hq4.cs 1 _ rfl
      have r2 := hq4.cs 2 _ rfl
      have r3 := hq4.cs 3 _ rfl
      have s0 := hq4.fz 0
      have s1 := hq4.fz 1
      have s2 := hq4.fz 2
      have s3 := hq4.fz 3
      clear hq4 x0 x1 x2 x3 x4 x5 x6
      rcases hdo with ⟨hst, ⟨hne, hled⟩ | ⟨hz, v0', v1', v2', hled⟩⟩
      · rw [HX.out.2.2.1] at hne
        obtain ⟨e0, f0, e1, f1, e2, f2, rfl, rfl, rfl, hli⟩ := hled.forms
        have t0 := hled.c.cs 0 _ rfl
        have t1 := hled.c.cs 1 _ rfl
        have t2 := hled.c.cs 2 _ rfl
        have t3 := hled.c.cs 3 _ rfl
        have HLD : Hid (LedO w4 _ w.heap.size _ _ _ _) := hled
        have HFIN : Hid _ := fun u0 u1 u2 u3 => own_of_led (M := w.heap.size + 1) HLD.out HB4.out (Nat.le_refl _) ⟨HLT.out, by omega⟩ (by omega) HB1.out.size u0 u1 u2 u3
        have HR : Hid (r = (Lk, (k : Int), err)) := HX.out.1 hne
        clear hst hled hli
        go_wp2_with fail
        try simp only [Exit.inBlock, Exit.then]
        refine bodyPost_ret (end_cell_tmp2 rfl rfl (loadLed _ (HQ4.out.four rfl _ _ _ _) rfl)) rfl ?_
        rw [HR.out]
        exact ⟨_, _, _, _, _, _, _, _, _, rfl, HFIN.out _ _ _ _⟩
      · rw [HX.out.2.2.1] at hz
        have HNX : Hid (RpI w w1 w4 w.heap.size l r (k + 1)) := ⟨⟨_, _, _, _, hled, (HX.out.2.2.2 hz).1, (HX.out.2.2.2 hz).2, HX.out.2.1 hz⟩, HB4.out, HS4.out⟩
        subst hz
        clear hst hled r0 r1 r2 r3 s0 s1 s2 s3
        go_wp2_with fail
        go_roundw
        case rel => exact ⟨k + 1, by omega, by go_num, HNX.out⟩
        case measure => simp [intOf]; omega
    · have hkn : k = n := by omega
      subst hkn
      have hR : r = (Lk, (l.length : Int), 0) := by
        rw [HQ.out.2.2.2.1, List.drop_of_length_le (by rw [HM.out.2.2.2.1]; exact Nat.le_refl _), rpL, HM.out.2.2.2.1]; simp
      obtain ⟨e0, f0, e1, f1, e2, f2, rfl, rfl, rfl, hli⟩ := HQ.out.1.forms
      have t0 := HQ.out.1.c.cs 0 _ rfl
      have t1 := HQ.out.1.c.cs 1 _ rfl
      have t2 := HQ.out.1.c.cs 2 _ rfl
      have t3 := HQ.out.1.c.cs 3 _ rfl
      have hq4 : CellsF wr (w.heap.size + 1) [.slice none 0 0, .slice none 0 0, .slice none 0 0, .int .i64 0] := HC.out.2.far (HQ.out.2.2.2.2.2 _ HLT.out (by omega))
      have HQ4 : Hid (CellsF wr (w.heap.size + 1) [.slice none 0 0, .slice none 0 0, .slice none 0 0, .int .i64 0]) := hq4
      have r0 := hq4.cs 0 _ rfl
      have r1 := hq4.cs 1 _ rfl
      have r2 := hq4.cs 2 _ rfl
      have r3 := hq4.cs 3 _ rfl
      have s0 := hq4.fz 0
      have s1 := hq4.fz 1
      have s2 := hq4.fz 2
      have s3 := hq4.fz 3
      have HFIN : Hid _ := fun u0 u1 u2 u3 => own_of_led (M := w.heap.size + 1) HQ.out.1 HQ.out.2.2.2.2.1 (Nat.le_refl _) ⟨HLT.out, by omega⟩ (by omega) HB1.out.size u0 u1 u2 u3
      have HR : Hid (r = (Lk, (k : Int), 0)) := by show r = _; rw [hR, HM.out.2.2.2.1]
      clear hq4 hli hR
      go_wp2_with fail
      try simp only [Exit.inBlock, Exit.then]
      refine bodyPost_ret (end_cell_tmp2 rfl rfl (loadLed _ (HQ4.out.four rfl _ _ _ _) rfl)) rfl ?_
      rw [HR.out]
      exact ⟨_, _, _, _, _, _, _, _, _, rfl, HFIN.out _ _ _ _⟩
end Go.Proofs.Ytflbcheofmljeaa

namespace Go.Proofs.Ytflbcheofmljeaa
open Go.ChangeShapes Go.WideShapes Go.RowKit
set_option linter.unusedVariables false
set_option maxRecDepth 100000

abbrev tS : ByteArray := ⟨#[115]⟩
abbrev tX : ByteArray := ⟨#[120]⟩
abbrev tY : ByteArray := ⟨#[121]⟩
abbrev tN : ByteArray := ⟨#[]⟩
abbrev noL : Led := ⟨[], [], [], 0⟩
def awOps : List Opn := [⟨1, tS, tX, tN, 5, 0, 0⟩, ⟨2, tS, tX, tN, 3, 0, 0⟩, ⟨3, tN, tN, tN, 0, 1, 0⟩, ⟨6, tS, tX, tY, 1, 0, 0⟩]
def awL : Led := ⟨[⟨tS, tX, 1, 0⟩, ⟨tS, tY, 1, 0⟩], [⟨1, tS, tX, 3, 1, 0⟩], [⟨1, tS, tX, 5, 1, 0⟩, ⟨2, tS, tX, -3, 3, 1⟩, ⟨3, tS, tX, -1, 6, 0⟩, ⟨4, tS, tY, 1, 6, 0⟩], 4⟩
theorem aw1 : rpL noL awOps = (awL, 4, 0) := by decide +kernel
theorem aw2 : mayL awL := by decide +kernel
theorem aw3 : apE awL ⟨4, tN, tN, tN, 0, 1, 0⟩ = 71 := by decide +kernel
theorem aw4 : vl ((findK awL.S tS tX).on - (findK awL.S tS tX).held) = 1 := by rfl
theorem aw5 : (findK awL.S tS tY) = ⟨tS, tY, 1, 0⟩ := by rfl
theorem no_may : mayL noL := by decide
theorem no_fit : Led.fit noL := ⟨fun x h => (by cases h), fun x h => (by cases h), fun x h => (by cases h), (by unfold i64b; decide)⟩
/-- A ledger that is had as a value. -/
structure Have (w : World) (a0 : Option Addr) (n0 c0 : Nat) (a1 : Option Addr) (n1 c1 : Nat) (a2 : Option Addr) (n2 c2 : Nat) (L : Led) : Prop where
  h0 : L.S.length = n0
  h1 : L.H.length = n1
  h2 : L.M.length = n2
  z0 : a0 = none → n0 = 0 ∧ c0 = 0
  z1 : a1 = none → n1 = 0 ∧ c1 = 0
  z2 : a2 = none → n2 = 0 ∧ c2 = 0
  li : Lies w a0 a1 a2 L
theorem Have.next {w w' : World} {a0 : Option Addr} {n0 c0 : Nat} {a1 : Option Addr} {n1 c1 : Nat} {a2 : Option Addr} {n2 c2 : Nat} {L : Led} (h : Have w a0 n0 c0 a1 n1 c1 a2 n2 c2 L) (k : Below w.heap.size w w') : Have w' a0 n0 c0 a1 n1 c1 a2 n2 c2 L := ⟨h.h0, h.h1, h.h2, h.z0, h.z1, h.z2, h.li.next k⟩
theorem Have.none (w : World) : Have w .none 0 0 .none 0 0 .none 0 0 noL := ⟨rfl, rfl, rfl, fun _ => ⟨rfl, rfl⟩, fun _ => ⟨rfl, rfl⟩, fun _ => ⟨rfl, rfl⟩, Rw.nil _ _ _ _, Rw.nil _ _ _ _, Rw.nil _ _ _ _⟩
theorem own_nil {w : World} {e k n0 m c : Nat} {a : Option Addr} {xs : List Value} (h : w.ownsRow 0 e k (.slice a n0 c) m xs) : m = n0 ∧ (a = none → n0 = 0 ∧ c = 0) := by
  rcases h.2 with ⟨q, rfl⟩ | ⟨g, cap, cur, q, _⟩
  · injection q with q1 q2 q3; subst q1; subst q2; subst q3; exact ⟨rfl, fun _ => ⟨rfl, rfl⟩⟩
  · injection q with q1 q2 q3; subst q1; subst q2; subst q3; exact ⟨rfl, fun q => by cases q⟩
theorem Have.of {w w' : World} {a0 : Option Addr} {n0 c0 : Nat} {a1 : Option Addr} {n1 c1 : Nat} {a2 : Option Addr} {n2 c2 : Nat} {L : Led} (h : Own3 w w' (.slice a0 n0 c0) (.slice a1 n1 c1) (.slice a2 n2 c2) L) : Have w' a0 n0 c0 a1 n1 c1 a2 n2 c2 L := by
  obtain ⟨b0, d0, e0, r0⟩ := own_rowS h.S
  obtain ⟨b1, d1, e1, r1⟩ := own_rowH h.H
  obtain ⟨b2, d2, e2, r2⟩ := own_rowM h.M
  injection e0 with x0 y0 z0
  injection e1 with x1 y1 z1
  injection e2 with x2 y2 z2
  subst x0; subst x1; subst x2
  exact ⟨y0.symm, y1.symm, y2.symm, (own_nil h.S).2, (own_nil h.H).2, (own_nil h.M).2, r0, r1, r2⟩
theorem Have.apply {w : World} {a0 : Option Addr} {n0 c0 : Nat} {a1 : Option Addr} {n1 c1 : Nat} {a2 : Option Addr} {n2 c2 : Nat} {L : Led} (h : Have w a0 n0 c0 a1 n1 c1 a2 n2 c2 L) (hm : mayL L) (hf : L.fit) (o : Opn) (ho : o.fit) :
    Calls Try.prog 11 #[lval a0 n0 c0 a1 n1 c1 a2 n2 c2 L.ops, oval o] w fun e w' => ApP w w' L o e := by
  have hl := lens hm
  have := h.h0; have := h.h1; have := h.h2
  exact apply_is a0 n0 c0 a1 n1 c1 a2 n2 c2 L h.h0 h.h1 h.h2 (by omega) (by omega) (by omega) h.z0 h.z1 h.z2 hf o ho w h.li
theorem opv_get (l : List Opn) (i j : Nat) (x : Opn) (hx : l[i]? = some x) (u : Value) (hu : (opv x)[j]? = some u) (hj : j < 7) : (l.flatMap opv)[i * 7 + j]? = some u := by
  induction l generalizing i with
  | nil => cases hx
  | cons y r ih =>
    cases i with
    | zero =>
      cases hx
      rw [List.flatMap_cons, List.getElem?_append_left (by simp [opv]; omega), Nat.zero_mul, Nat.zero_add]
      exact hu
    | succ i =>
      rw [List.flatMap_cons, List.getElem?_append_right (by simp [opv]; omega)]
      have := ih i hx
      rwa [show (i + 1) * 7 + j - (opv y).length = i * 7 + j by simp [opv]; omega]
theorem rw_of_cells {w : World} {B : Nat} {l : List Opn} (h : CellsF w B (l.flatMap opv)) : Rw opv 7 w (some ⟨B, 0, none⟩) l := fun _ => ⟨B, 0, rfl, fun i x hx j u hu => by
  have hj : j < 7 := by
    have := (List.getElem?_eq_some_iff.1 hu).1
    simp [opv] at this; omega
  rw [Nat.zero_add]
  exact h.cs _ _ (opv_get l i j x hx u hu hj)⟩
theorem rcv_is (sku loc : ByteArray) (n : Int) (w : World) : Calls Try.prog 23 #[.string sku, .string loc, .int .i64 n] w fun e w' => e = .returned (.agg #[.int .i64 1, .string sku, .string loc, .string ⟨#[]⟩, .int .i64 n, .int .i64 0, .int .i64 0]) ∧ Below w.heap.size w w' := by
  go_enter Try.func23, Try.ntmps23
  go_wp2_with fail
  try simp only [Exit.inBlock, Exit.then]
  first
    | (refine bodyPost_ret (end_cell rfl rfl (loadOp _ (CellsF.at _ 28 (by simp) rfl) rfl)) rfl ?_; exact ⟨rfl, below1 _ _⟩)
    | (go_ret; exact ⟨rfl, below1 _ _⟩)
end Go.Proofs.Ytflbcheofmljeaa

namespace Go.Proofs.Ytflbcheofmljeaa
open Go.ChangeShapes Go.WideShapes Go.RowKit
set_option linter.unusedVariables false
set_option maxRecDepth 100000

theorem aw_fits : ∀ o, o ∈ awOps → o.fit := by
  intro o h
  simp only [awOps, List.mem_cons, List.not_mem_nil, or_false] at h
  rcases h with rfl | rfl | rfl | rfl <;> exact ⟨by unfold i64b; decide, by unfold i64b; decide, by unfold i64b; decide, by unfold i64b; decide⟩
theorem aw_fit : awL.fit := by
  refine ⟨fun x h => ?_, fun x h => ?_, fun x h => ?_, by unfold i64b; decide⟩
  · simp only [awL, List.mem_cons, List.not_mem_nil, or_false] at h
    rcases h with rfl | rfl <;> exact ⟨by unfold i64b; decide, by unfold i64b; decide⟩
  · simp only [awL, List.mem_cons, List.not_mem_nil, or_false] at h
    rcases h with rfl <;> exact ⟨by unfold i64b; decide, by unfold i64b; decide, by unfold i64b; decide, by unfold i64b; decide⟩
  · simp only [awL, List.mem_cons, List.not_mem_nil, or_false] at h
    rcases h with rfl | rfl | rfl | rfl <;> exact ⟨by unfold i64b; decide, by unfold i64b; decide, by unfold i64b; decide, by unfold i64b; decide⟩
theorem field_on (a b c d : Value) (w : World) : (Instr.field 50 (.agg #[a, b, c, d]) 2).run Try.prog w = .ok c w := by
  rfl
set_option maxHeartbeats 4000000 in
theorem awake_is (w : World) : Calls Try.prog 10 #[] w fun e w' => e = .returned (.bool true) ∧ Below w.heap.size w w' := by
  have HRC : Hid (Calls Try.prog 23 #[.string ⟨#[115]⟩, .string ⟨#[120]⟩, .int .i64 5] w fun e w' => e = .returned (.agg #[.int .i64 1, .string ⟨#[115]⟩, .string ⟨#[120]⟩, .string ⟨#[]⟩, .int .i64 5, .int .i64 0, .int .i64 0]) ∧ Below w.heap.size w w') := rcv_is _ _ _ _
  have HRP : Hid (∀ (w1 : World) (t : TypeId), Calls Try.prog 16 #[.agg #[.slice none 0 0, .slice none 0 0, .slice none 0 0, .int .i64 0], .slice (some ⟨w1.heap.size, 0, none⟩) 4 4] (w1.alloc (.cells #[.int .i64 1, .string ⟨#[115]⟩, .string ⟨#[120]⟩, .string ⟨#[]⟩, .int .i64 5, .int .i64 0, .int .i64 0, .int .i64 2, .string ⟨#[115]⟩, .string ⟨#[120]⟩, .string ⟨#[]⟩, .int .i64 3, .int .i64 0, .int .i64 0, .int .i64 3, .string ⟨#[]⟩, .string ⟨#[]⟩, .string ⟨#[]⟩, .int .i64 0, .int .i64 1, .int .i64 0, .int .i64 6, .string ⟨#[115]⟩, .string ⟨#[120]⟩, .string ⟨#[121]⟩, .int .i64 1, .int .i64 0, .int .i64 0] t)) fun e w' => ∃ a0 n0 c0 a1 n1 c1 a2 c2, e = .returned (.tuple #[.agg #[.slice a0 n0 c0, .slice a1 n1 c1, .slice a2 4 c2, .int .i64 4], .int .i64 4, .int .i64 0]) ∧ Have w' a0 n0 c0 a1 n1 c1 a2 4 c2 awL ∧ Below w1.heap.size w1 w') := fun w1 t => by
    have hv := Have.none (w1.alloc (.cells #[.int .i64 1, .string ⟨#[115]⟩, .string ⟨#[120]⟩, .string ⟨#[]⟩, .int .i64 5, .int .i64 0, .int .i64 0, .int .i64 2, .string ⟨#[115]⟩, .string ⟨#[120]⟩, .string ⟨#[]⟩, .int .i64 3, .int .i64 0, .int .i64 0, .int .i64 3, .string ⟨#[]⟩, .string ⟨#[]⟩, .string ⟨#[]⟩, .int .i64 0, .int .i64 1, .int .i64 0, .int .i64 6, .string ⟨#[115]⟩, .string ⟨#[120]⟩, .string ⟨#[121]⟩, .int .i64 1, .int .i64 0, .int .i64 0] t))
    have hc : CellsF (w1.alloc (.cells #[.int .i64 1, .string ⟨#[115]⟩, .string ⟨#[120]⟩, .string ⟨#[]⟩, .int .i64 5, .int .i64 0, .int .i64 0, .int .i64 2, .string ⟨#[115]⟩, .string ⟨#[120]⟩, .string ⟨#[]⟩, .int .i64 3, .int .i64 0, .int .i64 0, .int .i64 3, .string ⟨#[]⟩, .string ⟨#[]⟩, .string ⟨#[]⟩, .int .i64 0, .int .i64 1, .int .i64 0, .int .i64 6, .string ⟨#[115]⟩, .string ⟨#[120]⟩, .string ⟨#[121]⟩, .int .i64 1, .int .i64 0, .int .i64 0] t)) w1.heap.size (awOps.flatMap opv) := CellsF.at _ t (by decide) rfl
    refine (replay_is none 0 0 none 0 0 none 0 0 noL rfl rfl rfl hv.z0 hv.z1 hv.z2 no_may no_fit (some ⟨w1.heap.size, 0, none⟩) 4 4 awOps rfl (by omega) aw_fits _ hv.li (rw_of_cells hc)).mono ?_
    rintro e w' ⟨a0, n0, c0, a1, n1, c1, a2, n2, c2, he, ho⟩
    rw [aw1] at he ho
    have hh := Have.of ho
    have h4 : n2 = 4 := hh.h2.symm
    subst h4
    exact ⟨a0, n0, c0, a1, n1, c1, a2, c2, he, hh, Below.next (below1 _ _) ho.bel⟩
  have HAP : Hid (∀ (w' : World) a0 n0 c0 a1 n1 c1 a2 c2, Have w' a0 n0 c0 a1 n1 c1 a2 4 c2 awL → Calls Try.prog 11 #[.agg #[.slice a0 n0 c0, .slice a1 n1 c1, .slice a2 4 c2, .int .i64 4], .agg #[.int .i64 4, .string ⟨#[]⟩, .string ⟨#[]⟩, .string ⟨#[]⟩, .int .i64 0, .int .i64 1, .int .i64 0]] w' fun e w'' => e = .returned (.tuple #[.agg #[.slice none 0 0, .slice none 0 0, .slice none 0 0, .int .i64 0], .int .i64 71]) ∧ Below w'.heap.size w' w'') := fun w' a0 n0 c0 a1 n1 c1 a2 c2 h => by
    refine (h.apply aw2 aw_fit ⟨4, tN, tN, tN, 0, 1, 0⟩ ⟨by unfold i64b; decide, by unfold i64b; decide, by unfold i64b; decide, by unfold i64b; decide⟩).mono ?_
    rintro e w'' (⟨h1, h2, h3⟩ | ⟨h1, _⟩)
    · rw [aw3] at h2; exact ⟨h2, h3⟩
    · rw [aw3] at h1; omega
  have HFR : Hid (∀ (w' : World) a0 n0 c0 a1 n1 c1 a2 c2, Have w' a0 n0 c0 a1 n1 c1 a2 4 c2 awL → Calls Try.prog 21 #[.agg #[.slice a0 n0 c0, .slice a1 n1 c1, .slice a2 4 c2, .int .i64 4], .string ⟨#[115]⟩, .string ⟨#[120]⟩] w' fun e w'' => e = .returned (.int .i64 1) ∧ Below w'.heap.size w' w'') := fun w' a0 n0 c0 a1 n1 c1 a2 c2 h => by
    have hn : n0 = 2 := h.h0.symm
    have := freeL_is a0 n0 c0 a1 n1 c1 a2 4 c2 4 awL.S h.h0 (by omega) aw_fit.S tS tX w' h.li.S
    rw [aw4] at this
    exact this
  have HFI : Hid (∀ (w' : World) a0 n0 c0 a1 n1 c1 a2 c2, Have w' a0 n0 c0 a1 n1 c1 a2 4 c2 awL → Calls Try.prog 22 #[.agg #[.slice a0 n0 c0, .slice a1 n1 c1, .slice a2 4 c2, .int .i64 4], .string ⟨#[115]⟩, .string ⟨#[121]⟩] w' fun e w'' => e = .returned (.agg #[.string ⟨#[115]⟩, .string ⟨#[121]⟩, .int .i64 1, .int .i64 0]) ∧ Below w'.heap.size w' w'') := fun w' a0 n0 c0 a1 n1 c1 a2 c2 h => by
    have hn : n0 = 2 := h.h0.symm
    have := find_is a0 n0 c0 a1 n1 c1 a2 4 c2 4 awL.S h.h0 (by omega) tS tY w' h.li.S
    rw [aw5] at this
    exact this
  have HCK : Hid (∀ (w' : World) a0 n0 c0 a1 n1 c1 a2 c2, Have w' a0 n0 c0 a1 n1 c1 a2 4 c2 awL → Calls Try.prog 14 #[.agg #[.slice a0 n0 c0, .slice a1 n1 c1, .slice a2 4 c2, .int .i64 4]] w' fun e w'' => e = .returned (.int .i64 0) ∧ Below w'.heap.size w' w'') := fun w' a0 n0 c0 a1 n1 c1 a2 c2 h => by
    have hn : n0 = 2 := h.h0.symm
    have hn1 : n1 = 1 := h.h1.symm
    have := checkL_is a0 n0 c0 a1 n1 c1 a2 4 c2 awL h.h0 h.h1 h.h2 (by omega) (by omega) (by omega) aw_fit w' h.li
    rw [if_pos aw2] at this
    exact this
  go_enter Try.func10, Try.ntmps10
  go_wp2_with fail
  refine Calls.mono HRC.out ?_; rintro e w1 ⟨rfl, k1⟩
  have HB1 : Hid (Below w.heap.size w w1) := k1
  clear k1
  go_wp2_with fail
  refine Calls.mono (HRP.out _ _) ?_; rintro e w2 ⟨a0, n0, c0, a1, n1, c1, a2, c2, rfl, hv, k2⟩
  have HB2 : Hid (Below w.heap.size w w2) := Below.next HB1.out k2
  have HV : Hid (Have w2 a0 n0 c0 a1 n1 c1 a2 4 c2 awL) := hv
  have HC : Hid (∀ x, CellsF (w2.alloc (.cells #[.slice a0 n0 c0, .slice a1 n1 c1, .slice a2 4 c2, .int .i64 4] x)) w2.heap.size [.slice a0 n0 c0, .slice a1 n1 c1, .slice a2 4 c2, .int .i64 4]) := fun x => CellsF.at _ x (by simp) rfl
  clear hv k2
  go_wp2_with fail
  refine Calls.mono (HAP.out _ _ _ _ _ _ _ _ _ (HV.out.next (below1 _ _))) ?_; rintro e w3 ⟨rfl, k3⟩
  have q3 := (HC.out _).next k3
  have HC3 : Hid (CellsF w3 w2.heap.size [.slice a0 n0 c0, .slice a1 n1 c1, .slice a2 4 c2, .int .i64 4]) := q3
  have HV3 : Hid (Have w3 a0 n0 c0 a1 n1 c1 a2 4 c2 awL) := (HV.out.next (below1 _ _)).next k3
  have HB3 : Hid (Below w.heap.size w w3) := Below.next (Below.next HB2.out (below1 _ _)) k3
  have x0 := fun z => (q3.next (below1 w3 z)).cs 0 _ rfl
  have x1 := fun z => (q3.next (below1 w3 z)).cs 1 _ rfl
  have x2 := fun z => (q3.next (below1 w3 z)).cs 2 _ rfl
  have x3 := fun z => (q3.next (below1 w3 z)).cs 3 _ rfl
  clear k3 q3
  go_wp2_with fail
  refine Calls.mono (HFR.out _ _ _ _ _ _ _ _ _ (HV3.out.next (below1 _ _))) ?_; rintro e w4 ⟨rfl, k4⟩
  have q4 := (HC3.out.next (below1 _ _)).next k4
  have HC4 : Hid (CellsF w4 w2.heap.size [.slice a0 n0 c0, .slice a1 n1 c1, .slice a2 4 c2, .int .i64 4]) := q4
  have HV4 : Hid (Have w4 a0 n0 c0 a1 n1 c1 a2 4 c2 awL) := (HV3.out.next (below1 _ _)).next k4
  have HB4 : Hid (Below w.heap.size w w4) := Below.next (Below.next HB3.out (below1 _ _)) k4
  have y0 := q4.cs 0 _ rfl
  have y1 := q4.cs 1 _ rfl
  have y2 := q4.cs 2 _ rfl
  have y3 := q4.cs 3 _ rfl
  clear k4 q4 x0 x1 x2 x3
  go_wp2_with fail
  refine Calls.mono (HFI.out _ _ _ _ _ _ _ _ _ HV4.out) ?_; rintro e w5 ⟨rfl, k5⟩
  have q5 := HC4.out.next k5
  have HC5 : Hid (CellsF w5 w2.heap.size [.slice a0 n0 c0, .slice a1 n1 c1, .slice a2 4 c2, .int .i64 4]) := q5
  have HV5 : Hid (Have w5 a0 n0 c0 a1 n1 c1 a2 4 c2 awL) := HV4.out.next k5
  have HB5 : Hid (Below w.heap.size w w5) := Below.next HB4.out k5
  have t0 := q5.cs 0 _ rfl
  have t1 := q5.cs 1 _ rfl
  have t2 := q5.cs 2 _ rfl
  have t3 := q5.cs 3 _ rfl
  have t0' := fun z => (q5.next (below1 w5 z)).cs 0 _ rfl
  have t1' := fun z => (q5.next (below1 w5 z)).cs 1 _ rfl
  have t2' := fun z => (q5.next (below1 w5 z)).cs 2 _ rfl
  have t3' := fun z => (q5.next (below1 w5 z)).cs 3 _ rfl
  have hfl := field_on (.string ⟨#[115]⟩) (.string ⟨#[121]⟩) (.int .i64 1) (.int .i64 0)
  clear k5 q5 y0 y1 y2 y3
  go_wp2_with fail
  first
    | refine Calls.mono (HCK.out _ _ _ _ _ _ _ _ _ HV5.out) ?_
    | refine Calls.mono (HCK.out _ _ _ _ _ _ _ _ _ (HV5.out.next (below1 _ _))) ?_
  rintro e w6 ⟨rfl, k6⟩
  have HB6 : Hid (Below w.heap.size w w6) := by first | exact Below.next HB5.out k6 | exact Below.next (Below.next HB5.out (below1 _ _)) k6
  clear k6
  go_wp2_with fail
  go_ret
  exact ⟨rfl, HB6.out⟩
end Go.Proofs.Ytflbcheofmljeaa

namespace Go.Proofs.Ytflbcheofmljeaa
open Go.ChangeShapes Go.WideShapes Go.RowKit
set_option linter.unusedVariables false
set_option maxRecDepth 100000

def E3 (q n : Int) : Led := ⟨[⟨tS, tX, q, 0⟩, ⟨tS, tY, n, 0⟩], [], [⟨1, tS, tX, q, 1, 0⟩, ⟨2, tS, tY, n, 1, 0⟩], 2⟩
theorem Have.of3 {w' : World} {a0 : Option Addr} {n0 c0 : Nat} {a1 : Option Addr} {n1 c1 : Nat} {a2 : Option Addr} {n2 c2 : Nat} {L : Led} (hS : w'.ownsRow 0 50 4 (.slice a0 n0 c0) L.S.length (L.S.flatMap stv)) (hH : w'.ownsRow 0 44 6 (.slice a1 n1 c1) L.H.length (L.H.flatMap hlv)) (hM : w'.ownsRow 0 42 6 (.slice a2 n2 c2) L.M.length (L.M.flatMap mvv)) : Have w' a0 n0 c0 a1 n1 c1 a2 n2 c2 L := by
  obtain ⟨b0, d0, e0, r0⟩ := own_rowS hS
  obtain ⟨b1, d1, e1, r1⟩ := own_rowH hH
  obtain ⟨b2, d2, e2, r2⟩ := own_rowM hM
  injection e0 with x0 y0 z0
  injection e1 with x1 y1 z1
  injection e2 with x2 y2 z2
  subst x0; subst x1; subst x2
  exact ⟨y0.symm, y1.symm, y2.symm, (own_nil hS).2, (own_nil hH).2, (own_nil hM).2, r0, r1, r2⟩
/-- It is had wherever the blocks from one on are as they were. -/
def Far (w w' : World) (a0 : Option Addr) (n0 c0 : Nat) (a1 : Option Addr) (n1 c1 : Nat) (a2 : Option Addr) (n2 c2 : Nat) (L : Led) : Prop := ∀ w5 : World, (∀ g, w.heap.size ≤ g → w5.heap[g]? = w'.heap[g]?) → Have w5 a0 n0 c0 a1 n1 c1 a2 n2 c2 L
theorem Far.four {w w' : World} {a0 : Option Addr} {n0 c0 : Nat} {a1 : Option Addr} {n1 c1 : Nat} {a2 : Option Addr} {n2 c2 : Nat} {L : Led} (h : Far w w' a0 n0 c0 a1 n1 c1 a2 n2 c2 L) {B : Nat} (hB : B < w.heap.size) (u0 u1 u2 u3 : Value) : Have ((((w'.setCell ⟨B, 0, none⟩ u0).setCell ⟨B, 1, none⟩ u1).setCell ⟨B, 2, none⟩ u2).setCell ⟨B, 3, none⟩ u3) a0 n0 c0 a1 n1 c1 a2 n2 c2 L := h _ (fun g hg => by
  have n0 : g ≠ B := by omega
  rw [Below.heap_setCell _ _ _ _ n0, Below.heap_setCell _ _ _ _ n0, Below.heap_setCell _ _ _ _ n0, Below.heap_setCell _ _ _ _ n0])
end Go.Proofs.Ytflbcheofmljeaa

namespace Go.Proofs.Ytflbcheofmljeaa
open Go.ChangeShapes Go.WideShapes Go.RowKit
set_option linter.unusedVariables false
set_option maxRecDepth 100000

/-- It is had wherever the blocks of a stretch are as they were. -/
def Near (A E : Nat) (w' : World) (a0 : Option Addr) (an0 ac0 : Nat) (a1 : Option Addr) (an1 ac1 : Nat) (a2 : Option Addr) (an2 ac2 : Nat) (L : Led) : Prop := ∀ w5 : World, (∀ g, A ≤ g → g < E → w5.heap[g]? = w'.heap[g]?) → Have w5 a0 an0 ac0 a1 an1 ac1 a2 an2 ac2 L
theorem Near.far {A E : Nat} {w' w'' : World} {a0 : Option Addr} {an0 ac0 : Nat} {a1 : Option Addr} {an1 ac1 : Nat} {a2 : Option Addr} {an2 ac2 : Nat} {L : Led} (h : Near A E w' a0 an0 ac0 a1 an1 ac1 a2 an2 ac2 L) (k : ∀ g, A ≤ g → g < E → w''.heap[g]? = w'.heap[g]?) : Near A E w'' a0 an0 ac0 a1 an1 ac1 a2 an2 ac2 L := fun w5 q => h w5 (fun g h1 h2 => (q g h1 h2).trans (k g h1 h2))
theorem Near.next {A E : Nat} {w' w'' : World} {a0 : Option Addr} {an0 ac0 : Nat} {a1 : Option Addr} {an1 ac1 : Nat} {a2 : Option Addr} {an2 ac2 : Nat} {L : Led} (h : Near A E w' a0 an0 ac0 a1 an1 ac1 a2 an2 ac2 L) (hE : E ≤ w'.heap.size) (k : Below w'.heap.size w' w'') : Near A E w'' a0 an0 ac0 a1 an1 ac1 a2 an2 ac2 L := h.far (fun g _ h2 => k.block g (Nat.lt_of_lt_of_le h2 hE))
theorem four_far (w' : World) (B : Nat) (u0 u1 u2 u3 : Value) {g : Nat} (n0 : g ≠ B) : ((((w'.setCell ⟨B, 0, none⟩ u0).setCell ⟨B, 1, none⟩ u1).setCell ⟨B, 2, none⟩ u2).setCell ⟨B, 3, none⟩ u3).heap[g]? = w'.heap[g]? := by
  rw [Below.heap_setCell _ _ _ _ n0, Below.heap_setCell _ _ _ _ n0, Below.heap_setCell _ _ _ _ n0, Below.heap_setCell _ _ _ _ n0]
theorem size_four (w' : World) (B : Nat) (u0 u1 u2 u3 : Value) : ((((w'.setCell ⟨B, 0, none⟩ u0).setCell ⟨B, 1, none⟩ u1).setCell ⟨B, 2, none⟩ u2).setCell ⟨B, 3, none⟩ u3).heap.size = w'.heap.size := by simp
theorem Near.four {A E : Nat} {w' : World} {a0 : Option Addr} {an0 ac0 : Nat} {a1 : Option Addr} {an1 ac1 : Nat} {a2 : Option Addr} {an2 ac2 : Nat} {L : Led} (h : Near A E w' a0 an0 ac0 a1 an1 ac1 a2 an2 ac2 L) {B : Nat} (hB : B < A) (u0 u1 u2 u3 : Value) : Near A E ((((w'.setCell ⟨B, 0, none⟩ u0).setCell ⟨B, 1, none⟩ u1).setCell ⟨B, 2, none⟩ u2).setCell ⟨B, 3, none⟩ u3) a0 an0 ac0 a1 an1 ac1 a2 an2 ac2 L := h.far (fun g hg _ => four_far _ _ _ _ _ _ (by omega))
end Go.Proofs.Ytflbcheofmljeaa

namespace Go.Proofs.Ytflbcheofmljeaa
open Go.ChangeShapes Go.WideShapes Go.RowKit
set_option linter.unusedVariables false
set_option maxRecDepth 100000

/-- Holds stay, but for their state, which changes of active ones alone. -/
def KeptH (H H' : List Hld) : Prop := H.length ≤ H'.length ∧ ∀ (i : Nat) (x : Hld), H[i]? = some x → ∃ y : Hld, H'[i]? = some y ∧ { y with st := x.st } = x ∧ (¬ x.st = 0 → y.st = x.st)
theorem KeptH.refl (H : List Hld) : KeptH H H := ⟨Nat.le_refl _, fun i x h => ⟨x, h, rfl, fun _ => rfl⟩⟩
theorem KeptH.trans {A B C : List Hld} (h : KeptH A B) (k : KeptH B C) : KeptH A C := by
  refine ⟨Nat.le_trans h.1 k.1, fun i x hx => ?_⟩
  obtain ⟨y, hy, e1, s1⟩ := h.2 i x hx
  obtain ⟨z, hz, e2, s2⟩ := k.2 i y hy
  refine ⟨z, hz, ?_, fun q => ?_⟩
  · rw [← e1, ← e2]
  · have := s1 q
    rw [s2 (by rw [this]; exact q), this]
theorem KeptH.set {H : List Hld} {i : Nat} {x : Hld} (hx : H[i]? = some x) (h0 : x.st = 0) (s : Int) : KeptH H (H.set i { x with st := s }) := by
  refine ⟨by simp, fun j y hy => ?_⟩
  by_cases e : i = j
  · subst e
    have hi := (List.getElem?_eq_some_iff.1 hx).1
    rw [hx] at hy; injection hy with hy; subst hy
    exact ⟨{ x with st := s }, by rw [List.getElem?_set_self hi], rfl, fun q => absurd h0 q⟩
  · exact ⟨y, by rw [List.getElem?_set_ne e]; exact hy, rfl, fun _ => rfl⟩
theorem expL_kept (L : Led) (due : Int) (i : Nat) : KeptH L.H (expL L due i).H ∧ (expL L due i).M = L.M := by
  induction i with
  | zero => exact ⟨KeptH.refl _, rfl⟩
  | succ i ih =>
    unfold expL
    split
    · rename_i x hx
      split
      · rename_i hd
        exact ⟨ih.1.trans (KeptH.set hx hd.1 2), ih.2⟩
      · exact ih
    · exact ih
end Go.Proofs.Ytflbcheofmljeaa

namespace Go.Proofs.Ytflbcheofmljeaa
open Go.ChangeShapes Go.WideShapes Go.RowKit
set_option linter.unusedVariables false
set_option maxRecDepth 100000

structure Few (k : Nat) (L : Led) : Prop where
  ops : L.ops ≤ (k : Int)
  H : L.H.length ≤ k
  M : L.M.length ≤ 2 * k
theorem Few.mono {k m : Nat} {L : Led} (h : Few k L) (hk : k ≤ m) : Few m L := ⟨by have := h.ops; omega, by have := h.H; omega, by have := h.M; omega⟩
end Go.Proofs.Ytflbcheofmljeaa
