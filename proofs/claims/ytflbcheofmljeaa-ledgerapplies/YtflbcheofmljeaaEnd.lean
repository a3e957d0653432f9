/- ledger.end: a hold goes into another state. -/
import Derived.Test.YtflbcheofmljeaaMove
namespace Go.Proofs.Ytflbcheofmljeaa
open Go.ChangeShapes Go.WideShapes Go.RowKit
set_option linter.unusedVariables false
set_option maxRecDepth 100000

/-- A ledger with a hold in another state. -/
def endL (L : Led) (i : Nat) (x : Hld) (st : Int) : Led := { L with S := addHeld L.S x.sku x.loc (-x.qty), H := L.H.set i { x with st := st } }
/-- What is written behind stockOf. -/
structure EndT (W3 W4 : World) (g1 i : Nat) (N : Nat) (xi : Int) (xs xl : ByteArray) (xq xt st xd : Int) : Prop where
  y4 : W3.cell? ⟨g1, i * 6 + 4, none⟩ = some (.int .i64 xt)
  yf : W3.frozen? ⟨g1, i * 6 + 4, none⟩ = false
  hat : HldAt W4 g1 (i * 6) ⟨xi, xs, xl, xq, st, xd⟩
  R : CellsF W4 N [.int .i64 0, .string ⟨#[]⟩, .string ⟨#[]⟩, .int .i64 0, .int .i64 0, .int .i64 0]
theorem end_tail {W w2 : World} {E' : Nat → Prop} {b g m cap g1 n1 c1 : Nat} {v2 : Value} {L : Led} {i k N : Nat} {xi xq xt xd st : Int} {xs xl : ByteArray} {f : Stk}
    (q1 : LedO w2 E' b (.slice (some ⟨g, 0, none⟩) m cap) (.slice (some ⟨g1, 0, none⟩) n1 c1) v2 { L with S := ens L.S xs xl }) (q2 : Stay E' W.drew w2) (hA : ∃ h : k < (ens L.S xs xl).length, (ens L.S xs xl)[k] = f) (hx : L.H[i]? = some ⟨xi, xs, xl, xq, xt, xd⟩) (hn1 : L.H.length = n1) (hN : E' N) (hR : CellsF W N [.int .i64 0, .string ⟨#[]⟩, .string ⟨#[]⟩, .int .i64 0, .int .i64 0, .int .i64 0]) :
    EndT (w2.setCell ⟨g, k * 4 + 3, none⟩ (.int .i64 (f.held - xq))) ((w2.setCell ⟨g, k * 4 + 3, none⟩ (.int .i64 (f.held - xq))).setCell ⟨g1, i * 6 + 4, none⟩ (.int .i64 st)) g1 i N xi xs xl xq xt st xd ∧
    LedO ((w2.setCell ⟨g, k * 4 + 3, none⟩ (.int .i64 (f.held - xq))).setCell ⟨g1, i * 6 + 4, none⟩ (.int .i64 st)) E' b (.slice (some ⟨g, 0, none⟩) m cap) (.slice (some ⟨g1, 0, none⟩) n1 c1) v2 { L with S := (ens L.S xs xl).set k { f with held := f.held - xq }, H := L.H.set i ⟨xi, xs, xl, xq, st, xd⟩ } ∧
    Stay E' W ((w2.setCell ⟨g, k * 4 + 3, none⟩ (.int .i64 (f.held - xq))).setCell ⟨g1, i * 6 + 4, none⟩ (.int .i64 st)) := by
  obtain ⟨W3, hW3⟩ : ∃ W3, w2.setCell ⟨g, k * 4 + 3, none⟩ (.int .i64 (f.held - xq)) = W3 := ⟨_, rfl⟩
  obtain ⟨A1, A2⟩ := LedO.setS q1 k 3 hA.1 (by omega) { f with held := f.held - xq } (.int .i64 (f.held - xq)) (by
    have : ({ L with S := ens L.S xs xl } : Led).S[k]'hA.1 = f := hA.2
    rw [this]; rfl)
  rw [hW3] at A1 A2 ⊢
  have hil2 : i < L.H.length := (List.getElem?_eq_some_iff.1 hx).1
  have hxe : L.H[i]'hil2 = ⟨xi, xs, xl, xq, xt, xd⟩ := (List.getElem?_eq_some_iff.1 hx).2
  obtain ⟨B1, B2⟩ := LedO.setH A1 i 4 hil2 (by omega) ⟨xi, xs, xl, xq, st, xd⟩ (.int .i64 st) (by
    show hlv ⟨xi, xs, xl, xq, st, xd⟩ = (hlv (L.H[i]'hil2)).set 4 _
    rw [hxe]; rfl)
  obtain ⟨W4, hW4⟩ : ∃ W4, W3.setCell ⟨g1, i * 6 + 4, none⟩ (.int .i64 st) = W4 := ⟨_, rfl⟩
  rw [hW4] at B1 B2 ⊢
  have hat3 : HldAt W3 g1 (i * 6) ⟨xi, xs, xl, xq, xt, xd⟩ := by
    obtain ⟨a1, c1', e1, hr1⟩ := own_rowH A1.H
    cases e1
    obtain ⟨g', o, eg, hgl, hc⟩ := hr1.hld (fun e => by rw [show L.H = [] from e] at hil2; exact absurd hil2 (Nat.not_lt_zero _))
    cases eg
    have hxx := hc i hil2
    rw [show ({ L with S := (ens L.S xs xl).set k { f with held := f.held - xq } } : Led).H[i]'hil2 = ⟨xi, xs, xl, xq, xt, xd⟩ from hxe, Nat.zero_add] at hxx
    exact hxx
  have hat4 : HldAt W4 g1 (i * 6) ⟨xi, xs, xl, xq, st, xd⟩ := by
    rw [← hW4]
    exact ⟨(cell_put _ (fun q => by omega)).trans hat3.c0, (cell_put _ (fun q => by omega)).trans hat3.c1, (cell_put _ (fun q => by omega)).trans hat3.c2, (cell_put _ (fun q => by omega)).trans hat3.c3, World.cell?_setCell_same' _ _ _ (by rw [hat3.c4]; rfl), (cell_put _ (fun q => by omega)).trans hat3.c5⟩
  have yf : W3.frozen? ⟨g1, i * 6 + 4, none⟩ = false := by
    have q := A1.H
    rw [show ({ L with S := (ens L.S xs xl).set k { f with held := f.held - xq } } : Led).H.length = n1 from hn1] at q
    exact World.ownsRow.frozenAt q _
  have s4 := q2.trans (A2.trans B2)
  have hst4 : Stay E' W W4 := ⟨s4.os, s4.tape, s4.output, s4.size, s4.block⟩
  exact ⟨⟨hat3.c4, yf, hat4, hR.far (hst4.block _ hN)⟩, B1, hst4⟩
theorem size_set (w : World) (p : Addr) (u : Value) : (w.setCell p u).heap.size = w.heap.size := by simp
theorem end_last {w W4 : World} {E E' : Nat → Prop} {b : Nat} {v0 v1 v2 : Value} {L9 : Led} (hE : ∀ q, (E q ∨ q = w.heap.size) ↔ E' q) (hl : ∀ q, E q → q < w.heap.size) (h : LedO W4 E' b v0 v1 v2 L9) (s : Stay E w W4) (u0 u1 u2 u3 u4 u5 : Value) :
    LedO ((((((W4.setCell ⟨w.heap.size, 0, none⟩ u0).setCell ⟨w.heap.size, 1, none⟩ u1).setCell ⟨w.heap.size, 2, none⟩ u2).setCell ⟨w.heap.size, 3, none⟩ u3).setCell ⟨w.heap.size, 4, none⟩ u4).setCell ⟨w.heap.size, 5, none⟩ u5) E b v0 v1 v2 L9 ∧ Stay E w ((((((W4.setCell ⟨w.heap.size, 0, none⟩ u0).setCell ⟨w.heap.size, 1, none⟩ u1).setCell ⟨w.heap.size, 2, none⟩ u2).setCell ⟨w.heap.size, 3, none⟩ u3).setCell ⟨w.heap.size, 4, none⟩ u4).setCell ⟨w.heap.size, 5, none⟩ u5) := by
  have hne : ¬ E w.heap.size := fun q => Nat.lt_irrefl _ (hl _ q)
  have hs := (((((s.setCell (p := ⟨w.heap.size, 0, none⟩) hne u0).setCell (p := ⟨w.heap.size, 1, none⟩) hne u1).setCell (p := ⟨w.heap.size, 2, none⟩) hne u2).setCell (p := ⟨w.heap.size, 3, none⟩) hne u3).setCell (p := ⟨w.heap.size, 4, none⟩) hne u4).setCell (p := ⟨w.heap.size, 5, none⟩) hne u5
  have hz : ((((((W4.setCell ⟨w.heap.size, 0, none⟩ u0).setCell ⟨w.heap.size, 1, none⟩ u1).setCell ⟨w.heap.size, 2, none⟩ u2).setCell ⟨w.heap.size, 3, none⟩ u3).setCell ⟨w.heap.size, 4, none⟩ u4).setCell ⟨w.heap.size, 5, none⟩ u5).heap.size = W4.heap.size := by rw [size_set, size_set, size_set, size_set, size_set, size_set]
  have hk : ∀ g, g ≠ w.heap.size → ((((((W4.setCell ⟨w.heap.size, 0, none⟩ u0).setCell ⟨w.heap.size, 1, none⟩ u1).setCell ⟨w.heap.size, 2, none⟩ u2).setCell ⟨w.heap.size, 3, none⟩ u3).setCell ⟨w.heap.size, 4, none⟩ u4).setCell ⟨w.heap.size, 5, none⟩ u5).heap[g]? = W4.heap[g]? := fun g n0 => by
    rw [Below.heap_setCell _ _ _ _ n0, Below.heap_setCell _ _ _ _ n0, Below.heap_setCell _ _ _ _ n0, Below.heap_setCell _ _ _ _ n0, Below.heap_setCell _ _ _ _ n0, Below.heap_setCell _ _ _ _ n0]
  generalize ((((((W4.setCell ⟨w.heap.size, 0, none⟩ u0).setCell ⟨w.heap.size, 1, none⟩ u1).setCell ⟨w.heap.size, 2, none⟩ u2).setCell ⟨w.heap.size, 3, none⟩ u3).setCell ⟨w.heap.size, 4, none⟩ u4).setCell ⟨w.heap.size, 5, none⟩ u5) = W5 at *
  have hneE : ∀ q, ¬ E' q → q ≠ w.heap.size := fun q hq e => hq ((hE q).1 (.inr e))
  exact ⟨(h.keep (by omega) (hk b (hneE b h.e)) (fun q hq => hk q (hneE q (h.e0 q hq).1)) (fun q hq => hk q (hneE q (h.e1 q hq).1)) (fun q hq => hk q (hneE q (h.e2 q hq).1))).less (fun q hq => (hE q).1 (.inl hq)), hs⟩
set_option maxHeartbeats 8000000 in
theorem end_is {w : World} {E : Nat → Prop} {b : Nat} {v0 v1 v2 : Value} {L : Led} (h : LedO w E b v0 v1 v2 L) (hs : Rises L.S) (hm : L.S.length ≤ 10000) (hm1 : L.H.length ≤ 10000) (i : Nat) (x : Hld) (hx : L.H[i]? = some x) (st : Int) (hin : i64b ((findK L.S x.sku x.loc).held - x.qty)) :
    Calls Try.prog 93 #[.pointer (some ⟨b, 0, none⟩), .int .i64 ((i : Int) + 1), .int .i64 st] w fun e w' => e = .returned (hval { x with st := st }) ∧ ∃ v0', LedO w' E b v0' v1 v2 (endL L i x st) ∧ Stay E w w' := by
  have hil : i < L.H.length := (List.getElem?_eq_some_iff.1 hx).1
  have hxe : L.H[i] = x := (List.getElem?_eq_some_iff.1 hx).2
  obtain ⟨hk, he⟩ := ens_at hs x.sku x.loc
  have HA : Hid (∃ h : posK L.S x.sku x.loc < (ens L.S x.sku x.loc).length, (ens L.S x.sku x.loc)[posK L.S x.sku x.loc] = findK L.S x.sku x.loc) := ⟨hk, he⟩
  have HEN : Hid (∀ y, y = (findK L.S x.sku x.loc).held - x.qty → endL L i x st = { L with S := (ens L.S x.sku x.loc).set (posK L.S x.sku x.loc) { findK L.S x.sku x.loc with held := y }, H := L.H.set i { x with st := st } }) := fun y hy => by
    subst hy; unfold endL addHeld; rw [Int.sub_eq_add_neg]
  generalize endL L i x st = L9 at *
  obtain ⟨xi, xs, xl, xq, xt, xd⟩ := x
  dsimp only at *
  have hw : IntKind.i64.wrap ((findK L.S xs xl).held - xq) = (findK L.S xs xl).held - xq := by rw [IntKind.wrap_i64]; unfold i64b at hin; omega
  obtain ⟨f, hf⟩ : ∃ f, findK L.S xs xl = f := ⟨_, rfl⟩
  obtain ⟨k, hkk⟩ : ∃ k, posK L.S xs xl = k := ⟨_, rfl⟩
  rw [hf] at HA HEN hw hin
  have HA' : Hid (∃ h : k < (ens L.S xs xl).length, (ens L.S xs xl)[k] = f) := by subst hkk; exact HA.out
  obtain ⟨W, hW⟩ : ∃ W, w.alloc (.cells #[.int .i64 0, .string ⟨#[]⟩, .string ⟨#[]⟩, .int .i64 0, .int .i64 0, .int .i64 0] 44) = W := ⟨_, rfl⟩
  have kW : Below w.heap.size w W := hW ▸ below1 _ _
  obtain ⟨E', hE'⟩ : ∃ E' : Nat → Prop, E' = fun q => E q ∨ q = w.heap.size := ⟨_, rfl⟩
  have hLW : LedO W E' b v0 v1 v2 L := by rw [hE']; exact h.beside kW (fun q => q = w.heap.size) (fun q hq => by subst hq; exact ⟨Nat.le_refl _, by rw [← hW, size_alloc]; omega⟩)
  have hRW : CellsF W w.heap.size [.int .i64 0, .string ⟨#[]⟩, .string ⟨#[]⟩, .int .i64 0, .int .i64 0, .int .i64 0] := by rw [← hW]; exact CellsF.at _ 44 (by simp) rfl
  have HS : Hid _ := stockOf_is (hLW.next (Below.refl _ _).drew) hs (by omega) xs xl
  rw [hkk] at HS HEN
  obtain ⟨a1, c1, e1, hr1⟩ := own_rowH hLW.H
  obtain ⟨g1, o1, eg, hgl, hc⟩ := hr1.hld (fun e => by rw [e] at hil; simp at hil)
  have ho : o1 = 0 := by
    have := hLW.H.2
    rcases this with ⟨e, h0⟩ | ⟨g', cap', cur, e, _⟩
    · omega
    · rw [e1, eg] at e; cases e; rfl
  subst ho
  have hxa := hc i hil
  rw [hxe, Nat.zero_add] at hxa
  rw [eg] at e1
  obtain ⟨x0, x1, x2, x3, x4, x5⟩ := hxa
  dsimp only at x0 x1 x2 x3 x4 x5
  obtain ⟨n1, hn1⟩ : ∃ n1, L.H.length = n1 := ⟨_, rfl⟩
  rw [hn1] at e1 hil
  subst e1
  have l1 : W.cell? ⟨b, 1, none⟩ = some (.slice (some ⟨g1, 0, none⟩) n1 c1) := hLW.c.cs 1 _ rfl
  have HX : Hid (L.H[i]? = some ⟨xi, xs, xl, xq, xt, xd⟩ ∧ L.H.length = n1) := ⟨hx, hn1⟩
  have HLW : Hid (LedO W E' b v0 (.slice (some ⟨g1, 0, none⟩) n1 c1) v2 L ∧ Stay E w W) := ⟨hLW, stay_of_below kW h.lt⟩
  have HRW : Hid _ := hRW
  have HLT : Hid (∀ q, E q → q < w.heap.size) := h.lt
  have HEE : Hid (∀ q, (E q ∨ q = w.heap.size) ↔ E' q) := fun q => by rw [hE']
  have hii : ((i : Int) + 1) - 1 = (i : Int) := by omega
  have hiw : IntKind.i64.wrap ((i : Int) + 1 - 1) = (i : Int) := by rw [IntKind.wrap_i64]; omega
  have hiw2 : IntKind.i64.wrap (i : Int) = (i : Int) := by rw [IntKind.wrap_i64]; omega
  have hilt : (i : Int) < (n1 : Int) := by omega
  clear hf hkk hk he hs hLW hRW h hm HA hn1 hxe hx hr1 hgl hc eg hE' kW
  -- behind stockOf
  have HQ : Hid (∀ g m cap (w2 : World), LedO w2 E' b (.slice (some ⟨g, 0, none⟩) m cap) (.slice (some ⟨g1, 0, none⟩) n1 c1) v2 { L with S := ens L.S xs xl } → Stay E' W.drew w2 →
      w2.cell? ⟨g, k * 4 + 3, none⟩ = some (.int .i64 f.held) ∧ w2.frozen? ⟨g, k * 4 + 3, none⟩ = false ∧ w2.cell? ⟨g1, i * 6 + 3, none⟩ = some (.int .i64 xq)) := fun g m cap w2 q1 q2 => by
    have hk1 : k < ({ L with S := ens L.S xs xl } : Led).S.length := HA'.out.1
    obtain ⟨a0, c0, e0, hr0⟩ := own_rowS q1.S
    cases e0
    obtain ⟨g', o, eg, hgl, hc⟩ := hr0.stk (fun e => by rw [e] at hk1; simp at hk1)
    cases eg
    have hxx := hc k hk1
    have hfk : ({ L with S := ens L.S xs xl } : Led).S[k] = f := HA'.out.2
    rw [hfk] at hxx
    have z3 := hxx.c3
    rw [Nat.zero_add] at z3
    refine ⟨z3, World.ownsRow.frozenAt q1.S _, ?_⟩
    obtain ⟨a1, c1', e1, hr1⟩ := own_rowH q1.H
    cases e1
    obtain ⟨g', o, eg, hgl, hc⟩ := hr1.hld (fun e => by have e0 : L.H.length = 0 := congrArg List.length (show L.H = [] from e); have := HX.out.2; omega)
    cases eg
    have hil' : i < ({ L with S := ens L.S xs xl } : Led).H.length := by show i < L.H.length; rw [HX.out.2]; exact hil
    have hxx := hc i hil'
    have hxe : ({ L with S := ens L.S xs xl } : Led).H[i] = ⟨xi, xs, xl, xq, xt, xd⟩ := (List.getElem?_eq_some_iff.1 HX.out.1).2
    rw [hxe, Nat.zero_add] at hxx
    exact hxx.c3
  have HT : Hid (∀ g m cap (w2 : World), LedO w2 E' b (.slice (some ⟨g, 0, none⟩) m cap) (.slice (some ⟨g1, 0, none⟩) n1 c1) v2 { L with S := ens L.S xs xl } → Stay E' W.drew w2 → ∀ W3, w2.setCell ⟨g, k * 4 + 3, none⟩ (.int .i64 (f.held - xq)) = W3 → ∀ W4, W3.setCell ⟨g1, i * 6 + 4, none⟩ (.int .i64 st) = W4 →
      EndT W3 W4 g1 i w.heap.size xi xs xl xq xt st xd ∧ LedO W4 E' b (.slice (some ⟨g, 0, none⟩) m cap) (.slice (some ⟨g1, 0, none⟩) n1 c1) v2 L9 ∧ Stay E w W4) := fun g m cap w2 q1 q2 W3 e3 W4 e4 => by
    obtain ⟨t1, t2, t3⟩ := end_tail (st := st) q1 q2 HA'.out HX.out.1 HX.out.2 ((HEE.out w.heap.size).1 (.inr rfl)) HRW.out
    rw [e3, e4] at t1 t2 t3
    exact ⟨t1, by rw [HEN.out _ rfl]; exact t2, HLW.out.2.trans (t3.mono (fun q hq => (HEE.out q).1 (.inl hq)))⟩
  have HLAST : Hid (∀ (W4 : World) v0' (v1' : Value), LedO W4 E' b v0' v1' v2 L9 → Stay E w W4 → ∀ u0 u1 u2 u3 u4 u5 : Value, LedO ((((((W4.setCell ⟨w.heap.size, 0, none⟩ u0).setCell ⟨w.heap.size, 1, none⟩ u1).setCell ⟨w.heap.size, 2, none⟩ u2).setCell ⟨w.heap.size, 3, none⟩ u3).setCell ⟨w.heap.size, 4, none⟩ u4).setCell ⟨w.heap.size, 5, none⟩ u5) E b v0' v1' v2 L9 ∧ Stay E w ((((((W4.setCell ⟨w.heap.size, 0, none⟩ u0).setCell ⟨w.heap.size, 1, none⟩ u1).setCell ⟨w.heap.size, 2, none⟩ u2).setCell ⟨w.heap.size, 3, none⟩ u3).setCell ⟨w.heap.size, 4, none⟩ u4).setCell ⟨w.heap.size, 5, none⟩ u5)) := fun W4 v0' v1' h s => end_last HEE.out HLT.out h s
  go_enter Try.func93, Try.ntmps93
  go_wp2_with fail
  try rw [hW]
  go_wp2_with fail
  clear hW
  go_region_with (go_at_call 90; refine Calls.mono HS.out ?_; rintro e w2 ⟨g, m, cap, rfl, q1, q2⟩; have HL2 : Hid (LedO w2 E' b (.slice (some ⟨g, 0, none⟩) m cap) (.slice (some ⟨g1, 0, none⟩) n1 c1) v2 { L with S := ens L.S xs xl } ∧ Stay E' W.drew w2) := ⟨q1, q2⟩; obtain ⟨z3, zf, zq⟩ := HQ.out g m cap w2 q1 q2; clear q1 q2)
  all_goals (
    obtain ⟨W3, hW3⟩ : ∃ W3, w2.setCell ⟨g, k * 4 + 3, none⟩ (.int .i64 (f.held - xq)) = W3 := ⟨_, rfl⟩
    obtain ⟨W4, hW4⟩ : ∃ W4, W3.setCell ⟨g1, i * 6 + 4, none⟩ (.int .i64 st) = W4 := ⟨_, rfl⟩
    rw [hW3]
    obtain ⟨⟨y4, yf, ⟨h0, h1, h2, h3, h4, h5⟩, hR4⟩, r1, r2⟩ := HT.out g m cap w2 HL2.out.1 HL2.out.2 W3 hW3 W4 hW4
    have HFIN : Hid _ := HLAST.out W4 _ _ r1 r2
    have HR4 : Hid _ := hR4
    have z0 := hR4.cs 0 _ rfl
    have z1 := hR4.cs 1 _ rfl
    have z2 := hR4.cs 2 _ rfl
    have zz3 := hR4.cs 3 _ rfl
    have z4 := hR4.cs 4 _ rfl
    have z5 := hR4.cs 5 _ rfl
    have f0 := hR4.fz 0
    have f1 := hR4.fz 1
    have f2 := hR4.fz 2
    have f3 := hR4.fz 3
    have f4 := hR4.fz 4
    have f5 := hR4.fz 5
    clear hR4 r1 r2 hW3 z3 zf zq x0 x1 x2 x3 x4 x5 l1 HL2 HT HLAST HQ HS HA' HEN HLW HRW HX HEE HLT hw hin hii hiw hiw2 hilt
    go_wp2_with fail
    try simp only [Exit.inBlock, Exit.then]
    refine bodyPost_ret (end_cell rfl rfl (loadHld _ (HR4.out.six rfl _ _ _ _ _ _) rfl)) rfl ?_
    exact ⟨rfl, ⟨_, (HFIN.out _ _ _ _ _ _).1⟩, (HFIN.out _ _ _ _ _ _).2⟩
    )
end Go.Proofs.Ytflbcheofmljeaa
