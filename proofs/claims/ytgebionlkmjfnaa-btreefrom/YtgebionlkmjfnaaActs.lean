/- Acts, as they came in; a box that is written. -/
import Derived.Test.YtgebionlkmjfnaaLwC
import Derived.Deep.Slices
namespace Go.Proofs.Ytgebionlkmjfnaa
open Go.ChangeShapes Go.WideShapes Go.RowKit
set_option linter.unusedVariables false
set_option maxRecDepth 100000

open Go.ChangeAt
structure Atn where
  kd : Int
  k : Int
  s : ByteArray
def acv (x : Atn) : List Value := [.int .i64 x.kd, .int .i64 x.k, .string x.s]
theorem acv_ne (x : Atn) : acv x ≠ [] := by simp [acv]
theorem acv_len (x : Atn) : (acv x).length = 3 := rfl
theorem Try.cells28 : Try.prog.cellsOf 28 = 3 := by kernel_rfl
theorem Try.fields28 : ∃ f0 f1 f2 : Field, Try.prog.underlying 28 = some (.struct #[f0, f1, f2]) ∧ (f0.type = 3 ∧ f0.offset = 0) ∧ (f1.type = 3 ∧ f1.offset = 1) ∧ (f2.type = 9 ∧ f2.offset = 2) :=
  ⟨_, _, _, Try.underlying28, ⟨rfl, rfl⟩, ⟨rfl, rfl⟩, ⟨rfl, rfl⟩⟩
theorem Try.cells3' : Try.prog.cellsOf 3 = 1 := by kernel_rfl
theorem Try.cells9' : Try.prog.cellsOf 9 = 1 := by kernel_rfl
theorem open_act {H : Type} {enc : TypeId × Value → H} {W : World} {fuel : Nat} {b o i : Nat} {cs : List Value} {x : DataW H × List MemPlace} (hlen : cs.length = 3) (hcell : ∀ j, j < 3 → W.cell? ((Addr.mk b o none).add (i * 3 + j)) = cs[j]?) (h2 : DataW.trod enc Try.prog W 0 (fun _ => true) true fuel 28 cs = some x) : ∃ y : Atn, W.cell? ⟨b, o + i * 3, none⟩ = some (.int .i64 y.kd) ∧ W.cell? ⟨b, o + i * 3 + 1, none⟩ = some (.int .i64 y.k) ∧ W.cell? ⟨b, o + i * 3 + 2, none⟩ = some (.string y.s) := by
  obtain ⟨f0, f1, f2, hu, ⟨t0, o0⟩, ⟨t1, o1⟩, ⟨t2, o2⟩⟩ := Try.fields28
  obtain ⟨xs, k, _, _, _, hxl, hfs⟩ := DataW.trod_struct hu h2
  match xs, hxl, cs, hlen with
  | [y0, y1, y2], _, [v0, v1, v2], _ =>
    have g0 := hfs 0 f0 rfl
    have g1 := hfs 1 f1 rfl
    have g2 := hfs 2 f2 rfl
    simp [t0, o0, Try.cells3'] at g0
    simp [t1, o1, Try.cells3'] at g1
    simp [t2, o2, Try.cells9'] at g2
    obtain ⟨z0, e0, _, w0⟩ := DataW.trod_int Try.underlying3 g0
    obtain ⟨z1, e1, _, w1⟩ := DataW.trod_int Try.underlying3 g1
    obtain ⟨s2, e2, _, w2⟩ := DataW.trod_string Try.underlying9 g2
    cases e0; cases e1; cases e2
    have hc0 := hcell 0 (by omega)
    have hc1 := hcell 1 (by omega)
    have hc2 := hcell 2 (by omega)
    rw [Go.WideShapes.add_plain] at hc0 hc1 hc2
    exact ⟨⟨z0, z1, s2⟩, hc0, by rw [Nat.add_assoc]; exact hc1, by rw [Nat.add_assoc]; exact hc2⟩
theorem gather {α : Type} {P : Nat → α → Prop} (n : Nat) (h : ∀ i, i < n → ∃ x, P i x) : ∃ l : List α, l.length = n ∧ ∀ i (hi : i < l.length), P i l[i] := by
  induction n with
  | zero => exact ⟨[], rfl, fun i hi => absurd hi (Nat.not_lt_zero _)⟩
  | succ n ih =>
    obtain ⟨l, hl, hp⟩ := ih (fun i hi => h i (by omega))
    obtain ⟨x, hx⟩ := h n (by omega)
    refine ⟨l ++ [x], by simp [hl], fun i hi => ?_⟩
    by_cases c : i < l.length
    · rw [List.getElem_append_left c]; exact hp i c
    · have e : i = l.length := by simp at hi; omega
      subst e
      rw [List.getElem_append_right (Nat.le_refl _)]
      simp only [Nat.sub_self, List.getElem_cons_zero]
      rw [hl]; exact hx

theorem open_acts {H : Type} {enc : TypeId × Value → H} {W : World} {a1 : Option Addr} {len1 cap1 : Nat} {d : DataW H} {ps : List MemPlace} (h : DataW.Trod enc Try.prog W 0 (fun _ => true) true 22 (.slice a1 len1 cap1) d ps) :
    ∃ l : List Atn, l.length = len1 ∧ Rw acv 3 W a1 l := by
  obtain ⟨fuel, hf⟩ := h
  rcases Deep.open_slice Try.underlying22 hf with ⟨hcs, _⟩ | ⟨a, len, cap, m, n, D, Pl, hcs, _, hl, hm, hmm, _, hx⟩
  · simp [Value.cells] at hcs
    obtain ⟨rfl, rfl, rfl⟩ := hcs
    exact ⟨[], rfl, Rw.nil _ _ _ _⟩
  · simp [Value.cells] at hcs
    obtain ⟨rfl, rfl, rfl⟩ := hcs
    simp only [if_true] at hmm
    have hA : ∀ i, i < len1 → ∃ x : Atn, ∃ b o, a = ⟨b, o, none⟩ ∧ W.cell? ⟨b, o + i * 3, none⟩ = some (.int .i64 x.kd) ∧ W.cell? ⟨b, o + i * 3 + 1, none⟩ = some (.int .i64 x.k) ∧ W.cell? ⟨b, o + i * 3 + 2, none⟩ = some (.string x.s) := fun i hi => by
      have hspot : a.spot = none := by
        obtain ⟨cs, h1, _⟩ := hx 0 (by omega)
        rw [Try.cells28] at h1
        obtain ⟨_, hlen, hcell⟩ := World.cells?_some h1
        have h0 := hcell 0 (by omega)
        rw [List.getElem?_eq_getElem (by omega)] at h0
        simpa [Addr.add] using World.cell?_spot h0
      obtain ⟨cs, h1, h2⟩ := hx i (by omega)
      rw [Try.cells28] at h1
      obtain ⟨_, hlen, hcell⟩ := World.cells?_some h1
      obtain ⟨b, o, spot⟩ := a
      have hs : spot = none := hspot
      subst hs
      obtain ⟨y, hat⟩ := open_act (b := b) (o := o) (i := i) hlen (fun j hj => by have := hcell j hj; rw [Deep.add_add] at this; exact this) h2
      exact ⟨y, b, o, rfl, hat⟩
    obtain ⟨l, hl1, hl2⟩ := gather len1 hA
    refine ⟨l, hl1, fun hne => ?_⟩
    have h0 : 0 < l.length := List.length_pos_iff.2 hne
    obtain ⟨b, o, rfl, _⟩ := hl2 0 h0
    refine ⟨b, o, rfl, fun i x hx j u hu => ?_⟩
    obtain ⟨hi, rfl⟩ := List.getElem?_eq_some_iff.1 hx
    obtain ⟨b', o', e, c0, c1, c2⟩ := hl2 i hi
    cases e
    match j, hu with
    | 0, hu => cases hu; exact c0
    | 1, hu => cases hu; exact c1
    | 2, hu => cases hu; exact c2
theorem Rw.act {w : World} {a : Option Addr} {l : List Atn} (h : Rw acv 3 w a l) {i : Nat} (hi : i < l.length) : ∃ b o, a = some ⟨b, o, none⟩ ∧ b < w.heap.size ∧ w.cell? ⟨b, o + i * 3, none⟩ = some (.int .i64 l[i].kd) ∧ w.cell? ⟨b, o + i * 3 + 1, none⟩ = some (.int .i64 l[i].k) ∧ w.cell? ⟨b, o + i * 3 + 2, none⟩ = some (.string l[i].s) := by
  have hne : l ≠ [] := fun e => by rw [e] at hi; simp at hi
  obtain ⟨b, o, e, hc⟩ := h hne
  exact ⟨b, o, e, h.lt acv_ne e hne, hc i _ (List.getElem?_eq_getElem hi) 0 _ rfl, hc i _ (List.getElem?_eq_getElem hi) 1 _ rfl, hc i _ (List.getElem?_eq_getElem hi) 2 _ rfl⟩
theorem TreeV.off {w w' : World} {g : Nat} {p q : Option Addr} {n m : Int} {l : List Itm} (hb : BoxH w g p n) (hw : ∀ q, q ≠ g → w'.heap[q]? = w.heap[q]?) (h : TreeV w q m l) : TreeV w' q m l := by
  obtain ⟨h1, h2, h3⟩ := h
  refine ⟨h1, h2, h3.imp id ?_⟩
  rintro ⟨b, d, t, e1, e2, e3, e4⟩
  exact ⟨b, d, t, e1, At.off hb hw (Nat.le_refl _) e3 e2, e3, e4⟩
/-- The box is written. -/
theorem box_put {w : World} {g : Nat} {p : Option Addr} {n : Int} (hb : BoxH w g p n) (p' : Option Addr) (n' : Int) : ∃ w', (w.setCell ⟨g, 0, none⟩ (.pointer p')).setCell ⟨g, 1, none⟩ (.int .i64 n') = w' ∧ BoxH w' g p' n' ∧ (∀ q m l, TreeV w q m l → TreeV w' q m l) ∧ (∀ v l, Sl itv 2 w v l → Sl itv 2 w' v l) ∧ (∀ x cs, x ≠ g → CellsF w x cs → CellsF w' x cs) ∧ (∀ B w0, B ≤ g → Below B w0 w → Below B w0 w') := by
  have hw : ∀ q, q ≠ g → ((w.setCell ⟨g, 0, none⟩ (.pointer p')).setCell ⟨g, 1, none⟩ (.int .i64 n')).heap[q]? = w.heap[q]? := fun q hq => by
    rw [heap_set _ _ _ hq, heap_set _ _ _ hq]
  exact ⟨_, rfl, (hb.set0 p').set1 n', fun q m l h => h.off hb hw, fun v l h => h.off hb hw, fun x cs hx h => h.far (hw x hx), fun B w0 hB h => below_two h g hB _ _⟩
theorem getL_step {l : List Itm} (hs : Sorted l) {q : Nat} (hq : q < l.length) (k : Int) : getL (l.take (q + 1)) k = if l[q].1 = k then some l[q].2 else getL (l.take q) k := by
  have hp : Sorted (l.take q ++ [l[q]]) := by rw [← take_snoc hq]; exact hs.sublist (List.take_sublist _ _)
  rw [take_snoc hq]
  unfold getL
  rw [List.find?_append]
  by_cases hx : l[q].1 = k
  · rw [if_pos hx]
    have hn : (l.take q).find? (isK k) = none := by
      rw [List.find?_eq_none]
      intro y hy hk
      have := (List.pairwise_append.1 hp).2.2 y hy l[q] (by simp)
      have h1 := kc_lt.1 this
      have h2 := (isK_int k y).1 hk
      omega
    rw [hn]
    have : isK k l[q] = true := (isK_int k _).2 hx
    simp [this]
  · rw [if_neg hx]
    have : isK k l[q] = false := by
      cases hb : isK k l[q] with
      | false => rfl
      | true => exact absurd ((isK_int k _).1 hb) hx
    simp [this]
end Go.Proofs.Ytgebionlkmjfnaa
