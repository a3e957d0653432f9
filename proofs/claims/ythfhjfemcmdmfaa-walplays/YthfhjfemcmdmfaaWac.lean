/- Acts of the law, as they came in. -/
import Derived.Test.YthfhjfemcmdmfaaOpens
import Derived.Deep.Slices
namespace Go.Proofs.Ythfhjfemcmdmfaa
open Go.ChangeShapes Go.WideShapes Go.ChangeAt Go.RowKit
set_option linter.unusedVariables false
set_option maxRecDepth 100000

open Go.Proofs.Ythfhjfemcmdmfaa.opens
theorem open_group {H : Type} {enc : TypeId × Value → H} {W : World} {fuel : Nat} {v : Value} {x : DataW H × List MemPlace} (h : DataW.trod enc Try.prog W 0 (fun _ => true) true fuel 26 [v] = some x) :
    ∃ go gc g, v = .slice go g.length gc ∧ Texts W (.slice go g.length gc) g ∧ (go = none → gc = 0) ∧ g.length ≤ 9223372036854775807 ∧ ∀ s, s ∈ g → s.size ≤ 9223372036854775807 := by
  have hv : ∃ a l c, v = .slice a l c ∧ (a = none → c = 0) := by
    rcases Deep.open_slice Try.underlying26 h with ⟨hcs, _⟩ | ⟨a, len, cap, m, n, D, Pl, hcs, _⟩
    · simp at hcs
      exact ⟨none, 0, 0, hcs, fun _ => rfl⟩
    · simp at hcs
      exact ⟨some a, len, cap, hcs, fun e => by cases e⟩
  obtain ⟨a, l, c, rfl, hz⟩ := hv
  obtain ⟨g, h1, h2, h3, _, h5, h6⟩ := open_texts (a1 := a) (len1 := l) (cap1 := c) (d := x.1) (ps := x.2) ⟨fuel, h⟩
  exact ⟨a, c, g, by rw [h1], h2, hz, by omega, h6⟩
/-- A call of the law's: what it is, a number, a group of texts, numbers, and whether. -/
structure Wac where
  kd : Int
  n : Int
  go : Option Addr
  gc : Nat
  g : List ByteArray
  ko : Option Addr
  kc : Nat
  ks : List Int
  mo : Bool
def wcv (x : Wac) : List Value := [.int .i64 x.kd, .int .i64 x.n, .slice x.go x.g.length x.gc, .slice x.ko x.ks.length x.kc, .bool x.mo]
structure Wac.ok (W : World) (x : Wac) : Prop where
  g : Texts W (.slice x.go x.g.length x.gc) x.g
  gz : x.go = none → x.gc = 0
  gl : x.g.length ≤ 9223372036854775807
  gs : ∀ s, s ∈ x.g → s.size ≤ 9223372036854775807
  k : Ints W (.slice x.ko x.ks.length x.kc) x.ks
  kl : x.ks.length ≤ 9223372036854775807
  n : -9223372036854775808 ≤ x.n ∧ x.n ≤ 9223372036854775807
theorem cells53 : Try.prog.cellsOf 53 = 5 := by kernel_rfl
theorem cells26 : Try.prog.cellsOf 26 = 1 := by kernel_rfl
theorem cells51 : Try.prog.cellsOf 51 = 1 := by kernel_rfl
theorem cells4 : Try.prog.cellsOf 4 = 1 := by kernel_rfl
theorem fields53 : ∃ f0 f1 f2 f3 f4 : Field, Try.prog.underlying 53 = some (.struct #[f0, f1, f2, f3, f4]) ∧ (f0.type = 3 ∧ f0.offset = 0) ∧ (f1.type = 3 ∧ f1.offset = 1) ∧ (f2.type = 26 ∧ f2.offset = 2) ∧ (f3.type = 51 ∧ f3.offset = 3) ∧ (f4.type = 4 ∧ f4.offset = 4) :=
  ⟨_, _, _, _, _, Try.underlying53, ⟨rfl, rfl⟩, ⟨rfl, rfl⟩, ⟨rfl, rfl⟩, ⟨rfl, rfl⟩, ⟨rfl, rfl⟩⟩
theorem open_wac {H : Type} {enc : TypeId × Value → H} {W : World} {fuel : Nat} {b o i : Nat} {cs : List Value} {x : DataW H × List MemPlace} (hlen : cs.length = 5) (hcell : ∀ j, j < 5 → W.cell? ((Addr.mk b o none).add (i * 5 + j)) = cs[j]?) (h2 : DataW.trod enc Try.prog W 0 (fun _ => true) true fuel 53 cs = some x) : ∃ y : Wac, y.ok W ∧ W.cell? ⟨b, o + i * 5, none⟩ = some (.int .i64 y.kd) ∧ W.cell? ⟨b, o + i * 5 + 1, none⟩ = some (.int .i64 y.n) ∧ W.cell? ⟨b, o + i * 5 + 2, none⟩ = some (.slice y.go y.g.length y.gc) ∧ W.cell? ⟨b, o + i * 5 + 3, none⟩ = some (.slice y.ko y.ks.length y.kc) ∧ W.cell? ⟨b, o + i * 5 + 4, none⟩ = some (.bool y.mo) := by
  obtain ⟨f0, f1, f2, f3, f4, hu, ⟨t0, o0⟩, ⟨t1, o1⟩, ⟨t2, o2⟩, ⟨t3, o3⟩, ⟨t4, o4⟩⟩ := fields53
  obtain ⟨xs, k, _, _, _, hxl, hfs⟩ := DataW.trod_struct hu h2
  match xs, hxl, cs, hlen with
  | [y0, y1, y2, y3, y4], _, [v0, v1, v2, v3, v4], _ =>
    have g0 := hfs 0 f0 rfl
    have g1 := hfs 1 f1 rfl
    have g2 := hfs 2 f2 rfl
    have g3 := hfs 3 f3 rfl
    have g4 := hfs 4 f4 rfl
    simp [t0, o0, cells3] at g0
    simp [t1, o1, cells3] at g1
    simp [t2, o2, cells26] at g2
    simp [t3, o3, cells51] at g3
    simp [t4, o4, cells4] at g4
    obtain ⟨z0, e0, _, w0⟩ := DataW.trod_int Try.underlying3 g0
    obtain ⟨z1, e1, _, w1⟩ := DataW.trod_int Try.underlying3 g1
    obtain ⟨go, gc, g, e2, q1, q2, q3, q4⟩ := open_group g2
    obtain ⟨ko, kc, ks, e3, r1, r2, r3⟩ := open_keep g3
    obtain ⟨bb, e4, _⟩ := DataW.trod_bool Try.underlying4 g4
    cases e0; cases e1; cases e4
    subst e2
    subst e3
    have hc0 := hcell 0 (by omega)
    have hc1 := hcell 1 (by omega)
    have hc2 := hcell 2 (by omega)
    have hc3 := hcell 3 (by omega)
    have hc4 := hcell 4 (by omega)
    rw [Go.WideShapes.add_plain] at hc0 hc1 hc2 hc3 hc4
    refine ⟨⟨z0, z1, go, gc, g, ko, kc, ks, bb⟩, ⟨q1, q2, q3, q4, r1, Nat.le_trans r2 r3, ?_⟩, hc0, by rw [Nat.add_assoc]; exact hc1, by rw [Nat.add_assoc]; exact hc2, by rw [Nat.add_assoc]; exact hc3, by rw [Nat.add_assoc]; exact hc4⟩
    simp [Lit.wf, IntKind.min, IntKind.max, IntKind.signed, IntKind.bits] at w1
    show -9223372036854775808 ≤ z1 ∧ z1 ≤ 9223372036854775807
    omega
theorem gather {α : Type} {P : Nat → α → Prop} (n : Nat) (h : ∀ i, i < n → ∃ x, P i x) : ∃ l : List α, l.length = n ∧ ∀ i (hi : i < l.length), P i l[i] := by
  induction n with
  | zero => exact ⟨[], rfl, fun i hi => absurd hi (Nat.not_lt_zero _)⟩
  | succ n ih =>
    obtain ⟨l, hl, hp⟩ := ih (fun i hi => h i (by omega))
    obtain ⟨x, hx⟩ := h n (by omega)
    refine ⟨l ++ [x], by simp [hl], fun i hi => ?_⟩
    by_cases c : i < l.length
    · rw [List.getElem_append_left c]; exact hp i c
    · have e : i = l.length := by simp at hi; omega
      subst e
      rw [List.getElem_append_right (Nat.le_refl _)]
      simp only [Nat.sub_self, List.getElem_cons_zero]
      rw [hl]; exact hx
/-- The list of calls: each is as it came in, and where it lies. -/
theorem open_wacs {H : Type} {enc : TypeId × Value → H} {W : World} {a1 : Option Addr} {len1 cap1 : Nat} {d : DataW H} {ps : List MemPlace} (h : DataW.Trod enc Try.prog W 0 (fun _ => true) true 31 (.slice a1 len1 cap1) d ps) :
    ∃ l : List Wac, l.length = len1 ∧ ∀ i (hi : i < l.length), ∃ b o, a1 = some ⟨b, o, none⟩ ∧ l[i].ok W ∧ W.cell? ⟨b, o + i * 5, none⟩ = some (.int .i64 l[i].kd) ∧ W.cell? ⟨b, o + i * 5 + 1, none⟩ = some (.int .i64 l[i].n) ∧ W.cell? ⟨b, o + i * 5 + 2, none⟩ = some (.slice l[i].go l[i].g.length l[i].gc) ∧ W.cell? ⟨b, o + i * 5 + 3, none⟩ = some (.slice l[i].ko l[i].ks.length l[i].kc) ∧ W.cell? ⟨b, o + i * 5 + 4, none⟩ = some (.bool l[i].mo) := by
  obtain ⟨fuel, hf⟩ := h
  rcases Deep.open_slice Try.underlying31 hf with ⟨hcs, _⟩ | ⟨a, len, cap, m, n, D, Pl, hcs, _, hl, hm, hmm, _, hx⟩
  · simp [Value.cells] at hcs
    obtain ⟨rfl, rfl, rfl⟩ := hcs
    exact ⟨[], rfl, fun i hi => absurd hi (Nat.not_lt_zero _)⟩
  · simp [Value.cells] at hcs
    obtain ⟨rfl, rfl, rfl⟩ := hcs
    simp only [if_true] at hmm
    refine gather (P := fun i (x : Wac) => ∃ b o, some a = some (⟨b, o, none⟩ : Addr) ∧ x.ok W ∧ W.cell? ⟨b, o + i * 5, none⟩ = some (.int .i64 x.kd) ∧ W.cell? ⟨b, o + i * 5 + 1, none⟩ = some (.int .i64 x.n) ∧ W.cell? ⟨b, o + i * 5 + 2, none⟩ = some (.slice x.go x.g.length x.gc) ∧ W.cell? ⟨b, o + i * 5 + 3, none⟩ = some (.slice x.ko x.ks.length x.kc) ∧ W.cell? ⟨b, o + i * 5 + 4, none⟩ = some (.bool x.mo)) len1 (fun i hi => ?_)
    have hspot : a.spot = none := by
      obtain ⟨cs, h1, _⟩ := hx 0 (by omega)
      rw [cells53] at h1
      obtain ⟨_, hlen, hcell⟩ := World.cells?_some h1
      have h0 := hcell 0 (by omega)
      rw [List.getElem?_eq_getElem (by omega)] at h0
      simpa [Addr.add] using World.cell?_spot h0
    obtain ⟨cs, h1, h2⟩ := hx i (by omega)
    rw [cells53] at h1
    obtain ⟨_, hlen, hcell⟩ := World.cells?_some h1
    obtain ⟨b, o, spot⟩ := a
    have hs : spot = none := hspot
    subst hs
    obtain ⟨y, hat⟩ := open_wac (b := b) (o := o) (i := i) hlen (fun j hj => by have := hcell j hj; rw [Deep.add_add] at this; exact this) h2
    exact ⟨y, b, o, rfl, hat⟩
end Go.Proofs.Ythfhjfemcmdmfaa
