/- Cells as they came in. -/
import Derived.Test.YtehaancdadmdkaaSl
import Derived.Deep.Slices
import Derived.OpenShut
import Derived.ChangeOld
namespace Go.Proofs.Ytehaancdadmdkaa
open Go.ChangeShapes Go.WideShapes Go.ChangeAt Go.RowKit
set_option linter.unusedVariables false
set_option maxRecDepth 100000

theorem gather {α : Type} {P : Nat → α → Prop} (n : Nat) (h : ∀ i, i < n → ∃ x, P i x) : ∃ l : List α, l.length = n ∧ ∀ i (hi : i < l.length), P i l[i] := by
  induction n with
  | zero => exact ⟨[], rfl, fun i hi => absurd hi (Nat.not_lt_zero _)⟩
  | succ n ih =>
    obtain ⟨l, hl, hp⟩ := ih (fun i hi => h i (by omega))
    obtain ⟨x, hx⟩ := h n (by omega)
    refine ⟨l ++ [x], by simp [hl], fun i hi => ?_⟩
    by_cases c : i < l.length
    · rw [List.getElem_append_left c]; exact hp i c
    · have e : i = l.length := by simp at hi; omega
      subst e
      rw [List.getElem_append_right (Nat.le_refl _)]
      simp only [Nat.sub_self, List.getElem_cons_zero]
      rw [hl]; exact hx

theorem laidOut : laidOutB Try.prog = true := by kernel_rfl
theorem cells74 : Try.prog.cellsOf 74 = 2 := by kernel_rfl
theorem fields74 : ∃ f0 f1 : Field, Try.prog.underlying 74 = some (.struct #[f0, f1]) ∧ (f0.type = 9 ∧ f0.offset = 0) ∧ (f1.type = 9 ∧ f1.offset = 1) :=
  ⟨_, _, Try.underlying74, ⟨rfl, rfl⟩, ⟨rfl, rfl⟩⟩
theorem cells9 : Try.prog.cellsOf 9 = 1 := by kernel_rfl
theorem bytes_eta (s : ByteArray) : (⟨s.data.toList.toArray⟩ : ByteArray) = s := rfl
theorem open_cel {H : Type} {enc : TypeId × Value → H} {W : World} {fuel : Nat} {b o i : Nat} {cs : List Value} {x : DataW H × List MemPlace} (hlen : cs.length = 2) (hcell : ∀ j, j < 2 → W.cell? ((Addr.mk b o none).add (i * 2 + j)) = cs[j]?) (h2 : DataW.trod enc Try.prog W 0 (fun _ => true) true fuel 74 cs = some x) : ∃ y : Cel, W.cell? ⟨b, o + i * 2, none⟩ = some (.string ⟨y.1.toArray⟩) ∧ W.cell? ⟨b, o + i * 2 + 1, none⟩ = some (.string ⟨y.2.toArray⟩) := by
  obtain ⟨f0, f1, hu, ⟨t0, o0⟩, ⟨t1, o1⟩⟩ := fields74
  obtain ⟨xs, k, _, _, _, hxl, hfs⟩ := DataW.trod_struct hu h2
  match xs, hxl, cs, hlen with
  | [y0, y1], _, [v0, v1], _ =>
    have g0 := hfs 0 f0 rfl
    have g1 := hfs 1 f1 rfl
    simp [t0, o0, cells9] at g0
    simp [t1, o1, cells9] at g1
    obtain ⟨z0, e0, _, w0⟩ := DataW.trod_string Try.underlying9 g0
    obtain ⟨z1, e1, _, w1⟩ := DataW.trod_string Try.underlying9 g1
    cases e0; cases e1
    have hc0 := hcell 0 (by omega)
    have hc1 := hcell 1 (by omega)
    rw [Go.WideShapes.add_plain] at hc0 hc1
    exact ⟨(z0.data.toList, z1.data.toList), hc0, by rw [Nat.add_assoc]; exact hc1⟩
theorem open_cels {H : Type} {enc : TypeId × Value → H} {W : World} {a1 : Option Addr} {len1 cap1 : Nat} {d : DataW H} {ps : List MemPlace} (h : DataW.Trod enc Try.prog W 0 (fun _ => true) true 27 (.slice a1 len1 cap1) d ps) :
    ∃ l : List Cel, l.length = len1 ∧ Sl cv 2 W (.slice a1 len1 cap1) l := by
  obtain ⟨fuel, hf⟩ := h
  rcases Deep.open_slice Try.underlying27 hf with ⟨hcs, _⟩ | ⟨a, len, cap, m, n, D, Pl, hcs, _, hl, hm, hmm, _, hx⟩
  · simp [Value.cells] at hcs
    obtain ⟨rfl, rfl, rfl⟩ := hcs
    exact ⟨[], rfl, Sl.nil _ _ _⟩
  · simp [Value.cells] at hcs
    obtain ⟨rfl, rfl, rfl⟩ := hcs
    simp only [if_true] at hmm
    have hA : ∀ i, i < len1 → ∃ x : Cel, ∃ b o, a = ⟨b, o, none⟩ ∧ W.cell? ⟨b, o + i * 2, none⟩ = some (.string ⟨x.1.toArray⟩) ∧ W.cell? ⟨b, o + i * 2 + 1, none⟩ = some (.string ⟨x.2.toArray⟩) := fun i hi => by
      have hspot : a.spot = none := by
        obtain ⟨cs, h1, _⟩ := hx 0 (by omega)
        rw [cells74] at h1
        obtain ⟨_, hlen, hcell⟩ := World.cells?_some h1
        have h0 := hcell 0 (by omega)
        rw [List.getElem?_eq_getElem (by omega)] at h0
        simpa [Addr.add] using World.cell?_spot h0
      obtain ⟨cs, h1, h2⟩ := hx i (by omega)
      rw [cells74] at h1
      obtain ⟨_, hlen, hcell⟩ := World.cells?_some h1
      obtain ⟨b, o, spot⟩ := a
      have hs : spot = none := hspot
      subst hs
      obtain ⟨y, hat⟩ := open_cel (b := b) (o := o) (i := i) hlen (fun j hj => by have := hcell j hj; rw [Deep.add_add] at this; exact this) h2
      exact ⟨y, b, o, rfl, hat⟩
    obtain ⟨l, hl1, hl2⟩ := gather len1 hA
    refine ⟨l, hl1, some a, cap1, by rw [hl1], fun hne => ?_, by omega, fun e => by cases e⟩
    have h0 : 0 < l.length := List.length_pos_iff.2 hne
    obtain ⟨b, o, rfl, _⟩ := hl2 0 h0
    refine ⟨b, o, rfl, fun i x hx j u hu => ?_⟩
    obtain ⟨hi, rfl⟩ := List.getElem?_eq_some_iff.1 hx
    obtain ⟨b', o', e, c0, c1⟩ := hl2 i hi
    cases e
    match j, hu with
    | 0, hu => cases hu; exact c0
    | 1, hu => cases hu; exact c1
end Go.Proofs.Ytehaancdadmdkaa
