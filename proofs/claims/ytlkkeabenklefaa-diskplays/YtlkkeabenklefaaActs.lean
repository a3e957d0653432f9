/- The acts of DiskPlays, as they came in. -/
import Derived.Test.YtlkkeabenklefaaPlays
import Derived.Deep.Slices
namespace Go.Proofs.Ytlkkeabenklefaa
open Go.ChangeShapes Go.WideShapes Go.ChangeAt Go.RowKit
set_option linter.unusedVariables false

theorem Try.cells36 : Try.prog.cellsOf 36 = 5 := by kernel_rfl
theorem Try.fields36 : ∃ f0 f1 f2 f3 f4 : Field, Try.prog.underlying 36 = some (.struct #[f0, f1, f2, f3, f4]) ∧ (f0.type = 3 ∧ f0.offset = 0) ∧ (f1.type = 3 ∧ f1.offset = 1) ∧ (f2.type = 5 ∧ f2.offset = 2) ∧ (f3.type = 9 ∧ f3.offset = 3) ∧ (f4.type = 34 ∧ f4.offset = 4) :=
  ⟨_, _, _, _, _, Try.underlying36, ⟨rfl, rfl⟩, ⟨rfl, rfl⟩, ⟨rfl, rfl⟩, ⟨rfl, rfl⟩, ⟨rfl, rfl⟩⟩
theorem Try.cells3 : Try.prog.cellsOf 3 = 1 := by kernel_rfl
theorem Try.cells5 : Try.prog.cellsOf 5 = 1 := by kernel_rfl
theorem Try.cells9 : Try.prog.cellsOf 9 = 1 := by kernel_rfl
theorem Try.cells34 : Try.prog.cellsOf 34 = 1 := by kernel_rfl

theorem open_keep {H : Type} {enc : TypeId × Value → H} {W : World} {fuel : Nat} {v : Value} {x : DataW H × List MemPlace} (h : DataW.trod enc Try.prog W 0 (fun _ => true) true fuel 34 [v] = some x) :
    ∃ ko kc ks, v = .slice ko ks.length kc ∧ Ints W (.slice ko ks.length kc) ks ∧ ks.length ≤ 9223372036854775807 := by
  rcases open_ints Try.underlying34 Try.underlying3 Try.cells3 h with ⟨hcs, _⟩ | ⟨a, l, c, zs, hcs, _, hl, hm, hz, _, hcell, hwz⟩
  · simp at hcs
    subst hcs
    exact ⟨none, 0, [], rfl, .inl ⟨_, _, rfl, rfl⟩, Nat.zero_le _⟩
  · simp at hcs
    subst hcs
    simp only [if_true] at hz
    unfold maxLen at hm
    by_cases h0 : l = 0
    · subst h0
      exact ⟨some a, c, [], rfl, .inl ⟨_, _, rfl, rfl⟩, Nat.zero_le _⟩
    · obtain ⟨b, off, rfl, hb⟩ := ints_at hcell (by omega)
      have e : (zs.take l).length = l := by rw [List.length_take]; omega
      refine ⟨some ⟨b, off, none⟩, c, zs.take l, by rw [e], ?_, by omega⟩
      rw [e]
      refine .inr ⟨b, off, c, by rw [e], fun k hk => ?_⟩
      rw [e] at hk
      rw [hb k (by omega), List.getElem_take]
      simp [List.getD, List.getElem?_eq_getElem (show k < zs.length by omega)]

theorem open_acts {H : Type} {enc : TypeId × Value → H} {W : World} {a1 : Option Addr} {len1 cap1 : Nat} {d : DataW H} {ps : List MemPlace} (h : DataW.Trod enc Try.prog W 0 (fun _ => true) true 22 (.slice a1 len1 cap1) d ps) :
    len1 ≤ 9223372036854775807 ∧ ∀ i, i < len1 → ∃ b o kind at_ cc s ko kc ks, Ac W a1 i b o kind at_ cc s ko kc ks := by
  obtain ⟨fuel, hf⟩ := h
  rcases Deep.open_slice Try.underlying22 hf with ⟨hcs, _⟩ | ⟨a, len, cap, m, n, D, Pl, hcs, _, hl, hm, hmm, _, hx⟩
  · simp [Value.cells] at hcs
    obtain ⟨rfl, rfl, rfl⟩ := hcs
    exact ⟨Nat.zero_le _, fun i hi => absurd hi (Nat.not_lt_zero i)⟩
  · simp [Value.cells] at hcs
    obtain ⟨rfl, rfl, rfl⟩ := hcs
    simp only [if_true] at hmm
    unfold maxLen at hm
    refine ⟨by omega, fun i hi => ?_⟩
    have hspot : a.spot = none := by
      obtain ⟨cs, h1, _⟩ := hx 0 (by omega)
      rw [Try.cells36] at h1
      obtain ⟨_, hlen, hcell⟩ := World.cells?_some h1
      have h0 := hcell 0 (by omega)
      rw [List.getElem?_eq_getElem (by omega)] at h0
      simpa [Addr.add] using World.cell?_spot h0
    obtain ⟨cs, h1, h2⟩ := hx i (by omega)
    rw [Try.cells36] at h1
    obtain ⟨_, hlen, hcell⟩ := World.cells?_some h1
    obtain ⟨f0, f1, f2, f3, f4, hu, ⟨t0, o0⟩, ⟨t1, o1⟩, ⟨t2, o2⟩, ⟨t3, o3⟩, ⟨t4, o4⟩⟩ := Try.fields36
    obtain ⟨xs, k, _, _, _, hxl, hfs⟩ := DataW.trod_struct hu h2
    match xs, hxl, cs, hlen with
    | [y0, y1, y2, y3, y4], _, [v0, v1, v2, v3, v4], _ =>
      have g0 := hfs 0 f0 rfl
      have g1 := hfs 1 f1 rfl
      have g2 := hfs 2 f2 rfl
      have g3 := hfs 3 f3 rfl
      have g4 := hfs 4 f4 rfl
      simp [t0, o0, Try.cells3] at g0
      simp [t1, o1, Try.cells3] at g1
      simp [t2, o2, Try.cells5] at g2
      simp [t3, o3, Try.cells9] at g3
      simp [t4, o4, Try.cells34] at g4
      obtain ⟨z0, e0, _, w0⟩ := DataW.trod_int Try.underlying3 g0
      obtain ⟨z1, e1, _, w1⟩ := DataW.trod_int Try.underlying3 g1
      obtain ⟨z2, e2, _, w2⟩ := DataW.trod_int Try.underlying5 g2
      obtain ⟨s, e3, _, w3⟩ := DataW.trod_string Try.underlying9 g3
      obtain ⟨ko, kc, ks, e4, hks, hkl⟩ := open_keep g4
      cases e0; cases e1; cases e2; cases e3; subst e4
      have hc0 := hcell 0 (by omega)
      have hc1 := hcell 1 (by omega)
      have hc2 := hcell 2 (by omega)
      have hc3 := hcell 3 (by omega)
      have hc4 := hcell 4 (by omega)
      rw [Deep.add_add] at hc0 hc1 hc2 hc3 hc4
      obtain ⟨b, o, spot⟩ := a
      have hs : spot = none := hspot
      subst hs
      rw [Go.WideShapes.add_plain] at hc0 hc1 hc2 hc3 hc4
      simp [Lit.wf, IntKind.min, IntKind.max, IntKind.signed, IntKind.bits] at w1 w2
      obtain ⟨cc, hcc⟩ : ∃ cc : UInt8, z2 = (cc.toNat : Int) := ⟨UInt8.ofNat z2.toNat, by rw [UInt8.toNat_ofNat_of_lt' (by simp; omega)]; omega⟩
      subst hcc
      exact ⟨b, o, z0, z1, cc, s, ko, kc, ks, ⟨rfl, hc0, by rw [Nat.add_assoc]; exact hc1, by rw [Nat.add_assoc]; exact hc2, by rw [Nat.add_assoc]; exact hc3, by rw [Nat.add_assoc]; exact hc4, hks, hkl, by omega⟩⟩
end Go.Proofs.Ytlkkeabenklefaa
