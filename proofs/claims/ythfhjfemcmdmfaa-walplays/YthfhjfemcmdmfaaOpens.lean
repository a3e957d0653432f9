/- Arguments of []string and []int, as they came in. -/
import Derived.Test.YthfhjfemcmdmfaaTwin
import Derived.WalkKit
import Derived.ProofKit
import Derived.OpenShut
import Derived.Deep.Slices
import Derived.ChangeSlices
namespace Go.Proofs.Ythfhjfemcmdmfaa.opens
open Go.ChangeShapes Go.WideShapes Go.ChangeAt Go.RowKit
set_option linter.unusedVariables false

theorem cells3 : Try.prog.cellsOf 3 = 1 := by kernel_rfl
theorem cells9 : Try.prog.cellsOf 9 = 1 := by kernel_rfl
theorem open_texts {H : Type} {enc : TypeId × Value → H} {W : World} {a1 : Option Addr} {len1 cap1 : Nat} {d : DataW H} {ps : List MemPlace} (h : DataW.Trod enc Try.prog W 0 (fun _ => true) true 26 (.slice a1 len1 cap1) d ps) :
    ∃ l : List ByteArray, l.length = len1 ∧ Texts W (.slice a1 l.length cap1) l ∧ len1 ≤ cap1 ∧ (cap1 = 0 ∨ ∃ b o, a1 = some ⟨b, o, none⟩) ∧ cap1 ≤ 9223372036854775807 ∧ ∀ s, s ∈ l → s.size ≤ 9223372036854775807 := by
  obtain ⟨fuel, hf⟩ := h
  rcases Deep.open_slice1 Try.underlying26 cells9 hf with ⟨hcs, _⟩ | ⟨a, len, cap, m, n, V, D, Pl, hcs, _, hl, hm, hmm, _, hx⟩
  · simp [Value.cells] at hcs
    obtain ⟨rfl, rfl, rfl⟩ := hcs
    exact ⟨[], rfl, .inl ⟨_, _, rfl, rfl⟩, Nat.le_refl _, .inl rfl, Nat.zero_le _, fun s hs => by cases hs⟩
  · simp [Value.cells] at hcs
    obtain ⟨rfl, rfl, rfl⟩ := hcs
    simp only [if_true] at hmm
    subst hmm
    unfold maxLen at hm
    have hv : ∀ i, i < m → ∃ s : ByteArray, V i = .string s ∧ s.size ≤ maxLen := fun i hi => by
      obtain ⟨s, e, _, w⟩ := DataW.trod_string Try.underlying9 (hx i hi).2
      exact ⟨s, by simpa using e, w⟩
    have hspot : m = 0 ∨ ∃ b o, (some a : Option Addr) = some ⟨b, o, none⟩ := by
      by_cases h0 : m = 0
      · exact .inl h0
      · right
        have h1 := World.cell?_spot (hx 0 (by omega)).1
        obtain ⟨b, o, spot⟩ := a
        have : spot = none := by simpa [Addr.add] using h1
        subst this
        exact ⟨b, o, rfl⟩
    have hlen : ((List.range len1).map fun i => match V i with | .string s => s | _ => (⟨#[]⟩ : ByteArray)).length = len1 := by simp
    refine ⟨(List.range len1).map fun i => match V i with | .string s => s | _ => ⟨#[]⟩, hlen, ?_, hl, hspot, by omega, ?_⟩
    · by_cases h0 : len1 = 0
      · subst h0
        exact .inl ⟨_, _, rfl, rfl⟩
      · obtain ⟨b, o, e⟩ := hspot.resolve_left (by omega)
        cases e
        refine .inr ⟨b, o, m, rfl, fun k hk => ?_⟩
        have hk1 : k < len1 := by rw [hlen] at hk; exact hk
        obtain ⟨s, hs, _⟩ := hv k (by omega)
        have h1 := (hx k (by omega)).1
        rw [Go.WideShapes.add_plain, hs] at h1
        rw [h1]
        simp [hs]
    · intro s hs
      obtain ⟨i, hi, rfl⟩ := List.mem_map.1 hs
      obtain ⟨s, hs1, hs2⟩ := hv i (by have := List.mem_range.1 hi; omega)
      rw [hs1]
      unfold maxLen at hs2
      exact Nat.le_trans hs2 (by omega)

theorem open_keep {H : Type} {enc : TypeId × Value → H} {W : World} {fuel : Nat} {v : Value} {x : DataW H × List MemPlace} (h : DataW.trod enc Try.prog W 0 (fun _ => true) true fuel 51 [v] = some x) :
    ∃ ko kc ks, v = .slice ko ks.length kc ∧ Ints W (.slice ko ks.length kc) ks ∧ ks.length ≤ kc ∧ kc ≤ 9223372036854775807 := by
  rcases open_ints Try.underlying51 Try.underlying3 cells3 h with ⟨hcs, _⟩ | ⟨a, l, c, zs, hcs, _, hl, hm, hz, _, hcell, hwz⟩
  · simp at hcs
    subst hcs
    exact ⟨none, 0, [], rfl, .inl ⟨_, _, rfl, rfl⟩, Nat.zero_le _, Nat.zero_le _⟩
  · simp at hcs
    subst hcs
    simp only [if_true] at hz
    unfold maxLen at hm
    by_cases h0 : l = 0
    · subst h0
      exact ⟨some a, c, [], rfl, .inl ⟨_, _, rfl, rfl⟩, Nat.zero_le _, by omega⟩
    · obtain ⟨b, off, rfl, hb⟩ := ints_at hcell (by omega)
      have e : (zs.take l).length = l := by rw [List.length_take]; omega
      refine ⟨some ⟨b, off, none⟩, c, zs.take l, by rw [e], ?_, by omega, by omega⟩
      rw [e]
      refine .inr ⟨b, off, c, by rw [e], fun k hk => ?_⟩
      rw [e] at hk
      rw [hb k (by omega), List.getElem_take]
      simp [List.getD, List.getElem?_eq_getElem (show k < zs.length by omega)]


end Go.Proofs.Ythfhjfemcmdmfaa.opens
