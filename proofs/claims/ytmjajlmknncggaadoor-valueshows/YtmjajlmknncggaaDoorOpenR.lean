/- Arguments that are rows and lists of columns, as they came in. -/
import Derived.Test.YtmjajlmknncggaaDoorOpenV
import Derived.Test.YtmjajlmknncggaaDoorTurn
import Derived.Deep.Slices
namespace Go.Proofs.YtmjajlmknncggaaDoor
open Go.ChangeShapes Go.WideShapes Go.ChangeAt Go.RowKit
set_option linter.unusedVariables false

theorem cells34 : Tryd.prog.cellsOf 34 = 2 := by kernel_rfl
theorem cells4 : Tryd.prog.cellsOf 4 = 1 := by kernel_rfl
theorem fields34 : ∃ f0 f1 : Field, Tryd.prog.underlying 34 = some (.struct #[f0, f1]) ∧ (f0.type = 3 ∧ f0.offset = 0) ∧ (f1.type = 4 ∧ f1.offset = 1) := ⟨_, _, Tryd.underlying34, ⟨rfl, rfl⟩, ⟨rfl, rfl⟩⟩
theorem open_key {H : Type} {enc : TypeId × Value → H} {W : World} {fuel : Nat} {cs : List Value} {x : DataW H × List MemPlace} (hl : cs.length = 2) (h : DataW.trod enc Tryd.prog W 0 (fun _ => true) true fuel 34 cs = some x) :
    ∃ k n, cs = [.int .i64 k, .bool n] := by
  obtain ⟨f0, f1, hu, ⟨t0, o0⟩, ⟨t1, o1⟩⟩ := fields34
  obtain ⟨xs, k, _, _, _, hxl, hfs⟩ := DataW.trod_struct hu h
  match xs, hxl, cs, hl with
  | [y0, y1], _, [v0, v1], _ =>
    have g0 := hfs 0 f0 rfl
    have g1 := hfs 1 f1 rfl
    simp [t0, o0, cells3] at g0
    simp [t1, o1, cells4] at g1
    obtain ⟨z0, e0, _, w0⟩ := DataW.trod_int Tryd.underlying3 g0
    obtain ⟨z1, e1, _⟩ := DataW.trod_bool Tryd.underlying4 g1
    cases e0; cases e1
    exact ⟨z0, z1, rfl⟩
/-- A list out of what there is of each place. -/
theorem list_of {α : Type} (n : Nat) (P : Nat → α → Prop) (h : ∀ i, i < n → ∃ x, P i x) : ∃ l : List α, l.length = n ∧ ∀ i (hi : i < l.length), P i l[i] := by
  induction n with
  | zero => exact ⟨[], rfl, fun i hi => absurd hi (Nat.not_lt_zero i)⟩
  | succ n ih =>
    obtain ⟨l, hl, hP⟩ := ih (fun i hi => h i (by omega))
    obtain ⟨x, hx⟩ := h n (by omega)
    refine ⟨l ++ [x], by simp [hl], fun i hi => ?_⟩
    by_cases hin : i < l.length
    · rw [List.getElem_append_left hin]; exact hP i hin
    · have hi' : i = l.length := by simp at hi; omega
      subst hi'
      rw [List.getElem_concat_length rfl]
      rw [hl]
      exact hx
theorem open_row {H : Type} {enc : TypeId × Value → H} {W : World} {a1 : Option Addr} {len1 cap1 : Nat} {d : DataW H} {ps : List MemPlace} (h : DataW.Trod enc Tryd.prog W 0 (fun _ => true) true 30 (.slice a1 len1 cap1) d ps) :
    ∃ r : List V, r.length = len1 ∧ Row W (.slice a1 r.length cap1) r ∧ len1 ≤ 9223372036854775807 := by
  obtain ⟨fuel, hf⟩ := h
  rcases Deep.open_slice Tryd.underlying30 hf with ⟨hcs, _⟩ | ⟨a, len, cap, m, n, D, Pl, hcs, _, hl, hm, hmm, _, hx⟩
  · simp [Value.cells] at hcs
    obtain ⟨rfl, rfl, rfl⟩ := hcs
    exact ⟨[], rfl, .inl ⟨_, _, rfl, rfl⟩, Nat.zero_le _⟩
  · simp [Value.cells] at hcs
    obtain ⟨rfl, rfl, rfl⟩ := hcs
    simp only [if_true] at hmm
    unfold maxLen at hm
    by_cases h0 : len1 = 0
    · subst h0
      exact ⟨[], rfl, .inl ⟨_, _, rfl, rfl⟩, Nat.zero_le _⟩
    · obtain ⟨b, o, spot⟩ := a
      have hs : spot = none := by
        obtain ⟨cs, h1, _⟩ := hx 0 (by omega)
        rw [cells23] at h1
        obtain ⟨_, hlen, hcell⟩ := World.cells?_some h1
        have h0 := hcell 0 (by omega)
        rw [List.getElem?_eq_getElem (by omega)] at h0
        simpa [Addr.add] using World.cell?_spot h0
      subst hs
      obtain ⟨r, hr, hP⟩ := list_of len1 (fun i (x : V) => At W b (o + i * 3) x.k x.n x.s) (fun i hi => by
        obtain ⟨cs, h1, h2⟩ := hx i (by omega)
        rw [cells23] at h1
        obtain ⟨_, hlen, hcell⟩ := World.cells?_some h1
        obtain ⟨k, n, s, rfl, _⟩ := open_cells hlen h2
        have hc0 := hcell 0 (by omega)
        have hc1 := hcell 1 (by omega)
        have hc2 := hcell 2 (by omega)
        rw [Deep.add_add] at hc0 hc1 hc2
        rw [Go.WideShapes.add_plain] at hc0 hc1 hc2
        exact ⟨⟨k, n, s⟩, hc0, by rw [Nat.add_assoc]; exact hc1, by rw [Nat.add_assoc]; exact hc2⟩)
      exact ⟨r, hr, .inr ⟨b, o, cap1, by rw [hr], hP⟩, by omega⟩
theorem open_keys {H : Type} {enc : TypeId × Value → H} {W : World} {a1 : Option Addr} {len1 cap1 : Nat} {d : DataW H} {ps : List MemPlace} (h : DataW.Trod enc Tryd.prog W 0 (fun _ => true) true 31 (.slice a1 len1 cap1) d ps) :
    ∃ r : List (Int × Bool), r.length = len1 ∧ Keys W (.slice a1 r.length cap1) r ∧ len1 ≤ 9223372036854775807 := by
  obtain ⟨fuel, hf⟩ := h
  rcases Deep.open_slice Tryd.underlying31 hf with ⟨hcs, _⟩ | ⟨a, len, cap, m, n, D, Pl, hcs, _, hl, hm, hmm, _, hx⟩
  · simp [Value.cells] at hcs
    obtain ⟨rfl, rfl, rfl⟩ := hcs
    exact ⟨[], rfl, .inl ⟨_, _, rfl, rfl⟩, Nat.zero_le _⟩
  · simp [Value.cells] at hcs
    obtain ⟨rfl, rfl, rfl⟩ := hcs
    simp only [if_true] at hmm
    unfold maxLen at hm
    by_cases h0 : len1 = 0
    · subst h0
      exact ⟨[], rfl, .inl ⟨_, _, rfl, rfl⟩, Nat.zero_le _⟩
    · obtain ⟨b, o, spot⟩ := a
      have hs : spot = none := by
        obtain ⟨cs, h1, _⟩ := hx 0 (by omega)
        rw [cells34] at h1
        obtain ⟨_, hlen, hcell⟩ := World.cells?_some h1
        have h0 := hcell 0 (by omega)
        rw [List.getElem?_eq_getElem (by omega)] at h0
        simpa [Addr.add] using World.cell?_spot h0
      subst hs
      obtain ⟨r, hr, hP⟩ := list_of len1 (fun i (x : Int × Bool) => W.cell? ⟨b, o + i * 2, none⟩ = some (.int .i64 x.1) ∧ W.cell? ⟨b, o + i * 2 + 1, none⟩ = some (.bool x.2)) (fun i hi => by
        obtain ⟨cs, h1, h2⟩ := hx i (by omega)
        rw [cells34] at h1
        obtain ⟨_, hlen, hcell⟩ := World.cells?_some h1
        obtain ⟨k, n, rfl⟩ := open_key hlen h2
        have hc0 := hcell 0 (by omega)
        have hc1 := hcell 1 (by omega)
        rw [Deep.add_add] at hc0 hc1
        rw [Go.WideShapes.add_plain] at hc0 hc1
        exact ⟨(k, n), hc0, by rw [Nat.add_assoc]; exact hc1⟩)
      exact ⟨r, hr, .inr ⟨b, o, cap1, by rw [hr], hP⟩, by omega⟩
end Go.Proofs.YtmjajlmknncggaaDoor
