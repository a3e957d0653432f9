/- wal: two logs beside each other. -/
import Derived.Test.YthfhjfemcmdmfaaRig
namespace Go.Proofs.Ythfhjfemcmdmfaa
open Go.ChangeShapes Go.WideShapes Go.ChangeAt Go.RowKit
set_option linter.unusedVariables false
set_option maxRecDepth 100000

theorem Texts.below {W w : World} {a : Option Addr} {c : Nat} {g : List ByteArray} (h : Texts W (.slice a g.length c) g) (b : Below W.heap.size W w) : Texts w (.slice a g.length c) g := by
  rcases h with h | ⟨bb, o, cc, e, hc⟩
  · exact .inl h
  · exact .inr ⟨bb, o, cc, e, fun k hk => (b.cell (p := ⟨bb, o + k, none⟩) (World.block_lt_of_cell? W _ (hc k hk))).trans (hc k hk)⟩
theorem Texts.lt {W : World} {a : Option Addr} {c : Nat} {g : List ByteArray} (h : Texts W (.slice a g.length c) g) (h0 : 0 < g.length) (x : Addr) (hx : a = some x) : x.block < W.heap.size := by
  obtain ⟨b, o, rfl, hc⟩ := h.cell 0 h0
  cases hx
  exact World.block_lt_of_cell? W _ hc
theorem Texts.front {W : World} {a : Option Addr} {c : Nat} {g : List ByteArray} (h : Texts W (.slice a g.length c) g) (k : Nat) (hk : k ≤ g.length) : Texts W (.slice a (g.take k).length c) (g.take k) := by
  have hl : (g.take k).length = k := by rw [List.length_take]; omega
  by_cases h0 : k = 0
  · subst h0
    exact .inl ⟨a, c, rfl, rfl⟩
  · obtain ⟨b, o, rfl, _⟩ := h.cell 0 (by omega)
    refine .inr ⟨b, o, c, rfl, fun j hj => ?_⟩
    obtain ⟨b', o', e, hc⟩ := h.cell j (by omega)
    cases e
    rw [hc, List.getElem_take]
theorem Texts.back {W : World} {b o c : Nat} {g : List ByteArray} (h : Texts W (.slice (some ⟨b, o, none⟩) g.length c) g) (k m c' : Nat) (hk : k ≤ g.length) (hm : m ≤ g.length - k) : Texts W (.slice (some ⟨b, o + k, none⟩) ((g.drop k).take m).length c') ((g.drop k).take m) := by
  have hl : ((g.drop k).take m).length = m := by rw [List.length_take, List.length_drop]; omega
  refine .inr ⟨b, o + k, c', rfl, fun j hj => ?_⟩
  obtain ⟨b', o', e, hc⟩ := h.cell (k + j) (by omega)
  cases e
  rw [Nat.add_assoc, hc, List.getElem_take, List.getElem_drop]

/-- Two logs, of new disks of their own, in new memory. -/
def Twin (W w : World) (q p q' p' : Nat) (g g' : List ByteArray) : Prop :=
  ∃ Z Y, Rig w Z q p g ∧ Rig w Y q' p' g' ∧ (∀ k, Z k → ¬ Y k) ∧ (∀ k, Z k → W.heap.size ≤ k) ∧ (∀ k, Y k → W.heap.size ≤ k) ∧ Below W.heap.size W w

theorem Twin.step {W w w' : World} {q p q' p' : Nat} {g g' : List ByteArray} (h : Twin W w q p q' p' g g') (k : Kept (fun _ => False) w w') : Twin W w' q p q' p' g g' := by
  obtain ⟨Z, Y, h1, h2, h3, h4, h5, h6⟩ := h
  exact ⟨Z, Y, h1.kept k (fun _ _ z => z), h2.kept k (fun _ _ z => z), h3, h4, h5, h6.trans (k.below h6.size (fun _ z => z.elim))⟩
theorem Twin.swap {W w : World} {q p q' p' : Nat} {g g' : List ByteArray} (h : Twin W w q p q' p' g g') : Twin W w q' p' q p g' g := by
  obtain ⟨Z, Y, h1, h2, h3, h4, h5, h6⟩ := h
  exact ⟨Y, Z, h2, h1, fun k hy hz => h3 k hz hy, h5, h4, h6⟩
theorem Twin.bel {W w : World} {q p q' p' : Nat} {g g' : List ByteArray} (h : Twin W w q p q' p' g g') : Below W.heap.size W w := by
  obtain ⟨Z, Y, h1, h2, h3, h4, h5, h6⟩ := h
  exact h6

theorem twin_add {W w : World} {q p q' p' : Nat} {R g' : List ByteArray} (h : Twin W w q p q' p' R g') (ga : Option Addr) (gc : Nat) (g : List ByteArray) (hg : Texts W (.slice ga g.length gc) g) (hm : mayG g) (hl : R.length + g.length ≤ 64) (hs : sizeG (R ++ g) ≤ 1280) :
    Calls Try.prog 21 #[.pointer (some ⟨q, 0, none⟩), .slice ga g.length gc] w fun e w' => e = .returned (.int .i64 0) ∧ Twin W w' q p q' p' (R ++ g) g' := by
  obtain ⟨Z, Y, h1, h2, h3, h4, h5, h6⟩ := h
  refine (rig_add h1 ga gc g (hg.below h6) (fun h0 x hx z => by have := hg.lt h0 x hx; have := h4 _ z; omega) hm hl hs).mono ?_
  rintro e w' ⟨rfl, Z', r1, k1, z1⟩
  have hY : ∀ k, Y k → k < w.heap.size := by
    obtain ⟨_, _, _, _, _, _, q4, _⟩ := h2
    exact q4
  refine ⟨rfl, Z', Y, r1, h2.kept k1 (fun k hy hz => h3 k hz hy), fun k hz hy => ?_, fun k hz => ?_, h5, h6.trans (k1.below h6.size h4)⟩
  · rcases z1 k hz with e | e
    · exact h3 k e hy
    · have := hY k hy; omega
  · rcases z1 k hz with e | e
    · exact h4 k e
    · exact Nat.le_trans h6.size e

theorem twin_used {W w : World} {q p q' p' : Nat} {g g' : List ByteArray} (h : Twin W w q p q' p' g g') : Calls Try.prog 26 #[.pointer (some ⟨q, 0, none⟩)] w fun e w' => e = .returned (.int .i64 (sizeG g : Int)) ∧ w' = w := by
  obtain ⟨Z, Y, h1, h2, h3, h4, h5, h6⟩ := h
  exact rig_used h1
theorem twin_records {W w : World} {q p q' p' : Nat} {g g' : List ByteArray} (h : Twin W w q p q' p' g g') (hl : g.length ≤ 64) (a : Option Addr) (c : Nat) (l : List ByteArray) (ht : Texts W (.slice a l.length c) l) (e : g = l) :
    Calls Try.prog 24 #[.pointer (some ⟨q, 0, none⟩)] w fun e w' => ∃ va vc, e = .returned (.slice va l.length vc) ∧ Twin W w' q p q' p' g g' ∧ Calls Try.prog 13 #[.slice va l.length vc, .slice a l.length c] w' fun e w'' => e = .returned (.bool true) ∧ Twin W w'' q p q' p' g g' := by
  obtain ⟨Z, Y, h1, h2, h3, h4, h5, h6⟩ := id h
  refine (rig_records h1 hl).mono ?_
  rintro e w' ⟨va, vc, rfl, t, k⟩
  subst e
  have h' := h.step k
  refine ⟨va, vc, rfl, h', ?_⟩
  have := same_is va a vc c g g w' t (ht.below h'.bel) (by omega) (by omega)
  rw [decide_eq_true rfl] at this
  refine this.mono ?_
  rintro e w'' ⟨rfl, n, rfl⟩
  exact ⟨rfl, h'.step (kept_drewN _ n)⟩
theorem twin_read {W w : World} {q p q' p' : Nat} {g : List ByteArray} (h : Twin W w q p q' p' g g) (i : Nat) (hi : i < 40) :
    ∃ s : ByteArray, (Calls Try.prog 27 #[.pointer (some ⟨p, 0, none⟩), .int .i64 (i : Int)] w fun e w' => e = .returned (.tuple #[.string s, .int .i64 0]) ∧ w' = w) ∧ Calls Try.prog 27 #[.pointer (some ⟨p', 0, none⟩), .int .i64 (i : Int)] w fun e w' => e = .returned (.tuple #[.string s, .int .i64 0]) ∧ w' = w := by
  obtain ⟨Z, Y, h1, h2, h3, h4, h5, h6⟩ := h
  exact rig_read h1 h2 i hi
end Go.Proofs.Ythfhjfemcmdmfaa
