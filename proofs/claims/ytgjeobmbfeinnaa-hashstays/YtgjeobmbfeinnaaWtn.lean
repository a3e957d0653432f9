/- With, Without: what they take. -/
import Derived.Test.YtgjeobmbfeinnaaWth
namespace Go.Proofs.Ytgjeobmbfeinnaa
open Go.ChangeShapes Go.WideShapes Go.RowKit
set_option linter.unusedVariables false
set_option maxRecDepth 100000

theorem Own3.setx {w wr : World} {px : Option Addr} {cx k m : Int} {s : ByteArray} (h : Own3 w wr px cx k m s) (p2 : Option Addr) (c2 : Int) : Own3 w ((wr.setCell ⟨w.heap.size, 0, none⟩ (.pointer p2)).setCell ⟨w.heap.size, 1, none⟩ (.int .i64 c2)) p2 c2 k m s :=
  ⟨(h.x.set 0 _).set 1 _, (h.v.far (heap_set _ _ _ (by omega))).far (heap_set _ _ _ (by omega)), (h.r.far (heap_set _ _ _ (by omega))).far (heap_set _ _ _ (by omega)), below_set (below_set h.b _ _ _ (Nat.le_refl _)) _ _ _ (Nat.le_refl _)⟩
theorem Own3.setc {w wr : World} {px : Option Addr} {cx k m : Int} {s : ByteArray} (h : Own3 w wr px cx k m s) (c2 : Int) : Own3 w (wr.setCell ⟨w.heap.size, 1, none⟩ (.int .i64 c2)) px c2 k m s :=
  ⟨h.x.set 1 _, h.v.far (heap_set _ _ _ (by omega)), h.r.far (heap_set _ _ _ (by omega)), below_set h.b _ _ _ (Nat.le_refl _)⟩
theorem Own3.sv {w wr : World} {px : Option Addr} {cx k m : Int} {s : ByteArray} (h : Own3 w wr px cx k m s) : (wr.cell? ⟨w.heap.size, 0, none⟩ = some (.pointer px) ∧ wr.cell? ⟨w.heap.size, 1, none⟩ = some (.int .i64 cx) ∧ wr.cell? ⟨w.heap.size + 1, 0, none⟩ = some (.int .i64 k) ∧ wr.cell? ⟨w.heap.size + 1, 1, none⟩ = some (.int .i64 m) ∧ wr.cell? ⟨w.heap.size + 1, 2, none⟩ = some (.string s)) := ⟨h.x.cell (i := 0) rfl, h.x.cell (i := 1) rfl, h.v.cell (i := 0) rfl, h.v.cell (i := 1) rfl, h.v.cell (i := 2) rfl⟩
theorem sv_alloc {w : World} {px : Option Addr} {cx k m : Int} {s : ByteArray} (wr : World) (o : Obj) (h : (wr.cell? ⟨w.heap.size, 0, none⟩ = some (.pointer px) ∧ wr.cell? ⟨w.heap.size, 1, none⟩ = some (.int .i64 cx) ∧ wr.cell? ⟨w.heap.size + 1, 0, none⟩ = some (.int .i64 k) ∧ wr.cell? ⟨w.heap.size + 1, 1, none⟩ = some (.int .i64 m) ∧ wr.cell? ⟨w.heap.size + 1, 2, none⟩ = some (.string s))) : ((wr.alloc o).cell? ⟨w.heap.size, 0, none⟩ = some (.pointer px) ∧ (wr.alloc o).cell? ⟨w.heap.size, 1, none⟩ = some (.int .i64 cx) ∧ (wr.alloc o).cell? ⟨w.heap.size + 1, 0, none⟩ = some (.int .i64 k) ∧ (wr.alloc o).cell? ⟨w.heap.size + 1, 1, none⟩ = some (.int .i64 m) ∧ (wr.alloc o).cell? ⟨w.heap.size + 1, 2, none⟩ = some (.string s)) := by
  obtain ⟨h0, h1, h2, h3, h4⟩ := h
  exact ⟨((below1 wr o).cell (World.block_lt_of_cell? wr _ h0)).trans h0, ((below1 wr o).cell (World.block_lt_of_cell? wr _ h1)).trans h1, ((below1 wr o).cell (World.block_lt_of_cell? wr _ h2)).trans h2, ((below1 wr o).cell (World.block_lt_of_cell? wr _ h3)).trans h3, ((below1 wr o).cell (World.block_lt_of_cell? wr _ h4)).trans h4⟩
theorem sv_ret {w : World} {px : Option Addr} {cx k m : Int} {s : ByteArray} (wr : World) (a b : Value) (h : (wr.cell? ⟨w.heap.size, 0, none⟩ = some (.pointer px) ∧ wr.cell? ⟨w.heap.size, 1, none⟩ = some (.int .i64 cx) ∧ wr.cell? ⟨w.heap.size + 1, 0, none⟩ = some (.int .i64 k) ∧ wr.cell? ⟨w.heap.size + 1, 1, none⟩ = some (.int .i64 m) ∧ wr.cell? ⟨w.heap.size + 1, 2, none⟩ = some (.string s))) : (((wr.setCell ⟨w.heap.size + 1 + 1, 0, none⟩ a).setCell ⟨w.heap.size + 1 + 1, 1, none⟩ b).cell? ⟨w.heap.size, 0, none⟩ = some (.pointer px) ∧ ((wr.setCell ⟨w.heap.size + 1 + 1, 0, none⟩ a).setCell ⟨w.heap.size + 1 + 1, 1, none⟩ b).cell? ⟨w.heap.size, 1, none⟩ = some (.int .i64 cx) ∧ ((wr.setCell ⟨w.heap.size + 1 + 1, 0, none⟩ a).setCell ⟨w.heap.size + 1 + 1, 1, none⟩ b).cell? ⟨w.heap.size + 1, 0, none⟩ = some (.int .i64 k) ∧ ((wr.setCell ⟨w.heap.size + 1 + 1, 0, none⟩ a).setCell ⟨w.heap.size + 1 + 1, 1, none⟩ b).cell? ⟨w.heap.size + 1, 1, none⟩ = some (.int .i64 m) ∧ ((wr.setCell ⟨w.heap.size + 1 + 1, 0, none⟩ a).setCell ⟨w.heap.size + 1 + 1, 1, none⟩ b).cell? ⟨w.heap.size + 1, 2, none⟩ = some (.string s)) := by
  obtain ⟨h0, h1, h2, h3, h4⟩ := h
  have f : ∀ (b' : Nat) (j : Nat), b' ≠ w.heap.size + 1 + 1 → ((wr.setCell ⟨w.heap.size + 1 + 1, 0, none⟩ a).setCell ⟨w.heap.size + 1 + 1, 1, none⟩ b).cell? ⟨b', j, none⟩ = wr.cell? ⟨b', j, none⟩ := fun b' j hb => (cell_put _ (fun e => hb e.1.symm)).trans (cell_put _ (fun e => hb e.1.symm))
  exact ⟨(f _ _ (by omega)).trans h0, (f _ _ (by omega)).trans h1, (f _ _ (by omega)).trans h2, (f _ _ (by omega)).trans h3, (f _ _ (by omega)).trans h4⟩
theorem own_nt {w : World} {a : Option Addr} {n c : Nat} {N : Nat} {xs : List Value} (h : w.ownsRow 0 3 1 (.slice a n c) N xs) : NT w a := fun b o s e => by
  rcases h.2 with ⟨e', _⟩ | ⟨g', cap', cur, e', _, hg', _⟩
  · cases e'; cases e
  · cases e'; cases e; exact ⟨cur, 3, (0, 0), hg', by decide⟩
/-- A block of the call's own is written: an index stays. -/
theorem Blk.two_cells {w : World} {R : Nat} {q0 : Option Addr} {c0 : Int} (hR : Blk w R 27 [.pointer q0, .int .i64 c0]) {j : Nat} {u : Value} (hu : w.cell? ⟨R, j, none⟩ = some u) : u = .pointer q0 ∨ u = .int .i64 c0 := by
  rw [cell_of_row w R j _ 27 (0, 0) hR] at hu
  match j, hu with
  | 0, hu => simp at hu; exact .inl hu.symm
  | 1, hu => simp at hu; exact .inr hu.symm
  | j + 2, hu => simp at hu
theorem NT.ne {w : World} {R : Nat} {q0 : Option Addr} {c0 : Int} (hR : Blk w R 27 [.pointer q0, .int .i64 c0]) {b o : Nat} {s : _} (h : NT w (some ⟨b, o, s⟩)) : b ≠ R := by
  rintro rfl
  obtain ⟨cur, t, fz, h1, h2⟩ := h _ _ _ rfl
  unfold Blk at hR
  rw [hR] at h1
  cases h1
  exact h2 rfl
theorem NT.far {w w' : World} {R : Nat} {q0 : Option Addr} {c0 : Int} (hR : Blk w R 27 [.pointer q0, .int .i64 c0]) (far : ∀ k, k ≠ R → w'.heap[k]? = w.heap[k]?) {a : Option Addr} (h : NT w a) : NT w' a := fun b o s e => by
  subst e
  obtain ⟨cur, t, fz, h1, h2⟩ := h b o s rfl
  exact ⟨cur, t, fz, (far b (NT.ne hR h)).trans h1, h2⟩
theorem Ix.quiet {w w' : World} {p : Option Addr} {F : Val → List Int} {nb M : Nat} (h : Ix w p F nb M) {R : Nat} {q0 : Option Addr} {c0 : Int} (hR : Blk w R 27 [.pointer q0, .int .i64 c0]) (far : ∀ k, k ≠ R → w'.heap[k]? = w.heap[k]?) : Ix w' p F nb M := by
  rcases h with h | ⟨g, v, ads, us, bs, e, h⟩
  · exact .inl h
  · refine .inr ⟨g, v, ads, us, bs, e, ?_⟩
    have hcell : ∀ {b j : Nat} {u : Value}, b ≠ R → w.cell? ⟨b, j, none⟩ = some u → w'.cell? ⟨b, j, none⟩ = some u := fun {b j u} hb hc => (World.cell?_of_block (a := ⟨b, j, none⟩) (far b hb)).trans hc
    have hsl : ∀ {b j : Nat} {x : Option Addr} {n c : Nat}, w.cell? ⟨b, j, none⟩ = some (.slice x n c) → b ≠ R := fun {b j x n c} hc e => by
      subst e
      rcases hR.two_cells hc with q | q <;> cases q
    have hstr : ∀ {b j : Nat} {x : ByteArray}, w.cell? ⟨b, j, none⟩ = some (.string x) → b ≠ R := fun {b j x} hc e => by
      subst e
      rcases hR.two_cells hc with q | q <;> cases q
    have hfl : ∀ {α : Type} {f : α → List Value} {k : Nat} {a : Option Addr} {l : List α}, Rw f k w a l → (∀ b o, a = some ⟨b, o, none⟩ → l ≠ [] → b ≠ R) → Rw f k w' a l := fun {α f k a l} hr hb => hr.far (fun b o e hl => far b (hb b o e hl))
    have hbk : ∀ u b, BkAt w u b → BkAt w' u b := fun u b hb => by
      obtain ⟨es, ⟨a, c, e1, e2, e3, e4⟩, ht⟩ := hb
      refine ⟨es, ⟨a, c, e1, hfl e2 (fun b' o' e' hl => ?_), e3, e4⟩, ht.mono (fun en x ⟨q1, ⟨a', c', q2, q3, q4, q5⟩, q6⟩ => ⟨q1, ⟨a', c', q2, hfl q3 (fun b' o' e' hl => ?_), q4, q5⟩, NT.far hR far q6⟩)⟩
      · obtain ⟨b2, o2, e5, hc⟩ := e2 hl
        rw [e5] at e'
        cases e'
        cases es with
        | nil => exact absurd rfl hl
        | cons y r => exact hstr (hc 0 y rfl 2 (.string y.v.s) rfl)
      · have e0 := (Value.slice.inj q2).1
        rw [e'] at e0
        rw [e0] at q6
        exact NT.ne hR q6
    have hform : ∀ (q : Nat) u, us[q]? = some u → ∃ x n c, u = .slice x n c := fun q u hu => by
      obtain ⟨es, ⟨a, c, e1, _⟩, _⟩ := h.two.2 q u _ hu (List.getElem?_eq_getElem (by rw [← h.two.1]; exact getD_lt hu))
      exact ⟨a, _, c, e1⟩
    have hlst := h.lst
    obtain ⟨a, c, e1, e2, e3, e4⟩ := hlst
    refine { h with cell := ?_, lst := ⟨a, c, e1, hfl e2 (fun b o e' hl => ?_), e3, e4⟩, blk := ?_, two := h.two.mono hbk, ltag := fun a n c e => NT.far hR far (h.ltag a n c e), btag := fun a g hg => (h.btag a g hg).far (far g (fun e => by subst e; exact absurd ((h.btag a _ hg).one ⟨_, _, hR⟩) (by decide))) }
    · have hc := h.cell
      have hc2 := hc
      rw [e1] at hc2
      exact hcell (hsl hc2) hc
    · have := h.ltag a _ c e1
      rw [e'] at this
      exact NT.ne hR this
    · intro a' i g' u h1 h2 h3
      have hc := h.blk a' i g' u h1 h2 h3
      obtain ⟨x, n', c', rfl⟩ := hform _ u h3
      exact hcell (hsl hc) hc
/-- The parts of a list, put together anew. -/
theorem concat_ins (W : World) (n : Int) (l : List Int) (hl : l.length ≤ 980) (t1 t3 : Value) (h1 : Sl iv 1 W t1 (l.take (lo l n))) (h3 : Sl iv 1 W t3 (l.drop (lo l n))) :
    Calls Try.prog 24 #[.slice (some ⟨W.heap.size + 1, 0, none⟩) 3 3] ((W.alloc (.cells #[.int .i64 n] 3)).alloc (.cells #[t1, .slice (some ⟨W.heap.size, 0, none⟩) 1 1, t3] 36)).drew fun e w' => ∃ a c, e = .returned (.slice a (ins n l).length c) ∧ Sl iv 1 w' (.slice a (ins n l).length c) (ins n l) ∧ Below W.heap.size W w' ∧ NT w' a := by
  have hB : Below W.heap.size W ((W.alloc (.cells #[.int .i64 n] 3)).alloc (.cells #[t1, .slice (some ⟨W.heap.size, 0, none⟩) 1 1, t3] 36)).drew := (below2 W _ _).drew
  have hC : CellsF ((W.alloc (.cells #[.int .i64 n] 3)).alloc (.cells #[t1, .slice (some ⟨W.heap.size, 0, none⟩) 1 1, t3] 36)).drew (W.heap.size + 1) [t1, .slice (some ⟨W.heap.size, 0, none⟩) 1 1, t3] := (CellsF.at (w := W.alloc (.cells #[.int .i64 n] 3)) [t1, .slice (some ⟨W.heap.size, 0, none⟩) 1 1, t3] 36 (by simp) (by rw [size_alloc])).next (Below.refl _ _).drew
  have hN : Sl iv 1 ((W.alloc (.cells #[.int .i64 n] 3)).alloc (.cells #[t1, .slice (some ⟨W.heap.size, 0, none⟩) 1 1, t3] 36)).drew (.slice (some ⟨W.heap.size, 0, none⟩) 1 1) [n] :=
    ⟨some ⟨W.heap.size, 0, none⟩, 1, rfl, rw_lit iv_len ((CellsF.new W [.int .i64 n] 3 (by simp)).next (below1 (W.alloc (.cells #[.int .i64 n] 3)) (.cells #[t1, .slice (some ⟨W.heap.size, 0, none⟩) 1 1, t3] 36)).drew), Nat.le_refl _, fun e => by cases e⟩
  have := concatN_is (W.heap.size + 1) 3 [t1, .slice (some ⟨W.heap.size, 0, none⟩) 1 1, t3] [l.take (lo l n), [n], l.drop (lo l n)] rfl rfl (by omega) (ins n l) (by unfold ins; simp) (by rw [ins_len]; omega) _ (fun q v hv => hC.cs q v hv) (fun q v l' hv hl' => by
    match q, hv, hl' with
    | 0, hv, hl' => cases hv; cases hl'; exact h1.next iv_ne hB
    | 1, hv, hl' => cases hv; cases hl'; exact hN
    | 2, hv, hl' => cases hv; cases hl'; exact h3.next iv_ne hB)
  refine this.mono fun e w'' ⟨v, r1, r2⟩ => ?_
  have hs := r2.sl iv_len
  obtain ⟨a, c, rfl⟩ := slices_shape hs
  exact ⟨a, c, r1, hs, Below.next hB r2.bel, own_nt r2.own⟩
theorem concat_del (W : World) (n : Int) (l : List Int) (hl : l.length ≤ 980) (t1 t3 : Value) (h1 : Sl iv 1 W t1 (l.take (lo l n))) (h3 : Sl iv 1 W t3 (l.drop (lo l n + 1))) :
    Calls Try.prog 24 #[.slice (some ⟨W.heap.size, 0, none⟩) 2 2] (W.alloc (.cells #[t1, t3] 36)).drew fun e w' => ∃ a c, e = .returned (.slice a (del n l).length c) ∧ Sl iv 1 w' (.slice a (del n l).length c) (del n l) ∧ Below W.heap.size W w' ∧ NT w' a := by
  have hB : Below W.heap.size W (W.alloc (.cells #[t1, t3] 36)).drew := (below1 W _).drew
  have hC : CellsF (W.alloc (.cells #[t1, t3] 36)).drew W.heap.size [t1, t3] := (CellsF.new W [t1, t3] 36 (by simp)).next (Below.refl _ _).drew
  have := concatN_is W.heap.size 2 [t1, t3] [l.take (lo l n), l.drop (lo l n + 1)] rfl rfl (by omega) (del n l) (by unfold del; simp) (Nat.le_trans (del_le n l) (by omega)) _ (fun q v hv => hC.cs q v hv) (fun q v l' hv hl' => by
    match q, hv, hl' with
    | 0, hv, hl' => cases hv; cases hl'; exact h1.next iv_ne hB
    | 1, hv, hl' => cases hv; cases hl'; exact h3.next iv_ne hB)
  refine this.mono fun e w'' ⟨v, r1, r2⟩ => ?_
  have hs := r2.sl iv_len
  obtain ⟨a, c, rfl⟩ := slices_shape hs
  exact ⟨a, c, r1, hs, Below.next hB r2.bel, own_nt r2.own⟩
/-- The three forms of a list that is cut. -/
theorem cut_forms {w : World} {a : Option Addr} {cc : Nat} {l : List Int} (h : Sl iv 1 w (.slice a l.length cc) l) (he : l = [] → a = none ∧ cc = 0) : (l = [] ∧ a = none ∧ cc = 0) ∨ (l ≠ [] ∧ ∃ b o, a = some ⟨b, o, none⟩ ∧ l.length ≤ cc) := by
  by_cases c : l = []
  · exact .inl ⟨c, he c⟩
  · obtain ⟨b, o, c', e, h3, _⟩ := h.ints c
    cases e
    exact .inr ⟨c, b, o, rfl, h3⟩
end Go.Proofs.Ytgjeobmbfeinnaa
