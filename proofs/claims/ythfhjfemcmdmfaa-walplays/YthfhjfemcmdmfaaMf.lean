/- What the document's Add keeps. Texts behind texts; the document's Write of a disk. What the document writes, sector by sector. A round of the document's writings. -/
import Derived.Test.YthfhjfemcmdmfaaOwnT
import Derived.Test.YthfhjfemcmdmfaaScP
import Derived.Test.YthfhjfemcmdmfaaROp
namespace Go.Proofs.Ythfhjfemcmdmfaa
open Go.ChangeShapes Go.WideShapes Go.ChangeAt Go.RowKit
set_option linter.unusedVariables false
set_option maxRecDepth 100000

theorem results_two {fn : Func} {p q u : Tmp} {ty ty' : TypeId} {b b' : Addr} {v v' : Value} {tmps : Array Value} {w : World} (h : fn.results = #[.cell p ty, .cell q ty', .tmp u]) (hp : tmps.getD p undef = .pointer (some b)) (hq : tmps.getD q undef = .pointer (some b')) (hl : (loadVar ty b).run Try.prog w = .ok v w) (hl' : (loadVar ty' b').run Try.prog w = .ok v' w) :
    (results fn tmps).run Try.prog w = .ok (.tuple #[v, v', tmps.getD u undef]) w := by
  have hp' : tmps[p]?.getD undef = .pointer (some b) := by rw [← Array.getD_eq_getD_getElem?]; exact hp
  have hq' : tmps[q]?.getD undef = .pointer (some b') := by rw [← Array.getD_eq_getD_getElem?]; exact hq
  simp only [results, h]
  simp [hp', hq', asAddr, hl, hl']
theorem CellsF.four {w : World} {b : Nat} {l : List Value} (h : CellsF w b l) (hl : l.length = 4) (v0 v1 v2 v3 : Value) :
    CellsF ((((w.setCell ⟨b, 0, none⟩ v0).setCell ⟨b, 1, none⟩ v1).setCell ⟨b, 2, none⟩ v2).setCell ⟨b, 3, none⟩ v3) b [v0, v1, v2, v3] := by
  match l, hl with
  | [u0, u1, u2, u3], _ => exact (((h.set 0 v0 (by simp)).set 1 v1 (by simp)).set 2 v2 (by simp)).set 3 v3 (by simp)
theorem loadDsk {w : World} {b : Nat} {v0 v1 v2 v3 : Value} (h : CellsF w b [v0, v1, v2, v3]) : (loadVar 37 ⟨b, 0, none⟩).run Try.prog w = .ok (.agg #[v0, v1, v2, v3]) w := load30 (h.cs 0 _ rfl) (h.cs 1 _ rfl) (h.cs 2 _ rfl) (h.cs 3 _ rfl)
theorem set4_kept (w : World) (N : Nat) (v0 v1 v2 v3 : Value) : Kept (fun i => i = N) w ((((w.setCell ⟨N, 0, none⟩ v0).setCell ⟨N, 1, none⟩ v1).setCell ⟨N, 2, none⟩ v2).setCell ⟨N, 3, none⟩ v3) := by
  have h1 := (Kept.refl (fun i => i = N) w).setCell (p := ⟨N, 0, none⟩) (.inl rfl) v0
  have h2 := h1.setCell (p := ⟨N, 1, none⟩) (.inl rfl) v1
  have h3 := h2.setCell (p := ⟨N, 2, none⟩) (.inl rfl) v2
  exact h3.setCell (p := ⟨N, 3, none⟩) (.inl rfl) v3
theorem set5_kept (w : World) (N : Nat) (v0 v1 v2 v3 v4 : Value) : Kept (fun i => i = N) w (((((w.setCell ⟨N, 0, none⟩ v0).setCell ⟨N, 1, none⟩ v1).setCell ⟨N, 2, none⟩ v2).setCell ⟨N, 3, none⟩ v3).setCell ⟨N, 4, none⟩ v4) := by
  have h1 := (Kept.refl (fun i => i = N) w).setCell (p := ⟨N, 0, none⟩) (.inl rfl) v0
  have h2 := h1.setCell (p := ⟨N, 1, none⟩) (.inl rfl) v1
  have h3 := h2.setCell (p := ⟨N, 2, none⟩) (.inl rfl) v2
  have h4 := h3.setCell (p := ⟨N, 3, none⟩) (.inl rfl) v3
  exact h4.setCell (p := ⟨N, 4, none⟩) (.inl rfl) v4
/-- The blocks of Add's own: the disk, the log, and the two answers. -/
structure Bx (w wr : World) (D L : List Value) : Prop where
  d : CellsF wr w.heap.size D
  l : CellsF wr (w.heap.size + 1) L
  rd : CellsF wr (w.heap.size + 1 + 1) [.slice none 0 0, .slice none 0 0, .int .i64 0, .bool false]
  rl : CellsF wr (w.heap.size + 1 + 1 + 1) [.int .i64 0, .int .i64 0, .int .i64 0, .slice none 0 0, .string ⟨#[]⟩]
  k : Kept (fun _ => False) w wr
  sz : w.heap.size + 4 ≤ wr.heap.size
  tg : ∀ i, i = w.heap.size ∨ i = w.heap.size + 1 ∨ i = w.heap.size + 1 + 1 ∨ i = w.heap.size + 1 + 1 + 1 → ∃ cur t fz, wr.heap[i]? = some (.cells cur t fz) ∧ t ≠ 9 ∧ t ≠ 116
theorem Bx.step {w wr w' : World} {D L : List Value} (h : Bx w wr D L) (q : Kept (fun i => w.heap.size + 4 ≤ i) wr w') : Bx w w' D L :=
  ⟨h.d.kept q (by omega), h.l.kept q (by omega), h.rd.kept q (by omega), h.rl.kept q (by omega), h.k.trans q (fun i hi => .inr (by omega)), Nat.le_trans h.sz q.size, fun i hi => by
    obtain ⟨cur, t, fz, e, ht⟩ := h.tg i hi
    exact ⟨cur, t, fz, (q.block i (by have := h.sz; omega) (by omega)).trans e, ht⟩⟩
theorem Bx.next {w wr w' : World} {D L : List Value} (h : Bx w wr D L) (q : Kept (fun _ => False) wr w') : Bx w w' D L := h.step (q.mono (fun _ x => x.elim))
/-- The answers are stored. -/
theorem Bx.fin {w wr : World} {D : List Value} {l0 l1 l2 l3 l4 : Value} (h : Bx w wr D [l0, l1, l2, l3, l4]) (d0 d1 d2 d3 : Value) :
    ∃ W, (((((((((wr.setCell ⟨w.heap.size + 1 + 1, 0, none⟩ d0).setCell ⟨w.heap.size + 1 + 1, 1, none⟩ d1).setCell ⟨w.heap.size + 1 + 1, 2, none⟩ d2).setCell ⟨w.heap.size + 1 + 1, 3, none⟩ d3).setCell ⟨w.heap.size + 1 + 1 + 1, 0, none⟩ l0).setCell ⟨w.heap.size + 1 + 1 + 1, 1, none⟩ l1).setCell ⟨w.heap.size + 1 + 1 + 1, 2, none⟩ l2).setCell ⟨w.heap.size + 1 + 1 + 1, 3, none⟩ l3).setCell ⟨w.heap.size + 1 + 1 + 1, 4, none⟩ l4).drew = W ∧ (loadVar 37 ⟨w.heap.size + 1 + 1, 0, none⟩).run Try.prog W = .ok (.agg #[d0, d1, d2, d3]) W ∧ (loadVar 44 ⟨w.heap.size + 1 + 1 + 1, 0, none⟩).run Try.prog W = .ok (.agg #[l0, l1, l2, l3, l4]) W ∧ Kept (fun _ => False) w W ∧ Kept (fun i => i = w.heap.size + 1 + 1 ∨ i = w.heap.size + 1 + 1 + 1) wr W := by
  have k1 : Kept (fun i => i = w.heap.size + 1 + 1) wr ((((wr.setCell ⟨w.heap.size + 1 + 1, 0, none⟩ d0).setCell ⟨w.heap.size + 1 + 1, 1, none⟩ d1).setCell ⟨w.heap.size + 1 + 1, 2, none⟩ d2).setCell ⟨w.heap.size + 1 + 1, 3, none⟩ d3) := set4_kept wr (w.heap.size + 1 + 1) d0 d1 d2 d3
  have k2 : Kept (fun i => i = w.heap.size + 1 + 1 + 1) ((((wr.setCell ⟨w.heap.size + 1 + 1, 0, none⟩ d0).setCell ⟨w.heap.size + 1 + 1, 1, none⟩ d1).setCell ⟨w.heap.size + 1 + 1, 2, none⟩ d2).setCell ⟨w.heap.size + 1 + 1, 3, none⟩ d3) (((((((((wr.setCell ⟨w.heap.size + 1 + 1, 0, none⟩ d0).setCell ⟨w.heap.size + 1 + 1, 1, none⟩ d1).setCell ⟨w.heap.size + 1 + 1, 2, none⟩ d2).setCell ⟨w.heap.size + 1 + 1, 3, none⟩ d3).setCell ⟨w.heap.size + 1 + 1 + 1, 0, none⟩ l0).setCell ⟨w.heap.size + 1 + 1 + 1, 1, none⟩ l1).setCell ⟨w.heap.size + 1 + 1 + 1, 2, none⟩ l2).setCell ⟨w.heap.size + 1 + 1 + 1, 3, none⟩ l3).setCell ⟨w.heap.size + 1 + 1 + 1, 4, none⟩ l4) := set5_kept ((((wr.setCell ⟨w.heap.size + 1 + 1, 0, none⟩ d0).setCell ⟨w.heap.size + 1 + 1, 1, none⟩ d1).setCell ⟨w.heap.size + 1 + 1, 2, none⟩ d2).setCell ⟨w.heap.size + 1 + 1, 3, none⟩ d3) (w.heap.size + 1 + 1 + 1) l0 l1 l2 l3 l4
  have c1 : CellsF ((((wr.setCell ⟨w.heap.size + 1 + 1, 0, none⟩ d0).setCell ⟨w.heap.size + 1 + 1, 1, none⟩ d1).setCell ⟨w.heap.size + 1 + 1, 2, none⟩ d2).setCell ⟨w.heap.size + 1 + 1, 3, none⟩ d3) (w.heap.size + 1 + 1) [d0, d1, d2, d3] := CellsF.four h.rd rfl d0 d1 d2 d3
  have c2 : CellsF ((((wr.setCell ⟨w.heap.size + 1 + 1, 0, none⟩ d0).setCell ⟨w.heap.size + 1 + 1, 1, none⟩ d1).setCell ⟨w.heap.size + 1 + 1, 2, none⟩ d2).setCell ⟨w.heap.size + 1 + 1, 3, none⟩ d3) (w.heap.size + 1 + 1 + 1) [.int .i64 0, .int .i64 0, .int .i64 0, .slice none 0 0, .string ⟨#[]⟩] := h.rl.kept k1 (by omega)
  have c3 : CellsF (((((((((wr.setCell ⟨w.heap.size + 1 + 1, 0, none⟩ d0).setCell ⟨w.heap.size + 1 + 1, 1, none⟩ d1).setCell ⟨w.heap.size + 1 + 1, 2, none⟩ d2).setCell ⟨w.heap.size + 1 + 1, 3, none⟩ d3).setCell ⟨w.heap.size + 1 + 1 + 1, 0, none⟩ l0).setCell ⟨w.heap.size + 1 + 1 + 1, 1, none⟩ l1).setCell ⟨w.heap.size + 1 + 1 + 1, 2, none⟩ l2).setCell ⟨w.heap.size + 1 + 1 + 1, 3, none⟩ l3).setCell ⟨w.heap.size + 1 + 1 + 1, 4, none⟩ l4) (w.heap.size + 1 + 1 + 1) [l0, l1, l2, l3, l4] := c2.five rfl l0 l1 l2 l3 l4
  have c4 : CellsF (((((((((wr.setCell ⟨w.heap.size + 1 + 1, 0, none⟩ d0).setCell ⟨w.heap.size + 1 + 1, 1, none⟩ d1).setCell ⟨w.heap.size + 1 + 1, 2, none⟩ d2).setCell ⟨w.heap.size + 1 + 1, 3, none⟩ d3).setCell ⟨w.heap.size + 1 + 1 + 1, 0, none⟩ l0).setCell ⟨w.heap.size + 1 + 1 + 1, 1, none⟩ l1).setCell ⟨w.heap.size + 1 + 1 + 1, 2, none⟩ l2).setCell ⟨w.heap.size + 1 + 1 + 1, 3, none⟩ l3).setCell ⟨w.heap.size + 1 + 1 + 1, 4, none⟩ l4) (w.heap.size + 1 + 1) [d0, d1, d2, d3] := c1.kept k2 (by omega)
  obtain ⟨X, hX⟩ : ∃ X, (((((((((wr.setCell ⟨w.heap.size + 1 + 1, 0, none⟩ d0).setCell ⟨w.heap.size + 1 + 1, 1, none⟩ d1).setCell ⟨w.heap.size + 1 + 1, 2, none⟩ d2).setCell ⟨w.heap.size + 1 + 1, 3, none⟩ d3).setCell ⟨w.heap.size + 1 + 1 + 1, 0, none⟩ l0).setCell ⟨w.heap.size + 1 + 1 + 1, 1, none⟩ l1).setCell ⟨w.heap.size + 1 + 1 + 1, 2, none⟩ l2).setCell ⟨w.heap.size + 1 + 1 + 1, 3, none⟩ l3).setCell ⟨w.heap.size + 1 + 1 + 1, 4, none⟩ l4) = X := ⟨_, rfl⟩
  have kk : Kept (fun i => i = w.heap.size + 1 + 1 ∨ i = w.heap.size + 1 + 1 + 1) wr X := by
    rw [← hX]
    exact (k1.mono (F' := fun i => i = w.heap.size + 1 + 1 ∨ i = w.heap.size + 1 + 1 + 1) (fun i hi => .inl hi)).trans k2 (fun i hi => .inl (.inr hi))
  rw [hX] at c3 c4 ⊢
  exact ⟨_, rfl, loadDsk (c4.far (w' := X.drew) rfl), loadLog _ (c3.far (w' := X.drew) rfl) rfl, (h.k.trans kk (fun i hi => .inr (by omega))).drew, kk.drew⟩
theorem Bx.start (w : World) (d0 d1 d2 d3 l0 l1 l2 l3 l4 : Value) : Bx w ((((w.alloc (.cells #[d0, d1, d2, d3] 37)).alloc (.cells #[l0, l1, l2, l3, l4] 44)).alloc (.cells #[.slice none 0 0, .slice none 0 0, .int .i64 0, .bool false] 37)).alloc (.cells #[.int .i64 0, .int .i64 0, .int .i64 0, .slice none 0 0, .string ⟨#[]⟩] 44)) [d0, d1, d2, d3] [l0, l1, l2, l3, l4] := by
  obtain ⟨W1, h1⟩ : ∃ W1, w.alloc (.cells #[d0, d1, d2, d3] 37) = W1 := ⟨_, rfl⟩
  obtain ⟨W2, h2⟩ : ∃ W2, W1.alloc (.cells #[l0, l1, l2, l3, l4] 44) = W2 := ⟨_, rfl⟩
  obtain ⟨W3, h3⟩ : ∃ W3, W2.alloc (.cells #[.slice none 0 0, .slice none 0 0, .int .i64 0, .bool false] 37) = W3 := ⟨_, rfl⟩
  obtain ⟨W4, h4⟩ : ∃ W4, W3.alloc (.cells #[.int .i64 0, .int .i64 0, .int .i64 0, .slice none 0 0, .string ⟨#[]⟩] 44) = W4 := ⟨_, rfl⟩
  have s1 : W1.heap.size = w.heap.size + 1 := by rw [← h1]; simp
  have s2 : W2.heap.size = w.heap.size + 1 + 1 := by rw [← h2]; simp [s1]
  have s3 : W3.heap.size = w.heap.size + 1 + 1 + 1 := by rw [← h3]; simp [s2]
  have s4 : W4.heap.size = w.heap.size + 1 + 1 + 1 + 1 := by rw [← h4]; simp [s3]
  have k1 : Kept (fun _ => False) w W1 := h1 ▸ (Kept.refl _ w).alloc _
  have k2 : Kept (fun _ => False) W1 W2 := h2 ▸ (Kept.refl _ W1).alloc _
  have k3 : Kept (fun _ => False) W2 W3 := h3 ▸ (Kept.refl _ W2).alloc _
  have k4 : Kept (fun _ => False) W3 W4 := h4 ▸ (Kept.refl _ W3).alloc _
  have c1 : CellsF W1 w.heap.size [d0, d1, d2, d3] := h1 ▸ CellsF.new w [d0, d1, d2, d3] 37 (by simp)
  have c2 : CellsF W2 W1.heap.size [l0, l1, l2, l3, l4] := h2 ▸ CellsF.new W1 [l0, l1, l2, l3, l4] 44 (by simp)
  have c3 : CellsF W3 W2.heap.size [.slice none 0 0, .slice none 0 0, .int .i64 0, .bool false] := h3 ▸ CellsF.new W2 [.slice none 0 0, .slice none 0 0, .int .i64 0, .bool false] 37 (by simp)
  have c4 : CellsF W4 W3.heap.size [.int .i64 0, .int .i64 0, .int .i64 0, .slice none 0 0, .string ⟨#[]⟩] := h4 ▸ CellsF.new W3 [.int .i64 0, .int .i64 0, .int .i64 0, .slice none 0 0, .string ⟨#[]⟩] 44 (by simp)
  rw [s1] at c2
  rw [s2] at c3
  rw [s3] at c4
  rw [h1, h2, h3, h4]
  refine ⟨((c1.step k2).step k3).step k4, (c2.step k3).step k4, c3.step k4, c4, ((k1.trans k2 (fun _ q => q.elim)).trans k3 (fun _ q => q.elim)).trans k4 (fun _ q => q.elim), by omega, fun i hi => ?_⟩
  have t1 : W1.heap[w.heap.size]? = some (.cells #[d0, d1, d2, d3] 37 (0, 0)) := h1 ▸ heap_alloc_new w _
  have t2 : W2.heap[W1.heap.size]? = some (.cells #[l0, l1, l2, l3, l4] 44 (0, 0)) := h2 ▸ heap_alloc_new W1 _
  have t3 : W3.heap[W2.heap.size]? = some (.cells #[.slice none 0 0, .slice none 0 0, .int .i64 0, .bool false] 37 (0, 0)) := h3 ▸ heap_alloc_new W2 _
  have t4 : W4.heap[W3.heap.size]? = some (.cells #[.int .i64 0, .int .i64 0, .int .i64 0, .slice none 0 0, .string ⟨#[]⟩] 44 (0, 0)) := h4 ▸ heap_alloc_new W3 _
  rw [s1] at t2
  rw [s2] at t3
  rw [s3] at t4
  rcases hi with rfl | rfl | rfl | rfl
  · exact ⟨_, 37, _, ((k4.block _ (by omega) (fun q => q)).trans ((k3.block _ (by omega) (fun q => q)).trans (k2.block _ (by omega) (fun q => q)))).trans t1, by decide, by decide⟩
  · exact ⟨_, 44, _, ((k4.block _ (by omega) (fun q => q)).trans (k3.block _ (by omega) (fun q => q))).trans t2, by decide, by decide⟩
  · exact ⟨_, 37, _, (k4.block _ (by omega) (fun q => q)).trans t3, by decide, by decide⟩
  · exact ⟨_, 44, _, t4, by decide, by decide⟩

def Other (w : World) (i : Nat) : Prop := ∃ cur t fz, w.heap[i]? = some (.cells cur t fz) ∧ t ≠ 9 ∧ t ≠ 116
theorem Other.set {w : World} {g i : Nat} (h : Other w g) (o : Nat) (u : Value) : Other (w.setCell ⟨i, o, none⟩ u) g := by
  obtain ⟨cur, t, fz, e, ht⟩ := h
  by_cases c : g = i
  · subst c
    exact ⟨cur.setIfInBounds o u, t, fz, by rw [World.setCell]; simp only [Array.getElem?_modify, if_true, e, Option.map_some]; rfl, ht⟩
  · exact ⟨cur, t, fz, (Below.heap_setCell w ⟨i, o, none⟩ u g c).trans e, ht⟩
theorem Other.kept {w w' : World} {g : Nat} (h : Other w g) (k : Kept (fun _ => False) w w') : Other w' g := by
  obtain ⟨cur, t, fz, e, ht⟩ := h
  exact ⟨cur, t, fz, (k.block g (Array.getElem?_eq_some_iff.1 e).1 (fun q => q)).trans e, ht⟩
theorem Other.new (w : World) (C : Array Value) : Other (w.alloc (.cells C 37)) w.heap.size := ⟨C, 37, (0, 0), heap_alloc_new w _, by decide, by decide⟩
theorem own_other {w w' : World} {e size n : Nat} {v : Value} {xs : List Value} {G : Nat → Prop} (h : w.ownsRow 0 e size v n xs) (he : e = 9 ∨ e = 116) (k : Kept G w w') (hG : ∀ i, G i → Other w i) : w'.ownsRow 0 e size v n xs := by
  refine ownsRow_kept h (fun g hg => k.block g (h.lt g hg).2 (fun q => ?_))
  obtain ⟨cur, t, fz, e1, h1, h2⟩ := hG g q
  rcases h.2 with ⟨q2, _⟩ | ⟨g', cap, cur', q2, _, hh, _⟩
  · subst q2; cases hg
  · subst q2
    cases hg
    rw [hh] at e1
    cases e1
    rcases he with rfl | rfl
    · exact h1 rfl
    · exact h2 rfl

theorem s9_far {W W' : World} {D L : Nat} {d0 d1 d2 d3 l0 l1 l2 l3 l4 : Value} (h : (W.cell? ⟨D, 0, none⟩ = some d0 ∧ W.cell? ⟨D, 1, none⟩ = some d1 ∧ W.cell? ⟨D, 2, none⟩ = some d2 ∧ W.cell? ⟨D, 3, none⟩ = some d3 ∧ W.cell? ⟨L, 0, none⟩ = some l0 ∧ W.cell? ⟨L, 1, none⟩ = some l1 ∧ W.cell? ⟨L, 2, none⟩ = some l2 ∧ W.cell? ⟨L, 3, none⟩ = some l3 ∧ W.cell? ⟨L, 4, none⟩ = some l4)) (hD : W'.heap[D]? = W.heap[D]?) (hL : W'.heap[L]? = W.heap[L]?) : (W'.cell? ⟨D, 0, none⟩ = some d0 ∧ W'.cell? ⟨D, 1, none⟩ = some d1 ∧ W'.cell? ⟨D, 2, none⟩ = some d2 ∧ W'.cell? ⟨D, 3, none⟩ = some d3 ∧ W'.cell? ⟨L, 0, none⟩ = some l0 ∧ W'.cell? ⟨L, 1, none⟩ = some l1 ∧ W'.cell? ⟨L, 2, none⟩ = some l2 ∧ W'.cell? ⟨L, 3, none⟩ = some l3 ∧ W'.cell? ⟨L, 4, none⟩ = some l4) := by
  obtain ⟨h0, h1, h2, h3, h4, h5, h6, h7, h8⟩ := h
  have f : ∀ {j : Nat} {u : Value}, W.cell? ⟨D, j, none⟩ = some u → W'.cell? ⟨D, j, none⟩ = some u := fun {j u} q => (World.cell?_of_block (a := ⟨D, j, none⟩) hD).trans q
  have g : ∀ {j : Nat} {u : Value}, W.cell? ⟨L, j, none⟩ = some u → W'.cell? ⟨L, j, none⟩ = some u := fun {j u} q => (World.cell?_of_block (a := ⟨L, j, none⟩) hL).trans q
  exact ⟨f h0, f h1, f h2, f h3, g h4, g h5, g h6, g h7, g h8⟩
theorem s9_set4 (W : World) {D L R : Nat} {d0 d1 d2 d3 l0 l1 l2 l3 l4 : Value} (hR : R ≠ D ∧ R ≠ L) (v0 v1 v2 v3 : Value) (h : (W.cell? ⟨D, 0, none⟩ = some d0 ∧ W.cell? ⟨D, 1, none⟩ = some d1 ∧ W.cell? ⟨D, 2, none⟩ = some d2 ∧ W.cell? ⟨D, 3, none⟩ = some d3 ∧ W.cell? ⟨L, 0, none⟩ = some l0 ∧ W.cell? ⟨L, 1, none⟩ = some l1 ∧ W.cell? ⟨L, 2, none⟩ = some l2 ∧ W.cell? ⟨L, 3, none⟩ = some l3 ∧ W.cell? ⟨L, 4, none⟩ = some l4)) : (((((W.setCell ⟨R, 0, none⟩ v0).setCell ⟨R, 1, none⟩ v1).setCell ⟨R, 2, none⟩ v2).setCell ⟨R, 3, none⟩ v3).cell? ⟨D, 0, none⟩ = some d0 ∧ ((((W.setCell ⟨R, 0, none⟩ v0).setCell ⟨R, 1, none⟩ v1).setCell ⟨R, 2, none⟩ v2).setCell ⟨R, 3, none⟩ v3).cell? ⟨D, 1, none⟩ = some d1 ∧ ((((W.setCell ⟨R, 0, none⟩ v0).setCell ⟨R, 1, none⟩ v1).setCell ⟨R, 2, none⟩ v2).setCell ⟨R, 3, none⟩ v3).cell? ⟨D, 2, none⟩ = some d2 ∧ ((((W.setCell ⟨R, 0, none⟩ v0).setCell ⟨R, 1, none⟩ v1).setCell ⟨R, 2, none⟩ v2).setCell ⟨R, 3, none⟩ v3).cell? ⟨D, 3, none⟩ = some d3 ∧ ((((W.setCell ⟨R, 0, none⟩ v0).setCell ⟨R, 1, none⟩ v1).setCell ⟨R, 2, none⟩ v2).setCell ⟨R, 3, none⟩ v3).cell? ⟨L, 0, none⟩ = some l0 ∧ ((((W.setCell ⟨R, 0, none⟩ v0).setCell ⟨R, 1, none⟩ v1).setCell ⟨R, 2, none⟩ v2).setCell ⟨R, 3, none⟩ v3).cell? ⟨L, 1, none⟩ = some l1 ∧ ((((W.setCell ⟨R, 0, none⟩ v0).setCell ⟨R, 1, none⟩ v1).setCell ⟨R, 2, none⟩ v2).setCell ⟨R, 3, none⟩ v3).cell? ⟨L, 2, none⟩ = some l2 ∧ ((((W.setCell ⟨R, 0, none⟩ v0).setCell ⟨R, 1, none⟩ v1).setCell ⟨R, 2, none⟩ v2).setCell ⟨R, 3, none⟩ v3).cell? ⟨L, 3, none⟩ = some l3 ∧ ((((W.setCell ⟨R, 0, none⟩ v0).setCell ⟨R, 1, none⟩ v1).setCell ⟨R, 2, none⟩ v2).setCell ⟨R, 3, none⟩ v3).cell? ⟨L, 4, none⟩ = some l4) := by
  have f : ∀ k, k ≠ R → ((((W.setCell ⟨R, 0, none⟩ v0).setCell ⟨R, 1, none⟩ v1).setCell ⟨R, 2, none⟩ v2).setCell ⟨R, 3, none⟩ v3).heap[k]? = W.heap[k]? := fun k hk => by
    rw [Below.heap_setCell _ _ _ k hk, Below.heap_setCell _ _ _ k hk, Below.heap_setCell _ _ _ k hk, Below.heap_setCell _ _ _ k hk]
  exact s9_far h (f D (fun e => hR.1 e.symm)) (f L (fun e => hR.2 e.symm))
theorem s9_set5 (W : World) {D L R : Nat} {d0 d1 d2 d3 l0 l1 l2 l3 l4 : Value} (hR : R ≠ D ∧ R ≠ L) (v0 v1 v2 v3 v4 : Value) (h : (W.cell? ⟨D, 0, none⟩ = some d0 ∧ W.cell? ⟨D, 1, none⟩ = some d1 ∧ W.cell? ⟨D, 2, none⟩ = some d2 ∧ W.cell? ⟨D, 3, none⟩ = some d3 ∧ W.cell? ⟨L, 0, none⟩ = some l0 ∧ W.cell? ⟨L, 1, none⟩ = some l1 ∧ W.cell? ⟨L, 2, none⟩ = some l2 ∧ W.cell? ⟨L, 3, none⟩ = some l3 ∧ W.cell? ⟨L, 4, none⟩ = some l4)) : ((((((W.setCell ⟨R, 0, none⟩ v0).setCell ⟨R, 1, none⟩ v1).setCell ⟨R, 2, none⟩ v2).setCell ⟨R, 3, none⟩ v3).setCell ⟨R, 4, none⟩ v4).cell? ⟨D, 0, none⟩ = some d0 ∧ (((((W.setCell ⟨R, 0, none⟩ v0).setCell ⟨R, 1, none⟩ v1).setCell ⟨R, 2, none⟩ v2).setCell ⟨R, 3, none⟩ v3).setCell ⟨R, 4, none⟩ v4).cell? ⟨D, 1, none⟩ = some d1 ∧ (((((W.setCell ⟨R, 0, none⟩ v0).setCell ⟨R, 1, none⟩ v1).setCell ⟨R, 2, none⟩ v2).setCell ⟨R, 3, none⟩ v3).setCell ⟨R, 4, none⟩ v4).cell? ⟨D, 2, none⟩ = some d2 ∧ (((((W.setCell ⟨R, 0, none⟩ v0).setCell ⟨R, 1, none⟩ v1).setCell ⟨R, 2, none⟩ v2).setCell ⟨R, 3, none⟩ v3).setCell ⟨R, 4, none⟩ v4).cell? ⟨D, 3, none⟩ = some d3 ∧ (((((W.setCell ⟨R, 0, none⟩ v0).setCell ⟨R, 1, none⟩ v1).setCell ⟨R, 2, none⟩ v2).setCell ⟨R, 3, none⟩ v3).setCell ⟨R, 4, none⟩ v4).cell? ⟨L, 0, none⟩ = some l0 ∧ (((((W.setCell ⟨R, 0, none⟩ v0).setCell ⟨R, 1, none⟩ v1).setCell ⟨R, 2, none⟩ v2).setCell ⟨R, 3, none⟩ v3).setCell ⟨R, 4, none⟩ v4).cell? ⟨L, 1, none⟩ = some l1 ∧ (((((W.setCell ⟨R, 0, none⟩ v0).setCell ⟨R, 1, none⟩ v1).setCell ⟨R, 2, none⟩ v2).setCell ⟨R, 3, none⟩ v3).setCell ⟨R, 4, none⟩ v4).cell? ⟨L, 2, none⟩ = some l2 ∧ (((((W.setCell ⟨R, 0, none⟩ v0).setCell ⟨R, 1, none⟩ v1).setCell ⟨R, 2, none⟩ v2).setCell ⟨R, 3, none⟩ v3).setCell ⟨R, 4, none⟩ v4).cell? ⟨L, 3, none⟩ = some l3 ∧ (((((W.setCell ⟨R, 0, none⟩ v0).setCell ⟨R, 1, none⟩ v1).setCell ⟨R, 2, none⟩ v2).setCell ⟨R, 3, none⟩ v3).setCell ⟨R, 4, none⟩ v4).cell? ⟨L, 4, none⟩ = some l4) := by
  have f : ∀ k, k ≠ R → (((((W.setCell ⟨R, 0, none⟩ v0).setCell ⟨R, 1, none⟩ v1).setCell ⟨R, 2, none⟩ v2).setCell ⟨R, 3, none⟩ v3).setCell ⟨R, 4, none⟩ v4).heap[k]? = W.heap[k]? := fun k hk => by
    rw [Below.heap_setCell _ _ _ k hk, Below.heap_setCell _ _ _ k hk, Below.heap_setCell _ _ _ k hk, Below.heap_setCell _ _ _ k hk, Below.heap_setCell _ _ _ k hk]
  exact s9_far h (f D (fun e => hR.1 e.symm)) (f L (fun e => hR.2 e.symm))
theorem s9_drew {W : World} {D L : Nat} {d0 d1 d2 d3 l0 l1 l2 l3 l4 : Value} (h : (W.cell? ⟨D, 0, none⟩ = some d0 ∧ W.cell? ⟨D, 1, none⟩ = some d1 ∧ W.cell? ⟨D, 2, none⟩ = some d2 ∧ W.cell? ⟨D, 3, none⟩ = some d3 ∧ W.cell? ⟨L, 0, none⟩ = some l0 ∧ W.cell? ⟨L, 1, none⟩ = some l1 ∧ W.cell? ⟨L, 2, none⟩ = some l2 ∧ W.cell? ⟨L, 3, none⟩ = some l3 ∧ W.cell? ⟨L, 4, none⟩ = some l4)) : (W.drew.cell? ⟨D, 0, none⟩ = some d0 ∧ W.drew.cell? ⟨D, 1, none⟩ = some d1 ∧ W.drew.cell? ⟨D, 2, none⟩ = some d2 ∧ W.drew.cell? ⟨D, 3, none⟩ = some d3 ∧ W.drew.cell? ⟨L, 0, none⟩ = some l0 ∧ W.drew.cell? ⟨L, 1, none⟩ = some l1 ∧ W.drew.cell? ⟨L, 2, none⟩ = some l2 ∧ W.drew.cell? ⟨L, 3, none⟩ = some l3 ∧ W.drew.cell? ⟨L, 4, none⟩ = some l4) := s9_far h rfl rfl
theorem s9_set4d (W : World) {D L R : Nat} {d0 d1 d2 d3 l0 l1 l2 l3 l4 : Value} (hR : R ≠ D ∧ R ≠ L) (v0 v1 v2 v3 : Value) (h : (W.cell? ⟨D, 0, none⟩ = some d0 ∧ W.cell? ⟨D, 1, none⟩ = some d1 ∧ W.cell? ⟨D, 2, none⟩ = some d2 ∧ W.cell? ⟨D, 3, none⟩ = some d3 ∧ W.cell? ⟨L, 0, none⟩ = some l0 ∧ W.cell? ⟨L, 1, none⟩ = some l1 ∧ W.cell? ⟨L, 2, none⟩ = some l2 ∧ W.cell? ⟨L, 3, none⟩ = some l3 ∧ W.cell? ⟨L, 4, none⟩ = some l4)) : (((((W.setCell ⟨R, 0, none⟩ v0).setCell ⟨R, 1, none⟩ v1).setCell ⟨R, 2, none⟩ v2).setCell ⟨R, 3, none⟩ v3).drew.cell? ⟨D, 0, none⟩ = some d0 ∧ ((((W.setCell ⟨R, 0, none⟩ v0).setCell ⟨R, 1, none⟩ v1).setCell ⟨R, 2, none⟩ v2).setCell ⟨R, 3, none⟩ v3).drew.cell? ⟨D, 1, none⟩ = some d1 ∧ ((((W.setCell ⟨R, 0, none⟩ v0).setCell ⟨R, 1, none⟩ v1).setCell ⟨R, 2, none⟩ v2).setCell ⟨R, 3, none⟩ v3).drew.cell? ⟨D, 2, none⟩ = some d2 ∧ ((((W.setCell ⟨R, 0, none⟩ v0).setCell ⟨R, 1, none⟩ v1).setCell ⟨R, 2, none⟩ v2).setCell ⟨R, 3, none⟩ v3).drew.cell? ⟨D, 3, none⟩ = some d3 ∧ ((((W.setCell ⟨R, 0, none⟩ v0).setCell ⟨R, 1, none⟩ v1).setCell ⟨R, 2, none⟩ v2).setCell ⟨R, 3, none⟩ v3).drew.cell? ⟨L, 0, none⟩ = some l0 ∧ ((((W.setCell ⟨R, 0, none⟩ v0).setCell ⟨R, 1, none⟩ v1).setCell ⟨R, 2, none⟩ v2).setCell ⟨R, 3, none⟩ v3).drew.cell? ⟨L, 1, none⟩ = some l1 ∧ ((((W.setCell ⟨R, 0, none⟩ v0).setCell ⟨R, 1, none⟩ v1).setCell ⟨R, 2, none⟩ v2).setCell ⟨R, 3, none⟩ v3).drew.cell? ⟨L, 2, none⟩ = some l2 ∧ ((((W.setCell ⟨R, 0, none⟩ v0).setCell ⟨R, 1, none⟩ v1).setCell ⟨R, 2, none⟩ v2).setCell ⟨R, 3, none⟩ v3).drew.cell? ⟨L, 3, none⟩ = some l3 ∧ ((((W.setCell ⟨R, 0, none⟩ v0).setCell ⟨R, 1, none⟩ v1).setCell ⟨R, 2, none⟩ v2).setCell ⟨R, 3, none⟩ v3).drew.cell? ⟨L, 4, none⟩ = some l4) := s9_drew (s9_set4 W hR v0 v1 v2 v3 h)
theorem s9_set5d (W : World) {D L R : Nat} {d0 d1 d2 d3 l0 l1 l2 l3 l4 : Value} (hR : R ≠ D ∧ R ≠ L) (v0 v1 v2 v3 v4 : Value) (h : (W.cell? ⟨D, 0, none⟩ = some d0 ∧ W.cell? ⟨D, 1, none⟩ = some d1 ∧ W.cell? ⟨D, 2, none⟩ = some d2 ∧ W.cell? ⟨D, 3, none⟩ = some d3 ∧ W.cell? ⟨L, 0, none⟩ = some l0 ∧ W.cell? ⟨L, 1, none⟩ = some l1 ∧ W.cell? ⟨L, 2, none⟩ = some l2 ∧ W.cell? ⟨L, 3, none⟩ = some l3 ∧ W.cell? ⟨L, 4, none⟩ = some l4)) : ((((((W.setCell ⟨R, 0, none⟩ v0).setCell ⟨R, 1, none⟩ v1).setCell ⟨R, 2, none⟩ v2).setCell ⟨R, 3, none⟩ v3).setCell ⟨R, 4, none⟩ v4).drew.cell? ⟨D, 0, none⟩ = some d0 ∧ (((((W.setCell ⟨R, 0, none⟩ v0).setCell ⟨R, 1, none⟩ v1).setCell ⟨R, 2, none⟩ v2).setCell ⟨R, 3, none⟩ v3).setCell ⟨R, 4, none⟩ v4).drew.cell? ⟨D, 1, none⟩ = some d1 ∧ (((((W.setCell ⟨R, 0, none⟩ v0).setCell ⟨R, 1, none⟩ v1).setCell ⟨R, 2, none⟩ v2).setCell ⟨R, 3, none⟩ v3).setCell ⟨R, 4, none⟩ v4).drew.cell? ⟨D, 2, none⟩ = some d2 ∧ (((((W.setCell ⟨R, 0, none⟩ v0).setCell ⟨R, 1, none⟩ v1).setCell ⟨R, 2, none⟩ v2).setCell ⟨R, 3, none⟩ v3).setCell ⟨R, 4, none⟩ v4).drew.cell? ⟨D, 3, none⟩ = some d3 ∧ (((((W.setCell ⟨R, 0, none⟩ v0).setCell ⟨R, 1, none⟩ v1).setCell ⟨R, 2, none⟩ v2).setCell ⟨R, 3, none⟩ v3).setCell ⟨R, 4, none⟩ v4).drew.cell? ⟨L, 0, none⟩ = some l0 ∧ (((((W.setCell ⟨R, 0, none⟩ v0).setCell ⟨R, 1, none⟩ v1).setCell ⟨R, 2, none⟩ v2).setCell ⟨R, 3, none⟩ v3).setCell ⟨R, 4, none⟩ v4).drew.cell? ⟨L, 1, none⟩ = some l1 ∧ (((((W.setCell ⟨R, 0, none⟩ v0).setCell ⟨R, 1, none⟩ v1).setCell ⟨R, 2, none⟩ v2).setCell ⟨R, 3, none⟩ v3).setCell ⟨R, 4, none⟩ v4).drew.cell? ⟨L, 2, none⟩ = some l2 ∧ (((((W.setCell ⟨R, 0, none⟩ v0).setCell ⟨R, 1, none⟩ v1).setCell ⟨R, 2, none⟩ v2).setCell ⟨R, 3, none⟩ v3).setCell ⟨R, 4, none⟩ v4).drew.cell? ⟨L, 3, none⟩ = some l3 ∧ (((((W.setCell ⟨R, 0, none⟩ v0).setCell ⟨R, 1, none⟩ v1).setCell ⟨R, 2, none⟩ v2).setCell ⟨R, 3, none⟩ v3).setCell ⟨R, 4, none⟩ v4).drew.cell? ⟨L, 4, none⟩ = some l4) := s9_drew (s9_set5 W hR v0 v1 v2 v3 v4 h)

/-- The frames so far, as long as there is room. -/
def FullAt (room used : Nat) (g : List ByteArray) (i : Nat) : Bool := decide (room < used + sizeG (g.take i))
theorem sizeG_take {g : List ByteArray} {i : Nat} (h : i < g.length) : sizeG (g.take (i + 1)) = sizeG (g.take i) + (10 + g[i].size) := by
  rw [List.take_succ_eq_append_getElem h, sizeG_append]
  rfl
theorem frames_take {t : Nat} {g : List ByteArray} {i : Nat} (h : i < g.length) : frames t (g.take (i + 1)) = frames t (g.take i) ++ (frameS t g[i]).data.toList := by
  rw [List.take_succ_eq_append_getElem h, frames_append]
  show _ ++ ((frameS t g[i]).data.toList ++ []) = _
  rw [List.append_nil]
structure Gat (w wr : World) (v : Value) (Y : ByteArray) (t room used : Nat) (g : List ByteArray) (i : Nat) : Prop where
  own : ∃ l, OwnB wr (w.heap.size + 4) v l ∧ l.length ≤ 20000 ∧ (FullAt room used g i = false → l = Y.data.toList ++ frames t (g.take i))
  may : mayG (g.take i)
end Go.Proofs.Ythfhjfemcmdmfaa

namespace Go.Proofs.Ythfhjfemcmdmfaa
open Go.ChangeShapes Go.WideShapes Go.ChangeAt Go.RowKit
set_option linter.unusedVariables false
set_option maxRecDepth 100000

theorem ownB_str0 {w : World} {B : Nat} {v : Value} (h : OwnB w B v []) : ∃ o c, v = .slice o 0 c ∧ (convert 80 9 (.slice o 0 c)).run Try.prog w = .ok (.string ⟨#[]⟩) w := by
  rcases h.2 with ⟨e, _⟩ | ⟨g, cap, cur, e, _⟩
  · subst e
    exact ⟨none, 0, rfl, by first | rfl | kernel_rfl | (simp [convert, Try.underlying80, Try.underlying5, Try.underlying9])⟩
  · subst e
    have := run_convert_bytes_back w 80 9 5 ⟨g, 0, none⟩ cap [] Try.underlying80 Try.underlying5 Try.underlying9 (fun j hj => absurd hj (Nat.not_lt_zero _))
    exact ⟨some ⟨g, 0, none⟩, cap, rfl, this⟩
theorem ownB_any {w : World} {B : Nat} {v : Value} {l : List UInt8} (h : OwnB w B v l) : ∃ o m c, v = .slice o m c ∧ (convert 80 9 (.slice o m c)).run Try.prog w = .ok (.string ⟨l.toArray⟩) w := by
  by_cases h0 : l = []
  · subst h0
    obtain ⟨o, c, h1, h2⟩ := ownB_str0 h
    exact ⟨o, 0, c, h1, h2⟩
  · obtain ⟨g, m, c, h1, h2⟩ := ownB_str h h0
    exact ⟨_, m, c, h1, h2⟩
/-- Texts behind texts of the call's own. -/
theorem appT {w : World} {v : Value} {l : List ByteArray} {base : Nat} (h : w.ownsRow base 9 1 v l.length (sv l)) (a : Option Addr) (c : Nat) (m : List ByteArray) (hm : Texts w (.slice a m.length c) m) (hz : a = none → c = 0) (hs : l.length + m.length ≤ 1048576) (hb : base ≤ w.heap.size) :
    ∃ v' w', (Builtin.append_ #[26, 26] 26 #[v, .slice a m.length c]).run Try.prog w = .ok v' w' ∧ w'.ownsRow base 9 1 v' (l ++ m).length (sv (l ++ m)) ∧ w.grownBy w' v.ownBlock := by
  obtain ⟨i, hi, hz0, h1, h2⟩ := info_of Try.info9
  cases a with
  | none =>
    have hc := hz rfl
    subst hc
    have hm0 : m = [] := by
      rcases hm with ⟨_, _, _, e⟩ | ⟨b, o, c', e, _⟩
      · exact e
      · cases e
    subst hm0
    obtain ⟨o, cc, rfl⟩ := own_form h
    have hr := run_append_owned_none (P := Try.prog) w base 26 26 9 i 1 Try.underlying26 hi _ _ _ h
    exact ⟨_, w, hr, by rw [List.append_nil]; exact h, ⟨rfl, rfl, rfl, Nat.le_refl _, fun _ _ _ => rfl⟩⟩
  | some a =>
    obtain ⟨v', w', a1, a2, a3, a4, a5⟩ := run_append_own_at (P := Try.prog) w base 26 26 9 i _ 1 16 Try.underlying26 hi hz0 h1 h2 (by simp [Value.cells]) (by omega) v l.length (sv l) h a m.length c (sv m) (by rw [sv_len]; omega)
      (fun j u hu => by
        have hj : j < m.length := by have := (List.getElem?_eq_some_iff.1 hu).1; rwa [sv_len] at this
        obtain ⟨b, o, e, hc⟩ := hm.cell j hj
        cases e
        rw [Go.WideShapes.add_plain, hc, ← hu]
        simp [sv, hj]) (sv_one m) (by unfold maxLen; omega) (by omega) hb
    refine ⟨v', w', a1, ?_, a3⟩
    rw [List.length_append]
    simpa [sv] using a2
theorem burn_same (f : Int) : burn f false = rburn f false := by
  unfold burn rburn
  by_cases h : f = 0
  · simp [h]
  · simp [h]
/-- A disk that has power, whose fuse is a number. -/
structure Dk.live (d : Dk) : Prop where
  off : d.off = false
  lo : -1 ≤ d.fuse
  hi : d.fuse ≤ 9223372036854775807
theorem live_on {d : Dk} (h : d.live) : d.on = (rburn d.fuse false).2.2 := by
  unfold Dk.on
  rw [h.off, burn_same]
theorem live_write {d : Dk} (h : d.live) (hon : d.on = true) (a : Nat) (t : List UInt8) : (d.write a t).live ∧ (d.write a t).Q = d.Q ++ [(a, t)] ∧ (d.write a t).S = d.S ∧ (d.write a t).n = d.n ∧ (d.write a t).fuse = (rburn d.fuse false).1 := by
  have ho := hon
  rw [live_on h] at ho
  have e : d.write a t = { d.burnt with Q := d.Q ++ [(a, t)] } := by unfold Dk.write; rw [if_pos hon]
  have hb : burn d.fuse d.off = rburn d.fuse false := by rw [h.off, burn_same]
  have hc : ¬ d.fuse = 0 := fun c => by rw [c] at ho; simp [rburn] at ho
  have hr : rburn d.fuse false = (if 0 < d.fuse then d.fuse - 1 else d.fuse, false, true) := by unfold rburn; rw [if_neg (by simp [hc])]
  have h1 := h.lo
  have h2 := h.hi
  rw [e]
  refine ⟨⟨?_, ?_, ?_⟩, rfl, rfl, rfl, ?_⟩
  · show (burn d.fuse d.off).2.1 = false
    rw [hb, hr]
  · show -1 ≤ (burn d.fuse d.off).1
    rw [hb, hr]
    show -1 ≤ (if 0 < d.fuse then d.fuse - 1 else d.fuse)
    split <;> omega
  · show (burn d.fuse d.off).1 ≤ _
    rw [hb, hr]
    show (if 0 < d.fuse then d.fuse - 1 else d.fuse) ≤ _
    split <;> omega
  · show (burn d.fuse d.off).1 = _
    rw [hb]
theorem dead_write {d : Dk} (h : d.live) (hon : d.on = false) (a : Nat) (t : List UInt8) : (d.write a t).off = true ∧ (d.write a t).fuse = -1 ∧ (d.write a t).Q = d.Q ∧ (d.write a t).S = d.S ∧ (d.write a t).n = d.n ∧ (rburn d.fuse false).2.2 = false := by
  have ho := hon
  rw [live_on h] at ho
  have e : d.write a t = d.burnt := by unfold Dk.write; rw [if_neg (by rw [hon]; simp)]
  have hb : burn d.fuse d.off = rburn d.fuse false := by rw [h.off, burn_same]
  rw [e]
  unfold Dk.burnt
  rw [hb]
  refine ⟨?_, ?_, rfl, rfl, rfl, ho⟩
  all_goals
    unfold rburn at ho ⊢
    by_cases c : d.fuse = 0
    · simp [c]
    · simp [c] at ho
theorem puts_live {d : Dk} (h : d.live) (first : Nat) (L : List UInt8) : ∀ k, (∀ j, j < k → (puts d first L j).on = true) → (puts d first L k).live
  | 0, _ => h
  | k + 1, hon => by
    rw [puts]
    exact (live_write (puts_live h first L k (fun j hj => hon j (by omega))) (hon k (by omega)) _ _).1
theorem ref_writeD {w : World} {b c : Nat} {u : Option Addr} {k : Nat} {d : Dk} (h : Rd w b c u k d) (hQ : d.Q.length ≤ 1000000) (hd : d.live) (x : Nat) (hx : x < d.n) (s : ByteArray) (hs : s.size = 32) :
    Calls Try.prog 61 #[.agg #[.slice (some ⟨b, 0, none⟩) d.n c, .slice u d.Q.length k, .int .i64 d.fuse, .bool false], .int .i64 (x : Int), .string s] w fun e w' => ∃ u' k', e = .returned (.tuple #[.agg #[.slice (some ⟨b, 0, none⟩) d.n c, .slice u' (d.write x s.data.toList).Q.length k', .int .i64 (d.write x s.data.toList).fuse, .bool (d.write x s.data.toList).off], .int .i64 (if d.on then 0 else 30)]) ∧ Rd w' b c u' k' (d.write x s.data.toList) ∧ Kept (fun _ => False) w w' := by
  cases hon : d.on with
  | true =>
    obtain ⟨l1, l2, l3, l4, l5⟩ := live_write hd hon x s.data.toList
    refine (ref_write_on (some ⟨b, 0, none⟩) u d.n c k d.fuse false d.Q h.wait (by omega) x hx s hs (by rw [← live_on hd]; exact hon) ⟨hd.lo, hd.hi⟩).mono fun e w' ⟨o, k', q1, q2, q3⟩ => ⟨o, k', ?_, ⟨?_, ?_⟩, q3⟩
    · rw [q1, l2, l5, l1.off, List.length_append]
      rfl
    · rw [l4, l3]
      exact own_kept h.sure q3
    · rw [l2, List.length_append]
      exact own_weak q2 (Nat.zero_le _)
  | false =>
    obtain ⟨l1, l2, l3, l4, l5, l6⟩ := dead_write hd hon x s.data.toList
    refine (ref_write_off (some ⟨b, 0, none⟩) u d.n c d.Q.length k d.fuse false x hx s hs l6 ⟨hd.lo, hd.hi⟩ w).mono fun e w' ⟨q1, q3⟩ => ⟨u, k, ?_, ⟨?_, ?_⟩, q3⟩
    · rw [q1, l3, l2, l1]
      rfl
    · rw [l5, l4]
      exact own_kept h.sure q3
    · rw [l3]
      exact own_kept h.wait q3
end Go.Proofs.Ythfhjfemcmdmfaa

namespace Go.Proofs.Ythfhjfemcmdmfaa
open Go.ChangeShapes Go.WideShapes Go.ChangeAt Go.RowKit
set_option linter.unusedVariables false
set_option maxRecDepth 100000

theorem ba_ext {x y : ByteArray} (h : x.data.toList = y.data.toList) : x = y := by
  cases x; cases y; congr 1; exact Array.toList_inj.1 h
theorem doc_write {w0 : World} {F : Nat → Prop} {p : Nat} {d : Dk} {a b : Nat} {Y X AL : ByteArray} (h : Heldf d a b Y.data.toList) (hd : Disk w0 F p d) (hAL : AL.data.toList = Y.data.toList ++ X.data.toList) (hx : 0 < X.size) (hr : Y.size + X.size ≤ 32 * (b - a)) (hb : b ≤ d.n) (hab : a < b) (j : Nat) (hj : j < manyS Y.size X.size)
    (hon : ∀ i, i < j → (puts d (a + Y.size / 32) (leftS d a Y.size X).data.toList i).on = true) :
    32 * (Y.size / 32 + j) < AL.size ∧ a + (Y.size / 32 + j) < d.n ∧ (puts d (a + Y.size / 32) (leftS d a Y.size X).data.toList j).last (a + (Y.size / 32 + j)) = d.last (a + (Y.size / 32 + j)) ∧
      ∀ Wz : ByteArray, Wz.data.toList = d.last (a + (Y.size / 32 + j)) → Wz.size = 32 ∧ ∀ nn, nn = min 32 (AL.size - 32 * (Y.size / 32 + j)) → AL.extract (32 * (Y.size / 32 + j)) (32 * (Y.size / 32 + j) + nn) ++ Wz.extract nn Wz.size = ⟨(chunk (leftS d a Y.size X).data.toList j).toArray⟩ ∧ (⟨(chunk (leftS d a Y.size X).data.toList j).toArray⟩ : ByteArray).size = 32 := by
  have hyl : Y.data.toList.length = Y.size := by simp
  have hxl : X.data.toList.length = X.size := by simp
  have hal : AL.size = Y.size + X.size := by
    have : AL.data.toList.length = AL.size := by simp
    rw [← this, hAL, List.length_append, hyl, hxl]
  have hm : manyS Y.size X.size = (Y.size + X.size - 1) / 32 + 1 - Y.size / 32 := rfl
  have hlt : a + (Y.size / 32 + j) < d.n := by omega
  refine ⟨by omega, hlt, ?_, fun Wz hW => ?_⟩
  · rw [puts_last_on _ _ _ _ hon, if_neg (by omega)]
  · have hw : Wz.size = 32 := by
      have : Wz.data.toList.length = Wz.size := by simp
      rw [← this, hW]
      exact hd.lastLen _ hlt
    refine ⟨hw, fun nn hnn => ⟨ba_ext ?_, ?_⟩⟩
    · have hc := chunk_doc (L := Y.data.toList) h hd X hx (by rw [hyl]; exact hr) hb hab j (by rw [hyl]; exact hj)
      rw [hyl, Nat.add_assoc] at hc
      rw [← hal, ← hnn] at hc
      show _ = (chunk _ j).toArray.toList
      rw [hc, ← hAL, ← hW, ByteArray.data_append, Array.toList_append, ext_list, ext_list]
      congr 1
      · congr 1
        omega
      · rw [hw]
        rw [List.take_of_length_le]
        rw [List.length_drop]
        have : Wz.data.toList.length = Wz.size := by simp
        omega
    · show (chunk _ j).toArray.size = 32
      rw [List.size_toArray]
      exact chunk_len hd a b Y.size X hx hr hb hab j hj
theorem doc_end {Y X AL : ByteArray} (hAL : AL.data.toList = Y.data.toList ++ X.data.toList) (hx : 0 < X.size) : ¬ 32 * (Y.size / 32 + manyS Y.size X.size) < AL.size := by
  have hyl : Y.data.toList.length = Y.size := by simp
  have hxl : X.data.toList.length = X.size := by simp
  have hal : AL.size = Y.size + X.size := by
    have : AL.data.toList.length = AL.size := by simp
    rw [← this, hAL, List.length_append, hyl, hxl]
  have hm : manyS Y.size X.size = (Y.size + X.size - 1) / 32 + 1 - Y.size / 32 := rfl
  omega
end Go.Proofs.Ythfhjfemcmdmfaa

namespace Go.Proofs.Ythfhjfemcmdmfaa
open Go.ChangeShapes Go.WideShapes Go.ChangeAt Go.RowKit
set_option linter.unusedVariables false
set_option maxRecDepth 100000

def allB (Y : ByteArray) (t : Nat) (g : List ByteArray) : ByteArray := ⟨(Y.data.toList ++ frames t g).toArray⟩
def manyG (us : Nat) (g : List ByteArray) : Nat := if g = [] then 0 else manyS us (sizeG g)
/-- The disk behind so many writings of Add. -/
def PD (d : Dk) (a : Nat) (Y : ByteArray) (t : Nat) (g : List ByteArray) (j : Nat) : Dk := puts d (a + Y.size / 32) (leftS d a Y.size ⟨(frames t g).toArray⟩).data.toList j
theorem sizeG_pos {g : List ByteArray} (h : g ≠ []) : 0 < sizeG g := by
  cases g with
  | nil => exact absurd rfl h
  | cons s r => show 0 < (10 + s.size) + sizeG r; omega
theorem pd_round {w0 : World} {F : Nat → Prop} {p : Nat} {d : Dk} {a B t : Nat} {Y : ByteArray} {g : List ByteArray} (hH : Heldf d a B Y.data.toList) (hdk : Disk w0 F p d) (hlv : d.live) (hQ : d.Q.length ≤ 900000) (hr : Y.size + sizeG g ≤ 32 * (B - a)) (hB : B ≤ d.n) (hab : a < B) (j : Nat) (hj : j < manyG Y.size g) (hj3 : j ≤ 300) (hon : ∀ i, i < j → (PD d a Y t g i).on = true) :
    ∃ Wz CH : ByteArray, Wz = ⟨((PD d a Y t g j).last (a + (Y.size / 32 + j))).toArray⟩ ∧ 32 * (Y.size / 32 + j) < (allB Y t g).size ∧ a + (Y.size / 32 + j) < d.n ∧ Wz.size = 32 ∧ CH.size = 32 ∧ (∀ nn, nn = min 32 ((allB Y t g).size - 32 * (Y.size / 32 + j)) → (allB Y t g).extract (32 * (Y.size / 32 + j)) (32 * (Y.size / 32 + j) + nn) ++ Wz.extract nn Wz.size = CH) ∧ PD d a Y t g (j + 1) = (PD d a Y t g j).write (a + (Y.size / 32 + j)) CH.data.toList ∧ (PD d a Y t g j).live ∧ (PD d a Y t g j).Q.length ≤ 1000000 ∧ (PD d a Y t g j).n = d.n := by
  have hne : g ≠ [] := fun e => by rw [e] at hj; simp [manyG] at hj
  have hj' : j < manyS Y.size (sizeG g) := by unfold manyG at hj; rwa [if_neg hne] at hj
  have hxs : (⟨(frames t g).toArray⟩ : ByteArray).size = sizeG g := by
    show (frames t g).toArray.size = _
    rw [List.size_toArray, frames_len]
  have hx0 := sizeG_pos hne
  obtain ⟨h1, h2, h3, h4⟩ := doc_write (Y := Y) (X := ⟨(frames t g).toArray⟩) (AL := allB Y t g) hH hdk (by simp [allB]) (by rw [hxs]; exact hx0) (by rw [hxs]; exact hr) hB hab j (by rw [hxs]; exact hj') hon
  obtain ⟨h5, h6⟩ := h4 ⟨(d.last (a + (Y.size / 32 + j))).toArray⟩ (by simp)
  obtain ⟨nn, hnn⟩ : ∃ nn, nn = min 32 ((allB Y t g).size - 32 * (Y.size / 32 + j)) := ⟨_, rfl⟩
  refine ⟨⟨(d.last (a + (Y.size / 32 + j))).toArray⟩, ⟨(chunk (leftS d a Y.size ⟨(frames t g).toArray⟩).data.toList j).toArray⟩, ?_, h1, h2, h5, (h6 nn hnn).2, fun n hn => (h6 n hn).1, ?_, ?_, ?_, ?_⟩
  · unfold PD
    rw [h3]
  · show puts _ _ _ (j + 1) = _
    rw [puts]
    unfold PD
    rw [Nat.add_assoc]
  · exact puts_live hlv _ _ j hon
  · exact Nat.le_trans (puts_q _ _ _ _) (by omega)
  · exact puts_n _ _ _ _
theorem pd_end {Y : ByteArray} {g : List ByteArray} {t : Nat} (hne : g ≠ []) : ¬ 32 * (Y.size / 32 + manyG Y.size g) < (allB Y t g).size := by
  have hxs : (⟨(frames t g).toArray⟩ : ByteArray).size = sizeG g := by
    show (frames t g).toArray.size = _
    rw [List.size_toArray, frames_len]
  have := doc_end (Y := Y) (X := ⟨(frames t g).toArray⟩) (AL := allB Y t g) (by simp [allB]) (by rw [hxs]; exact sizeG_pos hne)
  rw [hxs] at this
  unfold manyG
  rw [if_neg hne]
  exact this
theorem wraps_add (a ii : Nat) (ha : a ≤ 300) (hi : ii ≤ 600) : IntKind.i64.wrap ((a : Int) + (ii : Int)) = ((a + ii : Nat) : Int) ∧ wrap64 ((a : Int) + (ii : Int)) = ((a + ii : Nat) : Int) ∧ IntKind.i64.wrap (32 * (ii : Int)) = ((32 * ii : Nat) : Int) ∧ wrap64 (32 * (ii : Int)) = ((32 * ii : Nat) : Int) := by
  refine ⟨?_, ?_, ?_, ?_⟩
  · rw [IntKind.wrap_i64]; omega
  · unfold wrap64; omega
  · rw [IntKind.wrap_i64]; omega
  · unfold wrap64; omega
end Go.Proofs.Ythfhjfemcmdmfaa
