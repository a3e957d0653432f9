/- A ledger of the call's own: in a block, its lists in blocks of their own. -/
import Derived.Test.YtflbcheofmljeaaInsB
import Derived.Test.YtflbcheofmljeaaMayL
namespace Go.Proofs.Ytflbcheofmljeaa
open Go.ChangeShapes Go.WideShapes Go.RowKit
set_option linter.unusedVariables false
set_option maxRecDepth 100000

/-- A ledger in block b; E are the blocks that are others'. -/
structure LedO (w : World) (E : Nat → Prop) (b : Nat) (v0 v1 v2 : Value) (L : Led) : Prop where
  c : CellsF w b [v0, v1, v2, .int .i64 L.ops]
  S : w.ownsRow 0 50 4 v0 L.S.length (L.S.flatMap stv)
  H : w.ownsRow 0 44 6 v1 L.H.length (L.H.flatMap hlv)
  M : w.ownsRow 0 42 6 v2 L.M.length (L.M.flatMap mvv)
  e : ¬ E b
  e0 : ∀ g, v0.ownBlock = some g → ¬ E g ∧ g ≠ b
  e1 : ∀ g, v1.ownBlock = some g → ¬ E g ∧ g ≠ b
  e2 : ∀ g, v2.ownBlock = some g → ¬ E g ∧ g ≠ b
  d01 : ∀ g, v0.ownBlock = some g → v1.ownBlock ≠ some g
  d02 : ∀ g, v0.ownBlock = some g → v2.ownBlock ≠ some g
  d12 : ∀ g, v1.ownBlock = some g → v2.ownBlock ≠ some g
  lt : ∀ k, E k → k < w.heap.size
theorem LedO.keep {w w' : World} {E : Nat → Prop} {b : Nat} {v0 v1 v2 : Value} {L : Led} (h : LedO w E b v0 v1 v2 L) (hz : w.heap.size ≤ w'.heap.size) (hb : w'.heap[b]? = w.heap[b]?) (h0 : ∀ g, v0.ownBlock = some g → w'.heap[g]? = w.heap[g]?) (h1 : ∀ g, v1.ownBlock = some g → w'.heap[g]? = w.heap[g]?) (h2 : ∀ g, v2.ownBlock = some g → w'.heap[g]? = w.heap[g]?) : LedO w' E b v0 v1 v2 L :=
  ⟨h.c.far hb, ownsRow_kept h.S h0, ownsRow_kept h.H h1, ownsRow_kept h.M h2, h.e, h.e0, h.e1, h.e2, h.d01, h.d02, h.d12, fun k q => Nat.lt_of_lt_of_le (h.lt k q) hz⟩
theorem LedO.next {w w' : World} {E : Nat → Prop} {b : Nat} {v0 v1 v2 : Value} {L : Led} (h : LedO w E b v0 v1 v2 L) (k : Below w.heap.size w w') : LedO w' E b v0 v1 v2 L :=
  h.keep k.size (k.block b h.c.lt) (fun g hg => k.block g (World.ownsRow.lt h.S g hg).2) (fun g hg => k.block g (World.ownsRow.lt h.H g hg).2) (fun g hg => k.block g (World.ownsRow.lt h.M g hg).2)
/-- More blocks that are others'. -/
theorem LedO.wide {w : World} {E E' : Nat → Prop} {b : Nat} {v0 v1 v2 : Value} {L : Led} (h : LedO w E b v0 v1 v2 L) (hb : ¬ E' b) (h0 : ∀ g, v0.ownBlock = some g → ¬ E' g) (h1 : ∀ g, v1.ownBlock = some g → ¬ E' g) (h2 : ∀ g, v2.ownBlock = some g → ¬ E' g) (hl : ∀ k, E' k → k < w.heap.size) : LedO w E' b v0 v1 v2 L :=
  ⟨h.c, h.S, h.H, h.M, hb, fun g q => ⟨h0 g q, (h.e0 g q).2⟩, fun g q => ⟨h1 g q, (h.e1 g q).2⟩, fun g q => ⟨h2 g q, (h.e2 g q).2⟩, h.d01, h.d02, h.d12, hl⟩
/-- .. those that were laid behind the ledger. -/
theorem LedO.beside {w w' : World} {E : Nat → Prop} {b : Nat} {v0 v1 v2 : Value} {L : Led} (h : LedO w E b v0 v1 v2 L) (k : Below w.heap.size w w') (F : Nat → Prop) (hF : ∀ k, F k → w.heap.size ≤ k ∧ k < w'.heap.size) : LedO w' (fun k => E k ∨ F k) b v0 v1 v2 L :=
  (h.next k).wide (fun q => q.elim h.e (fun q => by have := (hF b q).1; have := h.c.lt; omega))
    (fun g hg q => q.elim (h.e0 g hg).1 (fun q => by have := (hF g q).1; have := (World.ownsRow.lt h.S g hg).2; omega))
    (fun g hg q => q.elim (h.e1 g hg).1 (fun q => by have := (hF g q).1; have := (World.ownsRow.lt h.H g hg).2; omega))
    (fun g hg q => q.elim (h.e2 g hg).1 (fun q => by have := (hF g q).1; have := (World.ownsRow.lt h.M g hg).2; omega))
    (fun j q => q.elim (fun q => Nat.lt_of_lt_of_le (h.lt j q) k.size) (fun q => (hF j q).2))
theorem LedO.less {w : World} {E E' : Nat → Prop} {b : Nat} {v0 v1 v2 : Value} {L : Led} (h : LedO w E b v0 v1 v2 L) (hE : ∀ k, E' k → E k) : LedO w E' b v0 v1 v2 L :=
  h.wide (fun q => h.e (hE _ q)) (fun g hg q => (h.e0 g hg).1 (hE _ q)) (fun g hg q => (h.e1 g hg).1 (hE _ q)) (fun g hg q => (h.e2 g hg).1 (hE _ q)) (fun k q => h.lt k (hE k q))
theorem ownsRow_form (w : World) {e size : TypeId} {v : Value} {n : Nat} {xs : List Value} (h : w.ownsRow 0 e size v n xs) : ∃ a c, v = .slice a n c := own_form h
theorem stv_flat_len' (l : List Stk) : (l.flatMap stv).length = l.length * 4 := by
  induction l with
  | nil => rfl
  | cons x r ih => rw [List.flatMap_cons, List.length_append, ih, List.length_cons]; simp [stv]; omega
theorem stv_get (l : List Stk) (i j : Nat) (x : Stk) (hx : l[i]? = some x) (u : Value) (hu : (stv x)[j]? = some u) (hj : j < 4) : (l.flatMap stv)[i * 4 + j]? = some u := by
  induction l generalizing i with
  | nil => cases hx
  | cons y r ih =>
    cases i with
    | zero =>
      cases hx
      rw [List.flatMap_cons, List.getElem?_append_left (by simp [stv]; omega), Nat.zero_mul, Nat.zero_add]
      exact hu
    | succ i =>
      rw [List.flatMap_cons, List.getElem?_append_right (by simp [stv]; omega)]
      have := ih i hx
      rwa [show (i + 1) * 4 + j - (stv y).length = i * 4 + j by simp [stv]; omega]
theorem stv_set (l : List Stk) (i j : Nat) (hi : i < l.length) (hj : j < 4) (y : Stk) (u : Value) (hy : stv y = (stv l[i]).set j u) : (l.flatMap stv).set (i * 4 + j) u = (l.set i y).flatMap stv := by
  induction l generalizing i with
  | nil => cases hi
  | cons z r ih =>
    cases i with
    | zero =>
      rw [List.set_cons_zero, List.flatMap_cons, List.flatMap_cons, Nat.zero_mul, Nat.zero_add, List.set_append, if_pos (by simp [stv]; omega), hy]
      rfl
    | succ i =>
      rw [List.set_cons_succ, List.flatMap_cons, List.flatMap_cons, List.set_append, if_neg (by simp [stv]; omega)]
      rw [show (i + 1) * 4 + j - (stv z).length = i * 4 + j by simp [stv]; omega, ih i (by simpa using hi) hy]
theorem own_rowS {w : World} {v : Value} {l : List Stk} (h : w.ownsRow 0 50 4 v l.length (l.flatMap stv)) : ∃ a c, v = .slice a l.length c ∧ Rw stv 4 w a l := by
  rcases h.2 with ⟨rfl, h0⟩ | ⟨g, cap, cur, rfl, _, hg, hcap, hmax, hsz, htk⟩
  · exact ⟨none, 0, by rw [h0], fun hl => absurd (List.eq_nil_of_length_eq_zero h0) hl⟩
  · refine ⟨_, cap, rfl, fun hl => ⟨g, 0, rfl, fun i x hx j u hu => ?_⟩⟩
    have hj : j < 4 := by
      have := (List.getElem?_eq_some_iff.1 hu).1
      simpa [stv] using this
    have hi : i < l.length := (List.getElem?_eq_some_iff.1 hx).1
    rw [Nat.zero_add, World.ownsRow.cellAt h (i * 4 + j) (by
      have : i * 4 + 4 ≤ l.length * 4 := by rw [← Nat.succ_mul]; exact Nat.mul_le_mul_right _ hi
      omega)]
    exact stv_get l i j x hx u hu hj
theorem hlv_flat_len' (l : List Hld) : (l.flatMap hlv).length = l.length * 6 := by
  induction l with
  | nil => rfl
  | cons x r ih => rw [List.flatMap_cons, List.length_append, ih, List.length_cons]; simp [hlv]; omega
theorem hlv_get (l : List Hld) (i j : Nat) (x : Hld) (hx : l[i]? = some x) (u : Value) (hu : (hlv x)[j]? = some u) (hj : j < 6) : (l.flatMap hlv)[i * 6 + j]? = some u := by
  induction l generalizing i with
  | nil => cases hx
  | cons y r ih =>
    cases i with
    | zero =>
      cases hx
      rw [List.flatMap_cons, List.getElem?_append_left (by simp [hlv]; omega), Nat.zero_mul, Nat.zero_add]
      exact hu
    | succ i =>
      rw [List.flatMap_cons, List.getElem?_append_right (by simp [hlv]; omega)]
      have := ih i hx
      rwa [show (i + 1) * 6 + j - (hlv y).length = i * 6 + j by simp [hlv]; omega]
theorem hlv_set (l : List Hld) (i j : Nat) (hi : i < l.length) (hj : j < 6) (y : Hld) (u : Value) (hy : hlv y = (hlv l[i]).set j u) : (l.flatMap hlv).set (i * 6 + j) u = (l.set i y).flatMap hlv := by
  induction l generalizing i with
  | nil => cases hi
  | cons z r ih =>
    cases i with
    | zero =>
      rw [List.set_cons_zero, List.flatMap_cons, List.flatMap_cons, Nat.zero_mul, Nat.zero_add, List.set_append, if_pos (by simp [hlv]; omega), hy]
      rfl
    | succ i =>
      rw [List.set_cons_succ, List.flatMap_cons, List.flatMap_cons, List.set_append, if_neg (by simp [hlv]; omega)]
      rw [show (i + 1) * 6 + j - (hlv z).length = i * 6 + j by simp [hlv]; omega, ih i (by simpa using hi) hy]
theorem own_rowH {w : World} {v : Value} {l : List Hld} (h : w.ownsRow 0 44 6 v l.length (l.flatMap hlv)) : ∃ a c, v = .slice a l.length c ∧ Rw hlv 6 w a l := by
  rcases h.2 with ⟨rfl, h0⟩ | ⟨g, cap, cur, rfl, _, hg, hcap, hmax, hsz, htk⟩
  · exact ⟨none, 0, by rw [h0], fun hl => absurd (List.eq_nil_of_length_eq_zero h0) hl⟩
  · refine ⟨_, cap, rfl, fun hl => ⟨g, 0, rfl, fun i x hx j u hu => ?_⟩⟩
    have hj : j < 6 := by
      have := (List.getElem?_eq_some_iff.1 hu).1
      simpa [hlv] using this
    have hi : i < l.length := (List.getElem?_eq_some_iff.1 hx).1
    rw [Nat.zero_add, World.ownsRow.cellAt h (i * 6 + j) (by
      have : i * 6 + 6 ≤ l.length * 6 := by rw [← Nat.succ_mul]; exact Nat.mul_le_mul_right _ hi
      omega)]
    exact hlv_get l i j x hx u hu hj
theorem mvv_flat_len' (l : List Mov) : (l.flatMap mvv).length = l.length * 6 := by
  induction l with
  | nil => rfl
  | cons x r ih => rw [List.flatMap_cons, List.length_append, ih, List.length_cons]; simp [mvv]; omega
theorem mvv_get (l : List Mov) (i j : Nat) (x : Mov) (hx : l[i]? = some x) (u : Value) (hu : (mvv x)[j]? = some u) (hj : j < 6) : (l.flatMap mvv)[i * 6 + j]? = some u := by
  induction l generalizing i with
  | nil => cases hx
  | cons y r ih =>
    cases i with
    | zero =>
      cases hx
      rw [List.flatMap_cons, List.getElem?_append_left (by simp [mvv]; omega), Nat.zero_mul, Nat.zero_add]
      exact hu
    | succ i =>
      rw [List.flatMap_cons, List.getElem?_append_right (by simp [mvv]; omega)]
      have := ih i hx
      rwa [show (i + 1) * 6 + j - (mvv y).length = i * 6 + j by simp [mvv]; omega]
theorem mvv_set (l : List Mov) (i j : Nat) (hi : i < l.length) (hj : j < 6) (y : Mov) (u : Value) (hy : mvv y = (mvv l[i]).set j u) : (l.flatMap mvv).set (i * 6 + j) u = (l.set i y).flatMap mvv := by
  induction l generalizing i with
  | nil => cases hi
  | cons z r ih =>
    cases i with
    | zero =>
      rw [List.set_cons_zero, List.flatMap_cons, List.flatMap_cons, Nat.zero_mul, Nat.zero_add, List.set_append, if_pos (by simp [mvv]; omega), hy]
      rfl
    | succ i =>
      rw [List.set_cons_succ, List.flatMap_cons, List.flatMap_cons, List.set_append, if_neg (by simp [mvv]; omega)]
      rw [show (i + 1) * 6 + j - (mvv z).length = i * 6 + j by simp [mvv]; omega, ih i (by simpa using hi) hy]
theorem own_rowM {w : World} {v : Value} {l : List Mov} (h : w.ownsRow 0 42 6 v l.length (l.flatMap mvv)) : ∃ a c, v = .slice a l.length c ∧ Rw mvv 6 w a l := by
  rcases h.2 with ⟨rfl, h0⟩ | ⟨g, cap, cur, rfl, _, hg, hcap, hmax, hsz, htk⟩
  · exact ⟨none, 0, by rw [h0], fun hl => absurd (List.eq_nil_of_length_eq_zero h0) hl⟩
  · refine ⟨_, cap, rfl, fun hl => ⟨g, 0, rfl, fun i x hx j u hu => ?_⟩⟩
    have hj : j < 6 := by
      have := (List.getElem?_eq_some_iff.1 hu).1
      simpa [mvv] using this
    have hi : i < l.length := (List.getElem?_eq_some_iff.1 hx).1
    rw [Nat.zero_add, World.ownsRow.cellAt h (i * 6 + j) (by
      have : i * 6 + 6 ≤ l.length * 6 := by rw [← Nat.succ_mul]; exact Nat.mul_le_mul_right _ hi
      omega)]
    exact mvv_get l i j x hx u hu hj
theorem LedO.newS {w w1 : World} {E : Nat → Prop} {b : Nat} {v0 v1 v2 : Value} {L : Led} (h : LedO w E b v0 v1 v2 L) (l' : List Stk) (g m cap : Nat) (hm : l'.length = m) (hr : w1.ownsRow 0 50 4 (.slice (some ⟨g, 0, none⟩) m cap) m (l'.flatMap stv)) (hg : w.grownBy w1 v0.ownBlock) (hat : v0.ownBlock = some g ∨ w.heap.size ≤ g) :
    LedO (w1.setCell ⟨b, 0, none⟩ (.slice (some ⟨g, 0, none⟩) m cap)) E b (.slice (some ⟨g, 0, none⟩) m cap) v1 v2 { L with S := l' } ∧ Stay E w (w1.setCell ⟨b, 0, none⟩ (.slice (some ⟨g, 0, none⟩) m cap)) ∧ (w1.cell? ⟨b, 0, none⟩).isSome = true ∧ w1.frozen? ⟨b, 0, none⟩ = false := by
  have hgb : g ≠ b := by
    rcases hat with q | q
    · exact (h.e0 g q).2
    · have := h.c.lt; omega
  have hgE : ¬ E g := by
    rcases hat with q | q
    · exact (h.e0 g q).1
    · intro q'; have := h.lt g q'; omega
  have hbb : w1.heap[b]? = w.heap[b]? := hg.block b h.c.lt (fun e => (h.e0 b e.symm).2 rfl)
  have hc1 : CellsF w1 b [v0, v1, v2, .int .i64 L.ops] := h.c.far hbb
  subst hm
  refine ⟨⟨hc1.set 0 _ (by simp), (ownsRow_kept hr (fun q hq => Below.heap_setCell _ _ _ _ (by cases hq; exact hgb))), (ownsRow_kept h.H (fun q hq => (Below.heap_setCell _ _ _ _ (h.e1 q hq).2).trans (hg.block q (World.ownsRow.lt h.H q hq).2 (fun e => h.d01 q (by simpa using e.symm) hq)))), (ownsRow_kept h.M (fun q hq => (Below.heap_setCell _ _ _ _ (h.e2 q hq).2).trans (hg.block q (World.ownsRow.lt h.M q hq).2 (fun e => h.d02 q (by simpa using e.symm) hq)))), h.e, (fun q hq => by cases hq; exact ⟨hgE, hgb⟩), h.e1, h.e2, (fun g' hg' hu' => by
      cases hg'
      rcases hat with q | q
      · exact h.d01 g q hu'
      · have h9 : g < w.heap.size := (World.ownsRow.lt h.H _ hu').2
        omega), (fun g' hg' hu' => by
      cases hg'
      rcases hat with q | q
      · exact h.d02 g q hu'
      · have h9 : g < w.heap.size := (World.ownsRow.lt h.M _ hu').2
        omega), h.d12, fun q hq => ?_⟩, ?_, ?_, hc1.fz 0⟩
  · have := h.lt q hq
    have := hg.size
    simp
    omega
  · exact ((Stay.refl E w).grown hg h.lt (fun q hq => (h.e0 q hq).1)).setCell (p := ⟨b, 0, none⟩) h.e _
  · rw [hc1.cs 0 _ rfl]; rfl
theorem LedO.newH {w w1 : World} {E : Nat → Prop} {b : Nat} {v0 v1 v2 : Value} {L : Led} (h : LedO w E b v0 v1 v2 L) (l' : List Hld) (g m cap : Nat) (hm : l'.length = m) (hr : w1.ownsRow 0 44 6 (.slice (some ⟨g, 0, none⟩) m cap) m (l'.flatMap hlv)) (hg : w.grownBy w1 v1.ownBlock) (hat : v1.ownBlock = some g ∨ w.heap.size ≤ g) :
    LedO (w1.setCell ⟨b, 1, none⟩ (.slice (some ⟨g, 0, none⟩) m cap)) E b v0 (.slice (some ⟨g, 0, none⟩) m cap) v2 { L with H := l' } ∧ Stay E w (w1.setCell ⟨b, 1, none⟩ (.slice (some ⟨g, 0, none⟩) m cap)) ∧ (w1.cell? ⟨b, 1, none⟩).isSome = true ∧ w1.frozen? ⟨b, 1, none⟩ = false := by
  have hgb : g ≠ b := by
    rcases hat with q | q
    · exact (h.e1 g q).2
    · have := h.c.lt; omega
  have hgE : ¬ E g := by
    rcases hat with q | q
    · exact (h.e1 g q).1
    · intro q'; have := h.lt g q'; omega
  have hbb : w1.heap[b]? = w.heap[b]? := hg.block b h.c.lt (fun e => (h.e1 b e.symm).2 rfl)
  have hc1 : CellsF w1 b [v0, v1, v2, .int .i64 L.ops] := h.c.far hbb
  subst hm
  refine ⟨⟨hc1.set 1 _ (by simp), (ownsRow_kept h.S (fun q hq => (Below.heap_setCell _ _ _ _ (h.e0 q hq).2).trans (hg.block q (World.ownsRow.lt h.S q hq).2 (fun e => h.d01 q hq (by simpa using e.symm))))), (ownsRow_kept hr (fun q hq => Below.heap_setCell _ _ _ _ (by cases hq; exact hgb))), (ownsRow_kept h.M (fun q hq => (Below.heap_setCell _ _ _ _ (h.e2 q hq).2).trans (hg.block q (World.ownsRow.lt h.M q hq).2 (fun e => h.d12 q (by simpa using e.symm) hq)))), h.e, h.e0, (fun q hq => by cases hq; exact ⟨hgE, hgb⟩), h.e2, (fun g' hg' hu' => by
      cases hu'
      rcases hat with q | q
      · exact h.d01 g hg' q
      · have h9 : g < w.heap.size := (World.ownsRow.lt h.S _ hg').2
        omega), h.d02, (fun g' hg' hu' => by
      cases hg'
      rcases hat with q | q
      · exact h.d12 g q hu'
      · have h9 : g < w.heap.size := (World.ownsRow.lt h.M _ hu').2
        omega), fun q hq => ?_⟩, ?_, ?_, hc1.fz 1⟩
  · have := h.lt q hq
    have := hg.size
    simp
    omega
  · exact ((Stay.refl E w).grown hg h.lt (fun q hq => (h.e1 q hq).1)).setCell (p := ⟨b, 1, none⟩) h.e _
  · rw [hc1.cs 1 _ rfl]; rfl
theorem LedO.newM {w w1 : World} {E : Nat → Prop} {b : Nat} {v0 v1 v2 : Value} {L : Led} (h : LedO w E b v0 v1 v2 L) (l' : List Mov) (g m cap : Nat) (hm : l'.length = m) (hr : w1.ownsRow 0 42 6 (.slice (some ⟨g, 0, none⟩) m cap) m (l'.flatMap mvv)) (hg : w.grownBy w1 v2.ownBlock) (hat : v2.ownBlock = some g ∨ w.heap.size ≤ g) :
    LedO (w1.setCell ⟨b, 2, none⟩ (.slice (some ⟨g, 0, none⟩) m cap)) E b v0 v1 (.slice (some ⟨g, 0, none⟩) m cap) { L with M := l' } ∧ Stay E w (w1.setCell ⟨b, 2, none⟩ (.slice (some ⟨g, 0, none⟩) m cap)) ∧ (w1.cell? ⟨b, 2, none⟩).isSome = true ∧ w1.frozen? ⟨b, 2, none⟩ = false := by
  have hgb : g ≠ b := by
    rcases hat with q | q
    · exact (h.e2 g q).2
    · have := h.c.lt; omega
  have hgE : ¬ E g := by
    rcases hat with q | q
    · exact (h.e2 g q).1
    · intro q'; have := h.lt g q'; omega
  have hbb : w1.heap[b]? = w.heap[b]? := hg.block b h.c.lt (fun e => (h.e2 b e.symm).2 rfl)
  have hc1 : CellsF w1 b [v0, v1, v2, .int .i64 L.ops] := h.c.far hbb
  subst hm
  refine ⟨⟨hc1.set 2 _ (by simp), (ownsRow_kept h.S (fun q hq => (Below.heap_setCell _ _ _ _ (h.e0 q hq).2).trans (hg.block q (World.ownsRow.lt h.S q hq).2 (fun e => h.d02 q hq (by simpa using e.symm))))), (ownsRow_kept h.H (fun q hq => (Below.heap_setCell _ _ _ _ (h.e1 q hq).2).trans (hg.block q (World.ownsRow.lt h.H q hq).2 (fun e => h.d12 q hq (by simpa using e.symm))))), (ownsRow_kept hr (fun q hq => Below.heap_setCell _ _ _ _ (by cases hq; exact hgb))), h.e, h.e0, h.e1, (fun q hq => by cases hq; exact ⟨hgE, hgb⟩), h.d01, (fun g' hg' hu' => by
      cases hu'
      rcases hat with q | q
      · exact h.d02 g hg' q
      · have h9 : g < w.heap.size := (World.ownsRow.lt h.S _ hg').2
        omega), (fun g' hg' hu' => by
      cases hu'
      rcases hat with q | q
      · exact h.d12 g hg' q
      · have h9 : g < w.heap.size := (World.ownsRow.lt h.H _ hg').2
        omega), fun q hq => ?_⟩, ?_, ?_, hc1.fz 2⟩
  · have := h.lt q hq
    have := hg.size
    simp
    omega
  · exact ((Stay.refl E w).grown hg h.lt (fun q hq => (h.e2 q hq).1)).setCell (p := ⟨b, 2, none⟩) h.e _
  · rw [hc1.cs 2 _ rfl]; rfl
theorem LedO.setS {w : World} {E : Nat → Prop} {b : Nat} {v1 v2 : Value} {L : Led} {g m cap : Nat} (h : LedO w E b (.slice (some ⟨g, 0, none⟩) m cap) v1 v2 L) (i j : Nat) (hi : i < L.S.length) (hj : j < 4) (y : Stk) (u : Value) (hy : stv y = (stv L.S[i]).set j u) :
    LedO (w.setCell ⟨g, i * 4 + j, none⟩ u) E b (.slice (some ⟨g, 0, none⟩) m cap) v1 v2 { L with S := L.S.set i y } ∧ Stay E w (w.setCell ⟨g, i * 4 + j, none⟩ u) := by
  have hm : m = L.S.length := by
    rcases h.S.2 with ⟨e, _⟩ | ⟨g', cap', cur, e, _⟩
    · cases e
    · cases e; rfl
  subst hm
  have hgb := h.e0 g rfl
  have hr := World.ownsRow.stored h.S (i * 4 + j) u
  rw [stv_set L.S i j hi hj y u hy] at hr
  refine ⟨⟨h.c.far (Below.heap_setCell _ _ _ _ (fun e => hgb.2 e.symm)), ?_, (ownsRow_kept h.H (fun q hq => Below.heap_setCell _ _ _ _ (fun e => h.d01 g rfl ((show q = g from e) ▸ hq)))), (ownsRow_kept h.M (fun q hq => Below.heap_setCell _ _ _ _ (fun e => h.d02 g rfl ((show q = g from e) ▸ hq)))), h.e, h.e0, h.e1, h.e2, h.d01, h.d02, h.d12, fun q hq => by have := h.lt q hq; simpa using this⟩, (Stay.refl E w).setCell (p := ⟨g, i * 4 + j, none⟩) hgb.1 _⟩
  show World.ownsRow _ 0 50 4 _ (L.S.set i y).length _
  rw [List.length_set]
  exact hr.1
theorem LedO.setH {w : World} {E : Nat → Prop} {b : Nat} {v0 v2 : Value} {L : Led} {g m cap : Nat} (h : LedO w E b v0 (.slice (some ⟨g, 0, none⟩) m cap) v2 L) (i j : Nat) (hi : i < L.H.length) (hj : j < 6) (y : Hld) (u : Value) (hy : hlv y = (hlv L.H[i]).set j u) :
    LedO (w.setCell ⟨g, i * 6 + j, none⟩ u) E b v0 (.slice (some ⟨g, 0, none⟩) m cap) v2 { L with H := L.H.set i y } ∧ Stay E w (w.setCell ⟨g, i * 6 + j, none⟩ u) := by
  have hm : m = L.H.length := by
    rcases h.H.2 with ⟨e, _⟩ | ⟨g', cap', cur, e, _⟩
    · cases e
    · cases e; rfl
  subst hm
  have hgb := h.e1 g rfl
  have hr := World.ownsRow.stored h.H (i * 6 + j) u
  rw [hlv_set L.H i j hi hj y u hy] at hr
  refine ⟨⟨h.c.far (Below.heap_setCell _ _ _ _ (fun e => hgb.2 e.symm)), (ownsRow_kept h.S (fun q hq => Below.heap_setCell _ _ _ _ (fun e => h.d01 q hq (by have e' : q = g := e; rw [e']; rfl)))), ?_, (ownsRow_kept h.M (fun q hq => Below.heap_setCell _ _ _ _ (fun e => h.d12 g rfl ((show q = g from e) ▸ hq)))), h.e, h.e0, h.e1, h.e2, h.d01, h.d02, h.d12, fun q hq => by have := h.lt q hq; simpa using this⟩, (Stay.refl E w).setCell (p := ⟨g, i * 6 + j, none⟩) hgb.1 _⟩
  show World.ownsRow _ 0 44 6 _ (L.H.set i y).length _
  rw [List.length_set]
  exact hr.1
theorem LedO.setM {w : World} {E : Nat → Prop} {b : Nat} {v0 v1 : Value} {L : Led} {g m cap : Nat} (h : LedO w E b v0 v1 (.slice (some ⟨g, 0, none⟩) m cap) L) (i j : Nat) (hi : i < L.M.length) (hj : j < 6) (y : Mov) (u : Value) (hy : mvv y = (mvv L.M[i]).set j u) :
    LedO (w.setCell ⟨g, i * 6 + j, none⟩ u) E b v0 v1 (.slice (some ⟨g, 0, none⟩) m cap) { L with M := L.M.set i y } ∧ Stay E w (w.setCell ⟨g, i * 6 + j, none⟩ u) := by
  have hm : m = L.M.length := by
    rcases h.M.2 with ⟨e, _⟩ | ⟨g', cap', cur, e, _⟩
    · cases e
    · cases e; rfl
  subst hm
  have hgb := h.e2 g rfl
  have hr := World.ownsRow.stored h.M (i * 6 + j) u
  rw [mvv_set L.M i j hi hj y u hy] at hr
  refine ⟨⟨h.c.far (Below.heap_setCell _ _ _ _ (fun e => hgb.2 e.symm)), (ownsRow_kept h.S (fun q hq => Below.heap_setCell _ _ _ _ (fun e => h.d02 q hq (by have e' : q = g := e; rw [e']; rfl)))), (ownsRow_kept h.H (fun q hq => Below.heap_setCell _ _ _ _ (fun e => h.d12 q hq (by have e' : q = g := e; rw [e']; rfl)))), ?_, h.e, h.e0, h.e1, h.e2, h.d01, h.d02, h.d12, fun q hq => by have := h.lt q hq; simpa using this⟩, (Stay.refl E w).setCell (p := ⟨g, i * 6 + j, none⟩) hgb.1 _⟩
  show World.ownsRow _ 0 42 6 _ (L.M.set i y).length _
  rw [List.length_set]
  exact hr.1
theorem LedO.setOps {w : World} {E : Nat → Prop} {b : Nat} {v0 v1 v2 : Value} {L : Led} (h : LedO w E b v0 v1 v2 L) (n : Int) : LedO (w.setCell ⟨b, 3, none⟩ (.int .i64 n)) E b v0 v1 v2 { L with ops := n } ∧ Stay E w (w.setCell ⟨b, 3, none⟩ (.int .i64 n)) :=
  ⟨⟨h.c.set 3 _ (by simp), ownsRow_kept h.S (fun q hq => Below.heap_setCell _ _ _ _ (h.e0 q hq).2), ownsRow_kept h.H (fun q hq => Below.heap_setCell _ _ _ _ (h.e1 q hq).2), ownsRow_kept h.M (fun q hq => Below.heap_setCell _ _ _ _ (h.e2 q hq).2), h.e, h.e0, h.e1, h.e2, h.d01, h.d02, h.d12, fun q hq => by have := h.lt q hq; simpa using this⟩, (Stay.refl E w).setCell (p := ⟨b, 3, none⟩) h.e _⟩
theorem LedO.forms {w : World} {E : Nat → Prop} {b : Nat} {v0 v1 v2 : Value} {L : Led} (h : LedO w E b v0 v1 v2 L) : ∃ a0 c0 a1 c1 a2 c2, v0 = .slice a0 L.S.length c0 ∧ v1 = .slice a1 L.H.length c1 ∧ v2 = .slice a2 L.M.length c2 ∧ Lies w a0 a1 a2 L := by
  obtain ⟨a0, c0, e0, r0⟩ := own_rowS h.S
  obtain ⟨a1, c1, e1, r1⟩ := own_rowH h.H
  obtain ⟨a2, c2, e2, r2⟩ := own_rowM h.M
  exact ⟨a0, c0, a1, c1, a2, c2, e0, e1, e2, r0, r1, r2⟩
end Go.Proofs.Ytflbcheofmljeaa
