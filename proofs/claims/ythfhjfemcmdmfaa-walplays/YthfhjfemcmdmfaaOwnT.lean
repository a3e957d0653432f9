/- Bytes of the call's own; cells of a block. -/
import Derived.Test.YthfhjfemcmdmfaaRCrash
import Derived.Test.YthfhjfemcmdmfaaRScan
namespace Go.Proofs.Ythfhjfemcmdmfaa
open Go.ChangeShapes Go.WideShapes Go.RowKit
set_option linter.unusedVariables false
set_option maxRecDepth 100000

/-- A row of bytes of the call's own. -/
def OwnB (w : World) (B : Nat) (v : Value) (l : List UInt8) : Prop := w.ownsRow B 5 1 v l.length (bv l)
theorem append_own {w : World} {v : Value} {l : List UInt8} {B : Nat} (h : OwnB w B v l) (s : ByteArray) (hs : l.length + s.size ≤ 1048576) (hb : B ≤ w.heap.size) :
    ∃ v' w', (Builtin.append_ #[80, 9] 80 #[v, .string s]).run Try.prog w = .ok v' w' ∧ OwnB w' B v' (l ++ s.data.toList) ∧ w.grownBy w' v.ownBlock := by
  obtain ⟨i, hi, hz, h1, h2⟩ := info_of Try.info5
  obtain ⟨v', w', a1, a2, a3, _⟩ := Lib.run_append_own_string (P := Try.prog) w B 80 9 80 5 i Try.underlying80 Try.underlying9 hi hz h1 h2 v l.length (bv l) h s (by unfold maxLen; omega) (by omega) hb
  refine ⟨v', w', a1, ?_, a3⟩
  unfold OwnB
  rw [List.length_append, bv_append]
  have : bv s.data.toList = Lib.strCells s := rfl
  rw [this]
  have e : s.data.toList.length = s.size := by simp
  rw [e]
  exact a2
theorem ownB_str {w : World} {B : Nat} {v : Value} {l : List UInt8} (h : OwnB w B v l) (h0 : l ≠ []) : ∃ g m c, v = .slice (some ⟨g, 0, none⟩) m c ∧ (convert 80 9 (.slice (some ⟨g, 0, none⟩) m c)).run Try.prog w = .ok (.string ⟨l.toArray⟩) w := by
  obtain ⟨g, c, rfl⟩ : ∃ g c, v = .slice (some ⟨g, 0, none⟩) l.length c := by
    rcases h.2 with ⟨_, e⟩ | ⟨g, cap, cur, rfl, _⟩
    · exact absurd (List.eq_nil_of_length_eq_zero e) h0
    · exact ⟨g, cap, rfl⟩
  refine ⟨g, _, c, rfl, run_convert_bytes_back w 80 9 5 ⟨g, 0, none⟩ c l Try.underlying80 Try.underlying5 Try.underlying9 (fun j hj => ?_)⟩
  rw [Go.WideShapes.add_plain, Nat.zero_add, World.ownsRow.cellAt h j (by omega)]
  simp [bv, hj]
theorem own_kept {w w' : World} {B e size : Nat} {v : Value} {n : Nat} {xs : List Value} (h : w.ownsRow B e size v n xs) (k : Kept (fun _ => False) w w') : w'.ownsRow B e size v n xs := by
  refine ⟨h.1, ?_⟩
  rcases h.2 with q | ⟨g, cap, cur, e, hg, hh, q⟩
  · exact .inl q
  · have hlt : g < w.heap.size := by
      rcases Nat.lt_or_ge g w.heap.size with q | q
      · exact q
      · rw [Array.getElem?_eq_none (by omega)] at hh; cases hh
    exact .inr ⟨g, cap, cur, e, hg, (k.block g hlt (fun z => z)).trans hh, q⟩
theorem OwnB.kept {w w' : World} {B : Nat} {v : Value} {l : List UInt8} (h : OwnB w B v l) (k : Kept (fun _ => False) w w') : OwnB w' B v l := own_kept h k
/-- Cells of a block, and that they may be written. -/
structure CellsF (w : World) (b : Nat) (l : List Value) : Prop where
  cs : ∀ i v, l[i]? = some v → w.cell? ⟨b, i, none⟩ = some v
  fz : ∀ j, w.frozen? ⟨b, j, none⟩ = false
  ne : l ≠ []
theorem CellsF.lt {w : World} {b : Nat} {l : List Value} (h : CellsF w b l) : b < w.heap.size := by
  cases l with
  | nil => exact absurd rfl h.ne
  | cons x r => exact World.block_lt_of_cell? w _ (h.cs 0 x rfl)
theorem CellsF.far {w w' : World} {b : Nat} {l : List Value} (h : CellsF w b l) (hb : w'.heap[b]? = w.heap[b]?) : CellsF w' b l :=
  ⟨fun i v q => (World.cell?_of_block (a := ⟨b, i, none⟩) hb).trans (h.cs i v q), fun j => (World.frozen?_of_block (a := ⟨b, j, none⟩) hb).trans (h.fz j), h.ne⟩
theorem CellsF.kept {w w' : World} {b : Nat} {l : List Value} {F : Nat → Prop} (h : CellsF w b l) (k : Kept F w w') (hn : ¬ F b) : CellsF w' b l := h.far (k.block b h.lt hn)
theorem CellsF.step {w w' : World} {b : Nat} {l : List Value} (h : CellsF w b l) (k : Kept (fun _ => False) w w') : CellsF w' b l := h.kept k (fun z => z)
theorem CellsF.new (w : World) (l : List Value) (t : TypeId) (hl : l ≠ []) : CellsF (w.alloc (.cells l.toArray t)) w.heap.size l :=
  ⟨fun i v q => by simp [q], fun j => by simp, hl⟩
theorem CellsF.set {w : World} {b : Nat} {l : List Value} (h : CellsF w b l) (i : Nat) (v : Value) (hi : i < l.length) : CellsF (w.setCell ⟨b, i, none⟩ v) b (l.set i v) := by
  refine ⟨fun j u q => ?_, fun j => (World.frozen?_setCells b [v] i w _).trans (h.fz j), fun e => ?_⟩
  · by_cases hij : j = i
    · subst hij
      rw [List.getElem?_set_self hi] at q
      cases q
      obtain ⟨x, hx⟩ : ∃ x, l[j]? = some x := ⟨l[j], List.getElem?_eq_getElem hi⟩
      exact World.cell?_setCell_same' _ _ _ (by rw [h.cs j x hx]; rfl)
    · rw [List.getElem?_set_ne (Ne.symm hij)] at q
      exact (World.cell?_setCell_other _ _ _ _ (fun e => hij (by cases e; rfl))).trans (h.cs j u q)
  · have := congrArg List.length e
    rw [List.length_set] at this
    exact h.ne (List.eq_nil_of_length_eq_zero this)
theorem CellsF.five {w : World} {b : Nat} {l : List Value} (h : CellsF w b l) (hl : l.length = 5) (v0 v1 v2 v3 v4 : Value) :
    CellsF (((((w.setCell ⟨b, 0, none⟩ v0).setCell ⟨b, 1, none⟩ v1).setCell ⟨b, 2, none⟩ v2).setCell ⟨b, 3, none⟩ v3).setCell ⟨b, 4, none⟩ v4) b [v0, v1, v2, v3, v4] := by
  match l, hl with
  | [u0, u1, u2, u3, u4], _ => exact ((((h.set 0 v0 (by simp)).set 1 v1 (by simp)).set 2 v2 (by simp)).set 3 v3 (by simp)).set 4 v4 (by simp)
theorem loadLog {w : World} {b : Nat} (l : List Value) (h : CellsF w b l) (hn : l.length = 5) : (loadVar 44 ⟨b, 0, none⟩).run Try.prog w = .ok (.agg l.toArray) w := by
  have hl := run_loadCells_list (P := Try.prog) w ⟨b, 0, none⟩ l (fun j x hx => by rw [Go.WideShapes.add_plain, Nat.zero_add]; exact h.cs j x hx)
  rw [hn] at hl
  have hl' : (loadCellsFrom ⟨b, 0, none⟩ 0 5 #[]).run Try.prog w = .ok l.toArray w := hl
  simp [loadVar, Sem.run_bind, loadCells, hl']
end Go.Proofs.Ythfhjfemcmdmfaa
