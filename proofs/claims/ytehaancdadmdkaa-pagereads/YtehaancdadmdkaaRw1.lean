/- The end of the document's Read. -/
import Derived.Test.YtehaancdadmdkaaRw0
namespace Go.Proofs.Ytehaancdadmdkaa
open Go.ChangeShapes Go.WideShapes Go.ChangeAt Go.RowKit
set_option linter.unusedVariables false
set_option maxRecDepth 100000

theorem dec_get (B : List UInt8) : ∀ (k j : Nat) (hj : j < k) (h : j < (dec B k).length), (dec B k)[j] = (keyB B j, valB B j)
  | 0, j, hj, h => absurd hj (Nat.not_lt_zero _)
  | k + 1, j, hj, h => by
    have hl := dec_len B k
    have e : dec B (k + 1) = dec B k ++ [(keyB B k, valB B k)] := rfl
    rcases Nat.lt_or_eq_of_le (Nat.lt_succ_iff.1 hj) with z | z
    · have := dec_get B k j z (by omega)
      simp only [e]
      rw [List.getElem_append_left (by omega)]
      exact this
    · subst z
      simp only [e]
      rw [List.getElem_append_right (by omega)]
      simp [hl]
theorem cell_kept {w w' : World} {p : Addr} {u : Value} (h : w.cell? p = some u) (k : Kept (fun _ => False) w w') : w'.cell? p = some u := by
  have hb : p.block < w.heap.size := by
    unfold World.cell? at h
    cases hh : w.heap[p.block]? with
    | none => simp [hh] at h
    | some b => exact (Array.getElem?_eq_some_iff.1 hh).1
  have := k.block p.block hb (fun z => z)
  unfold World.cell? at h ⊢
  rw [this]; exact h
theorem Rst.sl {w : World} {B2 B4 : Nat} {kn : Int} {B : List UInt8} {k : Nat} {a2 : Option Addr} {c2 : Nat} {V : World} (h : Rst w B2 B4 kn B k a2 c2 V) : Sl cv 2 V (.slice a2 k c2) (dec B k) := by
  have how2 : V.ownsRow 0 74 2 (.slice a2 k c2) (dec B k).length ((dec B k).flatMap cv) := by rw [dec_len]; exact h.ow
  obtain ⟨a9, c9, e9, hrw, hl9, hn9⟩ := own_rw cv_len how2
  exact ⟨a9, c9, e9, hrw, hl9, hn9⟩
theorem Rst.fin {w : World} {B2 B4 : Nat} {kn : Int} {B : List UInt8} {k : Nat} {a2 : Option Addr} {c2 : Nat} {V : World} (h : Rst w B2 B4 kn B k a2 c2 V) : ((loadVar 29 ⟨B2, 0, none⟩).run Try.prog ((V.setCell ⟨B2, 0, none⟩ (.int .i64 kn)).setCell ⟨B2, 1, none⟩ (.slice a2 k c2)) = .ok (rpg kn (.slice a2 k c2)) ((V.setCell ⟨B2, 0, none⟩ (.int .i64 kn)).setCell ⟨B2, 1, none⟩ (.slice a2 k c2))) ∧ Kept (fun _ => False) w ((V.setCell ⟨B2, 0, none⟩ (.int .i64 kn)).setCell ⟨B2, 1, none⟩ (.slice a2 k c2)) ∧ Sl cv 2 ((V.setCell ⟨B2, 0, none⟩ (.int .i64 kn)).setCell ⟨B2, 1, none⟩ (.slice a2 k c2)) (.slice a2 k c2) (dec B k) := by
  have b := h.b2.two (.int .i64 kn) (.slice a2 k c2)
  refine ⟨load29 (b.cell rfl) (b.cell rfl), h.kp.put2 h.h2 _ _, ?_⟩
  have how : ((V.setCell ⟨B2, 0, none⟩ (.int .i64 kn)).setCell ⟨B2, 1, none⟩ (.slice a2 k c2)).ownsRow 0 74 2 (.slice a2 k c2) (dec B k).length ((dec B k).flatMap cv) := by
    rw [dec_len]
    refine ownsRow_kept h.ow (fun g hg => ?_)
    have hne : g ≠ B2 := fun e => h.b2.ne_row h.ow hg (by decide) e.symm
    rw [Below.heap_setCell _ ⟨B2, 1, none⟩ _ g hne, Below.heap_setCell _ ⟨B2, 0, none⟩ _ g hne]
  obtain ⟨a9, c9, e9, hrw, hl9, hn9⟩ := own_rw cv_len how
  exact ⟨a9, c9, e9, hrw, hl9, hn9⟩
end Go.Proofs.Ytehaancdadmdkaa
