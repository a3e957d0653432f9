/- The document's Read: its state. -/
import Derived.Test.YtehaancdadmdkaaGd
import Derived.Test.YtehaancdadmdkaaRb
import Derived.Test.YtehaancdadmdkaaMd
namespace Go.Proofs.Ytehaancdadmdkaa
open Go.ChangeShapes Go.WideShapes Go.ChangeAt Go.RowKit
set_option linter.unusedVariables false
set_option maxRecDepth 100000

theorem good_checks {s : ByteArray} (hg : Good s) (k : Nat) (hk : k < byteAt s.data.toList 1) : 8 + 2 * k + 2 ≤ endB s.data.toList k ∧ byteAt s.data.toList (8 + 2 * k) < endB s.data.toList k ∧ 8 + 2 * byteAt s.data.toList 1 ≤ byteAt s.data.toList (8 + 2 * k) ∧ byteAt s.data.toList (8 + 2 * k) + byteAt s.data.toList (9 + 2 * k) ≤ endB s.data.toList k ∧ (1 ≤ (keyB s.data.toList k).length ∧ (keyB s.data.toList k).length ≤ 80 ∧ (keyB s.data.toList k).length + (valB s.data.toList k).length ≤ 100) ∧ (k = 0 ∨ Op.bytesLess (keyB s.data.toList (k - 1)) (keyB s.data.toList k) = true) := by
  obtain ⟨kd, cs, h1, h2, h3, h4⟩ := hg
  rw [h4] at hk ⊢
  rw [(good_head kd cs h2).2] at hk ⊢
  obtain ⟨g1, g2, g3, g4, g5, g6⟩ := good_at kd cs h2 k hk
  have hc := h2.1 cs[k] (List.getElem_mem hk)
  have ho := h2.2
  have hz : csz cs[k] = cs[k].1.length + cs[k].2.length := rfl
  rw [g1, g2, g3, g4, g5]
  refine ⟨by omega, by omega, by omega, by omega, ⟨hc.1, hc.2.1, by omega⟩, ?_⟩
  cases k with
  | zero => exact .inl rfl
  | succ j =>
    right
    rw [Nat.add_sub_cancel, (good_at kd cs h2 j (by omega)).2.2.2.1]
    exact h3 j (j + 1) (by omega) hk (Nat.lt_succ_self j)
theorem good_end {s : ByteArray} (hg : Good s) : bytesB (lay (UInt8.ofNat (byteAt s.data.toList 0)) (dec s.data.toList (byteAt s.data.toList 1))) = s.data.toList ∧ byteAt s.data.toList 0 ≠ 0 ∧ s.size = 256 := by
  obtain ⟨kd, cs, h1, h2, h3, h4⟩ := hg
  have hl : s.data.toList.length = 256 := by rw [h4]; exact bytes_len kd cs h2
  refine ⟨?_, ?_, by rw [← hl]; simp⟩
  · rw [h4, (good_head kd cs h2).1, (good_head kd cs h2).2, good_dec kd cs h2 cs.length (Nat.le_refl _), List.take_length]
    congr 2
    simp
  · rw [h4, (good_head kd cs h2).1]; exact h1
theorem Blk.ne_row {w : World} {g g' : Nat} {t : TypeId} {C : List Value} {v : Value} {n : Nat} {xs : List Value} (h : Blk w g t C) (h' : w.ownsRow 0 74 2 v n xs) (hg : v.ownBlock = some g') (ht : t ≠ 74) : g ≠ g' := by
  rintro rfl
  rcases h'.2 with ⟨rfl, _⟩ | ⟨g, cap, cur, rfl, _, hh, _⟩
  · cases hg
  · cases hg
    have h2 : w.heap[g]? = some (.cells C.toArray t (0, 0)) := h
    rw [h2] at hh
    simp at hh
    exact ht hh.2
structure Rst (w : World) (B2 B4 : Nat) (kn : Int) (B : List UInt8) (k : Nat) (a2 : Option Addr) (c2 : Nat) (V : World) : Prop where
  b2 : Blk V B2 29 [.int .i64 0, .slice none 0 0]
  b4 : Blk V B4 29 [.int .i64 kn, .slice a2 k c2]
  ow : V.ownsRow 0 74 2 (.slice a2 k c2) k ((dec B k).flatMap cv)
  nw : ∀ g, (Value.slice a2 k c2).ownBlock = some g → w.heap.size ≤ g
  kp : Kept (fun _ => False) w V
  h2 : w.heap.size ≤ B2
  h4 : w.heap.size ≤ B4
  n24 : B2 ≠ B4
theorem Rst.step {w : World} {B2 B4 : Nat} {kn : Int} {B : List UInt8} {k : Nat} {a2 : Option Addr} {c2 : Nat} {V V' : World} (h : Rst w B2 B4 kn B k a2 c2 V) (q : Kept (fun _ => False) V V') : Rst w B2 B4 kn B k a2 c2 V' :=
  ⟨h.b2.step q, h.b4.step q, own_kept h.ow q, h.nw, h.kp.trans q (fun _ z => z.elim), h.h2, h.h4, h.n24⟩
theorem err_fin {w V : World} {B2 : Nat} (hb : Blk V B2 29 [.int .i64 0, .slice none 0 0]) (k : Kept (fun _ => False) w V) (h2 : w.heap.size ≤ B2) : ((loadVar 29 ⟨B2, 0, none⟩).run Try.prog ((V.setCell ⟨B2, 0, none⟩ (.int .i64 0)).setCell ⟨B2, 1, none⟩ (.slice none 0 0)) = .ok (rpg 0 (.slice none 0 0)) ((V.setCell ⟨B2, 0, none⟩ (.int .i64 0)).setCell ⟨B2, 1, none⟩ (.slice none 0 0))) ∧ Kept (fun _ => False) w ((V.setCell ⟨B2, 0, none⟩ (.int .i64 0)).setCell ⟨B2, 1, none⟩ (.slice none 0 0)) := by
  have b := hb.two (.int .i64 0) (.slice none 0 0)
  exact ⟨load29 (b.cell rfl) (b.cell rfl), k.put2 h2 _ _⟩
/-- One more cell. -/
theorem Rst.app {w : World} {B2 B4 : Nat} {kn : Int} {B : List UInt8} {k : Nat} {a2 : Option Addr} {c2 : Nat} {V : World} (h : Rst w B2 B4 kn B k a2 c2 V) (hk : k ≤ 300) (S1 S2 : ByteArray) (e1 : S1.data.toList = keyB B k) (e2 : S2.data.toList = valB B k) : ∃ a3 c3 V3, (Builtin.append_ #[27, 27] 27 #[.slice a2 k c2, .slice (some ⟨V.heap.size, 0, none⟩) 1 1]).run Try.prog (V.alloc (.cells #[.string S1, .string S2] 74)) = .ok (.slice a3 (k + 1) c3) V3 ∧ Blk V3 B4 29 [.int .i64 kn, .slice a2 k c2] ∧ Rst w B2 B4 kn B (k + 1) a3 c3 (V3.setCell ⟨B4, 1, none⟩ (.slice a3 (k + 1) c3)) := by
  have ka : Kept (fun _ => False) V (V.alloc (.cells #[.string S1, .string S2] 74)) := (Kept.refl _ V).alloc _
  have h1 := h.step ka
  have hrow : Sl cv 2 (V.alloc (.cells #[.string S1, .string S2] 74)) (.slice (some ⟨V.heap.size, 0, none⟩) 1 1) [(keyB B k, valB B k)] := by
    refine ⟨some ⟨V.heap.size, 0, none⟩, 1, rfl, rw_lit cv_len ?_, Nat.le_refl _, fun e => by cases e⟩
    have := CellsF.new V [.string S1, .string S2] 74 (by simp)
    have ec : [((keyB B k, valB B k) : Cel)].flatMap cv = [.string S1, .string S2] := by
      show [Value.string ⟨(keyB B k).toArray⟩, .string ⟨(valB B k).toArray⟩] = _
      rw [← e1, ← e2]
    rw [ec]
    exact this
  have hdl := dec_len B k
  have how := h1.ow
  rw [← hdl] at how
  have how' : (V.alloc (.cells #[.string S1, .string S2] 74)).ownsRow 0 74 2 (.slice a2 k c2) (dec B k).length ((dec B k).flatMap cv) := by rw [hdl] at how ⊢; exact how
  obtain ⟨v3, V3, r1, r2, r3, r4⟩ := appC_is how' _ hrow (by rw [List.length_append, hdl]; simp; omega)
  have hlen : (dec B k ++ [(keyB B k, valB B k)]).length = k + 1 := by rw [List.length_append, hdl]; rfl
  rw [hlen] at r2
  obtain ⟨a3, c3, rfl⟩ := own_form r2
  have hg4 : ∀ g, (Value.slice a2 k c2).ownBlock = some g → B4 ≠ g ∧ B2 ≠ g := fun g hg => ⟨h1.b4.ne_row h1.ow hg (by decide), h1.b2.ne_row h1.ow hg (by decide)⟩
  have hb4 : Blk V3 B4 29 [.int .i64 kn, .slice a2 k c2] := h1.b4.far (r3.block B4 h1.b4.lt (fun e => (hg4 B4 e.symm).1 rfl))
  have hb2 : Blk V3 B2 29 [.int .i64 0, .slice none 0 0] := h1.b2.far (r3.block B2 h1.b2.lt (fun e => (hg4 B2 e.symm).2 rfl))
  have hkp : Kept (fun _ => False) w V3 := h1.kp.grown r3 (fun q hq => .inr (h1.nw q hq))
  refine ⟨a3, c3, V3, r1, hb4, ?_⟩
  have k4 : Kept (fun i => i = B4) V3 (V3.setCell ⟨B4, 1, none⟩ (.slice a3 (k + 1) c3)) := Kept.setCell (F := fun i => i = B4) (p := ⟨B4, 1, none⟩) (Kept.refl _ _) (.inl rfl) _
  have how3 : (V3.setCell ⟨B4, 1, none⟩ (.slice a3 (k + 1) c3)).ownsRow 0 74 2 (.slice a3 (k + 1) c3) (k + 1) ((dec B (k + 1)).flatMap cv) := ownsRow_kept r2 (fun g hg => Below.heap_setCell _ ⟨B4, 1, none⟩ _ g (fun e => by
    have e' : g = B4 := e
    exact hb4.ne_row r2 hg (by decide) e'.symm))
  refine ⟨hb2.kept k4 h.n24, hb4.set 1 _, how3, fun g hg => ?_, hkp.setCell (p := ⟨B4, 1, none⟩) (.inr h.h4) _, h.h2, h.h4, h.n24⟩
  rcases r4 with e | e
  · rw [e] at hg; exact h1.nw g hg
  · rw [e] at hg; cases hg; exact h1.kp.size
end Go.Proofs.Ytehaancdadmdkaa
