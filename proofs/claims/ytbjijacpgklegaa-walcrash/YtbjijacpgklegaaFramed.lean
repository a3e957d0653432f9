/- wal: a group's bytes. -/
import Derived.Test.YtbjijacpgklegaaGroup
namespace Go.Proofs.Ytbjijacpgklegaa
open Go.ChangeShapes Go.WideShapes Go.ChangeAt Go.RowKit
set_option linter.unusedVariables false
set_option maxRecDepth 100000

theorem builder_kept {T e B b : Nat} {bs : List Value} {w w' : World} (h : Lib.IsBuilder T e B b bs w) (k : Kept (fun _ => False) w w') : Lib.IsBuilder T e B b bs w' := by
  have key : ∀ p, Lib.BuilderAt T e B b p bs w → Lib.BuilderAt T e B b p bs w' := by
    rintro p ⟨h1, v, h2, h3, h4⟩
    exact ⟨h1, v, (k.block b (Array.getElem?_eq_some_iff.1 h2).1 (fun q => q)).trans h2, ownsRow_kept h3 (fun i hi => k.block i (h3.lt i hi).2 (fun q => q)), h4⟩
  exact h.imp (key _) (key _)

theorem framed_is {w : World} (q t : Nat) (hq : w.cell? ⟨q, 3, none⟩ = some (.int .i64 (t : Int))) (ht : 1 ≤ t ∧ t ≤ 2147483647) (a : Option Addr) (c : Nat) (g : List ByteArray) (h : Texts w (.slice a g.length c) g) (hm : mayG g) (hl : g.length ≤ 64) :
    Calls Try.prog 51 #[.pointer (some ⟨q, 0, none⟩), .slice a g.length c] w fun e w' => e = .returned (.string ⟨(frames t g).toArray⟩) ∧ Kept (fun _ => False) w w' := by
  have HC := (show Hid _ from fun k hk => h.cell k hk)
  have HM := (show Hid _ from hm)
  have HF : Hid (∀ s, s.size ≠ 0 ∧ s.size ≤ 1024 → ∀ w, Calls Try.prog 9 #[.int .i64 (t : Int), .string s] w fun e w' => e = .returned (.tuple #[.string (frameS t s), .int .i64 0]) ∧ Kept (fun _ => False) w w') := fun s hs w => frame_is t s ht hs w
  have hqw : q < w.heap.size := World.block_lt_of_cell? w _ hq
  have HQ := (show Hid _ from hq)
  have H0 : Hid (Lib.IsBuilder 83 5 w.heap.size w.heap.size (Lib.byteCells (frames t (g.take 0))) (w.alloc (.cells #[.pointer none, .slice none 0 0] 83)) ∧ Below w.heap.size w (w.alloc (.cells #[.pointer none, .slice none 0 0] 83))) := ⟨Lib.fresh_isBuilder 83 5 w, (Below.refl _ w).alloc (Nat.le_refl _) _⟩
  clear h hm hq
  go_enter Try.func51, Try.ntmps51
  go_wp2_with fail
  go_loopw [12] (fun i wr => ∃ k : Nat, k ≤ g.length ∧ i = .int .i64 k ∧ Hid (Lib.IsBuilder 83 5 w.heap.size w.heap.size (Lib.byteCells (frames t (g.take k))) wr ∧ Below w.heap.size w wr))
    (fun i _ => g.length - (intOf i).toNat)
  case atStart => exact ⟨0, Nat.zero_le _, rfl, H0.out⟩
  case round =>
    obtain ⟨k, hk, rfl, HG⟩ := hrel
    clear H0
    by_cases hlt : k < g.length
    · have hlti : (k : Int) < (g.length : Int) := by omega
      obtain ⟨b, o, rfl, hc⟩ := HC.out k hlt
      have hc' : wr.cell? ⟨b, o + k, none⟩ = some (.string g[k]) := (HG.out.2.cell (World.block_lt_of_cell? w _ hc)).trans hc
      have hq' : wr.cell? ⟨q, 3, none⟩ = some (.int .i64 (t : Int)) := (HG.out.2.cell hqw).trans HQ.out
      have HX := (show Hid _ from HF.out g[k] (HM.out _ (List.getElem_mem hlt)))
      have HN : Hid (Lib.byteCells (frames t (g.take k)) ++ Lib.strCells (frameS t g[k]) = Lib.byteCells (frames t (g.take (k + 1)))) := by
        show _ = Lib.byteCells (frames t (g.take (k + 1)))
        rw [List.take_succ_eq_append_getElem hlt, frames_append, Lib.strCells_eq]
        simp [Lib.byteCells, frames]
      have hs := (HM.out g[k] (List.getElem_mem hlt)).2
      have hfs : (frameS t g[k]).size ≤ 1034 := by rw [frameS_size]; omega
      have hb : (Lib.byteCells (frames t (g.take k))).length ≤ 1034 * k := by
        rw [Lib.byteCells_length, frames_len]
        have := sizeG_le (g.take k) (fun s hs => HM.out s (List.mem_of_mem_take hs))
        rw [List.length_take] at this
        omega
      have hlen : (Lib.byteCells (frames t (g.take k))).length + (frameS t g[k]).size ≤ 1048576 := by omega
      have HLEN := (show Hid _ from hlen)
      clear hc hlen hb hfs hs
      generalize frameS t g[k] = fs at *
      generalize g[k] = s at *
      go_wp2_with fail
      refine Calls.mono (HX.out _) ?_; rintro e w1 ⟨rfl, k1⟩
      have HB1 := (show Hid _ from builder_kept HG.out.1 k1)
      have HL1 : Hid (Below w.heap.size w w1) := HG.out.2.trans (k1.below HG.out.2.size (fun _ z => z.elim))
      have HW := (show Hid _ from build_write HB1.out fs HLEN.out HL1.out.size)
      clear k1 HG HX
      go_wp2_with fail
      refine Calls.mono HW.out ?_; rintro e w2 ⟨rfl, h1, h2⟩
      have H2 : Hid (Lib.IsBuilder 83 5 w.heap.size w.heap.size (Lib.byteCells (frames t (g.take (k + 1)))) w2 ∧ Below w.heap.size w w2) := ⟨.inr (by rw [← HN.out]; exact h1), HL1.out.trans h2⟩
      clear h1 h2 HW HB1 HL1
      go_wp2_with fail
      go_roundw
      case rel => exact ⟨k + 1, by omega, by go_num, H2.out⟩
      case measure => simp [intOf]; omega
    · have hlti : ¬ (k : Int) < (g.length : Int) := by omega
      have ek : g.take k = g := List.take_of_length_le (by omega)
      rw [ek] at HG
      have HS := (show Hid _ from Try.Builder_String_any w.heap.size w.heap.size (frames t g) wr HG.out.1 HG.out.2.size)
      clear ek
      go_wp2_with fail
      refine Calls.mono HS.out ?_; rintro e w1 ⟨rfl, k1⟩
      have HL1 : Hid (Below w.heap.size w w1) := HG.out.2.trans k1
      clear k1 HS
      go_wp2_with fail
      go_ret
      exact ⟨rfl, below_kept HL1.out⟩
end Go.Proofs.Ytbjijacpgklegaa
