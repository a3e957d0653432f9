/- settle. -/
import Derived.Test.YtbjijacpgklegaaRest
namespace Go.Proofs.Ytbjijacpgklegaa
open Go.ChangeShapes Go.WideShapes Go.ChangeAt Go.RowKit
set_option linter.unusedVariables false
set_option maxRecDepth 100000

/-- Sectors of which those that are written are as they are sure. -/
def settled (S L : Nat → List UInt8) (Q : List (Nat × List UInt8)) : Nat → List UInt8 := Q.foldl (fun L q => put L q.1 (S q.1)) L

theorem settle_round {w : World} {F : Nat → Prop} {p bs bl g m cap : Nat} {d : Dk} {L : Nat → List UInt8} (h : Lies w F p bs bl (.slice (some ⟨g, 0, none⟩) m cap) d L) (k : Nat) (hk : k < d.Q.length) :
    ∃ (W1 V W2 : World) (C T : Array Value) (a : Nat), a < d.n ∧ V = { W1 with drawn := W1.drawn + 1 } ∧
      (Instr.loadAt 103 (.pointer (some ⟨g, k * 33, none⟩))).run Try.prog w = .ok (.agg C) w ∧
      (Instr.storeAt 103 (.pointer (some ⟨w.heap.size, 0, none⟩)) (.agg C)).run Try.prog (w.alloc (.cells (#[.int .i64 0] ++ Array.replicate 32 (.int .u8 0)) 103)) = .ok () W1 ∧
      V.cell? ⟨p, 0, none⟩ = some (.slice (some ⟨bs, 0, none⟩) d.n d.n) ∧ V.cell? ⟨p, 1, none⟩ = some (.slice (some ⟨bl, 0, none⟩) d.n d.n) ∧ V.cell? ⟨w.heap.size, 0, none⟩ = some (.int .i64 (a : Int)) ∧
      (Instr.loadAt 101 (.pointer (some ⟨bs, a * 32, none⟩))).run Try.prog V = .ok (.agg T) V ∧
      (Instr.storeAt 101 (.pointer (some ⟨bl, a * 32, none⟩)) (.agg T)).run Try.prog V = .ok () W2 ∧
      Lies W2 F p bs bl (.slice (some ⟨g, 0, none⟩) m cap) d (put L d.Q[k].1 (d.S d.Q[k].1)) ∧ Kept F w W2 := by
  have hq := h.qs d.Q[k] (List.getElem_mem hk)
  have hl := h.waits k hk
  generalize d.Q[k] = q at *
  have k1 : Kept (fun _ => False) w (w.alloc (.cells (qv q).toArray 103)) := (Kept.refl _ w).alloc _
  have h1 := (h.kept k1 (fun _ _ x => x)).drew
  obtain ⟨V, hV⟩ : ∃ V, V = (w.alloc (.cells (qv q).toArray 103)).drew := ⟨_, rfl⟩
  rw [← hV] at h1
  have hS := h1.sure.len q.1 hq.1
  refine ⟨_, V, _, _, _, q.1, hq.1, hV, hl, copied w q hq.2, h1.c0, h1.c1, by rw [hV]; exact copied_cell w q, h1.sureLoad q.1 hq.1,
    store62 (bv (d.S q.1)) (by rw [bv_len, hS]) (fun j hj => h1.last.some_at hq.1 hj) (fun j _ => h1.last.free _) (bv_one _), h1.setLast hq.1 (d.S q.1) hS, ?_⟩
  refine Kept.setCells (.inl h.fl) _ _ _ ?_
  rw [hV]
  exact (k1.mono (fun _ x => x.elim)).drew

theorem settle_some {w : World} {F : Nat → Prop} {p bs bl g m cap : Nat} {d : Dk} {L : Nat → List UInt8} (h : Lies w F p bs bl (.slice (some ⟨g, 0, none⟩) m cap) d L) (hm : d.Q ≠ []) (hn : d.Q.length ≤ 1048576) :
    Calls Try.prog 53 #[.pointer (some ⟨p, 0, none⟩)] w fun e w' => e = .returned (.tuple #[]) ∧ Lies w' F p bs bl (.slice (some ⟨g, 0, none⟩) 0 cap) { d with Q := [] } (settled d.S L d.Q) ∧ Kept F w w' := by
  have hc2 := h.c2
  have em : m = d.Q.length := by
    obtain ⟨o, c, e⟩ := h.form
    cases e; rfl
  have H0 := (show Hid _ from h)
  have HM := (show Hid _ from And.intro hm em)
  have hmb : m ≤ 1048576 := by omega
  clear h hm em hn
  go_enter Try.func53, Try.ntmps53
  go_wp2_with fail
  go_loopw [9] (fun i wr => ∃ k : Nat, k ≤ m ∧ i = .int .i64 k ∧ Hid (Lies wr F p bs bl (.slice (some ⟨g, 0, none⟩) m cap) d (settled d.S L (d.Q.take k))) ∧ Kept F w wr)
    (fun i _ => m - (intOf i).toNat)
  case atStart => exact ⟨0, Nat.zero_le _, rfl, H0, Kept.refl _ _⟩
  case round =>
    obtain ⟨k, hk, rfl, HW, KB⟩ := hrel
    have HKB := (show Hid _ from KB)
    clear KB
    by_cases hlt : k < m
    · obtain ⟨W1, V, W2, C, T, a, ha, eV, hl, hs, c0, c1, ca, hl2, hs2, hL2, hK2⟩ := settle_round HW.out k (by have := HM.out.2; omega)
      have HA := (show Hid _ from alloc64 wr)
      have H1 := (show Hid _ from hl)
      have H2 := (show Hid _ from hs)
      have H3 := (show Hid _ from hl2)
      have H4 := (show Hid _ from hs2)
      have H5 := (show Hid _ from And.intro hL2 hK2)
      have HV := (show Hid _ from eV)
      have hai : (a : Int) < (d.n : Int) := by omega
      have hki : (k : Int) < (m : Int) := by omega
      clear hl hs hl2 hs2 hL2 hK2 eV ha
      go_wp2_with (first | ((with_reducible apply st_load); (case ho => rfl); (case hgd => rfl); (case hr => exact H1.out)) | ((with_reducible apply st_alloc); (case ho => rfl); (case hgd => rfl); (case hr => exact HA.out)) | ((with_reducible apply st_store); (case ho => rfl); (case hgd => rfl); (case hr => exact H2.out)))
      refine wp_region_still_tail 15 (by kernel_rfl) (by kernel_rfl) ?_
      rw [← HV.out]
      simp only [List.take_succ_cons, List.take_zero, List.drop_succ_cons, List.drop_zero]
      iterate 13 still_step
      refine sl_load rfl rfl H3.out ?_
      still_step
      refine wpStill_nil ?_
      refine st_store rfl rfl H4.out ?_
      go_wp2_with fail
      go_roundw
      case rel =>
        refine ⟨k + 1, by omega, by go_num, ?_, HKB.out.trans H5.out.2 (fun _ x => .inl x)⟩
        have e : d.Q.take (k + 1) = d.Q.take k ++ [d.Q[k]'(by have := HM.out.2; omega)] := List.take_succ_eq_append_getElem _
        show Lies _ _ _ _ _ _ _ _
        rw [e]
        unfold settled
        rw [List.foldl_append]
        exact H5.out.1
      case measure => simp [intOf]; omega
    · have ek : k = m := by omega
      subst ek
      rw [HM.out.2, List.take_length] at HW
      obtain ⟨W, hc, cp, fp, hL, hK, e1, hcap⟩ := HW.out.clear HM.out.1
      have HC := (show Hid _ from hc)
      have H5 := (show Hid _ from And.intro hL hK)
      have hkc : ¬ cap = 0 := fun e => HM.out.1 (List.length_eq_zero_iff.1 (by omega))
      have hw2 := HW.out.c2
      clear hc hL hK
      go_wp2_with (first | ((with_reducible apply st_clear); (case ho => rfl); (case hgd => rfl); (case hr => exact HC.out)))
      go_end0
      exact ⟨rfl, H5.out.1, HKB.out.trans H5.out.2 (fun _ x => .inl x)⟩

theorem clear_none (w : World) (o : Option Addr) (c : Nat) : (Builtin.clear_ #[67] 0 #[.slice o 0 c]).run Try.prog w = .ok (.tuple #[]) w := by
  cases o <;> simp [Builtin.clear_, run_underlying Try.underlying67]

theorem settle_none {w : World} {F : Nat → Prop} {p bs bl : Nat} {v : Value} {d : Dk} {L : Nat → List UInt8} (h : Lies w F p bs bl v d L) (hm : d.Q = []) :
    Calls Try.prog 53 #[.pointer (some ⟨p, 0, none⟩)] w fun e w' => e = .returned (.tuple #[]) ∧ Lies w' F p bs bl v { d with Q := [] } L ∧ Kept F w w' := by
  have hend : Lies (w.setCell ⟨p, 2, none⟩ v) F p bs bl v { d with Q := [] } L ∧ Kept F w (w.setCell ⟨p, 2, none⟩ v) := by
    have hp2 : (w.setCell ⟨p, 2, none⟩ v).cell? ⟨p, 2, none⟩ = some v := World.cell?_setCell_same _ _ _ h.c2
    have hpo : ∀ j, j ≠ 2 → (w.setCell ⟨p, 2, none⟩ v).cell? ⟨p, j, none⟩ = w.cell? ⟨p, j, none⟩ := fun j hj => World.cell?_setCell_other _ _ _ _ (fun e => hj (by cases e; rfl))
    have ho' : ∀ b, b ≠ p → (w.setCell ⟨p, 2, none⟩ v).heap[b]? = w.heap[b]? := fun b hb => Below.heap_setCell w ⟨p, 2, none⟩ v b hb
    have hown := ownsRow_kept (w' := w.setCell ⟨p, 2, none⟩ v) h.own (fun k hk => ho' k (fun e => h.pv (e ▸ hk)))
    rw [hm] at hown
    refine ⟨{ c0 := (hpo 0 (by omega)).trans h.c0, c1 := (hpo 1 (by omega)).trans h.c1, c2 := hp2, c3 := (hpo 3 (by omega)).trans h.c3, c4 := (hpo 4 (by omega)).trans h.c4,
              free := (fun j => by rw [World.frozen?_setCell]; exact h.free j), sure := h.sure.of_block (ho' bs (fun e => h.ps e.symm)), last := h.last.of_block (ho' bl (fun e => h.pl e.symm)),
              own := hown, ps := h.ps, pl := h.pl, sl := h.sl, pv := h.pv, sv := h.sv, lv := h.lv, fp := h.fp, fs := h.fs, fl := h.fl, fv := h.fv,
              lt := (fun k hk => by rw [World.size_setCell]; exact h.lt k hk), qs := (fun q hq => by cases hq), n1 := h.n1, n2 := h.n2, fu := h.fu }, (Kept.refl F w).setCell (p := ⟨p, 2, none⟩) (.inl h.fp) v⟩
  have HE := (show Hid _ from hend)
  have hc2 := h.c2
  have hf2 := h.free 2
  have hform : v = .slice none 0 0 ∨ ∃ g c, v = .slice (some ⟨g, 0, none⟩) 0 c := by
    rcases h.own.2 with ⟨e, _⟩ | ⟨g, cap, cur, e, _⟩
    · exact .inl e
    · exact .inr ⟨g, cap, by rw [e, hm]; rfl⟩
  clear h hend hm
  rcases hform with rfl | ⟨g, c, rfl⟩
  · have HC := (show Hid _ from clear_none w none 0)
    go_enter Try.func53, Try.ntmps53
    go_wp2_with fail
    go_loopw [9] (fun i wr => i = .int .i64 0 ∧ wr = w) (fun i _ => 0)
    case atStart => exact ⟨rfl, rfl⟩
    case round =>
      obtain ⟨rfl, rfl⟩ := hrel
      go_wp2_with ((with_reducible apply st_clear); (case ho => rfl); (case hgd => rfl); (case hr => exact HC.out))
      go_end0
      exact ⟨rfl, HE.out⟩
  · have HC := (show Hid _ from clear_none w (some ⟨g, 0, none⟩) c)
    by_cases hc : c = 0
    · subst hc
      go_enter Try.func53, Try.ntmps53
      go_wp2_with fail
      go_loopw [9] (fun i wr => i = .int .i64 0 ∧ wr = w) (fun i _ => 0)
      case atStart => exact ⟨rfl, rfl⟩
      case round =>
        obtain ⟨rfl, rfl⟩ := hrel
        go_wp2_with ((with_reducible apply st_clear); (case ho => rfl); (case hgd => rfl); (case hr => exact HC.out))
        go_end0
        exact ⟨rfl, HE.out⟩
    · go_enter Try.func53, Try.ntmps53
      go_wp2_with fail
      go_loopw [9] (fun i wr => i = .int .i64 0 ∧ wr = w) (fun i _ => 0)
      case atStart => exact ⟨rfl, rfl⟩
      case round =>
        obtain ⟨rfl, rfl⟩ := hrel
        go_wp2_with ((with_reducible apply st_clear); (case ho => rfl); (case hgd => rfl); (case hr => exact HC.out))
        go_end0
        exact ⟨rfl, HE.out⟩

/-- settle: what is sure is what is read, and nothing waits. -/
theorem settle_is {w : World} {F : Nat → Prop} {p bs bl : Nat} {v : Value} {d : Dk} {L : Nat → List UInt8} (h : Lies w F p bs bl v d L) (hn : d.Q.length ≤ 1048576) :
    Calls Try.prog 53 #[.pointer (some ⟨p, 0, none⟩)] w fun e w' => e = .returned (.tuple #[]) ∧ ∃ v', Lies w' F p bs bl v' { d with Q := [] } (settled d.S L d.Q) ∧ Kept F w w' := by
  by_cases hm : d.Q = []
  · refine (settle_none h hm).mono ?_
    rintro e w' ⟨rfl, h1, h2⟩
    exact ⟨rfl, v, by rw [hm]; exact h1, h2⟩
  · rcases h.own.2 with ⟨_, e⟩ | ⟨g, cap, cur, e, _⟩
    · exact absurd (List.length_eq_zero_iff.1 e) hm
    · subst e
      refine (settle_some h hm hn).mono ?_
      rintro e w' ⟨rfl, h1, h2⟩
      exact ⟨rfl, _, h1, h2⟩
end Go.Proofs.Ytbjijacpgklegaa
