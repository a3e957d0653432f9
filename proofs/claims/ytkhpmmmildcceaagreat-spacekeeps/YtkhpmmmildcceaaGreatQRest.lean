/- What settle leaves in memory. settle. Flush. Crash. Crash, where no write survives, and in all. A disk's methods, told of the disk alone. -/
import Derived.Test.YtkhpmmmildcceaaGreatQWrite
namespace Go.Proofs.YtkhpmmmildcceaaGreat
open Go.ChangeShapes Go.WideShapes Go.ChangeAt Go.RowKit
set_option linter.unusedVariables false
set_option maxRecDepth 100000

theorem flat_at (Q : List (Nat × List UInt8)) (h : ∀ q, q ∈ Q → q.2.length = 32) : ∀ (k : Nat) (hk : k < Q.length) (j : Nat), j < 33 → (Q.flatMap qv)[k * 33 + j]? = (qv Q[k])[j]? := by
  induction Q with
  | nil => intro k hk; cases hk
  | cons q r ih =>
    intro k hk j hj
    have hq : (qv q).length = 33 := by simp [qv, bv_len, h q (by simp)]
    rw [List.flatMap_cons]
    cases k with
    | zero =>
      rw [Nat.zero_mul, Nat.zero_add, List.getElem?_append_left (by omega)]
      rfl
    | succ k =>
      rw [List.getElem?_append_right (by omega), hq, show (k + 1) * 33 + j - 33 = k * 33 + j by omega]
      exact ih (fun x hx => h x (by simp [hx])) k (by simpa using hk) j hj

/-- A write that waits, as it is read out of the list. -/
theorem Lies.waits {w : World} {F : Nat → Prop} {p bs bl g m cap : Nat} {d : Dk} {L : Nat → List UInt8} (h : Lies w F p bs bl (.slice (some ⟨g, 0, none⟩) m cap) d L) (k : Nat) (hk : k < d.Q.length) :
    (Instr.loadAt 105 (.pointer (some ⟨g, k * 33, none⟩))).run Tryz.prog w = .ok (.agg (qv d.Q[k]).toArray) w := by
  have hq := (h.qs d.Q[k] (List.getElem_mem hk)).2
  have hl : (qv d.Q[k]).length = 33 := by simp [qv, bv_len, hq]
  refine load64 (qv d.Q[k]) hl (fun j x hx => ?_)
  have hj : j < 33 := by
    have := (List.getElem?_eq_some_iff.1 hx).1
    omega
  have hc := h.own.cells (g := g) rfl (k * 33 + j) x (by rw [flat_at d.Q (fun q hq => (h.qs q hq).2) k hk j hj]; exact hx)
  rw [Go.WideShapes.add_plain, Nat.zero_add] at hc
  exact hc

/-- The variable of a range's round: a write, copied. -/
theorem copied (w : World) (q : Nat × List UInt8) (hq : q.2.length = 32) : (Instr.storeAt 105 (.pointer (some ⟨w.heap.size, 0, none⟩)) (.agg (qv q).toArray)).run Tryz.prog (w.alloc (.cells (#[.int .i64 0] ++ Array.replicate 32 (.int .u8 0)) 105)) = .ok () (w.alloc (.cells (qv q).toArray 105)) :=
  store64 (w := w) _ _ (by simp [qv, bv_len, hq]) (by simp) (by simpa using qv_one q)

theorem copied_cell (w : World) (q : Nat × List UInt8) : (w.alloc (.cells (qv q).toArray 105)).cell? ⟨w.heap.size, 0, none⟩ = some (.int .i64 (q.1 : Int)) := by
  rw [World.cell?_alloc_new]; simp [qv]
theorem copied_text (w : World) (q : Nat × List UInt8) (hq : q.2.length = 32) (V : World) (hV : V.heap = (w.alloc (.cells (qv q).toArray 105)).heap) : ∀ j x, (bv q.2)[j]? = some x → V.cell? ⟨w.heap.size, 1 + j, none⟩ = some x := by
  intro j x hx
  have : V.cell? ⟨w.heap.size, 1 + j, none⟩ = (w.alloc (.cells (qv q).toArray 105)).cell? ⟨w.heap.size, 1 + j, none⟩ := by unfold World.cell?; rw [hV]
  rw [this, World.cell?_alloc_new, Nat.add_comm 1 j]
  simpa [qv] using hx

theorem Lies.sureLoad {w : World} {F : Nat → Prop} {p bs bl : Nat} {v : Value} {d : Dk} {L : Nat → List UInt8} (h : Lies w F p bs bl v d L) (a : Nat) (ha : a < d.n) :
    (Instr.loadAt 103 (.pointer (some ⟨bs, a * 32, none⟩))).run Tryz.prog w = .ok (.agg (bv (d.S a)).toArray) w :=
  load62 (bv (d.S a)) (by rw [bv_len, h.sure.len a ha]) (fun j x hx => h.sure.cell a ha j x hx)

theorem heap_setCells_same {g : Nat} : ∀ (vs : List Value) (o : Nat) (w : World) (cur : Array Value) (t : TypeId) (f : Nat × Nat), w.heap[g]? = some (.cells cur t f) → ∃ cur', (w.setCells g o vs).heap[g]? = some (.cells cur' t f) ∧ cur'.size = cur.size
  | [], _, _, cur, _, _, h => ⟨cur, h, rfl⟩
  | v :: r, o, w, cur, t, f, h => by
    have h1 : (w.setCell ⟨g, o, none⟩ v).heap[g]? = some (.cells (cur.setIfInBounds o v) t f) := by
      simp [World.setCell, Array.getElem?_modify, h]
    obtain ⟨c, hc, hs⟩ := heap_setCells_same r (o + 1) _ _ t f h1
    exact ⟨c, hc, by rw [hs]; simp⟩

theorem zero_one (n : Nat) : ∀ v ∈ (Builtin.zeroCells (#[.int .i64 0] ++ Array.replicate 32 (.int .u8 0)) n).toList, v.oneCell' = true := by
  intro v hv
  simp only [Builtin.zeroCells, Array.toList_map, List.mem_map] at hv
  obtain ⟨i, _, rfl⟩ := hv
  have hz : (#[.int .i64 0] ++ Array.replicate 32 (.int .u8 0) : Array Value).size = 33 := by simp
  rw [hz]
  have hlt : i % 33 < 33 := Nat.mod_lt _ (by omega)
  rw [getElem!_pos _ (i % 33) (by omega)]
  have hm := Array.getElem_mem (xs := (#[.int .i64 0] ++ Array.replicate 32 (.int .u8 0) : Array Value)) (i := i % 33) (by omega)
  generalize (#[.int .i64 0] ++ Array.replicate 32 (.int .u8 0) : Array Value)[i % 33] = u at *
  simp at hm
  rcases hm with rfl | rfl <;> rfl

theorem zero_run {P : Program} {t : TypeId} {i : TypeInfo} {v : Value} (hi : P.info? t = some i) (hz : i.zero = some v) (w : World) : (zeroValue t).run P w = .ok v w := by
  simp [zeroValue, typeInfo, hi, hz]
theorem run_clear_rows {P : Program} {w W : World} (t e ty : TypeId) (z : Value) (ht : P.underlying t = some (.slice e)) (hv : (zeroValue e).run P w = .ok z w) (b n c : Nat)
    (hst : (storeCells ⟨b, 0, none⟩ (Builtin.zeroCells z.cells (n + 1)).toList 0).run P w = .ok () W) : (Builtin.clear_ #[t] ty #[.slice (some ⟨b, 0, none⟩) (n + 1) c]).run P w = .ok (.tuple #[]) W := by
  simp [Builtin.clear_, run_underlying ht, hv, hst]

/-- The list is cleared and begins anew. -/
theorem Lies.clear {w : World} {F : Nat → Prop} {p bs bl g m cap : Nat} {d : Dk} {L : Nat → List UInt8} (h : Lies w F p bs bl (.slice (some ⟨g, 0, none⟩) m cap) d L) (hm : d.Q ≠ []) :
    ∃ W, (Builtin.clear_ #[77] 0 #[.slice (some ⟨g, 0, none⟩) m cap]).run Tryz.prog w = .ok (.tuple #[]) W ∧ W.cell? ⟨p, 2, none⟩ = some (.slice (some ⟨g, 0, none⟩) m cap) ∧ W.frozen? ⟨p, 2, none⟩ = false ∧
      Lies (W.setCell ⟨p, 2, none⟩ (.slice (some ⟨g, 0, none⟩) 0 cap)) F p bs bl (.slice (some ⟨g, 0, none⟩) 0 cap) { d with Q := [] } L ∧ Kept F w (W.setCell ⟨p, 2, none⟩ (.slice (some ⟨g, 0, none⟩) 0 cap)) ∧ m = d.Q.length ∧ m ≤ cap := by
  obtain ⟨i, hi, hz, h1, h2⟩ := info_of Tryz.info105
  rcases h.own.2 with ⟨e, _⟩ | ⟨g', cap', cur, e, _, hg, hmc, hcm, hcs, _⟩
  · cases e
  cases e
  have hm0 : 0 < d.Q.length := List.length_pos_iff.2 hm
  have hpg : p ≠ g := fun e => h.pv (by rw [e]; rfl)
  have hsg : bs ≠ g := fun e => h.sv (by rw [e]; rfl)
  have hlg : bl ≠ g := fun e => h.lv (by rw [e]; rfl)
  generalize hzs : (Builtin.zeroCells (#[.int .i64 0] ++ Array.replicate 32 (.int .u8 0)) d.Q.length).toList = zs
  have hzl : zs.length = d.Q.length * 33 := by rw [← hzs]; simp [Builtin.zeroCells]
  have hfit : zs.length ≤ cur.size := by rw [hzl, hcs]; exact Nat.mul_le_mul_right _ hmc
  have hst := run_storeCells_cells (P := Tryz.prog) g 0 zs 0 w (fun j hj => by
      rw [cell_of_row w g _ cur 105 (0, 0) hg]; simp only [Nat.zero_add]; rw [Array.getElem?_eq_getElem (by omega)]; rfl) (fun j hj => frozen_of_row w g _ cur 105 hg) (by rw [← hzs]; exact zero_one _)
  obtain ⟨cur', hc', hs'⟩ := heap_setCells_same zs 0 w cur 105 (0, 0) hg
  have hcp : ∀ j, (w.setCells g 0 zs).cell? ⟨p, j, none⟩ = w.cell? ⟨p, j, none⟩ := fun j => World.cell?_setCells_out g _ _ _ _ (fun e _ => absurd e hpg)
  have hrun : (Builtin.clear_ #[77] 0 #[.slice (some ⟨g, 0, none⟩) d.Q.length cap]).run Tryz.prog w = .ok (.tuple #[]) (w.setCells g 0 zs) := by
    obtain ⟨n, hn⟩ : ∃ n, d.Q.length = n + 1 := ⟨d.Q.length - 1, by omega⟩
    rw [hn] at hzs ⊢
    simp only [Nat.add_zero] at hst
    exact run_clear_rows 77 105 0 _ Tryz.underlying77 (zero_run hi hz w) g n cap (by simp only [Value.cells]; rw [hzs]; exact hst)
  have hW : (w.setCells g 0 zs).cell? ⟨p, 2, none⟩ = some (.slice (some ⟨g, 0, none⟩) d.Q.length cap) := (hcp 2).trans h.c2
  have ho' : ∀ b, b ≠ p → ((w.setCells g 0 zs).setCell ⟨p, 2, none⟩ (.slice (some ⟨g, 0, none⟩) 0 cap)).heap[b]? = (w.setCells g 0 zs).heap[b]? := fun b hb => Below.heap_setCell _ ⟨p, 2, none⟩ _ b hb
  have hpo : ∀ j, j ≠ 2 → ((w.setCells g 0 zs).setCell ⟨p, 2, none⟩ (.slice (some ⟨g, 0, none⟩) 0 cap)).cell? ⟨p, j, none⟩ = w.cell? ⟨p, j, none⟩ := fun j hj => by
    rw [World.cell?_setCell_other _ _ _ _ (fun e => hj (by cases e; rfl))]; exact hcp j
  refine ⟨_, hrun, hW, by rw [World.frozen?_setCells]; exact h.free 2, ?_, ?_, rfl, hmc⟩
  · exact { c0 := (hpo 0 (by omega)).trans h.c0, c1 := (hpo 1 (by omega)).trans h.c1, c2 := World.cell?_setCell_same _ _ _ hW, c3 := (hpo 3 (by omega)).trans h.c3, c4 := (hpo 4 (by omega)).trans h.c4,
            free := (fun j => by rw [World.frozen?_setCell, World.frozen?_setCells]; exact h.free j),
            sure := h.sure.of_block ((ho' bs (fun e => h.ps e.symm)).trans (heap_setCells_other hsg _ _ _)), last := h.last.of_block ((ho' bl (fun e => h.pl e.symm)).trans (heap_setCells_other hlg _ _ _)),
            own := ⟨by simp, .inr ⟨g, cap, cur', rfl, Nat.zero_le _, (ho' g (fun e => hpg e.symm)).trans hc', Nat.zero_le _, hcm, by omega, by simp⟩⟩,
            ps := h.ps, pl := h.pl, sl := h.sl, pv := h.pv, sv := h.sv, lv := h.lv, fp := h.fp, fs := h.fs, fl := h.fl, fv := h.fv,
            lt := (fun k hk => by rw [World.size_setCell, size_setCells]; exact h.lt k hk), qs := (fun q hq => by cases hq), n1 := h.n1, n2 := h.n2, fu := h.fu }
  · exact (Kept.setCells (.inl (h.fv g rfl)) zs 0 w (Kept.refl F w)).setCell (p := ⟨p, 2, none⟩) (.inl h.fp) _
end Go.Proofs.YtkhpmmmildcceaaGreat

namespace Go.Proofs.YtkhpmmmildcceaaGreat
open Go.ChangeShapes Go.WideShapes Go.ChangeAt Go.RowKit
set_option linter.unusedVariables false
set_option maxRecDepth 100000

/-- Sectors of which those that are written are as they are sure. -/
def settled (S L : Nat → List UInt8) (Q : List (Nat × List UInt8)) : Nat → List UInt8 := Q.foldl (fun L q => put L q.1 (S q.1)) L

theorem settle_round {w : World} {F : Nat → Prop} {p bs bl g m cap : Nat} {d : Dk} {L : Nat → List UInt8} (h : Lies w F p bs bl (.slice (some ⟨g, 0, none⟩) m cap) d L) (k : Nat) (hk : k < d.Q.length) :
    ∃ (W1 V W2 : World) (C T : Array Value) (a : Nat), a < d.n ∧ V = { W1 with drawn := W1.drawn + 1 } ∧
      (Instr.loadAt 105 (.pointer (some ⟨g, k * 33, none⟩))).run Tryz.prog w = .ok (.agg C) w ∧
      (Instr.storeAt 105 (.pointer (some ⟨w.heap.size, 0, none⟩)) (.agg C)).run Tryz.prog (w.alloc (.cells (#[.int .i64 0] ++ Array.replicate 32 (.int .u8 0)) 105)) = .ok () W1 ∧
      V.cell? ⟨p, 0, none⟩ = some (.slice (some ⟨bs, 0, none⟩) d.n d.n) ∧ V.cell? ⟨p, 1, none⟩ = some (.slice (some ⟨bl, 0, none⟩) d.n d.n) ∧ V.cell? ⟨w.heap.size, 0, none⟩ = some (.int .i64 (a : Int)) ∧
      (Instr.loadAt 103 (.pointer (some ⟨bs, a * 32, none⟩))).run Tryz.prog V = .ok (.agg T) V ∧
      (Instr.storeAt 103 (.pointer (some ⟨bl, a * 32, none⟩)) (.agg T)).run Tryz.prog V = .ok () W2 ∧
      Lies W2 F p bs bl (.slice (some ⟨g, 0, none⟩) m cap) d (put L d.Q[k].1 (d.S d.Q[k].1)) ∧ Kept F w W2 := by
  have hq := h.qs d.Q[k] (List.getElem_mem hk)
  have hl := h.waits k hk
  generalize d.Q[k] = q at *
  have k1 : Kept (fun _ => False) w (w.alloc (.cells (qv q).toArray 105)) := (Kept.refl _ w).alloc _
  have h1 := (h.kept k1 (fun _ _ x => x)).drew
  obtain ⟨V, hV⟩ : ∃ V, V = (w.alloc (.cells (qv q).toArray 105)).drew := ⟨_, rfl⟩
  rw [← hV] at h1
  have hS := h1.sure.len q.1 hq.1
  refine ⟨_, V, _, _, _, q.1, hq.1, hV, hl, copied w q hq.2, h1.c0, h1.c1, by rw [hV]; exact copied_cell w q, h1.sureLoad q.1 hq.1,
    store62 (bv (d.S q.1)) (by rw [bv_len, hS]) (fun j hj => h1.last.some_at hq.1 hj) (fun j _ => h1.last.free _) (bv_one _), h1.setLast hq.1 (d.S q.1) hS, ?_⟩
  refine Kept.setCells (.inl h.fl) _ _ _ ?_
  rw [hV]
  exact (k1.mono (fun _ x => x.elim)).drew

theorem settle_some {w : World} {F : Nat → Prop} {p bs bl g m cap : Nat} {d : Dk} {L : Nat → List UInt8} (h : Lies w F p bs bl (.slice (some ⟨g, 0, none⟩) m cap) d L) (hm : d.Q ≠ []) (hn : d.Q.length ≤ 1048576) :
    Calls Tryz.prog 59 #[.pointer (some ⟨p, 0, none⟩)] w fun e w' => e = .returned (.tuple #[]) ∧ Lies w' F p bs bl (.slice (some ⟨g, 0, none⟩) 0 cap) { d with Q := [] } (settled d.S L d.Q) ∧ Kept F w w' := by
  have hc2 := h.c2
  have em : m = d.Q.length := by
    obtain ⟨o, c, e⟩ := h.form
    cases e; rfl
  have H0 := (show Hid _ from h)
  have HM := (show Hid _ from And.intro hm em)
  have hmb : m ≤ 1048576 := by omega
  clear h hm em hn
  go_enter Tryz.func59, Tryz.ntmps59
  go_wp2_with fail
  go_loopw [9] (fun i wr => ∃ k : Nat, k ≤ m ∧ i = .int .i64 k ∧ Hid (Lies wr F p bs bl (.slice (some ⟨g, 0, none⟩) m cap) d (settled d.S L (d.Q.take k))) ∧ Kept F w wr)
    (fun i _ => m - (intOf i).toNat)
  case atStart => exact ⟨0, Nat.zero_le _, rfl, H0, Kept.refl _ _⟩
  case round =>
    obtain ⟨k, hk, rfl, HW, KB⟩ := hrel
    have HKB := (show Hid _ from KB)
    clear KB
    by_cases hlt : k < m
    · obtain ⟨W1, V, W2, C, T, a, ha, eV, hl, hs, c0, c1, ca, hl2, hs2, hL2, hK2⟩ := settle_round HW.out k (by have := HM.out.2; omega)
      have HA := (show Hid _ from alloc64 wr)
      have H1 := (show Hid _ from hl)
      have H2 := (show Hid _ from hs)
      have H3 := (show Hid _ from hl2)
      have H4 := (show Hid _ from hs2)
      have H5 := (show Hid _ from And.intro hL2 hK2)
      have HV := (show Hid _ from eV)
      have hai : (a : Int) < (d.n : Int) := by omega
      have hki : (k : Int) < (m : Int) := by omega
      clear hl hs hl2 hs2 hL2 hK2 eV ha
      go_wp2_with (first | ((with_reducible apply st_load); (case ho => rfl); (case hgd => rfl); (case hr => exact H1.out)) | ((with_reducible apply st_alloc); (case ho => rfl); (case hgd => rfl); (case hr => exact HA.out)) | ((with_reducible apply st_store); (case ho => rfl); (case hgd => rfl); (case hr => exact H2.out)))
      refine wp_region_still_tail 15 (by kernel_rfl) (by kernel_rfl) ?_
      rw [← HV.out]
      simp only [List.take_succ_cons, List.take_zero, List.drop_succ_cons, List.drop_zero]
      iterate 13 still_step
      refine sl_load rfl rfl H3.out ?_
      still_step
      refine wpStill_nil ?_
      refine st_store rfl rfl H4.out ?_
      go_wp2_with fail
      go_roundw
      case rel =>
        refine ⟨k + 1, by omega, by go_num, ?_, HKB.out.trans H5.out.2 (fun _ x => .inl x)⟩
        have e : d.Q.take (k + 1) = d.Q.take k ++ [d.Q[k]'(by have := HM.out.2; omega)] := List.take_succ_eq_append_getElem _
        show Lies _ _ _ _ _ _ _ _
        rw [e]
        unfold settled
        rw [List.foldl_append]
        exact H5.out.1
      case measure => simp [intOf]; omega
    · have ek : k = m := by omega
      subst ek
      rw [HM.out.2, List.take_length] at HW
      obtain ⟨W, hc, cp, fp, hL, hK, e1, hcap⟩ := HW.out.clear HM.out.1
      have HC := (show Hid _ from hc)
      have H5 := (show Hid _ from And.intro hL hK)
      have hkc : ¬ cap = 0 := fun e => HM.out.1 (List.length_eq_zero_iff.1 (by omega))
      have hw2 := HW.out.c2
      clear hc hL hK
      go_wp2_with (first | ((with_reducible apply st_clear); (case ho => rfl); (case hgd => rfl); (case hr => exact HC.out)))
      go_end0
      exact ⟨rfl, H5.out.1, HKB.out.trans H5.out.2 (fun _ x => .inl x)⟩

theorem clear_none (w : World) (o : Option Addr) (c : Nat) : (Builtin.clear_ #[77] 0 #[.slice o 0 c]).run Tryz.prog w = .ok (.tuple #[]) w := by
  cases o <;> simp [Builtin.clear_, run_underlying Tryz.underlying77]

theorem settle_none {w : World} {F : Nat → Prop} {p bs bl : Nat} {v : Value} {d : Dk} {L : Nat → List UInt8} (h : Lies w F p bs bl v d L) (hm : d.Q = []) :
    Calls Tryz.prog 59 #[.pointer (some ⟨p, 0, none⟩)] w fun e w' => e = .returned (.tuple #[]) ∧ Lies w' F p bs bl v { d with Q := [] } L ∧ Kept F w w' := by
  have hend : Lies (w.setCell ⟨p, 2, none⟩ v) F p bs bl v { d with Q := [] } L ∧ Kept F w (w.setCell ⟨p, 2, none⟩ v) := by
    have hp2 : (w.setCell ⟨p, 2, none⟩ v).cell? ⟨p, 2, none⟩ = some v := World.cell?_setCell_same _ _ _ h.c2
    have hpo : ∀ j, j ≠ 2 → (w.setCell ⟨p, 2, none⟩ v).cell? ⟨p, j, none⟩ = w.cell? ⟨p, j, none⟩ := fun j hj => World.cell?_setCell_other _ _ _ _ (fun e => hj (by cases e; rfl))
    have ho' : ∀ b, b ≠ p → (w.setCell ⟨p, 2, none⟩ v).heap[b]? = w.heap[b]? := fun b hb => Below.heap_setCell w ⟨p, 2, none⟩ v b hb
    have hown := ownsRow_kept (w' := w.setCell ⟨p, 2, none⟩ v) h.own (fun k hk => ho' k (fun e => h.pv (e ▸ hk)))
    rw [hm] at hown
    refine ⟨{ c0 := (hpo 0 (by omega)).trans h.c0, c1 := (hpo 1 (by omega)).trans h.c1, c2 := hp2, c3 := (hpo 3 (by omega)).trans h.c3, c4 := (hpo 4 (by omega)).trans h.c4,
              free := (fun j => by rw [World.frozen?_setCell]; exact h.free j), sure := h.sure.of_block (ho' bs (fun e => h.ps e.symm)), last := h.last.of_block (ho' bl (fun e => h.pl e.symm)),
              own := hown, ps := h.ps, pl := h.pl, sl := h.sl, pv := h.pv, sv := h.sv, lv := h.lv, fp := h.fp, fs := h.fs, fl := h.fl, fv := h.fv,
              lt := (fun k hk => by rw [World.size_setCell]; exact h.lt k hk), qs := (fun q hq => by cases hq), n1 := h.n1, n2 := h.n2, fu := h.fu }, (Kept.refl F w).setCell (p := ⟨p, 2, none⟩) (.inl h.fp) v⟩
  have HE := (show Hid _ from hend)
  have hc2 := h.c2
  have hf2 := h.free 2
  have hform : v = .slice none 0 0 ∨ ∃ g c, v = .slice (some ⟨g, 0, none⟩) 0 c := by
    rcases h.own.2 with ⟨e, _⟩ | ⟨g, cap, cur, e, _⟩
    · exact .inl e
    · exact .inr ⟨g, cap, by rw [e, hm]; rfl⟩
  clear h hend hm
  rcases hform with rfl | ⟨g, c, rfl⟩
  · have HC := (show Hid _ from clear_none w none 0)
    go_enter Tryz.func59, Tryz.ntmps59
    go_wp2_with fail
    go_loopw [9] (fun i wr => i = .int .i64 0 ∧ wr = w) (fun i _ => 0)
    case atStart => exact ⟨rfl, rfl⟩
    case round =>
      obtain ⟨rfl, rfl⟩ := hrel
      go_wp2_with ((with_reducible apply st_clear); (case ho => rfl); (case hgd => rfl); (case hr => exact HC.out))
      go_end0
      exact ⟨rfl, HE.out⟩
  · have HC := (show Hid _ from clear_none w (some ⟨g, 0, none⟩) c)
    by_cases hc : c = 0
    · subst hc
      go_enter Tryz.func59, Tryz.ntmps59
      go_wp2_with fail
      go_loopw [9] (fun i wr => i = .int .i64 0 ∧ wr = w) (fun i _ => 0)
      case atStart => exact ⟨rfl, rfl⟩
      case round =>
        obtain ⟨rfl, rfl⟩ := hrel
        go_wp2_with ((with_reducible apply st_clear); (case ho => rfl); (case hgd => rfl); (case hr => exact HC.out))
        go_end0
        exact ⟨rfl, HE.out⟩
    · go_enter Tryz.func59, Tryz.ntmps59
      go_wp2_with fail
      go_loopw [9] (fun i wr => i = .int .i64 0 ∧ wr = w) (fun i _ => 0)
      case atStart => exact ⟨rfl, rfl⟩
      case round =>
        obtain ⟨rfl, rfl⟩ := hrel
        go_wp2_with ((with_reducible apply st_clear); (case ho => rfl); (case hgd => rfl); (case hr => exact HC.out))
        go_end0
        exact ⟨rfl, HE.out⟩

/-- settle: what is sure is what is read, and nothing waits. -/
theorem settle_is {w : World} {F : Nat → Prop} {p bs bl : Nat} {v : Value} {d : Dk} {L : Nat → List UInt8} (h : Lies w F p bs bl v d L) (hn : d.Q.length ≤ 1048576) :
    Calls Tryz.prog 59 #[.pointer (some ⟨p, 0, none⟩)] w fun e w' => e = .returned (.tuple #[]) ∧ ∃ v', Lies w' F p bs bl v' { d with Q := [] } (settled d.S L d.Q) ∧ Kept F w w' := by
  by_cases hm : d.Q = []
  · refine (settle_none h hm).mono ?_
    rintro e w' ⟨rfl, h1, h2⟩
    exact ⟨rfl, v, by rw [hm]; exact h1, h2⟩
  · rcases h.own.2 with ⟨_, e⟩ | ⟨g, cap, cur, e, _⟩
    · exact absurd (List.length_eq_zero_iff.1 e) hm
    · subst e
      refine (settle_some h hm hn).mono ?_
      rintro e w' ⟨rfl, h1, h2⟩
      exact ⟨rfl, _, h1, h2⟩
end Go.Proofs.YtkhpmmmildcceaaGreat

namespace Go.Proofs.YtkhpmmmildcceaaGreat
open Go.ChangeShapes Go.WideShapes Go.ChangeAt Go.RowKit
set_option linter.unusedVariables false
set_option maxRecDepth 100000

/-- Sectors behind writes. -/
def flushed (S : Nat → List UInt8) (Q : List (Nat × List UInt8)) : Nat → List UInt8 := Q.foldl (fun S q => put S q.1 q.2) S

theorem flushed_at (S : Nat → List UInt8) (Q : List (Nat × List UInt8)) (i : Nat) : flushed S Q i = behind (S i) i Q := by
  unfold flushed behind
  induction Q generalizing S with
  | nil => rfl
  | cons q r ih =>
    rw [List.foldl_cons, List.foldl_cons, ih]
    congr 1
    unfold put
    by_cases h : i = q.1
    · rw [if_pos h, if_pos h.symm]
    · rw [if_neg h, if_neg (fun e => h e.symm)]

theorem settled_at (S : Nat → List UInt8) (Q : List (Nat × List UInt8)) (i : Nat) : ∀ L : Nat → List UInt8, settled S L Q i = S i ∨ (settled S L Q i = L i ∧ ∀ q, q ∈ Q → q.1 ≠ i) := by
  unfold settled
  induction Q with
  | nil => intro L; exact .inr ⟨rfl, fun q hq => by cases hq⟩
  | cons q r ih =>
    intro L
    rw [List.foldl_cons]
    rcases ih (put L q.1 (S q.1)) with h | ⟨h, hr⟩
    · exact .inl h
    · rw [h]
      unfold put
      by_cases e : i = q.1
      · rw [if_pos e, e]; exact .inl rfl
      · rw [if_neg e]
        refine .inr ⟨rfl, fun x hx => ?_⟩
        rcases List.mem_cons.1 hx with rfl | hx
        · exact fun e1 => e e1.symm
        · exact hr x hx

theorem behind_out (s : List UInt8) (i : Nat) (Q : List (Nat × List UInt8)) (h : ∀ q, q ∈ Q → q.1 ≠ i) : behind s i Q = s := by
  unfold behind
  induction Q generalizing s with
  | nil => rfl
  | cons q r ih =>
    rw [List.foldl_cons, if_neg (h q (by simp))]
    exact ih s (fun x hx => h x (by simp [hx]))

theorem settle_flushed (S : Nat → List UInt8) (Q : List (Nat × List UInt8)) : settled (flushed S Q) (fun i => behind (S i) i Q) Q = flushed S Q := by
  funext i
  rcases settled_at (flushed S Q) Q i (fun i => behind (S i) i Q) with h | ⟨h, _⟩
  · exact h
  · rw [h, flushed_at]

theorem flush_round {w : World} {F : Nat → Prop} {p bs bl g m cap : Nat} {d : Dk} {L : Nat → List UInt8} (h : Lies w F p bs bl (.slice (some ⟨g, 0, none⟩) m cap) d L) (k : Nat) (hk : k < d.Q.length) :
    ∃ (W1 V W2 : World) (C T : Array Value) (a : Nat), a < d.n ∧ V = { W1 with drawn := W1.drawn + 1 } ∧
      (Instr.loadAt 105 (.pointer (some ⟨g, k * 33, none⟩))).run Tryz.prog w = .ok (.agg C) w ∧
      (Instr.storeAt 105 (.pointer (some ⟨w.heap.size, 0, none⟩)) (.agg C)).run Tryz.prog (w.alloc (.cells (#[.int .i64 0] ++ Array.replicate 32 (.int .u8 0)) 105)) = .ok () W1 ∧
      V.cell? ⟨p, 0, none⟩ = some (.slice (some ⟨bs, 0, none⟩) d.n d.n) ∧ V.cell? ⟨w.heap.size, 0, none⟩ = some (.int .i64 (a : Int)) ∧
      (Instr.loadAt 103 (.pointer (some ⟨w.heap.size, 1, none⟩))).run Tryz.prog V = .ok (.agg T) V ∧
      (Instr.storeAt 103 (.pointer (some ⟨bs, a * 32, none⟩)) (.agg T)).run Tryz.prog V = .ok () W2 ∧
      Lies W2 F p bs bl (.slice (some ⟨g, 0, none⟩) m cap) { d with S := put d.S d.Q[k].1 d.Q[k].2 } L ∧ Kept F w W2 := by
  have hq := h.qs d.Q[k] (List.getElem_mem hk)
  have hl := h.waits k hk
  generalize d.Q[k] = q at *
  have k1 : Kept (fun _ => False) w (w.alloc (.cells (qv q).toArray 105)) := (Kept.refl _ w).alloc _
  have h1 := (h.kept k1 (fun _ _ x => x)).drew
  obtain ⟨V, hV⟩ : ∃ V, V = (w.alloc (.cells (qv q).toArray 105)).drew := ⟨_, rfl⟩
  rw [← hV] at h1
  have hS := h1.sure.len q.1 hq.1
  have hset := h1.setSure hq.1 q.2 (by omega)
  rw [put_whole d.S q.1 q.2 (by omega)] at hset
  refine ⟨_, V, _, _, _, q.1, hq.1, hV, hl, copied w q hq.2, h1.c0, by rw [hV]; exact copied_cell w q, load62 (bv q.2) (by rw [bv_len, hq.2]) (copied_text w q hq.2 V (by rw [hV]; rfl)),
    store62 (bv q.2) (by rw [bv_len, hq.2]) (fun j hj => h1.sure.some_at hq.1 hj) (fun j _ => h1.sure.free _) (bv_one _), hset, ?_⟩
  refine Kept.setCells (.inl h.fs) _ _ _ ?_
  rw [hV]
  exact (k1.mono (fun _ x => x.elim)).drew

theorem flush_no (v : Value) (w : World) (h : Szd w v 0) : Calls Tryz.prog 77 #[v] w fun e w' => e = .returned (.int .i64 1) ∧ w' = w := by
  have H := (show Hid _ from size_is v 0 w h)
  clear h
  go_enter Tryz.func77, Tryz.ntmps77
  go_wp2_with fail
  refine Calls.mono H.out ?_; rintro e w1 ⟨rfl, rfl⟩
  go_wp2_with fail
  go_ret
  exact ⟨rfl, rfl⟩

theorem flush_off {w : World} {F : Nat → Prop} {p bs bl : Nat} {v : Value} {d : Dk} {L : Nat → List UInt8} (h : Lies w F p bs bl v d L) (hb : (burn d.fuse d.off).2.2 = false) :
    Calls Tryz.prog 77 #[.pointer (some ⟨p, 0, none⟩)] w fun e w' => e = .returned (.int .i64 30) ∧ Lies w' F p bs bl v d.burnt L ∧ Kept F w w' ∧ w'.heap.size = w.heap.size := by
  have H := (show Hid _ from size_is _ d.n w (.inr ⟨p, _, _, rfl, h.c1⟩))
  have HS := (show Hid _ from spend_lies h)
  rw [hb] at HS
  have hn : ((d.n : Int) == 0) = false := by have := h.n1; simp; omega
  have HF := (show Hid _ from h.fp)
  clear h hb
  go_enter Tryz.func77, Tryz.ntmps77
  go_wp2_with fail
  refine Calls.mono H.out ?_; rintro e w1 ⟨rfl, rfl⟩
  go_wp2_with fail
  refine Calls.mono HS.out ?_; rintro e w1 ⟨rfl, h1, k1, z1⟩
  have HL := (show Hid _ from And.intro h1 (And.intro k1 z1))
  clear h1 k1 z1
  go_wp2_with fail
  go_ret
  exact ⟨rfl, HL.out.1, HL.out.2.1.mono (fun i hi => by rw [hi]; exact HF.out), HL.out.2.2⟩

theorem flush_on {w : World} {F : Nat → Prop} {p bs bl : Nat} {v : Value} {d : Dk} {L : Nat → List UInt8} (h : Lies w F p bs bl v d L) (hb : (burn d.fuse d.off).2.2 = true) (hQ : d.Q.length ≤ 1048576) :
    Calls Tryz.prog 77 #[.pointer (some ⟨p, 0, none⟩)] w fun e w' => e = .returned (.int .i64 0) ∧
      ∃ v', Lies w' F p bs bl v' { d.burnt with S := flushed d.S d.Q, Q := [] } (settled (flushed d.S d.Q) L d.Q) ∧ Kept F w w' := by
  have H := (show Hid _ from size_is _ d.n w (.inr ⟨p, _, _, rfl, h.c1⟩))
  have HS := (show Hid _ from spend_lies h)
  rw [hb] at HS
  have hn : ((d.n : Int) == 0) = false := by have := h.n1; simp; omega
  have HF := (show Hid _ from h.fp)
  obtain ⟨ov, cv, ev⟩ := h.form
  subst ev
  have HQ := (show Hid _ from hQ)
  have hm1 : d.Q.length ≤ 1048576 := hQ
  clear h hb hQ
  obtain ⟨m, em⟩ : ∃ m, d.Q.length = m := ⟨_, rfl⟩
  have HM := (show Hid _ from em)
  rw [em] at HS hm1
  clear em
  go_enter Tryz.func77, Tryz.ntmps77
  go_wp2_with fail
  refine Calls.mono H.out ?_; rintro e w1 ⟨rfl, rfl⟩
  go_wp2_with fail
  refine Calls.mono HS.out ?_; rintro e w2 ⟨rfl, h1, k1, z1⟩
  have HL := (show Hid _ from h1)
  have HK := (show Hid _ from (k1.mono (F' := F) (fun i hi => by rw [hi]; exact HF.out)))
  have hc2 := h1.c2
  clear h1 k1 z1 HS H
  go_wp2_with fail
  go_loopw [16] (fun i wr => ∃ k : Nat, k ≤ m ∧ i = .int .i64 k ∧ Hid (Lies wr F p bs bl (.slice ov m cv) { d.burnt with S := flushed d.S (d.Q.take k) } L) ∧ Kept F w2 wr)
    (fun i _ => m - (intOf i).toNat)
  case atStart => exact ⟨0, Nat.zero_le _, rfl, HL, Kept.refl _ _⟩
  case round =>
    obtain ⟨k, hk, rfl, HW, KB⟩ := hrel
    have HKB := (show Hid _ from KB)
    clear KB
    by_cases hlt : k < m
    · obtain ⟨g, rfl⟩ : ∃ g, ov = some ⟨g, 0, none⟩ := by
        rcases HW.out.own.2 with ⟨_, e⟩ | ⟨g, cap, cur, e, _⟩
        · have : d.Q.length = 0 := e
          have := HM.out; omega
        · cases e; exact ⟨g, rfl⟩
      obtain ⟨W1, V, W2, C, T, a, ha, eV, hl, hs, c0, ca, hl2, hs2, hL2, hK2⟩ := flush_round HW.out k (by show k < d.Q.length; have := HM.out; omega)
      have HA := (show Hid _ from alloc64 wr)
      have H1 := (show Hid _ from hl)
      have H2 := (show Hid _ from hs)
      have H3 := (show Hid _ from hl2)
      have H4 := (show Hid _ from hs2)
      have H5 := (show Hid _ from And.intro hL2 hK2)
      have HV := (show Hid _ from eV)
      have hai : (a : Int) < (d.n : Int) := by have : a < d.n := ha; omega
      have hki : (k : Int) < (m : Int) := by omega
      replace c0 : V.cell? ⟨p, 0, none⟩ = some (.slice (some ⟨bs, 0, none⟩) d.n d.n) := c0
      clear hl hs hl2 hs2 hL2 hK2 eV ha
      go_wp2_with (first | ((with_reducible apply st_load); (case ho => rfl); (case hgd => rfl); (case hr => exact H1.out)) | ((with_reducible apply st_alloc); (case ho => rfl); (case hgd => rfl); (case hr => exact HA.out)) | ((with_reducible apply st_store); (case ho => rfl); (case hgd => rfl); (case hr => exact H2.out)))
      refine wp_region_still_tail 9 (by kernel_rfl) (by kernel_rfl) ?_
      rw [← HV.out]
      simp only [List.take_succ_cons, List.take_zero, List.drop_succ_cons, List.drop_zero]
      iterate 7 still_step
      refine sl_load rfl rfl H3.out ?_
      still_step
      refine wpStill_nil ?_
      refine st_store rfl rfl H4.out ?_
      go_wp2_with fail
      go_roundw
      case rel =>
        refine ⟨k + 1, by omega, by go_num, ?_, HKB.out.trans H5.out.2 (fun _ x => .inl x)⟩
        have e : d.Q.take (k + 1) = d.Q.take k ++ [d.Q[k]'(by have := HM.out; omega)] := List.take_succ_eq_append_getElem _
        show Lies _ _ _ _ _ _ _ _
        have e2 : flushed d.S (d.Q.take (k + 1)) = put (flushed d.S (d.Q.take k)) (d.Q[k]'(by have := HM.out; omega)).1 (d.Q[k]'(by have := HM.out; omega)).2 := by
          rw [e]; unfold flushed; rw [List.foldl_append]; rfl
        rw [e2]
        exact H5.out.1
      case measure => simp [intOf]; omega
    · have ek : k = m := by omega
      subst ek
      have hwl : Lies wr F p bs bl (.slice ov k cv) { d.burnt with S := flushed d.S d.Q } L := by
        have := HW.out
        rw [show d.Q.take k = d.Q by rw [← HM.out, List.take_length]] at this
        exact this
      have HT := (show Hid _ from settle_is hwl HQ.out)
      clear hwl HW
      go_wp2_with fail
      refine Calls.mono HT.out ?_; rintro e w3 ⟨rfl, v', h3, k3⟩
      have HE := (show Hid (∃ v', Lies w3 F p bs bl v' { d.burnt with S := flushed d.S d.Q, Q := [] } (settled (flushed d.S d.Q) L d.Q) ∧ Kept F w1 w3) from
        ⟨v', h3, (HK.out.trans HKB.out (fun _ x => .inl x)).trans k3 (fun _ x => .inl x)⟩)
      clear h3 k3 HT
      go_wp2_with fail
      go_ret
      exact ⟨rfl, HE.out⟩
end Go.Proofs.YtkhpmmmildcceaaGreat

namespace Go.Proofs.YtkhpmmmildcceaaGreat
open Go.ChangeShapes Go.WideShapes Go.ChangeAt Go.RowKit
set_option linter.unusedVariables false
set_option maxRecDepth 100000

/-- How many bytes survive. -/
def kept (k : Int) : Nat := (min (max k 0) 32).toNat
theorem kept_le (k : Int) : kept k ≤ 32 := by unfold kept; omega
theorem kept_int (k : Int) : (kept k : Int) = min (max k 0) 32 := by unfold kept; omega

/-- Sectors behind a crash: of each write its first bytes. -/
def torn (S : Nat → List UInt8) (l : List ((Nat × List UInt8) × Int)) : Nat → List UInt8 :=
  l.foldl (fun S x => put S x.1.1 (x.1.2.take (kept x.2) ++ (S x.1.1).drop (kept x.2))) S

/-- A list of numbers that came in. -/
def Ints (w : World) (v : Value) (ks : List Int) : Prop := (∃ a c, v = .slice a 0 c ∧ ks = []) ∨ ∃ b o c, v = .slice (some ⟨b, o, none⟩) ks.length c ∧ ∀ k (hk : k < ks.length), w.cell? ⟨b, o + k, none⟩ = some (.int .i64 ks[k])

theorem max_two (x : Int) (w : World) : (Builtin.max_ #[3, 3] 3 #[.int .i64 x, .int .i64 0]).run Tryz.prog w = .ok (.int .i64 (max x 0)) w := by
  simp [Builtin.max_, Builtin.max2]
  omega
theorem min_two (x : Int) (w : World) : (Builtin.min_ #[3, 3] 3 #[.int .i64 (max x 0), .int .i64 32]).run Tryz.prog w = .ok (.int .i64 (kept x : Int)) w := by
  simp [Builtin.min_, Builtin.min2]
  rw [kept_int]
  omega
theorem min_len (x y : Nat) (w : World) : (Builtin.min_ #[3, 3] 3 #[.int .i64 (x : Int), .int .i64 (y : Int)]).run Tryz.prog w = .ok (.int .i64 ((min x y : Nat) : Int)) w := by
  simp [Builtin.min_, Builtin.min2]
  omega

theorem crash_round {w : World} {F : Nat → Prop} {p bs bl g m cap : Nat} {d : Dk} {L : Nat → List UInt8} (h : Lies w F p bs bl (.slice (some ⟨g, 0, none⟩) m cap) d L) (k : Nat) (hk : k < d.Q.length) (x : Int) :
    ∃ (W1 V W2 : World) (C : Array Value) (a : Nat), a < d.n ∧ V = { W1 with drawn := W1.drawn + 1 } ∧
      (Instr.loadAt 105 (.pointer (some ⟨g, k * 33, none⟩))).run Tryz.prog w = .ok (.agg C) w ∧
      (Instr.storeAt 105 (.pointer (some ⟨w.heap.size, 0, none⟩)) (.agg C)).run Tryz.prog (w.alloc (.cells (#[.int .i64 0] ++ Array.replicate 32 (.int .u8 0)) 105)) = .ok () W1 ∧
      V.cell? ⟨p, 0, none⟩ = some (.slice (some ⟨bs, 0, none⟩) d.n d.n) ∧ V.cell? ⟨w.heap.size, 0, none⟩ = some (.int .i64 (a : Int)) ∧
      (Builtin.copy_ #[98, 98] 3 #[.slice (some ⟨bs, a * 32, none⟩) (kept x) 32, .slice (some ⟨w.heap.size, 1, none⟩) (kept x) 32]).run Tryz.prog V = .ok (.int .i64 (kept x : Int)) W2 ∧
      Lies W2 F p bs bl (.slice (some ⟨g, 0, none⟩) m cap) { d with S := put d.S d.Q[k].1 (d.Q[k].2.take (kept x) ++ (d.S d.Q[k].1).drop (kept x)) } L ∧ Kept F w W2 ∧
      Kept (fun _ => False) w W1 := by
  have hq := h.qs d.Q[k] (List.getElem_mem hk)
  have hl := h.waits k hk
  generalize d.Q[k] = q at *
  have k1 : Kept (fun _ => False) w (w.alloc (.cells (qv q).toArray 105)) := (Kept.refl _ w).alloc _
  have h1 := (h.kept k1 (fun _ _ x => x)).drew
  obtain ⟨V, hV⟩ : ∃ V, V = (w.alloc (.cells (qv q).toArray 105)).drew := ⟨_, rfl⟩
  rw [← hV] at h1
  have hS := h1.sure.len q.1 hq.1
  have hx := kept_le x
  generalize kept x = c at *
  have ht : (q.2.take c).length = c := by simp; omega
  have hset := h1.setSure hq.1 (q.2.take c) (by omega)
  rw [ht] at hset
  obtain ⟨i, hi, hz, hi1, hi2⟩ : ∃ i, Tryz.prog.info? 5 = some i ∧ i.zero = some (.int .u8 0) ∧ i.size = 1 ∧ i.bytes = 1 := info_of (by kernel_rfl)
  have hcp := run_copy_cells (P := Tryz.prog) V 98 98 3 5 bs (q.1 * 32) c 32 ⟨w.heap.size, 1, none⟩ c 32 (bv (q.2.take c)) Tryz.underlying98 (by rw [hi]; simp [hi1]) (by rw [bv_len, ht]; simp)
    (fun j v hv => by
      rw [Go.WideShapes.add_plain]
      refine copied_text w q hq.2 V (by rw [hV]; rfl) j v ?_
      rw [bv_take, List.getElem?_take] at hv
      split at hv
      · exact hv
      · cases hv)
    (fun j hj => h1.sure.some_at hq.1 (by rw [bv_len, ht] at hj; omega)) (fun j _ => h1.sure.free _) (bv_one _)
  rw [bv_len, ht] at hcp
  refine ⟨_, V, _, _, q.1, hq.1, hV, hl, copied w q hq.2, h1.c0, by rw [hV]; exact copied_cell w q, hcp, hset, ?_, k1⟩
  refine Kept.setCells (.inl h.fs) _ _ _ ?_
  rw [hV]
  exact (k1.mono (fun _ x => x.elim)).drew

theorem crash_no (v u : Value) (w : World) (h : Szd w v 0) : Calls Tryz.prog 24 #[v, u] w fun e w' => e = .returned (.int .i64 1) ∧ w' = w := by
  have H := (show Hid _ from size_is v 0 w h)
  clear h
  go_enter Tryz.func24, Tryz.ntmps24
  go_wp2_with fail
  refine Calls.mono H.out ?_; rintro e w1 ⟨rfl, rfl⟩
  go_wp2_with fail
  go_ret
  exact ⟨rfl, rfl⟩

theorem crash_one {w : World} {F : Nat → Prop} {p bs bl g m cap : Nat} {d : Dk} {L : Nat → List UInt8} (h : Lies w F p bs bl (.slice (some ⟨g, 0, none⟩) m cap) d L) (hcap : cap ≠ 0) (hQ : d.Q.length ≤ 1048576)
    (b o c : Nat) (ks : List Int) (hb : ∀ k (hk : k < ks.length), w.cell? ⟨b, o + k, none⟩ = some (.int .i64 ks[k])) (hF : ¬ F b) (hkl : ks.length ≤ 9223372036854775807) :
    Calls Tryz.prog 24 #[.pointer (some ⟨p, 0, none⟩), .slice (some ⟨b, o, none⟩) ks.length c] w fun e w' => e = .returned (.int .i64 0) ∧
      ∃ v', Lies w' F p bs bl v' { d with S := torn d.S (d.Q.zip ks), Q := [], fuse := -1, off := false } (settled (torn d.S (d.Q.zip ks)) L d.Q) ∧ Kept F w w' := by
  have H := (show Hid _ from size_is _ d.n w (.inr ⟨p, _, _, rfl, h.c1⟩))
  have hn : ((d.n : Int) == 0) = false := by have := h.n1; simp; omega
  have hc2 := h.c2
  have em : m = d.Q.length := by
    obtain ⟨o, c, e⟩ := h.form
    cases e; rfl
  have hmc : m ≤ cap := by
    rcases h.own.2 with ⟨e, _⟩ | ⟨g', cap', cur, e, _, _, e1, _⟩
    · cases e
    · cases e; omega
  have HM := (show Hid _ from em)
  have HL := (show Hid _ from h)
  have HQ := (show Hid _ from hQ)
  have HB := (show Hid _ from And.intro hb hF)
  have hcm : cap ≤ 9223372036854775807 := by
    rcases h.own.2 with ⟨e, _⟩ | ⟨g', cap', cur, e, _, _, _, e1, _⟩
    · cases e
    · cases e; simpa [maxLen] using e1
  obtain ⟨kl, ekl⟩ : ∃ kl, ks.length = kl := ⟨_, rfl⟩
  have HK := (show Hid _ from ekl)
  rw [ekl] at hkl
  rw [ekl]
  have hmin := min_len kl m
  obtain ⟨mm, emm⟩ : ∃ mm, min kl m = mm := ⟨_, rfl⟩
  rw [emm] at hmin
  have HN := (show Hid _ from emm)
  have hmm : mm ≤ cap := by omega
  have hm1 : m ≤ 1048576 := by omega
  have hmm1 : mm ≤ 1048576 := by omega
  clear h hb hF hQ em ekl emm
  go_enter Tryz.func24, Tryz.ntmps24
  go_wp2_with fail
  refine Calls.mono H.out ?_; rintro e w1 ⟨rfl, rfl⟩
  go_wp2_with fail
  refine wp_region_still_lit (by kernel_rfl) (by kernel_rfl) ?_
  rw [show ({ w1 with drawn := w1.drawn + 1 } : World) = w1.drew from rfl]
  iterate 15 still_step
  refine wpStill_nil ?_
  go_wp2_with fail
  go_loopw [25] (fun i wr => ∃ k : Nat, k ≤ mm ∧ i = .int .i64 k ∧ Hid (Lies wr F p bs bl (.slice (some ⟨g, 0, none⟩) m cap) { d with S := torn d.S ((d.Q.zip ks).take k) } L) ∧ Kept F w1 wr)
    (fun i _ => mm - (intOf i).toNat)
  case atStart => exact ⟨0, Nat.zero_le _, rfl, HL.out.drew, (Kept.refl _ _).drew⟩
  case round =>
    obtain ⟨k, hk, rfl, HW, KB⟩ := hrel
    have HKB := (show Hid _ from KB)
    clear KB
    by_cases hlt : k < mm
    · have hkQ : k < d.Q.length := by have := HM.out; have := HN.out; omega
      have hkK : k < ks.length := by have := HK.out; have := HN.out; omega
      obtain ⟨W1, V, W2, C, a, ha, eV, hl, hs, c0, ca, hcp, hL2, hK2, hK3⟩ := crash_round HW.out k hkQ ks[k]
      have ck : W1.cell? ⟨b, o + k, none⟩ = some (.int .i64 ks[k]) := hK3.cell (HKB.out.cell (HB.out.1 k hkK) HB.out.2) (fun q => q)
      have HA := (show Hid _ from alloc64 wr)
      have H1 := (show Hid _ from hl)
      have H2 := (show Hid _ from hs)
      have H4 := (show Hid _ from hcp)
      have H5 := (show Hid _ from And.intro hL2 hK2)
      have HV := (show Hid _ from eV)
      have hai : (a : Int) < (d.n : Int) := by have : a < d.n := ha; omega
      have hki : (k : Int) < (mm : Int) := by omega
      have hkk : (k : Int) < (kl : Int) := by have := HK.out; omega
      have hmx := max_two ks[k]
      have hmn := min_two ks[k]
      have hcx : (kept ks[k] : Int) ≤ 32 := by have := kept_le ks[k]; omega
      replace c0 : V.cell? ⟨p, 0, none⟩ = some (.slice (some ⟨bs, 0, none⟩) d.n d.n) := c0
      clear hl hs hcp hL2 hK2 hK3 eV ha
      have HZ : Hid ((d.Q.zip ks).take (k + 1) = (d.Q.zip ks).take k ++ [(d.Q[k], ks[k])]) := by
        show _ = _
        rw [List.take_succ_eq_append_getElem (by simp; omega)]
        simp
      clear hmin
      generalize ks[k] = x at *
      generalize max x 0 = y at *
      obtain ⟨cx, ecx⟩ : ∃ cx, kept x = cx := ⟨_, rfl⟩
      have HCX := (show Hid _ from ecx)
      rw [ecx] at H4 hmn hcx
      clear ecx
      go_wp2_with (first | ((with_reducible apply st_load); (case ho => rfl); (case hgd => rfl); (case hr => exact H1.out)) | ((with_reducible apply st_alloc); (case ho => rfl); (case hgd => rfl); (case hr => exact HA.out)) | ((with_reducible apply st_store); (case ho => rfl); (case hgd => rfl); (case hr => exact H2.out)))
      refine wp_region_still_tail 12 (by kernel_rfl) (by kernel_rfl) ?_
      rw [← HV.out]
      simp only [List.take_succ_cons, List.take_zero, List.drop_succ_cons, List.drop_zero]
      iterate 12 still_step
      refine wpStill_nil ?_
      refine st_copy rfl rfl H4.out ?_
      go_wp2_with fail
      go_roundw
      case rel =>
        refine ⟨k + 1, by omega, by go_num, ?_, HKB.out.trans H5.out.2 (fun _ x => .inl x)⟩
        show Lies _ _ _ _ _ _ _ _
        rw [HZ.out]
        unfold torn
        rw [List.foldl_append]
        exact H5.out.1
      case measure => simp [intOf]; omega
    · have ek : k = mm := by omega
      subst ek
      have hwl : Lies wr F p bs bl (.slice (some ⟨g, 0, none⟩) m cap) { d with S := torn d.S (d.Q.zip ks) } L := by
        have := HW.out
        rw [show (d.Q.zip ks).take k = d.Q.zip ks from List.take_of_length_le (by
          have := HM.out; have := HK.out; have := HN.out
          rw [List.length_zip]; omega)] at this
        exact this
      have HT := (show Hid _ from settle_is hwl HQ.out)
      clear hwl HW hmin
      go_wp2_with fail
      refine Calls.mono HT.out ?_; rintro e w3 ⟨rfl, v', h3, k3⟩
      have c3 := h3.c3
      have c4 := h3.c4
      have f3 := h3.free 3
      have f4 := h3.free 4
      have k4 : Kept (fun i => i = p) w3 ((w3.setCell ⟨p, 4, none⟩ (.bool false)).setCell ⟨p, 3, none⟩ (.int .i64 (-1))) := ((Kept.refl (fun i => i = p) w3).setCell (p := ⟨p, 4, none⟩) (.inl rfl) _).setCell (p := ⟨p, 3, none⟩) (.inl rfl) _
      have h4 := h3.field k4 (fun j hj => by
          rw [World.cell?_setCell_other _ _ _ _ (fun e => by cases e; omega), World.cell?_setCell_other _ _ _ _ (fun e => by cases e; omega)]) (fun j => by simp) (-1) false
          (World.cell?_setCell_same _ _ _ ((World.cell?_setCell_other _ _ _ _ (fun e => by cases e)).trans c3)) (by
            rw [World.cell?_setCell_other _ _ _ _ (fun e => by cases e)]
            exact World.cell?_setCell_same _ _ _ c4) (by simp)
      have HE := (show Hid (∃ v', Lies ((w3.setCell ⟨p, 4, none⟩ (.bool false)).setCell ⟨p, 3, none⟩ (.int .i64 (-1))) F p bs bl v' { d with S := torn d.S (d.Q.zip ks), Q := [], fuse := -1, off := false } (settled (torn d.S (d.Q.zip ks)) L d.Q) ∧ Kept F w1 ((w3.setCell ⟨p, 4, none⟩ (.bool false)).setCell ⟨p, 3, none⟩ (.int .i64 (-1)))) from
        ⟨v', h4, (HKB.out.trans k3 (fun _ x => .inl x)).trans (k4.mono (fun i hi => by rw [hi]; exact h3.fp)) (fun _ x => .inl x)⟩)
      clear h3 k3 k4 h4 HT
      go_wp2_with fail
      go_ret
      exact ⟨rfl, HE.out⟩
end Go.Proofs.YtkhpmmmildcceaaGreat

namespace Go.Proofs.YtkhpmmmildcceaaGreat
open Go.ChangeShapes Go.WideShapes Go.ChangeAt Go.RowKit
set_option linter.unusedVariables false
set_option maxRecDepth 100000

theorem crash_end {w3 : World} {F : Nat → Prop} {p bs bl : Nat} {v : Value} {d : Dk} {L : Nat → List UInt8} (h3 : Lies w3 F p bs bl v d L) :
    Lies ((w3.setCell ⟨p, 4, none⟩ (.bool false)).setCell ⟨p, 3, none⟩ (.int .i64 (-1))) F p bs bl v { d with fuse := -1, off := false } L ∧ Kept F w3 ((w3.setCell ⟨p, 4, none⟩ (.bool false)).setCell ⟨p, 3, none⟩ (.int .i64 (-1))) := by
  have k4 : Kept (fun i => i = p) w3 ((w3.setCell ⟨p, 4, none⟩ (.bool false)).setCell ⟨p, 3, none⟩ (.int .i64 (-1))) := ((Kept.refl (fun i => i = p) w3).setCell (p := ⟨p, 4, none⟩) (.inl rfl) _).setCell (p := ⟨p, 3, none⟩) (.inl rfl) _
  have h4 := h3.field k4 (fun j hj => by
      rw [World.cell?_setCell_other _ _ _ _ (fun e => by cases e; omega), World.cell?_setCell_other _ _ _ _ (fun e => by cases e; omega)]) (fun j => by simp) (-1) false
      (World.cell?_setCell_same _ _ _ ((World.cell?_setCell_other _ _ _ _ (fun e => by cases e)).trans h3.c3)) (by
        rw [World.cell?_setCell_other _ _ _ _ (fun e => by cases e)]
        exact World.cell?_setCell_same _ _ _ h3.c4) (by simp)
  exact ⟨h4, k4.mono (fun i hi => by rw [hi]; exact h3.fp)⟩

theorem crash_zero {w : World} {F : Nat → Prop} {p bs bl : Nat} {v : Value} {d : Dk} {L : Nat → List UInt8} (h : Lies w F p bs bl v d L) (hQ : d.Q.length ≤ 1048576) (ko : Option Addr) (kl kc : Nat) (h0 : kl = 0 ∨ d.Q = []) :
    Calls Tryz.prog 24 #[.pointer (some ⟨p, 0, none⟩), .slice ko kl kc] w fun e w' => e = .returned (.int .i64 0) ∧
      ∃ v', Lies w' F p bs bl v' { d with Q := [], fuse := -1, off := false } (settled d.S L d.Q) ∧ Kept F w w' := by
  have H := (show Hid _ from size_is _ d.n w (.inr ⟨p, _, _, rfl, h.c1⟩))
  have hn : ((d.n : Int) == 0) = false := by have := h.n1; simp; omega
  have HT := (show Hid _ from settle_is h.drew hQ)
  have hform : v = .slice none 0 0 ∨ ∃ g c, v = .slice (some ⟨g, 0, none⟩) d.Q.length c := by
    rcases h.own.2 with ⟨e, _⟩ | ⟨g, cap, cur, e, _⟩
    · exact .inl e
    · exact .inr ⟨g, cap, e⟩
  have hc2 := h.c2
  rcases hform with rfl | ⟨g, c, rfl⟩
  · have hmin : ∀ w, (Builtin.min_ #[3, 3] 3 #[.int .i64 (kl : Int), .int .i64 0]).run Tryz.prog w = .ok (.int .i64 0) w := fun w => by
      have := min_len kl 0 w
      rw [show min kl 0 = 0 by omega] at this
      exact this
    clear h hQ h0
    go_enter Tryz.func24, Tryz.ntmps24
    go_wp2_with fail
    refine Calls.mono H.out ?_; rintro e w1 ⟨rfl, rfl⟩
    go_wp2_with fail
    refine wp_region_still_lit (by kernel_rfl) (by kernel_rfl) ?_
    rw [show ({ w1 with drawn := w1.drawn + 1 } : World) = w1.drew from rfl]
    iterate 15 still_step
    refine wpStill_nil ?_
    go_wp2_with fail
    go_loopw [25] (fun i wr => i = .int .i64 0 ∧ wr = w1.drew) (fun i _ => 0)
    case atStart => exact ⟨rfl, rfl⟩
    case round =>
      obtain ⟨rfl, rfl⟩ := hrel
      clear hmin
      go_wp2_with fail
      refine Calls.mono HT.out ?_; rintro e w3 ⟨rfl, v', h3, k3⟩
      have c3 := h3.c3
      have c4 := h3.c4
      have f3 := h3.free 3
      have f4 := h3.free 4
      have HE := (show Hid _ from crash_end h3)
      have HK := (show Hid _ from k3)
      clear h3 k3 HT
      go_wp2_with fail
      go_ret
      exact ⟨rfl, v', HE.out.1, ((Kept.refl _ w1).drew.trans HK.out (fun _ x => .inl x)).trans HE.out.2 (fun _ x => .inl x)⟩
  · have hmin := min_len kl d.Q.length
    rw [show min kl d.Q.length = 0 by rcases h0 with e | e <;> simp [e]] at hmin
    obtain ⟨m, em⟩ : ∃ m, d.Q.length = m := ⟨_, rfl⟩
    rw [em] at hmin hc2
    clear h hQ h0 em
    by_cases hc : c = 0
    · subst hc
      go_enter Tryz.func24, Tryz.ntmps24
      go_wp2_with fail
      refine Calls.mono H.out ?_; rintro e w1 ⟨rfl, rfl⟩
      go_wp2_with fail
      refine wp_region_still_lit (by kernel_rfl) (by kernel_rfl) ?_
      rw [show ({ w1 with drawn := w1.drawn + 1 } : World) = w1.drew from rfl]
      iterate 15 still_step
      refine wpStill_nil ?_
      go_wp2_with fail
      go_loopw [25] (fun i wr => i = .int .i64 0 ∧ wr = w1.drew) (fun i _ => 0)
      case atStart => exact ⟨rfl, rfl⟩
      case round =>
        obtain ⟨rfl, rfl⟩ := hrel
        clear hmin
        go_wp2_with fail
        refine Calls.mono HT.out ?_; rintro e w3 ⟨rfl, v', h3, k3⟩
        have c3 := h3.c3
        have c4 := h3.c4
        have f3 := h3.free 3
        have f4 := h3.free 4
        have HE := (show Hid _ from crash_end h3)
        have HK := (show Hid _ from k3)
        clear h3 k3 HT
        go_wp2_with fail
        go_ret
        exact ⟨rfl, v', HE.out.1, ((Kept.refl _ w1).drew.trans HK.out (fun _ x => .inl x)).trans HE.out.2 (fun _ x => .inl x)⟩
    · have hci : ¬ (c : Int) = 0 := by omega
      go_enter Tryz.func24, Tryz.ntmps24
      go_wp2_with fail
      refine Calls.mono H.out ?_; rintro e w1 ⟨rfl, rfl⟩
      go_wp2_with fail
      refine wp_region_still_lit (by kernel_rfl) (by kernel_rfl) ?_
      rw [show ({ w1 with drawn := w1.drawn + 1 } : World) = w1.drew from rfl]
      iterate 15 still_step
      refine wpStill_nil ?_
      go_wp2_with fail
      go_loopw [25] (fun i wr => i = .int .i64 0 ∧ wr = w1.drew) (fun i _ => 0)
      case atStart => exact ⟨rfl, rfl⟩
      case round =>
        obtain ⟨rfl, rfl⟩ := hrel
        clear hmin
        go_wp2_with fail
        refine Calls.mono HT.out ?_; rintro e w3 ⟨rfl, v', h3, k3⟩
        have c3 := h3.c3
        have c4 := h3.c4
        have f3 := h3.free 3
        have f4 := h3.free 4
        have HE := (show Hid _ from crash_end h3)
        have HK := (show Hid _ from k3)
        clear h3 k3 HT
        go_wp2_with fail
        go_ret
        exact ⟨rfl, v', HE.out.1, ((Kept.refl _ w1).drew.trans HK.out (fun _ x => .inl x)).trans HE.out.2 (fun _ x => .inl x)⟩

/-- Crash. -/
theorem crash_lies {w : World} {F : Nat → Prop} {p bs bl : Nat} {v : Value} {d : Dk} {L : Nat → List UInt8} (h : Lies w F p bs bl v d L) (hQ : d.Q.length ≤ 1048576) (u : Value) (ks : List Int) (hu : Ints w u ks)
    (hF : ∀ a n c, u = .slice (some a) n c → ¬ F a.block) (hkl : ks.length ≤ 9223372036854775807) :
    Calls Tryz.prog 24 #[.pointer (some ⟨p, 0, none⟩), u] w fun e w' => e = .returned (.int .i64 0) ∧
      ∃ v', Lies w' F p bs bl v' { d with S := torn d.S (d.Q.zip ks), Q := [], fuse := -1, off := false } (settled (torn d.S (d.Q.zip ks)) L d.Q) ∧ Kept F w w' := by
  have zero : ∀ ko kc, (ks = [] ∨ d.Q = []) → Calls Tryz.prog 24 #[.pointer (some ⟨p, 0, none⟩), .slice ko ks.length kc] w fun e w' => e = .returned (.int .i64 0) ∧
      ∃ v', Lies w' F p bs bl v' { d with S := torn d.S (d.Q.zip ks), Q := [], fuse := -1, off := false } (settled (torn d.S (d.Q.zip ks)) L d.Q) ∧ Kept F w w' := by
    intro ko kc h0
    have e : d.Q.zip ks = [] := by rcases h0 with e | e <;> simp [e]
    rw [e]
    exact crash_zero h hQ ko ks.length kc (h0.imp (fun e => by rw [e]; rfl) id)
  rcases hu with ⟨a, c, rfl, rfl⟩ | ⟨b, o, c, rfl, hb⟩
  · exact zero a c (.inl rfl)
  · by_cases hq : d.Q = []
    · exact zero _ _ (.inr hq)
    · rcases h.own.2 with ⟨_, e⟩ | ⟨g, cap, cur, e, _, _, hcap, _⟩
      · exact absurd (List.length_eq_zero_iff.1 e) hq
      · subst e
        have : 0 < d.Q.length := List.length_pos_iff.2 hq
        exact crash_one h (by omega) hQ b o c ks hb (hF _ _ _ rfl) hkl
end Go.Proofs.YtkhpmmmildcceaaGreat

namespace Go.Proofs.YtkhpmmmildcceaaGreat
open Go.ChangeShapes Go.WideShapes Go.ChangeAt Go.RowKit
set_option linter.unusedVariables false
set_option maxRecDepth 100000

/-- Whether there is power for a write or a flush. -/
def Dk.on (d : Dk) : Bool := (burn d.fuse d.off).2.2
def Dk.write (d : Dk) (a : Nat) (t : List UInt8) : Dk := if d.on then { d.burnt with Q := d.Q ++ [(a, t)] } else d.burnt
def Dk.flush (d : Dk) : Dk := if d.on then { d.burnt with S := flushed d.S d.Q, Q := [] } else d.burnt
def Dk.crash (d : Dk) (ks : List Int) : Dk := { d with S := torn d.S (d.Q.zip ks), Q := [], fuse := -1, off := false }
def Dk.setFuse (d : Dk) (n : Int) : Dk := { d with fuse := max n (-1) }

/-- New blocks of a disk are new. -/
def Grew (F F' : Nat → Prop) (w : World) : Prop := ∀ k, F' k → F k ∨ w.heap.size ≤ k

theorem last_write (S : Nat → List UInt8) (Q : List (Nat × List UInt8)) (a : Nat) (t : List UInt8) : put (fun i => behind (S i) i Q) a t = fun i => behind (S i) i (Q ++ [(a, t)]) := by
  funext i
  unfold put behind
  rw [List.foldl_append]
  simp only [List.foldl_cons, List.foldl_nil]
  by_cases h : i = a
  · rw [if_pos h, if_pos h.symm]
  · rw [if_neg h, if_neg (fun e => h e.symm)]

theorem torn_out (l : List ((Nat × List UInt8) × Int)) (i : Nat) (h : ∀ x, x ∈ l → x.1.1 ≠ i) : ∀ S : Nat → List UInt8, torn S l i = S i := by
  unfold torn
  induction l with
  | nil => intro S; rfl
  | cons x r ih =>
    intro S
    rw [List.foldl_cons, ih (fun y hy => h y (by simp [hy]))]
    unfold put
    rw [if_neg (fun e => h x (by simp) e.symm)]

theorem settle_torn (S : Nat → List UInt8) (Q : List (Nat × List UInt8)) (ks : List Int) : settled (torn S (Q.zip ks)) (fun i => behind (S i) i Q) Q = torn S (Q.zip ks) := by
  funext i
  rcases settled_at (torn S (Q.zip ks)) Q i (fun i => behind (S i) i Q) with h | ⟨h, hq⟩
  · exact h
  · rw [h, behind_out _ _ _ hq, torn_out]
    intro x hx
    exact hq x.1 (List.of_mem_zip hx).1

theorem disk_write {w : World} {F : Nat → Prop} {p : Nat} {d : Dk} (h : Disk w F p d) (a : Nat) (ha : a < d.n) (s : ByteArray) (hs : s.size = 32) (hn : d.Q.length < 1048576) :
    Calls Tryz.prog 72 #[.pointer (some ⟨p, 0, none⟩), .int .i64 (a : Int), .string s] w fun e w' => e = .returned (.int .i64 (if d.on then 0 else 30)) ∧
      ∃ F', Disk w' F' p (d.write a s.data.toList) ∧ Kept F w w' ∧ Grew F F' w := by
  obtain ⟨bs, bl, v, h⟩ := h
  unfold Dk.write
  cases hb : d.on with
  | true =>
    refine (write_on h a ha s hs hb hn).mono ?_
    rintro e w' ⟨rfl, v', F', h1, h2, h3⟩
    refine ⟨rfl, F', ⟨bs, bl, v', ?_⟩, h2, h3⟩
    have e := last_write d.S d.Q a s.data.toList
    have : put d.last a s.data.toList = Dk.last { d.burnt with Q := d.Q ++ [(a, s.data.toList)] } := e
    rw [this] at h1
    exact h1
  | false =>
    refine (write_off h a ha s hs hb).mono ?_
    rintro e w' ⟨rfl, h1, h2, h3⟩
    exact ⟨rfl, F, ⟨bs, bl, v, h1⟩, h2, fun k hk => .inl hk⟩

theorem disk_flush {w : World} {F : Nat → Prop} {p : Nat} {d : Dk} (h : Disk w F p d) (hn : d.Q.length ≤ 1048576) :
    Calls Tryz.prog 77 #[.pointer (some ⟨p, 0, none⟩)] w fun e w' => e = .returned (.int .i64 (if d.on then 0 else 30)) ∧ Disk w' F p d.flush ∧ Kept F w w' := by
  obtain ⟨bs, bl, v, h⟩ := h
  unfold Dk.flush
  cases hb : d.on with
  | true =>
    refine (flush_on h hb hn).mono ?_
    rintro e w' ⟨rfl, v', h1, h2⟩
    refine ⟨rfl, ⟨bs, bl, v', ?_⟩, h2⟩
    have e : settled (flushed d.S d.Q) d.last d.Q = Dk.last { d.burnt with S := flushed d.S d.Q, Q := [] } := settle_flushed d.S d.Q
    rw [e] at h1
    exact h1
  | false =>
    refine (flush_off h hb).mono ?_
    rintro e w' ⟨rfl, h1, h2, h3⟩
    exact ⟨rfl, ⟨bs, bl, v, h1⟩, h2⟩

theorem disk_crash {w : World} {F : Nat → Prop} {p : Nat} {d : Dk} (h : Disk w F p d) (hn : d.Q.length ≤ 1048576) (u : Value) (ks : List Int) (hu : Ints w u ks)
    (hF : ∀ a n c, u = .slice (some a) n c → ¬ F a.block) (hkl : ks.length ≤ 9223372036854775807) :
    Calls Tryz.prog 24 #[.pointer (some ⟨p, 0, none⟩), u] w fun e w' => e = .returned (.int .i64 0) ∧ Disk w' F p (d.crash ks) ∧ Kept F w w' := by
  obtain ⟨bs, bl, v, h⟩ := h
  refine (crash_lies h hn u ks hu hF hkl).mono ?_
  rintro e w' ⟨rfl, v', h1, h2⟩
  refine ⟨rfl, ⟨bs, bl, v', ?_⟩, h2⟩
  have e : settled (torn d.S (d.Q.zip ks)) d.last d.Q = (d.crash ks).last := settle_torn d.S d.Q ks
  rw [e] at h1
  exact h1

theorem max_fuse (n : Int) (w : World) : (Builtin.max_ #[3, 3] 3 #[.int .i64 n, .int .i64 (-1)]).run Tryz.prog w = .ok (.int .i64 (max n (-1))) w := by
  simp [Builtin.max_, Builtin.max2]
  omega

theorem disk_fuse {w : World} {F : Nat → Prop} {p : Nat} {d : Dk} (h : Disk w F p d) (n : Int) (hn : n ≤ 9223372036854775807) :
    Calls Tryz.prog 43 #[.pointer (some ⟨p, 0, none⟩), .int .i64 n] w fun e w' => e = .returned (.int .i64 0) ∧ Disk w' F p (d.setFuse n) ∧ Kept F w w' := by
  have H := (show Hid _ from size_is _ d.n w h.szd)
  obtain ⟨bs, bl, v, h⟩ := h
  have hz : ((d.n : Int) == 0) = false := by have := h.n1; simp; omega
  have c3 := h.c3
  have f3 := h.free 3
  have k : Kept (fun i => i = p) w (w.setCell ⟨p, 3, none⟩ (.int .i64 (max n (-1)))) := (Kept.refl (fun i => i = p) w).setCell (p := ⟨p, 3, none⟩) (.inl rfl) _
  have h1 := h.field k (fun j hj => World.cell?_setCell_other _ _ _ _ (fun e => by cases e; omega)) (fun j => by simp) (max n (-1)) d.off
    (World.cell?_setCell_same _ _ _ c3) ((World.cell?_setCell_other _ _ _ _ (fun e => by cases e)).trans h.c4) (by omega)
  have HE := (show Hid (Disk (w.setCell ⟨p, 3, none⟩ (.int .i64 (max n (-1)))) F p (d.setFuse n) ∧ Kept F w (w.setCell ⟨p, 3, none⟩ (.int .i64 (max n (-1))))) from ⟨⟨bs, bl, v, h1⟩, k.mono (fun i hi => by rw [hi]; exact h.fp)⟩)
  have hm := max_fuse n
  clear h h1 k
  generalize max n (-1) = y at *
  go_enter Tryz.func43, Tryz.ntmps43
  go_wp2_with fail
  refine Calls.mono H.out ?_; rintro e w1 ⟨rfl, rfl⟩
  go_wp2_with fail
  go_ret
  exact ⟨rfl, HE.out⟩

theorem disk_size {w : World} {F : Nat → Prop} {p : Nat} {d : Dk} (h : Disk w F p d) : Calls Tryz.prog 30 #[.pointer (some ⟨p, 0, none⟩)] w fun e w' => e = .returned (.int .i64 (d.n : Int)) ∧ w' = w := size_is _ _ w h.szd
theorem disk_off {w : World} {F : Nat → Prop} {p : Nat} {d : Dk} (h : Disk w F p d) : Calls Tryz.prog 32 #[.pointer (some ⟨p, 0, none⟩)] w fun e w' => e = .returned (.bool d.off) ∧ w' = w := by
  obtain ⟨bs, bl, v, h⟩ := h
  exact off_at p d.off w h.c4
theorem Disk.bound {w : World} {F : Nat → Prop} {p : Nat} {d : Dk} (h : Disk w F p d) : ∀ k, F k → k < w.heap.size := by
  obtain ⟨bs, bl, v, h⟩ := h
  exact h.lt
theorem Disk.sized {w : World} {F : Nat → Prop} {p : Nat} {d : Dk} (h : Disk w F p d) : 1 ≤ d.n ∧ d.n ≤ 4096 := by
  obtain ⟨bs, bl, v, h⟩ := h
  exact ⟨h.n1, h.n2⟩
end Go.Proofs.YtkhpmmmildcceaaGreat
