/- What settle leaves in memory. -/
import Derived.Test.YtbjijacpgklegaaWrite
namespace Go.Proofs.Ytbjijacpgklegaa
open Go.ChangeShapes Go.WideShapes Go.ChangeAt Go.RowKit
set_option linter.unusedVariables false
set_option maxRecDepth 100000

theorem flat_at (Q : List (Nat × List UInt8)) (h : ∀ q, q ∈ Q → q.2.length = 32) : ∀ (k : Nat) (hk : k < Q.length) (j : Nat), j < 33 → (Q.flatMap qv)[k * 33 + j]? = (qv Q[k])[j]? := by
  induction Q with
  | nil => intro k hk; cases hk
  | cons q r ih =>
    intro k hk j hj
    have hq : (qv q).length = 33 := by simp [qv, bv_len, h q (by simp)]
    rw [List.flatMap_cons]
    cases k with
    | zero =>
      rw [Nat.zero_mul, Nat.zero_add, List.getElem?_append_left (by omega)]
      rfl
    | succ k =>
      rw [List.getElem?_append_right (by omega), hq, show (k + 1) * 33 + j - 33 = k * 33 + j by omega]
      exact ih (fun x hx => h x (by simp [hx])) k (by simpa using hk) j hj

/-- A write that waits, as it is read out of the list. -/
theorem Lies.waits {w : World} {F : Nat → Prop} {p bs bl g m cap : Nat} {d : Dk} {L : Nat → List UInt8} (h : Lies w F p bs bl (.slice (some ⟨g, 0, none⟩) m cap) d L) (k : Nat) (hk : k < d.Q.length) :
    (Instr.loadAt 103 (.pointer (some ⟨g, k * 33, none⟩))).run Try.prog w = .ok (.agg (qv d.Q[k]).toArray) w := by
  have hq := (h.qs d.Q[k] (List.getElem_mem hk)).2
  have hl : (qv d.Q[k]).length = 33 := by simp [qv, bv_len, hq]
  refine load64 (qv d.Q[k]) hl (fun j x hx => ?_)
  have hj : j < 33 := by
    have := (List.getElem?_eq_some_iff.1 hx).1
    omega
  have hc := h.own.cells (g := g) rfl (k * 33 + j) x (by rw [flat_at d.Q (fun q hq => (h.qs q hq).2) k hk j hj]; exact hx)
  rw [Go.WideShapes.add_plain, Nat.zero_add] at hc
  exact hc

/-- The variable of a range's round: a write, copied. -/
theorem copied (w : World) (q : Nat × List UInt8) (hq : q.2.length = 32) : (Instr.storeAt 103 (.pointer (some ⟨w.heap.size, 0, none⟩)) (.agg (qv q).toArray)).run Try.prog (w.alloc (.cells (#[.int .i64 0] ++ Array.replicate 32 (.int .u8 0)) 103)) = .ok () (w.alloc (.cells (qv q).toArray 103)) :=
  store64 (w := w) _ _ (by simp [qv, bv_len, hq]) (by simp) (by simpa using qv_one q)

theorem copied_cell (w : World) (q : Nat × List UInt8) : (w.alloc (.cells (qv q).toArray 103)).cell? ⟨w.heap.size, 0, none⟩ = some (.int .i64 (q.1 : Int)) := by
  rw [World.cell?_alloc_new]; simp [qv]
theorem copied_text (w : World) (q : Nat × List UInt8) (hq : q.2.length = 32) (V : World) (hV : V.heap = (w.alloc (.cells (qv q).toArray 103)).heap) : ∀ j x, (bv q.2)[j]? = some x → V.cell? ⟨w.heap.size, 1 + j, none⟩ = some x := by
  intro j x hx
  have : V.cell? ⟨w.heap.size, 1 + j, none⟩ = (w.alloc (.cells (qv q).toArray 103)).cell? ⟨w.heap.size, 1 + j, none⟩ := by unfold World.cell?; rw [hV]
  rw [this, World.cell?_alloc_new, Nat.add_comm 1 j]
  simpa [qv] using hx

theorem Lies.sureLoad {w : World} {F : Nat → Prop} {p bs bl : Nat} {v : Value} {d : Dk} {L : Nat → List UInt8} (h : Lies w F p bs bl v d L) (a : Nat) (ha : a < d.n) :
    (Instr.loadAt 101 (.pointer (some ⟨bs, a * 32, none⟩))).run Try.prog w = .ok (.agg (bv (d.S a)).toArray) w :=
  load62 (bv (d.S a)) (by rw [bv_len, h.sure.len a ha]) (fun j x hx => h.sure.cell a ha j x hx)

theorem heap_setCells_same {g : Nat} : ∀ (vs : List Value) (o : Nat) (w : World) (cur : Array Value) (t : TypeId) (f : Nat × Nat), w.heap[g]? = some (.cells cur t f) → ∃ cur', (w.setCells g o vs).heap[g]? = some (.cells cur' t f) ∧ cur'.size = cur.size
  | [], _, _, cur, _, _, h => ⟨cur, h, rfl⟩
  | v :: r, o, w, cur, t, f, h => by
    have h1 : (w.setCell ⟨g, o, none⟩ v).heap[g]? = some (.cells (cur.setIfInBounds o v) t f) := by
      simp [World.setCell, Array.getElem?_modify, h]
    obtain ⟨c, hc, hs⟩ := heap_setCells_same r (o + 1) _ _ t f h1
    exact ⟨c, hc, by rw [hs]; simp⟩

theorem zero_one (n : Nat) : ∀ v ∈ (Builtin.zeroCells (#[.int .i64 0] ++ Array.replicate 32 (.int .u8 0)) n).toList, v.oneCell' = true := by
  intro v hv
  simp only [Builtin.zeroCells, Array.toList_map, List.mem_map] at hv
  obtain ⟨i, _, rfl⟩ := hv
  have hz : (#[.int .i64 0] ++ Array.replicate 32 (.int .u8 0) : Array Value).size = 33 := by simp
  rw [hz]
  have hlt : i % 33 < 33 := Nat.mod_lt _ (by omega)
  rw [getElem!_pos _ (i % 33) (by omega)]
  have hm := Array.getElem_mem (xs := (#[.int .i64 0] ++ Array.replicate 32 (.int .u8 0) : Array Value)) (i := i % 33) (by omega)
  generalize (#[.int .i64 0] ++ Array.replicate 32 (.int .u8 0) : Array Value)[i % 33] = u at *
  simp at hm
  rcases hm with rfl | rfl <;> rfl

theorem zero_run {P : Program} {t : TypeId} {i : TypeInfo} {v : Value} (hi : P.info? t = some i) (hz : i.zero = some v) (w : World) : (zeroValue t).run P w = .ok v w := by
  simp [zeroValue, typeInfo, hi, hz]
theorem run_clear_rows {P : Program} {w W : World} (t e ty : TypeId) (z : Value) (ht : P.underlying t = some (.slice e)) (hv : (zeroValue e).run P w = .ok z w) (b n c : Nat)
    (hst : (storeCells ⟨b, 0, none⟩ (Builtin.zeroCells z.cells (n + 1)).toList 0).run P w = .ok () W) : (Builtin.clear_ #[t] ty #[.slice (some ⟨b, 0, none⟩) (n + 1) c]).run P w = .ok (.tuple #[]) W := by
  simp [Builtin.clear_, run_underlying ht, hv, hst]

/-- The list is cleared and begins anew. -/
theorem Lies.clear {w : World} {F : Nat → Prop} {p bs bl g m cap : Nat} {d : Dk} {L : Nat → List UInt8} (h : Lies w F p bs bl (.slice (some ⟨g, 0, none⟩) m cap) d L) (hm : d.Q ≠ []) :
    ∃ W, (Builtin.clear_ #[67] 0 #[.slice (some ⟨g, 0, none⟩) m cap]).run Try.prog w = .ok (.tuple #[]) W ∧ W.cell? ⟨p, 2, none⟩ = some (.slice (some ⟨g, 0, none⟩) m cap) ∧ W.frozen? ⟨p, 2, none⟩ = false ∧
      Lies (W.setCell ⟨p, 2, none⟩ (.slice (some ⟨g, 0, none⟩) 0 cap)) F p bs bl (.slice (some ⟨g, 0, none⟩) 0 cap) { d with Q := [] } L ∧ Kept F w (W.setCell ⟨p, 2, none⟩ (.slice (some ⟨g, 0, none⟩) 0 cap)) ∧ m = d.Q.length ∧ m ≤ cap := by
  obtain ⟨i, hi, hz, h1, h2⟩ := info_of Try.info103
  rcases h.own.2 with ⟨e, _⟩ | ⟨g', cap', cur, e, _, hg, hmc, hcm, hcs, _⟩
  · cases e
  cases e
  have hm0 : 0 < d.Q.length := List.length_pos_iff.2 hm
  have hpg : p ≠ g := fun e => h.pv (by rw [e]; rfl)
  have hsg : bs ≠ g := fun e => h.sv (by rw [e]; rfl)
  have hlg : bl ≠ g := fun e => h.lv (by rw [e]; rfl)
  generalize hzs : (Builtin.zeroCells (#[.int .i64 0] ++ Array.replicate 32 (.int .u8 0)) d.Q.length).toList = zs
  have hzl : zs.length = d.Q.length * 33 := by rw [← hzs]; simp [Builtin.zeroCells]
  have hfit : zs.length ≤ cur.size := by rw [hzl, hcs]; exact Nat.mul_le_mul_right _ hmc
  have hst := run_storeCells_cells (P := Try.prog) g 0 zs 0 w (fun j hj => by
      rw [cell_of_row w g _ cur 103 (0, 0) hg]; simp only [Nat.zero_add]; rw [Array.getElem?_eq_getElem (by omega)]; rfl) (fun j hj => frozen_of_row w g _ cur 103 hg) (by rw [← hzs]; exact zero_one _)
  obtain ⟨cur', hc', hs'⟩ := heap_setCells_same zs 0 w cur 103 (0, 0) hg
  have hcp : ∀ j, (w.setCells g 0 zs).cell? ⟨p, j, none⟩ = w.cell? ⟨p, j, none⟩ := fun j => World.cell?_setCells_out g _ _ _ _ (fun e _ => absurd e hpg)
  have hrun : (Builtin.clear_ #[67] 0 #[.slice (some ⟨g, 0, none⟩) d.Q.length cap]).run Try.prog w = .ok (.tuple #[]) (w.setCells g 0 zs) := by
    obtain ⟨n, hn⟩ : ∃ n, d.Q.length = n + 1 := ⟨d.Q.length - 1, by omega⟩
    rw [hn] at hzs ⊢
    simp only [Nat.add_zero] at hst
    exact run_clear_rows 67 103 0 _ Try.underlying67 (zero_run hi hz w) g n cap (by simp only [Value.cells]; rw [hzs]; exact hst)
  have hW : (w.setCells g 0 zs).cell? ⟨p, 2, none⟩ = some (.slice (some ⟨g, 0, none⟩) d.Q.length cap) := (hcp 2).trans h.c2
  have ho' : ∀ b, b ≠ p → ((w.setCells g 0 zs).setCell ⟨p, 2, none⟩ (.slice (some ⟨g, 0, none⟩) 0 cap)).heap[b]? = (w.setCells g 0 zs).heap[b]? := fun b hb => Below.heap_setCell _ ⟨p, 2, none⟩ _ b hb
  have hpo : ∀ j, j ≠ 2 → ((w.setCells g 0 zs).setCell ⟨p, 2, none⟩ (.slice (some ⟨g, 0, none⟩) 0 cap)).cell? ⟨p, j, none⟩ = w.cell? ⟨p, j, none⟩ := fun j hj => by
    rw [World.cell?_setCell_other _ _ _ _ (fun e => hj (by cases e; rfl))]; exact hcp j
  refine ⟨_, hrun, hW, by rw [World.frozen?_setCells]; exact h.free 2, ?_, ?_, rfl, hmc⟩
  · exact { c0 := (hpo 0 (by omega)).trans h.c0, c1 := (hpo 1 (by omega)).trans h.c1, c2 := World.cell?_setCell_same _ _ _ hW, c3 := (hpo 3 (by omega)).trans h.c3, c4 := (hpo 4 (by omega)).trans h.c4,
            free := (fun j => by rw [World.frozen?_setCell, World.frozen?_setCells]; exact h.free j),
            sure := h.sure.of_block ((ho' bs (fun e => h.ps e.symm)).trans (heap_setCells_other hsg _ _ _)), last := h.last.of_block ((ho' bl (fun e => h.pl e.symm)).trans (heap_setCells_other hlg _ _ _)),
            own := ⟨by simp, .inr ⟨g, cap, cur', rfl, Nat.zero_le _, (ho' g (fun e => hpg e.symm)).trans hc', Nat.zero_le _, hcm, by omega, by simp⟩⟩,
            ps := h.ps, pl := h.pl, sl := h.sl, pv := h.pv, sv := h.sv, lv := h.lv, fp := h.fp, fs := h.fs, fl := h.fl, fv := h.fv,
            lt := (fun k hk => by rw [World.size_setCell, size_setCells]; exact h.lt k hk), qs := (fun q hq => by cases hq), n1 := h.n1, n2 := h.n2, fu := h.fu }
  · exact (Kept.setCells (.inl (h.fv g rfl)) zs 0 w (Kept.refl F w)).setCell (p := ⟨p, 2, none⟩) (.inl h.fp) _
end Go.Proofs.Ytbjijacpgklegaa
