/- Write. -/
import Derived.Test.YtkhpmmmildcceaaGreatQMem
namespace Go.Proofs.YtkhpmmmildcceaaGreat
open Go.ChangeShapes Go.WideShapes Go.ChangeAt Go.RowKit
set_option linter.unusedVariables false
set_option maxRecDepth 100000

/-- The cells of a write, before its text is copied. -/
def bare (a : Nat) : Array Value := #[.int .i64 (a : Int)] ++ Array.replicate 32 (.int .u8 0)

theorem size_setCells (b : Nat) : ∀ (vs : List Value) (o : Nat) (w : World), (w.setCells b o vs).heap.size = w.heap.size
  | [], _, _ => rfl
  | v :: r, o, w => by rw [World.setCells, size_setCells b r]; simp

/-- The variable of a write, with its text. -/
theorem wrote (w : World) (a : Nat) (s : ByteArray) (hs : s.size = 32) : ∃ W, (Builtin.copy_ #[98, 9] 3 #[.slice (some ⟨w.heap.size, 1, none⟩) 32 32, .string s]).run Tryz.prog (w.alloc (.cells (bare a) 105)) = .ok (.int .i64 32) W ∧
    Kept (fun _ => False) w W ∧ W.heap.size = w.heap.size + 1 ∧ ∀ j x, (qv (a, s.data.toList))[j]? = some x → W.cell? ⟨w.heap.size, j, none⟩ = some x := by
  have hl : s.data.toList.length = 32 := by rw [← hs]; rfl
  have hC : (bare a).size = 33 := by simp [bare]
  have hr := run_copy_string (P := Tryz.prog) (w.alloc (.cells (bare a) 105)) 98 9 3 5 w.heap.size 1 32 32 s Tryz.underlying98 (fun w => by simp [go_sem]) (by omega) (fun j hj => by
    rw [World.cell?_alloc_new]
    rw [Array.getElem?_eq_getElem (by omega)]; rfl) (fun j hj => by simp)
  rw [hs] at hr
  refine ⟨_, hr, Kept.setCells (.inr (Nat.le_refl _)) _ _ _ ((Kept.refl _ w).alloc _), ?_, fun j x hx => ?_⟩
  · rw [size_setCells]; simp
  · cases j with
    | zero =>
      rw [World.cell?_setCells_out _ _ _ _ _ (fun _ _ => .inl (by simp)), World.cell?_alloc_new, ← hx]
      simp [bare, qv]
    | succ j =>
      have hj : j < 32 := by
        have := (List.getElem?_eq_some_iff.1 hx).1
        simp [qv, bv_len, hl] at this; omega
      have := World.cell?_setCells_in w.heap.size (bv s.data.toList) 1 (w.alloc (.cells (bare a) 105)) (fun k hk => by
        rw [bv_len, hl] at hk
        rw [World.cell?_alloc_new, Array.getElem?_eq_getElem (by omega)]; rfl) j (by rw [bv_len, hl]; exact hj)
      rw [Nat.add_comm j 1]
      refine this.trans ?_
      rw [← hx]
      simp [qv]


theorem heap_setCells_other {b k : Nat} (h : k ≠ b) : ∀ (vs : List Value) (o : Nat) (w : World), (w.setCells b o vs).heap[k]? = w.heap[k]?
  | [], _, _ => rfl
  | v :: r, o, w => by rw [World.setCells, heap_setCells_other h r]; exact Below.heap_setCell w ⟨b, o, none⟩ v k h

theorem Lies.drew {w : World} {F : Nat → Prop} {p bs bl : Nat} {v : Value} {d : Dk} {L : Nat → List UInt8} (h : Lies w F p bs bl v d L) : Lies w.drew F p bs bl v d L :=
  h.kept (G := fun _ => False) (Kept.refl _ w).drew (fun _ _ q => q)

/-- A sector is written over, as it is read. -/
theorem Lies.setLast {w : World} {F : Nat → Prop} {p bs bl : Nat} {v : Value} {d : Dk} {L : Nat → List UInt8} (h : Lies w F p bs bl v d L) {a : Nat} (ha : a < d.n) (t : List UInt8) (ht : t.length = 32) :
    Lies (w.setCells bl (a * 32) (bv t)) F p bs bl v d (put L a t) := by
  have hc : ∀ j, (w.setCells bl (a * 32) (bv t)).cell? ⟨p, j, none⟩ = w.cell? ⟨p, j, none⟩ := fun j => World.cell?_setCells_out bl _ _ _ _ (fun e _ => absurd e h.pl)
  have hl := h.last.store ha t (by omega)
  rw [put_whole L a t (by rw [h.last.len a ha, ht]; omega)] at hl
  exact { c0 := (hc _).trans h.c0, c1 := (hc _).trans h.c1, c2 := (hc _).trans h.c2, c3 := (hc _).trans h.c3, c4 := (hc _).trans h.c4,
          free := fun j => by rw [World.frozen?_setCells]; exact h.free j, sure := h.sure.other h.sl _ _, last := hl,
          own := ownsRow_kept h.own (fun i hi => heap_setCells_other (k := i) (b := bl) (fun e => h.lv (by rw [← e]; exact hi)) _ _ _), ps := h.ps, pl := h.pl, sl := h.sl, pv := h.pv, sv := h.sv, lv := h.lv,
          fp := h.fp, fs := h.fs, fl := h.fl, fv := h.fv, lt := (fun i hi => by rw [size_setCells]; exact h.lt i hi), qs := h.qs, n1 := h.n1, n2 := h.n2, fu := h.fu }
/-- The like, of what is sure. -/
theorem Lies.setSure {w : World} {F : Nat → Prop} {p bs bl : Nat} {v : Value} {d : Dk} {L : Nat → List UInt8} (h : Lies w F p bs bl v d L) {a : Nat} (ha : a < d.n) (t : List UInt8) (ht : t.length ≤ 32) :
    Lies (w.setCells bs (a * 32) (bv t)) F p bs bl v { d with S := put d.S a (t ++ (d.S a).drop t.length) } L := by
  have hc : ∀ j, (w.setCells bs (a * 32) (bv t)).cell? ⟨p, j, none⟩ = w.cell? ⟨p, j, none⟩ := fun j => World.cell?_setCells_out bs _ _ _ _ (fun e _ => absurd e h.ps)
  exact { c0 := (hc _).trans h.c0, c1 := (hc _).trans h.c1, c2 := (hc _).trans h.c2, c3 := (hc _).trans h.c3, c4 := (hc _).trans h.c4,
          free := fun j => by rw [World.frozen?_setCells]; exact h.free j, sure := h.sure.store ha t ht, last := h.last.other (fun e => h.sl e.symm) _ _,
          own := ownsRow_kept h.own (fun i hi => heap_setCells_other (k := i) (b := bs) (fun e => h.sv (by rw [← e]; exact hi)) _ _ _), ps := h.ps, pl := h.pl, sl := h.sl, pv := h.pv, sv := h.sv, lv := h.lv,
          fp := h.fp, fs := h.fs, fl := h.fl, fv := h.fv, lt := (fun i hi => by rw [size_setCells]; exact h.lt i hi), qs := h.qs, n1 := h.n1, n2 := h.n2, fu := h.fu }

theorem qv_one (q : Nat × List UInt8) : ∀ v ∈ qv q, v.oneCell' = true := by
  intro v hv
  rcases List.mem_cons.1 hv with rfl | hv
  · rfl
  · exact bv_one _ v hv

/-- A write more that waits: the list grows, and its place in the disk's block is written. -/
theorem Lies.append {w : World} {F : Nat → Prop} {p bs bl : Nat} {v : Value} {d : Dk} {L : Nat → List UInt8} (h : Lies w F p bs bl v d L) (q : Nat × List UInt8) (hq : q.1 < d.n ∧ q.2.length = 32) (hn : d.Q.length < 1048576)
    (g : Nat) (hg : ∀ j x, (qv q)[j]? = some x → w.cell? ⟨g, j, none⟩ = some x) :
    ∃ v' W, (Builtin.append_ #[77, 77] 77 #[v, .slice (some ⟨g, 0, none⟩) 1 1]).run Tryz.prog w = .ok v' W ∧ W.cell? ⟨p, 2, none⟩ = some v ∧ W.frozen? ⟨p, 2, none⟩ = false ∧
      ∃ F', Lies (W.setCell ⟨p, 2, none⟩ v') F' p bs bl v' { d with Q := d.Q ++ [q] } L ∧ Kept F w (W.setCell ⟨p, 2, none⟩ v') ∧ ∀ k, F' k → F k ∨ w.heap.size ≤ k := by
  obtain ⟨i, hi, hz, h1, h2⟩ := info_of Tryz.info105
  have hql : (qv q).length = 33 := by simp [qv, bv_len, hq.2]
  obtain ⟨v', W, hr, ho, hgb, hnil, hat⟩ := run_append_own_at (P := Tryz.prog) w 0 77 77 105 i _ 33 40 Tryz.underlying77 hi hz h1 h2 (by simp [Value.cells]) (by omega) v d.Q.length _ h.own ⟨g, 0, none⟩ 1 1 (qv q) (by omega)
    (fun j u hu => by rw [Go.WideShapes.add_plain, Nat.zero_add]; exact hg j u hu) (qv_one q) (by simp only [maxLen]; omega) (by omega) (Nat.zero_le _)
  have hbp : W.heap[p]? = w.heap[p]? := hgb.block p (h.lt p h.fp) (fun e => h.pv e.symm)
  have hbs : W.heap[bs]? = w.heap[bs]? := hgb.block bs (h.lt bs h.fs) (fun e => h.sv e.symm)
  have hbl : W.heap[bl]? = w.heap[bl]? := hgb.block bl (h.lt bl h.fl) (fun e => h.lv e.symm)
  have hcp : ∀ j, W.cell? ⟨p, j, none⟩ = w.cell? ⟨p, j, none⟩ := fun j => World.cell?_of_block (w := w) (a := ⟨p, j, none⟩) hbp
  have hfp : ∀ j, W.frozen? ⟨p, j, none⟩ = w.frozen? ⟨p, j, none⟩ := fun j => World.frozen?_of_block (w := w) (a := ⟨p, j, none⟩) hbp
  have hne : ∀ b, F b → v.ownBlock ≠ some b → v'.ownBlock ≠ some b := by
    intro b hb hv e
    rcases hat with e1 | e1
    · exact hv (e1 ▸ e)
    · rw [e1] at e
      have := h.lt b hb
      cases e
      omega
  have hlt : ∀ k, v'.ownBlock = some k → k < W.heap.size := fun k hk => (ho.lt k hk).2
  refine ⟨v', W, hr, (hcp 2).trans h.c2, (hfp 2).trans (h.free 2), fun k => (F k ∨ v'.ownBlock = some k), ?_, ?_, ?_⟩
  · have hp2 : (W.setCell ⟨p, 2, none⟩ v').cell? ⟨p, 2, none⟩ = some v' := World.cell?_setCell_same _ _ _ ((hcp 2).trans h.c2)
    have hpo : ∀ j, j ≠ 2 → (W.setCell ⟨p, 2, none⟩ v').cell? ⟨p, j, none⟩ = w.cell? ⟨p, j, none⟩ := fun j hj => by
      rw [World.cell?_setCell_other _ _ _ _ (fun e => hj (by cases e; rfl))]; exact hcp j
    have ho' : ∀ b, b ≠ p → (W.setCell ⟨p, 2, none⟩ v').heap[b]? = W.heap[b]? := fun b hb => Below.heap_setCell W ⟨p, 2, none⟩ v' b hb
    have hown := ownsRow_kept (w' := W.setCell ⟨p, 2, none⟩ v') ho (fun k hk => ho' k (fun e => hne p h.fp h.pv (e ▸ hk)))
    exact { c0 := (hpo 0 (by omega)).trans h.c0, c1 := (hpo 1 (by omega)).trans h.c1, c2 := hp2, c3 := (hpo 3 (by omega)).trans h.c3, c4 := (hpo 4 (by omega)).trans h.c4,
            free := (fun j => by rw [World.frozen?_setCell]; exact (hfp j).trans (h.free j)), sure := h.sure.of_block ((ho' bs (fun e => h.ps e.symm)).trans hbs), last := h.last.of_block ((ho' bl (fun e => h.pl e.symm)).trans hbl),
            own := (by simpa [List.flatMap_append] using hown), ps := h.ps, pl := h.pl, sl := h.sl, pv := hne p h.fp h.pv, sv := hne bs h.fs h.sv, lv := hne bl h.fl h.lv,
            fp := .inl h.fp, fs := .inl h.fs, fl := .inl h.fl, fv := (fun k hk => .inr hk),
            lt := (fun k hk => by
              rw [World.size_setCell]
              rcases hk with hk | hk
              · exact Nat.lt_of_lt_of_le (h.lt k hk) hgb.size
              · exact hlt k hk),
            qs := (fun x hx => by
              rcases List.mem_append.1 hx with hx | hx
              · exact h.qs x hx
              · rw [List.mem_singleton.1 hx]; exact hq), n1 := h.n1, n2 := h.n2, fu := h.fu }
  · exact ((Kept.refl F w).grown hgb (fun k hk => .inl (h.fv k hk))).setCell (p := ⟨p, 2, none⟩) (.inl h.fp) v'
  · intro k hk
    rcases hk with hk | hk
    · exact .inl hk
    · rcases hat with e | e
      · exact .inl (h.fv k (e ▸ hk))
      · rw [e] at hk; cases hk; exact .inr (Nat.le_refl _)
end Go.Proofs.YtkhpmmmildcceaaGreat
