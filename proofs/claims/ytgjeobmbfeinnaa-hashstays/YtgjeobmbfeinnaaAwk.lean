/- awake. -/
import Derived.Test.YtgjeobmbfeinnaaSam
namespace Go.Proofs.Ytgjeobmbfeinnaa
open Go.ChangeShapes Go.WideShapes Go.RowKit
set_option linter.unusedVariables false
set_option maxRecDepth 100000

theorem Blk.c3 {w : World} {g : Nat} {t : TypeId} {a b c : Value} (h : Blk w g t [a, b, c]) : w.cell? ⟨g, 0, none⟩ = some a ∧ w.cell? ⟨g, 1, none⟩ = some b ∧ w.cell? ⟨g, 2, none⟩ = some c := ⟨h.cell rfl, h.cell rfl, h.cell rfl⟩
/-- What awake has: a value, an index that is empty, and one of two numbers. -/
theorem awk_next {w w' w'' : World} {yb : Nat} {py : Option Addr} (h : (w'.cell? ⟨w.heap.size, 0, none⟩ = some (.int .i64 2) ∧ w'.cell? ⟨w.heap.size, 1, none⟩ = some (.int .i64 0) ∧ w'.cell? ⟨w.heap.size, 2, none⟩ = some (.string ⟨#[97]⟩) ∧ w'.cell? ⟨w.heap.size + 1, 0, none⟩ = some (.pointer none) ∧ w'.cell? ⟨w.heap.size + 1, 1, none⟩ = some (.int .i64 0) ∧ w'.cell? ⟨yb, 0, none⟩ = some (.pointer py) ∧ w'.cell? ⟨yb, 1, none⟩ = some (.int .i64 2) ∧ Hid (Below w.heap.size w w' ∧ Ix w' py aF 1 10))) (b : Below w'.heap.size w' w'') : (w''.cell? ⟨w.heap.size, 0, none⟩ = some (.int .i64 2) ∧ w''.cell? ⟨w.heap.size, 1, none⟩ = some (.int .i64 0) ∧ w''.cell? ⟨w.heap.size, 2, none⟩ = some (.string ⟨#[97]⟩) ∧ w''.cell? ⟨w.heap.size + 1, 0, none⟩ = some (.pointer none) ∧ w''.cell? ⟨w.heap.size + 1, 1, none⟩ = some (.int .i64 0) ∧ w''.cell? ⟨yb, 0, none⟩ = some (.pointer py) ∧ w''.cell? ⟨yb, 1, none⟩ = some (.int .i64 2) ∧ Hid (Below w.heap.size w w'' ∧ Ix w'' py aF 1 10)) := by
  obtain ⟨h0, h1, h2, h3, h4, h5, h6, h7⟩ := h
  have f : ∀ {a : Addr} {u : Value}, w'.cell? a = some u → w''.cell? a = some u := fun {a u} q => (b.cell (World.block_lt_of_cell? w' _ q)).trans q
  exact ⟨f h0, f h1, f h2, f h3, f h4, f h5, f h6, Below.next h7.out.1 b, h7.out.2.next b⟩
/-- The value, and the empty index. -/
structure Av (w wr : World) : Prop where
  a : Blk wr w.heap.size 24 [.int .i64 2, .int .i64 0, .string ⟨#[97]⟩]
  z : Blk wr (w.heap.size + 1) 27 [.pointer none, .int .i64 0]
  b : Below w.heap.size w wr
theorem Av.next {w wr w' : World} (h : Av w wr) (q : Below wr.heap.size wr w') : Av w w' := ⟨h.a.next q, h.z.next q, h.b.trans (q.mono h.b.size)⟩
theorem Av.c {w wr : World} (h : Av w wr) : (wr.cell? ⟨w.heap.size, 0, none⟩ = some (.int .i64 2) ∧ wr.cell? ⟨w.heap.size, 1, none⟩ = some (.int .i64 0) ∧ wr.cell? ⟨w.heap.size, 2, none⟩ = some (.string ⟨#[97]⟩) ∧ wr.cell? ⟨w.heap.size + 1, 0, none⟩ = some (.pointer none) ∧ wr.cell? ⟨w.heap.size + 1, 1, none⟩ = some (.int .i64 0)) := ⟨h.a.cell rfl, h.a.cell rfl, h.a.cell rfl, h.z.cell rfl, h.z.cell rfl⟩
theorem fin3 {w wr : World} (h : Av w wr) {py : Option Addr} (hi : Ix wr py aF 1 10) {yb : Nat} (hy : Blk wr yb 27 [.pointer none, .int .i64 0]) (hne : yb ≠ w.heap.size ∧ yb ≠ w.heap.size + 1 ∧ w.heap.size ≤ yb) : (((wr.setCell ⟨yb, 0, none⟩ (.pointer py)).setCell ⟨yb, 1, none⟩ (.int .i64 2)).cell? ⟨w.heap.size, 0, none⟩ = some (.int .i64 2) ∧ ((wr.setCell ⟨yb, 0, none⟩ (.pointer py)).setCell ⟨yb, 1, none⟩ (.int .i64 2)).cell? ⟨w.heap.size, 1, none⟩ = some (.int .i64 0) ∧ ((wr.setCell ⟨yb, 0, none⟩ (.pointer py)).setCell ⟨yb, 1, none⟩ (.int .i64 2)).cell? ⟨w.heap.size, 2, none⟩ = some (.string ⟨#[97]⟩) ∧ ((wr.setCell ⟨yb, 0, none⟩ (.pointer py)).setCell ⟨yb, 1, none⟩ (.int .i64 2)).cell? ⟨w.heap.size + 1, 0, none⟩ = some (.pointer none) ∧ ((wr.setCell ⟨yb, 0, none⟩ (.pointer py)).setCell ⟨yb, 1, none⟩ (.int .i64 2)).cell? ⟨w.heap.size + 1, 1, none⟩ = some (.int .i64 0) ∧ ((wr.setCell ⟨yb, 0, none⟩ (.pointer py)).setCell ⟨yb, 1, none⟩ (.int .i64 2)).cell? ⟨yb, 0, none⟩ = some (.pointer py) ∧ ((wr.setCell ⟨yb, 0, none⟩ (.pointer py)).setCell ⟨yb, 1, none⟩ (.int .i64 2)).cell? ⟨yb, 1, none⟩ = some (.int .i64 2) ∧ Hid (Below w.heap.size w ((wr.setCell ⟨yb, 0, none⟩ (.pointer py)).setCell ⟨yb, 1, none⟩ (.int .i64 2)) ∧ Ix ((wr.setCell ⟨yb, 0, none⟩ (.pointer py)).setCell ⟨yb, 1, none⟩ (.int .i64 2)) py aF 1 10)) ∧ (((wr.setCell ⟨yb, 0, none⟩ (.pointer py)).setCell ⟨yb, 1, none⟩ (.int .i64 2)).cell? ⟨w.heap.size, 0, none⟩ = some (.int .i64 2) ∧ ((wr.setCell ⟨yb, 0, none⟩ (.pointer py)).setCell ⟨yb, 1, none⟩ (.int .i64 2)).cell? ⟨w.heap.size, 1, none⟩ = some (.int .i64 0) ∧ ((wr.setCell ⟨yb, 0, none⟩ (.pointer py)).setCell ⟨yb, 1, none⟩ (.int .i64 2)).cell? ⟨w.heap.size, 2, none⟩ = some (.string ⟨#[97]⟩) ∧ ((wr.setCell ⟨yb, 0, none⟩ (.pointer py)).setCell ⟨yb, 1, none⟩ (.int .i64 2)).cell? ⟨w.heap.size + 1, 0, none⟩ = some (.pointer none) ∧ ((wr.setCell ⟨yb, 0, none⟩ (.pointer py)).setCell ⟨yb, 1, none⟩ (.int .i64 2)).cell? ⟨w.heap.size + 1, 1, none⟩ = some (.int .i64 0)) := by
  have hf : ∀ k, k ≠ yb → ((wr.setCell ⟨yb, 0, none⟩ (.pointer py)).setCell ⟨yb, 1, none⟩ (.int .i64 2)).heap[k]? = wr.heap[k]? := fun k hk => (heap_set _ _ _ hk).trans (heap_set _ _ _ hk)
  have ha := h.a.far (hf _ (fun e => hne.1 e.symm))
  have hz := h.z.far (hf _ (fun e => hne.2.1 e.symm))
  have hY := (hy.set 0 (.pointer py)).set 1 (.int .i64 2)
  exact ⟨⟨ha.cell rfl, ha.cell rfl, ha.cell rfl, hz.cell rfl, hz.cell rfl, hY.cell (i := 0) rfl, hY.cell (i := 1) rfl, below_set (below_set h.b _ _ _ hne.2.2) _ _ _ hne.2.2, hi.quiet hy hf⟩, ha.cell rfl, ha.cell rfl, ha.cell rfl, hz.cell rfl, hz.cell rfl⟩
theorem fin3b {w wr : World} (h : Av w wr) {py : Option Addr} (hi : Ix wr py aF 1 10) : ((wr.alloc (.cells #[.pointer py, .int .i64 2] 27)).cell? ⟨w.heap.size, 0, none⟩ = some (.int .i64 2) ∧ (wr.alloc (.cells #[.pointer py, .int .i64 2] 27)).cell? ⟨w.heap.size, 1, none⟩ = some (.int .i64 0) ∧ (wr.alloc (.cells #[.pointer py, .int .i64 2] 27)).cell? ⟨w.heap.size, 2, none⟩ = some (.string ⟨#[97]⟩) ∧ (wr.alloc (.cells #[.pointer py, .int .i64 2] 27)).cell? ⟨w.heap.size + 1, 0, none⟩ = some (.pointer none) ∧ (wr.alloc (.cells #[.pointer py, .int .i64 2] 27)).cell? ⟨w.heap.size + 1, 1, none⟩ = some (.int .i64 0) ∧ (wr.alloc (.cells #[.pointer py, .int .i64 2] 27)).cell? ⟨wr.heap.size, 0, none⟩ = some (.pointer py) ∧ (wr.alloc (.cells #[.pointer py, .int .i64 2] 27)).cell? ⟨wr.heap.size, 1, none⟩ = some (.int .i64 2) ∧ Hid (Below w.heap.size w (wr.alloc (.cells #[.pointer py, .int .i64 2] 27)) ∧ Ix (wr.alloc (.cells #[.pointer py, .int .i64 2] 27)) py aF 1 10)) ∧ ((wr.alloc (.cells #[.pointer py, .int .i64 2] 27)).cell? ⟨w.heap.size, 0, none⟩ = some (.int .i64 2) ∧ (wr.alloc (.cells #[.pointer py, .int .i64 2] 27)).cell? ⟨w.heap.size, 1, none⟩ = some (.int .i64 0) ∧ (wr.alloc (.cells #[.pointer py, .int .i64 2] 27)).cell? ⟨w.heap.size, 2, none⟩ = some (.string ⟨#[97]⟩) ∧ (wr.alloc (.cells #[.pointer py, .int .i64 2] 27)).cell? ⟨w.heap.size + 1, 0, none⟩ = some (.pointer none) ∧ (wr.alloc (.cells #[.pointer py, .int .i64 2] 27)).cell? ⟨w.heap.size + 1, 1, none⟩ = some (.int .i64 0)) := by
  have h' := h.next (below1 wr (.cells #[.pointer py, .int .i64 2] 27))
  have hY := Blk.new wr 27 [.pointer py, .int .i64 2]
  exact ⟨⟨h'.a.cell rfl, h'.a.cell rfl, h'.a.cell rfl, h'.z.cell rfl, h'.z.cell rfl, hY.cell (i := 0) rfl, hY.cell (i := 1) rfl, h'.b, hi.next (below1 _ _)⟩, h'.c⟩
set_option maxHeartbeats 16000000 in
theorem awake_is (w : World) : Calls Try.prog 7 #[] w fun e w' => e = .returned (.bool true) ∧ Below w.heap.size w w' := by
  have HA0 : Hid (Blk ((w.alloc (.cells #[.int .i64 2, .int .i64 0, .string ⟨#[97]⟩] 24)).alloc (.cells #[.pointer none, .int .i64 0] 27)) w.heap.size 24 [.int .i64 2, .int .i64 0, .string ⟨#[97]⟩]) := (Blk.new w 24 [.int .i64 2, .int .i64 0, .string ⟨#[97]⟩]).next (below1 _ _)
  have HZ0 : Hid (Blk ((w.alloc (.cells #[.int .i64 2, .int .i64 0, .string ⟨#[97]⟩] 24)).alloc (.cells #[.pointer none, .int .i64 0] 27)) (w.heap.size + 1) 27 [.pointer none, .int .i64 0]) := by
    have := Blk.new (w.alloc (.cells #[.int .i64 2, .int .i64 0, .string ⟨#[97]⟩] 24)) 27 [.pointer none, .int .i64 0]
    rwa [size_alloc] at this
  have HW1 : Hid (∀ w', Calls Try.prog 15 #[.agg #[.pointer none, .int .i64 0], .agg #[.int .i64 2, .int .i64 0, .string ⟨#[97]⟩], .int .i64 3] w' fun e w'' => ∃ p', e = .returned (.agg #[.pointer p', .int .i64 1]) ∧ Ix w'' p' (upd (fun _ => []) vA [3]) 1 8 ∧ Below w'.heap.size w' w'') := fun w' => by
    have := With_is none 0 (fun _ => []) 0 7 (by omega) (by omega) (by omega) (by omega) (fun v h => absurd rfl h) vA vA_fit 3 w' (Ix.zero w' 7)
    rw [aw1.1, aw1.2.1, aw1.2.2] at this
    exact this
  have HW2 : Hid (∀ w' p, Ix w' p (upd (fun _ => []) vA [3]) 1 8 → Calls Try.prog 15 #[.agg #[.pointer p, .int .i64 1], .agg #[.int .i64 2, .int .i64 0, .string ⟨#[97]⟩], .int .i64 1] w' fun e w'' => ∃ p', e = .returned (.agg #[.pointer p', .int .i64 2]) ∧ Ix w'' p' aF 1 9 ∧ Below w'.heap.size w' w'') := fun w' p h => by
    have := With_is p 1 _ 1 8 (by omega) (by omega) (by omega) (by omega) (fun v hv => by
      by_cases e : v = vA
      · subst e; exact vA_fit
      · rw [upd_other _ _ e] at hv; exact absurd rfl hv) vA vA_fit 1 w' h
    rw [aw2.1, aw2.2.1, aw2.2.2] at this
    exact this
  have HW3 : Hid (∀ w' p, Ix w' p aF 1 9 → Calls Try.prog 15 #[.agg #[.pointer p, .int .i64 2], .agg #[.int .i64 2, .int .i64 0, .string ⟨#[97]⟩], .int .i64 3] w' fun e w'' => ∃ p', e = .returned (.agg #[.pointer p', .int .i64 2]) ∧ Ix w'' p' aF 1 10 ∧ Below w'.heap.size w' w'') := fun w' p h => by
    have := With_is p 2 _ 1 9 (by omega) (by omega) (by omega) (by omega) aF_fit vA vA_fit 3 w' h
    rw [aw3.1, aw3.2.1, aw3.2.2] at this
    exact this

  obtain ⟨W0, hW0⟩ : ∃ W0, (w.alloc (.cells #[.int .i64 2, .int .i64 0, .string ⟨#[97]⟩] 24)).alloc (.cells #[.pointer none, .int .i64 0] 27) = W0 := ⟨_, rfl⟩
  have HW0 : Hid ((w.alloc (.cells #[.int .i64 2, .int .i64 0, .string ⟨#[97]⟩] 24)).alloc (.cells #[.pointer none, .int .i64 0] 27) = W0) := hW0
  have HAv0 : Hid (Av w W0.drew) := by
    rw [hW0] at HA0 HZ0
    exact ⟨HA0.out, HZ0.out, by rw [← hW0]; exact (below2 _ _ _).drew⟩
  clear hW0 HA0 HZ0
  go_enter Try.func7, Try.ntmps7
  go_wp2_with fail
  rw [HW0.out]
  go_cut [3] (fun s3 wx => ∃ (yb : Nat) (py : Option Addr), s3 = .pointer (some ⟨yb, 0, none⟩) ∧ Hid (wx.cell? ⟨w.heap.size, 0, none⟩ = some (.int .i64 2) ∧ wx.cell? ⟨w.heap.size, 1, none⟩ = some (.int .i64 0) ∧ wx.cell? ⟨w.heap.size, 2, none⟩ = some (.string ⟨#[97]⟩) ∧ wx.cell? ⟨w.heap.size + 1, 0, none⟩ = some (.pointer none) ∧ wx.cell? ⟨w.heap.size + 1, 1, none⟩ = some (.int .i64 0) ∧ wx.cell? ⟨yb, 0, none⟩ = some (.pointer py) ∧ wx.cell? ⟨yb, 1, none⟩ = some (.int .i64 2) ∧ Hid (Below w.heap.size w wx ∧ Ix wx py aF 1 10)))
  case first =>
    refine wp_region_held_drew (S := (fun (w' : World) => (w'.cell? ⟨w.heap.size, 0, none⟩ = some (.int .i64 2) ∧ w'.cell? ⟨w.heap.size, 1, none⟩ = some (.int .i64 0) ∧ w'.cell? ⟨w.heap.size, 2, none⟩ = some (.string ⟨#[97]⟩) ∧ w'.cell? ⟨w.heap.size + 1, 0, none⟩ = some (.pointer none) ∧ w'.cell? ⟨w.heap.size + 1, 1, none⟩ = some (.int .i64 0)))) (by kernel_rfl) HAv0.out.c (fun hHeld => ?_)
    refine wpAnyH_take (i := 0) (oi := { dst := some 6, op := Op.load 27 (Operand.tmp 2), type := 27, pos := "law.go:15", after := #[], guard := none }) (v := .agg #[.pointer none, .int .i64 0]) rfl (by kernel_rfl) (by kernel_rfl) (by kernel_rfl) (fun _ _ _ h => h) (Or.inl ⟨by rfl, ?_⟩) (by with_reducible assumption) ?_
    · intro wx hSw
      (try dsimp only at hSw)
      first | (go_simp; done) | (go_simp; with_reducible rfl)
    try simp only [Act.put, List.setIfInBounds_toArray, List.set_cons_zero, List.set_cons_succ]
    refine wpAnyH_take (i := 1) (oi := { dst := some 7, op := Op.load 24 (Operand.tmp 1), type := 24, pos := "law.go:15", after := #[], guard := none }) (v := .agg #[.int .i64 2, .int .i64 0, .string ⟨#[97]⟩]) rfl (by kernel_rfl) (by kernel_rfl) (by kernel_rfl) (fun _ _ _ h => h) (Or.inl ⟨by rfl, ?_⟩) (by with_reducible assumption) ?_
    · intro wx hSw
      (try dsimp only at hSw)
      first | (go_simp; done) | (go_simp; with_reducible rfl)
    try simp only [Act.put, List.setIfInBounds_toArray, List.set_cons_zero, List.set_cons_succ]
    refine wpAnyH_take (i := 3) (oi := { dst := some 9, op := Op.load 24 (Operand.tmp 1), type := 24, pos := "law.go:15", after := #[], guard := none }) (v := .agg #[.int .i64 2, .int .i64 0, .string ⟨#[97]⟩]) rfl (by kernel_rfl) (by kernel_rfl) (by kernel_rfl) (fun _ _ _ h => h) (Or.inl ⟨by rfl, ?_⟩) (by with_reducible assumption) ?_
    · intro wx hSw
      (try dsimp only at hSw)
      first | (go_simp; done) | (go_simp; with_reducible rfl)
    try simp only [Act.put, List.setIfInBounds_toArray, List.set_cons_zero, List.set_cons_succ]
    refine wpAnyH_take (i := 5) (oi := { dst := some 11, op := Op.load 24 (Operand.tmp 1), type := 24, pos := "law.go:15", after := #[], guard := none }) (v := .agg #[.int .i64 2, .int .i64 0, .string ⟨#[97]⟩]) rfl (by kernel_rfl) (by kernel_rfl) (by kernel_rfl) (fun _ _ _ h => h) (Or.inl ⟨by rfl, ?_⟩) (by with_reducible assumption) ?_
    · intro wx hSw
      (try dsimp only at hSw)
      first | (go_simp; done) | (go_simp; with_reducible rfl)
    try simp only [Act.put, List.setIfInBounds_toArray, List.set_cons_zero, List.set_cons_succ]
    refine wpAnyH_ready (rs := [2, 7]) (by kernel_rfl) (by simp) ?_
    refine AllReadyH.cons rfl (fun K hK => ?_) (AllReadyH.cons rfl (fun K hK => ?_) AllReadyH.nil)
    · skip
      go_simp
      refine Calls.mono (HW1.out _) ?_
      rintro e z33 ⟨p33, rfl, hIT33, kT33⟩
      have HIT33 : Hid (Ix z33 p33 (upd (fun _ => []) vA [3]) 1 8) := hIT33
      have HAvT33 : Hid (Av w z33) := HAv0.out.next kT33
      clear hIT33 kT33
      refine hK.out _ _ HAvT33.out.c (fun hHeld => ?_)
      clear hK K
      try simp only [Act.put, List.setIfInBounds_toArray, List.set_cons_zero, List.set_cons_succ]
      refine wpAnyH_ready (rs := [4, 7]) (by kernel_rfl) (by simp) ?_
      refine AllReadyH.cons rfl (fun K hK => ?_) (AllReadyH.cons rfl (fun K hK => ?_) AllReadyH.nil)
      · skip
        go_simp
        refine Calls.mono (HW2.out _ _ HIT33.out) ?_
        rintro e z34 ⟨p34, rfl, hIT34, kT34⟩
        have HIT34 : Hid (Ix z34 p34 aF 1 9) := hIT34
        have HAvT34 : Hid (Av w z34) := HAvT33.out.next kT34
        clear hIT34 kT34
        refine hK.out _ _ HAvT34.out.c (fun hHeld => ?_)
        clear hK K
        try simp only [Act.put, List.setIfInBounds_toArray, List.set_cons_zero, List.set_cons_succ]
        refine wpAnyH_ready (rs := [6, 7]) (by kernel_rfl) (by simp) ?_
        refine AllReadyH.cons rfl (fun K hK => ?_) (AllReadyH.cons rfl (fun K hK => ?_) AllReadyH.nil)
        · skip
          go_simp
          refine Calls.mono (HW3.out _ _ HIT34.out) ?_
          rintro e z35 ⟨p35, rfl, hIT35, kT35⟩
          have HIT35 : Hid (Ix z35 p35 aF 1 10) := hIT35
          have HAvT35 : Hid (Av w z35) := HAvT34.out.next kT35
          clear hIT35 kT35
          refine hK.out _ _ HAvT35.out.c (fun hHeld => ?_)
          clear hK K
          try simp only [Act.put, List.setIfInBounds_toArray, List.set_cons_zero, List.set_cons_succ]
          refine wpAnyH_ready (rs := [7]) (by kernel_rfl) (by simp) ?_
          refine AllReadyH.cons rfl (fun K hK => ?_) AllReadyH.nil
          go_simp
          have HT36 : Hid (Av w (z35.alloc (.cells #[.pointer none, .int .i64 0] 27)) ∧ Blk (z35.alloc (.cells #[.pointer none, .int .i64 0] 27)) z35.heap.size 27 [.pointer none, .int .i64 0]) := ⟨HAvT35.out.next (below1 z35 _), Blk.new z35 27 [.pointer none, .int .i64 0]⟩
          have HIT36 : Hid (Ix (z35.alloc (.cells #[.pointer none, .int .i64 0] 27)) p35 aF 1 10) := HIT35.out.next (below1 z35 (.cells #[.pointer none, .int .i64 0] 27))
          have HAvT36 : Hid (Av w (z35.alloc (.cells #[.pointer none, .int .i64 0] 27))) := HT36.out.1
          have HYT36 : Hid (Blk (z35.alloc (.cells #[.pointer none, .int .i64 0] 27)) z35.heap.size 27 [.pointer none, .int .i64 0]) := HT36.out.2
          have HNT36 : Hid (w.heap.size + 1 < z35.heap.size) := HAvT35.out.z.lt
          refine hK.out _ _ HT36.out.1.c (fun hHeld => ?_)
          clear hK K
          try simp only [Act.put, List.setIfInBounds_toArray, List.set_cons_zero, List.set_cons_succ]
          have HB7 : Hid (Blk (z35.alloc (.cells #[.pointer none, .int .i64 0] 27)) (z35.heap.size) 27 [.pointer none, .int .i64 0]) := HYT36.out
          have HFN := fin3b HAvT35.out HIT35.out
          have HFN2 : Hid (((z35.alloc (.cells #[.pointer p35, .int .i64 2] 27)).cell? ⟨w.heap.size, 0, none⟩ = some (.int .i64 2) ∧ (z35.alloc (.cells #[.pointer p35, .int .i64 2] 27)).cell? ⟨w.heap.size, 1, none⟩ = some (.int .i64 0) ∧ (z35.alloc (.cells #[.pointer p35, .int .i64 2] 27)).cell? ⟨w.heap.size, 2, none⟩ = some (.string ⟨#[97]⟩) ∧ (z35.alloc (.cells #[.pointer p35, .int .i64 2] 27)).cell? ⟨w.heap.size + 1, 0, none⟩ = some (.pointer none) ∧ (z35.alloc (.cells #[.pointer p35, .int .i64 2] 27)).cell? ⟨w.heap.size + 1, 1, none⟩ = some (.int .i64 0) ∧ (z35.alloc (.cells #[.pointer p35, .int .i64 2] 27)).cell? ⟨z35.heap.size, 0, none⟩ = some (.pointer p35) ∧ (z35.alloc (.cells #[.pointer p35, .int .i64 2] 27)).cell? ⟨z35.heap.size, 1, none⟩ = some (.int .i64 2) ∧ Hid (Below w.heap.size w (z35.alloc (.cells #[.pointer p35, .int .i64 2] 27)) ∧ Ix (z35.alloc (.cells #[.pointer p35, .int .i64 2] 27)) p35 aF 1 10)) ∧ ((z35.alloc (.cells #[.pointer p35, .int .i64 2] 27)).cell? ⟨w.heap.size, 0, none⟩ = some (.int .i64 2) ∧ (z35.alloc (.cells #[.pointer p35, .int .i64 2] 27)).cell? ⟨w.heap.size, 1, none⟩ = some (.int .i64 0) ∧ (z35.alloc (.cells #[.pointer p35, .int .i64 2] 27)).cell? ⟨w.heap.size, 2, none⟩ = some (.string ⟨#[97]⟩) ∧ (z35.alloc (.cells #[.pointer p35, .int .i64 2] 27)).cell? ⟨w.heap.size + 1, 0, none⟩ = some (.pointer none) ∧ (z35.alloc (.cells #[.pointer p35, .int .i64 2] 27)).cell? ⟨w.heap.size + 1, 1, none⟩ = some (.int .i64 0))) := HFN
          clear HFN
          refine wpAnyH_ready (rs := [8]) (by kernel_rfl) (by simp) ?_
          refine AllReadyH.cons rfl (fun K hK => ?_) AllReadyH.nil
          go_simp
          refine hK.out _ _ HFN2.out.2 (fun hHeld => ?_)
          clear hK K
          try simp only [Act.put, List.setIfInBounds_toArray, List.set_cons_zero, List.set_cons_succ]
          refine wpAnyH_done (by kernel_rfl) ?_ _
          go_wp2_with fail
          go_meet
          exact ⟨_, _, rfl, HFN2.out.1⟩
        · skip
          go_simp
          have HT37 : Hid (Av w (z34.alloc (.cells #[.pointer none, .int .i64 0] 27)) ∧ Blk (z34.alloc (.cells #[.pointer none, .int .i64 0] 27)) z34.heap.size 27 [.pointer none, .int .i64 0]) := ⟨HAvT34.out.next (below1 z34 _), Blk.new z34 27 [.pointer none, .int .i64 0]⟩
          have HIT37 : Hid (Ix (z34.alloc (.cells #[.pointer none, .int .i64 0] 27)) p34 aF 1 9) := HIT34.out.next (below1 z34 (.cells #[.pointer none, .int .i64 0] 27))
          have HAvT37 : Hid (Av w (z34.alloc (.cells #[.pointer none, .int .i64 0] 27))) := HT37.out.1
          have HYT37 : Hid (Blk (z34.alloc (.cells #[.pointer none, .int .i64 0] 27)) z34.heap.size 27 [.pointer none, .int .i64 0]) := HT37.out.2
          have HNT37 : Hid (w.heap.size + 1 < z34.heap.size) := HAvT34.out.z.lt
          refine hK.out _ _ HT37.out.1.c (fun hHeld => ?_)
          clear hK K
          try simp only [Act.put, List.setIfInBounds_toArray, List.set_cons_zero, List.set_cons_succ]
          refine wpAnyH_ready (rs := [6]) (by kernel_rfl) (by simp) ?_
          refine AllReadyH.cons rfl (fun K hK => ?_) AllReadyH.nil
          go_simp
          refine Calls.mono (HW3.out _ _ HIT37.out) ?_
          rintro e z38 ⟨p38, rfl, hIT38, kT38⟩
          have HIT38 : Hid (Ix z38 p38 aF 1 10) := hIT38
          have HAvT38 : Hid (Av w z38) := HAvT37.out.next kT38
          have HYT38 : Hid (Blk z38 z34.heap.size 27 [.pointer none, .int .i64 0]) := HYT37.out.next kT38
          clear hIT38 kT38
          refine hK.out _ _ HAvT38.out.c (fun hHeld => ?_)
          clear hK K
          try simp only [Act.put, List.setIfInBounds_toArray, List.set_cons_zero, List.set_cons_succ]
          have HB7 : Hid (Blk z38 (z34.heap.size) 27 [.pointer none, .int .i64 0]) := HYT38.out
          have HFN := fin3 HAvT38.out HIT38.out HB7.out (by have := HNT37.out; omega)
          have y0 := HB7.out.cell (i := 0) rfl
          have y1 := HB7.out.cell (i := 1) rfl
          have yf := HB7.out.fz
          have HFN2 : Hid ((((z38.setCell ⟨z34.heap.size, 0, none⟩ (.pointer p38)).setCell ⟨z34.heap.size, 1, none⟩ (.int .i64 2)).cell? ⟨w.heap.size, 0, none⟩ = some (.int .i64 2) ∧ ((z38.setCell ⟨z34.heap.size, 0, none⟩ (.pointer p38)).setCell ⟨z34.heap.size, 1, none⟩ (.int .i64 2)).cell? ⟨w.heap.size, 1, none⟩ = some (.int .i64 0) ∧ ((z38.setCell ⟨z34.heap.size, 0, none⟩ (.pointer p38)).setCell ⟨z34.heap.size, 1, none⟩ (.int .i64 2)).cell? ⟨w.heap.size, 2, none⟩ = some (.string ⟨#[97]⟩) ∧ ((z38.setCell ⟨z34.heap.size, 0, none⟩ (.pointer p38)).setCell ⟨z34.heap.size, 1, none⟩ (.int .i64 2)).cell? ⟨w.heap.size + 1, 0, none⟩ = some (.pointer none) ∧ ((z38.setCell ⟨z34.heap.size, 0, none⟩ (.pointer p38)).setCell ⟨z34.heap.size, 1, none⟩ (.int .i64 2)).cell? ⟨w.heap.size + 1, 1, none⟩ = some (.int .i64 0) ∧ ((z38.setCell ⟨z34.heap.size, 0, none⟩ (.pointer p38)).setCell ⟨z34.heap.size, 1, none⟩ (.int .i64 2)).cell? ⟨z34.heap.size, 0, none⟩ = some (.pointer p38) ∧ ((z38.setCell ⟨z34.heap.size, 0, none⟩ (.pointer p38)).setCell ⟨z34.heap.size, 1, none⟩ (.int .i64 2)).cell? ⟨z34.heap.size, 1, none⟩ = some (.int .i64 2) ∧ Hid (Below w.heap.size w ((z38.setCell ⟨z34.heap.size, 0, none⟩ (.pointer p38)).setCell ⟨z34.heap.size, 1, none⟩ (.int .i64 2)) ∧ Ix ((z38.setCell ⟨z34.heap.size, 0, none⟩ (.pointer p38)).setCell ⟨z34.heap.size, 1, none⟩ (.int .i64 2)) p38 aF 1 10)) ∧ (((z38.setCell ⟨z34.heap.size, 0, none⟩ (.pointer p38)).setCell ⟨z34.heap.size, 1, none⟩ (.int .i64 2)).cell? ⟨w.heap.size, 0, none⟩ = some (.int .i64 2) ∧ ((z38.setCell ⟨z34.heap.size, 0, none⟩ (.pointer p38)).setCell ⟨z34.heap.size, 1, none⟩ (.int .i64 2)).cell? ⟨w.heap.size, 1, none⟩ = some (.int .i64 0) ∧ ((z38.setCell ⟨z34.heap.size, 0, none⟩ (.pointer p38)).setCell ⟨z34.heap.size, 1, none⟩ (.int .i64 2)).cell? ⟨w.heap.size, 2, none⟩ = some (.string ⟨#[97]⟩) ∧ ((z38.setCell ⟨z34.heap.size, 0, none⟩ (.pointer p38)).setCell ⟨z34.heap.size, 1, none⟩ (.int .i64 2)).cell? ⟨w.heap.size + 1, 0, none⟩ = some (.pointer none) ∧ ((z38.setCell ⟨z34.heap.size, 0, none⟩ (.pointer p38)).setCell ⟨z34.heap.size, 1, none⟩ (.int .i64 2)).cell? ⟨w.heap.size + 1, 1, none⟩ = some (.int .i64 0))) := HFN
          clear HFN
          refine wpAnyH_ready (rs := [8]) (by kernel_rfl) (by simp) ?_
          refine AllReadyH.cons rfl (fun K hK => ?_) AllReadyH.nil
          go_simp
          refine hK.out _ _ HFN2.out.2 (fun hHeld => ?_)
          clear hK K
          try simp only [Act.put, List.setIfInBounds_toArray, List.set_cons_zero, List.set_cons_succ]
          refine wpAnyH_done (by kernel_rfl) ?_ _
          go_wp2_with fail
          go_meet
          exact ⟨_, _, rfl, HFN2.out.1⟩
      · skip
        go_simp
        have HT39 : Hid (Av w (z33.alloc (.cells #[.pointer none, .int .i64 0] 27)) ∧ Blk (z33.alloc (.cells #[.pointer none, .int .i64 0] 27)) z33.heap.size 27 [.pointer none, .int .i64 0]) := ⟨HAvT33.out.next (below1 z33 _), Blk.new z33 27 [.pointer none, .int .i64 0]⟩
        have HIT39 : Hid (Ix (z33.alloc (.cells #[.pointer none, .int .i64 0] 27)) p33 (upd (fun _ => []) vA [3]) 1 8) := HIT33.out.next (below1 z33 (.cells #[.pointer none, .int .i64 0] 27))
        have HAvT39 : Hid (Av w (z33.alloc (.cells #[.pointer none, .int .i64 0] 27))) := HT39.out.1
        have HYT39 : Hid (Blk (z33.alloc (.cells #[.pointer none, .int .i64 0] 27)) z33.heap.size 27 [.pointer none, .int .i64 0]) := HT39.out.2
        have HNT39 : Hid (w.heap.size + 1 < z33.heap.size) := HAvT33.out.z.lt
        refine hK.out _ _ HT39.out.1.c (fun hHeld => ?_)
        clear hK K
        try simp only [Act.put, List.setIfInBounds_toArray, List.set_cons_zero, List.set_cons_succ]
        refine wpAnyH_ready (rs := [4]) (by kernel_rfl) (by simp) ?_
        refine AllReadyH.cons rfl (fun K hK => ?_) AllReadyH.nil
        go_simp
        refine Calls.mono (HW2.out _ _ HIT39.out) ?_
        rintro e z40 ⟨p40, rfl, hIT40, kT40⟩
        have HIT40 : Hid (Ix z40 p40 aF 1 9) := hIT40
        have HAvT40 : Hid (Av w z40) := HAvT39.out.next kT40
        have HYT40 : Hid (Blk z40 z33.heap.size 27 [.pointer none, .int .i64 0]) := HYT39.out.next kT40
        clear hIT40 kT40
        refine hK.out _ _ HAvT40.out.c (fun hHeld => ?_)
        clear hK K
        try simp only [Act.put, List.setIfInBounds_toArray, List.set_cons_zero, List.set_cons_succ]
        refine wpAnyH_ready (rs := [6]) (by kernel_rfl) (by simp) ?_
        refine AllReadyH.cons rfl (fun K hK => ?_) AllReadyH.nil
        go_simp
        refine Calls.mono (HW3.out _ _ HIT40.out) ?_
        rintro e z41 ⟨p41, rfl, hIT41, kT41⟩
        have HIT41 : Hid (Ix z41 p41 aF 1 10) := hIT41
        have HAvT41 : Hid (Av w z41) := HAvT40.out.next kT41
        have HYT41 : Hid (Blk z41 z33.heap.size 27 [.pointer none, .int .i64 0]) := HYT40.out.next kT41
        clear hIT41 kT41
        refine hK.out _ _ HAvT41.out.c (fun hHeld => ?_)
        clear hK K
        try simp only [Act.put, List.setIfInBounds_toArray, List.set_cons_zero, List.set_cons_succ]
        have HB7 : Hid (Blk z41 (z33.heap.size) 27 [.pointer none, .int .i64 0]) := HYT41.out
        have HFN := fin3 HAvT41.out HIT41.out HB7.out (by have := HNT39.out; omega)
        have y0 := HB7.out.cell (i := 0) rfl
        have y1 := HB7.out.cell (i := 1) rfl
        have yf := HB7.out.fz
        have HFN2 : Hid ((((z41.setCell ⟨z33.heap.size, 0, none⟩ (.pointer p41)).setCell ⟨z33.heap.size, 1, none⟩ (.int .i64 2)).cell? ⟨w.heap.size, 0, none⟩ = some (.int .i64 2) ∧ ((z41.setCell ⟨z33.heap.size, 0, none⟩ (.pointer p41)).setCell ⟨z33.heap.size, 1, none⟩ (.int .i64 2)).cell? ⟨w.heap.size, 1, none⟩ = some (.int .i64 0) ∧ ((z41.setCell ⟨z33.heap.size, 0, none⟩ (.pointer p41)).setCell ⟨z33.heap.size, 1, none⟩ (.int .i64 2)).cell? ⟨w.heap.size, 2, none⟩ = some (.string ⟨#[97]⟩) ∧ ((z41.setCell ⟨z33.heap.size, 0, none⟩ (.pointer p41)).setCell ⟨z33.heap.size, 1, none⟩ (.int .i64 2)).cell? ⟨w.heap.size + 1, 0, none⟩ = some (.pointer none) ∧ ((z41.setCell ⟨z33.heap.size, 0, none⟩ (.pointer p41)).setCell ⟨z33.heap.size, 1, none⟩ (.int .i64 2)).cell? ⟨w.heap.size + 1, 1, none⟩ = some (.int .i64 0) ∧ ((z41.setCell ⟨z33.heap.size, 0, none⟩ (.pointer p41)).setCell ⟨z33.heap.size, 1, none⟩ (.int .i64 2)).cell? ⟨z33.heap.size, 0, none⟩ = some (.pointer p41) ∧ ((z41.setCell ⟨z33.heap.size, 0, none⟩ (.pointer p41)).setCell ⟨z33.heap.size, 1, none⟩ (.int .i64 2)).cell? ⟨z33.heap.size, 1, none⟩ = some (.int .i64 2) ∧ Hid (Below w.heap.size w ((z41.setCell ⟨z33.heap.size, 0, none⟩ (.pointer p41)).setCell ⟨z33.heap.size, 1, none⟩ (.int .i64 2)) ∧ Ix ((z41.setCell ⟨z33.heap.size, 0, none⟩ (.pointer p41)).setCell ⟨z33.heap.size, 1, none⟩ (.int .i64 2)) p41 aF 1 10)) ∧ (((z41.setCell ⟨z33.heap.size, 0, none⟩ (.pointer p41)).setCell ⟨z33.heap.size, 1, none⟩ (.int .i64 2)).cell? ⟨w.heap.size, 0, none⟩ = some (.int .i64 2) ∧ ((z41.setCell ⟨z33.heap.size, 0, none⟩ (.pointer p41)).setCell ⟨z33.heap.size, 1, none⟩ (.int .i64 2)).cell? ⟨w.heap.size, 1, none⟩ = some (.int .i64 0) ∧ ((z41.setCell ⟨z33.heap.size, 0, none⟩ (.pointer p41)).setCell ⟨z33.heap.size, 1, none⟩ (.int .i64 2)).cell? ⟨w.heap.size, 2, none⟩ = some (.string ⟨#[97]⟩) ∧ ((z41.setCell ⟨z33.heap.size, 0, none⟩ (.pointer p41)).setCell ⟨z33.heap.size, 1, none⟩ (.int .i64 2)).cell? ⟨w.heap.size + 1, 0, none⟩ = some (.pointer none) ∧ ((z41.setCell ⟨z33.heap.size, 0, none⟩ (.pointer p41)).setCell ⟨z33.heap.size, 1, none⟩ (.int .i64 2)).cell? ⟨w.heap.size + 1, 1, none⟩ = some (.int .i64 0))) := HFN
        clear HFN
        refine wpAnyH_ready (rs := [8]) (by kernel_rfl) (by simp) ?_
        refine AllReadyH.cons rfl (fun K hK => ?_) AllReadyH.nil
        go_simp
        refine hK.out _ _ HFN2.out.2 (fun hHeld => ?_)
        clear hK K
        try simp only [Act.put, List.setIfInBounds_toArray, List.set_cons_zero, List.set_cons_succ]
        refine wpAnyH_done (by kernel_rfl) ?_ _
        go_wp2_with fail
        go_meet
        exact ⟨_, _, rfl, HFN2.out.1⟩
    · skip
      go_simp
      have HT42 : Hid (Av w (W0.alloc (.cells #[.pointer none, .int .i64 0] 27)).drew ∧ Blk (W0.alloc (.cells #[.pointer none, .int .i64 0] 27)).drew W0.heap.size 27 [.pointer none, .int .i64 0]) := ⟨HAv0.out.next (below1 W0.drew _), Blk.new W0.drew 27 [.pointer none, .int .i64 0]⟩
      have HAvT42 : Hid (Av w (W0.alloc (.cells #[.pointer none, .int .i64 0] 27)).drew) := HT42.out.1
      have HYT42 : Hid (Blk (W0.alloc (.cells #[.pointer none, .int .i64 0] 27)).drew W0.heap.size 27 [.pointer none, .int .i64 0]) := HT42.out.2
      have HNT42 : Hid (w.heap.size + 1 < W0.heap.size) := HAv0.out.z.lt
      refine hK.out _ _ HT42.out.1.c (fun hHeld => ?_)
      clear hK K
      try simp only [Act.put, List.setIfInBounds_toArray, List.set_cons_zero, List.set_cons_succ]
      refine wpAnyH_ready (rs := [2]) (by kernel_rfl) (by simp) ?_
      refine AllReadyH.cons rfl (fun K hK => ?_) AllReadyH.nil
      go_simp
      refine Calls.mono (HW1.out _) ?_
      rintro e z43 ⟨p43, rfl, hIT43, kT43⟩
      have HIT43 : Hid (Ix z43 p43 (upd (fun _ => []) vA [3]) 1 8) := hIT43
      have HAvT43 : Hid (Av w z43) := HAvT42.out.next kT43
      have HYT43 : Hid (Blk z43 W0.heap.size 27 [.pointer none, .int .i64 0]) := HYT42.out.next kT43
      clear hIT43 kT43
      refine hK.out _ _ HAvT43.out.c (fun hHeld => ?_)
      clear hK K
      try simp only [Act.put, List.setIfInBounds_toArray, List.set_cons_zero, List.set_cons_succ]
      refine wpAnyH_ready (rs := [4]) (by kernel_rfl) (by simp) ?_
      refine AllReadyH.cons rfl (fun K hK => ?_) AllReadyH.nil
      go_simp
      refine Calls.mono (HW2.out _ _ HIT43.out) ?_
      rintro e z44 ⟨p44, rfl, hIT44, kT44⟩
      have HIT44 : Hid (Ix z44 p44 aF 1 9) := hIT44
      have HAvT44 : Hid (Av w z44) := HAvT43.out.next kT44
      have HYT44 : Hid (Blk z44 W0.heap.size 27 [.pointer none, .int .i64 0]) := HYT43.out.next kT44
      clear hIT44 kT44
      refine hK.out _ _ HAvT44.out.c (fun hHeld => ?_)
      clear hK K
      try simp only [Act.put, List.setIfInBounds_toArray, List.set_cons_zero, List.set_cons_succ]
      refine wpAnyH_ready (rs := [6]) (by kernel_rfl) (by simp) ?_
      refine AllReadyH.cons rfl (fun K hK => ?_) AllReadyH.nil
      go_simp
      refine Calls.mono (HW3.out _ _ HIT44.out) ?_
      rintro e z45 ⟨p45, rfl, hIT45, kT45⟩
      have HIT45 : Hid (Ix z45 p45 aF 1 10) := hIT45
      have HAvT45 : Hid (Av w z45) := HAvT44.out.next kT45
      have HYT45 : Hid (Blk z45 W0.heap.size 27 [.pointer none, .int .i64 0]) := HYT44.out.next kT45
      clear hIT45 kT45
      refine hK.out _ _ HAvT45.out.c (fun hHeld => ?_)
      clear hK K
      try simp only [Act.put, List.setIfInBounds_toArray, List.set_cons_zero, List.set_cons_succ]
      have HB7 : Hid (Blk z45 (W0.heap.size) 27 [.pointer none, .int .i64 0]) := HYT45.out
      have HFN := fin3 HAvT45.out HIT45.out HB7.out (by have := HNT42.out; omega)
      have y0 := HB7.out.cell (i := 0) rfl
      have y1 := HB7.out.cell (i := 1) rfl
      have yf := HB7.out.fz
      have HFN2 : Hid ((((z45.setCell ⟨W0.heap.size, 0, none⟩ (.pointer p45)).setCell ⟨W0.heap.size, 1, none⟩ (.int .i64 2)).cell? ⟨w.heap.size, 0, none⟩ = some (.int .i64 2) ∧ ((z45.setCell ⟨W0.heap.size, 0, none⟩ (.pointer p45)).setCell ⟨W0.heap.size, 1, none⟩ (.int .i64 2)).cell? ⟨w.heap.size, 1, none⟩ = some (.int .i64 0) ∧ ((z45.setCell ⟨W0.heap.size, 0, none⟩ (.pointer p45)).setCell ⟨W0.heap.size, 1, none⟩ (.int .i64 2)).cell? ⟨w.heap.size, 2, none⟩ = some (.string ⟨#[97]⟩) ∧ ((z45.setCell ⟨W0.heap.size, 0, none⟩ (.pointer p45)).setCell ⟨W0.heap.size, 1, none⟩ (.int .i64 2)).cell? ⟨w.heap.size + 1, 0, none⟩ = some (.pointer none) ∧ ((z45.setCell ⟨W0.heap.size, 0, none⟩ (.pointer p45)).setCell ⟨W0.heap.size, 1, none⟩ (.int .i64 2)).cell? ⟨w.heap.size + 1, 1, none⟩ = some (.int .i64 0) ∧ ((z45.setCell ⟨W0.heap.size, 0, none⟩ (.pointer p45)).setCell ⟨W0.heap.size, 1, none⟩ (.int .i64 2)).cell? ⟨W0.heap.size, 0, none⟩ = some (.pointer p45) ∧ ((z45.setCell ⟨W0.heap.size, 0, none⟩ (.pointer p45)).setCell ⟨W0.heap.size, 1, none⟩ (.int .i64 2)).cell? ⟨W0.heap.size, 1, none⟩ = some (.int .i64 2) ∧ Hid (Below w.heap.size w ((z45.setCell ⟨W0.heap.size, 0, none⟩ (.pointer p45)).setCell ⟨W0.heap.size, 1, none⟩ (.int .i64 2)) ∧ Ix ((z45.setCell ⟨W0.heap.size, 0, none⟩ (.pointer p45)).setCell ⟨W0.heap.size, 1, none⟩ (.int .i64 2)) p45 aF 1 10)) ∧ (((z45.setCell ⟨W0.heap.size, 0, none⟩ (.pointer p45)).setCell ⟨W0.heap.size, 1, none⟩ (.int .i64 2)).cell? ⟨w.heap.size, 0, none⟩ = some (.int .i64 2) ∧ ((z45.setCell ⟨W0.heap.size, 0, none⟩ (.pointer p45)).setCell ⟨W0.heap.size, 1, none⟩ (.int .i64 2)).cell? ⟨w.heap.size, 1, none⟩ = some (.int .i64 0) ∧ ((z45.setCell ⟨W0.heap.size, 0, none⟩ (.pointer p45)).setCell ⟨W0.heap.size, 1, none⟩ (.int .i64 2)).cell? ⟨w.heap.size, 2, none⟩ = some (.string ⟨#[97]⟩) ∧ ((z45.setCell ⟨W0.heap.size, 0, none⟩ (.pointer p45)).setCell ⟨W0.heap.size, 1, none⟩ (.int .i64 2)).cell? ⟨w.heap.size + 1, 0, none⟩ = some (.pointer none) ∧ ((z45.setCell ⟨W0.heap.size, 0, none⟩ (.pointer p45)).setCell ⟨W0.heap.size, 1, none⟩ (.int .i64 2)).cell? ⟨w.heap.size + 1, 1, none⟩ = some (.int .i64 0))) := HFN
      clear HFN
      refine wpAnyH_ready (rs := [8]) (by kernel_rfl) (by simp) ?_
      refine AllReadyH.cons rfl (fun K hK => ?_) AllReadyH.nil
      go_simp
      refine hK.out _ _ HFN2.out.2 (fun hHeld => ?_)
      clear hK K
      try simp only [Act.put, List.setIfInBounds_toArray, List.set_cons_zero, List.set_cons_succ]
      refine wpAnyH_done (by kernel_rfl) ?_ _
      go_wp2_with fail
      go_meet
      exact ⟨_, _, rfl, HFN2.out.1⟩
  case rest =>
  obtain ⟨yb, py, rfl, HS⟩ := hcut
  clear HAv0 HW0 HW1 HW2 HW3
  have HSA : Hid (∀ (w' : World) (o : Obj), (w'.cell? ⟨w.heap.size, 0, none⟩ = some (.int .i64 2) ∧ w'.cell? ⟨w.heap.size, 1, none⟩ = some (.int .i64 0) ∧ w'.cell? ⟨w.heap.size, 2, none⟩ = some (.string ⟨#[97]⟩) ∧ w'.cell? ⟨w.heap.size + 1, 0, none⟩ = some (.pointer none) ∧ w'.cell? ⟨w.heap.size + 1, 1, none⟩ = some (.int .i64 0) ∧ w'.cell? ⟨yb, 0, none⟩ = some (.pointer py) ∧ w'.cell? ⟨yb, 1, none⟩ = some (.int .i64 2) ∧ Hid (Below w.heap.size w w' ∧ Ix w' py aF 1 10)) → ((w'.alloc o).cell? ⟨w.heap.size, 0, none⟩ = some (.int .i64 2) ∧ (w'.alloc o).cell? ⟨w.heap.size, 1, none⟩ = some (.int .i64 0) ∧ (w'.alloc o).cell? ⟨w.heap.size, 2, none⟩ = some (.string ⟨#[97]⟩) ∧ (w'.alloc o).cell? ⟨w.heap.size + 1, 0, none⟩ = some (.pointer none) ∧ (w'.alloc o).cell? ⟨w.heap.size + 1, 1, none⟩ = some (.int .i64 0) ∧ (w'.alloc o).cell? ⟨yb, 0, none⟩ = some (.pointer py) ∧ (w'.alloc o).cell? ⟨yb, 1, none⟩ = some (.int .i64 2) ∧ Hid (Below w.heap.size w (w'.alloc o) ∧ Ix (w'.alloc o) py aF 1 10))) := fun w' o h => awk_next h (below1 w' o)
  have HF : Hid (∀ w', (w'.cell? ⟨w.heap.size, 0, none⟩ = some (.int .i64 2) ∧ w'.cell? ⟨w.heap.size, 1, none⟩ = some (.int .i64 0) ∧ w'.cell? ⟨w.heap.size, 2, none⟩ = some (.string ⟨#[97]⟩) ∧ w'.cell? ⟨w.heap.size + 1, 0, none⟩ = some (.pointer none) ∧ w'.cell? ⟨w.heap.size + 1, 1, none⟩ = some (.int .i64 0) ∧ w'.cell? ⟨yb, 0, none⟩ = some (.pointer py) ∧ w'.cell? ⟨yb, 1, none⟩ = some (.int .i64 2) ∧ Hid (Below w.heap.size w w' ∧ Ix w' py aF 1 10)) → Calls Try.prog 13 #[.agg #[.pointer py, .int .i64 2], .agg #[.int .i64 2, .int .i64 0, .string ⟨#[97]⟩]] w' fun e w'' => ∃ a1 c1, e = .returned (.slice a1 2 c1) ∧ Hid (Sl iv 1 w'' (.slice a1 2 c1) [1, 3] ∧ Below w'.heap.size w' w'') ∧ Hid (w''.cell? ⟨w.heap.size, 0, none⟩ = some (.int .i64 2) ∧ w''.cell? ⟨w.heap.size, 1, none⟩ = some (.int .i64 0) ∧ w''.cell? ⟨w.heap.size, 2, none⟩ = some (.string ⟨#[97]⟩) ∧ w''.cell? ⟨w.heap.size + 1, 0, none⟩ = some (.pointer none) ∧ w''.cell? ⟨w.heap.size + 1, 1, none⟩ = some (.int .i64 0) ∧ w''.cell? ⟨yb, 0, none⟩ = some (.pointer py) ∧ w''.cell? ⟨yb, 1, none⟩ = some (.int .i64 2) ∧ Hid (Below w.heap.size w w'' ∧ Ix w'' py aF 1 10))) := fun w' h => by
    refine (find_is py 2 aF 1 10 (by omega) (by omega) vA vA_fit w' h.2.2.2.2.2.2.2.out.2).mono fun e w'' ⟨v, q1, q2, q3⟩ => ?_
    rw [aw4.2.1] at q2
    obtain ⟨a, c, rfl⟩ := slices_shape q2
    exact ⟨a, c, q1, ⟨q2, q3⟩, awk_next h q3⟩
  have HM2 : Hid (∀ w' u v, Sl iv 1 w' u [1, 3] → Sl iv 1 w' v [1, 3] → (w'.cell? ⟨w.heap.size, 0, none⟩ = some (.int .i64 2) ∧ w'.cell? ⟨w.heap.size, 1, none⟩ = some (.int .i64 0) ∧ w'.cell? ⟨w.heap.size, 2, none⟩ = some (.string ⟨#[97]⟩) ∧ w'.cell? ⟨w.heap.size + 1, 0, none⟩ = some (.pointer none) ∧ w'.cell? ⟨w.heap.size + 1, 1, none⟩ = some (.int .i64 0) ∧ w'.cell? ⟨yb, 0, none⟩ = some (.pointer py) ∧ w'.cell? ⟨yb, 1, none⟩ = some (.int .i64 2) ∧ Hid (Below w.heap.size w w' ∧ Ix w' py aF 1 10)) → Calls Try.prog 12 #[u, v] w' fun e w'' => e = .returned (.bool true) ∧ Hid (w''.cell? ⟨w.heap.size, 0, none⟩ = some (.int .i64 2) ∧ w''.cell? ⟨w.heap.size, 1, none⟩ = some (.int .i64 0) ∧ w''.cell? ⟨w.heap.size, 2, none⟩ = some (.string ⟨#[97]⟩) ∧ w''.cell? ⟨w.heap.size + 1, 0, none⟩ = some (.pointer none) ∧ w''.cell? ⟨w.heap.size + 1, 1, none⟩ = some (.int .i64 0) ∧ w''.cell? ⟨yb, 0, none⟩ = some (.pointer py) ∧ w''.cell? ⟨yb, 1, none⟩ = some (.int .i64 2) ∧ Hid (Below w.heap.size w w'' ∧ Ix w'' py aF 1 10))) := fun w' u v h1 h2 h => by
    have := same_is u v [1, 3] [1, 3] (by decide) (by decide) w' h1 h2
    rw [decide_eq_true rfl] at this
    exact this.mono fun e w'' ⟨q1, q2⟩ => ⟨q1, awk_next h q2⟩
  have HM1 : Hid (∀ w' u v, Sl iv 1 w' u [1] → Sl iv 1 w' v [1] → (w'.cell? ⟨w.heap.size, 0, none⟩ = some (.int .i64 2) ∧ w'.cell? ⟨w.heap.size, 1, none⟩ = some (.int .i64 0) ∧ w'.cell? ⟨w.heap.size, 2, none⟩ = some (.string ⟨#[97]⟩) ∧ w'.cell? ⟨w.heap.size + 1, 0, none⟩ = some (.pointer none) ∧ w'.cell? ⟨w.heap.size + 1, 1, none⟩ = some (.int .i64 0) ∧ w'.cell? ⟨yb, 0, none⟩ = some (.pointer py) ∧ w'.cell? ⟨yb, 1, none⟩ = some (.int .i64 2) ∧ Hid (Below w.heap.size w w' ∧ Ix w' py aF 1 10)) → Calls Try.prog 12 #[u, v] w' fun e w'' => e = .returned (.bool true) ∧ Hid (w''.cell? ⟨w.heap.size, 0, none⟩ = some (.int .i64 2) ∧ w''.cell? ⟨w.heap.size, 1, none⟩ = some (.int .i64 0) ∧ w''.cell? ⟨w.heap.size, 2, none⟩ = some (.string ⟨#[97]⟩) ∧ w''.cell? ⟨w.heap.size + 1, 0, none⟩ = some (.pointer none) ∧ w''.cell? ⟨w.heap.size + 1, 1, none⟩ = some (.int .i64 0) ∧ w''.cell? ⟨yb, 0, none⟩ = some (.pointer py) ∧ w''.cell? ⟨yb, 1, none⟩ = some (.int .i64 2) ∧ Hid (Below w.heap.size w w'' ∧ Ix w'' py aF 1 10))) := fun w' u v h1 h2 h => by
    have := same_is u v [1] [1] (by decide) (by decide) w' h1 h2
    rw [decide_eq_true rfl] at this
    exact this.mono fun e w'' ⟨q1, q2⟩ => ⟨q1, awk_next h q2⟩
  have HL : Hid (∀ w' p c, (w'.cell? ⟨w.heap.size, 0, none⟩ = some (.int .i64 2) ∧ w'.cell? ⟨w.heap.size, 1, none⟩ = some (.int .i64 0) ∧ w'.cell? ⟨w.heap.size, 2, none⟩ = some (.string ⟨#[97]⟩) ∧ w'.cell? ⟨w.heap.size + 1, 0, none⟩ = some (.pointer none) ∧ w'.cell? ⟨w.heap.size + 1, 1, none⟩ = some (.int .i64 0) ∧ w'.cell? ⟨yb, 0, none⟩ = some (.pointer py) ∧ w'.cell? ⟨yb, 1, none⟩ = some (.int .i64 2) ∧ Hid (Below w.heap.size w w' ∧ Ix w' py aF 1 10)) → Calls Try.prog 10 #[.agg #[.pointer p, .int .i64 c]] w' fun e w'' => e = .returned (.int .i64 c) ∧ Hid (w''.cell? ⟨w.heap.size, 0, none⟩ = some (.int .i64 2) ∧ w''.cell? ⟨w.heap.size, 1, none⟩ = some (.int .i64 0) ∧ w''.cell? ⟨w.heap.size, 2, none⟩ = some (.string ⟨#[97]⟩) ∧ w''.cell? ⟨w.heap.size + 1, 0, none⟩ = some (.pointer none) ∧ w''.cell? ⟨w.heap.size + 1, 1, none⟩ = some (.int .i64 0) ∧ w''.cell? ⟨yb, 0, none⟩ = some (.pointer py) ∧ w''.cell? ⟨yb, 1, none⟩ = some (.int .i64 2) ∧ Hid (Below w.heap.size w w'' ∧ Ix w'' py aF 1 10))) := fun w' p c h => (len_is p c w').mono fun e w'' ⟨q1, q2⟩ => ⟨q1, awk_next h q2⟩
  have HBu : Hid (∀ w', (w'.cell? ⟨w.heap.size, 0, none⟩ = some (.int .i64 2) ∧ w'.cell? ⟨w.heap.size, 1, none⟩ = some (.int .i64 0) ∧ w'.cell? ⟨w.heap.size, 2, none⟩ = some (.string ⟨#[97]⟩) ∧ w'.cell? ⟨w.heap.size + 1, 0, none⟩ = some (.pointer none) ∧ w'.cell? ⟨w.heap.size + 1, 1, none⟩ = some (.int .i64 0) ∧ w'.cell? ⟨yb, 0, none⟩ = some (.pointer py) ∧ w'.cell? ⟨yb, 1, none⟩ = some (.int .i64 2) ∧ Hid (Below w.heap.size w w' ∧ Ix w' py aF 1 10)) → Calls Try.prog 11 #[.agg #[.pointer py, .int .i64 2]] w' fun e w'' => e = .returned (.int .i64 8) ∧ Hid (w''.cell? ⟨w.heap.size, 0, none⟩ = some (.int .i64 2) ∧ w''.cell? ⟨w.heap.size, 1, none⟩ = some (.int .i64 0) ∧ w''.cell? ⟨w.heap.size, 2, none⟩ = some (.string ⟨#[97]⟩) ∧ w''.cell? ⟨w.heap.size + 1, 0, none⟩ = some (.pointer none) ∧ w''.cell? ⟨w.heap.size + 1, 1, none⟩ = some (.int .i64 0) ∧ w''.cell? ⟨yb, 0, none⟩ = some (.pointer py) ∧ w''.cell? ⟨yb, 1, none⟩ = some (.int .i64 2) ∧ Hid (Below w.heap.size w w'' ∧ Ix w'' py aF 1 10))) := fun w' h => (buckets_is py 2 aF 1 10 (by omega) w' h.2.2.2.2.2.2.2.out.2).mono fun e w'' ⟨q1, q2⟩ => ⟨q1, awk_next h q2⟩
  have HO : Hid (∀ w', (w'.cell? ⟨w.heap.size, 0, none⟩ = some (.int .i64 2) ∧ w'.cell? ⟨w.heap.size, 1, none⟩ = some (.int .i64 0) ∧ w'.cell? ⟨w.heap.size, 2, none⟩ = some (.string ⟨#[97]⟩) ∧ w'.cell? ⟨w.heap.size + 1, 0, none⟩ = some (.pointer none) ∧ w'.cell? ⟨w.heap.size + 1, 1, none⟩ = some (.int .i64 0) ∧ w'.cell? ⟨yb, 0, none⟩ = some (.pointer py) ∧ w'.cell? ⟨yb, 1, none⟩ = some (.int .i64 2) ∧ Hid (Below w.heap.size w w' ∧ Ix w' py aF 1 10)) → Calls Try.prog 16 #[.agg #[.pointer py, .int .i64 2], .agg #[.int .i64 2, .int .i64 0, .string ⟨#[97]⟩], .int .i64 3] w' fun e w'' => ∃ p6, e = .returned (.agg #[.pointer p6, .int .i64 1]) ∧ Hid (Ix w'' p6 (oF aF vA 3) 1 11 ∧ Below w'.heap.size w' w'') ∧ Hid (w''.cell? ⟨w.heap.size, 0, none⟩ = some (.int .i64 2) ∧ w''.cell? ⟨w.heap.size, 1, none⟩ = some (.int .i64 0) ∧ w''.cell? ⟨w.heap.size, 2, none⟩ = some (.string ⟨#[97]⟩) ∧ w''.cell? ⟨w.heap.size + 1, 0, none⟩ = some (.pointer none) ∧ w''.cell? ⟨w.heap.size + 1, 1, none⟩ = some (.int .i64 0) ∧ w''.cell? ⟨yb, 0, none⟩ = some (.pointer py) ∧ w''.cell? ⟨yb, 1, none⟩ = some (.int .i64 2) ∧ Hid (Below w.heap.size w w'' ∧ Ix w'' py aF 1 10))) := fun w' h => by
    have := Without_is py 2 aF 1 10 (by omega) (by omega) (by omega) vA vA_fit 3 (fun _ => by omega) w' h.2.2.2.2.2.2.2.out.2
    refine this.mono fun e w'' ⟨p6, q1, q2, q3⟩ => ⟨p6, ?_, ⟨q2, q3⟩, awk_next h q3⟩
    rw [show oC aF vA 3 2 = 1 by unfold oC; rw [if_pos aw4.2.2.2]] at q1
    exact q1
  have HG : Hid (∀ w' p6, Ix w' p6 (oF aF vA 3) 1 11 → (w'.cell? ⟨w.heap.size, 0, none⟩ = some (.int .i64 2) ∧ w'.cell? ⟨w.heap.size, 1, none⟩ = some (.int .i64 0) ∧ w'.cell? ⟨w.heap.size, 2, none⟩ = some (.string ⟨#[97]⟩) ∧ w'.cell? ⟨w.heap.size + 1, 0, none⟩ = some (.pointer none) ∧ w'.cell? ⟨w.heap.size + 1, 1, none⟩ = some (.int .i64 0) ∧ w'.cell? ⟨yb, 0, none⟩ = some (.pointer py) ∧ w'.cell? ⟨yb, 1, none⟩ = some (.int .i64 2) ∧ Hid (Below w.heap.size w w' ∧ Ix w' py aF 1 10)) → Calls Try.prog 13 #[.agg #[.pointer p6, .int .i64 1], .agg #[.int .i64 2, .int .i64 0, .string ⟨#[97]⟩]] w' fun e w'' => ∃ a1 c1, e = .returned (.slice a1 1 c1) ∧ Hid (Sl iv 1 w'' (.slice a1 1 c1) [1] ∧ Below w'.heap.size w' w'') ∧ Hid (w''.cell? ⟨w.heap.size, 0, none⟩ = some (.int .i64 2) ∧ w''.cell? ⟨w.heap.size, 1, none⟩ = some (.int .i64 0) ∧ w''.cell? ⟨w.heap.size, 2, none⟩ = some (.string ⟨#[97]⟩) ∧ w''.cell? ⟨w.heap.size + 1, 0, none⟩ = some (.pointer none) ∧ w''.cell? ⟨w.heap.size + 1, 1, none⟩ = some (.int .i64 0) ∧ w''.cell? ⟨yb, 0, none⟩ = some (.pointer py) ∧ w''.cell? ⟨yb, 1, none⟩ = some (.int .i64 2) ∧ Hid (Below w.heap.size w w'' ∧ Ix w'' py aF 1 10))) := fun w' p6 hI h => by
    refine (find_is p6 1 _ 1 11 (by omega) (by omega) vA vA_fit w' hI).mono fun e w'' ⟨v, q1, q2, q3⟩ => ?_
    rw [aw4.1] at q2
    obtain ⟨a, c, rfl⟩ := slices_shape q2
    exact ⟨a, c, q1, ⟨q2, q3⟩, awk_next h q3⟩
  have HZ : Hid (∀ w', (w'.cell? ⟨w.heap.size, 0, none⟩ = some (.int .i64 2) ∧ w'.cell? ⟨w.heap.size, 1, none⟩ = some (.int .i64 0) ∧ w'.cell? ⟨w.heap.size, 2, none⟩ = some (.string ⟨#[97]⟩) ∧ w'.cell? ⟨w.heap.size + 1, 0, none⟩ = some (.pointer none) ∧ w'.cell? ⟨w.heap.size + 1, 1, none⟩ = some (.int .i64 0) ∧ w'.cell? ⟨yb, 0, none⟩ = some (.pointer py) ∧ w'.cell? ⟨yb, 1, none⟩ = some (.int .i64 2) ∧ Hid (Below w.heap.size w w' ∧ Ix w' py aF 1 10)) → Calls Try.prog 13 #[.agg #[.pointer py, .int .i64 2], .agg #[.int .i64 0, .int .i64 0, .string ⟨#[]⟩]] w' fun e w'' => ∃ a1 c1, e = .returned (.slice a1 0 c1) ∧ Hid (w''.cell? ⟨w.heap.size, 0, none⟩ = some (.int .i64 2) ∧ w''.cell? ⟨w.heap.size, 1, none⟩ = some (.int .i64 0) ∧ w''.cell? ⟨w.heap.size, 2, none⟩ = some (.string ⟨#[97]⟩) ∧ w''.cell? ⟨w.heap.size + 1, 0, none⟩ = some (.pointer none) ∧ w''.cell? ⟨w.heap.size + 1, 1, none⟩ = some (.int .i64 0) ∧ w''.cell? ⟨yb, 0, none⟩ = some (.pointer py) ∧ w''.cell? ⟨yb, 1, none⟩ = some (.int .i64 2) ∧ Hid (Below w.heap.size w w'' ∧ Ix w'' py aF 1 10))) := fun w' h => by
    refine (find_is py 2 aF 1 10 (by omega) (by omega) ⟨0, 0, ⟨#[]⟩⟩ (by unfold Val.fit; decide) w' h.2.2.2.2.2.2.2.out.2).mono fun e w'' ⟨v, q1, q2, q3⟩ => ?_
    rw [aw4.2.2.1] at q2
    obtain ⟨a, c, rfl⟩ := slices_shape q2
    exact ⟨a, c, q1, awk_next h q3⟩
  obtain ⟨w3, hw3⟩ : ∃ w3, wc = w3 := ⟨_, rfl⟩
  subst hw3
  have HS0 : Hid ((wc.drew.cell? ⟨w.heap.size, 0, none⟩ = some (.int .i64 2) ∧ wc.drew.cell? ⟨w.heap.size, 1, none⟩ = some (.int .i64 0) ∧ wc.drew.cell? ⟨w.heap.size, 2, none⟩ = some (.string ⟨#[97]⟩) ∧ wc.drew.cell? ⟨w.heap.size + 1, 0, none⟩ = some (.pointer none) ∧ wc.drew.cell? ⟨w.heap.size + 1, 1, none⟩ = some (.int .i64 0) ∧ wc.drew.cell? ⟨yb, 0, none⟩ = some (.pointer py) ∧ wc.drew.cell? ⟨yb, 1, none⟩ = some (.int .i64 2) ∧ Hid (Below w.heap.size w wc.drew ∧ Ix wc.drew py aF 1 10))) := awk_next HS.out (Below.refl _ _).drew
  go_wp2_with fail
  refine wp_region_held_drew (S := (fun (w' : World) => (w'.cell? ⟨w.heap.size, 0, none⟩ = some (.int .i64 2) ∧ w'.cell? ⟨w.heap.size, 1, none⟩ = some (.int .i64 0) ∧ w'.cell? ⟨w.heap.size, 2, none⟩ = some (.string ⟨#[97]⟩) ∧ w'.cell? ⟨w.heap.size + 1, 0, none⟩ = some (.pointer none) ∧ w'.cell? ⟨w.heap.size + 1, 1, none⟩ = some (.int .i64 0) ∧ w'.cell? ⟨yb, 0, none⟩ = some (.pointer py) ∧ w'.cell? ⟨yb, 1, none⟩ = some (.int .i64 2) ∧ Hid (Below w.heap.size w w' ∧ Ix w' py aF 1 10)))) (by kernel_rfl) HS0.out (fun hHeld => ?_)
  refine wpAnyH_take (i := 0) (oi := { dst := some 13, op := Op.load 27 (Operand.tmp 3), type := 27, pos := "law.go:16", after := #[], guard := none }) (v := .agg #[.pointer py, .int .i64 2]) rfl (by kernel_rfl) (by kernel_rfl) (by kernel_rfl) (fun _ _ _ h => h) (Or.inl ⟨by rfl, ?_⟩) (by with_reducible assumption) ?_
  · intro wx hSw
    (try dsimp only at hSw)
    first | (go_simp; done) | (go_simp; with_reducible rfl)
  try simp only [Act.put, List.setIfInBounds_toArray, List.set_cons_zero, List.set_cons_succ]
  refine wpAnyH_take (i := 1) (oi := { dst := some 14, op := Op.load 24 (Operand.tmp 1), type := 24, pos := "law.go:16", after := #[], guard := none }) (v := .agg #[.int .i64 2, .int .i64 0, .string ⟨#[97]⟩]) rfl (by kernel_rfl) (by kernel_rfl) (by kernel_rfl) (fun _ _ _ h => h) (Or.inl ⟨by rfl, ?_⟩) (by with_reducible assumption) ?_
  · intro wx hSw
    (try dsimp only at hSw)
    first | (go_simp; done) | (go_simp; with_reducible rfl)
  try simp only [Act.put, List.setIfInBounds_toArray, List.set_cons_zero, List.set_cons_succ]
  refine wpAnyH_ready (rs := [2, 3]) (by kernel_rfl) (by simp) ?_
  refine AllReadyH.cons rfl (fun K hK => ?_) (AllReadyH.cons rfl (fun K hK => ?_) AllReadyH.nil)
  · skip
    go_simp
    refine Calls.mono (HF.out _ HS0.out) ?_
    rintro e x1 ⟨a1, c1, rfl, HA1, HSx1⟩
    refine hK.out _ _ HSx1.out (fun hHeld => ?_)
    clear hK K
    try simp only [Act.put, List.setIfInBounds_toArray, List.set_cons_zero, List.set_cons_succ]
    refine wpAnyH_ready (rs := [3]) (by kernel_rfl) (by simp) ?_
    refine AllReadyH.cons rfl (fun K hK => ?_) AllReadyH.nil
    go_simp
    have HSl : Hid (((x1.alloc (.cells #[.int .i64 1, .int .i64 3] 3)).cell? ⟨w.heap.size, 0, none⟩ = some (.int .i64 2) ∧ (x1.alloc (.cells #[.int .i64 1, .int .i64 3] 3)).cell? ⟨w.heap.size, 1, none⟩ = some (.int .i64 0) ∧ (x1.alloc (.cells #[.int .i64 1, .int .i64 3] 3)).cell? ⟨w.heap.size, 2, none⟩ = some (.string ⟨#[97]⟩) ∧ (x1.alloc (.cells #[.int .i64 1, .int .i64 3] 3)).cell? ⟨w.heap.size + 1, 0, none⟩ = some (.pointer none) ∧ (x1.alloc (.cells #[.int .i64 1, .int .i64 3] 3)).cell? ⟨w.heap.size + 1, 1, none⟩ = some (.int .i64 0) ∧ (x1.alloc (.cells #[.int .i64 1, .int .i64 3] 3)).cell? ⟨yb, 0, none⟩ = some (.pointer py) ∧ (x1.alloc (.cells #[.int .i64 1, .int .i64 3] 3)).cell? ⟨yb, 1, none⟩ = some (.int .i64 2) ∧ Hid (Below w.heap.size w (x1.alloc (.cells #[.int .i64 1, .int .i64 3] 3)) ∧ Ix (x1.alloc (.cells #[.int .i64 1, .int .i64 3] 3)) py aF 1 10))) := HSA.out x1 _ HSx1.out
    refine hK.out _ _ HSl.out (fun hHeld => ?_)
    clear hK K
    try simp only [Act.put, List.setIfInBounds_toArray, List.set_cons_zero, List.set_cons_succ]
    refine wpAnyH_ready (rs := [4]) (by kernel_rfl) (by simp) ?_
    refine AllReadyH.cons rfl (fun K hK => ?_) AllReadyH.nil
    go_simp
    refine Calls.mono (HM2.out _ _ _ (HA1.out.1.next iv_ne (below1 x1 _)) (sl_two x1) HSl.out) ?_
    rintro e x2 ⟨rfl, HSx2⟩
    refine hK.out _ _ HSx2.out (fun hHeld => ?_)
    clear hK K
    try simp only [Act.put, List.setIfInBounds_toArray, List.set_cons_zero, List.set_cons_succ]
    refine wpAnyH_take (i := 5) (oi := { dst := some 18, op := Op.move (Operand.tmp 17), type := 4, pos := "law.go:16", after := #[{ on := 4, ground := Ground.data }, { on := 4, ground := Ground.chain }], guard := none }) (v := .bool true) rfl (by kernel_rfl) (by kernel_rfl) (by kernel_rfl) (fun _ _ _ h => h) (Or.inl ⟨by rfl, ?_⟩) (by with_reducible assumption) ?_
    · intro wx hSw
      (try dsimp only at hSw)
      first | (go_simp; done) | (go_simp; with_reducible rfl)
    try simp only [Act.put, List.setIfInBounds_toArray, List.set_cons_zero, List.set_cons_succ]
    refine wpAnyH_take (i := 6) (oi := { dst := some 19, op := Op.load 27 (Operand.tmp 3), type := 27, pos := "law.go:16", after := #[{ on := 5, ground := Ground.guard }], guard := some (5, true) }) (v := .agg #[.pointer py, .int .i64 2]) rfl (by kernel_rfl) (by kernel_rfl) (by kernel_rfl) (fun _ _ _ h => h) (Or.inl ⟨by rfl, ?_⟩) (by with_reducible assumption) ?_
    · intro wx hSw
      (try dsimp only at hSw)
      first | (go_simp; done) | (go_simp; with_reducible rfl)
    try simp only [Act.put, List.setIfInBounds_toArray, List.set_cons_zero, List.set_cons_succ]
    refine wpAnyH_ready (rs := [7]) (by kernel_rfl) (by simp) ?_
    refine AllReadyH.cons rfl (fun K hK => ?_) AllReadyH.nil
    go_simp
    refine Calls.mono (HL.out _ _ _ HSx2.out) ?_
    rintro e x3 ⟨rfl, HSx3⟩
    refine hK.out _ _ HSx3.out (fun hHeld => ?_)
    clear hK K
    try simp only [Act.put, List.setIfInBounds_toArray, List.set_cons_zero, List.set_cons_succ]
    refine wpAnyH_take (i := 8) (oi := { dst := some 21, op := Op.binOp BinOp.eql 3 (Operand.tmp 20) (Operand.const (Value.int IntKind.i64 2)) 3, type := 4, pos := "law.go:16", after := #[{ on := 7, ground := Ground.data }, { on := 5, ground := Ground.guard }], guard := some (5, true) }) (v := .bool true) rfl (by kernel_rfl) (by kernel_rfl) (by kernel_rfl) (fun _ _ _ h => h) (Or.inl ⟨by rfl, ?_⟩) (by with_reducible assumption) ?_
    · intro wx hSw
      (try dsimp only at hSw)
      first | (go_simp; done) | (go_simp; with_reducible rfl)
    try simp only [Act.put, List.setIfInBounds_toArray, List.set_cons_zero, List.set_cons_succ]
    refine wpAnyH_take (i := 9) (oi := { dst := some 22, op := Op.pick (Operand.tmp 18) (Operand.tmp 21) (Operand.const (Value.bool false)), type := 4, pos := "law.go:16", after := #[{ on := 5, ground := Ground.data }, { on := 8, ground := Ground.data }], guard := none }) (v := .bool true) rfl (by kernel_rfl) (by kernel_rfl) (by kernel_rfl) (fun _ _ _ h => h) (Or.inl ⟨by rfl, ?_⟩) (by with_reducible assumption) ?_
    · intro wx hSw
      (try dsimp only at hSw)
      first | (go_simp; done) | (go_simp; with_reducible rfl)
    try simp only [Act.put, List.setIfInBounds_toArray, List.set_cons_zero, List.set_cons_succ]
    refine wpAnyH_take (i := 10) (oi := { dst := some 23, op := Op.move (Operand.tmp 22), type := 4, pos := "law.go:16", after := #[{ on := 9, ground := Ground.data }, { on := 7, ground := Ground.chain }], guard := none }) (v := .bool true) rfl (by kernel_rfl) (by kernel_rfl) (by kernel_rfl) (fun _ _ _ h => h) (Or.inl ⟨by rfl, ?_⟩) (by with_reducible assumption) ?_
    · intro wx hSw
      (try dsimp only at hSw)
      first | (go_simp; done) | (go_simp; with_reducible rfl)
    try simp only [Act.put, List.setIfInBounds_toArray, List.set_cons_zero, List.set_cons_succ]
    refine wpAnyH_take (i := 11) (oi := { dst := some 24, op := Op.load 27 (Operand.tmp 2), type := 27, pos := "law.go:16", after := #[{ on := 10, ground := Ground.guard }], guard := some (10, true) }) (v := .agg #[.pointer none, .int .i64 0]) rfl (by kernel_rfl) (by kernel_rfl) (by kernel_rfl) (fun _ _ _ h => h) (Or.inl ⟨by rfl, ?_⟩) (by with_reducible assumption) ?_
    · intro wx hSw
      (try dsimp only at hSw)
      first | (go_simp; done) | (go_simp; with_reducible rfl)
    try simp only [Act.put, List.setIfInBounds_toArray, List.set_cons_zero, List.set_cons_succ]
    refine wpAnyH_ready (rs := [12]) (by kernel_rfl) (by simp) ?_
    refine AllReadyH.cons rfl (fun K hK => ?_) AllReadyH.nil
    go_simp
    refine Calls.mono (HL.out _ _ _ HSx3.out) ?_
    rintro e x4 ⟨rfl, HSx4⟩
    refine hK.out _ _ HSx4.out (fun hHeld => ?_)
    clear hK K
    try simp only [Act.put, List.setIfInBounds_toArray, List.set_cons_zero, List.set_cons_succ]
    refine wpAnyH_take (i := 13) (oi := { dst := some 26, op := Op.binOp BinOp.eql 3 (Operand.tmp 25) (Operand.const (Value.int IntKind.i64 0)) 3, type := 4, pos := "law.go:16", after := #[{ on := 12, ground := Ground.data }, { on := 10, ground := Ground.guard }], guard := some (10, true) }) (v := .bool true) rfl (by kernel_rfl) (by kernel_rfl) (by kernel_rfl) (fun _ _ _ h => h) (Or.inl ⟨by rfl, ?_⟩) (by with_reducible assumption) ?_
    · intro wx hSw
      (try dsimp only at hSw)
      first | (go_simp; done) | (go_simp; with_reducible rfl)
    try simp only [Act.put, List.setIfInBounds_toArray, List.set_cons_zero, List.set_cons_succ]
    refine wpAnyH_take (i := 14) (oi := { dst := some 27, op := Op.pick (Operand.tmp 23) (Operand.tmp 26) (Operand.const (Value.bool false)), type := 4, pos := "law.go:16", after := #[{ on := 10, ground := Ground.data }, { on := 13, ground := Ground.data }], guard := none }) (v := .bool true) rfl (by kernel_rfl) (by kernel_rfl) (by kernel_rfl) (fun _ _ _ h => h) (Or.inl ⟨by rfl, ?_⟩) (by with_reducible assumption) ?_
    · intro wx hSw
      (try dsimp only at hSw)
      first | (go_simp; done) | (go_simp; with_reducible rfl)
    try simp only [Act.put, List.setIfInBounds_toArray, List.set_cons_zero, List.set_cons_succ]
    refine wpAnyH_take (i := 15) (oi := { dst := some 28, op := Op.move (Operand.tmp 27), type := 4, pos := "law.go:16", after := #[{ on := 14, ground := Ground.data }, { on := 12, ground := Ground.chain }], guard := none }) (v := .bool true) rfl (by kernel_rfl) (by kernel_rfl) (by kernel_rfl) (fun _ _ _ h => h) (Or.inl ⟨by rfl, ?_⟩) (by with_reducible assumption) ?_
    · intro wx hSw
      (try dsimp only at hSw)
      first | (go_simp; done) | (go_simp; with_reducible rfl)
    try simp only [Act.put, List.setIfInBounds_toArray, List.set_cons_zero, List.set_cons_succ]
    refine wpAnyH_take (i := 16) (oi := { dst := some 29, op := Op.load 27 (Operand.tmp 3), type := 27, pos := "law.go:16", after := #[{ on := 15, ground := Ground.guard }], guard := some (15, true) }) (v := .agg #[.pointer py, .int .i64 2]) rfl (by kernel_rfl) (by kernel_rfl) (by kernel_rfl) (fun _ _ _ h => h) (Or.inl ⟨by rfl, ?_⟩) (by with_reducible assumption) ?_
    · intro wx hSw
      (try dsimp only at hSw)
      first | (go_simp; done) | (go_simp; with_reducible rfl)
    try simp only [Act.put, List.setIfInBounds_toArray, List.set_cons_zero, List.set_cons_succ]
    refine wpAnyH_ready (rs := [17]) (by kernel_rfl) (by simp) ?_
    refine AllReadyH.cons rfl (fun K hK => ?_) AllReadyH.nil
    go_simp
    refine Calls.mono (HBu.out _ HSx4.out) ?_
    rintro e x5 ⟨rfl, HSx5⟩
    refine hK.out _ _ HSx5.out (fun hHeld => ?_)
    clear hK K
    try simp only [Act.put, List.setIfInBounds_toArray, List.set_cons_zero, List.set_cons_succ]
    refine wpAnyH_take (i := 18) (oi := { dst := some 31, op := Op.binOp BinOp.eql 3 (Operand.tmp 30) (Operand.const (Value.int IntKind.i64 8)) 3, type := 4, pos := "law.go:16", after := #[{ on := 17, ground := Ground.data }, { on := 15, ground := Ground.guard }], guard := some (15, true) }) (v := .bool true) rfl (by kernel_rfl) (by kernel_rfl) (by kernel_rfl) (fun _ _ _ h => h) (Or.inl ⟨by rfl, ?_⟩) (by with_reducible assumption) ?_
    · intro wx hSw
      (try dsimp only at hSw)
      first | (go_simp; done) | (go_simp; with_reducible rfl)
    try simp only [Act.put, List.setIfInBounds_toArray, List.set_cons_zero, List.set_cons_succ]
    refine wpAnyH_take (i := 19) (oi := { dst := some 32, op := Op.pick (Operand.tmp 28) (Operand.tmp 31) (Operand.const (Value.bool false)), type := 4, pos := "law.go:16", after := #[{ on := 15, ground := Ground.data }, { on := 18, ground := Ground.data }], guard := none }) (v := .bool true) rfl (by kernel_rfl) (by kernel_rfl) (by kernel_rfl) (fun _ _ _ h => h) (Or.inl ⟨by rfl, ?_⟩) (by with_reducible assumption) ?_
    · intro wx hSw
      (try dsimp only at hSw)
      first | (go_simp; done) | (go_simp; with_reducible rfl)
    try simp only [Act.put, List.setIfInBounds_toArray, List.set_cons_zero, List.set_cons_succ]
    refine wpAnyH_take (i := 20) (oi := { dst := some 33, op := Op.move (Operand.tmp 32), type := 4, pos := "law.go:16", after := #[{ on := 19, ground := Ground.data }, { on := 17, ground := Ground.chain }], guard := none }) (v := .bool true) rfl (by kernel_rfl) (by kernel_rfl) (by kernel_rfl) (fun _ _ _ h => h) (Or.inl ⟨by rfl, ?_⟩) (by with_reducible assumption) ?_
    · intro wx hSw
      (try dsimp only at hSw)
      first | (go_simp; done) | (go_simp; with_reducible rfl)
    try simp only [Act.put, List.setIfInBounds_toArray, List.set_cons_zero, List.set_cons_succ]
    refine wpAnyH_take (i := 21) (oi := { dst := some 34, op := Op.load 27 (Operand.tmp 3), type := 27, pos := "law.go:16", after := #[{ on := 20, ground := Ground.guard }], guard := some (20, true) }) (v := .agg #[.pointer py, .int .i64 2]) rfl (by kernel_rfl) (by kernel_rfl) (by kernel_rfl) (fun _ _ _ h => h) (Or.inl ⟨by rfl, ?_⟩) (by with_reducible assumption) ?_
    · intro wx hSw
      (try dsimp only at hSw)
      first | (go_simp; done) | (go_simp; with_reducible rfl)
    try simp only [Act.put, List.setIfInBounds_toArray, List.set_cons_zero, List.set_cons_succ]
    refine wpAnyH_take (i := 22) (oi := { dst := some 35, op := Op.load 24 (Operand.tmp 1), type := 24, pos := "law.go:16", after := #[{ on := 20, ground := Ground.guard }], guard := some (20, true) }) (v := .agg #[.int .i64 2, .int .i64 0, .string ⟨#[97]⟩]) rfl (by kernel_rfl) (by kernel_rfl) (by kernel_rfl) (fun _ _ _ h => h) (Or.inl ⟨by rfl, ?_⟩) (by with_reducible assumption) ?_
    · intro wx hSw
      (try dsimp only at hSw)
      first | (go_simp; done) | (go_simp; with_reducible rfl)
    try simp only [Act.put, List.setIfInBounds_toArray, List.set_cons_zero, List.set_cons_succ]
    refine wpAnyH_take (i := 24) (oi := { dst := some 37, op := Op.load 24 (Operand.tmp 1), type := 24, pos := "law.go:16", after := #[{ on := 20, ground := Ground.guard }], guard := some (20, true) }) (v := .agg #[.int .i64 2, .int .i64 0, .string ⟨#[97]⟩]) rfl (by kernel_rfl) (by kernel_rfl) (by kernel_rfl) (fun _ _ _ h => h) (Or.inl ⟨by rfl, ?_⟩) (by with_reducible assumption) ?_
    · intro wx hSw
      (try dsimp only at hSw)
      first | (go_simp; done) | (go_simp; with_reducible rfl)
    try simp only [Act.put, List.setIfInBounds_toArray, List.set_cons_zero, List.set_cons_succ]
    refine wpAnyH_ready (rs := [23, 26]) (by kernel_rfl) (by simp) ?_
    refine AllReadyH.cons rfl (fun K hK => ?_) (AllReadyH.cons rfl (fun K hK => ?_) AllReadyH.nil)
    · skip
      go_simp
      refine Calls.mono (HO.out _ HSx5.out) ?_
      rintro e x6 ⟨p6, rfl, HP6, HSx6⟩
      refine hK.out _ _ HSx6.out (fun hHeld => ?_)
      clear hK K
      try simp only [Act.put, List.setIfInBounds_toArray, List.set_cons_zero, List.set_cons_succ]
      refine wpAnyH_ready (rs := [25, 26]) (by kernel_rfl) (by simp) ?_
      refine AllReadyH.cons rfl (fun K hK => ?_) (AllReadyH.cons rfl (fun K hK => ?_) AllReadyH.nil)
      · skip
        go_simp
        refine Calls.mono (HG.out _ _ HP6.out.1 HSx6.out) ?_
        rintro e x7 ⟨a2, c2, rfl, HA2, HSx7⟩
        refine hK.out _ _ HSx7.out (fun hHeld => ?_)
        clear hK K
        try simp only [Act.put, List.setIfInBounds_toArray, List.set_cons_zero, List.set_cons_succ]
        refine wpAnyH_ready (rs := [26]) (by kernel_rfl) (by simp) ?_
        refine AllReadyH.cons rfl (fun K hK => ?_) AllReadyH.nil
        go_simp
        have HSm : Hid (((x7.alloc (.cells #[.int .i64 1] 3)).cell? ⟨w.heap.size, 0, none⟩ = some (.int .i64 2) ∧ (x7.alloc (.cells #[.int .i64 1] 3)).cell? ⟨w.heap.size, 1, none⟩ = some (.int .i64 0) ∧ (x7.alloc (.cells #[.int .i64 1] 3)).cell? ⟨w.heap.size, 2, none⟩ = some (.string ⟨#[97]⟩) ∧ (x7.alloc (.cells #[.int .i64 1] 3)).cell? ⟨w.heap.size + 1, 0, none⟩ = some (.pointer none) ∧ (x7.alloc (.cells #[.int .i64 1] 3)).cell? ⟨w.heap.size + 1, 1, none⟩ = some (.int .i64 0) ∧ (x7.alloc (.cells #[.int .i64 1] 3)).cell? ⟨yb, 0, none⟩ = some (.pointer py) ∧ (x7.alloc (.cells #[.int .i64 1] 3)).cell? ⟨yb, 1, none⟩ = some (.int .i64 2) ∧ Hid (Below w.heap.size w (x7.alloc (.cells #[.int .i64 1] 3)) ∧ Ix (x7.alloc (.cells #[.int .i64 1] 3)) py aF 1 10))) := HSA.out x7 _ HSx7.out
        refine hK.out _ _ HSm.out (fun hHeld => ?_)
        clear hK K
        try simp only [Act.put, List.setIfInBounds_toArray, List.set_cons_zero, List.set_cons_succ]
        refine wpAnyH_ready (rs := [27]) (by kernel_rfl) (by simp) ?_
        refine AllReadyH.cons rfl (fun K hK => ?_) AllReadyH.nil
        go_simp
        refine Calls.mono (HM1.out _ _ _ (HA2.out.1.next iv_ne (below1 x7 _)) (sl_one x7 1) HSm.out) ?_
        rintro e x8 ⟨rfl, HSx8⟩
        refine hK.out _ _ HSx8.out (fun hHeld => ?_)
        clear hK K
        try simp only [Act.put, List.setIfInBounds_toArray, List.set_cons_zero, List.set_cons_succ]
        refine wpAnyH_take (i := 28) (oi := { dst := some 41, op := Op.pick (Operand.tmp 33) (Operand.tmp 40) (Operand.const (Value.bool false)), type := 4, pos := "law.go:16", after := #[{ on := 20, ground := Ground.data }, { on := 27, ground := Ground.data }], guard := none }) (v := .bool true) rfl (by kernel_rfl) (by kernel_rfl) (by kernel_rfl) (fun _ _ _ h => h) (Or.inl ⟨by rfl, ?_⟩) (by with_reducible assumption) ?_
        · intro wx hSw
          (try dsimp only at hSw)
          first | (go_simp; done) | (go_simp; with_reducible rfl)
        try simp only [Act.put, List.setIfInBounds_toArray, List.set_cons_zero, List.set_cons_succ]
        refine wpAnyH_take (i := 29) (oi := { dst := some 42, op := Op.move (Operand.tmp 41), type := 4, pos := "law.go:16", after := #[{ on := 28, ground := Ground.data }, { on := 27, ground := Ground.chain }], guard := none }) (v := .bool true) rfl (by kernel_rfl) (by kernel_rfl) (by kernel_rfl) (fun _ _ _ h => h) (Or.inl ⟨by rfl, ?_⟩) (by with_reducible assumption) ?_
        · intro wx hSw
          (try dsimp only at hSw)
          first | (go_simp; done) | (go_simp; with_reducible rfl)
        try simp only [Act.put, List.setIfInBounds_toArray, List.set_cons_zero, List.set_cons_succ]
        refine wpAnyH_take (i := 30) (oi := { dst := some 43, op := Op.load 27 (Operand.tmp 3), type := 27, pos := "law.go:16", after := #[{ on := 29, ground := Ground.guard }], guard := some (29, true) }) (v := .agg #[.pointer py, .int .i64 2]) rfl (by kernel_rfl) (by kernel_rfl) (by kernel_rfl) (fun _ _ _ h => h) (Or.inl ⟨by rfl, ?_⟩) (by with_reducible assumption) ?_
        · intro wx hSw
          (try dsimp only at hSw)
          first | (go_simp; done) | (go_simp; with_reducible rfl)
        try simp only [Act.put, List.setIfInBounds_toArray, List.set_cons_zero, List.set_cons_succ]
        refine wpAnyH_take (i := 31) (oi := { dst := some 44, op := Op.build 24 #[], type := 24, pos := "law.go:16", after := #[{ on := 29, ground := Ground.guard }], guard := some (29, true) }) (v := .agg #[.int .i64 0, .int .i64 0, .string ⟨#[]⟩]) rfl (by kernel_rfl) (by kernel_rfl) (by kernel_rfl) (fun _ _ _ h => h) (Or.inl ⟨by rfl, ?_⟩) (by with_reducible assumption) ?_
        · intro wx hSw
          (try dsimp only at hSw)
          first | (go_simp; done) | (go_simp; with_reducible rfl)
        try simp only [Act.put, List.setIfInBounds_toArray, List.set_cons_zero, List.set_cons_succ]
        refine wpAnyH_ready (rs := [32]) (by kernel_rfl) (by simp) ?_
        refine AllReadyH.cons rfl (fun K hK => ?_) AllReadyH.nil
        go_simp
        refine Calls.mono (HZ.out _ HSx8.out) ?_
        rintro e x9 ⟨a3, c3, rfl, HSx9⟩
        refine hK.out _ _ HSx9.out (fun hHeld => ?_)
        clear hK K
        try simp only [Act.put, List.setIfInBounds_toArray, List.set_cons_zero, List.set_cons_succ]
        refine wpAnyH_take (i := 33) (oi := { dst := some 46, op := Op.call { callee := Callee.builtin Builtin.len, args := #[Operand.tmp 45], argTypes := #[36] }, type := 3, pos := "law.go:16", after := #[{ on := 32, ground := Ground.data }, { on := 29, ground := Ground.guard }], guard := some (29, true) }) (v := .int .i64 0) rfl (by kernel_rfl) (by kernel_rfl) (by kernel_rfl) (fun _ _ _ h => h) (Or.inl ⟨by rfl, ?_⟩) (by with_reducible assumption) ?_
        · intro wx hSw
          (try dsimp only at hSw)
          first | (go_simp; done) | (go_simp; with_reducible rfl)
        try simp only [Act.put, List.setIfInBounds_toArray, List.set_cons_zero, List.set_cons_succ]
        refine wpAnyH_take (i := 34) (oi := { dst := some 47, op := Op.binOp BinOp.eql 3 (Operand.tmp 46) (Operand.const (Value.int IntKind.i64 0)) 3, type := 4, pos := "law.go:16", after := #[{ on := 33, ground := Ground.data }, { on := 29, ground := Ground.guard }], guard := some (29, true) }) (v := .bool true) rfl (by kernel_rfl) (by kernel_rfl) (by kernel_rfl) (fun _ _ _ h => h) (Or.inl ⟨by rfl, ?_⟩) (by with_reducible assumption) ?_
        · intro wx hSw
          (try dsimp only at hSw)
          first | (go_simp; done) | (go_simp; with_reducible rfl)
        try simp only [Act.put, List.setIfInBounds_toArray, List.set_cons_zero, List.set_cons_succ]
        refine wpAnyH_take (i := 35) (oi := { dst := some 48, op := Op.pick (Operand.tmp 42) (Operand.tmp 47) (Operand.const (Value.bool false)), type := 4, pos := "law.go:16", after := #[{ on := 29, ground := Ground.data }, { on := 34, ground := Ground.data }], guard := none }) (v := .bool true) rfl (by kernel_rfl) (by kernel_rfl) (by kernel_rfl) (fun _ _ _ h => h) (Or.inl ⟨by rfl, ?_⟩) (by with_reducible assumption) ?_
        · intro wx hSw
          (try dsimp only at hSw)
          first | (go_simp; done) | (go_simp; with_reducible rfl)
        try simp only [Act.put, List.setIfInBounds_toArray, List.set_cons_zero, List.set_cons_succ]
        refine wpAnyH_take (i := 36) (oi := { dst := some 0, op := Op.assign (Operand.tmp 48), type := 4, pos := "law.go:16", after := #[{ on := 35, ground := Ground.data }, { on := 32, ground := Ground.chain }, { on := 0, ground := Ground.phase }, { on := 1, ground := Ground.phase }, { on := 2, ground := Ground.phase }, { on := 3, ground := Ground.phase }, { on := 4, ground := Ground.phase }, { on := 5, ground := Ground.phase }, { on := 6, ground := Ground.phase }, { on := 7, ground := Ground.phase }, { on := 8, ground := Ground.phase }, { on := 9, ground := Ground.phase }, { on := 10, ground := Ground.phase }, { on := 11, ground := Ground.phase }, { on := 12, ground := Ground.phase }, { on := 13, ground := Ground.phase }, { on := 14, ground := Ground.phase }, { on := 15, ground := Ground.phase }, { on := 16, ground := Ground.phase }, { on := 17, ground := Ground.phase }, { on := 18, ground := Ground.phase }, { on := 19, ground := Ground.phase }, { on := 20, ground := Ground.phase }, { on := 21, ground := Ground.phase }, { on := 22, ground := Ground.phase }, { on := 23, ground := Ground.phase }, { on := 24, ground := Ground.phase }, { on := 25, ground := Ground.phase }, { on := 26, ground := Ground.phase }, { on := 27, ground := Ground.phase }, { on := 28, ground := Ground.phase }, { on := 29, ground := Ground.phase }, { on := 30, ground := Ground.phase }, { on := 31, ground := Ground.phase }, { on := 32, ground := Ground.phase }, { on := 33, ground := Ground.phase }, { on := 34, ground := Ground.phase }, { on := 35, ground := Ground.phase }], guard := none }) (v := .bool true) rfl (by kernel_rfl) (by kernel_rfl) (by kernel_rfl) (fun _ _ _ h => h) (Or.inl ⟨by rfl, ?_⟩) (by with_reducible assumption) ?_
        · intro wx hSw
          (try dsimp only at hSw)
          first | (go_simp; done) | (go_simp; with_reducible rfl)
        try simp only [Act.put, List.setIfInBounds_toArray, List.set_cons_zero]
        refine wpAnyH_done (by kernel_rfl) ?_ _
        go_wp2_with fail
        go_ret
        exact ⟨rfl, HSx9.out.2.2.2.2.2.2.2.out.1⟩
      · skip
        go_simp
        have HSm : Hid (((x6.alloc (.cells #[.int .i64 1] 3)).cell? ⟨w.heap.size, 0, none⟩ = some (.int .i64 2) ∧ (x6.alloc (.cells #[.int .i64 1] 3)).cell? ⟨w.heap.size, 1, none⟩ = some (.int .i64 0) ∧ (x6.alloc (.cells #[.int .i64 1] 3)).cell? ⟨w.heap.size, 2, none⟩ = some (.string ⟨#[97]⟩) ∧ (x6.alloc (.cells #[.int .i64 1] 3)).cell? ⟨w.heap.size + 1, 0, none⟩ = some (.pointer none) ∧ (x6.alloc (.cells #[.int .i64 1] 3)).cell? ⟨w.heap.size + 1, 1, none⟩ = some (.int .i64 0) ∧ (x6.alloc (.cells #[.int .i64 1] 3)).cell? ⟨yb, 0, none⟩ = some (.pointer py) ∧ (x6.alloc (.cells #[.int .i64 1] 3)).cell? ⟨yb, 1, none⟩ = some (.int .i64 2) ∧ Hid (Below w.heap.size w (x6.alloc (.cells #[.int .i64 1] 3)) ∧ Ix (x6.alloc (.cells #[.int .i64 1] 3)) py aF 1 10))) := HSA.out x6 _ HSx6.out
        refine hK.out _ _ HSm.out (fun hHeld => ?_)
        clear hK K
        try simp only [Act.put, List.setIfInBounds_toArray, List.set_cons_zero, List.set_cons_succ]
        refine wpAnyH_ready (rs := [25]) (by kernel_rfl) (by simp) ?_
        refine AllReadyH.cons rfl (fun K hK => ?_) AllReadyH.nil
        go_simp
        refine Calls.mono (HG.out _ _ (HP6.out.1.next (below1 x6 _)) HSm.out) ?_
        rintro e x10 ⟨a2, c2, rfl, HA2, HSx10⟩
        refine hK.out _ _ HSx10.out (fun hHeld => ?_)
        clear hK K
        try simp only [Act.put, List.setIfInBounds_toArray, List.set_cons_zero, List.set_cons_succ]
        refine wpAnyH_ready (rs := [27]) (by kernel_rfl) (by simp) ?_
        refine AllReadyH.cons rfl (fun K hK => ?_) AllReadyH.nil
        go_simp
        refine Calls.mono (HM1.out _ _ _ (HA2.out.1) ((sl_one x6 1).next iv_ne HA2.out.2) HSx10.out) ?_
        rintro e x11 ⟨rfl, HSx11⟩
        refine hK.out _ _ HSx11.out (fun hHeld => ?_)
        clear hK K
        try simp only [Act.put, List.setIfInBounds_toArray, List.set_cons_zero, List.set_cons_succ]
        refine wpAnyH_take (i := 28) (oi := { dst := some 41, op := Op.pick (Operand.tmp 33) (Operand.tmp 40) (Operand.const (Value.bool false)), type := 4, pos := "law.go:16", after := #[{ on := 20, ground := Ground.data }, { on := 27, ground := Ground.data }], guard := none }) (v := .bool true) rfl (by kernel_rfl) (by kernel_rfl) (by kernel_rfl) (fun _ _ _ h => h) (Or.inl ⟨by rfl, ?_⟩) (by with_reducible assumption) ?_
        · intro wx hSw
          (try dsimp only at hSw)
          first | (go_simp; done) | (go_simp; with_reducible rfl)
        try simp only [Act.put, List.setIfInBounds_toArray, List.set_cons_zero, List.set_cons_succ]
        refine wpAnyH_take (i := 29) (oi := { dst := some 42, op := Op.move (Operand.tmp 41), type := 4, pos := "law.go:16", after := #[{ on := 28, ground := Ground.data }, { on := 27, ground := Ground.chain }], guard := none }) (v := .bool true) rfl (by kernel_rfl) (by kernel_rfl) (by kernel_rfl) (fun _ _ _ h => h) (Or.inl ⟨by rfl, ?_⟩) (by with_reducible assumption) ?_
        · intro wx hSw
          (try dsimp only at hSw)
          first | (go_simp; done) | (go_simp; with_reducible rfl)
        try simp only [Act.put, List.setIfInBounds_toArray, List.set_cons_zero, List.set_cons_succ]
        refine wpAnyH_take (i := 30) (oi := { dst := some 43, op := Op.load 27 (Operand.tmp 3), type := 27, pos := "law.go:16", after := #[{ on := 29, ground := Ground.guard }], guard := some (29, true) }) (v := .agg #[.pointer py, .int .i64 2]) rfl (by kernel_rfl) (by kernel_rfl) (by kernel_rfl) (fun _ _ _ h => h) (Or.inl ⟨by rfl, ?_⟩) (by with_reducible assumption) ?_
        · intro wx hSw
          (try dsimp only at hSw)
          first | (go_simp; done) | (go_simp; with_reducible rfl)
        try simp only [Act.put, List.setIfInBounds_toArray, List.set_cons_zero, List.set_cons_succ]
        refine wpAnyH_take (i := 31) (oi := { dst := some 44, op := Op.build 24 #[], type := 24, pos := "law.go:16", after := #[{ on := 29, ground := Ground.guard }], guard := some (29, true) }) (v := .agg #[.int .i64 0, .int .i64 0, .string ⟨#[]⟩]) rfl (by kernel_rfl) (by kernel_rfl) (by kernel_rfl) (fun _ _ _ h => h) (Or.inl ⟨by rfl, ?_⟩) (by with_reducible assumption) ?_
        · intro wx hSw
          (try dsimp only at hSw)
          first | (go_simp; done) | (go_simp; with_reducible rfl)
        try simp only [Act.put, List.setIfInBounds_toArray, List.set_cons_zero, List.set_cons_succ]
        refine wpAnyH_ready (rs := [32]) (by kernel_rfl) (by simp) ?_
        refine AllReadyH.cons rfl (fun K hK => ?_) AllReadyH.nil
        go_simp
        refine Calls.mono (HZ.out _ HSx11.out) ?_
        rintro e x12 ⟨a3, c3, rfl, HSx12⟩
        refine hK.out _ _ HSx12.out (fun hHeld => ?_)
        clear hK K
        try simp only [Act.put, List.setIfInBounds_toArray, List.set_cons_zero, List.set_cons_succ]
        refine wpAnyH_take (i := 33) (oi := { dst := some 46, op := Op.call { callee := Callee.builtin Builtin.len, args := #[Operand.tmp 45], argTypes := #[36] }, type := 3, pos := "law.go:16", after := #[{ on := 32, ground := Ground.data }, { on := 29, ground := Ground.guard }], guard := some (29, true) }) (v := .int .i64 0) rfl (by kernel_rfl) (by kernel_rfl) (by kernel_rfl) (fun _ _ _ h => h) (Or.inl ⟨by rfl, ?_⟩) (by with_reducible assumption) ?_
        · intro wx hSw
          (try dsimp only at hSw)
          first | (go_simp; done) | (go_simp; with_reducible rfl)
        try simp only [Act.put, List.setIfInBounds_toArray, List.set_cons_zero, List.set_cons_succ]
        refine wpAnyH_take (i := 34) (oi := { dst := some 47, op := Op.binOp BinOp.eql 3 (Operand.tmp 46) (Operand.const (Value.int IntKind.i64 0)) 3, type := 4, pos := "law.go:16", after := #[{ on := 33, ground := Ground.data }, { on := 29, ground := Ground.guard }], guard := some (29, true) }) (v := .bool true) rfl (by kernel_rfl) (by kernel_rfl) (by kernel_rfl) (fun _ _ _ h => h) (Or.inl ⟨by rfl, ?_⟩) (by with_reducible assumption) ?_
        · intro wx hSw
          (try dsimp only at hSw)
          first | (go_simp; done) | (go_simp; with_reducible rfl)
        try simp only [Act.put, List.setIfInBounds_toArray, List.set_cons_zero, List.set_cons_succ]
        refine wpAnyH_take (i := 35) (oi := { dst := some 48, op := Op.pick (Operand.tmp 42) (Operand.tmp 47) (Operand.const (Value.bool false)), type := 4, pos := "law.go:16", after := #[{ on := 29, ground := Ground.data }, { on := 34, ground := Ground.data }], guard := none }) (v := .bool true) rfl (by kernel_rfl) (by kernel_rfl) (by kernel_rfl) (fun _ _ _ h => h) (Or.inl ⟨by rfl, ?_⟩) (by with_reducible assumption) ?_
        · intro wx hSw
          (try dsimp only at hSw)
          first | (go_simp; done) | (go_simp; with_reducible rfl)
        try simp only [Act.put, List.setIfInBounds_toArray, List.set_cons_zero, List.set_cons_succ]
        refine wpAnyH_take (i := 36) (oi := { dst := some 0, op := Op.assign (Operand.tmp 48), type := 4, pos := "law.go:16", after := #[{ on := 35, ground := Ground.data }, { on := 32, ground := Ground.chain }, { on := 0, ground := Ground.phase }, { on := 1, ground := Ground.phase }, { on := 2, ground := Ground.phase }, { on := 3, ground := Ground.phase }, { on := 4, ground := Ground.phase }, { on := 5, ground := Ground.phase }, { on := 6, ground := Ground.phase }, { on := 7, ground := Ground.phase }, { on := 8, ground := Ground.phase }, { on := 9, ground := Ground.phase }, { on := 10, ground := Ground.phase }, { on := 11, ground := Ground.phase }, { on := 12, ground := Ground.phase }, { on := 13, ground := Ground.phase }, { on := 14, ground := Ground.phase }, { on := 15, ground := Ground.phase }, { on := 16, ground := Ground.phase }, { on := 17, ground := Ground.phase }, { on := 18, ground := Ground.phase }, { on := 19, ground := Ground.phase }, { on := 20, ground := Ground.phase }, { on := 21, ground := Ground.phase }, { on := 22, ground := Ground.phase }, { on := 23, ground := Ground.phase }, { on := 24, ground := Ground.phase }, { on := 25, ground := Ground.phase }, { on := 26, ground := Ground.phase }, { on := 27, ground := Ground.phase }, { on := 28, ground := Ground.phase }, { on := 29, ground := Ground.phase }, { on := 30, ground := Ground.phase }, { on := 31, ground := Ground.phase }, { on := 32, ground := Ground.phase }, { on := 33, ground := Ground.phase }, { on := 34, ground := Ground.phase }, { on := 35, ground := Ground.phase }], guard := none }) (v := .bool true) rfl (by kernel_rfl) (by kernel_rfl) (by kernel_rfl) (fun _ _ _ h => h) (Or.inl ⟨by rfl, ?_⟩) (by with_reducible assumption) ?_
        · intro wx hSw
          (try dsimp only at hSw)
          first | (go_simp; done) | (go_simp; with_reducible rfl)
        try simp only [Act.put, List.setIfInBounds_toArray, List.set_cons_zero]
        refine wpAnyH_done (by kernel_rfl) ?_ _
        go_wp2_with fail
        go_ret
        exact ⟨rfl, HSx12.out.2.2.2.2.2.2.2.out.1⟩
    · skip
      go_simp
      have HSm : Hid (((x5.alloc (.cells #[.int .i64 1] 3)).cell? ⟨w.heap.size, 0, none⟩ = some (.int .i64 2) ∧ (x5.alloc (.cells #[.int .i64 1] 3)).cell? ⟨w.heap.size, 1, none⟩ = some (.int .i64 0) ∧ (x5.alloc (.cells #[.int .i64 1] 3)).cell? ⟨w.heap.size, 2, none⟩ = some (.string ⟨#[97]⟩) ∧ (x5.alloc (.cells #[.int .i64 1] 3)).cell? ⟨w.heap.size + 1, 0, none⟩ = some (.pointer none) ∧ (x5.alloc (.cells #[.int .i64 1] 3)).cell? ⟨w.heap.size + 1, 1, none⟩ = some (.int .i64 0) ∧ (x5.alloc (.cells #[.int .i64 1] 3)).cell? ⟨yb, 0, none⟩ = some (.pointer py) ∧ (x5.alloc (.cells #[.int .i64 1] 3)).cell? ⟨yb, 1, none⟩ = some (.int .i64 2) ∧ Hid (Below w.heap.size w (x5.alloc (.cells #[.int .i64 1] 3)) ∧ Ix (x5.alloc (.cells #[.int .i64 1] 3)) py aF 1 10))) := HSA.out x5 _ HSx5.out
      refine hK.out _ _ HSm.out (fun hHeld => ?_)
      clear hK K
      try simp only [Act.put, List.setIfInBounds_toArray, List.set_cons_zero, List.set_cons_succ]
      refine wpAnyH_ready (rs := [23]) (by kernel_rfl) (by simp) ?_
      refine AllReadyH.cons rfl (fun K hK => ?_) AllReadyH.nil
      go_simp
      refine Calls.mono (HO.out _ HSm.out) ?_
      rintro e x13 ⟨p6, rfl, HP6, HSx13⟩
      refine hK.out _ _ HSx13.out (fun hHeld => ?_)
      clear hK K
      try simp only [Act.put, List.setIfInBounds_toArray, List.set_cons_zero, List.set_cons_succ]
      refine wpAnyH_ready (rs := [25]) (by kernel_rfl) (by simp) ?_
      refine AllReadyH.cons rfl (fun K hK => ?_) AllReadyH.nil
      go_simp
      refine Calls.mono (HG.out _ _ HP6.out.1 HSx13.out) ?_
      rintro e x14 ⟨a2, c2, rfl, HA2, HSx14⟩
      refine hK.out _ _ HSx14.out (fun hHeld => ?_)
      clear hK K
      try simp only [Act.put, List.setIfInBounds_toArray, List.set_cons_zero, List.set_cons_succ]
      refine wpAnyH_ready (rs := [27]) (by kernel_rfl) (by simp) ?_
      refine AllReadyH.cons rfl (fun K hK => ?_) AllReadyH.nil
      go_simp
      refine Calls.mono (HM1.out _ _ _ (HA2.out.1) (((sl_one x5 1).next iv_ne HP6.out.2).next iv_ne HA2.out.2) HSx14.out) ?_
      rintro e x15 ⟨rfl, HSx15⟩
      refine hK.out _ _ HSx15.out (fun hHeld => ?_)
      clear hK K
      try simp only [Act.put, List.setIfInBounds_toArray, List.set_cons_zero, List.set_cons_succ]
      refine wpAnyH_take (i := 28) (oi := { dst := some 41, op := Op.pick (Operand.tmp 33) (Operand.tmp 40) (Operand.const (Value.bool false)), type := 4, pos := "law.go:16", after := #[{ on := 20, ground := Ground.data }, { on := 27, ground := Ground.data }], guard := none }) (v := .bool true) rfl (by kernel_rfl) (by kernel_rfl) (by kernel_rfl) (fun _ _ _ h => h) (Or.inl ⟨by rfl, ?_⟩) (by with_reducible assumption) ?_
      · intro wx hSw
        (try dsimp only at hSw)
        first | (go_simp; done) | (go_simp; with_reducible rfl)
      try simp only [Act.put, List.setIfInBounds_toArray, List.set_cons_zero, List.set_cons_succ]
      refine wpAnyH_take (i := 29) (oi := { dst := some 42, op := Op.move (Operand.tmp 41), type := 4, pos := "law.go:16", after := #[{ on := 28, ground := Ground.data }, { on := 27, ground := Ground.chain }], guard := none }) (v := .bool true) rfl (by kernel_rfl) (by kernel_rfl) (by kernel_rfl) (fun _ _ _ h => h) (Or.inl ⟨by rfl, ?_⟩) (by with_reducible assumption) ?_
      · intro wx hSw
        (try dsimp only at hSw)
        first | (go_simp; done) | (go_simp; with_reducible rfl)
      try simp only [Act.put, List.setIfInBounds_toArray, List.set_cons_zero, List.set_cons_succ]
      refine wpAnyH_take (i := 30) (oi := { dst := some 43, op := Op.load 27 (Operand.tmp 3), type := 27, pos := "law.go:16", after := #[{ on := 29, ground := Ground.guard }], guard := some (29, true) }) (v := .agg #[.pointer py, .int .i64 2]) rfl (by kernel_rfl) (by kernel_rfl) (by kernel_rfl) (fun _ _ _ h => h) (Or.inl ⟨by rfl, ?_⟩) (by with_reducible assumption) ?_
      · intro wx hSw
        (try dsimp only at hSw)
        first | (go_simp; done) | (go_simp; with_reducible rfl)
      try simp only [Act.put, List.setIfInBounds_toArray, List.set_cons_zero, List.set_cons_succ]
      refine wpAnyH_take (i := 31) (oi := { dst := some 44, op := Op.build 24 #[], type := 24, pos := "law.go:16", after := #[{ on := 29, ground := Ground.guard }], guard := some (29, true) }) (v := .agg #[.int .i64 0, .int .i64 0, .string ⟨#[]⟩]) rfl (by kernel_rfl) (by kernel_rfl) (by kernel_rfl) (fun _ _ _ h => h) (Or.inl ⟨by rfl, ?_⟩) (by with_reducible assumption) ?_
      · intro wx hSw
        (try dsimp only at hSw)
        first | (go_simp; done) | (go_simp; with_reducible rfl)
      try simp only [Act.put, List.setIfInBounds_toArray, List.set_cons_zero, List.set_cons_succ]
      refine wpAnyH_ready (rs := [32]) (by kernel_rfl) (by simp) ?_
      refine AllReadyH.cons rfl (fun K hK => ?_) AllReadyH.nil
      go_simp
      refine Calls.mono (HZ.out _ HSx15.out) ?_
      rintro e x16 ⟨a3, c3, rfl, HSx16⟩
      refine hK.out _ _ HSx16.out (fun hHeld => ?_)
      clear hK K
      try simp only [Act.put, List.setIfInBounds_toArray, List.set_cons_zero, List.set_cons_succ]
      refine wpAnyH_take (i := 33) (oi := { dst := some 46, op := Op.call { callee := Callee.builtin Builtin.len, args := #[Operand.tmp 45], argTypes := #[36] }, type := 3, pos := "law.go:16", after := #[{ on := 32, ground := Ground.data }, { on := 29, ground := Ground.guard }], guard := some (29, true) }) (v := .int .i64 0) rfl (by kernel_rfl) (by kernel_rfl) (by kernel_rfl) (fun _ _ _ h => h) (Or.inl ⟨by rfl, ?_⟩) (by with_reducible assumption) ?_
      · intro wx hSw
        (try dsimp only at hSw)
        first | (go_simp; done) | (go_simp; with_reducible rfl)
      try simp only [Act.put, List.setIfInBounds_toArray, List.set_cons_zero, List.set_cons_succ]
      refine wpAnyH_take (i := 34) (oi := { dst := some 47, op := Op.binOp BinOp.eql 3 (Operand.tmp 46) (Operand.const (Value.int IntKind.i64 0)) 3, type := 4, pos := "law.go:16", after := #[{ on := 33, ground := Ground.data }, { on := 29, ground := Ground.guard }], guard := some (29, true) }) (v := .bool true) rfl (by kernel_rfl) (by kernel_rfl) (by kernel_rfl) (fun _ _ _ h => h) (Or.inl ⟨by rfl, ?_⟩) (by with_reducible assumption) ?_
      · intro wx hSw
        (try dsimp only at hSw)
        first | (go_simp; done) | (go_simp; with_reducible rfl)
      try simp only [Act.put, List.setIfInBounds_toArray, List.set_cons_zero, List.set_cons_succ]
      refine wpAnyH_take (i := 35) (oi := { dst := some 48, op := Op.pick (Operand.tmp 42) (Operand.tmp 47) (Operand.const (Value.bool false)), type := 4, pos := "law.go:16", after := #[{ on := 29, ground := Ground.data }, { on := 34, ground := Ground.data }], guard := none }) (v := .bool true) rfl (by kernel_rfl) (by kernel_rfl) (by kernel_rfl) (fun _ _ _ h => h) (Or.inl ⟨by rfl, ?_⟩) (by with_reducible assumption) ?_
      · intro wx hSw
        (try dsimp only at hSw)
        first | (go_simp; done) | (go_simp; with_reducible rfl)
      try simp only [Act.put, List.setIfInBounds_toArray, List.set_cons_zero, List.set_cons_succ]
      refine wpAnyH_take (i := 36) (oi := { dst := some 0, op := Op.assign (Operand.tmp 48), type := 4, pos := "law.go:16", after := #[{ on := 35, ground := Ground.data }, { on := 32, ground := Ground.chain }, { on := 0, ground := Ground.phase }, { on := 1, ground := Ground.phase }, { on := 2, ground := Ground.phase }, { on := 3, ground := Ground.phase }, { on := 4, ground := Ground.phase }, { on := 5, ground := Ground.phase }, { on := 6, ground := Ground.phase }, { on := 7, ground := Ground.phase }, { on := 8, ground := Ground.phase }, { on := 9, ground := Ground.phase }, { on := 10, ground := Ground.phase }, { on := 11, ground := Ground.phase }, { on := 12, ground := Ground.phase }, { on := 13, ground := Ground.phase }, { on := 14, ground := Ground.phase }, { on := 15, ground := Ground.phase }, { on := 16, ground := Ground.phase }, { on := 17, ground := Ground.phase }, { on := 18, ground := Ground.phase }, { on := 19, ground := Ground.phase }, { on := 20, ground := Ground.phase }, { on := 21, ground := Ground.phase }, { on := 22, ground := Ground.phase }, { on := 23, ground := Ground.phase }, { on := 24, ground := Ground.phase }, { on := 25, ground := Ground.phase }, { on := 26, ground := Ground.phase }, { on := 27, ground := Ground.phase }, { on := 28, ground := Ground.phase }, { on := 29, ground := Ground.phase }, { on := 30, ground := Ground.phase }, { on := 31, ground := Ground.phase }, { on := 32, ground := Ground.phase }, { on := 33, ground := Ground.phase }, { on := 34, ground := Ground.phase }, { on := 35, ground := Ground.phase }], guard := none }) (v := .bool true) rfl (by kernel_rfl) (by kernel_rfl) (by kernel_rfl) (fun _ _ _ h => h) (Or.inl ⟨by rfl, ?_⟩) (by with_reducible assumption) ?_
      · intro wx hSw
        (try dsimp only at hSw)
        first | (go_simp; done) | (go_simp; with_reducible rfl)
      try simp only [Act.put, List.setIfInBounds_toArray, List.set_cons_zero]
      refine wpAnyH_done (by kernel_rfl) ?_ _
      go_wp2_with fail
      go_ret
      exact ⟨rfl, HSx16.out.2.2.2.2.2.2.2.out.1⟩
  · skip
    go_simp
    have HSl : Hid (((wc.alloc (.cells #[.int .i64 1, .int .i64 3] 3)).drew.cell? ⟨w.heap.size, 0, none⟩ = some (.int .i64 2) ∧ (wc.alloc (.cells #[.int .i64 1, .int .i64 3] 3)).drew.cell? ⟨w.heap.size, 1, none⟩ = some (.int .i64 0) ∧ (wc.alloc (.cells #[.int .i64 1, .int .i64 3] 3)).drew.cell? ⟨w.heap.size, 2, none⟩ = some (.string ⟨#[97]⟩) ∧ (wc.alloc (.cells #[.int .i64 1, .int .i64 3] 3)).drew.cell? ⟨w.heap.size + 1, 0, none⟩ = some (.pointer none) ∧ (wc.alloc (.cells #[.int .i64 1, .int .i64 3] 3)).drew.cell? ⟨w.heap.size + 1, 1, none⟩ = some (.int .i64 0) ∧ (wc.alloc (.cells #[.int .i64 1, .int .i64 3] 3)).drew.cell? ⟨yb, 0, none⟩ = some (.pointer py) ∧ (wc.alloc (.cells #[.int .i64 1, .int .i64 3] 3)).drew.cell? ⟨yb, 1, none⟩ = some (.int .i64 2) ∧ Hid (Below w.heap.size w (wc.alloc (.cells #[.int .i64 1, .int .i64 3] 3)).drew ∧ Ix (wc.alloc (.cells #[.int .i64 1, .int .i64 3] 3)).drew py aF 1 10))) := HSA.out wc.drew _ HS0.out
    refine hK.out _ _ HSl.out (fun hHeld => ?_)
    clear hK K
    try simp only [Act.put, List.setIfInBounds_toArray, List.set_cons_zero, List.set_cons_succ]
    refine wpAnyH_ready (rs := [2]) (by kernel_rfl) (by simp) ?_
    refine AllReadyH.cons rfl (fun K hK => ?_) AllReadyH.nil
    go_simp
    refine Calls.mono (HF.out _ HSl.out) ?_
    rintro e x17 ⟨a1, c1, rfl, HA1, HSx17⟩
    refine hK.out _ _ HSx17.out (fun hHeld => ?_)
    clear hK K
    try simp only [Act.put, List.setIfInBounds_toArray, List.set_cons_zero, List.set_cons_succ]
    refine wpAnyH_ready (rs := [4]) (by kernel_rfl) (by simp) ?_
    refine AllReadyH.cons rfl (fun K hK => ?_) AllReadyH.nil
    go_simp
    refine Calls.mono (HM2.out _ _ _ (HA1.out.1) ((sl_two wc).next iv_ne (Below.of_drew HA1.out.2)) HSx17.out) ?_
    rintro e x18 ⟨rfl, HSx18⟩
    refine hK.out _ _ HSx18.out (fun hHeld => ?_)
    clear hK K
    try simp only [Act.put, List.setIfInBounds_toArray, List.set_cons_zero, List.set_cons_succ]
    refine wpAnyH_take (i := 5) (oi := { dst := some 18, op := Op.move (Operand.tmp 17), type := 4, pos := "law.go:16", after := #[{ on := 4, ground := Ground.data }, { on := 4, ground := Ground.chain }], guard := none }) (v := .bool true) rfl (by kernel_rfl) (by kernel_rfl) (by kernel_rfl) (fun _ _ _ h => h) (Or.inl ⟨by rfl, ?_⟩) (by with_reducible assumption) ?_
    · intro wx hSw
      (try dsimp only at hSw)
      first | (go_simp; done) | (go_simp; with_reducible rfl)
    try simp only [Act.put, List.setIfInBounds_toArray, List.set_cons_zero, List.set_cons_succ]
    refine wpAnyH_take (i := 6) (oi := { dst := some 19, op := Op.load 27 (Operand.tmp 3), type := 27, pos := "law.go:16", after := #[{ on := 5, ground := Ground.guard }], guard := some (5, true) }) (v := .agg #[.pointer py, .int .i64 2]) rfl (by kernel_rfl) (by kernel_rfl) (by kernel_rfl) (fun _ _ _ h => h) (Or.inl ⟨by rfl, ?_⟩) (by with_reducible assumption) ?_
    · intro wx hSw
      (try dsimp only at hSw)
      first | (go_simp; done) | (go_simp; with_reducible rfl)
    try simp only [Act.put, List.setIfInBounds_toArray, List.set_cons_zero, List.set_cons_succ]
    refine wpAnyH_ready (rs := [7]) (by kernel_rfl) (by simp) ?_
    refine AllReadyH.cons rfl (fun K hK => ?_) AllReadyH.nil
    go_simp
    refine Calls.mono (HL.out _ _ _ HSx18.out) ?_
    rintro e x19 ⟨rfl, HSx19⟩
    refine hK.out _ _ HSx19.out (fun hHeld => ?_)
    clear hK K
    try simp only [Act.put, List.setIfInBounds_toArray, List.set_cons_zero, List.set_cons_succ]
    refine wpAnyH_take (i := 8) (oi := { dst := some 21, op := Op.binOp BinOp.eql 3 (Operand.tmp 20) (Operand.const (Value.int IntKind.i64 2)) 3, type := 4, pos := "law.go:16", after := #[{ on := 7, ground := Ground.data }, { on := 5, ground := Ground.guard }], guard := some (5, true) }) (v := .bool true) rfl (by kernel_rfl) (by kernel_rfl) (by kernel_rfl) (fun _ _ _ h => h) (Or.inl ⟨by rfl, ?_⟩) (by with_reducible assumption) ?_
    · intro wx hSw
      (try dsimp only at hSw)
      first | (go_simp; done) | (go_simp; with_reducible rfl)
    try simp only [Act.put, List.setIfInBounds_toArray, List.set_cons_zero, List.set_cons_succ]
    refine wpAnyH_take (i := 9) (oi := { dst := some 22, op := Op.pick (Operand.tmp 18) (Operand.tmp 21) (Operand.const (Value.bool false)), type := 4, pos := "law.go:16", after := #[{ on := 5, ground := Ground.data }, { on := 8, ground := Ground.data }], guard := none }) (v := .bool true) rfl (by kernel_rfl) (by kernel_rfl) (by kernel_rfl) (fun _ _ _ h => h) (Or.inl ⟨by rfl, ?_⟩) (by with_reducible assumption) ?_
    · intro wx hSw
      (try dsimp only at hSw)
      first | (go_simp; done) | (go_simp; with_reducible rfl)
    try simp only [Act.put, List.setIfInBounds_toArray, List.set_cons_zero, List.set_cons_succ]
    refine wpAnyH_take (i := 10) (oi := { dst := some 23, op := Op.move (Operand.tmp 22), type := 4, pos := "law.go:16", after := #[{ on := 9, ground := Ground.data }, { on := 7, ground := Ground.chain }], guard := none }) (v := .bool true) rfl (by kernel_rfl) (by kernel_rfl) (by kernel_rfl) (fun _ _ _ h => h) (Or.inl ⟨by rfl, ?_⟩) (by with_reducible assumption) ?_
    · intro wx hSw
      (try dsimp only at hSw)
      first | (go_simp; done) | (go_simp; with_reducible rfl)
    try simp only [Act.put, List.setIfInBounds_toArray, List.set_cons_zero, List.set_cons_succ]
    refine wpAnyH_take (i := 11) (oi := { dst := some 24, op := Op.load 27 (Operand.tmp 2), type := 27, pos := "law.go:16", after := #[{ on := 10, ground := Ground.guard }], guard := some (10, true) }) (v := .agg #[.pointer none, .int .i64 0]) rfl (by kernel_rfl) (by kernel_rfl) (by kernel_rfl) (fun _ _ _ h => h) (Or.inl ⟨by rfl, ?_⟩) (by with_reducible assumption) ?_
    · intro wx hSw
      (try dsimp only at hSw)
      first | (go_simp; done) | (go_simp; with_reducible rfl)
    try simp only [Act.put, List.setIfInBounds_toArray, List.set_cons_zero, List.set_cons_succ]
    refine wpAnyH_ready (rs := [12]) (by kernel_rfl) (by simp) ?_
    refine AllReadyH.cons rfl (fun K hK => ?_) AllReadyH.nil
    go_simp
    refine Calls.mono (HL.out _ _ _ HSx19.out) ?_
    rintro e x20 ⟨rfl, HSx20⟩
    refine hK.out _ _ HSx20.out (fun hHeld => ?_)
    clear hK K
    try simp only [Act.put, List.setIfInBounds_toArray, List.set_cons_zero, List.set_cons_succ]
    refine wpAnyH_take (i := 13) (oi := { dst := some 26, op := Op.binOp BinOp.eql 3 (Operand.tmp 25) (Operand.const (Value.int IntKind.i64 0)) 3, type := 4, pos := "law.go:16", after := #[{ on := 12, ground := Ground.data }, { on := 10, ground := Ground.guard }], guard := some (10, true) }) (v := .bool true) rfl (by kernel_rfl) (by kernel_rfl) (by kernel_rfl) (fun _ _ _ h => h) (Or.inl ⟨by rfl, ?_⟩) (by with_reducible assumption) ?_
    · intro wx hSw
      (try dsimp only at hSw)
      first | (go_simp; done) | (go_simp; with_reducible rfl)
    try simp only [Act.put, List.setIfInBounds_toArray, List.set_cons_zero, List.set_cons_succ]
    refine wpAnyH_take (i := 14) (oi := { dst := some 27, op := Op.pick (Operand.tmp 23) (Operand.tmp 26) (Operand.const (Value.bool false)), type := 4, pos := "law.go:16", after := #[{ on := 10, ground := Ground.data }, { on := 13, ground := Ground.data }], guard := none }) (v := .bool true) rfl (by kernel_rfl) (by kernel_rfl) (by kernel_rfl) (fun _ _ _ h => h) (Or.inl ⟨by rfl, ?_⟩) (by with_reducible assumption) ?_
    · intro wx hSw
      (try dsimp only at hSw)
      first | (go_simp; done) | (go_simp; with_reducible rfl)
    try simp only [Act.put, List.setIfInBounds_toArray, List.set_cons_zero, List.set_cons_succ]
    refine wpAnyH_take (i := 15) (oi := { dst := some 28, op := Op.move (Operand.tmp 27), type := 4, pos := "law.go:16", after := #[{ on := 14, ground := Ground.data }, { on := 12, ground := Ground.chain }], guard := none }) (v := .bool true) rfl (by kernel_rfl) (by kernel_rfl) (by kernel_rfl) (fun _ _ _ h => h) (Or.inl ⟨by rfl, ?_⟩) (by with_reducible assumption) ?_
    · intro wx hSw
      (try dsimp only at hSw)
      first | (go_simp; done) | (go_simp; with_reducible rfl)
    try simp only [Act.put, List.setIfInBounds_toArray, List.set_cons_zero, List.set_cons_succ]
    refine wpAnyH_take (i := 16) (oi := { dst := some 29, op := Op.load 27 (Operand.tmp 3), type := 27, pos := "law.go:16", after := #[{ on := 15, ground := Ground.guard }], guard := some (15, true) }) (v := .agg #[.pointer py, .int .i64 2]) rfl (by kernel_rfl) (by kernel_rfl) (by kernel_rfl) (fun _ _ _ h => h) (Or.inl ⟨by rfl, ?_⟩) (by with_reducible assumption) ?_
    · intro wx hSw
      (try dsimp only at hSw)
      first | (go_simp; done) | (go_simp; with_reducible rfl)
    try simp only [Act.put, List.setIfInBounds_toArray, List.set_cons_zero, List.set_cons_succ]
    refine wpAnyH_ready (rs := [17]) (by kernel_rfl) (by simp) ?_
    refine AllReadyH.cons rfl (fun K hK => ?_) AllReadyH.nil
    go_simp
    refine Calls.mono (HBu.out _ HSx20.out) ?_
    rintro e x21 ⟨rfl, HSx21⟩
    refine hK.out _ _ HSx21.out (fun hHeld => ?_)
    clear hK K
    try simp only [Act.put, List.setIfInBounds_toArray, List.set_cons_zero, List.set_cons_succ]
    refine wpAnyH_take (i := 18) (oi := { dst := some 31, op := Op.binOp BinOp.eql 3 (Operand.tmp 30) (Operand.const (Value.int IntKind.i64 8)) 3, type := 4, pos := "law.go:16", after := #[{ on := 17, ground := Ground.data }, { on := 15, ground := Ground.guard }], guard := some (15, true) }) (v := .bool true) rfl (by kernel_rfl) (by kernel_rfl) (by kernel_rfl) (fun _ _ _ h => h) (Or.inl ⟨by rfl, ?_⟩) (by with_reducible assumption) ?_
    · intro wx hSw
      (try dsimp only at hSw)
      first | (go_simp; done) | (go_simp; with_reducible rfl)
    try simp only [Act.put, List.setIfInBounds_toArray, List.set_cons_zero, List.set_cons_succ]
    refine wpAnyH_take (i := 19) (oi := { dst := some 32, op := Op.pick (Operand.tmp 28) (Operand.tmp 31) (Operand.const (Value.bool false)), type := 4, pos := "law.go:16", after := #[{ on := 15, ground := Ground.data }, { on := 18, ground := Ground.data }], guard := none }) (v := .bool true) rfl (by kernel_rfl) (by kernel_rfl) (by kernel_rfl) (fun _ _ _ h => h) (Or.inl ⟨by rfl, ?_⟩) (by with_reducible assumption) ?_
    · intro wx hSw
      (try dsimp only at hSw)
      first | (go_simp; done) | (go_simp; with_reducible rfl)
    try simp only [Act.put, List.setIfInBounds_toArray, List.set_cons_zero, List.set_cons_succ]
    refine wpAnyH_take (i := 20) (oi := { dst := some 33, op := Op.move (Operand.tmp 32), type := 4, pos := "law.go:16", after := #[{ on := 19, ground := Ground.data }, { on := 17, ground := Ground.chain }], guard := none }) (v := .bool true) rfl (by kernel_rfl) (by kernel_rfl) (by kernel_rfl) (fun _ _ _ h => h) (Or.inl ⟨by rfl, ?_⟩) (by with_reducible assumption) ?_
    · intro wx hSw
      (try dsimp only at hSw)
      first | (go_simp; done) | (go_simp; with_reducible rfl)
    try simp only [Act.put, List.setIfInBounds_toArray, List.set_cons_zero, List.set_cons_succ]
    refine wpAnyH_take (i := 21) (oi := { dst := some 34, op := Op.load 27 (Operand.tmp 3), type := 27, pos := "law.go:16", after := #[{ on := 20, ground := Ground.guard }], guard := some (20, true) }) (v := .agg #[.pointer py, .int .i64 2]) rfl (by kernel_rfl) (by kernel_rfl) (by kernel_rfl) (fun _ _ _ h => h) (Or.inl ⟨by rfl, ?_⟩) (by with_reducible assumption) ?_
    · intro wx hSw
      (try dsimp only at hSw)
      first | (go_simp; done) | (go_simp; with_reducible rfl)
    try simp only [Act.put, List.setIfInBounds_toArray, List.set_cons_zero, List.set_cons_succ]
    refine wpAnyH_take (i := 22) (oi := { dst := some 35, op := Op.load 24 (Operand.tmp 1), type := 24, pos := "law.go:16", after := #[{ on := 20, ground := Ground.guard }], guard := some (20, true) }) (v := .agg #[.int .i64 2, .int .i64 0, .string ⟨#[97]⟩]) rfl (by kernel_rfl) (by kernel_rfl) (by kernel_rfl) (fun _ _ _ h => h) (Or.inl ⟨by rfl, ?_⟩) (by with_reducible assumption) ?_
    · intro wx hSw
      (try dsimp only at hSw)
      first | (go_simp; done) | (go_simp; with_reducible rfl)
    try simp only [Act.put, List.setIfInBounds_toArray, List.set_cons_zero, List.set_cons_succ]
    refine wpAnyH_take (i := 24) (oi := { dst := some 37, op := Op.load 24 (Operand.tmp 1), type := 24, pos := "law.go:16", after := #[{ on := 20, ground := Ground.guard }], guard := some (20, true) }) (v := .agg #[.int .i64 2, .int .i64 0, .string ⟨#[97]⟩]) rfl (by kernel_rfl) (by kernel_rfl) (by kernel_rfl) (fun _ _ _ h => h) (Or.inl ⟨by rfl, ?_⟩) (by with_reducible assumption) ?_
    · intro wx hSw
      (try dsimp only at hSw)
      first | (go_simp; done) | (go_simp; with_reducible rfl)
    try simp only [Act.put, List.setIfInBounds_toArray, List.set_cons_zero, List.set_cons_succ]
    refine wpAnyH_ready (rs := [23, 26]) (by kernel_rfl) (by simp) ?_
    refine AllReadyH.cons rfl (fun K hK => ?_) (AllReadyH.cons rfl (fun K hK => ?_) AllReadyH.nil)
    · skip
      go_simp
      refine Calls.mono (HO.out _ HSx21.out) ?_
      rintro e x22 ⟨p6, rfl, HP6, HSx22⟩
      refine hK.out _ _ HSx22.out (fun hHeld => ?_)
      clear hK K
      try simp only [Act.put, List.setIfInBounds_toArray, List.set_cons_zero, List.set_cons_succ]
      refine wpAnyH_ready (rs := [25, 26]) (by kernel_rfl) (by simp) ?_
      refine AllReadyH.cons rfl (fun K hK => ?_) (AllReadyH.cons rfl (fun K hK => ?_) AllReadyH.nil)
      · skip
        go_simp
        refine Calls.mono (HG.out _ _ HP6.out.1 HSx22.out) ?_
        rintro e x23 ⟨a2, c2, rfl, HA2, HSx23⟩
        refine hK.out _ _ HSx23.out (fun hHeld => ?_)
        clear hK K
        try simp only [Act.put, List.setIfInBounds_toArray, List.set_cons_zero, List.set_cons_succ]
        refine wpAnyH_ready (rs := [26]) (by kernel_rfl) (by simp) ?_
        refine AllReadyH.cons rfl (fun K hK => ?_) AllReadyH.nil
        go_simp
        have HSm : Hid (((x23.alloc (.cells #[.int .i64 1] 3)).cell? ⟨w.heap.size, 0, none⟩ = some (.int .i64 2) ∧ (x23.alloc (.cells #[.int .i64 1] 3)).cell? ⟨w.heap.size, 1, none⟩ = some (.int .i64 0) ∧ (x23.alloc (.cells #[.int .i64 1] 3)).cell? ⟨w.heap.size, 2, none⟩ = some (.string ⟨#[97]⟩) ∧ (x23.alloc (.cells #[.int .i64 1] 3)).cell? ⟨w.heap.size + 1, 0, none⟩ = some (.pointer none) ∧ (x23.alloc (.cells #[.int .i64 1] 3)).cell? ⟨w.heap.size + 1, 1, none⟩ = some (.int .i64 0) ∧ (x23.alloc (.cells #[.int .i64 1] 3)).cell? ⟨yb, 0, none⟩ = some (.pointer py) ∧ (x23.alloc (.cells #[.int .i64 1] 3)).cell? ⟨yb, 1, none⟩ = some (.int .i64 2) ∧ Hid (Below w.heap.size w (x23.alloc (.cells #[.int .i64 1] 3)) ∧ Ix (x23.alloc (.cells #[.int .i64 1] 3)) py aF 1 10))) := HSA.out x23 _ HSx23.out
        refine hK.out _ _ HSm.out (fun hHeld => ?_)
        clear hK K
        try simp only [Act.put, List.setIfInBounds_toArray, List.set_cons_zero, List.set_cons_succ]
        refine wpAnyH_ready (rs := [27]) (by kernel_rfl) (by simp) ?_
        refine AllReadyH.cons rfl (fun K hK => ?_) AllReadyH.nil
        go_simp
        refine Calls.mono (HM1.out _ _ _ (HA2.out.1.next iv_ne (below1 x23 _)) (sl_one x23 1) HSm.out) ?_
        rintro e x24 ⟨rfl, HSx24⟩
        refine hK.out _ _ HSx24.out (fun hHeld => ?_)
        clear hK K
        try simp only [Act.put, List.setIfInBounds_toArray, List.set_cons_zero, List.set_cons_succ]
        refine wpAnyH_take (i := 28) (oi := { dst := some 41, op := Op.pick (Operand.tmp 33) (Operand.tmp 40) (Operand.const (Value.bool false)), type := 4, pos := "law.go:16", after := #[{ on := 20, ground := Ground.data }, { on := 27, ground := Ground.data }], guard := none }) (v := .bool true) rfl (by kernel_rfl) (by kernel_rfl) (by kernel_rfl) (fun _ _ _ h => h) (Or.inl ⟨by rfl, ?_⟩) (by with_reducible assumption) ?_
        · intro wx hSw
          (try dsimp only at hSw)
          first | (go_simp; done) | (go_simp; with_reducible rfl)
        try simp only [Act.put, List.setIfInBounds_toArray, List.set_cons_zero, List.set_cons_succ]
        refine wpAnyH_take (i := 29) (oi := { dst := some 42, op := Op.move (Operand.tmp 41), type := 4, pos := "law.go:16", after := #[{ on := 28, ground := Ground.data }, { on := 27, ground := Ground.chain }], guard := none }) (v := .bool true) rfl (by kernel_rfl) (by kernel_rfl) (by kernel_rfl) (fun _ _ _ h => h) (Or.inl ⟨by rfl, ?_⟩) (by with_reducible assumption) ?_
        · intro wx hSw
          (try dsimp only at hSw)
          first | (go_simp; done) | (go_simp; with_reducible rfl)
        try simp only [Act.put, List.setIfInBounds_toArray, List.set_cons_zero, List.set_cons_succ]
        refine wpAnyH_take (i := 30) (oi := { dst := some 43, op := Op.load 27 (Operand.tmp 3), type := 27, pos := "law.go:16", after := #[{ on := 29, ground := Ground.guard }], guard := some (29, true) }) (v := .agg #[.pointer py, .int .i64 2]) rfl (by kernel_rfl) (by kernel_rfl) (by kernel_rfl) (fun _ _ _ h => h) (Or.inl ⟨by rfl, ?_⟩) (by with_reducible assumption) ?_
        · intro wx hSw
          (try dsimp only at hSw)
          first | (go_simp; done) | (go_simp; with_reducible rfl)
        try simp only [Act.put, List.setIfInBounds_toArray, List.set_cons_zero, List.set_cons_succ]
        refine wpAnyH_take (i := 31) (oi := { dst := some 44, op := Op.build 24 #[], type := 24, pos := "law.go:16", after := #[{ on := 29, ground := Ground.guard }], guard := some (29, true) }) (v := .agg #[.int .i64 0, .int .i64 0, .string ⟨#[]⟩]) rfl (by kernel_rfl) (by kernel_rfl) (by kernel_rfl) (fun _ _ _ h => h) (Or.inl ⟨by rfl, ?_⟩) (by with_reducible assumption) ?_
        · intro wx hSw
          (try dsimp only at hSw)
          first | (go_simp; done) | (go_simp; with_reducible rfl)
        try simp only [Act.put, List.setIfInBounds_toArray, List.set_cons_zero, List.set_cons_succ]
        refine wpAnyH_ready (rs := [32]) (by kernel_rfl) (by simp) ?_
        refine AllReadyH.cons rfl (fun K hK => ?_) AllReadyH.nil
        go_simp
        refine Calls.mono (HZ.out _ HSx24.out) ?_
        rintro e x25 ⟨a3, c3, rfl, HSx25⟩
        refine hK.out _ _ HSx25.out (fun hHeld => ?_)
        clear hK K
        try simp only [Act.put, List.setIfInBounds_toArray, List.set_cons_zero, List.set_cons_succ]
        refine wpAnyH_take (i := 33) (oi := { dst := some 46, op := Op.call { callee := Callee.builtin Builtin.len, args := #[Operand.tmp 45], argTypes := #[36] }, type := 3, pos := "law.go:16", after := #[{ on := 32, ground := Ground.data }, { on := 29, ground := Ground.guard }], guard := some (29, true) }) (v := .int .i64 0) rfl (by kernel_rfl) (by kernel_rfl) (by kernel_rfl) (fun _ _ _ h => h) (Or.inl ⟨by rfl, ?_⟩) (by with_reducible assumption) ?_
        · intro wx hSw
          (try dsimp only at hSw)
          first | (go_simp; done) | (go_simp; with_reducible rfl)
        try simp only [Act.put, List.setIfInBounds_toArray, List.set_cons_zero, List.set_cons_succ]
        refine wpAnyH_take (i := 34) (oi := { dst := some 47, op := Op.binOp BinOp.eql 3 (Operand.tmp 46) (Operand.const (Value.int IntKind.i64 0)) 3, type := 4, pos := "law.go:16", after := #[{ on := 33, ground := Ground.data }, { on := 29, ground := Ground.guard }], guard := some (29, true) }) (v := .bool true) rfl (by kernel_rfl) (by kernel_rfl) (by kernel_rfl) (fun _ _ _ h => h) (Or.inl ⟨by rfl, ?_⟩) (by with_reducible assumption) ?_
        · intro wx hSw
          (try dsimp only at hSw)
          first | (go_simp; done) | (go_simp; with_reducible rfl)
        try simp only [Act.put, List.setIfInBounds_toArray, List.set_cons_zero, List.set_cons_succ]
        refine wpAnyH_take (i := 35) (oi := { dst := some 48, op := Op.pick (Operand.tmp 42) (Operand.tmp 47) (Operand.const (Value.bool false)), type := 4, pos := "law.go:16", after := #[{ on := 29, ground := Ground.data }, { on := 34, ground := Ground.data }], guard := none }) (v := .bool true) rfl (by kernel_rfl) (by kernel_rfl) (by kernel_rfl) (fun _ _ _ h => h) (Or.inl ⟨by rfl, ?_⟩) (by with_reducible assumption) ?_
        · intro wx hSw
          (try dsimp only at hSw)
          first | (go_simp; done) | (go_simp; with_reducible rfl)
        try simp only [Act.put, List.setIfInBounds_toArray, List.set_cons_zero, List.set_cons_succ]
        refine wpAnyH_take (i := 36) (oi := { dst := some 0, op := Op.assign (Operand.tmp 48), type := 4, pos := "law.go:16", after := #[{ on := 35, ground := Ground.data }, { on := 32, ground := Ground.chain }, { on := 0, ground := Ground.phase }, { on := 1, ground := Ground.phase }, { on := 2, ground := Ground.phase }, { on := 3, ground := Ground.phase }, { on := 4, ground := Ground.phase }, { on := 5, ground := Ground.phase }, { on := 6, ground := Ground.phase }, { on := 7, ground := Ground.phase }, { on := 8, ground := Ground.phase }, { on := 9, ground := Ground.phase }, { on := 10, ground := Ground.phase }, { on := 11, ground := Ground.phase }, { on := 12, ground := Ground.phase }, { on := 13, ground := Ground.phase }, { on := 14, ground := Ground.phase }, { on := 15, ground := Ground.phase }, { on := 16, ground := Ground.phase }, { on := 17, ground := Ground.phase }, { on := 18, ground := Ground.phase }, { on := 19, ground := Ground.phase }, { on := 20, ground := Ground.phase }, { on := 21, ground := Ground.phase }, { on := 22, ground := Ground.phase }, { on := 23, ground := Ground.phase }, { on := 24, ground := Ground.phase }, { on := 25, ground := Ground.phase }, { on := 26, ground := Ground.phase }, { on := 27, ground := Ground.phase }, { on := 28, ground := Ground.phase }, { on := 29, ground := Ground.phase }, { on := 30, ground := Ground.phase }, { on := 31, ground := Ground.phase }, { on := 32, ground := Ground.phase }, { on := 33, ground := Ground.phase }, { on := 34, ground := Ground.phase }, { on := 35, ground := Ground.phase }], guard := none }) (v := .bool true) rfl (by kernel_rfl) (by kernel_rfl) (by kernel_rfl) (fun _ _ _ h => h) (Or.inl ⟨by rfl, ?_⟩) (by with_reducible assumption) ?_
        · intro wx hSw
          (try dsimp only at hSw)
          first | (go_simp; done) | (go_simp; with_reducible rfl)
        try simp only [Act.put, List.setIfInBounds_toArray, List.set_cons_zero]
        refine wpAnyH_done (by kernel_rfl) ?_ _
        go_wp2_with fail
        go_ret
        exact ⟨rfl, HSx25.out.2.2.2.2.2.2.2.out.1⟩
      · skip
        go_simp
        have HSm : Hid (((x22.alloc (.cells #[.int .i64 1] 3)).cell? ⟨w.heap.size, 0, none⟩ = some (.int .i64 2) ∧ (x22.alloc (.cells #[.int .i64 1] 3)).cell? ⟨w.heap.size, 1, none⟩ = some (.int .i64 0) ∧ (x22.alloc (.cells #[.int .i64 1] 3)).cell? ⟨w.heap.size, 2, none⟩ = some (.string ⟨#[97]⟩) ∧ (x22.alloc (.cells #[.int .i64 1] 3)).cell? ⟨w.heap.size + 1, 0, none⟩ = some (.pointer none) ∧ (x22.alloc (.cells #[.int .i64 1] 3)).cell? ⟨w.heap.size + 1, 1, none⟩ = some (.int .i64 0) ∧ (x22.alloc (.cells #[.int .i64 1] 3)).cell? ⟨yb, 0, none⟩ = some (.pointer py) ∧ (x22.alloc (.cells #[.int .i64 1] 3)).cell? ⟨yb, 1, none⟩ = some (.int .i64 2) ∧ Hid (Below w.heap.size w (x22.alloc (.cells #[.int .i64 1] 3)) ∧ Ix (x22.alloc (.cells #[.int .i64 1] 3)) py aF 1 10))) := HSA.out x22 _ HSx22.out
        refine hK.out _ _ HSm.out (fun hHeld => ?_)
        clear hK K
        try simp only [Act.put, List.setIfInBounds_toArray, List.set_cons_zero, List.set_cons_succ]
        refine wpAnyH_ready (rs := [25]) (by kernel_rfl) (by simp) ?_
        refine AllReadyH.cons rfl (fun K hK => ?_) AllReadyH.nil
        go_simp
        refine Calls.mono (HG.out _ _ (HP6.out.1.next (below1 x22 _)) HSm.out) ?_
        rintro e x26 ⟨a2, c2, rfl, HA2, HSx26⟩
        refine hK.out _ _ HSx26.out (fun hHeld => ?_)
        clear hK K
        try simp only [Act.put, List.setIfInBounds_toArray, List.set_cons_zero, List.set_cons_succ]
        refine wpAnyH_ready (rs := [27]) (by kernel_rfl) (by simp) ?_
        refine AllReadyH.cons rfl (fun K hK => ?_) AllReadyH.nil
        go_simp
        refine Calls.mono (HM1.out _ _ _ (HA2.out.1) ((sl_one x22 1).next iv_ne HA2.out.2) HSx26.out) ?_
        rintro e x27 ⟨rfl, HSx27⟩
        refine hK.out _ _ HSx27.out (fun hHeld => ?_)
        clear hK K
        try simp only [Act.put, List.setIfInBounds_toArray, List.set_cons_zero, List.set_cons_succ]
        refine wpAnyH_take (i := 28) (oi := { dst := some 41, op := Op.pick (Operand.tmp 33) (Operand.tmp 40) (Operand.const (Value.bool false)), type := 4, pos := "law.go:16", after := #[{ on := 20, ground := Ground.data }, { on := 27, ground := Ground.data }], guard := none }) (v := .bool true) rfl (by kernel_rfl) (by kernel_rfl) (by kernel_rfl) (fun _ _ _ h => h) (Or.inl ⟨by rfl, ?_⟩) (by with_reducible assumption) ?_
        · intro wx hSw
          (try dsimp only at hSw)
          first | (go_simp; done) | (go_simp; with_reducible rfl)
        try simp only [Act.put, List.setIfInBounds_toArray, List.set_cons_zero, List.set_cons_succ]
        refine wpAnyH_take (i := 29) (oi := { dst := some 42, op := Op.move (Operand.tmp 41), type := 4, pos := "law.go:16", after := #[{ on := 28, ground := Ground.data }, { on := 27, ground := Ground.chain }], guard := none }) (v := .bool true) rfl (by kernel_rfl) (by kernel_rfl) (by kernel_rfl) (fun _ _ _ h => h) (Or.inl ⟨by rfl, ?_⟩) (by with_reducible assumption) ?_
        · intro wx hSw
          (try dsimp only at hSw)
          first | (go_simp; done) | (go_simp; with_reducible rfl)
        try simp only [Act.put, List.setIfInBounds_toArray, List.set_cons_zero, List.set_cons_succ]
        refine wpAnyH_take (i := 30) (oi := { dst := some 43, op := Op.load 27 (Operand.tmp 3), type := 27, pos := "law.go:16", after := #[{ on := 29, ground := Ground.guard }], guard := some (29, true) }) (v := .agg #[.pointer py, .int .i64 2]) rfl (by kernel_rfl) (by kernel_rfl) (by kernel_rfl) (fun _ _ _ h => h) (Or.inl ⟨by rfl, ?_⟩) (by with_reducible assumption) ?_
        · intro wx hSw
          (try dsimp only at hSw)
          first | (go_simp; done) | (go_simp; with_reducible rfl)
        try simp only [Act.put, List.setIfInBounds_toArray, List.set_cons_zero, List.set_cons_succ]
        refine wpAnyH_take (i := 31) (oi := { dst := some 44, op := Op.build 24 #[], type := 24, pos := "law.go:16", after := #[{ on := 29, ground := Ground.guard }], guard := some (29, true) }) (v := .agg #[.int .i64 0, .int .i64 0, .string ⟨#[]⟩]) rfl (by kernel_rfl) (by kernel_rfl) (by kernel_rfl) (fun _ _ _ h => h) (Or.inl ⟨by rfl, ?_⟩) (by with_reducible assumption) ?_
        · intro wx hSw
          (try dsimp only at hSw)
          first | (go_simp; done) | (go_simp; with_reducible rfl)
        try simp only [Act.put, List.setIfInBounds_toArray, List.set_cons_zero, List.set_cons_succ]
        refine wpAnyH_ready (rs := [32]) (by kernel_rfl) (by simp) ?_
        refine AllReadyH.cons rfl (fun K hK => ?_) AllReadyH.nil
        go_simp
        refine Calls.mono (HZ.out _ HSx27.out) ?_
        rintro e x28 ⟨a3, c3, rfl, HSx28⟩
        refine hK.out _ _ HSx28.out (fun hHeld => ?_)
        clear hK K
        try simp only [Act.put, List.setIfInBounds_toArray, List.set_cons_zero, List.set_cons_succ]
        refine wpAnyH_take (i := 33) (oi := { dst := some 46, op := Op.call { callee := Callee.builtin Builtin.len, args := #[Operand.tmp 45], argTypes := #[36] }, type := 3, pos := "law.go:16", after := #[{ on := 32, ground := Ground.data }, { on := 29, ground := Ground.guard }], guard := some (29, true) }) (v := .int .i64 0) rfl (by kernel_rfl) (by kernel_rfl) (by kernel_rfl) (fun _ _ _ h => h) (Or.inl ⟨by rfl, ?_⟩) (by with_reducible assumption) ?_
        · intro wx hSw
          (try dsimp only at hSw)
          first | (go_simp; done) | (go_simp; with_reducible rfl)
        try simp only [Act.put, List.setIfInBounds_toArray, List.set_cons_zero, List.set_cons_succ]
        refine wpAnyH_take (i := 34) (oi := { dst := some 47, op := Op.binOp BinOp.eql 3 (Operand.tmp 46) (Operand.const (Value.int IntKind.i64 0)) 3, type := 4, pos := "law.go:16", after := #[{ on := 33, ground := Ground.data }, { on := 29, ground := Ground.guard }], guard := some (29, true) }) (v := .bool true) rfl (by kernel_rfl) (by kernel_rfl) (by kernel_rfl) (fun _ _ _ h => h) (Or.inl ⟨by rfl, ?_⟩) (by with_reducible assumption) ?_
        · intro wx hSw
          (try dsimp only at hSw)
          first | (go_simp; done) | (go_simp; with_reducible rfl)
        try simp only [Act.put, List.setIfInBounds_toArray, List.set_cons_zero, List.set_cons_succ]
        refine wpAnyH_take (i := 35) (oi := { dst := some 48, op := Op.pick (Operand.tmp 42) (Operand.tmp 47) (Operand.const (Value.bool false)), type := 4, pos := "law.go:16", after := #[{ on := 29, ground := Ground.data }, { on := 34, ground := Ground.data }], guard := none }) (v := .bool true) rfl (by kernel_rfl) (by kernel_rfl) (by kernel_rfl) (fun _ _ _ h => h) (Or.inl ⟨by rfl, ?_⟩) (by with_reducible assumption) ?_
        · intro wx hSw
          (try dsimp only at hSw)
          first | (go_simp; done) | (go_simp; with_reducible rfl)
        try simp only [Act.put, List.setIfInBounds_toArray, List.set_cons_zero, List.set_cons_succ]
        refine wpAnyH_take (i := 36) (oi := { dst := some 0, op := Op.assign (Operand.tmp 48), type := 4, pos := "law.go:16", after := #[{ on := 35, ground := Ground.data }, { on := 32, ground := Ground.chain }, { on := 0, ground := Ground.phase }, { on := 1, ground := Ground.phase }, { on := 2, ground := Ground.phase }, { on := 3, ground := Ground.phase }, { on := 4, ground := Ground.phase }, { on := 5, ground := Ground.phase }, { on := 6, ground := Ground.phase }, { on := 7, ground := Ground.phase }, { on := 8, ground := Ground.phase }, { on := 9, ground := Ground.phase }, { on := 10, ground := Ground.phase }, { on := 11, ground := Ground.phase }, { on := 12, ground := Ground.phase }, { on := 13, ground := Ground.phase }, { on := 14, ground := Ground.phase }, { on := 15, ground := Ground.phase }, { on := 16, ground := Ground.phase }, { on := 17, ground := Ground.phase }, { on := 18, ground := Ground.phase }, { on := 19, ground := Ground.phase }, { on := 20, ground := Ground.phase }, { on := 21, ground := Ground.phase }, { on := 22, ground := Ground.phase }, { on := 23, ground := Ground.phase }, { on := 24, ground := Ground.phase }, { on := 25, ground := Ground.phase }, { on := 26, ground := Ground.phase }, { on := 27, ground := Ground.phase }, { on := 28, ground := Ground.phase }, { on := 29, ground := Ground.phase }, { on := 30, ground := Ground.phase }, { on := 31, ground := Ground.phase }, { on := 32, ground := Ground.phase }, { on := 33, ground := Ground.phase }, { on := 34, ground := Ground.phase }, { on := 35, ground := Ground.phase }], guard := none }) (v := .bool true) rfl (by kernel_rfl) (by kernel_rfl) (by kernel_rfl) (fun _ _ _ h => h) (Or.inl ⟨by rfl, ?_⟩) (by with_reducible assumption) ?_
        · intro wx hSw
          (try dsimp only at hSw)
          first | (go_simp; done) | (go_simp; with_reducible rfl)
        try simp only [Act.put, List.setIfInBounds_toArray, List.set_cons_zero]
        refine wpAnyH_done (by kernel_rfl) ?_ _
        go_wp2_with fail
        go_ret
        exact ⟨rfl, HSx28.out.2.2.2.2.2.2.2.out.1⟩
    · skip
      go_simp
      have HSm : Hid (((x21.alloc (.cells #[.int .i64 1] 3)).cell? ⟨w.heap.size, 0, none⟩ = some (.int .i64 2) ∧ (x21.alloc (.cells #[.int .i64 1] 3)).cell? ⟨w.heap.size, 1, none⟩ = some (.int .i64 0) ∧ (x21.alloc (.cells #[.int .i64 1] 3)).cell? ⟨w.heap.size, 2, none⟩ = some (.string ⟨#[97]⟩) ∧ (x21.alloc (.cells #[.int .i64 1] 3)).cell? ⟨w.heap.size + 1, 0, none⟩ = some (.pointer none) ∧ (x21.alloc (.cells #[.int .i64 1] 3)).cell? ⟨w.heap.size + 1, 1, none⟩ = some (.int .i64 0) ∧ (x21.alloc (.cells #[.int .i64 1] 3)).cell? ⟨yb, 0, none⟩ = some (.pointer py) ∧ (x21.alloc (.cells #[.int .i64 1] 3)).cell? ⟨yb, 1, none⟩ = some (.int .i64 2) ∧ Hid (Below w.heap.size w (x21.alloc (.cells #[.int .i64 1] 3)) ∧ Ix (x21.alloc (.cells #[.int .i64 1] 3)) py aF 1 10))) := HSA.out x21 _ HSx21.out
      refine hK.out _ _ HSm.out (fun hHeld => ?_)
      clear hK K
      try simp only [Act.put, List.setIfInBounds_toArray, List.set_cons_zero, List.set_cons_succ]
      refine wpAnyH_ready (rs := [23]) (by kernel_rfl) (by simp) ?_
      refine AllReadyH.cons rfl (fun K hK => ?_) AllReadyH.nil
      go_simp
      refine Calls.mono (HO.out _ HSm.out) ?_
      rintro e x29 ⟨p6, rfl, HP6, HSx29⟩
      refine hK.out _ _ HSx29.out (fun hHeld => ?_)
      clear hK K
      try simp only [Act.put, List.setIfInBounds_toArray, List.set_cons_zero, List.set_cons_succ]
      refine wpAnyH_ready (rs := [25]) (by kernel_rfl) (by simp) ?_
      refine AllReadyH.cons rfl (fun K hK => ?_) AllReadyH.nil
      go_simp
      refine Calls.mono (HG.out _ _ HP6.out.1 HSx29.out) ?_
      rintro e x30 ⟨a2, c2, rfl, HA2, HSx30⟩
      refine hK.out _ _ HSx30.out (fun hHeld => ?_)
      clear hK K
      try simp only [Act.put, List.setIfInBounds_toArray, List.set_cons_zero, List.set_cons_succ]
      refine wpAnyH_ready (rs := [27]) (by kernel_rfl) (by simp) ?_
      refine AllReadyH.cons rfl (fun K hK => ?_) AllReadyH.nil
      go_simp
      refine Calls.mono (HM1.out _ _ _ (HA2.out.1) (((sl_one x21 1).next iv_ne HP6.out.2).next iv_ne HA2.out.2) HSx30.out) ?_
      rintro e x31 ⟨rfl, HSx31⟩
      refine hK.out _ _ HSx31.out (fun hHeld => ?_)
      clear hK K
      try simp only [Act.put, List.setIfInBounds_toArray, List.set_cons_zero, List.set_cons_succ]
      refine wpAnyH_take (i := 28) (oi := { dst := some 41, op := Op.pick (Operand.tmp 33) (Operand.tmp 40) (Operand.const (Value.bool false)), type := 4, pos := "law.go:16", after := #[{ on := 20, ground := Ground.data }, { on := 27, ground := Ground.data }], guard := none }) (v := .bool true) rfl (by kernel_rfl) (by kernel_rfl) (by kernel_rfl) (fun _ _ _ h => h) (Or.inl ⟨by rfl, ?_⟩) (by with_reducible assumption) ?_
      · intro wx hSw
        (try dsimp only at hSw)
        first | (go_simp; done) | (go_simp; with_reducible rfl)
      try simp only [Act.put, List.setIfInBounds_toArray, List.set_cons_zero, List.set_cons_succ]
      refine wpAnyH_take (i := 29) (oi := { dst := some 42, op := Op.move (Operand.tmp 41), type := 4, pos := "law.go:16", after := #[{ on := 28, ground := Ground.data }, { on := 27, ground := Ground.chain }], guard := none }) (v := .bool true) rfl (by kernel_rfl) (by kernel_rfl) (by kernel_rfl) (fun _ _ _ h => h) (Or.inl ⟨by rfl, ?_⟩) (by with_reducible assumption) ?_
      · intro wx hSw
        (try dsimp only at hSw)
        first | (go_simp; done) | (go_simp; with_reducible rfl)
      try simp only [Act.put, List.setIfInBounds_toArray, List.set_cons_zero, List.set_cons_succ]
      refine wpAnyH_take (i := 30) (oi := { dst := some 43, op := Op.load 27 (Operand.tmp 3), type := 27, pos := "law.go:16", after := #[{ on := 29, ground := Ground.guard }], guard := some (29, true) }) (v := .agg #[.pointer py, .int .i64 2]) rfl (by kernel_rfl) (by kernel_rfl) (by kernel_rfl) (fun _ _ _ h => h) (Or.inl ⟨by rfl, ?_⟩) (by with_reducible assumption) ?_
      · intro wx hSw
        (try dsimp only at hSw)
        first | (go_simp; done) | (go_simp; with_reducible rfl)
      try simp only [Act.put, List.setIfInBounds_toArray, List.set_cons_zero, List.set_cons_succ]
      refine wpAnyH_take (i := 31) (oi := { dst := some 44, op := Op.build 24 #[], type := 24, pos := "law.go:16", after := #[{ on := 29, ground := Ground.guard }], guard := some (29, true) }) (v := .agg #[.int .i64 0, .int .i64 0, .string ⟨#[]⟩]) rfl (by kernel_rfl) (by kernel_rfl) (by kernel_rfl) (fun _ _ _ h => h) (Or.inl ⟨by rfl, ?_⟩) (by with_reducible assumption) ?_
      · intro wx hSw
        (try dsimp only at hSw)
        first | (go_simp; done) | (go_simp; with_reducible rfl)
      try simp only [Act.put, List.setIfInBounds_toArray, List.set_cons_zero, List.set_cons_succ]
      refine wpAnyH_ready (rs := [32]) (by kernel_rfl) (by simp) ?_
      refine AllReadyH.cons rfl (fun K hK => ?_) AllReadyH.nil
      go_simp
      refine Calls.mono (HZ.out _ HSx31.out) ?_
      rintro e x32 ⟨a3, c3, rfl, HSx32⟩
      refine hK.out _ _ HSx32.out (fun hHeld => ?_)
      clear hK K
      try simp only [Act.put, List.setIfInBounds_toArray, List.set_cons_zero, List.set_cons_succ]
      refine wpAnyH_take (i := 33) (oi := { dst := some 46, op := Op.call { callee := Callee.builtin Builtin.len, args := #[Operand.tmp 45], argTypes := #[36] }, type := 3, pos := "law.go:16", after := #[{ on := 32, ground := Ground.data }, { on := 29, ground := Ground.guard }], guard := some (29, true) }) (v := .int .i64 0) rfl (by kernel_rfl) (by kernel_rfl) (by kernel_rfl) (fun _ _ _ h => h) (Or.inl ⟨by rfl, ?_⟩) (by with_reducible assumption) ?_
      · intro wx hSw
        (try dsimp only at hSw)
        first | (go_simp; done) | (go_simp; with_reducible rfl)
      try simp only [Act.put, List.setIfInBounds_toArray, List.set_cons_zero, List.set_cons_succ]
      refine wpAnyH_take (i := 34) (oi := { dst := some 47, op := Op.binOp BinOp.eql 3 (Operand.tmp 46) (Operand.const (Value.int IntKind.i64 0)) 3, type := 4, pos := "law.go:16", after := #[{ on := 33, ground := Ground.data }, { on := 29, ground := Ground.guard }], guard := some (29, true) }) (v := .bool true) rfl (by kernel_rfl) (by kernel_rfl) (by kernel_rfl) (fun _ _ _ h => h) (Or.inl ⟨by rfl, ?_⟩) (by with_reducible assumption) ?_
      · intro wx hSw
        (try dsimp only at hSw)
        first | (go_simp; done) | (go_simp; with_reducible rfl)
      try simp only [Act.put, List.setIfInBounds_toArray, List.set_cons_zero, List.set_cons_succ]
      refine wpAnyH_take (i := 35) (oi := { dst := some 48, op := Op.pick (Operand.tmp 42) (Operand.tmp 47) (Operand.const (Value.bool false)), type := 4, pos := "law.go:16", after := #[{ on := 29, ground := Ground.data }, { on := 34, ground := Ground.data }], guard := none }) (v := .bool true) rfl (by kernel_rfl) (by kernel_rfl) (by kernel_rfl) (fun _ _ _ h => h) (Or.inl ⟨by rfl, ?_⟩) (by with_reducible assumption) ?_
      · intro wx hSw
        (try dsimp only at hSw)
        first | (go_simp; done) | (go_simp; with_reducible rfl)
      try simp only [Act.put, List.setIfInBounds_toArray, List.set_cons_zero, List.set_cons_succ]
      refine wpAnyH_take (i := 36) (oi := { dst := some 0, op := Op.assign (Operand.tmp 48), type := 4, pos := "law.go:16", after := #[{ on := 35, ground := Ground.data }, { on := 32, ground := Ground.chain }, { on := 0, ground := Ground.phase }, { on := 1, ground := Ground.phase }, { on := 2, ground := Ground.phase }, { on := 3, ground := Ground.phase }, { on := 4, ground := Ground.phase }, { on := 5, ground := Ground.phase }, { on := 6, ground := Ground.phase }, { on := 7, ground := Ground.phase }, { on := 8, ground := Ground.phase }, { on := 9, ground := Ground.phase }, { on := 10, ground := Ground.phase }, { on := 11, ground := Ground.phase }, { on := 12, ground := Ground.phase }, { on := 13, ground := Ground.phase }, { on := 14, ground := Ground.phase }, { on := 15, ground := Ground.phase }, { on := 16, ground := Ground.phase }, { on := 17, ground := Ground.phase }, { on := 18, ground := Ground.phase }, { on := 19, ground := Ground.phase }, { on := 20, ground := Ground.phase }, { on := 21, ground := Ground.phase }, { on := 22, ground := Ground.phase }, { on := 23, ground := Ground.phase }, { on := 24, ground := Ground.phase }, { on := 25, ground := Ground.phase }, { on := 26, ground := Ground.phase }, { on := 27, ground := Ground.phase }, { on := 28, ground := Ground.phase }, { on := 29, ground := Ground.phase }, { on := 30, ground := Ground.phase }, { on := 31, ground := Ground.phase }, { on := 32, ground := Ground.phase }, { on := 33, ground := Ground.phase }, { on := 34, ground := Ground.phase }, { on := 35, ground := Ground.phase }], guard := none }) (v := .bool true) rfl (by kernel_rfl) (by kernel_rfl) (by kernel_rfl) (fun _ _ _ h => h) (Or.inl ⟨by rfl, ?_⟩) (by with_reducible assumption) ?_
      · intro wx hSw
        (try dsimp only at hSw)
        first | (go_simp; done) | (go_simp; with_reducible rfl)
      try simp only [Act.put, List.setIfInBounds_toArray, List.set_cons_zero]
      refine wpAnyH_done (by kernel_rfl) ?_ _
      go_wp2_with fail
      go_ret
      exact ⟨rfl, HSx32.out.2.2.2.2.2.2.2.out.1⟩
end Go.Proofs.Ytgjeobmbfeinnaa
