/- ledger.copied: a ledger with lists of the call's own. -/
import Derived.Test.YtflbcheofmljeaaClone
namespace Go.Proofs.Ytflbcheofmljeaa
open Go.ChangeShapes Go.WideShapes Go.RowKit
set_option linter.unusedVariables false
set_option maxRecDepth 100000

/-- Three lists of the call's own. -/
structure Own3 (w w' : World) (v0 v1 v2 : Value) (L : Led) : Prop where
  S : w'.ownsRow 0 50 4 v0 L.S.length (L.S.flatMap stv)
  H : w'.ownsRow 0 44 6 v1 L.H.length (L.H.flatMap hlv)
  M : w'.ownsRow 0 42 6 v2 L.M.length (L.M.flatMap mvv)
  n0 : ∀ g, v0.ownBlock = some g → w.heap.size ≤ g
  n1 : ∀ g, v1.ownBlock = some g → w.heap.size ≤ g
  n2 : ∀ g, v2.ownBlock = some g → w.heap.size ≤ g
  d01 : ∀ g, v0.ownBlock = some g → v1.ownBlock ≠ some g
  d02 : ∀ g, v0.ownBlock = some g → v2.ownBlock ≠ some g
  d12 : ∀ g, v1.ownBlock = some g → v2.ownBlock ≠ some g
  bel : Below w.heap.size w w'
theorem Fresh.next {e k : Nat} {xs : List Value} {n : Nat} {w w' w'' : World} {v : Value} (h : Fresh e k xs n w w' v) (b : Below w'.heap.size w' w'') : w''.ownsRow 0 e k v n xs := ownsRow_kept h.own (fun g hg => b.block g (h.new g hg).2)
theorem own3_SHM {w u1 u2 u3 : World} {v0 v1 v2 : Value} {L : Led} (fx : Fresh 50 4 (L.S.flatMap stv) L.S.length w u1 v0) (fy : Fresh 44 6 (L.H.flatMap hlv) L.H.length u1 u2 v1) (fz : Fresh 42 6 (L.M.flatMap mvv) L.M.length u2 u3 v2) : Own3 w u3 v0 v1 v2 L := by
  have byz : Below u1.heap.size u1 u3 := Below.next fy.bel fz.bel
  have sx := fx.bel.size
  have sy := fy.bel.size
  have hx : u3.ownsRow 0 50 4 v0 _ _ := fx.next byz
  have hy : u3.ownsRow 0 44 6 v1 _ _ := fy.next fz.bel
  have hz := fz.own
  refine ⟨hx, hy, hz, fun g hg => ?_, fun g hg => ?_, fun g hg => ?_, fun g hg hg' => ?_, fun g hg hg' => ?_, fun g hg hg' => ?_, Below.next fx.bel byz⟩
  · have := (fx.new g hg).1; omega
  · have := (fy.new g hg).1; omega
  · have := (fz.new g hg).1; omega
  · have := fx.new g hg; have := fy.new g hg'; omega
  · have := fx.new g hg; have := fz.new g hg'; omega
  · have := fy.new g hg; have := fz.new g hg'; omega
theorem own3_SMH {w u1 u2 u3 : World} {v0 v1 v2 : Value} {L : Led} (fx : Fresh 50 4 (L.S.flatMap stv) L.S.length w u1 v0) (fy : Fresh 42 6 (L.M.flatMap mvv) L.M.length u1 u2 v2) (fz : Fresh 44 6 (L.H.flatMap hlv) L.H.length u2 u3 v1) : Own3 w u3 v0 v1 v2 L := by
  have byz : Below u1.heap.size u1 u3 := Below.next fy.bel fz.bel
  have sx := fx.bel.size
  have sy := fy.bel.size
  have hx : u3.ownsRow 0 50 4 v0 _ _ := fx.next byz
  have hy : u3.ownsRow 0 42 6 v2 _ _ := fy.next fz.bel
  have hz := fz.own
  refine ⟨hx, hz, hy, fun g hg => ?_, fun g hg => ?_, fun g hg => ?_, fun g hg hg' => ?_, fun g hg hg' => ?_, fun g hg hg' => ?_, Below.next fx.bel byz⟩
  · have := (fx.new g hg).1; omega
  · have := (fz.new g hg).1; omega
  · have := (fy.new g hg).1; omega
  · have := fx.new g hg; have := fz.new g hg'; omega
  · have := fx.new g hg; have := fy.new g hg'; omega
  · have := fz.new g hg; have := fy.new g hg'; omega
theorem own3_HSM {w u1 u2 u3 : World} {v0 v1 v2 : Value} {L : Led} (fx : Fresh 44 6 (L.H.flatMap hlv) L.H.length w u1 v1) (fy : Fresh 50 4 (L.S.flatMap stv) L.S.length u1 u2 v0) (fz : Fresh 42 6 (L.M.flatMap mvv) L.M.length u2 u3 v2) : Own3 w u3 v0 v1 v2 L := by
  have byz : Below u1.heap.size u1 u3 := Below.next fy.bel fz.bel
  have sx := fx.bel.size
  have sy := fy.bel.size
  have hx : u3.ownsRow 0 44 6 v1 _ _ := fx.next byz
  have hy : u3.ownsRow 0 50 4 v0 _ _ := fy.next fz.bel
  have hz := fz.own
  refine ⟨hy, hx, hz, fun g hg => ?_, fun g hg => ?_, fun g hg => ?_, fun g hg hg' => ?_, fun g hg hg' => ?_, fun g hg hg' => ?_, Below.next fx.bel byz⟩
  · have := (fy.new g hg).1; omega
  · have := (fx.new g hg).1; omega
  · have := (fz.new g hg).1; omega
  · have := fy.new g hg; have := fx.new g hg'; omega
  · have := fy.new g hg; have := fz.new g hg'; omega
  · have := fx.new g hg; have := fz.new g hg'; omega
theorem own3_HMS {w u1 u2 u3 : World} {v0 v1 v2 : Value} {L : Led} (fx : Fresh 44 6 (L.H.flatMap hlv) L.H.length w u1 v1) (fy : Fresh 42 6 (L.M.flatMap mvv) L.M.length u1 u2 v2) (fz : Fresh 50 4 (L.S.flatMap stv) L.S.length u2 u3 v0) : Own3 w u3 v0 v1 v2 L := by
  have byz : Below u1.heap.size u1 u3 := Below.next fy.bel fz.bel
  have sx := fx.bel.size
  have sy := fy.bel.size
  have hx : u3.ownsRow 0 44 6 v1 _ _ := fx.next byz
  have hy : u3.ownsRow 0 42 6 v2 _ _ := fy.next fz.bel
  have hz := fz.own
  refine ⟨hz, hx, hy, fun g hg => ?_, fun g hg => ?_, fun g hg => ?_, fun g hg hg' => ?_, fun g hg hg' => ?_, fun g hg hg' => ?_, Below.next fx.bel byz⟩
  · have := (fz.new g hg).1; omega
  · have := (fx.new g hg).1; omega
  · have := (fy.new g hg).1; omega
  · have := fz.new g hg; have := fx.new g hg'; omega
  · have := fz.new g hg; have := fy.new g hg'; omega
  · have := fx.new g hg; have := fy.new g hg'; omega
theorem own3_MSH {w u1 u2 u3 : World} {v0 v1 v2 : Value} {L : Led} (fx : Fresh 42 6 (L.M.flatMap mvv) L.M.length w u1 v2) (fy : Fresh 50 4 (L.S.flatMap stv) L.S.length u1 u2 v0) (fz : Fresh 44 6 (L.H.flatMap hlv) L.H.length u2 u3 v1) : Own3 w u3 v0 v1 v2 L := by
  have byz : Below u1.heap.size u1 u3 := Below.next fy.bel fz.bel
  have sx := fx.bel.size
  have sy := fy.bel.size
  have hx : u3.ownsRow 0 42 6 v2 _ _ := fx.next byz
  have hy : u3.ownsRow 0 50 4 v0 _ _ := fy.next fz.bel
  have hz := fz.own
  refine ⟨hy, hz, hx, fun g hg => ?_, fun g hg => ?_, fun g hg => ?_, fun g hg hg' => ?_, fun g hg hg' => ?_, fun g hg hg' => ?_, Below.next fx.bel byz⟩
  · have := (fy.new g hg).1; omega
  · have := (fz.new g hg).1; omega
  · have := (fx.new g hg).1; omega
  · have := fy.new g hg; have := fz.new g hg'; omega
  · have := fy.new g hg; have := fx.new g hg'; omega
  · have := fz.new g hg; have := fx.new g hg'; omega
theorem own3_MHS {w u1 u2 u3 : World} {v0 v1 v2 : Value} {L : Led} (fx : Fresh 42 6 (L.M.flatMap mvv) L.M.length w u1 v2) (fy : Fresh 44 6 (L.H.flatMap hlv) L.H.length u1 u2 v1) (fz : Fresh 50 4 (L.S.flatMap stv) L.S.length u2 u3 v0) : Own3 w u3 v0 v1 v2 L := by
  have byz : Below u1.heap.size u1 u3 := Below.next fy.bel fz.bel
  have sx := fx.bel.size
  have sy := fy.bel.size
  have hx : u3.ownsRow 0 42 6 v2 _ _ := fx.next byz
  have hy : u3.ownsRow 0 44 6 v1 _ _ := fy.next fz.bel
  have hz := fz.own
  refine ⟨hz, hy, hx, fun g hg => ?_, fun g hg => ?_, fun g hg => ?_, fun g hg hg' => ?_, fun g hg hg' => ?_, fun g hg hg' => ?_, Below.next fx.bel byz⟩
  · have := (fz.new g hg).1; omega
  · have := (fy.new g hg).1; omega
  · have := (fx.new g hg).1; omega
  · have := fz.new g hg; have := fy.new g hg'; omega
  · have := fz.new g hg; have := fx.new g hg'; omega
  · have := fy.new g hg; have := fx.new g hg'; omega
theorem own3_fin {w W wX : World} {v0 v1 v2 : Value} {L : Led} (h : Own3 W.drew wX v0 v1 v2 L) (hb : Below w.heap.size w W) (hz : w.heap.size + 1 < W.heap.size) (x0 x1 x2 u0 u1 u2 u3 : Value) :
    Own3 w (((((((wX.setCell ⟨w.heap.size, 0, none⟩ x0).setCell ⟨w.heap.size, 1, none⟩ x1).setCell ⟨w.heap.size, 2, none⟩ x2).setCell ⟨w.heap.size + 1, 0, none⟩ u0).setCell ⟨w.heap.size + 1, 1, none⟩ u1).setCell ⟨w.heap.size + 1, 2, none⟩ u2).setCell ⟨w.heap.size + 1, 3, none⟩ u3) v0 v1 v2 L := by
  have hk : ∀ g, W.heap.size ≤ g → (((((((wX.setCell ⟨w.heap.size, 0, none⟩ x0).setCell ⟨w.heap.size, 1, none⟩ x1).setCell ⟨w.heap.size, 2, none⟩ x2).setCell ⟨w.heap.size + 1, 0, none⟩ u0).setCell ⟨w.heap.size + 1, 1, none⟩ u1).setCell ⟨w.heap.size + 1, 2, none⟩ u2).setCell ⟨w.heap.size + 1, 3, none⟩ u3).heap[g]? = wX.heap[g]? := fun g hg => by
    have n0 : g ≠ w.heap.size := by omega
    have n1 : g ≠ w.heap.size + 1 := by omega
    rw [Below.heap_setCell _ _ _ _ n1, Below.heap_setCell _ _ _ _ n1, Below.heap_setCell _ _ _ _ n1, Below.heap_setCell _ _ _ _ n1, Below.heap_setCell _ _ _ _ n0, Below.heap_setCell _ _ _ _ n0, Below.heap_setCell _ _ _ _ n0]
  have hb2 : Below w.heap.size w wX := Below.next hb ⟨h.bel.os, h.bel.tape, h.bel.output, h.bel.size, h.bel.block⟩
  have m0 : ∀ g, v0.ownBlock = some g → W.heap.size ≤ g := h.n0
  have m1 : ∀ g, v1.ownBlock = some g → W.heap.size ≤ g := h.n1
  have m2 : ∀ g, v2.ownBlock = some g → W.heap.size ≤ g := h.n2
  exact ⟨ownsRow_kept h.S (fun g hg => hk g (m0 g hg)), ownsRow_kept h.H (fun g hg => hk g (m1 g hg)), ownsRow_kept h.M (fun g hg => hk g (m2 g hg)),
    fun g hg => by have := m0 g hg; omega, fun g hg => by have := m1 g hg; omega, fun g hg => by have := m2 g hg; omega, h.d01, h.d02, h.d12,
    ((((((hb2.setCell (p := ⟨w.heap.size, 0, none⟩) (Nat.le_refl _) x0).setCell (p := ⟨w.heap.size, 1, none⟩) (Nat.le_refl _) x1).setCell (p := ⟨w.heap.size, 2, none⟩) (Nat.le_refl _) x2).setCell (p := ⟨w.heap.size + 1, 0, none⟩) (Nat.le_succ _) u0).setCell (p := ⟨w.heap.size + 1, 1, none⟩) (Nat.le_succ _) u1).setCell (p := ⟨w.heap.size + 1, 2, none⟩) (Nat.le_succ _) u2).setCell (p := ⟨w.heap.size + 1, 3, none⟩) (Nat.le_succ _) u3⟩
theorem cellsF_beside {wX : World} {N M : Nat} {l : List Value} (h : CellsF wX M l) (hne : M ≠ N) (x0 x1 x2 : Value) : CellsF (((wX.setCell ⟨N, 0, none⟩ x0).setCell ⟨N, 1, none⟩ x1).setCell ⟨N, 2, none⟩ x2) M l :=
  h.far (by rw [Below.heap_setCell _ _ _ _ hne, Below.heap_setCell _ _ _ _ hne, Below.heap_setCell _ _ _ _ hne])
set_option maxHeartbeats 20000000 in
theorem copied_is (a0 : Option Addr) (n0 c0 : Nat) (a1 : Option Addr) (n1 c1 : Nat) (a2 : Option Addr) (n2 c2 : Nat) (ops : Int) (L : Led) (h0 : L.S.length = n0) (h1 : L.H.length = n1) (h2 : L.M.length = n2) (m0 : n0 ≤ 100000) (m1 : n1 ≤ 100000) (m2 : n2 ≤ 100000) (z0 : a0 = none → n0 = 0 ∧ c0 = 0) (z1 : a1 = none → n1 = 0 ∧ c1 = 0) (z2 : a2 = none → n2 = 0 ∧ c2 = 0) (w : World) (hr : Lies w a0 a1 a2 L) :
    Calls Try.prog 25 #[lval a0 n0 c0 a1 n1 c1 a2 n2 c2 ops] w fun e w' => ∃ b0 d0 b1 d1 b2 d2, e = .returned (lval b0 n0 d0 b1 n1 d1 b2 n2 d2 ops) ∧ Own3 w w' (.slice b0 n0 d0) (.slice b1 n1 d1) (.slice b2 n2 d2) L := by
  obtain ⟨W, hW⟩ : ∃ W, (w.alloc (.cells #[.slice a0 n0 c0, .slice a1 n1 c1, .slice a2 n2 c2, .int .i64 ops] 26)).alloc (.cells #[.slice none 0 0, .slice none 0 0, .slice none 0 0, .int .i64 0] 26) = W := ⟨_, rfl⟩
  have hBW : Below w.heap.size w W := hW ▸ below2 _ _ _
  have hzW : W.heap.size = w.heap.size + 1 + 1 := by rw [← hW, size_alloc, size_alloc]
  have hcB : CellsF W w.heap.size [.slice a0 n0 c0, .slice a1 n1 c1, .slice a2 n2 c2, .int .i64 ops] := by rw [← hW]; exact (CellsF.at _ 26 (by simp) rfl).next (below1 _ _)
  have hcR : CellsF W (w.heap.size + 1) [.slice none 0 0, .slice none 0 0, .slice none 0 0, .int .i64 0] := by rw [← hW]; exact CellsF.at _ 26 (by simp) (size_alloc _ _).symm
  have HK : Hid (∀ w', Below W.heap.size W w' → w'.cell? ⟨w.heap.size, 0, none⟩ = some (.slice a0 n0 c0) ∧ w'.cell? ⟨w.heap.size, 1, none⟩ = some (.slice a1 n1 c1) ∧ w'.cell? ⟨w.heap.size, 2, none⟩ = some (.slice a2 n2 c2) ∧ w'.frozen? ⟨w.heap.size, 0, none⟩ = false ∧ w'.frozen? ⟨w.heap.size, 1, none⟩ = false ∧ w'.frozen? ⟨w.heap.size, 2, none⟩ = false) := fun w' k => ⟨(hcB.next k).cs 0 _ rfl, (hcB.next k).cs 1 _ rfl, (hcB.next k).cs 2 _ rfl, (hcB.next k).fz 0, (hcB.next k).fz 1, (hcB.next k).fz 2⟩
  have HKD : Hid (Below W.heap.size W W.drew) := (Below.refl _ _).drew
  have HPS : Hid (∀ w', Below W.heap.size W w' → Calls Try.prog 45 #[.slice a0 n0 c0] w' fun e w'' => ∃ b d, e = .returned (.slice b n0 d) ∧ Hid (Fresh 50 4 (L.S.flatMap stv) L.S.length w' w'' (.slice b n0 d)) ∧ Hid (Below W.heap.size W w'') ∧ w''.cell? ⟨w.heap.size, 0, none⟩ = some (.slice a0 n0 c0) ∧ w''.cell? ⟨w.heap.size, 1, none⟩ = some (.slice a1 n1 c1) ∧ w''.cell? ⟨w.heap.size, 2, none⟩ = some (.slice a2 n2 c2) ∧ w''.frozen? ⟨w.heap.size, 0, none⟩ = false ∧ w''.frozen? ⟨w.heap.size, 1, none⟩ = false ∧ w''.frozen? ⟨w.heap.size, 2, none⟩ = false) := fun w' kk => (cloneS_is a0 n0 c0 L.S h0 m0 z0 w' ((hr.S.next stv_ne hBW).next stv_ne kk)).mono (by
    rintro e w'' ⟨b, d, rfl, hf⟩
    exact ⟨b, d, rfl, by rw [h0]; exact hf, Below.next kk hf.bel, HK.out w'' (Below.next kk hf.bel)⟩)
  have HPH : Hid (∀ w', Below W.heap.size W w' → Calls Try.prog 46 #[.slice a1 n1 c1] w' fun e w'' => ∃ b d, e = .returned (.slice b n1 d) ∧ Hid (Fresh 44 6 (L.H.flatMap hlv) L.H.length w' w'' (.slice b n1 d)) ∧ Hid (Below W.heap.size W w'') ∧ w''.cell? ⟨w.heap.size, 0, none⟩ = some (.slice a0 n0 c0) ∧ w''.cell? ⟨w.heap.size, 1, none⟩ = some (.slice a1 n1 c1) ∧ w''.cell? ⟨w.heap.size, 2, none⟩ = some (.slice a2 n2 c2) ∧ w''.frozen? ⟨w.heap.size, 0, none⟩ = false ∧ w''.frozen? ⟨w.heap.size, 1, none⟩ = false ∧ w''.frozen? ⟨w.heap.size, 2, none⟩ = false) := fun w' kk => (cloneH_is a1 n1 c1 L.H h1 m1 z1 w' ((hr.H.next hlv_ne hBW).next hlv_ne kk)).mono (by
    rintro e w'' ⟨b, d, rfl, hf⟩
    exact ⟨b, d, rfl, by rw [h1]; exact hf, Below.next kk hf.bel, HK.out w'' (Below.next kk hf.bel)⟩)
  have HPM : Hid (∀ w', Below W.heap.size W w' → Calls Try.prog 47 #[.slice a2 n2 c2] w' fun e w'' => ∃ b d, e = .returned (.slice b n2 d) ∧ Hid (Fresh 42 6 (L.M.flatMap mvv) L.M.length w' w'' (.slice b n2 d)) ∧ Hid (Below W.heap.size W w'') ∧ w''.cell? ⟨w.heap.size, 0, none⟩ = some (.slice a0 n0 c0) ∧ w''.cell? ⟨w.heap.size, 1, none⟩ = some (.slice a1 n1 c1) ∧ w''.cell? ⟨w.heap.size, 2, none⟩ = some (.slice a2 n2 c2) ∧ w''.frozen? ⟨w.heap.size, 0, none⟩ = false ∧ w''.frozen? ⟨w.heap.size, 1, none⟩ = false ∧ w''.frozen? ⟨w.heap.size, 2, none⟩ = false) := fun w' kk => (cloneM_is a2 n2 c2 L.M h2 m2 z2 w' ((hr.M.next mvv_ne hBW).next mvv_ne kk)).mono (by
    rintro e w'' ⟨b, d, rfl, hf⟩
    exact ⟨b, d, rfl, by rw [h2]; exact hf, Below.next kk hf.bel, HK.out w'' (Below.next kk hf.bel)⟩)
  have HW : Hid (w.heap.size + 1 < W.heap.size) := by show _ < _; omega
  have HB : Hid (Below w.heap.size w W) := hBW
  have HCB : Hid (CellsF W w.heap.size [.slice a0 n0 c0, .slice a1 n1 c1, .slice a2 n2 c2, .int .i64 ops] ∧ CellsF W (w.heap.size + 1) [.slice none 0 0, .slice none 0 0, .slice none 0 0, .int .i64 0]) := ⟨hcB, hcR⟩
  obtain ⟨y0, y1, y2, y3, y4, y5⟩ := HK.out W (Below.refl _ _)
  clear hBW hzW hcB hcR hr z0 z1 z2 h0 h1 h2
  go_enter Try.func25, Try.ntmps25
  go_wp2_with fail
  try rw [hW]
  clear hW
  have kD := HKD.out
  go_region_with (first
    | (go_at_call 45; refine Calls.mono (HPS.out _ (by first | with_reducible assumption | with_reducible exact Hid.out (by with_reducible assumption))) ?_; rintro e wS ⟨bS, dS, rfl, FS, KS, s0, s1, s2, s3, s4, s5⟩)
    | (go_at_call 46; refine Calls.mono (HPH.out _ (by first | with_reducible assumption | with_reducible exact Hid.out (by with_reducible assumption))) ?_; rintro e wH ⟨bH, dH, rfl, FH, KH, t0, t1, t2, t3, t4, t5⟩)
    | (go_at_call 47; refine Calls.mono (HPM.out _ (by first | with_reducible assumption | with_reducible exact Hid.out (by with_reducible assumption))) ?_; rintro e wM ⟨bM, dM, rfl, FM, KM, u0, u1, u2, u3, u4, u5⟩))
  all_goals first
    | (have HO : Hid _ := own3_SHM FS.out FH.out FM.out; have HX : Hid _ := KM.out)
    | (have HO : Hid _ := own3_HSM FH.out FS.out FM.out; have HX : Hid _ := KM.out)
    | (have HO : Hid _ := own3_SMH FS.out FM.out FH.out; have HX : Hid _ := KH.out)
    | (have HO : Hid _ := own3_MSH FM.out FS.out FH.out; have HX : Hid _ := KH.out)
    | (have HO : Hid _ := own3_HMS FH.out FM.out FS.out; have HX : Hid _ := KS.out)
    | (have HO : Hid _ := own3_MHS FM.out FH.out FS.out; have HX : Hid _ := KS.out)
  all_goals (
    have hcR := cellsF_beside (N := w.heap.size) (HCB.out.2.next HX.out) (Nat.succ_ne_self _) (.slice bS n0 dS) (.slice bH n1 dH) (.slice bM n2 dM)
    have hcB := (((HCB.out.1.next HX.out).set 0 (.slice bS n0 dS) (by simp)).set 1 (.slice bH n1 dH) (by simp)).set 2 (.slice bM n2 dM) (by simp)
    have g0 := hcB.cs 0 _ rfl
    have g1 := hcB.cs 1 _ rfl
    have g2 := hcB.cs 2 _ rfl
    have g3 := hcB.cs 3 _ rfl
    have r0 := hcR.cs 0 _ rfl
    have r1 := hcR.cs 1 _ rfl
    have r2 := hcR.cs 2 _ rfl
    have r3 := hcR.cs 3 _ rfl
    have q0 := hcR.fz 0
    have q1 := hcR.fz 1
    have q2 := hcR.fz 2
    have q3 := hcR.fz 3
    have HCR : Hid _ := hcR
    have HFIN : Hid _ := fun u0 u1 u2 u3 => own3_fin HO.out HB.out HW.out (.slice bS n0 dS) (.slice bH n1 dH) (.slice bM n2 dM) u0 u1 u2 u3
    clear hcB hcR y0 y1 y2 y3 y4 y5 s0 s1 s2 s3 s4 s5 t0 t1 t2 t3 t4 t5 u0 u1 u2 u3 u4 u5
    go_wp2_with fail
    try simp only [Exit.inBlock, Exit.then]
    refine bodyPost_ret (end_cell rfl rfl (loadLed _ (HCR.out.four rfl _ _ _ _) rfl)) rfl ?_
    exact ⟨bS, dS, bH, dH, bM, dM, rfl, HFIN.out _ _ _ _⟩
    )
end Go.Proofs.Ytflbcheofmljeaa
