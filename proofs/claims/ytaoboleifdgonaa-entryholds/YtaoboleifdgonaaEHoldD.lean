/- The document's RowHold. -/
import Derived.Test.YtaoboleifdgonaaEStockB
import Derived.Deep.RegionHeld
import Derived.BigQuiet
namespace Go.Proofs.Ytaoboleifdgonaa
open Go.ChangeShapes Go.WideShapes Go.RowKit
set_option linter.unusedVariables false
set_option maxRecDepth 100000

theorem cells_far_drew {w : World} {b c o : Nat} {v0 v1 v2 v3 v4 v5 : Value} (h : b ≠ c) : ((((((w.setCell ⟨b, 0, none⟩ v0).setCell ⟨b, 1, none⟩ v1).setCell ⟨b, 2, none⟩ v2).setCell ⟨b, 3, none⟩ v3).setCell ⟨b, 4, none⟩ v4).setCell ⟨b, 5, none⟩ v5).drew.cell? ⟨c, o, none⟩ = w.cell? ⟨c, o, none⟩ := by
  have := cells_far (w := w) (o := o) (v0 := v0) (v1 := v1) (v2 := v2) (v3 := v3) (v4 := v4) (v5 := v5) h
  generalize (((((w.setCell ⟨b, 0, none⟩ v0).setCell ⟨b, 1, none⟩ v1).setCell ⟨b, 2, none⟩ v2).setCell ⟨b, 3, none⟩ v3).setCell ⟨b, 4, none⟩ v4).setCell ⟨b, 5, none⟩ v5 = W at *
  exact this
set_option maxHeartbeats 4000000 in
theorem refRowHold_is (a : Option Addr) (c n : Nat) (r : List V) (hn : r.length = n) (hl : n ≤ 1000) (hs : ∀ x, x ∈ r → x.s.size ≤ 1000) (w : World) (hr : Row w (.slice a r.length c) r) : Calls Try.prog 23 #[.slice a n c] w fun e w' => (∃ v, e = .returned v ∧ SixO stT r v) ∧ Below w.heap.size w w' := by
  have HN : Hid (r.length = n) := hn
  have HNO : Hid ((¬ ∃ id sku loc qty st due, (fits r ∧ r = sixR stT id sku loc qty st due) ∧ ¬ (stT st).size = 0) → ∀ v, v = (.tuple #[.agg ([.int .i64 0, .string ⟨#[]⟩, .string ⟨#[]⟩, .int .i64 0, .int .i64 0, .int .i64 0] : List Value).toArray, .int .i64 50] : Value) → SixO stT r v) := fun h v e => .inr ⟨h, e⟩
  have HZ : Hid (CellsF (w.alloc (.cells #[.int .i64 0, .string ⟨#[]⟩, .string ⟨#[]⟩, .int .i64 0, .int .i64 0, .int .i64 0] 44)) w.heap.size [.int .i64 0, .string ⟨#[]⟩, .string ⟨#[]⟩, .int .i64 0, .int .i64 0, .int .i64 0]) := CellsF.new w [.int .i64 0, .string ⟨#[]⟩, .string ⟨#[]⟩, .int .i64 0, .int .i64 0, .int .i64 0] 44 (by simp)
  have HKD : Hid _ := kinds_is a c n r hn (by omega) sixLetters (by decide) (fun x q => by have := hs x q; omega) (w.alloc (.cells #[.int .i64 0, .string ⟨#[]⟩, .string ⟨#[]⟩, .int .i64 0, .int .i64 0, .int .i64 0] 44)) (hr.next (below1 _ _))
  have HR : Hid (Row w (.slice a r.length c) r) := hr
  clear hr hs hn
  go_enter Try.func23, Try.ntmps23
  go_wp2_with fail
  refine Calls.mono HKD.out ?_; rintro e w1 ⟨⟨kb, rfl, hkb⟩, k1⟩
  have HZ1 : Hid (CellsF w1 w.heap.size [.int .i64 0, .string ⟨#[]⟩, .string ⟨#[]⟩, .int .i64 0, .int .i64 0, .int .i64 0]) := HZ.out.next k1
  have HB1 : Hid (Below w.heap.size w w1) := Below.next (below1 _ _) k1
  have HKB : Hid (kb = true ↔ kindsP r sixLetters) := hkb
  clear hkb k1 HKD HZ
  have HT : Hid _ := tells_state
  cases kb with
  | false =>
    have HNE : Hid (¬ ∃ id sku loc qty st due, (fits r ∧ r = sixR stT id sku loc qty st due) ∧ ¬ (stT st).size = 0) := fun ⟨id, sku, loc, qty, st, due, ⟨hf, e⟩, ne⟩ => by
      have h := HKB.out.2 (by rw [sixR_is ne] at e; subst e; exact kinds_six.2 ⟨hf, by simp only [sixL, orNull_n]⟩)
      cases h
    have z0 : w1.cell? ⟨w.heap.size, 0, none⟩ = some (.int .i64 0) := HZ1.out.cs 0 _ rfl
    have z1 : w1.cell? ⟨w.heap.size, 1, none⟩ = some (.string ⟨#[]⟩) := HZ1.out.cs 1 _ rfl
    have z2 : w1.cell? ⟨w.heap.size, 2, none⟩ = some (.string ⟨#[]⟩) := HZ1.out.cs 2 _ rfl
    have z3 : w1.cell? ⟨w.heap.size, 3, none⟩ = some (.int .i64 0) := HZ1.out.cs 3 _ rfl
    have z4 : w1.cell? ⟨w.heap.size, 4, none⟩ = some (.int .i64 0) := HZ1.out.cs 4 _ rfl
    have z5 : w1.cell? ⟨w.heap.size, 5, none⟩ = some (.int .i64 0) := HZ1.out.cs 5 _ rfl
    have f0 := HZ1.out.fz 0
    have f1 := HZ1.out.fz 1
    have f2 := HZ1.out.fz 2
    have f3 := HZ1.out.fz 3
    have f4 := HZ1.out.fz 4
    have f5 := HZ1.out.fz 5
    go_wp2_with fail
    try simp only [Exit.inBlock, Exit.then]
    refine bodyPost_ret (end_cell_tmp rfl rfl (loadHold _ (HZ1.out.six rfl _ _ _ _ _ _) rfl)) rfl ?_
    exact ⟨⟨_, rfl, HNO.out HNE.out _ rfl⟩, below_six HB1.out _ (Nat.le_refl _) _ _ _ _ _ _⟩
  | true =>
    have hkp := HKB.out.1 rfl
    have h6 : r.length = 6 := hkp.1
    have hn6 : n = 6 := by rw [← HN.out, h6]
    subst hn6
    obtain ⟨x0, x1, x2, x3, x4, x5, hx⟩ := six_of r h6
    have hr1 := HR.out.next HB1.out
    rw [h6] at hr1
    rw [hx] at hr1 hkp
    have HFI : Hid (fits r ∧ r = sixL x0.n x1.s x2.s x3.n x4.s x5.n) := by rw [hx]; exact kinds_six.1 hkp
    obtain ⟨b, o, rfl, d0, d1, d2, d3, d4, d5⟩ := row6 hr1
    have hb : b < w.heap.size := by
      have hr0 := HR.out
      rw [h6, hx] at hr0
      obtain ⟨b2, o2, e2, c0, _⟩ := row6 hr0
      cases e2
      exact World.block_lt_of_cell? w _ c0
    have HYES : Hid (∀ st, stT st = x4.s → ¬ (stT st).size = 0 → SixO stT r (.tuple #[hh x0.n x1.s x2.s x3.n st x5.n, .int .i64 0])) := fun st e ne => .inl ⟨_, _, _, _, st, _, ⟨⟨HFI.out.1, by rw [sixR_is ne, e]; exact HFI.out.2⟩, ne⟩, rfl⟩
    have HEX : Hid ((∃ id sku loc qty st due, (fits r ∧ r = sixR stT id sku loc qty st due) ∧ ¬ (stT st).size = 0) → ∃ st, stT st = x4.s ∧ ¬ (stT st).size = 0) := fun ⟨id, sku, loc, qty, st, due, ⟨hf, e⟩, ne⟩ => ⟨st, by rw [sixR_is ne, hx] at e; exact (six_self e).2.2.2.2.1, ne⟩
    clear hr1 hkp h6 hx
    obtain ⟨x0n, hx0⟩ : ∃ y, x0.n = y := ⟨_, rfl⟩
    clear hx0
    have HNX : Hid (∀ w' w'' : World, ((Below w.heap.size w w' ∧ CellsF w' w.heap.size [.int .i64 0, .string ⟨#[]⟩, .string ⟨#[]⟩, .int .i64 0, .int .i64 0, .int .i64 0]) ∧ w'.cell? ⟨b, o + 1, none⟩ = some (.int .i64 x0.n) ∧ w'.cell? ⟨b, o + 5, none⟩ = some (.string x1.s) ∧ w'.cell? ⟨b, o + 8, none⟩ = some (.string x2.s) ∧ w'.cell? ⟨b, o + 10, none⟩ = some (.int .i64 x3.n) ∧ w'.cell? ⟨b, o + 14, none⟩ = some (.string x4.s) ∧ w'.cell? ⟨b, o + 16, none⟩ = some (.int .i64 x5.n)) → Below w'.heap.size w' w'' → ((Below w.heap.size w w'' ∧ CellsF w'' w.heap.size [.int .i64 0, .string ⟨#[]⟩, .string ⟨#[]⟩, .int .i64 0, .int .i64 0, .int .i64 0]) ∧ w''.cell? ⟨b, o + 1, none⟩ = some (.int .i64 x0.n) ∧ w''.cell? ⟨b, o + 5, none⟩ = some (.string x1.s) ∧ w''.cell? ⟨b, o + 8, none⟩ = some (.string x2.s) ∧ w''.cell? ⟨b, o + 10, none⟩ = some (.int .i64 x3.n) ∧ w''.cell? ⟨b, o + 14, none⟩ = some (.string x4.s) ∧ w''.cell? ⟨b, o + 16, none⟩ = some (.int .i64 x5.n))) := fun w' w'' h q => ⟨⟨Below.next h.1.1 q, h.1.2.next q⟩, (q.cell (p := ⟨b, o + 1, none⟩) (World.block_lt_of_cell? w' _ (h.2.1))).trans (h.2.1), (q.cell (p := ⟨b, o + 5, none⟩) (World.block_lt_of_cell? w' _ (h.2.2.1))).trans (h.2.2.1), (q.cell (p := ⟨b, o + 8, none⟩) (World.block_lt_of_cell? w' _ (h.2.2.2.1))).trans (h.2.2.2.1), (q.cell (p := ⟨b, o + 10, none⟩) (World.block_lt_of_cell? w' _ (h.2.2.2.2.1))).trans (h.2.2.2.2.1), (q.cell (p := ⟨b, o + 14, none⟩) (World.block_lt_of_cell? w' _ (h.2.2.2.2.2.1))).trans (h.2.2.2.2.2.1), (q.cell (p := ⟨b, o + 16, none⟩) (World.block_lt_of_cell? w' _ (h.2.2.2.2.2.2))).trans (h.2.2.2.2.2.2)⟩
    have HSD : Hid (∀ w', ((Below w.heap.size w w' ∧ CellsF w' w.heap.size [.int .i64 0, .string ⟨#[]⟩, .string ⟨#[]⟩, .int .i64 0, .int .i64 0, .int .i64 0]) ∧ w'.cell? ⟨b, o + 1, none⟩ = some (.int .i64 x0.n) ∧ w'.cell? ⟨b, o + 5, none⟩ = some (.string x1.s) ∧ w'.cell? ⟨b, o + 8, none⟩ = some (.string x2.s) ∧ w'.cell? ⟨b, o + 10, none⟩ = some (.int .i64 x3.n) ∧ w'.cell? ⟨b, o + 14, none⟩ = some (.string x4.s) ∧ w'.cell? ⟨b, o + 16, none⟩ = some (.int .i64 x5.n)) → ((Below w.heap.size w w'.drew ∧ CellsF w'.drew w.heap.size [.int .i64 0, .string ⟨#[]⟩, .string ⟨#[]⟩, .int .i64 0, .int .i64 0, .int .i64 0]) ∧ w'.drew.cell? ⟨b, o + 1, none⟩ = some (.int .i64 x0.n) ∧ w'.drew.cell? ⟨b, o + 5, none⟩ = some (.string x1.s) ∧ w'.drew.cell? ⟨b, o + 8, none⟩ = some (.string x2.s) ∧ w'.drew.cell? ⟨b, o + 10, none⟩ = some (.int .i64 x3.n) ∧ w'.drew.cell? ⟨b, o + 14, none⟩ = some (.string x4.s) ∧ w'.drew.cell? ⟨b, o + 16, none⟩ = some (.int .i64 x5.n))) := fun w' h => HNX.out w' w'.drew h (Below.refl _ _).drew
    have HSS : Hid (∀ (w' : World) (v0 v1 v2 v3 v4 v5 : Value), (w'.cell? ⟨b, o + 1, none⟩ = some (.int .i64 x0.n) ∧ w'.cell? ⟨b, o + 5, none⟩ = some (.string x1.s) ∧ w'.cell? ⟨b, o + 8, none⟩ = some (.string x2.s) ∧ w'.cell? ⟨b, o + 10, none⟩ = some (.int .i64 x3.n) ∧ w'.cell? ⟨b, o + 14, none⟩ = some (.string x4.s) ∧ w'.cell? ⟨b, o + 16, none⟩ = some (.int .i64 x5.n)) → (((((((w'.setCell ⟨w.heap.size, 0, none⟩ v0).setCell ⟨w.heap.size, 1, none⟩ v1).setCell ⟨w.heap.size, 2, none⟩ v2).setCell ⟨w.heap.size, 3, none⟩ v3).setCell ⟨w.heap.size, 4, none⟩ v4).setCell ⟨w.heap.size, 5, none⟩ v5).drew.cell? ⟨b, o + 1, none⟩ = some (.int .i64 x0.n) ∧ ((((((w'.setCell ⟨w.heap.size, 0, none⟩ v0).setCell ⟨w.heap.size, 1, none⟩ v1).setCell ⟨w.heap.size, 2, none⟩ v2).setCell ⟨w.heap.size, 3, none⟩ v3).setCell ⟨w.heap.size, 4, none⟩ v4).setCell ⟨w.heap.size, 5, none⟩ v5).drew.cell? ⟨b, o + 5, none⟩ = some (.string x1.s) ∧ ((((((w'.setCell ⟨w.heap.size, 0, none⟩ v0).setCell ⟨w.heap.size, 1, none⟩ v1).setCell ⟨w.heap.size, 2, none⟩ v2).setCell ⟨w.heap.size, 3, none⟩ v3).setCell ⟨w.heap.size, 4, none⟩ v4).setCell ⟨w.heap.size, 5, none⟩ v5).drew.cell? ⟨b, o + 8, none⟩ = some (.string x2.s) ∧ ((((((w'.setCell ⟨w.heap.size, 0, none⟩ v0).setCell ⟨w.heap.size, 1, none⟩ v1).setCell ⟨w.heap.size, 2, none⟩ v2).setCell ⟨w.heap.size, 3, none⟩ v3).setCell ⟨w.heap.size, 4, none⟩ v4).setCell ⟨w.heap.size, 5, none⟩ v5).drew.cell? ⟨b, o + 10, none⟩ = some (.int .i64 x3.n) ∧ ((((((w'.setCell ⟨w.heap.size, 0, none⟩ v0).setCell ⟨w.heap.size, 1, none⟩ v1).setCell ⟨w.heap.size, 2, none⟩ v2).setCell ⟨w.heap.size, 3, none⟩ v3).setCell ⟨w.heap.size, 4, none⟩ v4).setCell ⟨w.heap.size, 5, none⟩ v5).drew.cell? ⟨b, o + 14, none⟩ = some (.string x4.s) ∧ ((((((w'.setCell ⟨w.heap.size, 0, none⟩ v0).setCell ⟨w.heap.size, 1, none⟩ v1).setCell ⟨w.heap.size, 2, none⟩ v2).setCell ⟨w.heap.size, 3, none⟩ v3).setCell ⟨w.heap.size, 4, none⟩ v4).setCell ⟨w.heap.size, 5, none⟩ v5).drew.cell? ⟨b, o + 16, none⟩ = some (.int .i64 x5.n))) := fun w' v0 v1 v2 v3 v4 v5 h => ⟨(cells_far_drew (by omega)).trans (h.1), (cells_far_drew (by omega)).trans (h.2.1), (cells_far_drew (by omega)).trans (h.2.2.1), (cells_far_drew (by omega)).trans (h.2.2.2.1), (cells_far_drew (by omega)).trans (h.2.2.2.2.1), (cells_far_drew (by omega)).trans (h.2.2.2.2.2)⟩
    have HS1 : Hid ((Below w.heap.size w w1 ∧ CellsF w1 w.heap.size [.int .i64 0, .string ⟨#[]⟩, .string ⟨#[]⟩, .int .i64 0, .int .i64 0, .int .i64 0]) ∧ w1.cell? ⟨b, o + 1, none⟩ = some (.int .i64 x0.n) ∧ w1.cell? ⟨b, o + 5, none⟩ = some (.string x1.s) ∧ w1.cell? ⟨b, o + 8, none⟩ = some (.string x2.s) ∧ w1.cell? ⟨b, o + 10, none⟩ = some (.int .i64 x3.n) ∧ w1.cell? ⟨b, o + 14, none⟩ = some (.string x4.s) ∧ w1.cell? ⟨b, o + 16, none⟩ = some (.int .i64 x5.n)) := ⟨⟨HB1.out, HZ1.out⟩, d0, d1, d2, d3, d4, d5⟩
    go_wp2_with fail
    clear d0 d1 d2 d3 d4 d5
    go_loopw [4] (fun i wr => ∃ j : Nat, 0 ≤ j ∧ j ≤ 3 ∧ i = .int .i64 j ∧ Hid (((Below w.heap.size w wr ∧ CellsF wr w.heap.size [.int .i64 0, .string ⟨#[]⟩, .string ⟨#[]⟩, .int .i64 0, .int .i64 0, .int .i64 0]) ∧ wr.cell? ⟨b, o + 1, none⟩ = some (.int .i64 x0.n) ∧ wr.cell? ⟨b, o + 5, none⟩ = some (.string x1.s) ∧ wr.cell? ⟨b, o + 8, none⟩ = some (.string x2.s) ∧ wr.cell? ⟨b, o + 10, none⟩ = some (.int .i64 x3.n) ∧ wr.cell? ⟨b, o + 14, none⟩ = some (.string x4.s) ∧ wr.cell? ⟨b, o + 16, none⟩ = some (.int .i64 x5.n)) ∧ ∀ m : Nat, 0 ≤ m → m < j → ¬ stT m = x4.s))
      (fun i _ => 3 - (intOf i).toNat)
    case atStart => exact ⟨0, by omega, by omega, rfl, HS1.out, fun m h1 h2 => by omega⟩
    case round =>
      obtain ⟨j, hj1, hj2, rfl, HI⟩ := hrel
      have hS0 := HI.out.1
      have hBr : Below w.heap.size w wr := hS0.1.1
      by_cases hlt : j ≤ 2
      · have hlti : (j : Int) ≤ 2 := by omega
        have HC : Hid (∀ w', ((Below w.heap.size w w' ∧ CellsF w' w.heap.size [.int .i64 0, .string ⟨#[]⟩, .string ⟨#[]⟩, .int .i64 0, .int .i64 0, .int .i64 0]) ∧ w'.cell? ⟨b, o + 1, none⟩ = some (.int .i64 x0.n) ∧ w'.cell? ⟨b, o + 5, none⟩ = some (.string x1.s) ∧ w'.cell? ⟨b, o + 8, none⟩ = some (.string x2.s) ∧ w'.cell? ⟨b, o + 10, none⟩ = some (.int .i64 x3.n) ∧ w'.cell? ⟨b, o + 14, none⟩ = some (.string x4.s) ∧ w'.cell? ⟨b, o + 16, none⟩ = some (.int .i64 x5.n)) → Calls Try.prog 45 #[.int .i64 j] w' fun e w'' => e = .returned (.string (stT j)) ∧ ((Below w.heap.size w w'' ∧ CellsF w'' w.heap.size [.int .i64 0, .string ⟨#[]⟩, .string ⟨#[]⟩, .int .i64 0, .int .i64 0, .int .i64 0]) ∧ w''.cell? ⟨b, o + 1, none⟩ = some (.int .i64 x0.n) ∧ w''.cell? ⟨b, o + 5, none⟩ = some (.string x1.s) ∧ w''.cell? ⟨b, o + 8, none⟩ = some (.string x2.s) ∧ w''.cell? ⟨b, o + 10, none⟩ = some (.int .i64 x3.n) ∧ w''.cell? ⟨b, o + 14, none⟩ = some (.string x4.s) ∧ w''.cell? ⟨b, o + 16, none⟩ = some (.int .i64 x5.n))) := fun w' h => (refState_is j w').mono (by
          rintro e w'' ⟨rfl, rfl⟩
          exact ⟨rfl, h⟩)
        have HMT : Hid (stT j = x4.s → SixO stT r (.tuple #[hh x0.n x1.s x2.s x3.n j x5.n, .int .i64 0])) := fun e => HYES.out j e (st_some j (by omega))
        have HNM : Hid (¬ stT j = x4.s → ∀ m : Nat, 0 ≤ m → m < j + 1 → ¬ stT m = x4.s) := fun e m h1 h2 => by
          by_cases hmj : m = j
          · subst hmj; exact e
          · exact HI.out.2 m h1 (by omega)
        obtain ⟨tx, htx⟩ : ∃ tx, stT j = tx := ⟨_, rfl⟩
        rw [htx] at HC HMT HNM
        clear htx
        by_cases hm : tx = x4.s
        · have HMT2 : Hid _ := HMT.out hm
          subst hm
          clear HMT HNM
          go_wp2_with fail
          go_region_held (fun (w' : World) => ((Below w.heap.size w w' ∧ CellsF w' w.heap.size [.int .i64 0, .string ⟨#[]⟩, .string ⟨#[]⟩, .int .i64 0, .int .i64 0, .int .i64 0]) ∧ w'.cell? ⟨b, o + 1, none⟩ = some (.int .i64 x0.n) ∧ w'.cell? ⟨b, o + 5, none⟩ = some (.string x1.s) ∧ w'.cell? ⟨b, o + 8, none⟩ = some (.string x2.s) ∧ w'.cell? ⟨b, o + 10, none⟩ = some (.int .i64 x3.n) ∧ w'.cell? ⟨b, o + 14, none⟩ = some (.string x4.s) ∧ w'.cell? ⟨b, o + 16, none⟩ = some (.int .i64 x5.n))) (first | (with_reducible assumption) | (with_reducible exact HSD.out _ (by with_reducible assumption)))
            (((with_reducible refine Calls.mono (HC.out _ (by with_reducible assumption)) ?_); rintro e w3 ⟨rfl, hS3⟩))
          have hS4 : ((Below w.heap.size w w3 ∧ CellsF w3 w.heap.size [.int .i64 0, .string ⟨#[]⟩, .string ⟨#[]⟩, .int .i64 0, .int .i64 0, .int .i64 0]) ∧ w3.cell? ⟨b, o + 1, none⟩ = some (.int .i64 x0.n) ∧ w3.cell? ⟨b, o + 5, none⟩ = some (.string x1.s) ∧ w3.cell? ⟨b, o + 8, none⟩ = some (.string x2.s) ∧ w3.cell? ⟨b, o + 10, none⟩ = some (.int .i64 x3.n) ∧ w3.cell? ⟨b, o + 14, none⟩ = some (.string x4.s) ∧ w3.cell? ⟨b, o + 16, none⟩ = some (.int .i64 x5.n)) := by with_reducible assumption
          have HS3 : Hid ((Below w.heap.size w w3 ∧ CellsF w3 w.heap.size [.int .i64 0, .string ⟨#[]⟩, .string ⟨#[]⟩, .int .i64 0, .int .i64 0, .int .i64 0]) ∧ w3.cell? ⟨b, o + 1, none⟩ = some (.int .i64 x0.n) ∧ w3.cell? ⟨b, o + 5, none⟩ = some (.string x1.s) ∧ w3.cell? ⟨b, o + 8, none⟩ = some (.string x2.s) ∧ w3.cell? ⟨b, o + 10, none⟩ = some (.int .i64 x3.n) ∧ w3.cell? ⟨b, o + 14, none⟩ = some (.string x4.s) ∧ w3.cell? ⟨b, o + 16, none⟩ = some (.int .i64 x5.n)) := hS4
          clear hS4
          obtain ⟨⟨_, z⟩, d0, d1, d2, d3, d4, d5⟩ := HS3.out
          clear hS0 hS3
          have HZ3 : Hid (CellsF w3 w.heap.size [.int .i64 0, .string ⟨#[]⟩, .string ⟨#[]⟩, .int .i64 0, .int .i64 0, .int .i64 0]) := z
          have HB3 : Hid (Below w.heap.size w w3) := HS3.out.1.1
          have z0 : w3.cell? ⟨w.heap.size, 0, none⟩ = some (.int .i64 0) := HZ3.out.cs 0 _ rfl
          have z1 : w3.cell? ⟨w.heap.size, 1, none⟩ = some (.string ⟨#[]⟩) := HZ3.out.cs 1 _ rfl
          have z2 : w3.cell? ⟨w.heap.size, 2, none⟩ = some (.string ⟨#[]⟩) := HZ3.out.cs 2 _ rfl
          have z3 : w3.cell? ⟨w.heap.size, 3, none⟩ = some (.int .i64 0) := HZ3.out.cs 3 _ rfl
          have z4 : w3.cell? ⟨w.heap.size, 4, none⟩ = some (.int .i64 0) := HZ3.out.cs 4 _ rfl
          have z5 : w3.cell? ⟨w.heap.size, 5, none⟩ = some (.int .i64 0) := HZ3.out.cs 5 _ rfl
          have f0 := HZ3.out.fz 0
          have f1 := HZ3.out.fz 1
          have f2 := HZ3.out.fz 2
          have f3 := HZ3.out.fz 3
          have f4 := HZ3.out.fz 4
          have f5 := HZ3.out.fz 5
          clear z
          have hS1 : w3.cell? ⟨b, o + 1, none⟩ = some (.int .i64 x0.n) ∧ w3.cell? ⟨b, o + 5, none⟩ = some (.string x1.s) ∧ w3.cell? ⟨b, o + 8, none⟩ = some (.string x2.s) ∧ w3.cell? ⟨b, o + 10, none⟩ = some (.int .i64 x3.n) ∧ w3.cell? ⟨b, o + 14, none⟩ = some (.string x4.s) ∧ w3.cell? ⟨b, o + 16, none⟩ = some (.int .i64 x5.n) := ⟨d0, d1, d2, d3, d4, d5⟩
          have hS1d : w3.drew.cell? ⟨b, o + 1, none⟩ = some (.int .i64 x0.n) ∧ w3.drew.cell? ⟨b, o + 5, none⟩ = some (.string x1.s) ∧ w3.drew.cell? ⟨b, o + 8, none⟩ = some (.string x2.s) ∧ w3.drew.cell? ⟨b, o + 10, none⟩ = some (.int .i64 x3.n) ∧ w3.drew.cell? ⟨b, o + 14, none⟩ = some (.string x4.s) ∧ w3.drew.cell? ⟨b, o + 16, none⟩ = some (.int .i64 x5.n) := ⟨d0, d1, d2, d3, d4, d5⟩
          go_wp2_with fail
          go_region_held (fun (w' : World) => (w'.cell? ⟨b, o + 1, none⟩ = some (.int .i64 x0.n) ∧ w'.cell? ⟨b, o + 5, none⟩ = some (.string x1.s) ∧ w'.cell? ⟨b, o + 8, none⟩ = some (.string x2.s) ∧ w'.cell? ⟨b, o + 10, none⟩ = some (.int .i64 x3.n) ∧ w'.cell? ⟨b, o + 14, none⟩ = some (.string x4.s) ∧ w'.cell? ⟨b, o + 16, none⟩ = some (.int .i64 x5.n))) (first | (with_reducible assumption) | (with_reducible exact HSS.out _ _ _ _ _ _ _ (by with_reducible assumption))) (fail)
          go_wp2_with fail
          try simp only [Exit.inBlock, Exit.then]
          refine bodyPost_ret (end_cell_tmp rfl rfl (loadHold _ ((HZ3.out.six rfl _ _ _ _ _ _).next (Below.refl _ _).drew) rfl)) rfl ?_
          exact ⟨⟨_, rfl, HMT2.out⟩, (below_six HB3.out _ (Nat.le_refl _) _ _ _ _ _ _).drew⟩
        · have HNM2 : Hid _ := HNM.out hm
          have hm1 : ¬ tx.toList = x4.s.toList := fun e => hm (byte_inj e)
          have hm2 : (tx.toList == x4.s.toList) = false := by simpa using hm1
          clear HMT HNM
          go_wp2_with fail
          go_region_held (fun (w' : World) => ((Below w.heap.size w w' ∧ CellsF w' w.heap.size [.int .i64 0, .string ⟨#[]⟩, .string ⟨#[]⟩, .int .i64 0, .int .i64 0, .int .i64 0]) ∧ w'.cell? ⟨b, o + 1, none⟩ = some (.int .i64 x0.n) ∧ w'.cell? ⟨b, o + 5, none⟩ = some (.string x1.s) ∧ w'.cell? ⟨b, o + 8, none⟩ = some (.string x2.s) ∧ w'.cell? ⟨b, o + 10, none⟩ = some (.int .i64 x3.n) ∧ w'.cell? ⟨b, o + 14, none⟩ = some (.string x4.s) ∧ w'.cell? ⟨b, o + 16, none⟩ = some (.int .i64 x5.n))) (first | (with_reducible assumption) | (with_reducible exact HSD.out _ (by with_reducible assumption)))
            (((with_reducible refine Calls.mono (HC.out _ (by with_reducible assumption)) ?_); rintro e w3 ⟨rfl, hS3⟩))
          have hS4 : ((Below w.heap.size w w3 ∧ CellsF w3 w.heap.size [.int .i64 0, .string ⟨#[]⟩, .string ⟨#[]⟩, .int .i64 0, .int .i64 0, .int .i64 0]) ∧ w3.cell? ⟨b, o + 1, none⟩ = some (.int .i64 x0.n) ∧ w3.cell? ⟨b, o + 5, none⟩ = some (.string x1.s) ∧ w3.cell? ⟨b, o + 8, none⟩ = some (.string x2.s) ∧ w3.cell? ⟨b, o + 10, none⟩ = some (.int .i64 x3.n) ∧ w3.cell? ⟨b, o + 14, none⟩ = some (.string x4.s) ∧ w3.cell? ⟨b, o + 16, none⟩ = some (.int .i64 x5.n)) := by with_reducible assumption
          have HS3 : Hid ((Below w.heap.size w w3 ∧ CellsF w3 w.heap.size [.int .i64 0, .string ⟨#[]⟩, .string ⟨#[]⟩, .int .i64 0, .int .i64 0, .int .i64 0]) ∧ w3.cell? ⟨b, o + 1, none⟩ = some (.int .i64 x0.n) ∧ w3.cell? ⟨b, o + 5, none⟩ = some (.string x1.s) ∧ w3.cell? ⟨b, o + 8, none⟩ = some (.string x2.s) ∧ w3.cell? ⟨b, o + 10, none⟩ = some (.int .i64 x3.n) ∧ w3.cell? ⟨b, o + 14, none⟩ = some (.string x4.s) ∧ w3.cell? ⟨b, o + 16, none⟩ = some (.int .i64 x5.n)) := hS4
          clear hS4
          clear hS0 hS3
          go_wp2_with fail
          go_roundw
          case rel => exact ⟨j + 1, by omega, by omega, by go_num, HS3.out, HNM2.out⟩
          case measure => simp [intOf]; omega
      · have hlti : ¬ (j : Int) ≤ 2 := by omega
        have HNE : Hid (¬ ∃ id sku loc qty st due, (fits r ∧ r = sixR stT id sku loc qty st due) ∧ ¬ (stT st).size = 0) := fun q => by
          obtain ⟨st, e, ne⟩ := HEX.out q
          have hst := st_vals st ne
          refine HI.out.2 st.toNat (by omega) (by omega) ?_
          rw [Int.toNat_of_nonneg (by omega)]
          exact e
        have HZ3 : Hid (CellsF wr w.heap.size [.int .i64 0, .string ⟨#[]⟩, .string ⟨#[]⟩, .int .i64 0, .int .i64 0, .int .i64 0]) := hS0.1.2
        have HB3 : Hid (Below w.heap.size w wr) := hBr
        have z0 : wr.cell? ⟨w.heap.size, 0, none⟩ = some (.int .i64 0) := HZ3.out.cs 0 _ rfl
        have z1 : wr.cell? ⟨w.heap.size, 1, none⟩ = some (.string ⟨#[]⟩) := HZ3.out.cs 1 _ rfl
        have z2 : wr.cell? ⟨w.heap.size, 2, none⟩ = some (.string ⟨#[]⟩) := HZ3.out.cs 2 _ rfl
        have z3 : wr.cell? ⟨w.heap.size, 3, none⟩ = some (.int .i64 0) := HZ3.out.cs 3 _ rfl
        have z4 : wr.cell? ⟨w.heap.size, 4, none⟩ = some (.int .i64 0) := HZ3.out.cs 4 _ rfl
        have z5 : wr.cell? ⟨w.heap.size, 5, none⟩ = some (.int .i64 0) := HZ3.out.cs 5 _ rfl
        have f0 := HZ3.out.fz 0
        have f1 := HZ3.out.fz 1
        have f2 := HZ3.out.fz 2
        have f3 := HZ3.out.fz 3
        have f4 := HZ3.out.fz 4
        have f5 := HZ3.out.fz 5
        clear hS0
        go_wp2_with fail
        try simp only [Exit.inBlock, Exit.then]
        refine bodyPost_ret (end_cell_tmp rfl rfl (loadHold _ (HZ3.out.six rfl _ _ _ _ _ _) rfl)) rfl ?_
        exact ⟨⟨_, rfl, HNO.out HNE.out _ rfl⟩, below_six HB3.out _ (Nat.le_refl _) _ _ _ _ _ _⟩
end Go.Proofs.Ytaoboleifdgonaa
