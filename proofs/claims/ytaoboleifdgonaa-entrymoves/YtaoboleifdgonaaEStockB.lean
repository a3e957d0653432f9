/- The document's RowStock. -/
import Derived.Test.YtaoboleifdgonaaESpec
import Derived.Deep.RegionHeld
import Derived.BigQuiet
namespace Go.Proofs.Ytaoboleifdgonaa
open Go.ChangeShapes Go.WideShapes Go.RowKit
set_option linter.unusedVariables false
set_option maxRecDepth 100000

theorem st_some (j : Nat) (h : j ≤ 2) : ¬ (stT j).size = 0 := by
  have : j = 0 ∨ j = 1 ∨ j = 2 := by omega
  rcases this with rfl | rfl | rfl <;> decide
theorem st_vals (n : Int) (h : ¬ (stT n).size = 0) : 0 ≤ n ∧ n ≤ 2 := by
  by_cases c0 : n = 0
  · omega
  · by_cases c1 : n = 1
    · omega
    · by_cases c2 : n = 2
      · omega
      · exact absurd (by unfold stT; rw [if_neg c0, if_neg c1, if_neg c2]; rfl) h
theorem kd_vals (n : Int) (h : ¬ (kdT n).size = 0) : 1 ≤ n ∧ n ≤ 7 := by
  by_cases c0 : n = 1
  · omega
  · by_cases c1 : n = 3
    · omega
    · by_cases c2 : n = 6
      · omega
      · by_cases c3 : n = 7
        · omega
        · exact absurd (by unfold kdT; rw [if_neg c0, if_neg c1, if_neg c2, if_neg c3]; rfl) h
set_option maxHeartbeats 4000000 in
theorem refRowStock_is (a : Option Addr) (c n : Nat) (r : List V) (hn : r.length = n) (hl : n ≤ 1000) (hs : ∀ x, x ∈ r → x.s.size ≤ 1000) (w : World) (hr : Row w (.slice a r.length c) r) : Calls Try.prog 18 #[.slice a n c] w fun e w' => (∃ v, e = .returned v ∧ StockO r v) ∧ Below w.heap.size w w' := by
  have HN : Hid (r.length = n) := hn
  have HNO : Hid ((¬ ∃ sku loc a b, fits r ∧ r = stockR sku loc a b) → ∀ v, v = (.tuple #[.agg ([.string ⟨#[]⟩, .string ⟨#[]⟩, .int .i64 0, .int .i64 0] : List Value).toArray, .int .i64 50] : Value) → StockO r v) := fun h v e => .inr ⟨h, e⟩
  have HZ : Hid (CellsF (w.alloc (.cells #[.string ⟨#[]⟩, .string ⟨#[]⟩, .int .i64 0, .int .i64 0] 34)) w.heap.size [.string ⟨#[]⟩, .string ⟨#[]⟩, .int .i64 0, .int .i64 0]) := CellsF.new w [.string ⟨#[]⟩, .string ⟨#[]⟩, .int .i64 0, .int .i64 0] 34 (by simp)
  have HKD : Hid _ := kinds_is a c n r hn (by omega) stockLetters (by decide) (fun x q => by have := hs x q; omega) (w.alloc (.cells #[.string ⟨#[]⟩, .string ⟨#[]⟩, .int .i64 0, .int .i64 0] 34)) (hr.next (below1 _ _))
  have HR : Hid (Row w (.slice a r.length c) r) := hr
  clear hr hs hn
  go_enter Try.func18, Try.ntmps18
  go_wp2_with fail
  refine Calls.mono HKD.out ?_; rintro e w1 ⟨⟨kb, rfl, hkb⟩, k1⟩
  have HZ1 : Hid (CellsF w1 w.heap.size [.string ⟨#[]⟩, .string ⟨#[]⟩, .int .i64 0, .int .i64 0]) := HZ.out.next k1
  have HB1 : Hid (Below w.heap.size w w1) := Below.next (below1 _ _) k1
  have HKB : Hid (kb = true ↔ kindsP r stockLetters) := hkb
  clear hkb k1 HKD HZ
  cases kb with
  | false =>
    have HNE : Hid (¬ ∃ sku loc a b, fits r ∧ r = stockR sku loc a b) := fun ⟨sku, loc, u, v, hf, e⟩ => by have h := HKB.out.2 (by subst e; exact kinds_stock.2 ⟨hf, rfl⟩); cases h
    have z0 : w1.cell? ⟨w.heap.size, 0, none⟩ = some (.string ⟨#[]⟩) := HZ1.out.cs 0 _ rfl
    have z1 : w1.cell? ⟨w.heap.size, 1, none⟩ = some (.string ⟨#[]⟩) := HZ1.out.cs 1 _ rfl
    have z2 : w1.cell? ⟨w.heap.size, 2, none⟩ = some (.int .i64 0) := HZ1.out.cs 2 _ rfl
    have z3 : w1.cell? ⟨w.heap.size, 3, none⟩ = some (.int .i64 0) := HZ1.out.cs 3 _ rfl
    have f0 := HZ1.out.fz 0
    have f1 := HZ1.out.fz 1
    have f2 := HZ1.out.fz 2
    have f3 := HZ1.out.fz 3
    go_wp2_with fail
    try simp only [Exit.inBlock, Exit.then]
    refine bodyPost_ret (end_cell_tmp rfl rfl (loadStock _ (HZ1.out.four rfl _ _ _ _) rfl)) rfl ?_
    exact ⟨⟨_, rfl, HNO.out HNE.out _ rfl⟩, below_four HB1.out _ (Nat.le_refl _) _ _ _ _⟩
  | true =>
    have hkp := HKB.out.1 rfl
    have h4 : r.length = 4 := hkp.1
    have hn4 : n = 4 := by rw [← HN.out, h4]
    subst hn4
    obtain ⟨x0, x1, x2, x3, hx⟩ := four_of r h4
    have hr1 := HR.out.next HB1.out
    rw [h4] at hr1
    rw [hx] at hr1 hkp
    have HFI : Hid (fits r ∧ r = stockR x0.s x1.s x2.n x3.n) := by rw [hx]; exact kinds_stock.1 hkp
    obtain ⟨b, o, rfl, d0, d1, d2, d3⟩ := row4 hr1
    have hb : b < w.heap.size := by
      have hr0 := HR.out
      rw [h4, hx] at hr0
      obtain ⟨b2, o2, e2, c0, _⟩ := row4 hr0
      cases e2
      exact World.block_lt_of_cell? w _ c0
    clear hr1 hkp h4 hx
    have z0 : w1.cell? ⟨w.heap.size, 0, none⟩ = some (.string ⟨#[]⟩) := HZ1.out.cs 0 _ rfl
    have z1 : w1.cell? ⟨w.heap.size, 1, none⟩ = some (.string ⟨#[]⟩) := HZ1.out.cs 1 _ rfl
    have z2 : w1.cell? ⟨w.heap.size, 2, none⟩ = some (.int .i64 0) := HZ1.out.cs 2 _ rfl
    have z3 : w1.cell? ⟨w.heap.size, 3, none⟩ = some (.int .i64 0) := HZ1.out.cs 3 _ rfl
    have f0 := HZ1.out.fz 0
    have f1 := HZ1.out.fz 1
    have f2 := HZ1.out.fz 2
    have f3 := HZ1.out.fz 3
    have HSS : Hid (∀ (w' : World) (v0 v1 v2 v3 : Value), (w'.cell? ⟨b, o + 2, none⟩ = some (.string x0.s) ∧ w'.cell? ⟨b, o + 5, none⟩ = some (.string x1.s) ∧ w'.cell? ⟨b, o + 7, none⟩ = some (.int .i64 x2.n) ∧ w'.cell? ⟨b, o + 10, none⟩ = some (.int .i64 x3.n)) → (((((w'.setCell ⟨w.heap.size, 0, none⟩ v0).setCell ⟨w.heap.size, 1, none⟩ v1).setCell ⟨w.heap.size, 2, none⟩ v2).setCell ⟨w.heap.size, 3, none⟩ v3).drew.cell? ⟨b, o + 2, none⟩ = some (.string x0.s) ∧ ((((w'.setCell ⟨w.heap.size, 0, none⟩ v0).setCell ⟨w.heap.size, 1, none⟩ v1).setCell ⟨w.heap.size, 2, none⟩ v2).setCell ⟨w.heap.size, 3, none⟩ v3).drew.cell? ⟨b, o + 5, none⟩ = some (.string x1.s) ∧ ((((w'.setCell ⟨w.heap.size, 0, none⟩ v0).setCell ⟨w.heap.size, 1, none⟩ v1).setCell ⟨w.heap.size, 2, none⟩ v2).setCell ⟨w.heap.size, 3, none⟩ v3).drew.cell? ⟨b, o + 7, none⟩ = some (.int .i64 x2.n) ∧ ((((w'.setCell ⟨w.heap.size, 0, none⟩ v0).setCell ⟨w.heap.size, 1, none⟩ v1).setCell ⟨w.heap.size, 2, none⟩ v2).setCell ⟨w.heap.size, 3, none⟩ v3).drew.cell? ⟨b, o + 10, none⟩ = some (.int .i64 x3.n))) := fun w' v0 v1 v2 v3 h => ⟨(cell_put _ (fun q => by omega)).trans ((cell_put _ (fun q => by omega)).trans ((cell_put _ (fun q => by omega)).trans ((cell_put _ (fun q => by omega)).trans (h.1)))), (cell_put _ (fun q => by omega)).trans ((cell_put _ (fun q => by omega)).trans ((cell_put _ (fun q => by omega)).trans ((cell_put _ (fun q => by omega)).trans (h.2.1)))), (cell_put _ (fun q => by omega)).trans ((cell_put _ (fun q => by omega)).trans ((cell_put _ (fun q => by omega)).trans ((cell_put _ (fun q => by omega)).trans (h.2.2.1)))), (cell_put _ (fun q => by omega)).trans ((cell_put _ (fun q => by omega)).trans ((cell_put _ (fun q => by omega)).trans ((cell_put _ (fun q => by omega)).trans (h.2.2.2))))⟩
    have hS1 : w1.cell? ⟨b, o + 2, none⟩ = some (.string x0.s) ∧ w1.cell? ⟨b, o + 5, none⟩ = some (.string x1.s) ∧ w1.cell? ⟨b, o + 7, none⟩ = some (.int .i64 x2.n) ∧ w1.cell? ⟨b, o + 10, none⟩ = some (.int .i64 x3.n) := ⟨d0, d1, d2, d3⟩
    go_wp2_with fail
    go_region_held (fun (w' : World) => (w'.cell? ⟨b, o + 2, none⟩ = some (.string x0.s) ∧ w'.cell? ⟨b, o + 5, none⟩ = some (.string x1.s) ∧ w'.cell? ⟨b, o + 7, none⟩ = some (.int .i64 x2.n) ∧ w'.cell? ⟨b, o + 10, none⟩ = some (.int .i64 x3.n))) (first | (with_reducible assumption) | exact ⟨d0, d1, d2, d3⟩ | (with_reducible exact HSS.out _ _ _ _ _ (by with_reducible assumption)) | go_keep) (fail)
    go_wp2_with fail
    try simp only [Exit.inBlock, Exit.then]
    refine bodyPost_ret (end_cell_tmp rfl rfl (loadStock _ ((HZ1.out.four rfl _ _ _ _).next (Below.refl _ _).drew) rfl)) rfl ?_
    exact ⟨⟨_, rfl, .inl ⟨_, _, _, _, HFI.out, rfl⟩⟩, (below_four HB1.out _ (Nat.le_refl _) _ _ _ _).drew⟩
end Go.Proofs.Ytaoboleifdgonaa
