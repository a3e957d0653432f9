/- entry: RowStock. -/
import Derived.Test.YtaoboleifdgonaaESpec
import Derived.Deep.RegionHeld
import Derived.BigQuiet
namespace Go.Proofs.Ytaoboleifdgonaa
open Go.ChangeShapes Go.WideShapes Go.RowKit
set_option linter.unusedVariables false
set_option maxRecDepth 100000

set_option maxHeartbeats 4000000 in
theorem rowStock_is (a : Option Addr) (c n : Nat) (r : List V) (hn : r.length = n) (hl : n ≤ 1000) (hs : ∀ x, x ∈ r → x.s.size ≤ 1000) (w : World) (hr : Row w (.slice a r.length c) r) : Calls Try.prog 17 #[.slice a n c] w fun e w' => (∃ v, e = .returned v ∧ StockO r v) ∧ Below w.heap.size w w' := by
  have HN : Hid (r.length = n) := hn
  have HNO : Hid ((¬ ∃ sku loc a b, fits r ∧ r = stockR sku loc a b) → ∀ v, v = (.tuple #[.agg ([.string ⟨#[]⟩, .string ⟨#[]⟩, .int .i64 0, .int .i64 0] : List Value).toArray, .int .i64 50] : Value) → StockO r v) := fun h v e => .inr ⟨h, e⟩
  by_cases h7 : n = 4
  · subst h7
    obtain ⟨x0, x1, x2, x3, hx⟩ := four_of r hn
    have HRX : Hid (r = [x0, x1, x2, x3]) := hx
    rw [hn] at hr
    rw [hx] at hr hs
    have HR : Hid (Row w (.slice a 4 c) [x0, x1, x2, x3]) := hr
    have HSA : Hid (∀ x, x ∈ [x0, x1, x2, x3] → x.s.size ≤ 9223372036854775807) := fun x q => by have := hs x q; omega
    obtain ⟨b, o, rfl, c0, c1, c2, c3⟩ := row4 hr
    have hb : b < w.heap.size := World.block_lt_of_cell? w _ c0
    clear hx hr hs hn
    have HIFF : Hid ((∃ sku loc a b, fits r ∧ r = stockR sku loc a b) ↔ fits [x0, x1, x2, x3] ∧ [x0, x1, x2, x3] = stockR x0.s x1.s x2.n x3.n) := by show (∃ sku loc a b, fits r ∧ r = stockR sku loc a b) ↔ fits [x0, x1, x2, x3] ∧ [x0, x1, x2, x3] = stockR x0.s x1.s x2.n x3.n; rw [HRX.out]; exact ⟨fun ⟨sku, loc, u, v, hf, e⟩ => by obtain ⟨rfl, rfl, rfl, rfl⟩ := stock_self e; exact ⟨hf, e⟩, fun ⟨hf, e⟩ => ⟨_, _, _, _, hf, e⟩⟩
    have HIR : Hid (∀ (q : List V) (a' : Option Addr) (c' m : Nat) (w' : World), q.length = m → m ≤ 1000 → Below w.heap.size w w' → Row w' (.slice a' q.length c') q → Calls Try.prog 38 #[.slice (some ⟨b, o, none⟩) 4 c, .slice a' m c'] w' fun e w'' => Ans (fits [x0, x1, x2, x3] ∧ [x0, x1, x2, x3] = q) e ∧ Below w'.heap.size w' w'') := fun q a' c' m w' hm hm2 hB hq => isRow_is _ _ c c' 4 m _ _ rfl hm (by omega) (by omega) HSA.out w' (HR.out.next hB) hq
    have HRO : Hid _ := fun w => stockRow_is x0.s x1.s x2.n x3.n w
    have HZ : Hid (CellsF (w.alloc (.cells #[.string ⟨#[]⟩, .string ⟨#[]⟩, .int .i64 0, .int .i64 0] 34)) w.heap.size [.string ⟨#[]⟩, .string ⟨#[]⟩, .int .i64 0, .int .i64 0]) := CellsF.new w [.string ⟨#[]⟩, .string ⟨#[]⟩, .int .i64 0, .int .i64 0] 34 (by simp)
    have d0 : (w.alloc (.cells #[.string ⟨#[]⟩, .string ⟨#[]⟩, .int .i64 0, .int .i64 0] 34)).cell? ⟨b, o + 2, none⟩ = some (.string x0.s) := ((below1 w _).cell (p := ⟨b, o + 2, none⟩) hb).trans c0
    have d1 : (w.alloc (.cells #[.string ⟨#[]⟩, .string ⟨#[]⟩, .int .i64 0, .int .i64 0] 34)).cell? ⟨b, o + 5, none⟩ = some (.string x1.s) := ((below1 w _).cell (p := ⟨b, o + 5, none⟩) hb).trans c1
    have d2 : (w.alloc (.cells #[.string ⟨#[]⟩, .string ⟨#[]⟩, .int .i64 0, .int .i64 0] 34)).cell? ⟨b, o + 7, none⟩ = some (.int .i64 x2.n) := ((below1 w _).cell (p := ⟨b, o + 7, none⟩) hb).trans c2
    have d3 : (w.alloc (.cells #[.string ⟨#[]⟩, .string ⟨#[]⟩, .int .i64 0, .int .i64 0] 34)).cell? ⟨b, o + 10, none⟩ = some (.int .i64 x3.n) := ((below1 w _).cell (p := ⟨b, o + 10, none⟩) hb).trans c3
    obtain ⟨W, hW⟩ : ∃ W, w.alloc (.cells #[.string ⟨#[]⟩, .string ⟨#[]⟩, .int .i64 0, .int .i64 0] 34) = W := ⟨_, rfl⟩
    have HBW : Hid (Below w.heap.size w W) := hW ▸ below1 _ _
    rw [hW] at HZ d0 d1 d2 d3
    go_enter Try.func17, Try.ntmps17
    go_wp2_with fail
    try rw [hW]
    clear hW
    go_region_held (fun (w' : World) => (w'.cell? ⟨b, o + 2, none⟩ = some (.string x0.s) ∧ w'.cell? ⟨b, o + 5, none⟩ = some (.string x1.s) ∧ w'.cell? ⟨b, o + 7, none⟩ = some (.int .i64 x2.n) ∧ w'.cell? ⟨b, o + 10, none⟩ = some (.int .i64 x3.n))) (first | (with_reducible assumption) | exact ⟨d0, d1, d2, d3⟩ | go_keep) (fail)
    have HD : Hid (Below W.heap.size W (W.alloc (.cells #[.string x0.s, .string x1.s, .int .i64 x2.n, .int .i64 x3.n] 34)).drew) := (below1 _ _).drew
    have HZD : Hid (CellsF (W.alloc (.cells #[.string x0.s, .string x1.s, .int .i64 x2.n, .int .i64 x3.n] 34)).drew w.heap.size [.string ⟨#[]⟩, .string ⟨#[]⟩, .int .i64 0, .int .i64 0]) := HZ.out.next HD.out
    have HOD : Hid (CellsF (W.alloc (.cells #[.string x0.s, .string x1.s, .int .i64 x2.n, .int .i64 x3.n] 34)).drew W.heap.size [.string x0.s, .string x1.s, .int .i64 x2.n, .int .i64 x3.n]) := (CellsF.new W [.string x0.s, .string x1.s, .int .i64 x2.n, .int .i64 x3.n] 34 (by simp)).next (Below.refl _ _).drew
    have HBD : Hid (Below w.heap.size w (W.alloc (.cells #[.string x0.s, .string x1.s, .int .i64 x2.n, .int .i64 x3.n] 34)).drew) := Below.next HBW.out HD.out
    generalize (W.alloc (.cells #[.string x0.s, .string x1.s, .int .i64 x2.n, .int .i64 x3.n] 34)).drew = wd at *
    obtain ⟨OB, hOB⟩ : ∃ OB, W.heap.size = OB := ⟨_, rfl⟩
    rw [hOB] at HOD ⊢
    clear hOB
    have q0 : wd.cell? ⟨OB, 0, none⟩ = some (.string x0.s) := HOD.out.cs 0 _ rfl
    have q1 : wd.cell? ⟨OB, 1, none⟩ = some (.string x1.s) := HOD.out.cs 1 _ rfl
    have q2 : wd.cell? ⟨OB, 2, none⟩ = some (.int .i64 x2.n) := HOD.out.cs 2 _ rfl
    have q3 : wd.cell? ⟨OB, 3, none⟩ = some (.int .i64 x3.n) := HOD.out.cs 3 _ rfl
    clear d0 c0 d1 c1 d2 c2 d3 c3
    go_wp2_with fail
    refine Calls.mono (HRO.out _) ?_; rintro e w5 ⟨⟨ta, tc, rfl, R5⟩, k5⟩
    have HB5 : Hid (Below w.heap.size w w5) := Below.next HBD.out k5
    have HI5 : Hid _ := HIR.out (stockR x0.s x1.s x2.n x3.n) ta tc _ w5 rfl (by show 4 ≤ 1000; omega) HB5.out R5
    have HZ5 : Hid (CellsF w5 w.heap.size [.string ⟨#[]⟩, .string ⟨#[]⟩, .int .i64 0, .int .i64 0]) := HZD.out.next k5
    have HO5 : Hid (CellsF w5 OB [.string x0.s, .string x1.s, .int .i64 x2.n, .int .i64 x3.n]) := HOD.out.next k5
    clear k5 R5 q0 q1 q2 q3
    obtain ⟨m, hm⟩ : ∃ m, (stockR x0.s x1.s x2.n x3.n).length = m := ⟨_, rfl⟩
    rw [hm] at HI5 ⊢
    clear hm
    go_wp2_with fail
    refine Calls.mono HI5.out ?_; rintro e w6 ⟨⟨kb, rfl, hkb⟩, k6⟩
    have HZ6 : Hid (CellsF w6 w.heap.size [.string ⟨#[]⟩, .string ⟨#[]⟩, .int .i64 0, .int .i64 0]) := HZ5.out.next k6
    have HO6 : Hid (CellsF w6 OB [.string x0.s, .string x1.s, .int .i64 x2.n, .int .i64 x3.n]) := HO5.out.next k6
    have HB6 : Hid (Below w.heap.size w w6) := Below.next HB5.out k6
    have HKB : Hid (kb = true ↔ fits [x0, x1, x2, x3] ∧ [x0, x1, x2, x3] = stockR x0.s x1.s x2.n x3.n) := hkb
    clear hkb k6 HI5
    cases kb with
    | false =>
      have z0 : w6.cell? ⟨w.heap.size, 0, none⟩ = some (.string ⟨#[]⟩) := HZ6.out.cs 0 _ rfl
      have z1 : w6.cell? ⟨w.heap.size, 1, none⟩ = some (.string ⟨#[]⟩) := HZ6.out.cs 1 _ rfl
      have z2 : w6.cell? ⟨w.heap.size, 2, none⟩ = some (.int .i64 0) := HZ6.out.cs 2 _ rfl
      have z3 : w6.cell? ⟨w.heap.size, 3, none⟩ = some (.int .i64 0) := HZ6.out.cs 3 _ rfl
      have f0 := HZ6.out.fz 0
      have f1 := HZ6.out.fz 1
      have f2 := HZ6.out.fz 2
      have f3 := HZ6.out.fz 3
      go_wp2_with fail
      try simp only [Exit.inBlock, Exit.then]
      refine bodyPost_ret (end_cell_tmp rfl rfl (loadStock _ (HZ6.out.four rfl _ _ _ _) rfl)) rfl ?_
      exact ⟨⟨_, rfl, HNO.out (fun q => by have := HKB.out.2 (HIFF.out.1 q); cases this) _ rfl⟩, below_four HB6.out _ (Nat.le_refl _) _ _ _ _⟩
    | true =>
      have z0 : w6.cell? ⟨w.heap.size, 0, none⟩ = some (.string ⟨#[]⟩) := HZ6.out.cs 0 _ rfl
      have z1 : w6.cell? ⟨w.heap.size, 1, none⟩ = some (.string ⟨#[]⟩) := HZ6.out.cs 1 _ rfl
      have z2 : w6.cell? ⟨w.heap.size, 2, none⟩ = some (.int .i64 0) := HZ6.out.cs 2 _ rfl
      have z3 : w6.cell? ⟨w.heap.size, 3, none⟩ = some (.int .i64 0) := HZ6.out.cs 3 _ rfl
      have f0 := HZ6.out.fz 0
      have f1 := HZ6.out.fz 1
      have f2 := HZ6.out.fz 2
      have f3 := HZ6.out.fz 3
      have q0 : w6.cell? ⟨OB, 0, none⟩ = some (.string x0.s) := HO6.out.cs 0 _ rfl
      have q1 : w6.cell? ⟨OB, 1, none⟩ = some (.string x1.s) := HO6.out.cs 1 _ rfl
      have q2 : w6.cell? ⟨OB, 2, none⟩ = some (.int .i64 x2.n) := HO6.out.cs 2 _ rfl
      have q3 : w6.cell? ⟨OB, 3, none⟩ = some (.int .i64 x3.n) := HO6.out.cs 3 _ rfl
      go_wp2_with fail
      try simp only [Exit.inBlock, Exit.then]
      refine bodyPost_ret (end_cell_tmp rfl rfl (loadStock _ (HZ6.out.four rfl _ _ _ _) rfl)) rfl ?_
      exact ⟨⟨_, rfl, .inl ⟨_, _, _, _, by have := HKB.out.1 (by first | rfl | trivial); rw [← HRX.out] at this; exact this, rfl⟩⟩, below_four HB6.out _ (Nat.le_refl _) _ _ _ _⟩
  · have h7i : ((n : Int) == 4) = false := by simp; omega
    have h7j : ¬ (n : Int) = 4 := by omega
    have HZ : Hid (CellsF (w.alloc (.cells #[.string ⟨#[]⟩, .string ⟨#[]⟩, .int .i64 0, .int .i64 0] 34)) w.heap.size [.string ⟨#[]⟩, .string ⟨#[]⟩, .int .i64 0, .int .i64 0]) := CellsF.new w [.string ⟨#[]⟩, .string ⟨#[]⟩, .int .i64 0, .int .i64 0] 34 (by simp)
    clear hr hs hn
    go_enter Try.func17, Try.ntmps17
    go_wp2_with fail
    try simp only [Exit.inBlock, Exit.then]
    refine bodyPost_ret (end_cell_tmp rfl rfl (loadStock [.string ⟨#[]⟩, .string ⟨#[]⟩, .int .i64 0, .int .i64 0] HZ.out rfl)) rfl ?_
    exact ⟨⟨_, rfl, HNO.out (fun ⟨_, _, _, _, _, q⟩ => h7 (by rw [← HN.out, q]; rfl)) _ rfl⟩, below1 _ _⟩
end Go.Proofs.Ytaoboleifdgonaa
