/- entry: rows of stocks, holds and movements. -/
import Derived.Test.YtaoboleifdgonaaERows
namespace Go.Proofs.Ytaoboleifdgonaa
open Go.ChangeShapes Go.WideShapes Go.RowKit
set_option linter.unusedVariables false
set_option maxRecDepth 100000

set_option maxHeartbeats 4000000 in
theorem holdRow_is (id : Int) (sku loc : ByteArray) (qty st due : Int) (w : World) : Calls Try.prog 24 #[hh id sku loc qty st due] w fun e w' => RowIs (sixR stT id sku loc qty st due) w e w' ∧ Below w.heap.size w w' := by
  obtain ⟨W, hW⟩ : ∃ W, w.alloc (.cells #[.int .i64 id, .string sku, .string loc, .int .i64 qty, .int .i64 st, .int .i64 due] 44) = W := ⟨_, rfl⟩
  have hB : Below w.heap.size w W := hW ▸ below1 _ _
  have hO := CellsF.new w ([.int .i64 id, .string sku, .string loc, .int .i64 qty, .int .i64 st, .int .i64 due]) 44 (by simp)
  rw [show (w.alloc (.cells ([.int .i64 id, .string sku, .string loc, .int .i64 qty, .int .i64 st, .int .i64 due] : List Value).toArray 44)) = W from hW] at hO
  obtain ⟨tx, htx⟩ : ∃ tx, stT st = tx := ⟨_, rfl⟩
  obtain ⟨ok, on, os, hdue⟩ : ∃ ok on os, (orNull due).val = vv ok on os := ⟨_, _, _, rfl⟩
  have HOR : Hid (orNull due = ⟨ok, on, os⟩) := by
    have := hdue
    generalize orNull due = x at this
    obtain ⟨a, b, c⟩ := x
    simp only [V.val, vv, Value.agg.injEq, Array.mk.injEq, List.cons.injEq, Value.int.injEq, Value.string.injEq, true_and, and_true] at this
    obtain ⟨rfl, rfl, rfl⟩ := this
    exact rfl
  have HTX : Hid (stT st = tx) := htx
  have HN : Hid (∀ w' w'' : World, (Below w.heap.size w w' ∧ w'.cell? ⟨w.heap.size, 0, none⟩ = some (.int .i64 id) ∧ w'.cell? ⟨w.heap.size, 1, none⟩ = some (.string sku) ∧ w'.cell? ⟨w.heap.size, 2, none⟩ = some (.string loc) ∧ w'.cell? ⟨w.heap.size, 3, none⟩ = some (.int .i64 qty) ∧ w'.cell? ⟨w.heap.size, 4, none⟩ = some (.int .i64 st) ∧ w'.cell? ⟨w.heap.size, 5, none⟩ = some (.int .i64 due)) → Below w'.heap.size w' w'' → (Below w.heap.size w w'' ∧ w''.cell? ⟨w.heap.size, 0, none⟩ = some (.int .i64 id) ∧ w''.cell? ⟨w.heap.size, 1, none⟩ = some (.string sku) ∧ w''.cell? ⟨w.heap.size, 2, none⟩ = some (.string loc) ∧ w''.cell? ⟨w.heap.size, 3, none⟩ = some (.int .i64 qty) ∧ w''.cell? ⟨w.heap.size, 4, none⟩ = some (.int .i64 st) ∧ w''.cell? ⟨w.heap.size, 5, none⟩ = some (.int .i64 due))) := fun w' w'' h q => by
    have b0 := (q.cell (p := ⟨w.heap.size, 0, none⟩) (World.block_lt_of_cell? w' _ (h.2.1))).trans (h.2.1)
    have b1 := (q.cell (p := ⟨w.heap.size, 1, none⟩) (World.block_lt_of_cell? w' _ (h.2.2.1))).trans (h.2.2.1)
    have b2 := (q.cell (p := ⟨w.heap.size, 2, none⟩) (World.block_lt_of_cell? w' _ (h.2.2.2.1))).trans (h.2.2.2.1)
    have b3 := (q.cell (p := ⟨w.heap.size, 3, none⟩) (World.block_lt_of_cell? w' _ (h.2.2.2.2.1))).trans (h.2.2.2.2.1)
    have b4 := (q.cell (p := ⟨w.heap.size, 4, none⟩) (World.block_lt_of_cell? w' _ (h.2.2.2.2.2.1))).trans (h.2.2.2.2.2.1)
    have b5 := (q.cell (p := ⟨w.heap.size, 5, none⟩) (World.block_lt_of_cell? w' _ (h.2.2.2.2.2.2))).trans (h.2.2.2.2.2.2)
    exact ⟨Below.next h.1 q, b0, b1, b2, b3, b4, b5⟩
  have HS0 : Hid (Below w.heap.size w W ∧ W.cell? ⟨w.heap.size, 0, none⟩ = some (.int .i64 id) ∧ W.cell? ⟨w.heap.size, 1, none⟩ = some (.string sku) ∧ W.cell? ⟨w.heap.size, 2, none⟩ = some (.string loc) ∧ W.cell? ⟨w.heap.size, 3, none⟩ = some (.int .i64 qty) ∧ W.cell? ⟨w.heap.size, 4, none⟩ = some (.int .i64 st) ∧ W.cell? ⟨w.heap.size, 5, none⟩ = some (.int .i64 due)) := ⟨hB, hO.cs 0 _ rfl, hO.cs 1 _ rfl, hO.cs 2 _ rfl, hO.cs 3 _ rfl, hO.cs 4 _ rfl, hO.cs 5 _ rfl⟩
  have HSD : Hid (∀ w', (Below w.heap.size w w' ∧ w'.cell? ⟨w.heap.size, 0, none⟩ = some (.int .i64 id) ∧ w'.cell? ⟨w.heap.size, 1, none⟩ = some (.string sku) ∧ w'.cell? ⟨w.heap.size, 2, none⟩ = some (.string loc) ∧ w'.cell? ⟨w.heap.size, 3, none⟩ = some (.int .i64 qty) ∧ w'.cell? ⟨w.heap.size, 4, none⟩ = some (.int .i64 st) ∧ w'.cell? ⟨w.heap.size, 5, none⟩ = some (.int .i64 due)) → (Below w.heap.size w w'.drew ∧ w'.drew.cell? ⟨w.heap.size, 0, none⟩ = some (.int .i64 id) ∧ w'.drew.cell? ⟨w.heap.size, 1, none⟩ = some (.string sku) ∧ w'.drew.cell? ⟨w.heap.size, 2, none⟩ = some (.string loc) ∧ w'.drew.cell? ⟨w.heap.size, 3, none⟩ = some (.int .i64 qty) ∧ w'.drew.cell? ⟨w.heap.size, 4, none⟩ = some (.int .i64 st) ∧ w'.drew.cell? ⟨w.heap.size, 5, none⟩ = some (.int .i64 due))) := fun w' h => HN.out w' w'.drew h (Below.refl _ _).drew
  have HSA : Hid (∀ (w' : World) (o : Obj), (Below w.heap.size w w' ∧ w'.cell? ⟨w.heap.size, 0, none⟩ = some (.int .i64 id) ∧ w'.cell? ⟨w.heap.size, 1, none⟩ = some (.string sku) ∧ w'.cell? ⟨w.heap.size, 2, none⟩ = some (.string loc) ∧ w'.cell? ⟨w.heap.size, 3, none⟩ = some (.int .i64 qty) ∧ w'.cell? ⟨w.heap.size, 4, none⟩ = some (.int .i64 st) ∧ w'.cell? ⟨w.heap.size, 5, none⟩ = some (.int .i64 due)) → (Below w.heap.size w (w'.alloc o) ∧ (w'.alloc o).cell? ⟨w.heap.size, 0, none⟩ = some (.int .i64 id) ∧ (w'.alloc o).cell? ⟨w.heap.size, 1, none⟩ = some (.string sku) ∧ (w'.alloc o).cell? ⟨w.heap.size, 2, none⟩ = some (.string loc) ∧ (w'.alloc o).cell? ⟨w.heap.size, 3, none⟩ = some (.int .i64 qty) ∧ (w'.alloc o).cell? ⟨w.heap.size, 4, none⟩ = some (.int .i64 st) ∧ (w'.alloc o).cell? ⟨w.heap.size, 5, none⟩ = some (.int .i64 due))) := fun w' o h => HN.out w' (w'.alloc o) h (below1 _ _)
  have HP : Hid (∀ (n : Int) (w' : World), (Below w.heap.size w w' ∧ w'.cell? ⟨w.heap.size, 0, none⟩ = some (.int .i64 id) ∧ w'.cell? ⟨w.heap.size, 1, none⟩ = some (.string sku) ∧ w'.cell? ⟨w.heap.size, 2, none⟩ = some (.string loc) ∧ w'.cell? ⟨w.heap.size, 3, none⟩ = some (.int .i64 qty) ∧ w'.cell? ⟨w.heap.size, 4, none⟩ = some (.int .i64 st) ∧ w'.cell? ⟨w.heap.size, 5, none⟩ = some (.int .i64 due)) → Calls Try.prog 43 #[.int .i64 n] w' fun e w'' => e = .returned (vv 1 n ⟨#[]⟩) ∧ (Below w.heap.size w w'' ∧ w''.cell? ⟨w.heap.size, 0, none⟩ = some (.int .i64 id) ∧ w''.cell? ⟨w.heap.size, 1, none⟩ = some (.string sku) ∧ w''.cell? ⟨w.heap.size, 2, none⟩ = some (.string loc) ∧ w''.cell? ⟨w.heap.size, 3, none⟩ = some (.int .i64 qty) ∧ w''.cell? ⟨w.heap.size, 4, none⟩ = some (.int .i64 st) ∧ w''.cell? ⟨w.heap.size, 5, none⟩ = some (.int .i64 due))) := fun n w' hS => (number_is n w').mono (by
    rintro e w'' ⟨rfl, rfl⟩
    exact ⟨rfl, HN.out _ _ hS (below1 _ _)⟩)
  have HQ : Hid (∀ (n : ByteArray) (w' : World), (Below w.heap.size w w' ∧ w'.cell? ⟨w.heap.size, 0, none⟩ = some (.int .i64 id) ∧ w'.cell? ⟨w.heap.size, 1, none⟩ = some (.string sku) ∧ w'.cell? ⟨w.heap.size, 2, none⟩ = some (.string loc) ∧ w'.cell? ⟨w.heap.size, 3, none⟩ = some (.int .i64 qty) ∧ w'.cell? ⟨w.heap.size, 4, none⟩ = some (.int .i64 st) ∧ w'.cell? ⟨w.heap.size, 5, none⟩ = some (.int .i64 due)) → Calls Try.prog 42 #[.string n] w' fun e w'' => e = .returned (vv 2 0 n) ∧ (Below w.heap.size w w'' ∧ w''.cell? ⟨w.heap.size, 0, none⟩ = some (.int .i64 id) ∧ w''.cell? ⟨w.heap.size, 1, none⟩ = some (.string sku) ∧ w''.cell? ⟨w.heap.size, 2, none⟩ = some (.string loc) ∧ w''.cell? ⟨w.heap.size, 3, none⟩ = some (.int .i64 qty) ∧ w''.cell? ⟨w.heap.size, 4, none⟩ = some (.int .i64 st) ∧ w''.cell? ⟨w.heap.size, 5, none⟩ = some (.int .i64 due))) := fun n w' hS => (text_is n w').mono (by
    rintro e w'' ⟨rfl, rfl⟩
    exact ⟨rfl, HN.out _ _ hS (below1 _ _)⟩)
  have HO : Hid (∀ (w' : World), (Below w.heap.size w w' ∧ w'.cell? ⟨w.heap.size, 0, none⟩ = some (.int .i64 id) ∧ w'.cell? ⟨w.heap.size, 1, none⟩ = some (.string sku) ∧ w'.cell? ⟨w.heap.size, 2, none⟩ = some (.string loc) ∧ w'.cell? ⟨w.heap.size, 3, none⟩ = some (.int .i64 qty) ∧ w'.cell? ⟨w.heap.size, 4, none⟩ = some (.int .i64 st) ∧ w'.cell? ⟨w.heap.size, 5, none⟩ = some (.int .i64 due)) → Calls Try.prog 47 #[.int .i64 due] w' fun e w'' => e = .returned (vv ok on os) ∧ (Below w.heap.size w w'' ∧ w''.cell? ⟨w.heap.size, 0, none⟩ = some (.int .i64 id) ∧ w''.cell? ⟨w.heap.size, 1, none⟩ = some (.string sku) ∧ w''.cell? ⟨w.heap.size, 2, none⟩ = some (.string loc) ∧ w''.cell? ⟨w.heap.size, 3, none⟩ = some (.int .i64 qty) ∧ w''.cell? ⟨w.heap.size, 4, none⟩ = some (.int .i64 st) ∧ w''.cell? ⟨w.heap.size, 5, none⟩ = some (.int .i64 due))) := fun w' hS => (orNull_is due w').mono (by
    rintro e w'' ⟨rfl, q⟩
    exact ⟨by rw [hdue], HN.out _ _ hS q⟩)
  have HST : Hid (∀ (w' : World), (Below w.heap.size w w' ∧ w'.cell? ⟨w.heap.size, 0, none⟩ = some (.int .i64 id) ∧ w'.cell? ⟨w.heap.size, 1, none⟩ = some (.string sku) ∧ w'.cell? ⟨w.heap.size, 2, none⟩ = some (.string loc) ∧ w'.cell? ⟨w.heap.size, 3, none⟩ = some (.int .i64 qty) ∧ w'.cell? ⟨w.heap.size, 4, none⟩ = some (.int .i64 st) ∧ w'.cell? ⟨w.heap.size, 5, none⟩ = some (.int .i64 due)) → Calls Try.prog 46 #[.int .i64 st] w' fun e w'' => e = .returned (.string tx) ∧ (Below w.heap.size w w'' ∧ w''.cell? ⟨w.heap.size, 0, none⟩ = some (.int .i64 id) ∧ w''.cell? ⟨w.heap.size, 1, none⟩ = some (.string sku) ∧ w''.cell? ⟨w.heap.size, 2, none⟩ = some (.string loc) ∧ w''.cell? ⟨w.heap.size, 3, none⟩ = some (.int .i64 qty) ∧ w''.cell? ⟨w.heap.size, 4, none⟩ = some (.int .i64 st) ∧ w''.cell? ⟨w.heap.size, 5, none⟩ = some (.int .i64 due))) := fun w' hS => (stateText_is st w').mono (by
    rintro e w'' ⟨rfl, rfl⟩
    exact ⟨by rw [htx], hS⟩)
  have HRow : Hid _ := fun a w => row_is a 6 6 w
  obtain ⟨zb, z0, z1, z2, z3, z4, z5⟩ := HS0.out
  clear hO hB htx hdue
  by_cases h0 : tx.size = 0
  · have HR : Hid (sixR stT id sku loc qty st due = []) := by show sixR stT id sku loc qty st due = []; unfold sixR; rw [if_pos (by rw [HTX.out]; exact h0)]
    have e0 := empty_of h0
    have HB0 : Hid (Below w.heap.size w W) := zb
    have HST0 : Hid _ := HST.out W ⟨zb, z0, z1, z2, z3, z4, z5⟩
    subst e0
    go_enter Try.func24, Try.ntmps24
    go_wp2_with fail
    try rw [hW]
    clear hW
    refine Calls.mono HST0.out ?_; rintro e w1 ⟨rfl, hS1⟩
    have HB1 : Hid (Below w.heap.size w w1) := hS1.1
    clear hS1
    go_wp2_with fail
    go_ret
    exact ⟨by rw [HR.out]; exact ⟨none, 0, rfl, .inl ⟨_, _, rfl, rfl⟩⟩, HB1.out⟩
  · have HR : Hid (sixR stT id sku loc qty st due = [⟨1, id, ⟨#[]⟩⟩, ⟨2, 0, sku⟩, ⟨2, 0, loc⟩, ⟨1, qty, ⟨#[]⟩⟩, ⟨2, 0, tx⟩, ⟨ok, on, os⟩]) := by show sixR stT id sku loc qty st due = _; unfold sixR; rw [HTX.out, HOR.out, if_neg h0]
    have t0 := not_nil h0
    have t1 : tx.toList.isEmpty = false := by simpa using t0
    have HST0 : Hid _ := HST.out W ⟨zb, z0, z1, z2, z3, z4, z5⟩
    go_enter Try.func24, Try.ntmps24
    go_wp2_with fail
    try rw [hW]
    clear hW zb z0 z1 z2 z3 z4 z5 HS0
    refine Calls.mono HST0.out ?_; rintro e w1 ⟨rfl, hS1⟩
    have HS0 : Hid (Below w.heap.size w w1 ∧ w1.cell? ⟨w.heap.size, 0, none⟩ = some (.int .i64 id) ∧ w1.cell? ⟨w.heap.size, 1, none⟩ = some (.string sku) ∧ w1.cell? ⟨w.heap.size, 2, none⟩ = some (.string loc) ∧ w1.cell? ⟨w.heap.size, 3, none⟩ = some (.int .i64 qty) ∧ w1.cell? ⟨w.heap.size, 4, none⟩ = some (.int .i64 st) ∧ w1.cell? ⟨w.heap.size, 5, none⟩ = some (.int .i64 due)) := hS1
    obtain ⟨zb, z0, z1, z2, z3, z4, z5⟩ := hS1
    go_wp2_with fail
    clear zb z0 z1 z2 z3 z4 z5
    have hS0 := HS0.out
    go_region_held (fun (w' : World) => (Below w.heap.size w w' ∧ w'.cell? ⟨w.heap.size, 0, none⟩ = some (.int .i64 id) ∧ w'.cell? ⟨w.heap.size, 1, none⟩ = some (.string sku) ∧ w'.cell? ⟨w.heap.size, 2, none⟩ = some (.string loc) ∧ w'.cell? ⟨w.heap.size, 3, none⟩ = some (.int .i64 qty) ∧ w'.cell? ⟨w.heap.size, 4, none⟩ = some (.int .i64 st) ∧ w'.cell? ⟨w.heap.size, 5, none⟩ = some (.int .i64 due))) (first | (with_reducible assumption) | (with_reducible exact HSD.out _ (by with_reducible assumption)) | (with_reducible exact HSA.out _ _ (by with_reducible assumption)))
      (first
      | ((with_reducible refine Calls.mono (HP.out _ _ (by with_reducible assumption)) ?_); rintro e w3 ⟨rfl, hS3⟩)
      | ((with_reducible refine Calls.mono (HQ.out _ _ (by with_reducible assumption)) ?_); rintro e w3 ⟨rfl, hS3⟩)
      | ((with_reducible refine Calls.mono (HO.out _ (by with_reducible assumption)) ?_); rintro e w3 ⟨rfl, hS3⟩)
      | ((with_reducible refine Calls.mono (HST.out _ (by with_reducible assumption)) ?_); rintro e w3 ⟨rfl, hS3⟩)
      | ((with_reducible refine Calls.mono (HRow.out _ _) ?_); rintro e w4 ⟨rfl, rfl⟩))
    all_goals (have hB3 : Below w.heap.size w w3 := And.left (by with_reducible assumption))
    all_goals (have HB3 : Hid (Below w.heap.size w w3) := hB3)
    all_goals go_wp2_with fail
    all_goals go_ret
    all_goals exact ⟨by rw [HR.out]; exact ⟨_, _, rfl, row_new w3 _ _ rfl _ rfl _ _ rfl⟩, HB3.out.alloc HB3.out.size _⟩
end Go.Proofs.Ytaoboleifdgonaa
