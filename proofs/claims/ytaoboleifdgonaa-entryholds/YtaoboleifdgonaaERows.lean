/- entry: rows of stocks, holds and movements. -/
import Derived.Test.YtaoboleifdgonaaEText
namespace Go.Proofs.Ytaoboleifdgonaa
open Go.ChangeShapes Go.WideShapes Go.RowKit
set_option linter.unusedVariables false
set_option maxRecDepth 100000

/-- A stock, a hold, a movement as values. -/
abbrev ss (sku loc : ByteArray) (onhand held : Int) : Value := .agg #[.string sku, .string loc, .int .i64 onhand, .int .i64 held]
abbrev hh (id : Int) (sku loc : ByteArray) (qty st due : Int) : Value := .agg #[.int .i64 id, .string sku, .string loc, .int .i64 qty, .int .i64 st, .int .i64 due]
/-- Their rows. -/
def stockR (sku loc : ByteArray) (onhand held : Int) : List V := [⟨2, 0, sku⟩, ⟨2, 0, loc⟩, ⟨1, onhand, ⟨#[]⟩⟩, ⟨1, held, ⟨#[]⟩⟩]
def sixR (f : Int → ByteArray) (id : Int) (sku loc : ByteArray) (qty st due : Int) : List V := if (f st).size = 0 then [] else [⟨1, id, ⟨#[]⟩⟩, ⟨2, 0, sku⟩, ⟨2, 0, loc⟩, ⟨1, qty, ⟨#[]⟩⟩, ⟨2, 0, f st⟩, orNull due]
/-- A row that is answered. -/
def RowIs (r : List V) (w : World) (e : Ending) (w' : World) : Prop := ∃ a c, e = .returned (.slice a r.length c) ∧ Row w' (.slice a r.length c) r
set_option maxHeartbeats 4000000 in
theorem stockRow_is (sku loc : ByteArray) (onhand held : Int) (w : World) : Calls Try.prog 20 #[ss sku loc onhand held] w fun e w' => RowIs (stockR sku loc onhand held) w e w' ∧ Below w.heap.size w w' := by
  obtain ⟨W, hW⟩ : ∃ W, w.alloc (.cells #[.string sku, .string loc, .int .i64 onhand, .int .i64 held] 34) = W := ⟨_, rfl⟩
  have hB : Below w.heap.size w W := hW ▸ below1 _ _
  have hO := CellsF.new w [.string sku, .string loc, .int .i64 onhand, .int .i64 held] 34 (by simp)
  rw [show (w.alloc (.cells ([.string sku, .string loc, .int .i64 onhand, .int .i64 held] : List Value).toArray 34)) = W from hW] at hO
  have HN : Hid (∀ w' w'' : World, (Below w.heap.size w w' ∧ w'.cell? ⟨w.heap.size, 0, none⟩ = some (.string sku) ∧ w'.cell? ⟨w.heap.size, 1, none⟩ = some (.string loc) ∧ w'.cell? ⟨w.heap.size, 2, none⟩ = some (.int .i64 onhand) ∧ w'.cell? ⟨w.heap.size, 3, none⟩ = some (.int .i64 held)) → Below w'.heap.size w' w'' → (Below w.heap.size w w'' ∧ w''.cell? ⟨w.heap.size, 0, none⟩ = some (.string sku) ∧ w''.cell? ⟨w.heap.size, 1, none⟩ = some (.string loc) ∧ w''.cell? ⟨w.heap.size, 2, none⟩ = some (.int .i64 onhand) ∧ w''.cell? ⟨w.heap.size, 3, none⟩ = some (.int .i64 held))) := fun w' w'' h q => by
    have b0 := (q.cell (p := ⟨w.heap.size, 0, none⟩) (World.block_lt_of_cell? w' _ (h.2.1))).trans (h.2.1)
    have b1 := (q.cell (p := ⟨w.heap.size, 1, none⟩) (World.block_lt_of_cell? w' _ (h.2.2.1))).trans (h.2.2.1)
    have b2 := (q.cell (p := ⟨w.heap.size, 2, none⟩) (World.block_lt_of_cell? w' _ (h.2.2.2.1))).trans (h.2.2.2.1)
    have b3 := (q.cell (p := ⟨w.heap.size, 3, none⟩) (World.block_lt_of_cell? w' _ (h.2.2.2.2))).trans (h.2.2.2.2)
    exact ⟨Below.next h.1 q, b0, b1, b2, b3⟩
  have HS0 : Hid (Below w.heap.size w W ∧ W.cell? ⟨w.heap.size, 0, none⟩ = some (.string sku) ∧ W.cell? ⟨w.heap.size, 1, none⟩ = some (.string loc) ∧ W.cell? ⟨w.heap.size, 2, none⟩ = some (.int .i64 onhand) ∧ W.cell? ⟨w.heap.size, 3, none⟩ = some (.int .i64 held)) := ⟨hB, hO.cs 0 _ rfl, hO.cs 1 _ rfl, hO.cs 2 _ rfl, hO.cs 3 _ rfl⟩
  have HSD : Hid (∀ w', (Below w.heap.size w w' ∧ w'.cell? ⟨w.heap.size, 0, none⟩ = some (.string sku) ∧ w'.cell? ⟨w.heap.size, 1, none⟩ = some (.string loc) ∧ w'.cell? ⟨w.heap.size, 2, none⟩ = some (.int .i64 onhand) ∧ w'.cell? ⟨w.heap.size, 3, none⟩ = some (.int .i64 held)) → (Below w.heap.size w w'.drew ∧ w'.drew.cell? ⟨w.heap.size, 0, none⟩ = some (.string sku) ∧ w'.drew.cell? ⟨w.heap.size, 1, none⟩ = some (.string loc) ∧ w'.drew.cell? ⟨w.heap.size, 2, none⟩ = some (.int .i64 onhand) ∧ w'.drew.cell? ⟨w.heap.size, 3, none⟩ = some (.int .i64 held))) := fun w' h => HN.out w' w'.drew h (Below.refl _ _).drew
  have HSA : Hid (∀ (w' : World) (o : Obj), (Below w.heap.size w w' ∧ w'.cell? ⟨w.heap.size, 0, none⟩ = some (.string sku) ∧ w'.cell? ⟨w.heap.size, 1, none⟩ = some (.string loc) ∧ w'.cell? ⟨w.heap.size, 2, none⟩ = some (.int .i64 onhand) ∧ w'.cell? ⟨w.heap.size, 3, none⟩ = some (.int .i64 held)) → (Below w.heap.size w (w'.alloc o) ∧ (w'.alloc o).cell? ⟨w.heap.size, 0, none⟩ = some (.string sku) ∧ (w'.alloc o).cell? ⟨w.heap.size, 1, none⟩ = some (.string loc) ∧ (w'.alloc o).cell? ⟨w.heap.size, 2, none⟩ = some (.int .i64 onhand) ∧ (w'.alloc o).cell? ⟨w.heap.size, 3, none⟩ = some (.int .i64 held))) := fun w' o h => HN.out w' (w'.alloc o) h (below1 _ _)
  have HP : Hid (∀ (n : Int) (w' : World), (Below w.heap.size w w' ∧ w'.cell? ⟨w.heap.size, 0, none⟩ = some (.string sku) ∧ w'.cell? ⟨w.heap.size, 1, none⟩ = some (.string loc) ∧ w'.cell? ⟨w.heap.size, 2, none⟩ = some (.int .i64 onhand) ∧ w'.cell? ⟨w.heap.size, 3, none⟩ = some (.int .i64 held)) → Calls Try.prog 43 #[.int .i64 n] w' fun e w'' => e = .returned (vv 1 n ⟨#[]⟩) ∧ (Below w.heap.size w w'' ∧ w''.cell? ⟨w.heap.size, 0, none⟩ = some (.string sku) ∧ w''.cell? ⟨w.heap.size, 1, none⟩ = some (.string loc) ∧ w''.cell? ⟨w.heap.size, 2, none⟩ = some (.int .i64 onhand) ∧ w''.cell? ⟨w.heap.size, 3, none⟩ = some (.int .i64 held))) := fun n w' hS => (number_is n w').mono (by
    rintro e w'' ⟨rfl, rfl⟩
    exact ⟨rfl, HN.out _ _ hS (below1 _ _)⟩)
  have HQ : Hid (∀ (n : ByteArray) (w' : World), (Below w.heap.size w w' ∧ w'.cell? ⟨w.heap.size, 0, none⟩ = some (.string sku) ∧ w'.cell? ⟨w.heap.size, 1, none⟩ = some (.string loc) ∧ w'.cell? ⟨w.heap.size, 2, none⟩ = some (.int .i64 onhand) ∧ w'.cell? ⟨w.heap.size, 3, none⟩ = some (.int .i64 held)) → Calls Try.prog 42 #[.string n] w' fun e w'' => e = .returned (vv 2 0 n) ∧ (Below w.heap.size w w'' ∧ w''.cell? ⟨w.heap.size, 0, none⟩ = some (.string sku) ∧ w''.cell? ⟨w.heap.size, 1, none⟩ = some (.string loc) ∧ w''.cell? ⟨w.heap.size, 2, none⟩ = some (.int .i64 onhand) ∧ w''.cell? ⟨w.heap.size, 3, none⟩ = some (.int .i64 held))) := fun n w' hS => (text_is n w').mono (by
    rintro e w'' ⟨rfl, rfl⟩
    exact ⟨rfl, HN.out _ _ hS (below1 _ _)⟩)
  have HRow : Hid _ := fun a w => row_is a 4 4 w
  clear hO hB
  go_enter Try.func20, Try.ntmps20
  go_wp2_with fail
  try rw [hW]
  clear hW
  have hS0 := HS0.out
  go_region_held (fun (w' : World) => (Below w.heap.size w w' ∧ w'.cell? ⟨w.heap.size, 0, none⟩ = some (.string sku) ∧ w'.cell? ⟨w.heap.size, 1, none⟩ = some (.string loc) ∧ w'.cell? ⟨w.heap.size, 2, none⟩ = some (.int .i64 onhand) ∧ w'.cell? ⟨w.heap.size, 3, none⟩ = some (.int .i64 held))) (first | (with_reducible assumption) | (with_reducible exact HSD.out _ (by with_reducible assumption)) | (with_reducible exact HSA.out _ _ (by with_reducible assumption)))
    (first
    | ((with_reducible refine Calls.mono (HP.out _ _ (by with_reducible assumption)) ?_); rintro e w3 ⟨rfl, hS3⟩)
    | ((with_reducible refine Calls.mono (HQ.out _ _ (by with_reducible assumption)) ?_); rintro e w3 ⟨rfl, hS3⟩)
    | ((with_reducible refine Calls.mono (HRow.out _ _) ?_); rintro e w4 ⟨rfl, rfl⟩))
  all_goals (have hB3 : Below w.heap.size w w3 := And.left (by with_reducible assumption))
  all_goals (have HB3 : Hid (Below w.heap.size w w3) := hB3)
  all_goals go_wp2_with fail
  all_goals go_ret
  all_goals exact ⟨⟨_, _, rfl, row_new w3 _ _ rfl _ rfl _ _ rfl⟩, HB3.out.alloc HB3.out.size _⟩
set_option maxHeartbeats 4000000 in
theorem refStockRow_is (sku loc : ByteArray) (onhand held : Int) (w : World) : Calls Try.prog 21 #[ss sku loc onhand held] w fun e w' => RowIs (stockR sku loc onhand held) w e w' ∧ Below w.heap.size w w' := by
  obtain ⟨W, hW⟩ : ∃ W, w.alloc (.cells #[.string sku, .string loc, .int .i64 onhand, .int .i64 held] 34) = W := ⟨_, rfl⟩
  have hB : Below w.heap.size w W := hW ▸ below1 _ _
  have hO := CellsF.new w [.string sku, .string loc, .int .i64 onhand, .int .i64 held] 34 (by simp)
  rw [show (w.alloc (.cells ([.string sku, .string loc, .int .i64 onhand, .int .i64 held] : List Value).toArray 34)) = W from hW] at hO
  have HN : Hid (∀ w' w'' : World, (Below w.heap.size w w' ∧ w'.cell? ⟨w.heap.size, 0, none⟩ = some (.string sku) ∧ w'.cell? ⟨w.heap.size, 1, none⟩ = some (.string loc) ∧ w'.cell? ⟨w.heap.size, 2, none⟩ = some (.int .i64 onhand) ∧ w'.cell? ⟨w.heap.size, 3, none⟩ = some (.int .i64 held)) → Below w'.heap.size w' w'' → (Below w.heap.size w w'' ∧ w''.cell? ⟨w.heap.size, 0, none⟩ = some (.string sku) ∧ w''.cell? ⟨w.heap.size, 1, none⟩ = some (.string loc) ∧ w''.cell? ⟨w.heap.size, 2, none⟩ = some (.int .i64 onhand) ∧ w''.cell? ⟨w.heap.size, 3, none⟩ = some (.int .i64 held))) := fun w' w'' h q => by
    have b0 := (q.cell (p := ⟨w.heap.size, 0, none⟩) (World.block_lt_of_cell? w' _ (h.2.1))).trans (h.2.1)
    have b1 := (q.cell (p := ⟨w.heap.size, 1, none⟩) (World.block_lt_of_cell? w' _ (h.2.2.1))).trans (h.2.2.1)
    have b2 := (q.cell (p := ⟨w.heap.size, 2, none⟩) (World.block_lt_of_cell? w' _ (h.2.2.2.1))).trans (h.2.2.2.1)
    have b3 := (q.cell (p := ⟨w.heap.size, 3, none⟩) (World.block_lt_of_cell? w' _ (h.2.2.2.2))).trans (h.2.2.2.2)
    exact ⟨Below.next h.1 q, b0, b1, b2, b3⟩
  have HS0 : Hid (Below w.heap.size w W ∧ W.cell? ⟨w.heap.size, 0, none⟩ = some (.string sku) ∧ W.cell? ⟨w.heap.size, 1, none⟩ = some (.string loc) ∧ W.cell? ⟨w.heap.size, 2, none⟩ = some (.int .i64 onhand) ∧ W.cell? ⟨w.heap.size, 3, none⟩ = some (.int .i64 held)) := ⟨hB, hO.cs 0 _ rfl, hO.cs 1 _ rfl, hO.cs 2 _ rfl, hO.cs 3 _ rfl⟩
  have HSD : Hid (∀ w', (Below w.heap.size w w' ∧ w'.cell? ⟨w.heap.size, 0, none⟩ = some (.string sku) ∧ w'.cell? ⟨w.heap.size, 1, none⟩ = some (.string loc) ∧ w'.cell? ⟨w.heap.size, 2, none⟩ = some (.int .i64 onhand) ∧ w'.cell? ⟨w.heap.size, 3, none⟩ = some (.int .i64 held)) → (Below w.heap.size w w'.drew ∧ w'.drew.cell? ⟨w.heap.size, 0, none⟩ = some (.string sku) ∧ w'.drew.cell? ⟨w.heap.size, 1, none⟩ = some (.string loc) ∧ w'.drew.cell? ⟨w.heap.size, 2, none⟩ = some (.int .i64 onhand) ∧ w'.drew.cell? ⟨w.heap.size, 3, none⟩ = some (.int .i64 held))) := fun w' h => HN.out w' w'.drew h (Below.refl _ _).drew
  have HSA : Hid (∀ (w' : World) (o : Obj), (Below w.heap.size w w' ∧ w'.cell? ⟨w.heap.size, 0, none⟩ = some (.string sku) ∧ w'.cell? ⟨w.heap.size, 1, none⟩ = some (.string loc) ∧ w'.cell? ⟨w.heap.size, 2, none⟩ = some (.int .i64 onhand) ∧ w'.cell? ⟨w.heap.size, 3, none⟩ = some (.int .i64 held)) → (Below w.heap.size w (w'.alloc o) ∧ (w'.alloc o).cell? ⟨w.heap.size, 0, none⟩ = some (.string sku) ∧ (w'.alloc o).cell? ⟨w.heap.size, 1, none⟩ = some (.string loc) ∧ (w'.alloc o).cell? ⟨w.heap.size, 2, none⟩ = some (.int .i64 onhand) ∧ (w'.alloc o).cell? ⟨w.heap.size, 3, none⟩ = some (.int .i64 held))) := fun w' o h => HN.out w' (w'.alloc o) h (below1 _ _)
  have HP : Hid (∀ (n : Int) (w' : World), (Below w.heap.size w w' ∧ w'.cell? ⟨w.heap.size, 0, none⟩ = some (.string sku) ∧ w'.cell? ⟨w.heap.size, 1, none⟩ = some (.string loc) ∧ w'.cell? ⟨w.heap.size, 2, none⟩ = some (.int .i64 onhand) ∧ w'.cell? ⟨w.heap.size, 3, none⟩ = some (.int .i64 held)) → Calls Try.prog 35 #[.int .i64 n] w' fun e w'' => e = .returned (vv 1 n ⟨#[]⟩) ∧ (Below w.heap.size w w'' ∧ w''.cell? ⟨w.heap.size, 0, none⟩ = some (.string sku) ∧ w''.cell? ⟨w.heap.size, 1, none⟩ = some (.string loc) ∧ w''.cell? ⟨w.heap.size, 2, none⟩ = some (.int .i64 onhand) ∧ w''.cell? ⟨w.heap.size, 3, none⟩ = some (.int .i64 held))) := fun n w' hS => (rnum_is n w').mono (by
    rintro e w'' ⟨rfl, rfl⟩
    exact ⟨rfl, HN.out _ _ hS (below1 _ _)⟩)
  have HQ : Hid (∀ (n : ByteArray) (w' : World), (Below w.heap.size w w' ∧ w'.cell? ⟨w.heap.size, 0, none⟩ = some (.string sku) ∧ w'.cell? ⟨w.heap.size, 1, none⟩ = some (.string loc) ∧ w'.cell? ⟨w.heap.size, 2, none⟩ = some (.int .i64 onhand) ∧ w'.cell? ⟨w.heap.size, 3, none⟩ = some (.int .i64 held)) → Calls Try.prog 36 #[.string n] w' fun e w'' => e = .returned (vv 2 0 n) ∧ (Below w.heap.size w w'' ∧ w''.cell? ⟨w.heap.size, 0, none⟩ = some (.string sku) ∧ w''.cell? ⟨w.heap.size, 1, none⟩ = some (.string loc) ∧ w''.cell? ⟨w.heap.size, 2, none⟩ = some (.int .i64 onhand) ∧ w''.cell? ⟨w.heap.size, 3, none⟩ = some (.int .i64 held))) := fun n w' hS => (rtext_is n w').mono (by
    rintro e w'' ⟨rfl, rfl⟩
    exact ⟨rfl, HN.out _ _ hS (below1 _ _)⟩)
  clear hO hB
  go_enter Try.func21, Try.ntmps21
  go_wp2_with fail
  try rw [hW]
  clear hW
  have hS0 := HS0.out
  go_region_held (fun (w' : World) => (Below w.heap.size w w' ∧ w'.cell? ⟨w.heap.size, 0, none⟩ = some (.string sku) ∧ w'.cell? ⟨w.heap.size, 1, none⟩ = some (.string loc) ∧ w'.cell? ⟨w.heap.size, 2, none⟩ = some (.int .i64 onhand) ∧ w'.cell? ⟨w.heap.size, 3, none⟩ = some (.int .i64 held))) (first | (with_reducible assumption) | (with_reducible exact HSD.out _ (by with_reducible assumption)) | (with_reducible exact HSA.out _ _ (by with_reducible assumption)))
    (first
    | ((with_reducible refine Calls.mono (HP.out _ _ (by with_reducible assumption)) ?_); rintro e w3 ⟨rfl, hS3⟩)
    | ((with_reducible refine Calls.mono (HQ.out _ _ (by with_reducible assumption)) ?_); rintro e w3 ⟨rfl, hS3⟩))
  all_goals (have hB3 : Below w.heap.size w w3 := And.left (by with_reducible assumption))
  all_goals (have HB3 : Hid (Below w.heap.size w w3) := hB3)
  all_goals go_wp2_with fail
  all_goals go_ret
  all_goals exact ⟨⟨_, _, rfl, row_new w3 _ _ rfl _ rfl _ _ rfl⟩, HB3.out.alloc HB3.out.size _⟩
end Go.Proofs.Ytaoboleifdgonaa
