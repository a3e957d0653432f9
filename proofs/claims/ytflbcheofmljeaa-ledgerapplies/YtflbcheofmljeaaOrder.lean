/- ledger.order: which of two stocks stands first. -/
import Derived.Test.YtflbcheofmljeaaOrd
namespace Go.Proofs.Ytflbcheofmljeaa
open Go.ChangeShapes Go.WideShapes Go.RowKit
set_option linter.unusedVariables false
set_option maxRecDepth 100000

set_option maxHeartbeats 4000000 in
theorem order_is (a b : Stk) (w : World) : Calls Try.prog 62 #[sval a, sval b] w fun e w' => e = .returned (.int .i64 (cmpK a.sku a.loc b.sku b.loc)) ∧ Below w.heap.size w w' := by
  obtain ⟨sa, la, oa, ha⟩ := a
  obtain ⟨sb, lb, ob, hb⟩ := b
  show Calls Try.prog 62 #[.agg #[.string sa, .string la, .int .i64 oa, .int .i64 ha], .agg #[.string sb, .string lb, .int .i64 ob, .int .i64 hb]] w fun e w' => e = .returned (.int .i64 (cmpK sa la sb lb)) ∧ Below w.heap.size w w'
  obtain ⟨W, hW⟩ : ∃ W, (w.alloc (.cells #[.string sa, .string la, .int .i64 oa, .int .i64 ha] 50)).alloc (.cells #[.string sb, .string lb, .int .i64 ob, .int .i64 hb] 50) = W := ⟨_, rfl⟩
  have hB : Below w.heap.size w W := hW ▸ below2 _ _ _
  have HN : Hid (∀ w' w'' : World, (Below w.heap.size w w' ∧ w'.cell? ⟨w.heap.size, 0, none⟩ = some (.string sa) ∧ w'.cell? ⟨w.heap.size, 1, none⟩ = some (.string la) ∧ w'.cell? ⟨w.heap.size + 1, 0, none⟩ = some (.string sb) ∧ w'.cell? ⟨w.heap.size + 1, 1, none⟩ = some (.string lb)) → Below w'.heap.size w' w'' → (Below w.heap.size w w'' ∧ w''.cell? ⟨w.heap.size, 0, none⟩ = some (.string sa) ∧ w''.cell? ⟨w.heap.size, 1, none⟩ = some (.string la) ∧ w''.cell? ⟨w.heap.size + 1, 0, none⟩ = some (.string sb) ∧ w''.cell? ⟨w.heap.size + 1, 1, none⟩ = some (.string lb))) := fun w' w'' h q => by
    have b0 := (q.cell (p := ⟨w.heap.size, 0, none⟩) (World.block_lt_of_cell? w' _ (h.2.1))).trans (h.2.1)
    have b1 := (q.cell (p := ⟨w.heap.size, 1, none⟩) (World.block_lt_of_cell? w' _ (h.2.2.1))).trans (h.2.2.1)
    have b2 := (q.cell (p := ⟨w.heap.size + 1, 0, none⟩) (World.block_lt_of_cell? w' _ (h.2.2.2.1))).trans (h.2.2.2.1)
    have b3 := (q.cell (p := ⟨w.heap.size + 1, 1, none⟩) (World.block_lt_of_cell? w' _ (h.2.2.2.2))).trans (h.2.2.2.2)
    exact ⟨Below.next h.1 q, b0, b1, b2, b3⟩
  have HS0 : Hid (Below w.heap.size w W ∧ W.cell? ⟨w.heap.size, 0, none⟩ = some (.string sa) ∧ W.cell? ⟨w.heap.size, 1, none⟩ = some (.string la) ∧ W.cell? ⟨w.heap.size + 1, 0, none⟩ = some (.string sb) ∧ W.cell? ⟨w.heap.size + 1, 1, none⟩ = some (.string lb)) := ⟨hB, by rw [← hW]; simp, by rw [← hW]; simp, by rw [← hW]; simp, by rw [← hW]; simp⟩
  have HSD : Hid (∀ w', (Below w.heap.size w w' ∧ w'.cell? ⟨w.heap.size, 0, none⟩ = some (.string sa) ∧ w'.cell? ⟨w.heap.size, 1, none⟩ = some (.string la) ∧ w'.cell? ⟨w.heap.size + 1, 0, none⟩ = some (.string sb) ∧ w'.cell? ⟨w.heap.size + 1, 1, none⟩ = some (.string lb)) → (Below w.heap.size w w'.drew ∧ w'.drew.cell? ⟨w.heap.size, 0, none⟩ = some (.string sa) ∧ w'.drew.cell? ⟨w.heap.size, 1, none⟩ = some (.string la) ∧ w'.drew.cell? ⟨w.heap.size + 1, 0, none⟩ = some (.string sb) ∧ w'.drew.cell? ⟨w.heap.size + 1, 1, none⟩ = some (.string lb))) := fun w' h => HN.out w' w'.drew h (Below.refl _ _).drew
  have HSA : Hid (∀ (w' : World) (o : Obj), (Below w.heap.size w w' ∧ w'.cell? ⟨w.heap.size, 0, none⟩ = some (.string sa) ∧ w'.cell? ⟨w.heap.size, 1, none⟩ = some (.string la) ∧ w'.cell? ⟨w.heap.size + 1, 0, none⟩ = some (.string sb) ∧ w'.cell? ⟨w.heap.size + 1, 1, none⟩ = some (.string lb)) → (Below w.heap.size w (w'.alloc o) ∧ (w'.alloc o).cell? ⟨w.heap.size, 0, none⟩ = some (.string sa) ∧ (w'.alloc o).cell? ⟨w.heap.size, 1, none⟩ = some (.string la) ∧ (w'.alloc o).cell? ⟨w.heap.size + 1, 0, none⟩ = some (.string sb) ∧ (w'.alloc o).cell? ⟨w.heap.size + 1, 1, none⟩ = some (.string lb))) := fun w' o h => HN.out w' (w'.alloc o) h (below1 _ _)
  have HP : Hid (∀ (x y : ByteArray) (w' : World), (Below w.heap.size w w' ∧ w'.cell? ⟨w.heap.size, 0, none⟩ = some (.string sa) ∧ w'.cell? ⟨w.heap.size, 1, none⟩ = some (.string la) ∧ w'.cell? ⟨w.heap.size + 1, 0, none⟩ = some (.string sb) ∧ w'.cell? ⟨w.heap.size + 1, 1, none⟩ = some (.string lb)) → Calls Try.prog 80 #[.string x, .string y] w' fun e w'' => e = .returned (.int .i64 (cmpB x y)) ∧ (Below w.heap.size w w'' ∧ w''.cell? ⟨w.heap.size, 0, none⟩ = some (.string sa) ∧ w''.cell? ⟨w.heap.size, 1, none⟩ = some (.string la) ∧ w''.cell? ⟨w.heap.size + 1, 0, none⟩ = some (.string sb) ∧ w''.cell? ⟨w.heap.size + 1, 1, none⟩ = some (.string lb))) := fun x y w' hS => (compare_is x y w').mono (by
    rintro e w'' ⟨rfl, rfl⟩
    exact ⟨rfl, hS⟩)
  have HQ : Hid (∀ (x y : Int) (w' : World) (B : Nat), B = w'.heap.size → (Below w.heap.size w w' ∧ w'.cell? ⟨w.heap.size, 0, none⟩ = some (.string sa) ∧ w'.cell? ⟨w.heap.size, 1, none⟩ = some (.string la) ∧ w'.cell? ⟨w.heap.size + 1, 0, none⟩ = some (.string sb) ∧ w'.cell? ⟨w.heap.size + 1, 1, none⟩ = some (.string lb)) → Calls Try.prog 79 #[.slice (some ⟨B, 0, none⟩) 2 2] (w'.alloc (.cells #[.int .i64 x, .int .i64 y] 3)) fun e w'' => ∃ r, e = .returned (.int .i64 r) ∧ Hid (r = if x = 0 then y else x) ∧ w'' = w'.alloc (.cells #[.int .i64 x, .int .i64 y] 3)) := fun x y w' B hB hS => (or_is x y B _ (by subst hB; simp) (by subst hB; simp)).mono (by
    rintro e w'' ⟨rfl, rfl⟩
    exact ⟨_, rfl, rfl, rfl⟩)
  have HK : Hid (cmpK sa la sb lb = if cmpB sa sb = 0 then cmpB la lb else cmpB sa sb) := rfl
  obtain ⟨z, hz⟩ : ∃ z, cmpK sa la sb lb = z := ⟨_, rfl⟩
  rw [hz] at HK ⊢
  have HZ : Hid (z = if cmpB sa sb = 0 then cmpB la lb else cmpB sa sb) := HK
  clear hB HK hz
  go_enter Try.func62, Try.ntmps62
  go_wp2_with fail
  try rw [hW]
  clear hW
  have hS0 := HS0.out
  go_region_held (fun (w' : World) => (Below w.heap.size w w' ∧ w'.cell? ⟨w.heap.size, 0, none⟩ = some (.string sa) ∧ w'.cell? ⟨w.heap.size, 1, none⟩ = some (.string la) ∧ w'.cell? ⟨w.heap.size + 1, 0, none⟩ = some (.string sb) ∧ w'.cell? ⟨w.heap.size + 1, 1, none⟩ = some (.string lb))) (first | (with_reducible assumption) | (with_reducible exact HSD.out _ (by with_reducible assumption)) | (with_reducible exact HSA.out _ _ (by with_reducible assumption)))
    (first
    | ((with_reducible refine Calls.mono (HP.out _ _ _ (by with_reducible assumption)) ?_); rintro e w3 ⟨rfl, hS3⟩)
    | ((with_reducible refine Calls.mono (HQ.out _ _ _ _ rfl (by with_reducible assumption)) ?_); rintro e w4 ⟨r, rfl, HR, rfl⟩))
  all_goals (have hB3 : Below w.heap.size w w3 := And.left (by with_reducible assumption))
  all_goals (have HB3 : Hid (Below w.heap.size w w3) := hB3)
  all_goals go_wp2_with fail
  all_goals go_ret
  all_goals exact ⟨by rw [HZ.out, ← HR.out]; rfl, HB3.out.alloc HB3.out.size _⟩
end Go.Proofs.Ytflbcheofmljeaa
