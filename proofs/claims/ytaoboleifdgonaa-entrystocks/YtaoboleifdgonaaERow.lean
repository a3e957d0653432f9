/- entry: rows put together. -/
import Derived.Test.YtaoboleifdgonaaEMay
import Derived.Test.YtaoboleifdgonaaTake
import Derived.Deep.RegionHeld
import Derived.Deep.RegionHeldLaw
namespace Go.Proofs.Ytaoboleifdgonaa
open Go.ChangeShapes Go.WideShapes Go.RowKit
set_option linter.unusedVariables false
set_option maxRecDepth 100000

theorem number_is (n : Int) (w : World) : Calls Try.prog 43 #[.int .i64 n] w fun e w' => e = .returned (vv 1 n ⟨#[]⟩) ∧ w' = w.alloc (.cells #[.int .i64 1, .int .i64 n, .string ⟨#[]⟩] 56) := by
  go_enter Try.func43, Try.ntmps43
  go_wp2_with fail
  try simp only [Exit.inBlock, Exit.then]
  refine bodyPost_ret (end_cell rfl rfl (load23 (by simp; rfl) (by simp; rfl) (by simp; rfl))) rfl ?_
  exact ⟨rfl, rfl⟩
theorem text_is (s : ByteArray) (w : World) : Calls Try.prog 42 #[.string s] w fun e w' => e = .returned (vv 2 0 s) ∧ w' = w.alloc (.cells #[.int .i64 2, .int .i64 0, .string s] 56) := by
  go_enter Try.func42, Try.ntmps42
  go_wp2_with fail
  try simp only [Exit.inBlock, Exit.then]
  refine bodyPost_ret (end_cell rfl rfl (load23 (by simp; rfl) (by simp; rfl) (by simp; rfl))) rfl ?_
  exact ⟨rfl, rfl⟩
theorem rnum_is (n : Int) (w : World) : Calls Try.prog 35 #[.int .i64 n] w fun e w' => e = .returned (vv 1 n ⟨#[]⟩) ∧ w' = w.alloc (.cells #[.int .i64 1, .int .i64 n, .string ⟨#[]⟩] 56) := by
  go_enter Try.func35, Try.ntmps35
  go_wp2_with fail
  try simp only [Exit.inBlock, Exit.then]
  refine bodyPost_ret (end_cell rfl rfl (load23 (by simp; rfl) (by simp; rfl) (by simp; rfl))) rfl ?_
  exact ⟨rfl, rfl⟩
theorem rtext_is (s : ByteArray) (w : World) : Calls Try.prog 36 #[.string s] w fun e w' => e = .returned (vv 2 0 s) ∧ w' = w.alloc (.cells #[.int .i64 2, .int .i64 0, .string s] 56) := by
  go_enter Try.func36, Try.ntmps36
  go_wp2_with fail
  try simp only [Exit.inBlock, Exit.then]
  refine bodyPost_ret (end_cell rfl rfl (load23 (by simp; rfl) (by simp; rfl) (by simp; rfl))) rfl ?_
  exact ⟨rfl, rfl⟩
theorem row_is (a : Option Addr) (n c : Nat) (w : World) : Calls Try.prog 41 #[.slice a n c] w fun e w' => e = .returned (.slice a n c) ∧ w' = w := by
  go_enter Try.func41, Try.ntmps41
  go_wp2_with fail
  go_ret
  exact ⟨rfl, rfl⟩
/-- The row of an operation. -/
def opR (k : Int) (sku loc to : ByteArray) (qty id due : Int) : List V := [⟨1, k, ⟨#[]⟩⟩, ⟨2, 0, sku⟩, ⟨2, 0, loc⟩, ⟨2, 0, to⟩, ⟨1, qty, ⟨#[]⟩⟩, ⟨1, id, ⟨#[]⟩⟩, ⟨1, due, ⟨#[]⟩⟩]
/-- A row that was made. -/
theorem row_new (w : World) (r : List V) (cs : Array Value) (hcs : cs = (r.flatMap rv).toArray) (B : Nat) (hB : B = w.heap.size) (n c : Nat) (hn : n = r.length) : Row (w.alloc (.cells cs 56)) (.slice (some ⟨B, 0, none⟩) n c) r := by
  subst hB hn hcs
  refine .inr ⟨w.heap.size, 0, c, rfl, fun i hi => ?_⟩
  have hr := rv_at r i hi
  have g : ∀ j v, (r.flatMap rv)[j]? = some v → (w.alloc (.cells (r.flatMap rv).toArray 56)).cell? ⟨w.heap.size, j, none⟩ = some v := fun j v h => by
    simp [h]
  refine ⟨?_, ?_, ?_⟩
  · rw [Nat.zero_add]; exact g _ _ hr.1
  · rw [Nat.zero_add]; exact g _ _ hr.2.1
  · rw [Nat.zero_add]; exact g _ _ hr.2.2
set_option maxHeartbeats 4000000 in
theorem opRow_is (k : Int) (sku loc to : ByteArray) (qty id due : Int) (w : World) : Calls Try.prog 32 #[oo k sku loc to qty id due] w fun e w' => ∃ B, e = .returned (.slice (some ⟨B, 0, none⟩) 7 7) ∧ Row w' (.slice (some ⟨B, 0, none⟩) 7 7) (opR k sku loc to qty id due) ∧ Below w.heap.size w w' := by
  obtain ⟨W, hW⟩ : ∃ W, (w.alloc (.cells #[.int .i64 k, .string sku, .string loc, .string to, .int .i64 qty, .int .i64 id, .int .i64 due] 23)) = W := ⟨_, rfl⟩
  have hO : OpAt W w.heap.size k sku loc to qty id due := hW ▸ OpAt.new w k sku loc to qty id due
  have hB : Below w.heap.size w W := hW ▸ below1 _ _
  have HN : Hid (∀ w' w'' : World, (Below w.heap.size w w' ∧ w'.cell? ⟨w.heap.size, 0, none⟩ = some (.int .i64 k) ∧ w'.cell? ⟨w.heap.size, 1, none⟩ = some (.string sku) ∧ w'.cell? ⟨w.heap.size, 2, none⟩ = some (.string loc) ∧ w'.cell? ⟨w.heap.size, 3, none⟩ = some (.string to) ∧ w'.cell? ⟨w.heap.size, 4, none⟩ = some (.int .i64 qty) ∧ w'.cell? ⟨w.heap.size, 5, none⟩ = some (.int .i64 id) ∧ w'.cell? ⟨w.heap.size, 6, none⟩ = some (.int .i64 due)) → Below w'.heap.size w' w'' → (Below w.heap.size w w'' ∧ w''.cell? ⟨w.heap.size, 0, none⟩ = some (.int .i64 k) ∧ w''.cell? ⟨w.heap.size, 1, none⟩ = some (.string sku) ∧ w''.cell? ⟨w.heap.size, 2, none⟩ = some (.string loc) ∧ w''.cell? ⟨w.heap.size, 3, none⟩ = some (.string to) ∧ w''.cell? ⟨w.heap.size, 4, none⟩ = some (.int .i64 qty) ∧ w''.cell? ⟨w.heap.size, 5, none⟩ = some (.int .i64 id) ∧ w''.cell? ⟨w.heap.size, 6, none⟩ = some (.int .i64 due))) := fun w' w'' h q => by
    have a : OpAt w' w.heap.size k sku loc to qty id due := ⟨h.2.1, h.2.2.1, h.2.2.2.1, h.2.2.2.2.1, h.2.2.2.2.2.1, h.2.2.2.2.2.2.1, h.2.2.2.2.2.2.2⟩
    have b := a.next q
    exact ⟨Below.next h.1 q, b.c0, b.c1, b.c2, b.c3, b.c4, b.c5, b.c6⟩
  have HS0 : Hid (Below w.heap.size w W ∧ W.cell? ⟨w.heap.size, 0, none⟩ = some (.int .i64 k) ∧ W.cell? ⟨w.heap.size, 1, none⟩ = some (.string sku) ∧ W.cell? ⟨w.heap.size, 2, none⟩ = some (.string loc) ∧ W.cell? ⟨w.heap.size, 3, none⟩ = some (.string to) ∧ W.cell? ⟨w.heap.size, 4, none⟩ = some (.int .i64 qty) ∧ W.cell? ⟨w.heap.size, 5, none⟩ = some (.int .i64 id) ∧ W.cell? ⟨w.heap.size, 6, none⟩ = some (.int .i64 due)) := ⟨hB, hO.c0, hO.c1, hO.c2, hO.c3, hO.c4, hO.c5, hO.c6⟩
  have HSD : Hid (∀ w', (Below w.heap.size w w' ∧ w'.cell? ⟨w.heap.size, 0, none⟩ = some (.int .i64 k) ∧ w'.cell? ⟨w.heap.size, 1, none⟩ = some (.string sku) ∧ w'.cell? ⟨w.heap.size, 2, none⟩ = some (.string loc) ∧ w'.cell? ⟨w.heap.size, 3, none⟩ = some (.string to) ∧ w'.cell? ⟨w.heap.size, 4, none⟩ = some (.int .i64 qty) ∧ w'.cell? ⟨w.heap.size, 5, none⟩ = some (.int .i64 id) ∧ w'.cell? ⟨w.heap.size, 6, none⟩ = some (.int .i64 due)) → (Below w.heap.size w w'.drew ∧ w'.drew.cell? ⟨w.heap.size, 0, none⟩ = some (.int .i64 k) ∧ w'.drew.cell? ⟨w.heap.size, 1, none⟩ = some (.string sku) ∧ w'.drew.cell? ⟨w.heap.size, 2, none⟩ = some (.string loc) ∧ w'.drew.cell? ⟨w.heap.size, 3, none⟩ = some (.string to) ∧ w'.drew.cell? ⟨w.heap.size, 4, none⟩ = some (.int .i64 qty) ∧ w'.drew.cell? ⟨w.heap.size, 5, none⟩ = some (.int .i64 id) ∧ w'.drew.cell? ⟨w.heap.size, 6, none⟩ = some (.int .i64 due))) := fun w' h => HN.out w' w'.drew h (Below.refl _ _).drew
  have HSA : Hid (∀ (w' : World) (o : Obj), (Below w.heap.size w w' ∧ w'.cell? ⟨w.heap.size, 0, none⟩ = some (.int .i64 k) ∧ w'.cell? ⟨w.heap.size, 1, none⟩ = some (.string sku) ∧ w'.cell? ⟨w.heap.size, 2, none⟩ = some (.string loc) ∧ w'.cell? ⟨w.heap.size, 3, none⟩ = some (.string to) ∧ w'.cell? ⟨w.heap.size, 4, none⟩ = some (.int .i64 qty) ∧ w'.cell? ⟨w.heap.size, 5, none⟩ = some (.int .i64 id) ∧ w'.cell? ⟨w.heap.size, 6, none⟩ = some (.int .i64 due)) → (Below w.heap.size w (w'.alloc o) ∧ (w'.alloc o).cell? ⟨w.heap.size, 0, none⟩ = some (.int .i64 k) ∧ (w'.alloc o).cell? ⟨w.heap.size, 1, none⟩ = some (.string sku) ∧ (w'.alloc o).cell? ⟨w.heap.size, 2, none⟩ = some (.string loc) ∧ (w'.alloc o).cell? ⟨w.heap.size, 3, none⟩ = some (.string to) ∧ (w'.alloc o).cell? ⟨w.heap.size, 4, none⟩ = some (.int .i64 qty) ∧ (w'.alloc o).cell? ⟨w.heap.size, 5, none⟩ = some (.int .i64 id) ∧ (w'.alloc o).cell? ⟨w.heap.size, 6, none⟩ = some (.int .i64 due))) := fun w' o h => HN.out w' (w'.alloc o) h (below1 _ _)
  have HP : Hid (∀ (n : Int) (w' : World), (Below w.heap.size w w' ∧ w'.cell? ⟨w.heap.size, 0, none⟩ = some (.int .i64 k) ∧ w'.cell? ⟨w.heap.size, 1, none⟩ = some (.string sku) ∧ w'.cell? ⟨w.heap.size, 2, none⟩ = some (.string loc) ∧ w'.cell? ⟨w.heap.size, 3, none⟩ = some (.string to) ∧ w'.cell? ⟨w.heap.size, 4, none⟩ = some (.int .i64 qty) ∧ w'.cell? ⟨w.heap.size, 5, none⟩ = some (.int .i64 id) ∧ w'.cell? ⟨w.heap.size, 6, none⟩ = some (.int .i64 due)) → Calls Try.prog 43 #[.int .i64 n] w' fun e w'' => e = .returned (vv 1 n ⟨#[]⟩) ∧ (Below w.heap.size w w'' ∧ w''.cell? ⟨w.heap.size, 0, none⟩ = some (.int .i64 k) ∧ w''.cell? ⟨w.heap.size, 1, none⟩ = some (.string sku) ∧ w''.cell? ⟨w.heap.size, 2, none⟩ = some (.string loc) ∧ w''.cell? ⟨w.heap.size, 3, none⟩ = some (.string to) ∧ w''.cell? ⟨w.heap.size, 4, none⟩ = some (.int .i64 qty) ∧ w''.cell? ⟨w.heap.size, 5, none⟩ = some (.int .i64 id) ∧ w''.cell? ⟨w.heap.size, 6, none⟩ = some (.int .i64 due))) := fun n w' hS => (number_is n w').mono (by
    rintro e w'' ⟨rfl, rfl⟩
    exact ⟨rfl, HN.out _ _ hS (below1 _ _)⟩)
  have HQ : Hid (∀ (n : ByteArray) (w' : World), (Below w.heap.size w w' ∧ w'.cell? ⟨w.heap.size, 0, none⟩ = some (.int .i64 k) ∧ w'.cell? ⟨w.heap.size, 1, none⟩ = some (.string sku) ∧ w'.cell? ⟨w.heap.size, 2, none⟩ = some (.string loc) ∧ w'.cell? ⟨w.heap.size, 3, none⟩ = some (.string to) ∧ w'.cell? ⟨w.heap.size, 4, none⟩ = some (.int .i64 qty) ∧ w'.cell? ⟨w.heap.size, 5, none⟩ = some (.int .i64 id) ∧ w'.cell? ⟨w.heap.size, 6, none⟩ = some (.int .i64 due)) → Calls Try.prog 42 #[.string n] w' fun e w'' => e = .returned (vv 2 0 n) ∧ (Below w.heap.size w w'' ∧ w''.cell? ⟨w.heap.size, 0, none⟩ = some (.int .i64 k) ∧ w''.cell? ⟨w.heap.size, 1, none⟩ = some (.string sku) ∧ w''.cell? ⟨w.heap.size, 2, none⟩ = some (.string loc) ∧ w''.cell? ⟨w.heap.size, 3, none⟩ = some (.string to) ∧ w''.cell? ⟨w.heap.size, 4, none⟩ = some (.int .i64 qty) ∧ w''.cell? ⟨w.heap.size, 5, none⟩ = some (.int .i64 id) ∧ w''.cell? ⟨w.heap.size, 6, none⟩ = some (.int .i64 due))) := fun n w' hS => (text_is n w').mono (by
    rintro e w'' ⟨rfl, rfl⟩
    exact ⟨rfl, HN.out _ _ hS (below1 _ _)⟩)
  have HRow : Hid _ := fun a w => row_is a 7 7 w
  clear hO hB
  go_enter Try.func32, Try.ntmps32
  go_wp2_with fail
  try rw [hW]
  clear hW
  have hS0 := HS0.out
  go_region_held (fun (w' : World) => (Below w.heap.size w w' ∧ w'.cell? ⟨w.heap.size, 0, none⟩ = some (.int .i64 k) ∧ w'.cell? ⟨w.heap.size, 1, none⟩ = some (.string sku) ∧ w'.cell? ⟨w.heap.size, 2, none⟩ = some (.string loc) ∧ w'.cell? ⟨w.heap.size, 3, none⟩ = some (.string to) ∧ w'.cell? ⟨w.heap.size, 4, none⟩ = some (.int .i64 qty) ∧ w'.cell? ⟨w.heap.size, 5, none⟩ = some (.int .i64 id) ∧ w'.cell? ⟨w.heap.size, 6, none⟩ = some (.int .i64 due))) (first | (with_reducible assumption) | (with_reducible exact HSD.out _ (by with_reducible assumption)) | (with_reducible exact HSA.out _ _ (by with_reducible assumption)))
    (first
    | ((with_reducible refine Calls.mono (HP.out _ _ (by with_reducible assumption)) ?_); rintro e w3 ⟨rfl, hS3⟩)
    | ((with_reducible refine Calls.mono (HQ.out _ _ (by with_reducible assumption)) ?_); rintro e w3 ⟨rfl, hS3⟩)
    | ((with_reducible refine Calls.mono (HRow.out _ _) ?_); rintro e w4 ⟨rfl, rfl⟩))
  all_goals (have hB3 : Below w.heap.size w w3 := And.left (by with_reducible assumption))
  all_goals (have HB3 : Hid (Below w.heap.size w w3) := hB3)
  all_goals go_wp2_with fail
  all_goals go_ret
  all_goals exact ⟨_, rfl, row_new w3 _ _ rfl _ rfl _ _ rfl, HB3.out.alloc HB3.out.size _⟩
end Go.Proofs.Ytaoboleifdgonaa
