/- The statements' common part. -/
import Derived.Test.YtmjajlmknncggaaDoorSame
import Derived.BigRegion
import Derived.Deep.RegionHeld
namespace Go.Proofs.YtmjajlmknncggaaDoor
open Go.ChangeShapes Go.WideShapes Go.RowKit
set_option linter.unusedVariables false
set_option maxRecDepth 100000

instance : DecidableEq V := fun a b => decidable_of_iff (a.k = b.k ∧ a.n = b.n ∧ a.s = b.s) ⟨fun h => by cases a; cases b; obtain ⟨rfl, rfl, rfl⟩ := h; rfl, fun h => by subst h; exact ⟨rfl, rfl, rfl⟩⟩
def aw : List V := [⟨0, 0, ⟨#[]⟩⟩, ⟨1, -5, ⟨#[]⟩⟩, ⟨2, 0, ⟨#[105, 116, 39, 115]⟩⟩, ⟨3, 1, ⟨#[]⟩⟩]
theorem aw_fits : fits aw := by decide +kernel
theorem aw_put : putR aw = .tuple #[.string ⟨(rowB aw).toArray⟩, .int .i64 0] := by unfold putR; rw [if_pos ⟨by decide, aw_fits⟩]
theorem aw_take : takeR ⟨(rowB aw).toArray⟩ = some aw := by decide +kernel
theorem aw_size : (⟨(rowB aw).toArray⟩ : ByteArray).size ≤ 1000000 := by decide +kernel
theorem aw_show : Lib.replaceAll [105, 116, 39, 115] [39] [39, 39] = [105, 116, 39, 39, 115] := by decide +kernel
theorem aw_cmp : cmpV 0 0 ⟨#[]⟩ 1 (-5) ⟨#[]⟩ = -1 := by decide +kernel
theorem aw_may : mayV 3 1 ⟨#[]⟩ := by decide
theorem aw_row (w : World) : Row (w.alloc (.cells #[.int .i64 0, .int .i64 0, .string ⟨#[]⟩, .int .i64 1, .int .i64 (-5), .string ⟨#[]⟩, .int .i64 2, .int .i64 0, .string ⟨#[105, 116, 39, 115]⟩, .int .i64 3, .int .i64 1, .string ⟨#[]⟩] 23)) (.slice (some ⟨w.heap.size, 0, none⟩) aw.length 4) aw := by
  refine .inr ⟨w.heap.size, 0, 4, rfl, fun i hi => ?_⟩
  have hi' : i < 4 := hi
  match i, hi' with
  | 0, _ => exact ⟨by simp [aw], by simp [aw], by simp [aw]⟩
  | 1, _ => exact ⟨by simp [aw], by simp [aw], by simp [aw]⟩
  | 2, _ => exact ⟨by simp [aw], by simp [aw], by simp [aw]⟩
  | 3, _ => exact ⟨by simp [aw], by simp [aw], by simp [aw]⟩

/-- The row of awake, in memory, cell by cell. -/
def Aw (w : World) (b : Nat) : Prop := w.cell? ⟨b, 0, none⟩ = some (.int .i64 0) ∧ w.cell? ⟨b, 1, none⟩ = some (.int .i64 0) ∧ w.cell? ⟨b, 2, none⟩ = some (.string ⟨#[]⟩) ∧ w.cell? ⟨b, 3, none⟩ = some (.int .i64 1) ∧ w.cell? ⟨b, 4, none⟩ = some (.int .i64 (-5)) ∧ w.cell? ⟨b, 5, none⟩ = some (.string ⟨#[]⟩) ∧ w.cell? ⟨b, 6, none⟩ = some (.int .i64 2) ∧ w.cell? ⟨b, 7, none⟩ = some (.int .i64 0) ∧ w.cell? ⟨b, 8, none⟩ = some (.string ⟨#[105, 116, 39, 115]⟩) ∧ w.cell? ⟨b, 9, none⟩ = some (.int .i64 3) ∧ w.cell? ⟨b, 10, none⟩ = some (.int .i64 1) ∧ w.cell? ⟨b, 11, none⟩ = some (.string ⟨#[]⟩)
theorem aw_cells {w : World} {b : Nat} (h : Row w (.slice (some ⟨b, 0, none⟩) 4 4) aw) : Aw w b := by
  have h0 := Row.at (r := aw) h 0 (by decide)
  have h1 := Row.at (r := aw) h 1 (by decide)
  have h2 := Row.at (r := aw) h 2 (by decide)
  have h3 := Row.at (r := aw) h 3 (by decide)
  obtain ⟨_, _, e0, a0⟩ := h0
  obtain ⟨_, _, e1, a1⟩ := h1
  obtain ⟨_, _, e2, a2⟩ := h2
  obtain ⟨_, _, e3, a3⟩ := h3
  cases e0
  cases e1
  cases e2
  cases e3
  exact ⟨a0.c0, a0.c1, a0.c2, a1.c0, a1.c1, a1.c2, a2.c0, a2.c1, a2.c2, a3.c0, a3.c1, a3.c2⟩

set_option maxHeartbeats 8000000 in
theorem awake_is (w : World) (hg : Glob w) : Calls Tryd.prog 12 #[] w fun e w' => e = .returned (.bool true) ∧ Below w.heap.size w w' := by
  have HG : Hid (Glob w) := hg
  have HR0 : Hid (Row _ _ _) := aw_row w
  have HP : Hid _ := put_is (some ⟨w.heap.size, 0, none⟩) 4 4 aw rfl _ HR0.out (fun x hx => by simp only [aw, List.mem_cons, List.mem_nil_iff, or_false] at hx; rcases hx with rfl | rfl | rfl | rfl <;> decide) (by omega)
  rw [aw_put] at HP
  have HTk : Hid _ := fun w => take_is _ aw_size w
  rw [aw_take] at HTk
  obtain ⟨AW, hAW⟩ : ∃ AW : ByteArray, ⟨(rowB aw).toArray⟩ = AW := ⟨_, rfl⟩
  rw [hAW] at HP HTk
  clear hAW hg
  go_enter Tryd.func12, Tryd.ntmps12
  go_wp2_with fail
  refine Calls.mono HP.out ?_; rintro e w1 ⟨rfl, k1⟩
  have HB1 : Hid (Below w.heap.size w w1 ∧ Row w1 (.slice (some ⟨w.heap.size, 0, none⟩) 4 4) aw) := ⟨Below.next (below1 _ _) k1, Row.next HR0.out k1⟩
  clear k1 HP
  go_wp2_with fail
  refine Calls.mono (HTk.out _) ?_; rintro e w2 ⟨⟨qa, qc, rfl, q2⟩, k2⟩
  have HB2 : Hid (Below w.heap.size w w2 ∧ Row w2 (.slice (some ⟨w.heap.size, 0, none⟩) 4 4) aw ∧ Row w2 (.slice qa 4 qc) aw) := ⟨Below.next HB1.out.1 k2, Row.next HB1.out.2 k2, q2⟩
  rw [show aw.length = 4 from rfl]
  have hgl : Glob w2 := HG.out.next (Below.next HB1.out.1 k2)
  clear k2 q2 HTk HB1 HR0
  obtain ⟨B2, R2, Q2⟩ := HB2.out
  have AC : ∀ w', Below w2.heap.size w2 w' → Aw w' w.heap.size := fun w' k => aw_cells (R2.next k)
  have HS : Hid (∀ w', (Below w2.heap.size w2 w' ∧ w'.cell? ⟨w.heap.size, 0, none⟩ = some (.int .i64 0) ∧ w'.cell? ⟨w.heap.size, 1, none⟩ = some (.int .i64 0) ∧ w'.cell? ⟨w.heap.size, 2, none⟩ = some (.string ⟨#[]⟩) ∧ w'.cell? ⟨w.heap.size, 3, none⟩ = some (.int .i64 1) ∧ w'.cell? ⟨w.heap.size, 4, none⟩ = some (.int .i64 (-5)) ∧ w'.cell? ⟨w.heap.size, 5, none⟩ = some (.string ⟨#[]⟩) ∧ w'.cell? ⟨w.heap.size, 6, none⟩ = some (.int .i64 2) ∧ w'.cell? ⟨w.heap.size, 7, none⟩ = some (.int .i64 0) ∧ w'.cell? ⟨w.heap.size, 8, none⟩ = some (.string ⟨#[105, 116, 39, 115]⟩) ∧ w'.cell? ⟨w.heap.size, 9, none⟩ = some (.int .i64 3) ∧ w'.cell? ⟨w.heap.size, 10, none⟩ = some (.int .i64 1) ∧ w'.cell? ⟨w.heap.size, 11, none⟩ = some (.string ⟨#[]⟩)) → Calls Tryd.prog 20 #[.slice (some ⟨w.heap.size, 0, none⟩) 4 4, .slice qa 4 qc] w' fun e w'' => e = .returned (.bool true) ∧ Below w2.heap.size w2 w'' ∧ w''.cell? ⟨w.heap.size, 0, none⟩ = some (.int .i64 0) ∧ w''.cell? ⟨w.heap.size, 1, none⟩ = some (.int .i64 0) ∧ w''.cell? ⟨w.heap.size, 2, none⟩ = some (.string ⟨#[]⟩) ∧ w''.cell? ⟨w.heap.size, 3, none⟩ = some (.int .i64 1) ∧ w''.cell? ⟨w.heap.size, 4, none⟩ = some (.int .i64 (-5)) ∧ w''.cell? ⟨w.heap.size, 5, none⟩ = some (.string ⟨#[]⟩) ∧ w''.cell? ⟨w.heap.size, 6, none⟩ = some (.int .i64 2) ∧ w''.cell? ⟨w.heap.size, 7, none⟩ = some (.int .i64 0) ∧ w''.cell? ⟨w.heap.size, 8, none⟩ = some (.string ⟨#[105, 116, 39, 115]⟩) ∧ w''.cell? ⟨w.heap.size, 9, none⟩ = some (.int .i64 3) ∧ w''.cell? ⟨w.heap.size, 10, none⟩ = some (.int .i64 1) ∧ w''.cell? ⟨w.heap.size, 11, none⟩ = some (.string ⟨#[]⟩)) := fun w' ⟨k, _⟩ =>
    (same_is _ _ 4 qc 4 aw rfl (by omega) w' (R2.next k) (Q2.next k)).mono (by rintro e w'' ⟨rfl, q⟩; exact ⟨rfl, Below.next k q, AC _ (Below.next k q)⟩)
  have HSh : Hid (∀ w', (Below w2.heap.size w2 w' ∧ w'.cell? ⟨w.heap.size, 0, none⟩ = some (.int .i64 0) ∧ w'.cell? ⟨w.heap.size, 1, none⟩ = some (.int .i64 0) ∧ w'.cell? ⟨w.heap.size, 2, none⟩ = some (.string ⟨#[]⟩) ∧ w'.cell? ⟨w.heap.size, 3, none⟩ = some (.int .i64 1) ∧ w'.cell? ⟨w.heap.size, 4, none⟩ = some (.int .i64 (-5)) ∧ w'.cell? ⟨w.heap.size, 5, none⟩ = some (.string ⟨#[]⟩) ∧ w'.cell? ⟨w.heap.size, 6, none⟩ = some (.int .i64 2) ∧ w'.cell? ⟨w.heap.size, 7, none⟩ = some (.int .i64 0) ∧ w'.cell? ⟨w.heap.size, 8, none⟩ = some (.string ⟨#[105, 116, 39, 115]⟩) ∧ w'.cell? ⟨w.heap.size, 9, none⟩ = some (.int .i64 3) ∧ w'.cell? ⟨w.heap.size, 10, none⟩ = some (.int .i64 1) ∧ w'.cell? ⟨w.heap.size, 11, none⟩ = some (.string ⟨#[]⟩)) → Calls Tryd.prog 21 #[.agg #[.int .i64 2, .int .i64 0, .string ⟨#[105, 116, 39, 115]⟩]] w' fun e w'' => e = .returned (.string ⟨#[39, 105, 116, 39, 39, 115, 39]⟩) ∧ Below w2.heap.size w2 w'' ∧ w''.cell? ⟨w.heap.size, 0, none⟩ = some (.int .i64 0) ∧ w''.cell? ⟨w.heap.size, 1, none⟩ = some (.int .i64 0) ∧ w''.cell? ⟨w.heap.size, 2, none⟩ = some (.string ⟨#[]⟩) ∧ w''.cell? ⟨w.heap.size, 3, none⟩ = some (.int .i64 1) ∧ w''.cell? ⟨w.heap.size, 4, none⟩ = some (.int .i64 (-5)) ∧ w''.cell? ⟨w.heap.size, 5, none⟩ = some (.string ⟨#[]⟩) ∧ w''.cell? ⟨w.heap.size, 6, none⟩ = some (.int .i64 2) ∧ w''.cell? ⟨w.heap.size, 7, none⟩ = some (.int .i64 0) ∧ w''.cell? ⟨w.heap.size, 8, none⟩ = some (.string ⟨#[105, 116, 39, 115]⟩) ∧ w''.cell? ⟨w.heap.size, 9, none⟩ = some (.int .i64 3) ∧ w''.cell? ⟨w.heap.size, 10, none⟩ = some (.int .i64 1) ∧ w''.cell? ⟨w.heap.size, 11, none⟩ = some (.string ⟨#[]⟩)) := fun w' ⟨k, _⟩ =>
    (show_text ⟨#[105, 116, 39, 115]⟩ (by decide) w' (hgl.next k)).mono (by
      rintro e w'' ⟨rfl, q⟩
      refine ⟨?_, Below.next k q, AC _ (Below.next k q)⟩
      have e1 : Lib.replaceAll (⟨#[105, 116, 39, 115]⟩ : ByteArray).data.toList [39] [39, 39] = [105, 116, 39, 39, 115] := aw_show
      rw [e1]
      rfl)
  have HCm : Hid (∀ w', (Below w2.heap.size w2 w' ∧ w'.cell? ⟨w.heap.size, 0, none⟩ = some (.int .i64 0) ∧ w'.cell? ⟨w.heap.size, 1, none⟩ = some (.int .i64 0) ∧ w'.cell? ⟨w.heap.size, 2, none⟩ = some (.string ⟨#[]⟩) ∧ w'.cell? ⟨w.heap.size, 3, none⟩ = some (.int .i64 1) ∧ w'.cell? ⟨w.heap.size, 4, none⟩ = some (.int .i64 (-5)) ∧ w'.cell? ⟨w.heap.size, 5, none⟩ = some (.string ⟨#[]⟩) ∧ w'.cell? ⟨w.heap.size, 6, none⟩ = some (.int .i64 2) ∧ w'.cell? ⟨w.heap.size, 7, none⟩ = some (.int .i64 0) ∧ w'.cell? ⟨w.heap.size, 8, none⟩ = some (.string ⟨#[105, 116, 39, 115]⟩) ∧ w'.cell? ⟨w.heap.size, 9, none⟩ = some (.int .i64 3) ∧ w'.cell? ⟨w.heap.size, 10, none⟩ = some (.int .i64 1) ∧ w'.cell? ⟨w.heap.size, 11, none⟩ = some (.string ⟨#[]⟩)) → Calls Tryd.prog 8 #[.agg #[.int .i64 0, .int .i64 0, .string ⟨#[]⟩], .agg #[.int .i64 1, .int .i64 (-5), .string ⟨#[]⟩]] w' fun e w'' => e = .returned (.int .i64 (-1)) ∧ Below w2.heap.size w2 w'' ∧ w''.cell? ⟨w.heap.size, 0, none⟩ = some (.int .i64 0) ∧ w''.cell? ⟨w.heap.size, 1, none⟩ = some (.int .i64 0) ∧ w''.cell? ⟨w.heap.size, 2, none⟩ = some (.string ⟨#[]⟩) ∧ w''.cell? ⟨w.heap.size, 3, none⟩ = some (.int .i64 1) ∧ w''.cell? ⟨w.heap.size, 4, none⟩ = some (.int .i64 (-5)) ∧ w''.cell? ⟨w.heap.size, 5, none⟩ = some (.string ⟨#[]⟩) ∧ w''.cell? ⟨w.heap.size, 6, none⟩ = some (.int .i64 2) ∧ w''.cell? ⟨w.heap.size, 7, none⟩ = some (.int .i64 0) ∧ w''.cell? ⟨w.heap.size, 8, none⟩ = some (.string ⟨#[105, 116, 39, 115]⟩) ∧ w''.cell? ⟨w.heap.size, 9, none⟩ = some (.int .i64 3) ∧ w''.cell? ⟨w.heap.size, 10, none⟩ = some (.int .i64 1) ∧ w''.cell? ⟨w.heap.size, 11, none⟩ = some (.string ⟨#[]⟩)) := fun w' ⟨k, _⟩ =>
    (compare_is 0 0 1 (-5) ⟨#[]⟩ ⟨#[]⟩ w').mono (by
      rintro e w'' ⟨rfl, q⟩
      rw [aw_cmp]
      exact ⟨rfl, Below.next k q, AC _ (Below.next k q)⟩)
  have HCk : Hid (∀ w', (Below w2.heap.size w2 w' ∧ w'.cell? ⟨w.heap.size, 0, none⟩ = some (.int .i64 0) ∧ w'.cell? ⟨w.heap.size, 1, none⟩ = some (.int .i64 0) ∧ w'.cell? ⟨w.heap.size, 2, none⟩ = some (.string ⟨#[]⟩) ∧ w'.cell? ⟨w.heap.size, 3, none⟩ = some (.int .i64 1) ∧ w'.cell? ⟨w.heap.size, 4, none⟩ = some (.int .i64 (-5)) ∧ w'.cell? ⟨w.heap.size, 5, none⟩ = some (.string ⟨#[]⟩) ∧ w'.cell? ⟨w.heap.size, 6, none⟩ = some (.int .i64 2) ∧ w'.cell? ⟨w.heap.size, 7, none⟩ = some (.int .i64 0) ∧ w'.cell? ⟨w.heap.size, 8, none⟩ = some (.string ⟨#[105, 116, 39, 115]⟩) ∧ w'.cell? ⟨w.heap.size, 9, none⟩ = some (.int .i64 3) ∧ w'.cell? ⟨w.heap.size, 10, none⟩ = some (.int .i64 1) ∧ w'.cell? ⟨w.heap.size, 11, none⟩ = some (.string ⟨#[]⟩)) → Calls Tryd.prog 10 #[.agg #[.int .i64 3, .int .i64 1, .string ⟨#[]⟩]] w' fun e w'' => e = .returned (.int .i64 0) ∧ Below w2.heap.size w2 w'' ∧ w''.cell? ⟨w.heap.size, 0, none⟩ = some (.int .i64 0) ∧ w''.cell? ⟨w.heap.size, 1, none⟩ = some (.int .i64 0) ∧ w''.cell? ⟨w.heap.size, 2, none⟩ = some (.string ⟨#[]⟩) ∧ w''.cell? ⟨w.heap.size, 3, none⟩ = some (.int .i64 1) ∧ w''.cell? ⟨w.heap.size, 4, none⟩ = some (.int .i64 (-5)) ∧ w''.cell? ⟨w.heap.size, 5, none⟩ = some (.string ⟨#[]⟩) ∧ w''.cell? ⟨w.heap.size, 6, none⟩ = some (.int .i64 2) ∧ w''.cell? ⟨w.heap.size, 7, none⟩ = some (.int .i64 0) ∧ w''.cell? ⟨w.heap.size, 8, none⟩ = some (.string ⟨#[105, 116, 39, 115]⟩) ∧ w''.cell? ⟨w.heap.size, 9, none⟩ = some (.int .i64 3) ∧ w''.cell? ⟨w.heap.size, 10, none⟩ = some (.int .i64 1) ∧ w''.cell? ⟨w.heap.size, 11, none⟩ = some (.string ⟨#[]⟩)) := fun w' ⟨k, _⟩ =>
    (check_is 3 1 ⟨#[]⟩ (by decide) w').mono (by
      rintro e w'' ⟨rfl, q⟩
      rw [if_pos aw_may]
      exact ⟨rfl, Below.next k q, AC _ (Below.next k q)⟩)
  have HBB : Hid (Below w.heap.size w w2) := B2
  have KD : Below w2.heap.size w2 w2.drew := (Below.refl _ _).drew
  have HAD : Hid (Aw w2.drew w.heap.size) := AC _ KD
  clear AC R2 Q2 B2 HB2 hgl HG
  go_wp2_with fail
  go_region_held (fun (w' : World) => Below w2.heap.size w2 w' ∧ w'.cell? ⟨w.heap.size, 0, none⟩ = some (.int .i64 0) ∧ w'.cell? ⟨w.heap.size, 1, none⟩ = some (.int .i64 0) ∧ w'.cell? ⟨w.heap.size, 2, none⟩ = some (.string ⟨#[]⟩) ∧ w'.cell? ⟨w.heap.size, 3, none⟩ = some (.int .i64 1) ∧ w'.cell? ⟨w.heap.size, 4, none⟩ = some (.int .i64 (-5)) ∧ w'.cell? ⟨w.heap.size, 5, none⟩ = some (.string ⟨#[]⟩) ∧ w'.cell? ⟨w.heap.size, 6, none⟩ = some (.int .i64 2) ∧ w'.cell? ⟨w.heap.size, 7, none⟩ = some (.int .i64 0) ∧ w'.cell? ⟨w.heap.size, 8, none⟩ = some (.string ⟨#[105, 116, 39, 115]⟩) ∧ w'.cell? ⟨w.heap.size, 9, none⟩ = some (.int .i64 3) ∧ w'.cell? ⟨w.heap.size, 10, none⟩ = some (.int .i64 1) ∧ w'.cell? ⟨w.heap.size, 11, none⟩ = some (.string ⟨#[]⟩)) (first | assumption | exact ⟨KD, HAD.out⟩)
    (first
    | (refine Calls.mono (HS.out _ (by assumption)) ?_; rintro e w3 ⟨rfl, hS3⟩)
    | (refine Calls.mono (HSh.out _ (by assumption)) ?_; rintro e w3 ⟨rfl, hS3⟩)
    | (refine Calls.mono (HCm.out _ (by assumption)) ?_; rintro e w3 ⟨rfl, hS3⟩)
    | (refine Calls.mono (HCk.out _ (by assumption)) ?_; rintro e w3 ⟨rfl, hS3⟩))
  all_goals go_wp2_with fail
  all_goals go_ret
  all_goals exact ⟨rfl, Below.next HBB.out (And.left (by assumption))⟩
end Go.Proofs.YtmjajlmknncggaaDoor
