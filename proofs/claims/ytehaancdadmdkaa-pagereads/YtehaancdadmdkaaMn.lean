/- New, Copy. -/
import Derived.Test.YtehaancdadmdkaaLy
import Derived.Laws.MakeOwn
namespace Go.Proofs.Ytehaancdadmdkaa
open Go.ChangeShapes Go.WideShapes Go.ChangeAt Go.RowKit
set_option linter.unusedVariables false
set_option maxRecDepth 100000

theorem info58 : (Try.prog.info? 58).map (fun i => (i.zero, i.size)) = some (some (.agg (Array.replicate 256 (.int .u8 0))), 256) := by kernel_rfl
theorem info_of58 : ∃ i, Try.prog.info? 58 = some i ∧ i.zero = some (.agg (Array.replicate 256 (.int .u8 0))) ∧ i.size = 256 := by
  have h := info58
  cases hi : Try.prog.info? 58 with
  | none => rw [hi] at h; cases h
  | some i =>
    rw [hi] at h
    simp only [Option.map_some, Option.some.injEq, Prod.mk.injEq] at h
    exact ⟨i, rfl, h⟩
theorem bv_zs_array : (bv (zs 256)).toArray = Array.replicate 256 (.int .u8 0) := by
  rw [bv_zs]
  exact (List.toArray_replicate (n := 256) (v := Value.int .u8 0))
theorem cells_agg_rep : (Value.agg (Array.replicate 256 (.int .u8 0))).cells = Array.replicate 256 (.int .u8 0) := by kernel_rfl
theorem alloc58 (w : World) : (Instr.alloc 58 true (.tuple #[])).run Try.prog w = .ok (.pointer (some ⟨w.heap.size, 0, none⟩)) (w.alloc (.cells (bv (zs 256)).toArray 58)) := by
  obtain ⟨i, hi, hz, hs⟩ := info_of58
  rw [bv_zs_array]
  simp [Instr.alloc, newVar, zeroValue, typeInfo, hi, hz, go_sem]
theorem load58 {w : World} {p : Nat} {B : List UInt8} (h : Pg w p B) : (Instr.loadAt 58 (.pointer (some ⟨p, 0, none⟩))).run Try.prog w = .ok (.agg (bv B).toArray) w := by
  have hl := run_loadCells_list (P := Try.prog) w ⟨p, 0, none⟩ (bv B) (fun j x hx => by
    rw [Go.WideShapes.add_plain, Nat.zero_add, cell_of_row w p j _ 58 (0, 0) h.blk]
    rw [← hx]
    simp)
  rw [bv_len, h.len] at hl
  obtain ⟨i, hi, hz, hs⟩ := info_of58
  simp [Instr.loadAt, Instr.sureAddr, loadVar, Sem.run_bind, sizeOf, typeInfo, hi, hs, hl]

theorem heap_new (w : World) (o : Obj) : (w.alloc o).heap[w.heap.size]? = some o := by
  show (w.heap.push o)[w.heap.size]? = some o
  exact Array.getElem?_push_size
theorem store58 (w : World) (B : List UInt8) (hB : B.length = 256) (Z : Array Value) (hZ : Z.size = 256) : (Instr.storeAt 58 (.pointer (some ⟨w.heap.size, 0, none⟩)) (.agg (bv B).toArray)).run Try.prog (w.alloc (.cells Z 58)) = .ok () (w.alloc (.cells (bv B).toArray 58)) := by
  obtain ⟨i, hi, hz, h2⟩ := info_of58
  simp only [Instr.storeAt, Instr.sureAddr, Sem.run_bind, Sem.run_pure, Result.andThen]
  have hh : (w.alloc (.cells Z 58)).heap[w.heap.size]? = some (.cells Z 58 (0, 0)) := heap_new w _
  have := run_storeVar_row (P := Try.prog) (w.alloc (.cells Z 58)) w.heap.size 58 58 Z (bv B).toArray hh (by rw [hi]; simp [h2, bv_len, hB]) (by simp [bv_len, hB, hZ]) (by rw [Array.all_eq_true]; intro k hk; exact bv_one B _ (by simp))
  rw [this]
  congr 1
  simp only [World.setRow, World.alloc]
  congr 1
  apply Array.ext_getElem?
  intro k
  rw [Array.getElem?_modify]
  by_cases h : w.heap.size = k
  · subst h
    simp
  · have h' : ¬ k = w.heap.size := fun e => h e.symm
    simp [h, h', Array.getElem?_push]
theorem pg_new (w : World) (B : List UInt8) (hB : B.length = 256) : Pg (w.alloc (.cells (bv B).toArray 58)) w.heap.size B := ⟨heap_new w _, hB⟩
theorem lay_none (kd : UInt8) : (zs 256).set 0 kd = lay kd [] := by
  have e : zs 256 = 0 :: zs 255 := rfl
  rw [e]
  show kd :: zs 255 = hd kd 0 0 ++ ([] ++ (zs 248 ++ []))
  rfl
set_option maxHeartbeats 1000000 in
theorem empty_is (kd : UInt8) (w : World) : Calls Try.prog 30 #[.int .u8 (kd.toNat : Int)] w fun e w' => ∃ p, e = .returned (.pointer (some ⟨p, 0, none⟩)) ∧ Pg w' p (lay kd []) ∧ Kept (fun _ => False) w w' ∧ w.heap.size ≤ p := by
  have HA : Hid ((Instr.alloc 58 true (.tuple #[])).run Try.prog w = .ok (.pointer (some ⟨w.heap.size, 0, none⟩)) (w.alloc (.cells (bv (zs 256)).toArray 58))) := alloc58 w
  have hP0 := pg_new w (zs 256) (by simp)
  have hK0 : Kept (fun _ => False) w (w.alloc (.cells (bv (zs 256)).toArray 58)) := (Kept.refl _ w).alloc _
  obtain ⟨W, hW⟩ : ∃ W, w.alloc (.cells (bv (zs 256)).toArray 58) = W := ⟨_, rfl⟩
  obtain ⟨p, hp⟩ : ∃ p, w.heap.size = p := ⟨_, rfl⟩
  rw [hW] at HA hP0 hK0
  rw [hp] at HA hP0
  have HP : Hid (Pg W p (zs 256) ∧ Kept (fun _ => False) w W ∧ w.heap.size ≤ p) := ⟨hP0, hK0, Nat.le_of_eq hp⟩
  have c0 := hP0.cell 0 (by decide)
  have f0 := hP0.fz
  clear hP0 hK0 hW hp
  go_enter Try.func30, Try.ntmps30
  go_wp2_with ((with_reducible apply st_alloc); (case ho => rfl); (case hgd => rfl); (case hr => exact HA.out))
  have hP1 := HP.out.1.set1 0 kd
  rw [lay_none] at hP1
  have HP1 : Hid (Pg (W.setCell ⟨p, 0, none⟩ (.int .u8 (kd.toNat : Int))) p (lay kd []) ∧ Kept (fun _ => False) w (W.setCell ⟨p, 0, none⟩ (.int .u8 (kd.toNat : Int))) ∧ w.heap.size ≤ p) := ⟨hP1, HP.out.2.1.setCell (p := ⟨p, 0, none⟩) (.inr HP.out.2.2) _, HP.out.2.2⟩
  clear hP1 HP
  go_ret
  exact ⟨p, rfl, HP1.out⟩
theorem new_is (k : Nat) (h1 : 1 ≤ k) (h2 : k ≤ 255) (w : World) : Calls Try.prog 9 #[.int .i64 (k : Int)] w fun e w' => ∃ p, e = .returned (.tuple #[.pointer (some ⟨p, 0, none⟩), .int .i64 0]) ∧ Pg w' p (lay (UInt8.ofNat k) []) ∧ Kept (fun _ => False) w w' ∧ w.heap.size ≤ p := by
  have HE : Hid (Calls Try.prog 30 #[.int .u8 (k : Int)] w fun e w' => ∃ p, e = .returned (.pointer (some ⟨p, 0, none⟩)) ∧ Hid (Pg w' p (lay (UInt8.ofNat k) []) ∧ Kept (fun _ => False) w w' ∧ w.heap.size ≤ p)) := by
    have := empty_is (UInt8.ofNat k) w
    rw [byteAt_val k (by omega)] at this
    exact this
  have c1 : ¬ (k : Int) < 1 := by omega
  have c2 : ¬ (255 : Int) < (k : Int) := by omega
  have c3 : IntKind.u8.wrap (k : Int) = (k : Int) := wrap8 k (by omega)
  have c4 : (k : Int) % 256 = (k : Int) := by omega
  go_enter Try.func9, Try.ntmps9
  go_wp2_with fail
  refine Calls.mono HE.out ?_; rintro e w1 ⟨p, rfl, HP⟩
  go_wp2_with fail
  go_ret2
  exact ⟨p, rfl, HP.out⟩
theorem new_no (k : Int) (h : k < 1 ∨ 255 < k) (w : World) : Calls Try.prog 9 #[.int .i64 k] w fun e w' => e = .returned (.tuple #[.pointer none, .int .i64 1]) ∧ w' = w := by
  by_cases c : k < 1
  · go_enter Try.func9, Try.ntmps9
    go_wp2
    go_ret2
    exact ⟨rfl, rfl⟩
  · have c' : 255 < k := by omega
    go_enter Try.func9, Try.ntmps9
    go_wp2
    go_ret2
    exact ⟨rfl, rfl⟩
theorem copy_no {w : World} {v : Value} (h : Calls Try.prog 37 #[v] w fun e w' => e = .returned (.bool false) ∧ ∃ m, w' = w.drewN m) : Calls Try.prog 28 #[v] w fun e w' => e = .returned (.pointer none) ∧ ∃ m, w' = w.drewN m := by
  have H : Hid (Calls Try.prog 37 #[v] w fun e w' => e = .returned (.bool false) ∧ ∃ m, w' = w.drewN m) := h
  clear h
  go_enter Try.func28, Try.ntmps28
  go_wp2_with fail
  refine Calls.mono H.out ?_; rintro e w1 ⟨rfl, m, rfl⟩
  go_wp2_with fail
  go_ret
  exact ⟨rfl, m, rfl⟩
set_option maxHeartbeats 1000000 in
theorem copy_is {w : World} {p : Nat} {B : List UInt8} (h : Pg w p B) (h0 : byteAt B 0 ≠ 0) : Calls Try.prog 28 #[.pointer (some ⟨p, 0, none⟩)] w fun e w' => ∃ q, e = .returned (.pointer (some ⟨q, 0, none⟩)) ∧ Pg w' q B ∧ Kept (fun _ => False) w w' ∧ w.heap.size ≤ q := by
  have e0 : (byteAt B 0 != 0) = true := by simp [h0]
  have H37 : Hid (Calls Try.prog 37 #[.pointer (some ⟨p, 0, none⟩)] w fun e w' => e = .returned (.bool true) ∧ ∃ m, w' = w.drewN m) := by have := is_is h; rw [e0] at this; exact this
  have HPw : Hid (Pg w p B) := h
  clear h h0 e0
  go_enter Try.func28, Try.ntmps28
  go_wp2_with fail
  refine Calls.mono H37.out ?_; rintro e w1 ⟨rfl, m, hw1⟩
  have HP1 : Hid (Pg w1 p B ∧ Kept (fun _ => False) w w1) := by rw [hw1]; exact ⟨HPw.out.dr m, (Kept.refl _ _).drewN m⟩
  have HL : Hid ((Instr.loadAt 58 (.pointer (some ⟨p, 0, none⟩))).run Try.prog w1 = .ok (.agg (bv B).toArray) w1) := load58 HP1.out.1
  have HA : Hid ((Instr.alloc 58 true (.tuple #[])).run Try.prog w1 = .ok (.pointer (some ⟨w1.heap.size, 0, none⟩)) (w1.alloc (.cells (bv (zs 256)).toArray 58))) := alloc58 w1
  have HS : Hid ((Instr.storeAt 58 (.pointer (some ⟨w1.heap.size, 0, none⟩)) (.agg (bv B).toArray)).run Try.prog (w1.alloc (.cells (bv (zs 256)).toArray 58)) = .ok () (w1.alloc (.cells (bv B).toArray 58))) := store58 w1 B HP1.out.1.len _ (by simp [bv_len])
  have HG : Hid (Pg (w1.alloc (.cells (bv B).toArray 58)) w1.heap.size B ∧ Kept (fun _ => False) w (w1.alloc (.cells (bv B).toArray 58)) ∧ w.heap.size ≤ w1.heap.size) := ⟨pg_new w1 B HP1.out.1.len, HP1.out.2.alloc _, HP1.out.2.size⟩
  clear hw1 H37 HPw HP1
  generalize (bv B).toArray = C at *
  generalize (bv (zs 256)).toArray = Z at *
  go_wp2_with (first | ((with_reducible apply st_load); (case ho => rfl); (case hgd => rfl); (case hr => exact HL.out)) | ((with_reducible apply st_alloc); (case ho => rfl); (case hgd => rfl); (case hr => exact HA.out)) | ((with_reducible apply st_store); (case ho => rfl); (case hgd => rfl); (case hr => exact HS.out)))
  go_ret
  exact ⟨_, rfl, HG.out⟩
end Go.Proofs.Ytehaancdadmdkaa
