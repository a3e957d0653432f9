/- Tokens of each kind. -/
import Derived.Test.YtgokilochbnbaaaDoorMm
namespace Go.Proofs.YtgokilochbnbaaaDoor
open Go.ChangeShapes Go.WideShapes Go.ChangeAt Go.RowKit
set_option linter.unusedVariables false
set_option maxRecDepth 100000

theorem str_head (s : ByteArray) (hi : Nat) (h2 : hi ≤ s.size) (W : World) : (Instr.sliceAt 9 (.string s) none (some (.int .i64 (hi : Int))) none).run Tryd.prog W = .ok (.string (s.extract 0 hi)) W := by
  rw [run_sliceAt_string W 9 _ _ _ _ Tryd.underlying9]
  have h0 : (0 : Int) ≤ (hi : Int) ∧ (hi : Int) ≤ (s.size : Int) := by omega
  simp [go_sem, Tryd.underlying9, h0]
theorem word_long (s A U : ByteArray) (N : Nat) (hN : (N : Int) ≤ (s.size : Int)) (hs : s.size ≤ 100000) (hA : s.extract 0 N = A) (hl : 64 < (N : Int)) (H1 : Hid (∀ w, Calls Tryd.prog 35 #[.string s, .func (.func 61) #[] #[]] w fun e w' => e = .returned (.int .i64 (N : Int)) ∧ Below w.heap.size w w')) (w : World) : Calls Tryd.prog 41 #[.string s] w fun e w' => e = .returned (.tuple #[tv 0 ⟨#[]⟩ 0 0, .int .i64 0]) ∧ Below w.heap.size w w' := by
  have HZ : Hid (CellsF (w.alloc (.cells #[.int .i64 0, .string ⟨#[]⟩, .int .i64 0, .int .i64 0] 29)) w.heap.size nilT) := CellsF.new w nilT 29 (by simp)
  have HW : Hid (Below w.heap.size w (w.alloc (.cells #[.int .i64 0, .string ⟨#[]⟩, .int .i64 0, .int .i64 0] 29))) := below1 _ _
  go_enter Tryd.func41, Tryd.ntmps41
  go_wp2_with fail
  refine Calls.mono (H1.out _) ?_; rintro e w1 ⟨rfl, k1⟩
  have HZ1 : Hid (CellsF w1 w.heap.size nilT) := HZ.out.next k1
  have HB1 : Hid (Below w.heap.size w w1) := Below.next HW.out k1
  clear k1
  have z0 : w1.cell? ⟨w.heap.size, 0, none⟩ = some (.int .i64 0) := HZ1.out.cs 0 _ rfl
  have z1 : w1.cell? ⟨w.heap.size, 1, none⟩ = some (.string ⟨#[]⟩) := HZ1.out.cs 1 _ rfl
  have z2 : w1.cell? ⟨w.heap.size, 2, none⟩ = some (.int .i64 0) := HZ1.out.cs 2 _ rfl
  have z3 : w1.cell? ⟨w.heap.size, 3, none⟩ = some (.int .i64 0) := HZ1.out.cs 3 _ rfl
  have f0 := HZ1.out.fz 0
  have f1 := HZ1.out.fz 1
  have f2 := HZ1.out.fz 2
  have f3 := HZ1.out.fz 3
  go_wp2_with fail
  try simp only [Exit.inBlock, Exit.then]
  refine bodyPost_ret (end_cell_tmp rfl rfl (loadTok _ (HZ1.out.four rfl _ _ _ _) rfl)) rfl ?_
  exact ⟨rfl, below_four HB1.out _ (Nat.le_refl _) _ _ _ _⟩
theorem word_key (s A U : ByteArray) (N : Nat) (hN : (N : Int) ≤ (s.size : Int)) (hs : s.size ≤ 100000) (hA : s.extract 0 N = A) (hl : ¬ 64 < (N : Int)) (H1 : Hid (∀ w, Calls Tryd.prog 35 #[.string s, .func (.func 61) #[] #[]] w fun e w' => e = .returned (.int .i64 (N : Int)) ∧ Below w.heap.size w w')) (H2 : Hid (∀ w, Calls Tryd.prog 24 #[.string A] w fun e w' => e = .returned (.string A) ∧ Below w.heap.size w w')) (H3 : Hid (∀ w, Calls Tryd.prog 62 #[.string A] w fun e w' => e = .returned (.string U) ∧ Below w.heap.size w w')) (H4 : Hid (∀ w, Calls Tryd.prog 14 #[.string U] w fun e w' => e = .returned (.bool true) ∧ w' = w)) (w : World) : Calls Tryd.prog 41 #[.string s] w fun e w' => e = .returned (.tuple #[tv 2 U 0 0, .int .i64 (N : Int)]) ∧ Below w.heap.size w w' := by
  have hSL : ∀ W, (Instr.sliceAt 9 (.string s) none (some (.int .i64 (N : Int))) none).run Tryd.prog W = .ok (.string A) W := fun W => by rw [← hA]; exact str_head s N (by omega) W
  clear hA
  have HZ : Hid (CellsF (w.alloc (.cells #[.int .i64 0, .string ⟨#[]⟩, .int .i64 0, .int .i64 0] 29)) w.heap.size nilT) := CellsF.new w nilT 29 (by simp)
  have HW : Hid (Below w.heap.size w (w.alloc (.cells #[.int .i64 0, .string ⟨#[]⟩, .int .i64 0, .int .i64 0] 29))) := below1 _ _
  go_enter Tryd.func41, Tryd.ntmps41
  go_wp2_with fail
  refine Calls.mono (H1.out _) ?_; rintro e w1 ⟨rfl, k1⟩
  have HZ1 : Hid (CellsF w1 w.heap.size nilT) := HZ.out.next k1
  have HB1 : Hid (Below w.heap.size w w1) := Below.next HW.out k1
  clear k1
  go_wp2_with fail
  refine Calls.mono (H2.out _) ?_; rintro e w2 ⟨rfl, k2⟩
  have HZ2 : Hid (CellsF w2 w.heap.size nilT) := HZ1.out.next k2
  have HB2 : Hid (Below w.heap.size w w2) := Below.next HB1.out k2
  clear k2
  go_wp2_with fail
  refine Calls.mono (H3.out _) ?_; rintro e w3 ⟨rfl, k3⟩
  have HZ3 : Hid (CellsF w3 w.heap.size nilT) := HZ2.out.next k3
  have HB3 : Hid (Below w.heap.size w w3) := Below.next HB2.out k3
  clear k3
  go_wp2_with fail
  refine Calls.mono (H4.out _) ?_; rintro e w4 ⟨rfl, rfl⟩
  have z0 : w4.cell? ⟨w.heap.size, 0, none⟩ = some (.int .i64 0) := HZ3.out.cs 0 _ rfl
  have z1 : w4.cell? ⟨w.heap.size, 1, none⟩ = some (.string ⟨#[]⟩) := HZ3.out.cs 1 _ rfl
  have z2 : w4.cell? ⟨w.heap.size, 2, none⟩ = some (.int .i64 0) := HZ3.out.cs 2 _ rfl
  have z3 : w4.cell? ⟨w.heap.size, 3, none⟩ = some (.int .i64 0) := HZ3.out.cs 3 _ rfl
  have f0 := HZ3.out.fz 0
  have f1 := HZ3.out.fz 1
  have f2 := HZ3.out.fz 2
  have f3 := HZ3.out.fz 3
  go_wp2_with fail
  try simp only [Exit.inBlock, Exit.then]
  refine bodyPost_ret (end_cell_tmp rfl rfl (loadTok _ (HZ3.out.four rfl _ _ _ _) rfl)) rfl ?_
  exact ⟨rfl, below_four HB3.out _ (Nat.le_refl _) _ _ _ _⟩
theorem word_name (s A U : ByteArray) (N : Nat) (hN : (N : Int) ≤ (s.size : Int)) (hs : s.size ≤ 100000) (hA : s.extract 0 N = A) (hl : ¬ 64 < (N : Int)) (H1 : Hid (∀ w, Calls Tryd.prog 35 #[.string s, .func (.func 61) #[] #[]] w fun e w' => e = .returned (.int .i64 (N : Int)) ∧ Below w.heap.size w w')) (H2 : Hid (∀ w, Calls Tryd.prog 24 #[.string A] w fun e w' => e = .returned (.string A) ∧ Below w.heap.size w w')) (H3 : Hid (∀ w, Calls Tryd.prog 62 #[.string A] w fun e w' => e = .returned (.string U) ∧ Below w.heap.size w w')) (H4 : Hid (∀ w, Calls Tryd.prog 14 #[.string U] w fun e w' => e = .returned (.bool false) ∧ w' = w)) (w : World) : Calls Tryd.prog 41 #[.string s] w fun e w' => e = .returned (.tuple #[tv 1 A 0 0, .int .i64 (N : Int)]) ∧ Below w.heap.size w w' := by
  have hSL : ∀ W, (Instr.sliceAt 9 (.string s) none (some (.int .i64 (N : Int))) none).run Tryd.prog W = .ok (.string A) W := fun W => by rw [← hA]; exact str_head s N (by omega) W
  clear hA
  have HZ : Hid (CellsF (w.alloc (.cells #[.int .i64 0, .string ⟨#[]⟩, .int .i64 0, .int .i64 0] 29)) w.heap.size nilT) := CellsF.new w nilT 29 (by simp)
  have HW : Hid (Below w.heap.size w (w.alloc (.cells #[.int .i64 0, .string ⟨#[]⟩, .int .i64 0, .int .i64 0] 29))) := below1 _ _
  go_enter Tryd.func41, Tryd.ntmps41
  go_wp2_with fail
  refine Calls.mono (H1.out _) ?_; rintro e w1 ⟨rfl, k1⟩
  have HZ1 : Hid (CellsF w1 w.heap.size nilT) := HZ.out.next k1
  have HB1 : Hid (Below w.heap.size w w1) := Below.next HW.out k1
  clear k1
  go_wp2_with fail
  refine Calls.mono (H2.out _) ?_; rintro e w2 ⟨rfl, k2⟩
  have HZ2 : Hid (CellsF w2 w.heap.size nilT) := HZ1.out.next k2
  have HB2 : Hid (Below w.heap.size w w2) := Below.next HB1.out k2
  clear k2
  go_wp2_with fail
  refine Calls.mono (H3.out _) ?_; rintro e w3 ⟨rfl, k3⟩
  have HZ3 : Hid (CellsF w3 w.heap.size nilT) := HZ2.out.next k3
  have HB3 : Hid (Below w.heap.size w w3) := Below.next HB2.out k3
  clear k3
  go_wp2_with fail
  refine Calls.mono (H4.out _) ?_; rintro e w4 ⟨rfl, rfl⟩
  have z0 : w4.cell? ⟨w.heap.size, 0, none⟩ = some (.int .i64 0) := HZ3.out.cs 0 _ rfl
  have z1 : w4.cell? ⟨w.heap.size, 1, none⟩ = some (.string ⟨#[]⟩) := HZ3.out.cs 1 _ rfl
  have z2 : w4.cell? ⟨w.heap.size, 2, none⟩ = some (.int .i64 0) := HZ3.out.cs 2 _ rfl
  have z3 : w4.cell? ⟨w.heap.size, 3, none⟩ = some (.int .i64 0) := HZ3.out.cs 3 _ rfl
  have f0 := HZ3.out.fz 0
  have f1 := HZ3.out.fz 1
  have f2 := HZ3.out.fz 2
  have f3 := HZ3.out.fz 3
  go_wp2_with fail
  try simp only [Exit.inBlock, Exit.then]
  refine bodyPost_ret (end_cell_tmp rfl rfl (loadTok _ (HZ3.out.four rfl _ _ _ _) rfl)) rfl ?_
  exact ⟨rfl, below_four HB3.out _ (Nat.le_refl _) _ _ _ _⟩
theorem digits_bad (s A : ByteArray) (N : Nat) (hN : (N : Int) ≤ (s.size : Int)) (hs : s.size ≤ 100000) (hA : s.extract 0 N = A) (v x : Int) (hx : (x != 0) = true) (H1 : Hid (∀ w, Calls Tryd.prog 35 #[.string s, .func (.func 43) #[] #[]] w fun e w' => e = .returned (.int .i64 (N : Int)) ∧ Below w.heap.size w w')) (H2 : Hid (∀ w, Calls Tryd.prog 64 #[.string A] w fun e w' => e = .returned (.tuple #[.int .i64 v, .int .i64 x]) ∧ w' = w)) (w : World) : Calls Tryd.prog 44 #[.string s] w fun e w' => e = .returned (.tuple #[tv 0 ⟨#[]⟩ 0 0, .int .i64 0]) ∧ Below w.heap.size w w' := by
  have hSL : ∀ W, (Instr.sliceAt 9 (.string s) none (some (.int .i64 (N : Int))) none).run Tryd.prog W = .ok (.string A) W := fun W => by rw [← hA]; exact str_head s N (by omega) W
  clear hA
  have HZ : Hid (CellsF (w.alloc (.cells #[.int .i64 0, .string ⟨#[]⟩, .int .i64 0, .int .i64 0] 29)) w.heap.size nilT) := CellsF.new w nilT 29 (by simp)
  have HW : Hid (Below w.heap.size w (w.alloc (.cells #[.int .i64 0, .string ⟨#[]⟩, .int .i64 0, .int .i64 0] 29))) := below1 _ _
  go_enter Tryd.func44, Tryd.ntmps44
  go_wp2_with fail
  refine Calls.mono (H1.out _) ?_; rintro e w1 ⟨rfl, k1⟩
  have HZ1 : Hid (CellsF w1 w.heap.size nilT) := HZ.out.next k1
  have HB1 : Hid (Below w.heap.size w w1) := Below.next HW.out k1
  clear k1
  go_wp2_with fail
  refine Calls.mono (H2.out _) ?_; rintro e w2 ⟨rfl, rfl⟩
  have z0 : w2.cell? ⟨w.heap.size, 0, none⟩ = some (.int .i64 0) := HZ1.out.cs 0 _ rfl
  have z1 : w2.cell? ⟨w.heap.size, 1, none⟩ = some (.string ⟨#[]⟩) := HZ1.out.cs 1 _ rfl
  have z2 : w2.cell? ⟨w.heap.size, 2, none⟩ = some (.int .i64 0) := HZ1.out.cs 2 _ rfl
  have z3 : w2.cell? ⟨w.heap.size, 3, none⟩ = some (.int .i64 0) := HZ1.out.cs 3 _ rfl
  have f0 := HZ1.out.fz 0
  have f1 := HZ1.out.fz 1
  have f2 := HZ1.out.fz 2
  have f3 := HZ1.out.fz 3
  go_wp2_with fail
  try simp only [Exit.inBlock, Exit.then]
  refine bodyPost_ret (end_cell_tmp rfl rfl (loadTok _ (HZ1.out.four rfl _ _ _ _) rfl)) rfl ?_
  exact ⟨rfl, below_four HB1.out _ (Nat.le_refl _) _ _ _ _⟩
theorem digits_ok (s A : ByteArray) (N : Nat) (hN : (N : Int) ≤ (s.size : Int)) (hs : s.size ≤ 100000) (hA : s.extract 0 N = A) (v x : Int)  (H1 : Hid (∀ w, Calls Tryd.prog 35 #[.string s, .func (.func 43) #[] #[]] w fun e w' => e = .returned (.int .i64 (N : Int)) ∧ Below w.heap.size w w')) (H2 : Hid (∀ w, Calls Tryd.prog 64 #[.string A] w fun e w' => e = .returned (.tuple #[.int .i64 v, .int .i64 0]) ∧ w' = w)) (w : World) : Calls Tryd.prog 44 #[.string s] w fun e w' => e = .returned (.tuple #[tv 3 ⟨#[]⟩ v 0, .int .i64 (N : Int)]) ∧ Below w.heap.size w w' := by
  have hSL : ∀ W, (Instr.sliceAt 9 (.string s) none (some (.int .i64 (N : Int))) none).run Tryd.prog W = .ok (.string A) W := fun W => by rw [← hA]; exact str_head s N (by omega) W
  clear hA
  have HZ : Hid (CellsF (w.alloc (.cells #[.int .i64 0, .string ⟨#[]⟩, .int .i64 0, .int .i64 0] 29)) w.heap.size nilT) := CellsF.new w nilT 29 (by simp)
  have HW : Hid (Below w.heap.size w (w.alloc (.cells #[.int .i64 0, .string ⟨#[]⟩, .int .i64 0, .int .i64 0] 29))) := below1 _ _
  go_enter Tryd.func44, Tryd.ntmps44
  go_wp2_with fail
  refine Calls.mono (H1.out _) ?_; rintro e w1 ⟨rfl, k1⟩
  have HZ1 : Hid (CellsF w1 w.heap.size nilT) := HZ.out.next k1
  have HB1 : Hid (Below w.heap.size w w1) := Below.next HW.out k1
  clear k1
  go_wp2_with fail
  refine Calls.mono (H2.out _) ?_; rintro e w2 ⟨rfl, rfl⟩
  have z0 : w2.cell? ⟨w.heap.size, 0, none⟩ = some (.int .i64 0) := HZ1.out.cs 0 _ rfl
  have z1 : w2.cell? ⟨w.heap.size, 1, none⟩ = some (.string ⟨#[]⟩) := HZ1.out.cs 1 _ rfl
  have z2 : w2.cell? ⟨w.heap.size, 2, none⟩ = some (.int .i64 0) := HZ1.out.cs 2 _ rfl
  have z3 : w2.cell? ⟨w.heap.size, 3, none⟩ = some (.int .i64 0) := HZ1.out.cs 3 _ rfl
  have f0 := HZ1.out.fz 0
  have f1 := HZ1.out.fz 1
  have f2 := HZ1.out.fz 2
  have f3 := HZ1.out.fz 3
  go_wp2_with fail
  try simp only [Exit.inBlock, Exit.then]
  refine bodyPost_ret (end_cell_tmp rfl rfl (loadTok _ (HZ1.out.four rfl _ _ _ _) rfl)) rfl ?_
  exact ⟨rfl, below_four HB1.out _ (Nat.le_refl _) _ _ _ _⟩
theorem name_none (s t : ByteArray) (n : Int)  (H1 : Hid (∀ w, Glob w → Calls Tryd.prog 63 #[.string s] w fun e w' => e = .returned (.tuple #[.string ⟨#[]⟩, .int .i64 n]) ∧ Below w.heap.size w w')) (w : World) (hg : Glob w) : Calls Tryd.prog 42 #[.string s] w fun e w' => e = .returned (.tuple #[tv 0 ⟨#[]⟩ 0 0, .int .i64 0]) ∧ Below w.heap.size w w' := by
  have HG : Hid (Glob (w.alloc (.cells #[.int .i64 0, .string ⟨#[]⟩, .int .i64 0, .int .i64 0] 29))) := hg.next (below1 _ _)
  clear hg
  have HZ : Hid (CellsF (w.alloc (.cells #[.int .i64 0, .string ⟨#[]⟩, .int .i64 0, .int .i64 0] 29)) w.heap.size nilT) := CellsF.new w nilT 29 (by simp)
  have HW : Hid (Below w.heap.size w (w.alloc (.cells #[.int .i64 0, .string ⟨#[]⟩, .int .i64 0, .int .i64 0] 29))) := below1 _ _
  go_enter Tryd.func42, Tryd.ntmps42
  go_wp2_with fail
  refine Calls.mono (H1.out _ HG.out) ?_; rintro e w1 ⟨rfl, k1⟩
  have HZ1 : Hid (CellsF w1 w.heap.size nilT) := HZ.out.next k1
  have HB1 : Hid (Below w.heap.size w w1) := Below.next HW.out k1
  clear k1
  have z0 : w1.cell? ⟨w.heap.size, 0, none⟩ = some (.int .i64 0) := HZ1.out.cs 0 _ rfl
  have z1 : w1.cell? ⟨w.heap.size, 1, none⟩ = some (.string ⟨#[]⟩) := HZ1.out.cs 1 _ rfl
  have z2 : w1.cell? ⟨w.heap.size, 2, none⟩ = some (.int .i64 0) := HZ1.out.cs 2 _ rfl
  have z3 : w1.cell? ⟨w.heap.size, 3, none⟩ = some (.int .i64 0) := HZ1.out.cs 3 _ rfl
  have f0 := HZ1.out.fz 0
  have f1 := HZ1.out.fz 1
  have f2 := HZ1.out.fz 2
  have f3 := HZ1.out.fz 3
  go_wp2_with fail
  try simp only [Exit.inBlock, Exit.then]
  refine bodyPost_ret (end_cell_tmp rfl rfl (loadTok _ (HZ1.out.four rfl _ _ _ _) rfl)) rfl ?_
  exact ⟨rfl, below_four HB1.out _ (Nat.le_refl _) _ _ _ _⟩
theorem name_long (s t : ByteArray) (n : Int) (h0 : t.toList.isEmpty = false) (h1 : ¬ t.toList = []) (hl : 64 < (t.size : Int)) (H1 : Hid (∀ w, Glob w → Calls Tryd.prog 63 #[.string s] w fun e w' => e = .returned (.tuple #[.string t, .int .i64 n]) ∧ Below w.heap.size w w')) (w : World) (hg : Glob w) : Calls Tryd.prog 42 #[.string s] w fun e w' => e = .returned (.tuple #[tv 0 ⟨#[]⟩ 0 0, .int .i64 0]) ∧ Below w.heap.size w w' := by
  have HG : Hid (Glob (w.alloc (.cells #[.int .i64 0, .string ⟨#[]⟩, .int .i64 0, .int .i64 0] 29))) := hg.next (below1 _ _)
  clear hg
  have HZ : Hid (CellsF (w.alloc (.cells #[.int .i64 0, .string ⟨#[]⟩, .int .i64 0, .int .i64 0] 29)) w.heap.size nilT) := CellsF.new w nilT 29 (by simp)
  have HW : Hid (Below w.heap.size w (w.alloc (.cells #[.int .i64 0, .string ⟨#[]⟩, .int .i64 0, .int .i64 0] 29))) := below1 _ _
  go_enter Tryd.func42, Tryd.ntmps42
  go_wp2_with fail
  refine Calls.mono (H1.out _ HG.out) ?_; rintro e w1 ⟨rfl, k1⟩
  have HZ1 : Hid (CellsF w1 w.heap.size nilT) := HZ.out.next k1
  have HB1 : Hid (Below w.heap.size w w1) := Below.next HW.out k1
  clear k1
  have z0 : w1.cell? ⟨w.heap.size, 0, none⟩ = some (.int .i64 0) := HZ1.out.cs 0 _ rfl
  have z1 : w1.cell? ⟨w.heap.size, 1, none⟩ = some (.string ⟨#[]⟩) := HZ1.out.cs 1 _ rfl
  have z2 : w1.cell? ⟨w.heap.size, 2, none⟩ = some (.int .i64 0) := HZ1.out.cs 2 _ rfl
  have z3 : w1.cell? ⟨w.heap.size, 3, none⟩ = some (.int .i64 0) := HZ1.out.cs 3 _ rfl
  have f0 := HZ1.out.fz 0
  have f1 := HZ1.out.fz 1
  have f2 := HZ1.out.fz 2
  have f3 := HZ1.out.fz 3
  go_wp2_with fail
  try simp only [Exit.inBlock, Exit.then]
  refine bodyPost_ret (end_cell_tmp rfl rfl (loadTok _ (HZ1.out.four rfl _ _ _ _) rfl)) rfl ?_
  exact ⟨rfl, below_four HB1.out _ (Nat.le_refl _) _ _ _ _⟩
theorem name_ok (s t : ByteArray) (n : Int) (h0 : t.toList.isEmpty = false) (h1 : ¬ t.toList = []) (hl : ¬ 64 < (t.size : Int)) (H1 : Hid (∀ w, Glob w → Calls Tryd.prog 63 #[.string s] w fun e w' => e = .returned (.tuple #[.string t, .int .i64 n]) ∧ Below w.heap.size w w')) (w : World) (hg : Glob w) : Calls Tryd.prog 42 #[.string s] w fun e w' => e = .returned (.tuple #[tv 1 t 0 0, .int .i64 n]) ∧ Below w.heap.size w w' := by
  have HG : Hid (Glob (w.alloc (.cells #[.int .i64 0, .string ⟨#[]⟩, .int .i64 0, .int .i64 0] 29))) := hg.next (below1 _ _)
  clear hg
  have HZ : Hid (CellsF (w.alloc (.cells #[.int .i64 0, .string ⟨#[]⟩, .int .i64 0, .int .i64 0] 29)) w.heap.size nilT) := CellsF.new w nilT 29 (by simp)
  have HW : Hid (Below w.heap.size w (w.alloc (.cells #[.int .i64 0, .string ⟨#[]⟩, .int .i64 0, .int .i64 0] 29))) := below1 _ _
  go_enter Tryd.func42, Tryd.ntmps42
  go_wp2_with fail
  refine Calls.mono (H1.out _ HG.out) ?_; rintro e w1 ⟨rfl, k1⟩
  have HZ1 : Hid (CellsF w1 w.heap.size nilT) := HZ.out.next k1
  have HB1 : Hid (Below w.heap.size w w1) := Below.next HW.out k1
  clear k1
  have z0 : w1.cell? ⟨w.heap.size, 0, none⟩ = some (.int .i64 0) := HZ1.out.cs 0 _ rfl
  have z1 : w1.cell? ⟨w.heap.size, 1, none⟩ = some (.string ⟨#[]⟩) := HZ1.out.cs 1 _ rfl
  have z2 : w1.cell? ⟨w.heap.size, 2, none⟩ = some (.int .i64 0) := HZ1.out.cs 2 _ rfl
  have z3 : w1.cell? ⟨w.heap.size, 3, none⟩ = some (.int .i64 0) := HZ1.out.cs 3 _ rfl
  have f0 := HZ1.out.fz 0
  have f1 := HZ1.out.fz 1
  have f2 := HZ1.out.fz 2
  have f3 := HZ1.out.fz 3
  go_wp2_with fail
  try simp only [Exit.inBlock, Exit.then]
  refine bodyPost_ret (end_cell_tmp rfl rfl (loadTok _ (HZ1.out.four rfl _ _ _ _) rfl)) rfl ?_
  exact ⟨rfl, below_four HB1.out _ (Nat.le_refl _) _ _ _ _⟩
theorem text_none (s t : ByteArray) (n : Int) (h0 : (n == 0) = true) (H1 : Hid (∀ w, Glob w → Calls Tryd.prog 63 #[.string s] w fun e w' => e = .returned (.tuple #[.string t, .int .i64 n]) ∧ Below w.heap.size w w')) (w : World) (hg : Glob w) : Calls Tryd.prog 45 #[.string s] w fun e w' => e = .returned (.tuple #[tv 0 ⟨#[]⟩ 0 0, .int .i64 0]) ∧ Below w.heap.size w w' := by
  have HG : Hid (Glob (w.alloc (.cells #[.int .i64 0, .string ⟨#[]⟩, .int .i64 0, .int .i64 0] 29))) := hg.next (below1 _ _)
  clear hg
  have HZ : Hid (CellsF (w.alloc (.cells #[.int .i64 0, .string ⟨#[]⟩, .int .i64 0, .int .i64 0] 29)) w.heap.size nilT) := CellsF.new w nilT 29 (by simp)
  have HW : Hid (Below w.heap.size w (w.alloc (.cells #[.int .i64 0, .string ⟨#[]⟩, .int .i64 0, .int .i64 0] 29))) := below1 _ _
  go_enter Tryd.func45, Tryd.ntmps45
  go_wp2_with fail
  refine Calls.mono (H1.out _ HG.out) ?_; rintro e w1 ⟨rfl, k1⟩
  have HZ1 : Hid (CellsF w1 w.heap.size nilT) := HZ.out.next k1
  have HB1 : Hid (Below w.heap.size w w1) := Below.next HW.out k1
  clear k1
  have z0 : w1.cell? ⟨w.heap.size, 0, none⟩ = some (.int .i64 0) := HZ1.out.cs 0 _ rfl
  have z1 : w1.cell? ⟨w.heap.size, 1, none⟩ = some (.string ⟨#[]⟩) := HZ1.out.cs 1 _ rfl
  have z2 : w1.cell? ⟨w.heap.size, 2, none⟩ = some (.int .i64 0) := HZ1.out.cs 2 _ rfl
  have z3 : w1.cell? ⟨w.heap.size, 3, none⟩ = some (.int .i64 0) := HZ1.out.cs 3 _ rfl
  have f0 := HZ1.out.fz 0
  have f1 := HZ1.out.fz 1
  have f2 := HZ1.out.fz 2
  have f3 := HZ1.out.fz 3
  go_wp2_with fail
  try simp only [Exit.inBlock, Exit.then]
  refine bodyPost_ret (end_cell_tmp rfl rfl (loadTok _ (HZ1.out.four rfl _ _ _ _) rfl)) rfl ?_
  exact ⟨rfl, below_four HB1.out _ (Nat.le_refl _) _ _ _ _⟩
theorem text_long (s t : ByteArray) (n : Int) (h0 : (n == 0) = false) (hl : 64 < (t.size : Int)) (H1 : Hid (∀ w, Glob w → Calls Tryd.prog 63 #[.string s] w fun e w' => e = .returned (.tuple #[.string t, .int .i64 n]) ∧ Below w.heap.size w w')) (w : World) (hg : Glob w) : Calls Tryd.prog 45 #[.string s] w fun e w' => e = .returned (.tuple #[tv 0 ⟨#[]⟩ 0 0, .int .i64 0]) ∧ Below w.heap.size w w' := by
  have HG : Hid (Glob (w.alloc (.cells #[.int .i64 0, .string ⟨#[]⟩, .int .i64 0, .int .i64 0] 29))) := hg.next (below1 _ _)
  clear hg
  have HZ : Hid (CellsF (w.alloc (.cells #[.int .i64 0, .string ⟨#[]⟩, .int .i64 0, .int .i64 0] 29)) w.heap.size nilT) := CellsF.new w nilT 29 (by simp)
  have HW : Hid (Below w.heap.size w (w.alloc (.cells #[.int .i64 0, .string ⟨#[]⟩, .int .i64 0, .int .i64 0] 29))) := below1 _ _
  go_enter Tryd.func45, Tryd.ntmps45
  go_wp2_with fail
  refine Calls.mono (H1.out _ HG.out) ?_; rintro e w1 ⟨rfl, k1⟩
  have HZ1 : Hid (CellsF w1 w.heap.size nilT) := HZ.out.next k1
  have HB1 : Hid (Below w.heap.size w w1) := Below.next HW.out k1
  clear k1
  have z0 : w1.cell? ⟨w.heap.size, 0, none⟩ = some (.int .i64 0) := HZ1.out.cs 0 _ rfl
  have z1 : w1.cell? ⟨w.heap.size, 1, none⟩ = some (.string ⟨#[]⟩) := HZ1.out.cs 1 _ rfl
  have z2 : w1.cell? ⟨w.heap.size, 2, none⟩ = some (.int .i64 0) := HZ1.out.cs 2 _ rfl
  have z3 : w1.cell? ⟨w.heap.size, 3, none⟩ = some (.int .i64 0) := HZ1.out.cs 3 _ rfl
  have f0 := HZ1.out.fz 0
  have f1 := HZ1.out.fz 1
  have f2 := HZ1.out.fz 2
  have f3 := HZ1.out.fz 3
  go_wp2_with fail
  try simp only [Exit.inBlock, Exit.then]
  refine bodyPost_ret (end_cell_tmp rfl rfl (loadTok _ (HZ1.out.four rfl _ _ _ _) rfl)) rfl ?_
  exact ⟨rfl, below_four HB1.out _ (Nat.le_refl _) _ _ _ _⟩
theorem text_ok (s t : ByteArray) (n : Int) (h0 : (n == 0) = false) (hl : ¬ 64 < (t.size : Int)) (H1 : Hid (∀ w, Glob w → Calls Tryd.prog 63 #[.string s] w fun e w' => e = .returned (.tuple #[.string t, .int .i64 n]) ∧ Below w.heap.size w w')) (w : World) (hg : Glob w) : Calls Tryd.prog 45 #[.string s] w fun e w' => e = .returned (.tuple #[tv 4 t 0 0, .int .i64 n]) ∧ Below w.heap.size w w' := by
  have HG : Hid (Glob (w.alloc (.cells #[.int .i64 0, .string ⟨#[]⟩, .int .i64 0, .int .i64 0] 29))) := hg.next (below1 _ _)
  clear hg
  have HZ : Hid (CellsF (w.alloc (.cells #[.int .i64 0, .string ⟨#[]⟩, .int .i64 0, .int .i64 0] 29)) w.heap.size nilT) := CellsF.new w nilT 29 (by simp)
  have HW : Hid (Below w.heap.size w (w.alloc (.cells #[.int .i64 0, .string ⟨#[]⟩, .int .i64 0, .int .i64 0] 29))) := below1 _ _
  go_enter Tryd.func45, Tryd.ntmps45
  go_wp2_with fail
  refine Calls.mono (H1.out _ HG.out) ?_; rintro e w1 ⟨rfl, k1⟩
  have HZ1 : Hid (CellsF w1 w.heap.size nilT) := HZ.out.next k1
  have HB1 : Hid (Below w.heap.size w w1) := Below.next HW.out k1
  clear k1
  have z0 : w1.cell? ⟨w.heap.size, 0, none⟩ = some (.int .i64 0) := HZ1.out.cs 0 _ rfl
  have z1 : w1.cell? ⟨w.heap.size, 1, none⟩ = some (.string ⟨#[]⟩) := HZ1.out.cs 1 _ rfl
  have z2 : w1.cell? ⟨w.heap.size, 2, none⟩ = some (.int .i64 0) := HZ1.out.cs 2 _ rfl
  have z3 : w1.cell? ⟨w.heap.size, 3, none⟩ = some (.int .i64 0) := HZ1.out.cs 3 _ rfl
  have f0 := HZ1.out.fz 0
  have f1 := HZ1.out.fz 1
  have f2 := HZ1.out.fz 2
  have f3 := HZ1.out.fz 3
  go_wp2_with fail
  try simp only [Exit.inBlock, Exit.then]
  refine bodyPost_ret (end_cell_tmp rfl rfl (loadTok _ (HZ1.out.four rfl _ _ _ _) rfl)) rfl ?_
  exact ⟨rfl, below_four HB1.out _ (Nat.le_refl _) _ _ _ _⟩
end Go.Proofs.YtgokilochbnbaaaDoor
