/- Tokens, and what is none. -/
import Derived.Test.YtgokilochbnbaaaDoorFi
namespace Go.Proofs.YtgokilochbnbaaaDoor
open Go.ChangeShapes Go.WideShapes Go.ChangeAt Go.RowKit
set_option linter.unusedVariables false
set_option maxRecDepth 100000

theorem sign_none (s : ByteArray) (N : Nat) (h0 : ((N : Int) == 0) = true) (H1 : Hid (∀ w, Calls Tryd.prog 65 #[.string s] w fun e w' => e = .returned (.int .i64 (N : Int)) ∧ w' = w)) (w : World) : Calls Tryd.prog 46 #[.string s] w fun e w' => e = .returned (.tuple #[tv 0 ⟨#[]⟩ 0 0, .int .i64 0]) ∧ Below w.heap.size w w' := by
  have HZ : Hid (CellsF (w.alloc (.cells #[.int .i64 0, .string ⟨#[]⟩, .int .i64 0, .int .i64 0] 29)) w.heap.size nilT) := CellsF.new w nilT 29 (by simp)
  have HW : Hid (Below w.heap.size w (w.alloc (.cells #[.int .i64 0, .string ⟨#[]⟩, .int .i64 0, .int .i64 0] 29))) := below1 _ _
  go_enter Tryd.func46, Tryd.ntmps46
  go_wp2_with fail
  refine Calls.mono (H1.out _) ?_; rintro e w1 ⟨rfl, rfl⟩
  generalize (w.alloc (.cells #[.int .i64 0, .string ⟨#[]⟩, .int .i64 0, .int .i64 0] 29)) = W at *
  have z0 : W.cell? ⟨w.heap.size, 0, none⟩ = some (.int .i64 0) := HZ.out.cs 0 _ rfl
  have z1 : W.cell? ⟨w.heap.size, 1, none⟩ = some (.string ⟨#[]⟩) := HZ.out.cs 1 _ rfl
  have z2 : W.cell? ⟨w.heap.size, 2, none⟩ = some (.int .i64 0) := HZ.out.cs 2 _ rfl
  have z3 : W.cell? ⟨w.heap.size, 3, none⟩ = some (.int .i64 0) := HZ.out.cs 3 _ rfl
  have f0 := HZ.out.fz 0
  have f1 := HZ.out.fz 1
  have f2 := HZ.out.fz 2
  have f3 := HZ.out.fz 3
  go_wp2_with fail
  try simp only [Exit.inBlock, Exit.then]
  refine bodyPost_ret (end_cell_tmp rfl rfl (loadTok _ (HZ.out.four rfl _ _ _ _) rfl)) rfl ?_
  exact ⟨rfl, below_four HW.out _ (Nat.le_refl _) _ _ _ _⟩
theorem sign_ne (s A : ByteArray) (N : Nat) (hN : (N : Int) ≤ (s.size : Int)) (hs : s.size ≤ 100000) (hA : s.extract 0 N = A) (h0 : ((N : Int) == 0) = false) (h1 : (A.toList == [33, 61]) = true) (H1 : Hid (∀ w, Calls Tryd.prog 65 #[.string s] w fun e w' => e = .returned (.int .i64 (N : Int)) ∧ w' = w)) (H2 : Hid (∀ w, Calls Tryd.prog 24 #[.string A] w fun e w' => e = .returned (.string A) ∧ Below w.heap.size w w')) (w : World) : Calls Tryd.prog 46 #[.string s] w fun e w' => e = .returned (.tuple #[tv 5 ⟨#[60, 62]⟩ 0 0, .int .i64 (N : Int)]) ∧ Below w.heap.size w w' := by
  have hSL : ∀ W, (Instr.sliceAt 9 (.string s) none (some (.int .i64 (N : Int))) none).run Tryd.prog W = .ok (.string A) W := fun W => by rw [← hA]; exact str_head s N (by omega) W
  clear hA
  have HZ : Hid (CellsF (w.alloc (.cells #[.int .i64 0, .string ⟨#[]⟩, .int .i64 0, .int .i64 0] 29)) w.heap.size nilT) := CellsF.new w nilT 29 (by simp)
  have HW : Hid (Below w.heap.size w (w.alloc (.cells #[.int .i64 0, .string ⟨#[]⟩, .int .i64 0, .int .i64 0] 29))) := below1 _ _
  go_enter Tryd.func46, Tryd.ntmps46
  go_wp2_with fail
  refine Calls.mono (H1.out _) ?_; rintro e w1 ⟨rfl, rfl⟩
  go_wp2_with fail
  refine Calls.mono (H2.out _) ?_; rintro e w2 ⟨rfl, k2⟩
  have HZ2 : Hid (CellsF w2 w.heap.size nilT) := HZ.out.next k2
  have HB2 : Hid (Below w.heap.size w w2) := Below.next HW.out k2
  clear k2
  have z0 : w2.cell? ⟨w.heap.size, 0, none⟩ = some (.int .i64 0) := HZ2.out.cs 0 _ rfl
  have z1 : w2.cell? ⟨w.heap.size, 1, none⟩ = some (.string ⟨#[]⟩) := HZ2.out.cs 1 _ rfl
  have z2 : w2.cell? ⟨w.heap.size, 2, none⟩ = some (.int .i64 0) := HZ2.out.cs 2 _ rfl
  have z3 : w2.cell? ⟨w.heap.size, 3, none⟩ = some (.int .i64 0) := HZ2.out.cs 3 _ rfl
  have f0 := HZ2.out.fz 0
  have f1 := HZ2.out.fz 1
  have f2 := HZ2.out.fz 2
  have f3 := HZ2.out.fz 3
  go_wp2_with fail
  try simp only [Exit.inBlock, Exit.then]
  refine bodyPost_ret (end_cell_tmp rfl rfl (loadTok _ (HZ2.out.four rfl _ _ _ _) rfl)) rfl ?_
  exact ⟨rfl, below_four HB2.out _ (Nat.le_refl _) _ _ _ _⟩
theorem sign_ok (s A : ByteArray) (N : Nat) (hN : (N : Int) ≤ (s.size : Int)) (hs : s.size ≤ 100000) (hA : s.extract 0 N = A) (h0 : ((N : Int) == 0) = false) (h1 : (A.toList == [33, 61]) = false) (H1 : Hid (∀ w, Calls Tryd.prog 65 #[.string s] w fun e w' => e = .returned (.int .i64 (N : Int)) ∧ w' = w)) (H2 : Hid (∀ w, Calls Tryd.prog 24 #[.string A] w fun e w' => e = .returned (.string A) ∧ Below w.heap.size w w')) (w : World) : Calls Tryd.prog 46 #[.string s] w fun e w' => e = .returned (.tuple #[tv 5 A 0 0, .int .i64 (N : Int)]) ∧ Below w.heap.size w w' := by
  have hSL : ∀ W, (Instr.sliceAt 9 (.string s) none (some (.int .i64 (N : Int))) none).run Tryd.prog W = .ok (.string A) W := fun W => by rw [← hA]; exact str_head s N (by omega) W
  clear hA
  have HZ : Hid (CellsF (w.alloc (.cells #[.int .i64 0, .string ⟨#[]⟩, .int .i64 0, .int .i64 0] 29)) w.heap.size nilT) := CellsF.new w nilT 29 (by simp)
  have HW : Hid (Below w.heap.size w (w.alloc (.cells #[.int .i64 0, .string ⟨#[]⟩, .int .i64 0, .int .i64 0] 29))) := below1 _ _
  go_enter Tryd.func46, Tryd.ntmps46
  go_wp2_with fail
  refine Calls.mono (H1.out _) ?_; rintro e w1 ⟨rfl, rfl⟩
  go_wp2_with fail
  refine Calls.mono (H2.out _) ?_; rintro e w2 ⟨rfl, k2⟩
  have HZ2 : Hid (CellsF w2 w.heap.size nilT) := HZ.out.next k2
  have HB2 : Hid (Below w.heap.size w w2) := Below.next HW.out k2
  clear k2
  have z0 : w2.cell? ⟨w.heap.size, 0, none⟩ = some (.int .i64 0) := HZ2.out.cs 0 _ rfl
  have z1 : w2.cell? ⟨w.heap.size, 1, none⟩ = some (.string ⟨#[]⟩) := HZ2.out.cs 1 _ rfl
  have z2 : w2.cell? ⟨w.heap.size, 2, none⟩ = some (.int .i64 0) := HZ2.out.cs 2 _ rfl
  have z3 : w2.cell? ⟨w.heap.size, 3, none⟩ = some (.int .i64 0) := HZ2.out.cs 3 _ rfl
  have f0 := HZ2.out.fz 0
  have f1 := HZ2.out.fz 1
  have f2 := HZ2.out.fz 2
  have f3 := HZ2.out.fz 3
  go_wp2_with fail
  try simp only [Exit.inBlock, Exit.then]
  refine bodyPost_ret (end_cell_tmp rfl rfl (loadTok _ (HZ2.out.four rfl _ _ _ _) rfl)) rfl ?_
  exact ⟨rfl, below_four HB2.out _ (Nat.le_refl _) _ _ _ _⟩

theorem gap_line (s : ByteArray) (n : Int) (H1 : Hid (∀ w, Calls Tryd.prog 34 #[.string s, .string ⟨#[45, 45]⟩] w fun e w' => e = .returned (.bool true) ∧ w' = w)) (H2 : Hid (∀ w, Calls Tryd.prog 35 #[.string s, .func (.func 36) #[] #[]] w fun e w' => e = .returned (.int .i64 n) ∧ Below w.heap.size w w')) (w : World) : Calls Tryd.prog 19 #[.string s] w fun e w' => e = .returned (.int .i64 n) ∧ Below w.heap.size w w' := by
  go_enter Tryd.func19, Tryd.ntmps19
  go_wp2_with fail
  refine Calls.mono (H1.out _) ?_; rintro e w1 ⟨rfl, rfl⟩
  go_wp2_with fail
  refine Calls.mono (H2.out _) ?_; rintro e w2 ⟨rfl, k2⟩
  have HK : Hid (Below w1.heap.size w1 w2) := k2
  clear k2
  go_wp2_with fail
  go_ret
  exact ⟨rfl, HK.out⟩

theorem gap_rem (s D : ByteArray) (n : Int) (H1 : Hid (∀ w, Calls Tryd.prog 34 #[.string s, .string ⟨#[45, 45]⟩] w fun e w' => e = .returned (.bool false) ∧ w' = w)) (H2 : Hid (∀ w, Calls Tryd.prog 37 #[.string s, .string ⟨#[47, 42]⟩] w fun e w' => e = .returned (.tuple #[.string D, .bool true]) ∧ w' = w)) (H3 : Hid (∀ w, Calls Tryd.prog 38 #[.string D] w fun e w' => e = .returned (.int .i64 n) ∧ Below w.heap.size w w')) (w : World) : Calls Tryd.prog 19 #[.string s] w fun e w' => e = .returned (.int .i64 n) ∧ Below w.heap.size w w' := by
  go_enter Tryd.func19, Tryd.ntmps19
  go_wp2_with fail
  refine Calls.mono (H1.out _) ?_; rintro e w1 ⟨rfl, rfl⟩
  go_wp2_with fail
  refine Calls.mono (H2.out _) ?_; rintro e w2 ⟨rfl, rfl⟩
  go_wp2_with fail
  refine Calls.mono (H3.out _) ?_; rintro e w3 ⟨rfl, k2⟩
  have HK : Hid (Below w2.heap.size w2 w3) := k2
  clear k2
  go_wp2_with fail
  go_ret
  exact ⟨rfl, HK.out⟩

theorem gap_blank (s D : ByteArray) (n : Int) (H1 : Hid (∀ w, Calls Tryd.prog 34 #[.string s, .string ⟨#[45, 45]⟩] w fun e w' => e = .returned (.bool false) ∧ w' = w)) (H2 : Hid (∀ w, Calls Tryd.prog 37 #[.string s, .string ⟨#[47, 42]⟩] w fun e w' => e = .returned (.tuple #[.string D, .bool false]) ∧ w' = w)) (H3 : Hid (∀ w, Calls Tryd.prog 35 #[.string s, .func (.func 39) #[] #[]] w fun e w' => e = .returned (.int .i64 n) ∧ Below w.heap.size w w')) (w : World) : Calls Tryd.prog 19 #[.string s] w fun e w' => e = .returned (.int .i64 n) ∧ Below w.heap.size w w' := by
  go_enter Tryd.func19, Tryd.ntmps19
  go_wp2_with fail
  refine Calls.mono (H1.out _) ?_; rintro e w1 ⟨rfl, rfl⟩
  go_wp2_with fail
  refine Calls.mono (H2.out _) ?_; rintro e w2 ⟨rfl, rfl⟩
  go_wp2_with fail
  refine Calls.mono (H3.out _) ?_; rintro e w3 ⟨rfl, k2⟩
  have HK : Hid (Below w2.heap.size w2 w3) := k2
  clear k2
  go_wp2_with fail
  go_ret
  exact ⟨rfl, HK.out⟩

theorem remark_none (D : ByteArray) (i : Int) (hi : i < 0) (H1 : Hid (∀ w, Calls Tryd.prog 59 #[.string D, .string ⟨#[42, 47]⟩] w fun e w' => e = .returned (.int .i64 i) ∧ w' = w)) (w : World) : Calls Tryd.prog 38 #[.string D] w fun e w' => e = .returned (.int .i64 0) ∧ w' = w := by
  go_enter Tryd.func38, Tryd.ntmps38
  go_wp2_with fail
  refine Calls.mono (H1.out _) ?_; rintro e w1 ⟨rfl, rfl⟩
  go_wp2_with fail
  go_ret
  exact ⟨rfl, rfl⟩
theorem remark_some (D : ByteArray) (i : Int) (hi : ¬ i < 0) (hm : i ≤ 100000) (H1 : Hid (∀ w, Calls Tryd.prog 59 #[.string D, .string ⟨#[42, 47]⟩] w fun e w' => e = .returned (.int .i64 i) ∧ w' = w)) (w : World) : Calls Tryd.prog 38 #[.string D] w fun e w' => e = .returned (.int .i64 (i + 4)) ∧ w' = w := by
  have HE : Hid (wrap64 (wrap64 (2 + i) + 2) = i + 4) := by show _ = _; unfold wrap64; omega
  go_enter Tryd.func38, Tryd.ntmps38
  go_wp2_with fail
  refine Calls.mono (H1.out _) ?_; rintro e w1 ⟨rfl, rfl⟩
  go_wp2_with fail
  go_ret
  exact ⟨ret_int (by first | exact HE.out | (have := HE.out; unfold wrap64 at *; omega)), rfl⟩
theorem first_word (s : ByteArray) (c : UInt8) (h0 : (0 : Int) < (s.size : Int)) (h0' : 0 < s.size) (hc : s[0] = c) (k n z : Int) (t : ByteArray) (wb db : Bool) (HB : Hid (∀ w, Calls Tryd.prog 40 #[.int .i32 (c.toNat : Int)] w fun e w' => e = .returned (.bool wb) ∧ w' = w)) (HD : Hid (∀ w, Calls Tryd.prog 43 #[.int .i32 (c.toNat : Int)] w fun e w' => e = .returned (.bool db) ∧ w' = w)) (hw : wb = true) (HT : Hid (∀ w, Glob w → Calls Tryd.prog 41 #[.string s] w fun e w' => e = .returned (.tuple #[tv k t n 0, .int .i64 z]) ∧ Below w.heap.size w w')) (w : World) (hg : Glob w) : Calls Tryd.prog 20 #[.string s] w fun e w' => e = .returned (.tuple #[tv k t n 0, .int .i64 z]) ∧ Below w.heap.size w w' := by
  have HG : Hid (Glob (w.alloc (.cells #[.int .i64 0, .string ⟨#[]⟩, .int .i64 0, .int .i64 0] 29))) := hg.next (below1 _ _)
  clear hg
  subst hw
  have h1 : wrap32 (c.toNat : Int) = (c.toNat : Int) := by have := c.toNat_lt; unfold wrap32; omega
  have h2 : (s[0].toNat : Int) = (c.toNat : Int) := by rw [hc]
  have HZ : Hid (CellsF (w.alloc (.cells #[.int .i64 0, .string ⟨#[]⟩, .int .i64 0, .int .i64 0] 29)) w.heap.size nilT) := CellsF.new w nilT 29 (by simp)
  have HW : Hid (Below w.heap.size w (w.alloc (.cells #[.int .i64 0, .string ⟨#[]⟩, .int .i64 0, .int .i64 0] 29))) := below1 _ _
  go_enter Tryd.func20, Tryd.ntmps20
  go_wp2_with fail
  refine Calls.mono (HB.out _) ?_; rintro e w1 ⟨rfl, rfl⟩
  go_wp2_with fail
  refine Calls.mono (HT.out _ HG.out) ?_; rintro e w2 ⟨rfl, k2⟩
  have HZ2 : Hid (CellsF w2 w.heap.size nilT) := HZ.out.next k2
  have HB2 : Hid (Below w.heap.size w w2) := Below.next HW.out k2
  clear k2
  have z0 : w2.cell? ⟨w.heap.size, 0, none⟩ = some (.int .i64 0) := HZ2.out.cs 0 _ rfl
  have z1 : w2.cell? ⟨w.heap.size, 1, none⟩ = some (.string ⟨#[]⟩) := HZ2.out.cs 1 _ rfl
  have z2 : w2.cell? ⟨w.heap.size, 2, none⟩ = some (.int .i64 0) := HZ2.out.cs 2 _ rfl
  have z3 : w2.cell? ⟨w.heap.size, 3, none⟩ = some (.int .i64 0) := HZ2.out.cs 3 _ rfl
  have f0 := HZ2.out.fz 0
  have f1 := HZ2.out.fz 1
  have f2 := HZ2.out.fz 2
  have f3 := HZ2.out.fz 3
  go_wp2_with fail
  try simp only [Exit.inBlock, Exit.then]
  refine bodyPost_ret (end_cell_tmp rfl rfl (loadTok _ (HZ2.out.four rfl _ _ _ _) rfl)) rfl ?_
  exact ⟨rfl, below_four HB2.out _ (Nat.le_refl _) _ _ _ _⟩
theorem first_name (s : ByteArray) (c : UInt8) (h0 : (0 : Int) < (s.size : Int)) (h0' : 0 < s.size) (hc : s[0] = c) (k n z : Int) (t : ByteArray) (wb db : Bool) (HB : Hid (∀ w, Calls Tryd.prog 40 #[.int .i32 (c.toNat : Int)] w fun e w' => e = .returned (.bool wb) ∧ w' = w)) (HD : Hid (∀ w, Calls Tryd.prog 43 #[.int .i32 (c.toNat : Int)] w fun e w' => e = .returned (.bool db) ∧ w' = w)) (hw : wb = false) (h34 : ((c.toNat : Int) == 34) = true) (HT : Hid (∀ w, Glob w → Calls Tryd.prog 42 #[.string s] w fun e w' => e = .returned (.tuple #[tv k t n 0, .int .i64 z]) ∧ Below w.heap.size w w')) (w : World) (hg : Glob w) : Calls Tryd.prog 20 #[.string s] w fun e w' => e = .returned (.tuple #[tv k t n 0, .int .i64 z]) ∧ Below w.heap.size w w' := by
  have HG : Hid (Glob (w.alloc (.cells #[.int .i64 0, .string ⟨#[]⟩, .int .i64 0, .int .i64 0] 29))) := hg.next (below1 _ _)
  clear hg
  subst hw
  have h1 : wrap32 (c.toNat : Int) = (c.toNat : Int) := by have := c.toNat_lt; unfold wrap32; omega
  have h2 : (s[0].toNat : Int) = (c.toNat : Int) := by rw [hc]
  have HZ : Hid (CellsF (w.alloc (.cells #[.int .i64 0, .string ⟨#[]⟩, .int .i64 0, .int .i64 0] 29)) w.heap.size nilT) := CellsF.new w nilT 29 (by simp)
  have HW : Hid (Below w.heap.size w (w.alloc (.cells #[.int .i64 0, .string ⟨#[]⟩, .int .i64 0, .int .i64 0] 29))) := below1 _ _
  go_enter Tryd.func20, Tryd.ntmps20
  go_wp2_with fail
  refine Calls.mono (HB.out _) ?_; rintro e w1 ⟨rfl, rfl⟩
  go_wp2_with fail
  refine Calls.mono (HT.out _ HG.out) ?_; rintro e w2 ⟨rfl, k2⟩
  have HZ2 : Hid (CellsF w2 w.heap.size nilT) := HZ.out.next k2
  have HB2 : Hid (Below w.heap.size w w2) := Below.next HW.out k2
  clear k2
  have z0 : w2.cell? ⟨w.heap.size, 0, none⟩ = some (.int .i64 0) := HZ2.out.cs 0 _ rfl
  have z1 : w2.cell? ⟨w.heap.size, 1, none⟩ = some (.string ⟨#[]⟩) := HZ2.out.cs 1 _ rfl
  have z2 : w2.cell? ⟨w.heap.size, 2, none⟩ = some (.int .i64 0) := HZ2.out.cs 2 _ rfl
  have z3 : w2.cell? ⟨w.heap.size, 3, none⟩ = some (.int .i64 0) := HZ2.out.cs 3 _ rfl
  have f0 := HZ2.out.fz 0
  have f1 := HZ2.out.fz 1
  have f2 := HZ2.out.fz 2
  have f3 := HZ2.out.fz 3
  go_wp2_with fail
  try simp only [Exit.inBlock, Exit.then]
  refine bodyPost_ret (end_cell_tmp rfl rfl (loadTok _ (HZ2.out.four rfl _ _ _ _) rfl)) rfl ?_
  exact ⟨rfl, below_four HB2.out _ (Nat.le_refl _) _ _ _ _⟩
theorem first_digits (s : ByteArray) (c : UInt8) (h0 : (0 : Int) < (s.size : Int)) (h0' : 0 < s.size) (hc : s[0] = c) (k n z : Int) (t : ByteArray) (wb db : Bool) (HB : Hid (∀ w, Calls Tryd.prog 40 #[.int .i32 (c.toNat : Int)] w fun e w' => e = .returned (.bool wb) ∧ w' = w)) (HD : Hid (∀ w, Calls Tryd.prog 43 #[.int .i32 (c.toNat : Int)] w fun e w' => e = .returned (.bool db) ∧ w' = w)) (hw : wb = false ∧ db = true) (h34 : ((c.toNat : Int) == 34) = false) (HT : Hid (∀ w, Glob w → Calls Tryd.prog 44 #[.string s] w fun e w' => e = .returned (.tuple #[tv k t n 0, .int .i64 z]) ∧ Below w.heap.size w w')) (w : World) (hg : Glob w) : Calls Tryd.prog 20 #[.string s] w fun e w' => e = .returned (.tuple #[tv k t n 0, .int .i64 z]) ∧ Below w.heap.size w w' := by
  have HG : Hid (Glob (w.alloc (.cells #[.int .i64 0, .string ⟨#[]⟩, .int .i64 0, .int .i64 0] 29))) := hg.next (below1 _ _)
  clear hg
  obtain ⟨rfl, rfl⟩ := hw
  have h1 : wrap32 (c.toNat : Int) = (c.toNat : Int) := by have := c.toNat_lt; unfold wrap32; omega
  have h2 : (s[0].toNat : Int) = (c.toNat : Int) := by rw [hc]
  have HZ : Hid (CellsF (w.alloc (.cells #[.int .i64 0, .string ⟨#[]⟩, .int .i64 0, .int .i64 0] 29)) w.heap.size nilT) := CellsF.new w nilT 29 (by simp)
  have HW : Hid (Below w.heap.size w (w.alloc (.cells #[.int .i64 0, .string ⟨#[]⟩, .int .i64 0, .int .i64 0] 29))) := below1 _ _
  go_enter Tryd.func20, Tryd.ntmps20
  go_wp2_with fail
  refine Calls.mono (HB.out _) ?_; rintro e w1 ⟨rfl, rfl⟩
  go_wp2_with fail
  refine Calls.mono (HD.out _) ?_; rintro e w1 ⟨rfl, rfl⟩
  go_wp2_with fail
  refine Calls.mono (HT.out _ HG.out) ?_; rintro e w2 ⟨rfl, k2⟩
  have HZ2 : Hid (CellsF w2 w.heap.size nilT) := HZ.out.next k2
  have HB2 : Hid (Below w.heap.size w w2) := Below.next HW.out k2
  clear k2
  have z0 : w2.cell? ⟨w.heap.size, 0, none⟩ = some (.int .i64 0) := HZ2.out.cs 0 _ rfl
  have z1 : w2.cell? ⟨w.heap.size, 1, none⟩ = some (.string ⟨#[]⟩) := HZ2.out.cs 1 _ rfl
  have z2 : w2.cell? ⟨w.heap.size, 2, none⟩ = some (.int .i64 0) := HZ2.out.cs 2 _ rfl
  have z3 : w2.cell? ⟨w.heap.size, 3, none⟩ = some (.int .i64 0) := HZ2.out.cs 3 _ rfl
  have f0 := HZ2.out.fz 0
  have f1 := HZ2.out.fz 1
  have f2 := HZ2.out.fz 2
  have f3 := HZ2.out.fz 3
  go_wp2_with fail
  try simp only [Exit.inBlock, Exit.then]
  refine bodyPost_ret (end_cell_tmp rfl rfl (loadTok _ (HZ2.out.four rfl _ _ _ _) rfl)) rfl ?_
  exact ⟨rfl, below_four HB2.out _ (Nat.le_refl _) _ _ _ _⟩
theorem first_text (s : ByteArray) (c : UInt8) (h0 : (0 : Int) < (s.size : Int)) (h0' : 0 < s.size) (hc : s[0] = c) (k n z : Int) (t : ByteArray) (wb db : Bool) (HB : Hid (∀ w, Calls Tryd.prog 40 #[.int .i32 (c.toNat : Int)] w fun e w' => e = .returned (.bool wb) ∧ w' = w)) (HD : Hid (∀ w, Calls Tryd.prog 43 #[.int .i32 (c.toNat : Int)] w fun e w' => e = .returned (.bool db) ∧ w' = w)) (hw : wb = false ∧ db = false) (h34 : ((c.toNat : Int) == 34) = false) (h39 : ((c.toNat : Int) == 39) = true) (HT : Hid (∀ w, Glob w → Calls Tryd.prog 45 #[.string s] w fun e w' => e = .returned (.tuple #[tv k t n 0, .int .i64 z]) ∧ Below w.heap.size w w')) (w : World) (hg : Glob w) : Calls Tryd.prog 20 #[.string s] w fun e w' => e = .returned (.tuple #[tv k t n 0, .int .i64 z]) ∧ Below w.heap.size w w' := by
  have HG : Hid (Glob (w.alloc (.cells #[.int .i64 0, .string ⟨#[]⟩, .int .i64 0, .int .i64 0] 29))) := hg.next (below1 _ _)
  clear hg
  obtain ⟨rfl, rfl⟩ := hw
  have h1 : wrap32 (c.toNat : Int) = (c.toNat : Int) := by have := c.toNat_lt; unfold wrap32; omega
  have h2 : (s[0].toNat : Int) = (c.toNat : Int) := by rw [hc]
  have HZ : Hid (CellsF (w.alloc (.cells #[.int .i64 0, .string ⟨#[]⟩, .int .i64 0, .int .i64 0] 29)) w.heap.size nilT) := CellsF.new w nilT 29 (by simp)
  have HW : Hid (Below w.heap.size w (w.alloc (.cells #[.int .i64 0, .string ⟨#[]⟩, .int .i64 0, .int .i64 0] 29))) := below1 _ _
  go_enter Tryd.func20, Tryd.ntmps20
  go_wp2_with fail
  refine Calls.mono (HB.out _) ?_; rintro e w1 ⟨rfl, rfl⟩
  go_wp2_with fail
  refine Calls.mono (HD.out _) ?_; rintro e w1 ⟨rfl, rfl⟩
  go_wp2_with fail
  refine Calls.mono (HT.out _ HG.out) ?_; rintro e w2 ⟨rfl, k2⟩
  have HZ2 : Hid (CellsF w2 w.heap.size nilT) := HZ.out.next k2
  have HB2 : Hid (Below w.heap.size w w2) := Below.next HW.out k2
  clear k2
  have z0 : w2.cell? ⟨w.heap.size, 0, none⟩ = some (.int .i64 0) := HZ2.out.cs 0 _ rfl
  have z1 : w2.cell? ⟨w.heap.size, 1, none⟩ = some (.string ⟨#[]⟩) := HZ2.out.cs 1 _ rfl
  have z2 : w2.cell? ⟨w.heap.size, 2, none⟩ = some (.int .i64 0) := HZ2.out.cs 2 _ rfl
  have z3 : w2.cell? ⟨w.heap.size, 3, none⟩ = some (.int .i64 0) := HZ2.out.cs 3 _ rfl
  have f0 := HZ2.out.fz 0
  have f1 := HZ2.out.fz 1
  have f2 := HZ2.out.fz 2
  have f3 := HZ2.out.fz 3
  go_wp2_with fail
  try simp only [Exit.inBlock, Exit.then]
  refine bodyPost_ret (end_cell_tmp rfl rfl (loadTok _ (HZ2.out.four rfl _ _ _ _) rfl)) rfl ?_
  exact ⟨rfl, below_four HB2.out _ (Nat.le_refl _) _ _ _ _⟩
theorem first_sign (s : ByteArray) (c : UInt8) (h0 : (0 : Int) < (s.size : Int)) (h0' : 0 < s.size) (hc : s[0] = c) (k n z : Int) (t : ByteArray) (wb db : Bool) (HB : Hid (∀ w, Calls Tryd.prog 40 #[.int .i32 (c.toNat : Int)] w fun e w' => e = .returned (.bool wb) ∧ w' = w)) (HD : Hid (∀ w, Calls Tryd.prog 43 #[.int .i32 (c.toNat : Int)] w fun e w' => e = .returned (.bool db) ∧ w' = w)) (hw : wb = false ∧ db = false) (h34 : ((c.toNat : Int) == 34) = false) (h39 : ((c.toNat : Int) == 39) = false) (HT : Hid (∀ w, Glob w → Calls Tryd.prog 46 #[.string s] w fun e w' => e = .returned (.tuple #[tv k t n 0, .int .i64 z]) ∧ Below w.heap.size w w')) (w : World) (hg : Glob w) : Calls Tryd.prog 20 #[.string s] w fun e w' => e = .returned (.tuple #[tv k t n 0, .int .i64 z]) ∧ Below w.heap.size w w' := by
  have HG : Hid (Glob (w.alloc (.cells #[.int .i64 0, .string ⟨#[]⟩, .int .i64 0, .int .i64 0] 29))) := hg.next (below1 _ _)
  clear hg
  obtain ⟨rfl, rfl⟩ := hw
  have h1 : wrap32 (c.toNat : Int) = (c.toNat : Int) := by have := c.toNat_lt; unfold wrap32; omega
  have h2 : (s[0].toNat : Int) = (c.toNat : Int) := by rw [hc]
  have HZ : Hid (CellsF (w.alloc (.cells #[.int .i64 0, .string ⟨#[]⟩, .int .i64 0, .int .i64 0] 29)) w.heap.size nilT) := CellsF.new w nilT 29 (by simp)
  have HW : Hid (Below w.heap.size w (w.alloc (.cells #[.int .i64 0, .string ⟨#[]⟩, .int .i64 0, .int .i64 0] 29))) := below1 _ _
  go_enter Tryd.func20, Tryd.ntmps20
  go_wp2_with fail
  refine Calls.mono (HB.out _) ?_; rintro e w1 ⟨rfl, rfl⟩
  go_wp2_with fail
  refine Calls.mono (HD.out _) ?_; rintro e w1 ⟨rfl, rfl⟩
  go_wp2_with fail
  refine Calls.mono (HT.out _ HG.out) ?_; rintro e w2 ⟨rfl, k2⟩
  have HZ2 : Hid (CellsF w2 w.heap.size nilT) := HZ.out.next k2
  have HB2 : Hid (Below w.heap.size w w2) := Below.next HW.out k2
  clear k2
  have z0 : w2.cell? ⟨w.heap.size, 0, none⟩ = some (.int .i64 0) := HZ2.out.cs 0 _ rfl
  have z1 : w2.cell? ⟨w.heap.size, 1, none⟩ = some (.string ⟨#[]⟩) := HZ2.out.cs 1 _ rfl
  have z2 : w2.cell? ⟨w.heap.size, 2, none⟩ = some (.int .i64 0) := HZ2.out.cs 2 _ rfl
  have z3 : w2.cell? ⟨w.heap.size, 3, none⟩ = some (.int .i64 0) := HZ2.out.cs 3 _ rfl
  have f0 := HZ2.out.fz 0
  have f1 := HZ2.out.fz 1
  have f2 := HZ2.out.fz 2
  have f3 := HZ2.out.fz 3
  go_wp2_with fail
  try simp only [Exit.inBlock, Exit.then]
  refine bodyPost_ret (end_cell_tmp rfl rfl (loadTok _ (HZ2.out.four rfl _ _ _ _) rfl)) rfl ?_
  exact ⟨rfl, below_four HB2.out _ (Nat.le_refl _) _ _ _ _⟩
end Go.Proofs.YtgokilochbnbaaaDoor
