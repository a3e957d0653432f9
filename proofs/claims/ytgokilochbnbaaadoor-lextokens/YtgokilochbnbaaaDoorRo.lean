/- One token, by the document. -/
import Derived.Test.YtgokilochbnbaaaDoorRt
import Derived.Test.YtgokilochbnbaaaDoorRv
import Derived.Test.YtgokilochbnbaaaDoorNg
namespace Go.Proofs.YtgokilochbnbaaaDoor
open Go.ChangeShapes Go.WideShapes Go.ChangeAt Go.RowKit
set_option linter.unusedVariables false
set_option maxRecDepth 100000

def sgL : List (List UInt8) := [[60, 62], [60, 61], [62, 61], [33, 61], [124, 124], [40], [41], [44], [46], [42], [43], [45], [47], [37], [61], [60], [62]]
theorem sg_two : ∀ i (h : i < 17), i < 5 → (sgL[i]'(by exact h)).length = 2 ∧ (sgL[i]'(by exact h) = [60, 62] ∨ sgL[i]'(by exact h) = [60, 61] ∨ sgL[i]'(by exact h) = [62, 61] ∨ sgL[i]'(by exact h) = [33, 61] ∨ sgL[i]'(by exact h) = [124, 124]) := by decide
theorem sg_one : ∀ i (h : i < 17), 5 ≤ i → (sgL[i]'(by exact h)).length = 1 ∧ shortL.contains ((sgL[i]'(by exact h)).headD 0) = true ∧ sgnT (sgL[i]'(by exact h)) = sgL[i]'(by exact h) := by decide
theorem sg_of : ∀ x ∈ shortL, ∃ i, ∃ h : i < 17, sgL[i]'(by exact h) = [x] := by decide
theorem no_two {l : List UInt8} (h : ∀ k (hk : k < 17), k < 5 → Lib.hasPrefix l (sgL[k]'(by exact hk)) = false) : ¬ (l.take 2 = [60, 62] ∨ l.take 2 = [60, 61] ∨ l.take 2 = [62, 61] ∨ l.take 2 = [33, 61] ∨ l.take 2 = [124, 124]) := by
  have g : ∀ k (hk : k < 17), k < 5 → ¬ l.take 2 = sgL[k]'(by exact hk) := fun k hk h5 e => by
    have h2 := (sg_two k hk h5).1
    have := h k hk h5
    rw [pre_take.2 (by rw [h2]; exact e)] at this
    cases this
  rintro (e | e | e | e | e)
  · exact g 0 (by omega) (by omega) e
  · exact g 1 (by omega) (by omega) e
  · exact g 2 (by omega) (by omega) e
  · exact g 3 (by omega) (by omega) e
  · exact g 4 (by omega) (by omega) e
theorem no_rem {l : List UInt8} (h : Lib.hasPrefix l [47, 42] = false) : ¬ l.take 2 = [47, 42] := fun e => by
  have q := (pre_take (l := l) (p := [47, 42])).2 e
  rw [q] at h; cases h
theorem head_take {l : List UInt8} (h : l.take 1 ≠ []) : l.headD 0 = (l.take 1).headD 0 := by
  cases l with
  | nil => rfl
  | cons c r => rfl
theorem sign_hit {l : List UInt8} (i : Nat) (hi : i < 17) (hp : Lib.hasPrefix l (sgL[i]'(by exact hi)) = true) (hn : ∀ k (hk : k < 17), k < i → Lib.hasPrefix l (sgL[k]'(by exact hk)) = false) (hr : Lib.hasPrefix l [47, 42] = false) :
    signV l = ⟨5, sgnT (sgL[i]'(by exact hi)), 0, (sgL[i]'(by exact hi)).length⟩ := by
  have ht := pre_take.1 hp
  by_cases h5 : i < 5
  · obtain ⟨h2, hd⟩ := sg_two i hi h5
    have hN : signN l = 2 := by
      unfold signN
      rw [if_pos]
      rw [h2] at ht
      rw [ht]; exact hd
    unfold signV
    rw [hN, if_neg (by omega), h2]
    rw [h2] at ht
    rw [ht]
  · obtain ⟨h1, hc, hs⟩ := sg_one i hi (by omega)
    rw [h1] at ht
    have hne : l.take 1 ≠ [] := by rw [ht]; intro e; rw [e] at h1; cases h1
    have hh : l.headD 0 = (sgL[i]'(by exact hi)).headD 0 := by rw [head_take hne, ht]
    have hN : signN l = 1 := by
      unfold signN
      rw [if_neg (no_two (fun k hk h => hn k hk (by omega))), if_neg (no_rem hr), if_pos (by rw [hh]; exact hc)]
    unfold signV
    rw [hN, if_neg (by omega), h1, ht]
theorem sign_miss {l : List UInt8} (hl : l ≠ []) (hn : ∀ k (hk : k < 17), Lib.hasPrefix l (sgL[k]'(by exact hk)) = false) (hr : Lib.hasPrefix l [47, 42] = false) : signV l = noT := by
  have hN : signN l = 0 := by
    unfold signN
    rw [if_neg (no_two (fun k hk _ => hn k hk)), if_neg (no_rem hr), if_neg]
    intro hc
    obtain ⟨i, hi, e⟩ := sg_of (l.headD 0) (by simpa using hc)
    have := hn i hi
    rw [e] at this
    cases l with
    | nil => exact hl rfl
    | cons c r =>
      have : Lib.hasPrefix (c :: r) [c] = true := by unfold Lib.hasPrefix; simp [List.isPrefixOf]
      simp_all
  unfold signV
  rw [if_pos hN]
theorem signs_ref (w : World) : Calls Tryd.prog 50 #[] w fun e w' => e = .returned (.slice (some ⟨w.heap.size, 0, none⟩) 17 17) ∧ w' = w.alloc (.cells (sgL.map (fun k => Value.string ⟨k.toArray⟩)).toArray 9) := by
  go_enter Tryd.func50, Tryd.ntmps50
  go_wp2
  go_ret
  exact ⟨rfl, rfl⟩
/-- What one has answered. -/
def OneR (a : Nat) (X : TK) (e : Ending) : Prop := (X.z ≠ 0 ∧ e = .returned (.tuple #[tv X.k ⟨X.t.toArray⟩ X.n (a : Int), .int .i64 ((a + X.z : Nat) : Int)])) ∨ (X.z = 0 ∧ ∃ k t n A, e = .returned (.tuple #[tv k t n A, .int .i64 (-1)]))
theorem one_long (s : ByteArray) (a : Nat) (ha : a < s.size) (hs : s.size ≤ 100000) (H1 : Hid (∀ w, Calls Tryd.prog 31 #[.int .u8 (s[a].toNat : Int), .bool true] w fun e w' => e = .returned (.bool true) ∧ w' = w)) (E : Nat) (hE : a ≤ E ∧ E ≤ s.size) (H2 : Hid (∀ w, Calls Tryd.prog 32 #[.string s, .int .i64 (a : Int), .bool false] w fun e w' => e = .returned (.int .i64 ((E : Nat) : Int)) ∧ w' = w)) (hl : 64 < (E : Int) - (a : Int)) (w : World) : Calls Tryd.prog 22 #[.string s, .int .i64 (a : Int)] w fun e w' => e = .returned (.tuple #[tv 0 ⟨#[]⟩ 0 0, .int .i64 (-1)]) ∧ Below w.heap.size w w' := by
  have hai : (a : Int) < (s.size : Int) := by omega
  have hw1 : wrap64 ((E : Int) - (a : Int)) = (E : Int) - (a : Int) := by unfold wrap64; omega
  have HZ : Hid (CellsF (w.alloc (.cells #[.int .i64 0, .string ⟨#[]⟩, .int .i64 0, .int .i64 0] 29)) w.heap.size nilT) := CellsF.new w nilT 29 (by simp)
  have HW : Hid (Below w.heap.size w (w.alloc (.cells #[.int .i64 0, .string ⟨#[]⟩, .int .i64 0, .int .i64 0] 29))) := below1 _ _
  go_enter Tryd.func22, Tryd.ntmps22
  go_wp2_with fail
  refine (H1.out _).mono ?_; rintro e w1 ⟨rfl, rfl⟩
  generalize (w.alloc (.cells #[.int .i64 0, .string ⟨#[]⟩, .int .i64 0, .int .i64 0] 29)) = W at *
  go_wp2_with fail
  refine (H2.out _).mono ?_; rintro e w2 ⟨rfl, rfl⟩
  have z0 : w2.cell? ⟨w.heap.size, 0, none⟩ = some (.int .i64 0) := HZ.out.cs 0 _ rfl
  have z1 : w2.cell? ⟨w.heap.size, 1, none⟩ = some (.string ⟨#[]⟩) := HZ.out.cs 1 _ rfl
  have z2 : w2.cell? ⟨w.heap.size, 2, none⟩ = some (.int .i64 0) := HZ.out.cs 2 _ rfl
  have z3 : w2.cell? ⟨w.heap.size, 3, none⟩ = some (.int .i64 0) := HZ.out.cs 3 _ rfl
  have f0 := HZ.out.fz 0
  have f1 := HZ.out.fz 1
  have f2 := HZ.out.fz 2
  have f3 := HZ.out.fz 3
  go_wp2_with fail
  try simp only [Exit.inBlock, Exit.then]
  refine bodyPost_ret (end_cell_tmp rfl rfl (loadTok _ (HZ.out.four rfl _ _ _ _) rfl)) rfl ?_
  exact ⟨rfl, below_four HW.out _ (Nat.le_refl _) _ _ _ _⟩
theorem one_key (s : ByteArray) (a : Nat) (ha : a < s.size) (hs : s.size ≤ 100000) (H1 : Hid (∀ w, Calls Tryd.prog 31 #[.int .u8 (s[a].toNat : Int), .bool true] w fun e w' => e = .returned (.bool true) ∧ w' = w)) (E : Nat) (hE : a ≤ E ∧ E ≤ s.size) (A U : ByteArray) (hA : s.extract a E = A) (H2 : Hid (∀ w, Calls Tryd.prog 32 #[.string s, .int .i64 (a : Int), .bool false] w fun e w' => e = .returned (.int .i64 ((E : Nat) : Int)) ∧ w' = w)) (hl : ¬ 64 < (E : Int) - (a : Int)) (H3 : Hid (∀ w, Calls Tryd.prog 33 #[.string A] w fun e w' => e = .returned (.string U) ∧ Below w.heap.size w w')) (H4 : Hid (∀ w, Calls Tryd.prog 15 #[.string U] w fun e w' => e = .returned (.bool true) ∧ Below w.heap.size w w')) (w : World) : Calls Tryd.prog 22 #[.string s, .int .i64 (a : Int)] w fun e w' => e = .returned (.tuple #[tv 2 U 0 (a : Int), .int .i64 (E : Int)]) ∧ Below w.heap.size w w' := by
  have hai : (a : Int) < (s.size : Int) := by omega
  have hw1 : wrap64 ((E : Int) - (a : Int)) = (E : Int) - (a : Int) := by unfold wrap64; omega
  have hSL : ∀ V, (Instr.sliceAt 9 (.string s) (some (.int .i64 (a : Int))) (some (.int .i64 (E : Int))) none).run Tryd.prog V = .ok (.string A) V := fun V => by rw [← hA]; exact str_slice s a E (by omega) (by omega) V
  clear hA
  have HZ : Hid (CellsF (w.alloc (.cells #[.int .i64 0, .string ⟨#[]⟩, .int .i64 0, .int .i64 0] 29)) w.heap.size nilT) := CellsF.new w nilT 29 (by simp)
  have HW : Hid (Below w.heap.size w (w.alloc (.cells #[.int .i64 0, .string ⟨#[]⟩, .int .i64 0, .int .i64 0] 29))) := below1 _ _
  go_enter Tryd.func22, Tryd.ntmps22
  go_wp2_with fail
  refine (H1.out _).mono ?_; rintro e w1 ⟨rfl, rfl⟩
  generalize (w.alloc (.cells #[.int .i64 0, .string ⟨#[]⟩, .int .i64 0, .int .i64 0] 29)) = W at *
  go_wp2_with fail
  refine (H2.out _).mono ?_; rintro e w2 ⟨rfl, rfl⟩
  go_wp2_with fail
  refine (H3.out _).mono ?_; rintro e v3 ⟨rfl, k3⟩
  have HZ3 : Hid (CellsF v3 w.heap.size nilT) := HZ.out.next k3
  have HB3 : Hid (Below w.heap.size w v3) := Below.next HW.out k3
  clear k3
  go_wp2_with fail
  refine (H4.out _).mono ?_; rintro e v4 ⟨rfl, k4⟩
  have HZ4 : Hid (CellsF v4 w.heap.size nilT) := HZ3.out.next k4
  have HB4 : Hid (Below w.heap.size w v4) := Below.next HB3.out k4
  clear k4
  have z0 : v4.cell? ⟨w.heap.size, 0, none⟩ = some (.int .i64 0) := HZ4.out.cs 0 _ rfl
  have z1 : v4.cell? ⟨w.heap.size, 1, none⟩ = some (.string ⟨#[]⟩) := HZ4.out.cs 1 _ rfl
  have z2 : v4.cell? ⟨w.heap.size, 2, none⟩ = some (.int .i64 0) := HZ4.out.cs 2 _ rfl
  have z3 : v4.cell? ⟨w.heap.size, 3, none⟩ = some (.int .i64 0) := HZ4.out.cs 3 _ rfl
  have f0 := HZ4.out.fz 0
  have f1 := HZ4.out.fz 1
  have f2 := HZ4.out.fz 2
  have f3 := HZ4.out.fz 3
  go_wp2_with fail
  try simp only [Exit.inBlock, Exit.then]
  refine bodyPost_ret (end_cell_tmp rfl rfl (loadTok _ (HZ4.out.four rfl _ _ _ _) rfl)) rfl ?_
  exact ⟨rfl, below_four HB4.out _ (Nat.le_refl _) _ _ _ _⟩
theorem one_name (s : ByteArray) (a : Nat) (ha : a < s.size) (hs : s.size ≤ 100000) (H1 : Hid (∀ w, Calls Tryd.prog 31 #[.int .u8 (s[a].toNat : Int), .bool true] w fun e w' => e = .returned (.bool true) ∧ w' = w)) (E : Nat) (hE : a ≤ E ∧ E ≤ s.size) (A U : ByteArray) (hA : s.extract a E = A) (H2 : Hid (∀ w, Calls Tryd.prog 32 #[.string s, .int .i64 (a : Int), .bool false] w fun e w' => e = .returned (.int .i64 ((E : Nat) : Int)) ∧ w' = w)) (hl : ¬ 64 < (E : Int) - (a : Int)) (H3 : Hid (∀ w, Calls Tryd.prog 33 #[.string A] w fun e w' => e = .returned (.string U) ∧ Below w.heap.size w w')) (H4 : Hid (∀ w, Calls Tryd.prog 15 #[.string U] w fun e w' => e = .returned (.bool false) ∧ Below w.heap.size w w')) (w : World) : Calls Tryd.prog 22 #[.string s, .int .i64 (a : Int)] w fun e w' => e = .returned (.tuple #[tv 1 A 0 (a : Int), .int .i64 (E : Int)]) ∧ Below w.heap.size w w' := by
  have hai : (a : Int) < (s.size : Int) := by omega
  have hw1 : wrap64 ((E : Int) - (a : Int)) = (E : Int) - (a : Int) := by unfold wrap64; omega
  have hSL : ∀ V, (Instr.sliceAt 9 (.string s) (some (.int .i64 (a : Int))) (some (.int .i64 (E : Int))) none).run Tryd.prog V = .ok (.string A) V := fun V => by rw [← hA]; exact str_slice s a E (by omega) (by omega) V
  clear hA
  have HZ : Hid (CellsF (w.alloc (.cells #[.int .i64 0, .string ⟨#[]⟩, .int .i64 0, .int .i64 0] 29)) w.heap.size nilT) := CellsF.new w nilT 29 (by simp)
  have HW : Hid (Below w.heap.size w (w.alloc (.cells #[.int .i64 0, .string ⟨#[]⟩, .int .i64 0, .int .i64 0] 29))) := below1 _ _
  go_enter Tryd.func22, Tryd.ntmps22
  go_wp2_with fail
  refine (H1.out _).mono ?_; rintro e w1 ⟨rfl, rfl⟩
  generalize (w.alloc (.cells #[.int .i64 0, .string ⟨#[]⟩, .int .i64 0, .int .i64 0] 29)) = W at *
  go_wp2_with fail
  refine (H2.out _).mono ?_; rintro e w2 ⟨rfl, rfl⟩
  go_wp2_with fail
  refine (H3.out _).mono ?_; rintro e v3 ⟨rfl, k3⟩
  have HZ3 : Hid (CellsF v3 w.heap.size nilT) := HZ.out.next k3
  have HB3 : Hid (Below w.heap.size w v3) := Below.next HW.out k3
  clear k3
  go_wp2_with fail
  refine (H4.out _).mono ?_; rintro e v4 ⟨rfl, k4⟩
  have HZ4 : Hid (CellsF v4 w.heap.size nilT) := HZ3.out.next k4
  have HB4 : Hid (Below w.heap.size w v4) := Below.next HB3.out k4
  clear k4
  have z0 : v4.cell? ⟨w.heap.size, 0, none⟩ = some (.int .i64 0) := HZ4.out.cs 0 _ rfl
  have z1 : v4.cell? ⟨w.heap.size, 1, none⟩ = some (.string ⟨#[]⟩) := HZ4.out.cs 1 _ rfl
  have z2 : v4.cell? ⟨w.heap.size, 2, none⟩ = some (.int .i64 0) := HZ4.out.cs 2 _ rfl
  have z3 : v4.cell? ⟨w.heap.size, 3, none⟩ = some (.int .i64 0) := HZ4.out.cs 3 _ rfl
  have f0 := HZ4.out.fz 0
  have f1 := HZ4.out.fz 1
  have f2 := HZ4.out.fz 2
  have f3 := HZ4.out.fz 3
  go_wp2_with fail
  try simp only [Exit.inBlock, Exit.then]
  refine bodyPost_ret (end_cell_tmp rfl rfl (loadTok _ (HZ4.out.four rfl _ _ _ _) rfl)) rfl ?_
  exact ⟨rfl, below_four HB4.out _ (Nat.le_refl _) _ _ _ _⟩
theorem one_qlong (s : ByteArray) (a : Nat) (ha : a < s.size) (hs : s.size ≤ 100000) (H1 : Hid (∀ w, Calls Tryd.prog 31 #[.int .u8 (s[a].toNat : Int), .bool true] w fun e w' => e = .returned (.bool false) ∧ w' = w)) (h34 : ((s[a].toNat : Int) == 34) = true) (t : ByteArray) (n : Int) (H3 : Hid (∀ w, Calls Tryd.prog 48 #[.string s, .int .i64 (a : Int)] w fun e w' => e = .returned (.tuple #[.string t, .int .i64 n]) ∧ Below w.heap.size w w')) (hl : 64 < (t.size : Int)) (w : World) : Calls Tryd.prog 22 #[.string s, .int .i64 (a : Int)] w fun e w' => e = .returned (.tuple #[tv 0 ⟨#[]⟩ 0 0, .int .i64 (-1)]) ∧ Below w.heap.size w w' := by
  have hai : (a : Int) < (s.size : Int) := by omega
  have HZ : Hid (CellsF (w.alloc (.cells #[.int .i64 0, .string ⟨#[]⟩, .int .i64 0, .int .i64 0] 29)) w.heap.size nilT) := CellsF.new w nilT 29 (by simp)
  have HW : Hid (Below w.heap.size w (w.alloc (.cells #[.int .i64 0, .string ⟨#[]⟩, .int .i64 0, .int .i64 0] 29))) := below1 _ _
  go_enter Tryd.func22, Tryd.ntmps22
  go_wp2_with fail
  refine (H1.out _).mono ?_; rintro e w1 ⟨rfl, rfl⟩
  generalize (w.alloc (.cells #[.int .i64 0, .string ⟨#[]⟩, .int .i64 0, .int .i64 0] 29)) = W at *
  go_wp2_with fail
  refine (H3.out _).mono ?_; rintro e v3 ⟨rfl, k3⟩
  have HZ3 : Hid (CellsF v3 w.heap.size nilT) := HZ.out.next k3
  have HB3 : Hid (Below w.heap.size w v3) := Below.next HW.out k3
  clear k3
  have z0 : v3.cell? ⟨w.heap.size, 0, none⟩ = some (.int .i64 0) := HZ3.out.cs 0 _ rfl
  have z1 : v3.cell? ⟨w.heap.size, 1, none⟩ = some (.string ⟨#[]⟩) := HZ3.out.cs 1 _ rfl
  have z2 : v3.cell? ⟨w.heap.size, 2, none⟩ = some (.int .i64 0) := HZ3.out.cs 2 _ rfl
  have z3 : v3.cell? ⟨w.heap.size, 3, none⟩ = some (.int .i64 0) := HZ3.out.cs 3 _ rfl
  have f0 := HZ3.out.fz 0
  have f1 := HZ3.out.fz 1
  have f2 := HZ3.out.fz 2
  have f3 := HZ3.out.fz 3
  go_wp2_with fail
  try simp only [Exit.inBlock, Exit.then]
  refine bodyPost_ret (end_cell_tmp rfl rfl (loadTok _ (HZ3.out.four rfl _ _ _ _) rfl)) rfl ?_
  exact ⟨rfl, below_four HB3.out _ (Nat.le_refl _) _ _ _ _⟩
theorem one_qnone (s : ByteArray) (a : Nat) (ha : a < s.size) (hs : s.size ≤ 100000) (H1 : Hid (∀ w, Calls Tryd.prog 31 #[.int .u8 (s[a].toNat : Int), .bool true] w fun e w' => e = .returned (.bool false) ∧ w' = w)) (h34 : ((s[a].toNat : Int) == 34) = true) (t : ByteArray) (n : Int) (H3 : Hid (∀ w, Calls Tryd.prog 48 #[.string s, .int .i64 (a : Int)] w fun e w' => e = .returned (.tuple #[.string ⟨#[]⟩, .int .i64 n]) ∧ Below w.heap.size w w'))  (w : World) : Calls Tryd.prog 22 #[.string s, .int .i64 (a : Int)] w fun e w' => e = .returned (.tuple #[tv 0 ⟨#[]⟩ 0 0, .int .i64 (-1)]) ∧ Below w.heap.size w w' := by
  have hai : (a : Int) < (s.size : Int) := by omega
  have HZ : Hid (CellsF (w.alloc (.cells #[.int .i64 0, .string ⟨#[]⟩, .int .i64 0, .int .i64 0] 29)) w.heap.size nilT) := CellsF.new w nilT 29 (by simp)
  have HW : Hid (Below w.heap.size w (w.alloc (.cells #[.int .i64 0, .string ⟨#[]⟩, .int .i64 0, .int .i64 0] 29))) := below1 _ _
  go_enter Tryd.func22, Tryd.ntmps22
  go_wp2_with fail
  refine (H1.out _).mono ?_; rintro e w1 ⟨rfl, rfl⟩
  generalize (w.alloc (.cells #[.int .i64 0, .string ⟨#[]⟩, .int .i64 0, .int .i64 0] 29)) = W at *
  go_wp2_with fail
  refine (H3.out _).mono ?_; rintro e v3 ⟨rfl, k3⟩
  have HZ3 : Hid (CellsF v3 w.heap.size nilT) := HZ.out.next k3
  have HB3 : Hid (Below w.heap.size w v3) := Below.next HW.out k3
  clear k3
  have z0 : v3.cell? ⟨w.heap.size, 0, none⟩ = some (.int .i64 0) := HZ3.out.cs 0 _ rfl
  have z1 : v3.cell? ⟨w.heap.size, 1, none⟩ = some (.string ⟨#[]⟩) := HZ3.out.cs 1 _ rfl
  have z2 : v3.cell? ⟨w.heap.size, 2, none⟩ = some (.int .i64 0) := HZ3.out.cs 2 _ rfl
  have z3 : v3.cell? ⟨w.heap.size, 3, none⟩ = some (.int .i64 0) := HZ3.out.cs 3 _ rfl
  have f0 := HZ3.out.fz 0
  have f1 := HZ3.out.fz 1
  have f2 := HZ3.out.fz 2
  have f3 := HZ3.out.fz 3
  go_wp2_with fail
  try simp only [Exit.inBlock, Exit.then]
  refine bodyPost_ret (end_cell_tmp rfl rfl (loadTok _ (HZ3.out.four rfl _ _ _ _) rfl)) rfl ?_
  exact ⟨rfl, below_four HB3.out _ (Nat.le_refl _) _ _ _ _⟩
theorem one_qname (s : ByteArray) (a : Nat) (ha : a < s.size) (hs : s.size ≤ 100000) (H1 : Hid (∀ w, Calls Tryd.prog 31 #[.int .u8 (s[a].toNat : Int), .bool true] w fun e w' => e = .returned (.bool false) ∧ w' = w)) (h34 : ((s[a].toNat : Int) == 34) = true) (t : ByteArray) (n : Int) (H3 : Hid (∀ w, Calls Tryd.prog 48 #[.string s, .int .i64 (a : Int)] w fun e w' => e = .returned (.tuple #[.string t, .int .i64 n]) ∧ Below w.heap.size w w')) (hl : ¬ 64 < (t.size : Int)) (h0 : t.toList.isEmpty = false) (h1 : ¬ t.toList = []) (w : World) : Calls Tryd.prog 22 #[.string s, .int .i64 (a : Int)] w fun e w' => e = .returned (.tuple #[tv 1 t 0 (a : Int), .int .i64 n]) ∧ Below w.heap.size w w' := by
  have hai : (a : Int) < (s.size : Int) := by omega
  have HZ : Hid (CellsF (w.alloc (.cells #[.int .i64 0, .string ⟨#[]⟩, .int .i64 0, .int .i64 0] 29)) w.heap.size nilT) := CellsF.new w nilT 29 (by simp)
  have HW : Hid (Below w.heap.size w (w.alloc (.cells #[.int .i64 0, .string ⟨#[]⟩, .int .i64 0, .int .i64 0] 29))) := below1 _ _
  go_enter Tryd.func22, Tryd.ntmps22
  go_wp2_with fail
  refine (H1.out _).mono ?_; rintro e w1 ⟨rfl, rfl⟩
  generalize (w.alloc (.cells #[.int .i64 0, .string ⟨#[]⟩, .int .i64 0, .int .i64 0] 29)) = W at *
  go_wp2_with fail
  refine (H3.out _).mono ?_; rintro e v3 ⟨rfl, k3⟩
  have HZ3 : Hid (CellsF v3 w.heap.size nilT) := HZ.out.next k3
  have HB3 : Hid (Below w.heap.size w v3) := Below.next HW.out k3
  clear k3
  have z0 : v3.cell? ⟨w.heap.size, 0, none⟩ = some (.int .i64 0) := HZ3.out.cs 0 _ rfl
  have z1 : v3.cell? ⟨w.heap.size, 1, none⟩ = some (.string ⟨#[]⟩) := HZ3.out.cs 1 _ rfl
  have z2 : v3.cell? ⟨w.heap.size, 2, none⟩ = some (.int .i64 0) := HZ3.out.cs 2 _ rfl
  have z3 : v3.cell? ⟨w.heap.size, 3, none⟩ = some (.int .i64 0) := HZ3.out.cs 3 _ rfl
  have f0 := HZ3.out.fz 0
  have f1 := HZ3.out.fz 1
  have f2 := HZ3.out.fz 2
  have f3 := HZ3.out.fz 3
  go_wp2_with fail
  try simp only [Exit.inBlock, Exit.then]
  refine bodyPost_ret (end_cell_tmp rfl rfl (loadTok _ (HZ3.out.four rfl _ _ _ _) rfl)) rfl ?_
  exact ⟨rfl, below_four HB3.out _ (Nat.le_refl _) _ _ _ _⟩
theorem one_tlong (s : ByteArray) (a : Nat) (ha : a < s.size) (hs : s.size ≤ 100000) (H1 : Hid (∀ w, Calls Tryd.prog 31 #[.int .u8 (s[a].toNat : Int), .bool true] w fun e w' => e = .returned (.bool false) ∧ w' = w)) (h34 : ((s[a].toNat : Int) == 34) = false) (h39 : ((s[a].toNat : Int) == 39) = true) (t : ByteArray) (n : Int) (H3 : Hid (∀ w, Calls Tryd.prog 48 #[.string s, .int .i64 (a : Int)] w fun e w' => e = .returned (.tuple #[.string t, .int .i64 n]) ∧ Below w.heap.size w w')) (hl : 64 < (t.size : Int)) (w : World) : Calls Tryd.prog 22 #[.string s, .int .i64 (a : Int)] w fun e w' => e = .returned (.tuple #[tv 0 ⟨#[]⟩ 0 0, .int .i64 (-1)]) ∧ Below w.heap.size w w' := by
  have hai : (a : Int) < (s.size : Int) := by omega
  have HZ : Hid (CellsF (w.alloc (.cells #[.int .i64 0, .string ⟨#[]⟩, .int .i64 0, .int .i64 0] 29)) w.heap.size nilT) := CellsF.new w nilT 29 (by simp)
  have HW : Hid (Below w.heap.size w (w.alloc (.cells #[.int .i64 0, .string ⟨#[]⟩, .int .i64 0, .int .i64 0] 29))) := below1 _ _
  go_enter Tryd.func22, Tryd.ntmps22
  go_wp2_with fail
  refine (H1.out _).mono ?_; rintro e w1 ⟨rfl, rfl⟩
  generalize (w.alloc (.cells #[.int .i64 0, .string ⟨#[]⟩, .int .i64 0, .int .i64 0] 29)) = W at *
  go_wp2_with fail
  refine (H3.out _).mono ?_; rintro e v3 ⟨rfl, k3⟩
  have HZ3 : Hid (CellsF v3 w.heap.size nilT) := HZ.out.next k3
  have HB3 : Hid (Below w.heap.size w v3) := Below.next HW.out k3
  clear k3
  have z0 : v3.cell? ⟨w.heap.size, 0, none⟩ = some (.int .i64 0) := HZ3.out.cs 0 _ rfl
  have z1 : v3.cell? ⟨w.heap.size, 1, none⟩ = some (.string ⟨#[]⟩) := HZ3.out.cs 1 _ rfl
  have z2 : v3.cell? ⟨w.heap.size, 2, none⟩ = some (.int .i64 0) := HZ3.out.cs 2 _ rfl
  have z3 : v3.cell? ⟨w.heap.size, 3, none⟩ = some (.int .i64 0) := HZ3.out.cs 3 _ rfl
  have f0 := HZ3.out.fz 0
  have f1 := HZ3.out.fz 1
  have f2 := HZ3.out.fz 2
  have f3 := HZ3.out.fz 3
  go_wp2_with fail
  try simp only [Exit.inBlock, Exit.then]
  refine bodyPost_ret (end_cell_tmp rfl rfl (loadTok _ (HZ3.out.four rfl _ _ _ _) rfl)) rfl ?_
  exact ⟨rfl, below_four HB3.out _ (Nat.le_refl _) _ _ _ _⟩
theorem one_tempty (s : ByteArray) (a : Nat) (ha : a < s.size) (hs : s.size ≤ 100000) (H1 : Hid (∀ w, Calls Tryd.prog 31 #[.int .u8 (s[a].toNat : Int), .bool true] w fun e w' => e = .returned (.bool false) ∧ w' = w)) (h34 : ((s[a].toNat : Int) == 34) = false) (h39 : ((s[a].toNat : Int) == 39) = true) (t : ByteArray) (n : Int) (H3 : Hid (∀ w, Calls Tryd.prog 48 #[.string s, .int .i64 (a : Int)] w fun e w' => e = .returned (.tuple #[.string ⟨#[]⟩, .int .i64 n]) ∧ Below w.heap.size w w'))  (w : World) : Calls Tryd.prog 22 #[.string s, .int .i64 (a : Int)] w fun e w' => e = .returned (.tuple #[tv 4 ⟨#[]⟩ 0 (a : Int), .int .i64 n]) ∧ Below w.heap.size w w' := by
  have hai : (a : Int) < (s.size : Int) := by omega
  have HZ : Hid (CellsF (w.alloc (.cells #[.int .i64 0, .string ⟨#[]⟩, .int .i64 0, .int .i64 0] 29)) w.heap.size nilT) := CellsF.new w nilT 29 (by simp)
  have HW : Hid (Below w.heap.size w (w.alloc (.cells #[.int .i64 0, .string ⟨#[]⟩, .int .i64 0, .int .i64 0] 29))) := below1 _ _
  go_enter Tryd.func22, Tryd.ntmps22
  go_wp2_with fail
  refine (H1.out _).mono ?_; rintro e w1 ⟨rfl, rfl⟩
  generalize (w.alloc (.cells #[.int .i64 0, .string ⟨#[]⟩, .int .i64 0, .int .i64 0] 29)) = W at *
  go_wp2_with fail
  refine (H3.out _).mono ?_; rintro e v3 ⟨rfl, k3⟩
  have HZ3 : Hid (CellsF v3 w.heap.size nilT) := HZ.out.next k3
  have HB3 : Hid (Below w.heap.size w v3) := Below.next HW.out k3
  clear k3
  have z0 : v3.cell? ⟨w.heap.size, 0, none⟩ = some (.int .i64 0) := HZ3.out.cs 0 _ rfl
  have z1 : v3.cell? ⟨w.heap.size, 1, none⟩ = some (.string ⟨#[]⟩) := HZ3.out.cs 1 _ rfl
  have z2 : v3.cell? ⟨w.heap.size, 2, none⟩ = some (.int .i64 0) := HZ3.out.cs 2 _ rfl
  have z3 : v3.cell? ⟨w.heap.size, 3, none⟩ = some (.int .i64 0) := HZ3.out.cs 3 _ rfl
  have f0 := HZ3.out.fz 0
  have f1 := HZ3.out.fz 1
  have f2 := HZ3.out.fz 2
  have f3 := HZ3.out.fz 3
  go_wp2_with fail
  try simp only [Exit.inBlock, Exit.then]
  refine bodyPost_ret (end_cell_tmp rfl rfl (loadTok _ (HZ3.out.four rfl _ _ _ _) rfl)) rfl ?_
  exact ⟨rfl, below_four HB3.out _ (Nat.le_refl _) _ _ _ _⟩
theorem one_ttext (s : ByteArray) (a : Nat) (ha : a < s.size) (hs : s.size ≤ 100000) (H1 : Hid (∀ w, Calls Tryd.prog 31 #[.int .u8 (s[a].toNat : Int), .bool true] w fun e w' => e = .returned (.bool false) ∧ w' = w)) (h34 : ((s[a].toNat : Int) == 34) = false) (h39 : ((s[a].toNat : Int) == 39) = true) (t : ByteArray) (n : Int) (H3 : Hid (∀ w, Calls Tryd.prog 48 #[.string s, .int .i64 (a : Int)] w fun e w' => e = .returned (.tuple #[.string t, .int .i64 n]) ∧ Below w.heap.size w w')) (hl : ¬ 64 < (t.size : Int)) (h0 : t.toList.isEmpty = false) (h1 : ¬ t.toList = []) (w : World) : Calls Tryd.prog 22 #[.string s, .int .i64 (a : Int)] w fun e w' => e = .returned (.tuple #[tv 4 t 0 (a : Int), .int .i64 n]) ∧ Below w.heap.size w w' := by
  have hai : (a : Int) < (s.size : Int) := by omega
  have HZ : Hid (CellsF (w.alloc (.cells #[.int .i64 0, .string ⟨#[]⟩, .int .i64 0, .int .i64 0] 29)) w.heap.size nilT) := CellsF.new w nilT 29 (by simp)
  have HW : Hid (Below w.heap.size w (w.alloc (.cells #[.int .i64 0, .string ⟨#[]⟩, .int .i64 0, .int .i64 0] 29))) := below1 _ _
  go_enter Tryd.func22, Tryd.ntmps22
  go_wp2_with fail
  refine (H1.out _).mono ?_; rintro e w1 ⟨rfl, rfl⟩
  generalize (w.alloc (.cells #[.int .i64 0, .string ⟨#[]⟩, .int .i64 0, .int .i64 0] 29)) = W at *
  go_wp2_with fail
  refine (H3.out _).mono ?_; rintro e v3 ⟨rfl, k3⟩
  have HZ3 : Hid (CellsF v3 w.heap.size nilT) := HZ.out.next k3
  have HB3 : Hid (Below w.heap.size w v3) := Below.next HW.out k3
  clear k3
  have z0 : v3.cell? ⟨w.heap.size, 0, none⟩ = some (.int .i64 0) := HZ3.out.cs 0 _ rfl
  have z1 : v3.cell? ⟨w.heap.size, 1, none⟩ = some (.string ⟨#[]⟩) := HZ3.out.cs 1 _ rfl
  have z2 : v3.cell? ⟨w.heap.size, 2, none⟩ = some (.int .i64 0) := HZ3.out.cs 2 _ rfl
  have z3 : v3.cell? ⟨w.heap.size, 3, none⟩ = some (.int .i64 0) := HZ3.out.cs 3 _ rfl
  have f0 := HZ3.out.fz 0
  have f1 := HZ3.out.fz 1
  have f2 := HZ3.out.fz 2
  have f3 := HZ3.out.fz 3
  go_wp2_with fail
  try simp only [Exit.inBlock, Exit.then]
  refine bodyPost_ret (end_cell_tmp rfl rfl (loadTok _ (HZ3.out.four rfl _ _ _ _) rfl)) rfl ?_
  exact ⟨rfl, below_four HB3.out _ (Nat.le_refl _) _ _ _ _⟩
theorem one_dbad (s : ByteArray) (a : Nat) (ha : a < s.size) (hs : s.size ≤ 100000) (H1 : Hid (∀ w, Calls Tryd.prog 31 #[.int .u8 (s[a].toNat : Int), .bool true] w fun e w' => e = .returned (.bool false) ∧ w' = w)) (h34 : ((s[a].toNat : Int) == 34) = false) (h39 : ((s[a].toNat : Int) == 39) = false) (d1 : (48 : Int) ≤ (s[a].toNat : Int)) (d2 : (s[a].toNat : Int) ≤ 57) (E : Nat) (hE : a ≤ E ∧ E ≤ s.size) (A : ByteArray) (hA : s.extract a E = A) (v x : Int) (hx : (x != 0) = true) (H2 : Hid (∀ w, Calls Tryd.prog 32 #[.string s, .int .i64 (a : Int), .bool true] w fun e w' => e = .returned (.int .i64 ((E : Nat) : Int)) ∧ w' = w)) (H3 : Hid (∀ w, Calls Tryd.prog 49 #[.string A] w fun e w' => e = .returned (.tuple #[.int .i64 v, .int .i64 x]) ∧ Below w.heap.size w w')) (w : World) : Calls Tryd.prog 22 #[.string s, .int .i64 (a : Int)] w fun e w' => e = .returned (.tuple #[tv 0 ⟨#[]⟩ 0 0, .int .i64 (-1)]) ∧ Below w.heap.size w w' := by
  have hai : (a : Int) < (s.size : Int) := by omega
  have hSL : ∀ V, (Instr.sliceAt 9 (.string s) (some (.int .i64 (a : Int))) (some (.int .i64 (E : Int))) none).run Tryd.prog V = .ok (.string A) V := fun V => by rw [← hA]; exact str_slice s a E (by omega) (by omega) V
  clear hA
  have HZ : Hid (CellsF (w.alloc (.cells #[.int .i64 0, .string ⟨#[]⟩, .int .i64 0, .int .i64 0] 29)) w.heap.size nilT) := CellsF.new w nilT 29 (by simp)
  have HW : Hid (Below w.heap.size w (w.alloc (.cells #[.int .i64 0, .string ⟨#[]⟩, .int .i64 0, .int .i64 0] 29))) := below1 _ _
  go_enter Tryd.func22, Tryd.ntmps22
  go_wp2_with fail
  refine (H1.out _).mono ?_; rintro e w1 ⟨rfl, rfl⟩
  generalize (w.alloc (.cells #[.int .i64 0, .string ⟨#[]⟩, .int .i64 0, .int .i64 0] 29)) = W at *
  go_wp2_with fail
  refine (H2.out _).mono ?_; rintro e w2 ⟨rfl, rfl⟩
  go_wp2_with fail
  refine (H3.out _).mono ?_; rintro e v3 ⟨rfl, k3⟩
  have HZ3 : Hid (CellsF v3 w.heap.size nilT) := HZ.out.next k3
  have HB3 : Hid (Below w.heap.size w v3) := Below.next HW.out k3
  clear k3
  have z0 : v3.cell? ⟨w.heap.size, 0, none⟩ = some (.int .i64 0) := HZ3.out.cs 0 _ rfl
  have z1 : v3.cell? ⟨w.heap.size, 1, none⟩ = some (.string ⟨#[]⟩) := HZ3.out.cs 1 _ rfl
  have z2 : v3.cell? ⟨w.heap.size, 2, none⟩ = some (.int .i64 0) := HZ3.out.cs 2 _ rfl
  have z3 : v3.cell? ⟨w.heap.size, 3, none⟩ = some (.int .i64 0) := HZ3.out.cs 3 _ rfl
  have f0 := HZ3.out.fz 0
  have f1 := HZ3.out.fz 1
  have f2 := HZ3.out.fz 2
  have f3 := HZ3.out.fz 3
  go_wp2_with fail
  try simp only [Exit.inBlock, Exit.then]
  refine bodyPost_ret (end_cell_tmp rfl rfl (loadTok _ (HZ3.out.four rfl _ _ _ _) rfl)) rfl ?_
  exact ⟨rfl, below_four HB3.out _ (Nat.le_refl _) _ _ _ _⟩
theorem one_dok (s : ByteArray) (a : Nat) (ha : a < s.size) (hs : s.size ≤ 100000) (H1 : Hid (∀ w, Calls Tryd.prog 31 #[.int .u8 (s[a].toNat : Int), .bool true] w fun e w' => e = .returned (.bool false) ∧ w' = w)) (h34 : ((s[a].toNat : Int) == 34) = false) (h39 : ((s[a].toNat : Int) == 39) = false) (d1 : (48 : Int) ≤ (s[a].toNat : Int)) (d2 : (s[a].toNat : Int) ≤ 57) (E : Nat) (hE : a ≤ E ∧ E ≤ s.size) (A : ByteArray) (hA : s.extract a E = A) (v x : Int) (H2 : Hid (∀ w, Calls Tryd.prog 32 #[.string s, .int .i64 (a : Int), .bool true] w fun e w' => e = .returned (.int .i64 ((E : Nat) : Int)) ∧ w' = w)) (H3 : Hid (∀ w, Calls Tryd.prog 49 #[.string A] w fun e w' => e = .returned (.tuple #[.int .i64 v, .int .i64 0]) ∧ Below w.heap.size w w')) (w : World) : Calls Tryd.prog 22 #[.string s, .int .i64 (a : Int)] w fun e w' => e = .returned (.tuple #[tv 3 ⟨#[]⟩ v (a : Int), .int .i64 (E : Int)]) ∧ Below w.heap.size w w' := by
  have hai : (a : Int) < (s.size : Int) := by omega
  have hSL : ∀ V, (Instr.sliceAt 9 (.string s) (some (.int .i64 (a : Int))) (some (.int .i64 (E : Int))) none).run Tryd.prog V = .ok (.string A) V := fun V => by rw [← hA]; exact str_slice s a E (by omega) (by omega) V
  clear hA
  have HZ : Hid (CellsF (w.alloc (.cells #[.int .i64 0, .string ⟨#[]⟩, .int .i64 0, .int .i64 0] 29)) w.heap.size nilT) := CellsF.new w nilT 29 (by simp)
  have HW : Hid (Below w.heap.size w (w.alloc (.cells #[.int .i64 0, .string ⟨#[]⟩, .int .i64 0, .int .i64 0] 29))) := below1 _ _
  go_enter Tryd.func22, Tryd.ntmps22
  go_wp2_with fail
  refine (H1.out _).mono ?_; rintro e w1 ⟨rfl, rfl⟩
  generalize (w.alloc (.cells #[.int .i64 0, .string ⟨#[]⟩, .int .i64 0, .int .i64 0] 29)) = W at *
  go_wp2_with fail
  refine (H2.out _).mono ?_; rintro e w2 ⟨rfl, rfl⟩
  go_wp2_with fail
  refine (H3.out _).mono ?_; rintro e v3 ⟨rfl, k3⟩
  have HZ3 : Hid (CellsF v3 w.heap.size nilT) := HZ.out.next k3
  have HB3 : Hid (Below w.heap.size w v3) := Below.next HW.out k3
  clear k3
  have z0 : v3.cell? ⟨w.heap.size, 0, none⟩ = some (.int .i64 0) := HZ3.out.cs 0 _ rfl
  have z1 : v3.cell? ⟨w.heap.size, 1, none⟩ = some (.string ⟨#[]⟩) := HZ3.out.cs 1 _ rfl
  have z2 : v3.cell? ⟨w.heap.size, 2, none⟩ = some (.int .i64 0) := HZ3.out.cs 2 _ rfl
  have z3 : v3.cell? ⟨w.heap.size, 3, none⟩ = some (.int .i64 0) := HZ3.out.cs 3 _ rfl
  have f0 := HZ3.out.fz 0
  have f1 := HZ3.out.fz 1
  have f2 := HZ3.out.fz 2
  have f3 := HZ3.out.fz 3
  go_wp2_with fail
  try simp only [Exit.inBlock, Exit.then]
  refine bodyPost_ret (end_cell_tmp rfl rfl (loadTok _ (HZ3.out.four rfl _ _ _ _) rfl)) rfl ?_
  exact ⟨rfl, below_four HB3.out _ (Nat.le_refl _) _ _ _ _⟩
end Go.Proofs.YtgokilochbnbaaaDoor
