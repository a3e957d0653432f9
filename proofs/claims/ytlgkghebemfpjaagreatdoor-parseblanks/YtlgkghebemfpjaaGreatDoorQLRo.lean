/- One token, by the document. Behind blanks and remarks: never ahead. The tokens of a text, by the document. -/
import Derived.Test.YtlgkghebemfpjaaGreatDoorQLOb
import Derived.Test.YtlgkghebemfpjaaGreatDoorQLNw
namespace Go.Proofs.YtlgkghebemfpjaaGreatDoor
open Go.ChangeShapes Go.WideShapes Go.ChangeAt Go.RowKit
set_option linter.unusedVariables false
set_option maxRecDepth 100000
set_option maxRecDepth 100000
def sgL : List (List UInt8) := [[60,62], [60,61], [62,61], [33,61], [124,124], [40], [41], [44], [46], [42], [43], [45], [47], [37], [61], [60], [62]]
theorem sg_two : ∀ i (h : i < 17),i < 5 → (sgL[i]'(by exact h)).length = 2 ∧ (sgL[i]'(by exact h) = [60,62] ∨ sgL[i]'(by exact h) = [60,61] ∨ sgL[i]'(by exact h) = [62,61] ∨ sgL[i]'(by exact h) = [33,61] ∨ sgL[i]'(by exact h) = [124,124]) := by decide
theorem sg_one : ∀ i (h : i < 17),5 ≤ i → (sgL[i]'(by exact h)).length = 1 ∧ shortL.contains ((sgL[i]'(by exact h)).headD 0) = true ∧ sgnT (sgL[i]'(by exact h)) = sgL[i]'(by exact h) := by decide
theorem sg_of : ∀ x ∈ shortL,∃ i,∃ h : i < 17,sgL[i]'(by exact h) = [x] := by decide
theorem no_two {l : List UInt8} (h : ∀ k (hk : k < 17),k < 5 → Lib.hasPrefix l (sgL[k]'(by exact hk)) = false) : ¬ (l.take 2 = [60,62] ∨ l.take 2 = [60,61] ∨ l.take 2 = [62,61] ∨ l.take 2 = [33,61] ∨ l.take 2 = [124,124]) := by
 have g : ∀ k (hk : k < 17),k < 5 → ¬ l.take 2 = sgL[k]'(by exact hk) := fun k hk h5 e => by
  have h2 := (sg_two k hk h5).1
  have := h k hk h5
  rw [pre_take.2 (by rw [h2]; exact e)] at this
  cases this
 rintro (e | e | e | e | e)
 · exact g 0 (by omega) (by omega) e
 · exact g 1 (by omega) (by omega) e
 · exact g 2 (by omega) (by omega) e
 · exact g 3 (by omega) (by omega) e
 · exact g 4 (by omega) (by omega) e
theorem no_rem {l : List UInt8} (h : Lib.hasPrefix l [47,42] = false) : ¬ l.take 2 = [47,42] := fun e => by
 have q := (pre_take (l := l) (p := [47,42])).2 e
 rw [q] at h; cases h
theorem head_take {l : List UInt8} (h : l.take 1 ≠ []) : l.headD 0 = (l.take 1).headD 0 := by
 cases l with
 | nil => rfl
 | cons c r => rfl
theorem sign_hit {l : List UInt8} (i : Nat) (hi : i < 17) (hp : Lib.hasPrefix l (sgL[i]'(by exact hi)) = true) (hn : ∀ k (hk : k < 17),k < i → Lib.hasPrefix l (sgL[k]'(by exact hk)) = false) (hr : Lib.hasPrefix l [47,42] = false) :
 signV l = ⟨5,sgnT (sgL[i]'(by exact hi)),0,(sgL[i]'(by exact hi)).length⟩ := by
 have ht := pre_take.1 hp
 by_cases h5 : i < 5
 · obtain ⟨h2,hd⟩ := sg_two i hi h5
   have hN : signN l = 2 := by
    unfold signN
    rw [if_pos]
    rw [h2] at ht
    rw [ht]; exact hd
   unfold signV
   rw [hN,if_neg (by omega),h2]
   rw [h2] at ht
   rw [ht]
 · obtain ⟨h1,hc,hs⟩ := sg_one i hi (by omega)
   rw [h1] at ht
   have hne : l.take 1 ≠ [] := by rw [ht]; intro e; rw [e] at h1; cases h1
   have hh : l.headD 0 = (sgL[i]'(by exact hi)).headD 0 := by rw [head_take hne,ht]
   have hN : signN l = 1 := by
    unfold signN
    rw [if_neg (no_two (fun k hk h => hn k hk (by omega))),if_neg (no_rem hr),if_pos (by rw [hh]; exact hc)]
   unfold signV
   rw [hN,if_neg (by omega),h1,ht]
theorem sign_miss {l : List UInt8} (hl : l ≠ []) (hn : ∀ k (hk : k < 17),Lib.hasPrefix l (sgL[k]'(by exact hk)) = false) (hr : Lib.hasPrefix l [47,42] = false) : signV l = noT := by
 have hN : signN l = 0 := by
  unfold signN
  rw [if_neg (no_two (fun k hk _ => hn k hk)),if_neg (no_rem hr),if_neg]
  intro hc
  obtain ⟨i,hi,e⟩ := sg_of (l.headD 0) (by simpa using hc)
  have := hn i hi
  rw [e] at this
  cases l with
  | nil => exact hl rfl
  | cons c r =>
    have : Lib.hasPrefix (c :: r) [c] = true := by unfold Lib.hasPrefix; simp [List.isPrefixOf]
    simp_all
 unfold signV
 rw [if_pos hN]
theorem signs_ref (w : World) : Calls Tryz.prog 56 #[] w fun e w' => e = .returned (.slice (some ⟨w.heap.size,0,none⟩) 17 17) ∧ w' = w.alloc (.cells (sgL.map (fun k => Value.string ⟨k.toArray⟩)).toArray 9) := by
 go_enter Tryz.func56,Tryz.ntmps56
 go_wp2
 go_ret
 exact ⟨rfl,rfl⟩
def OneR (a : Nat) (X : TK) (e : Ending) : Prop := (X.z ≠ 0 ∧ e = .returned (.tuple #[tv X.k ⟨X.t.toArray⟩ X.n (a : Int),.int .i64 ((a + X.z : Nat) : Int)])) ∨ (X.z = 0 ∧ ∃ k t n A,e = .returned (.tuple #[tv k t n A,.int .i64 (-1)]))
theorem one_long (s : ByteArray) (a : Nat) (ha : a < s.size) (hs : s.size ≤ 100000) (H1 : Hid (∀ w,Calls Tryz.prog 50 #[.int .u8 (s[a].toNat : Int),.bool true] w fun e w' => e = .returned (.bool true) ∧ w' = w)) (E : Nat) (hE : a ≤ E ∧ E ≤ s.size) (H2 : Hid (∀ w,Calls Tryz.prog 51 #[.string s,.int .i64 (a : Int),.bool false] w fun e w' => e = .returned (.int .i64 ((E : Nat) : Int)) ∧ w' = w)) (hl : 64 < (E : Int) - (a : Int)) (w : World) : Calls Tryz.prog 26 #[.string s,.int .i64 (a : Int)] w fun e w' => e = .returned (.tuple #[tv 0 ⟨#[]⟩ 0 0,.int .i64 (-1)]) ∧ Below w.heap.size w w' := by
 have hai : (a : Int) < (s.size : Int) := by omega
 have hw1 : wrap64 ((E : Int) - (a : Int)) = (E : Int) - (a : Int) := by unfold wrap64; omega
 have HZ : Hid (CellsF (w.alloc (.cells #[.int .i64 0,.string ⟨#[]⟩,.int .i64 0,.int .i64 0] 40)) w.heap.size nilT) := CellsF.new w nilT 40 (by simp)
 have HW : Hid (Below w.heap.size w (w.alloc (.cells #[.int .i64 0,.string ⟨#[]⟩,.int .i64 0,.int .i64 0] 40))) := below1 _ _
 go_enter Tryz.func26,Tryz.ntmps26
 go_wp2_with fail
 refine (H1.out _).mono ?_; rintro e w1 ⟨rfl,rfl⟩
 generalize (w.alloc (.cells #[.int .i64 0,.string ⟨#[]⟩,.int .i64 0,.int .i64 0] 40)) = W at *
 go_wp2_with fail
 refine (H2.out _).mono ?_; rintro e w2 ⟨rfl,rfl⟩
 have z0 : w2.cell? ⟨w.heap.size,0,none⟩ = some (.int .i64 0) := HZ.out.cs 0 _ rfl
 have z1 : w2.cell? ⟨w.heap.size,1,none⟩ = some (.string ⟨#[]⟩) := HZ.out.cs 1 _ rfl
 have z2 : w2.cell? ⟨w.heap.size,2,none⟩ = some (.int .i64 0) := HZ.out.cs 2 _ rfl
 have z3 : w2.cell? ⟨w.heap.size,3,none⟩ = some (.int .i64 0) := HZ.out.cs 3 _ rfl
 have f0 := HZ.out.fz 0
 have f1 := HZ.out.fz 1
 have f2 := HZ.out.fz 2
 have f3 := HZ.out.fz 3
 go_wp2_with fail
 try simp only [Exit.inBlock,Exit.then]
 refine bodyPost_ret (end_cell_tmp rfl rfl (loadTok _ (HZ.out.four rfl _ _ _ _) rfl)) rfl ?_
 exact ⟨rfl,below_four HW.out _ (Nat.le_refl _) _ _ _ _⟩
theorem one_key (s : ByteArray) (a : Nat) (ha : a < s.size) (hs : s.size ≤ 100000) (H1 : Hid (∀ w,Calls Tryz.prog 50 #[.int .u8 (s[a].toNat : Int),.bool true] w fun e w' => e = .returned (.bool true) ∧ w' = w)) (E : Nat) (hE : a ≤ E ∧ E ≤ s.size) (A U : ByteArray) (hA : s.extract a E = A) (H2 : Hid (∀ w,Calls Tryz.prog 51 #[.string s,.int .i64 (a : Int),.bool false] w fun e w' => e = .returned (.int .i64 ((E : Nat) : Int)) ∧ w' = w)) (hl : ¬ 64 < (E : Int) - (a : Int)) (H3 : Hid (∀ w,Calls Tryz.prog 52 #[.string A] w fun e w' => e = .returned (.string U) ∧ Below w.heap.size w w')) (H4 : Hid (∀ w,Calls Tryz.prog 53 #[.string U] w fun e w' => e = .returned (.bool true) ∧ Below w.heap.size w w')) (w : World) : Calls Tryz.prog 26 #[.string s,.int .i64 (a : Int)] w fun e w' => e = .returned (.tuple #[tv 2 U 0 (a : Int),.int .i64 (E : Int)]) ∧ Below w.heap.size w w' := by
 have hai : (a : Int) < (s.size : Int) := by omega
 have hw1 : wrap64 ((E : Int) - (a : Int)) = (E : Int) - (a : Int) := by unfold wrap64; omega
 have hSL : ∀ V,(Instr.sliceAt 9 (.string s) (some (.int .i64 (a : Int))) (some (.int .i64 (E : Int))) none).run Tryz.prog V = .ok (.string A) V := fun V => by rw [← hA]; exact str_slice s a E (by omega) (by omega) V
 clear hA
 have HZ : Hid (CellsF (w.alloc (.cells #[.int .i64 0,.string ⟨#[]⟩,.int .i64 0,.int .i64 0] 40)) w.heap.size nilT) := CellsF.new w nilT 40 (by simp)
 have HW : Hid (Below w.heap.size w (w.alloc (.cells #[.int .i64 0,.string ⟨#[]⟩,.int .i64 0,.int .i64 0] 40))) := below1 _ _
 go_enter Tryz.func26,Tryz.ntmps26
 go_wp2_with fail
 refine (H1.out _).mono ?_; rintro e w1 ⟨rfl,rfl⟩
 generalize (w.alloc (.cells #[.int .i64 0,.string ⟨#[]⟩,.int .i64 0,.int .i64 0] 40)) = W at *
 go_wp2_with fail
 refine (H2.out _).mono ?_; rintro e w2 ⟨rfl,rfl⟩
 go_wp2_with fail
 refine (H3.out _).mono ?_; rintro e v3 ⟨rfl,k3⟩
 have HZ3 : Hid (CellsF v3 w.heap.size nilT) := HZ.out.next k3
 have HB3 : Hid (Below w.heap.size w v3) := Below.next HW.out k3
 clear k3
 go_wp2_with fail
 refine (H4.out _).mono ?_; rintro e v4 ⟨rfl,k4⟩
 have HZ4 : Hid (CellsF v4 w.heap.size nilT) := HZ3.out.next k4
 have HB4 : Hid (Below w.heap.size w v4) := Below.next HB3.out k4
 clear k4
 have z0 : v4.cell? ⟨w.heap.size,0,none⟩ = some (.int .i64 0) := HZ4.out.cs 0 _ rfl
 have z1 : v4.cell? ⟨w.heap.size,1,none⟩ = some (.string ⟨#[]⟩) := HZ4.out.cs 1 _ rfl
 have z2 : v4.cell? ⟨w.heap.size,2,none⟩ = some (.int .i64 0) := HZ4.out.cs 2 _ rfl
 have z3 : v4.cell? ⟨w.heap.size,3,none⟩ = some (.int .i64 0) := HZ4.out.cs 3 _ rfl
 have f0 := HZ4.out.fz 0
 have f1 := HZ4.out.fz 1
 have f2 := HZ4.out.fz 2
 have f3 := HZ4.out.fz 3
 go_wp2_with fail
 try simp only [Exit.inBlock,Exit.then]
 refine bodyPost_ret (end_cell_tmp rfl rfl (loadTok _ (HZ4.out.four rfl _ _ _ _) rfl)) rfl ?_
 exact ⟨rfl,below_four HB4.out _ (Nat.le_refl _) _ _ _ _⟩
theorem one_name (s : ByteArray) (a : Nat) (ha : a < s.size) (hs : s.size ≤ 100000) (H1 : Hid (∀ w,Calls Tryz.prog 50 #[.int .u8 (s[a].toNat : Int),.bool true] w fun e w' => e = .returned (.bool true) ∧ w' = w)) (E : Nat) (hE : a ≤ E ∧ E ≤ s.size) (A U : ByteArray) (hA : s.extract a E = A) (H2 : Hid (∀ w,Calls Tryz.prog 51 #[.string s,.int .i64 (a : Int),.bool false] w fun e w' => e = .returned (.int .i64 ((E : Nat) : Int)) ∧ w' = w)) (hl : ¬ 64 < (E : Int) - (a : Int)) (H3 : Hid (∀ w,Calls Tryz.prog 52 #[.string A] w fun e w' => e = .returned (.string U) ∧ Below w.heap.size w w')) (H4 : Hid (∀ w,Calls Tryz.prog 53 #[.string U] w fun e w' => e = .returned (.bool false) ∧ Below w.heap.size w w')) (w : World) : Calls Tryz.prog 26 #[.string s,.int .i64 (a : Int)] w fun e w' => e = .returned (.tuple #[tv 1 A 0 (a : Int),.int .i64 (E : Int)]) ∧ Below w.heap.size w w' := by
 have hai : (a : Int) < (s.size : Int) := by omega
 have hw1 : wrap64 ((E : Int) - (a : Int)) = (E : Int) - (a : Int) := by unfold wrap64; omega
 have hSL : ∀ V,(Instr.sliceAt 9 (.string s) (some (.int .i64 (a : Int))) (some (.int .i64 (E : Int))) none).run Tryz.prog V = .ok (.string A) V := fun V => by rw [← hA]; exact str_slice s a E (by omega) (by omega) V
 clear hA
 have HZ : Hid (CellsF (w.alloc (.cells #[.int .i64 0,.string ⟨#[]⟩,.int .i64 0,.int .i64 0] 40)) w.heap.size nilT) := CellsF.new w nilT 40 (by simp)
 have HW : Hid (Below w.heap.size w (w.alloc (.cells #[.int .i64 0,.string ⟨#[]⟩,.int .i64 0,.int .i64 0] 40))) := below1 _ _
 go_enter Tryz.func26,Tryz.ntmps26
 go_wp2_with fail
 refine (H1.out _).mono ?_; rintro e w1 ⟨rfl,rfl⟩
 generalize (w.alloc (.cells #[.int .i64 0,.string ⟨#[]⟩,.int .i64 0,.int .i64 0] 40)) = W at *
 go_wp2_with fail
 refine (H2.out _).mono ?_; rintro e w2 ⟨rfl,rfl⟩
 go_wp2_with fail
 refine (H3.out _).mono ?_; rintro e v3 ⟨rfl,k3⟩
 have HZ3 : Hid (CellsF v3 w.heap.size nilT) := HZ.out.next k3
 have HB3 : Hid (Below w.heap.size w v3) := Below.next HW.out k3
 clear k3
 go_wp2_with fail
 refine (H4.out _).mono ?_; rintro e v4 ⟨rfl,k4⟩
 have HZ4 : Hid (CellsF v4 w.heap.size nilT) := HZ3.out.next k4
 have HB4 : Hid (Below w.heap.size w v4) := Below.next HB3.out k4
 clear k4
 have z0 : v4.cell? ⟨w.heap.size,0,none⟩ = some (.int .i64 0) := HZ4.out.cs 0 _ rfl
 have z1 : v4.cell? ⟨w.heap.size,1,none⟩ = some (.string ⟨#[]⟩) := HZ4.out.cs 1 _ rfl
 have z2 : v4.cell? ⟨w.heap.size,2,none⟩ = some (.int .i64 0) := HZ4.out.cs 2 _ rfl
 have z3 : v4.cell? ⟨w.heap.size,3,none⟩ = some (.int .i64 0) := HZ4.out.cs 3 _ rfl
 have f0 := HZ4.out.fz 0
 have f1 := HZ4.out.fz 1
 have f2 := HZ4.out.fz 2
 have f3 := HZ4.out.fz 3
 go_wp2_with fail
 try simp only [Exit.inBlock,Exit.then]
 refine bodyPost_ret (end_cell_tmp rfl rfl (loadTok _ (HZ4.out.four rfl _ _ _ _) rfl)) rfl ?_
 exact ⟨rfl,below_four HB4.out _ (Nat.le_refl _) _ _ _ _⟩
theorem one_qlong (s : ByteArray) (a : Nat) (ha : a < s.size) (hs : s.size ≤ 100000) (H1 : Hid (∀ w,Calls Tryz.prog 50 #[.int .u8 (s[a].toNat : Int),.bool true] w fun e w' => e = .returned (.bool false) ∧ w' = w)) (h34 : ((s[a].toNat : Int) == 34) = true) (t : ByteArray) (n : Int) (H3 : Hid (∀ w,Calls Tryz.prog 54 #[.string s,.int .i64 (a : Int)] w fun e w' => e = .returned (.tuple #[.string t,.int .i64 n]) ∧ Below w.heap.size w w')) (hl : 64 < (t.size : Int)) (w : World) : Calls Tryz.prog 26 #[.string s,.int .i64 (a : Int)] w fun e w' => e = .returned (.tuple #[tv 0 ⟨#[]⟩ 0 0,.int .i64 (-1)]) ∧ Below w.heap.size w w' := by
 have hai : (a : Int) < (s.size : Int) := by omega
 have HZ : Hid (CellsF (w.alloc (.cells #[.int .i64 0,.string ⟨#[]⟩,.int .i64 0,.int .i64 0] 40)) w.heap.size nilT) := CellsF.new w nilT 40 (by simp)
 have HW : Hid (Below w.heap.size w (w.alloc (.cells #[.int .i64 0,.string ⟨#[]⟩,.int .i64 0,.int .i64 0] 40))) := below1 _ _
 go_enter Tryz.func26,Tryz.ntmps26
 go_wp2_with fail
 refine (H1.out _).mono ?_; rintro e w1 ⟨rfl,rfl⟩
 generalize (w.alloc (.cells #[.int .i64 0,.string ⟨#[]⟩,.int .i64 0,.int .i64 0] 40)) = W at *
 go_wp2_with fail
 refine (H3.out _).mono ?_; rintro e v3 ⟨rfl,k3⟩
 have HZ3 : Hid (CellsF v3 w.heap.size nilT) := HZ.out.next k3
 have HB3 : Hid (Below w.heap.size w v3) := Below.next HW.out k3
 clear k3
 have z0 : v3.cell? ⟨w.heap.size,0,none⟩ = some (.int .i64 0) := HZ3.out.cs 0 _ rfl
 have z1 : v3.cell? ⟨w.heap.size,1,none⟩ = some (.string ⟨#[]⟩) := HZ3.out.cs 1 _ rfl
 have z2 : v3.cell? ⟨w.heap.size,2,none⟩ = some (.int .i64 0) := HZ3.out.cs 2 _ rfl
 have z3 : v3.cell? ⟨w.heap.size,3,none⟩ = some (.int .i64 0) := HZ3.out.cs 3 _ rfl
 have f0 := HZ3.out.fz 0
 have f1 := HZ3.out.fz 1
 have f2 := HZ3.out.fz 2
 have f3 := HZ3.out.fz 3
 go_wp2_with fail
 try simp only [Exit.inBlock,Exit.then]
 refine bodyPost_ret (end_cell_tmp rfl rfl (loadTok _ (HZ3.out.four rfl _ _ _ _) rfl)) rfl ?_
 exact ⟨rfl,below_four HB3.out _ (Nat.le_refl _) _ _ _ _⟩
theorem one_qnone (s : ByteArray) (a : Nat) (ha : a < s.size) (hs : s.size ≤ 100000) (H1 : Hid (∀ w,Calls Tryz.prog 50 #[.int .u8 (s[a].toNat : Int),.bool true] w fun e w' => e = .returned (.bool false) ∧ w' = w)) (h34 : ((s[a].toNat : Int) == 34) = true) (t : ByteArray) (n : Int) (H3 : Hid (∀ w,Calls Tryz.prog 54 #[.string s,.int .i64 (a : Int)] w fun e w' => e = .returned (.tuple #[.string ⟨#[]⟩,.int .i64 n]) ∧ Below w.heap.size w w'))  (w : World) : Calls Tryz.prog 26 #[.string s,.int .i64 (a : Int)] w fun e w' => e = .returned (.tuple #[tv 0 ⟨#[]⟩ 0 0,.int .i64 (-1)]) ∧ Below w.heap.size w w' := by
 have hai : (a : Int) < (s.size : Int) := by omega
 have HZ : Hid (CellsF (w.alloc (.cells #[.int .i64 0,.string ⟨#[]⟩,.int .i64 0,.int .i64 0] 40)) w.heap.size nilT) := CellsF.new w nilT 40 (by simp)
 have HW : Hid (Below w.heap.size w (w.alloc (.cells #[.int .i64 0,.string ⟨#[]⟩,.int .i64 0,.int .i64 0] 40))) := below1 _ _
 go_enter Tryz.func26,Tryz.ntmps26
 go_wp2_with fail
 refine (H1.out _).mono ?_; rintro e w1 ⟨rfl,rfl⟩
 generalize (w.alloc (.cells #[.int .i64 0,.string ⟨#[]⟩,.int .i64 0,.int .i64 0] 40)) = W at *
 go_wp2_with fail
 refine (H3.out _).mono ?_; rintro e v3 ⟨rfl,k3⟩
 have HZ3 : Hid (CellsF v3 w.heap.size nilT) := HZ.out.next k3
 have HB3 : Hid (Below w.heap.size w v3) := Below.next HW.out k3
 clear k3
 have z0 : v3.cell? ⟨w.heap.size,0,none⟩ = some (.int .i64 0) := HZ3.out.cs 0 _ rfl
 have z1 : v3.cell? ⟨w.heap.size,1,none⟩ = some (.string ⟨#[]⟩) := HZ3.out.cs 1 _ rfl
 have z2 : v3.cell? ⟨w.heap.size,2,none⟩ = some (.int .i64 0) := HZ3.out.cs 2 _ rfl
 have z3 : v3.cell? ⟨w.heap.size,3,none⟩ = some (.int .i64 0) := HZ3.out.cs 3 _ rfl
 have f0 := HZ3.out.fz 0
 have f1 := HZ3.out.fz 1
 have f2 := HZ3.out.fz 2
 have f3 := HZ3.out.fz 3
 go_wp2_with fail
 try simp only [Exit.inBlock,Exit.then]
 refine bodyPost_ret (end_cell_tmp rfl rfl (loadTok _ (HZ3.out.four rfl _ _ _ _) rfl)) rfl ?_
 exact ⟨rfl,below_four HB3.out _ (Nat.le_refl _) _ _ _ _⟩
theorem one_qname (s : ByteArray) (a : Nat) (ha : a < s.size) (hs : s.size ≤ 100000) (H1 : Hid (∀ w,Calls Tryz.prog 50 #[.int .u8 (s[a].toNat : Int),.bool true] w fun e w' => e = .returned (.bool false) ∧ w' = w)) (h34 : ((s[a].toNat : Int) == 34) = true) (t : ByteArray) (n : Int) (H3 : Hid (∀ w,Calls Tryz.prog 54 #[.string s,.int .i64 (a : Int)] w fun e w' => e = .returned (.tuple #[.string t,.int .i64 n]) ∧ Below w.heap.size w w')) (hl : ¬ 64 < (t.size : Int)) (h0 : t.toList.isEmpty = false) (h1 : ¬ t.toList = []) (w : World) : Calls Tryz.prog 26 #[.string s,.int .i64 (a : Int)] w fun e w' => e = .returned (.tuple #[tv 1 t 0 (a : Int),.int .i64 n]) ∧ Below w.heap.size w w' := by
 have hai : (a : Int) < (s.size : Int) := by omega
 have HZ : Hid (CellsF (w.alloc (.cells #[.int .i64 0,.string ⟨#[]⟩,.int .i64 0,.int .i64 0] 40)) w.heap.size nilT) := CellsF.new w nilT 40 (by simp)
 have HW : Hid (Below w.heap.size w (w.alloc (.cells #[.int .i64 0,.string ⟨#[]⟩,.int .i64 0,.int .i64 0] 40))) := below1 _ _
 go_enter Tryz.func26,Tryz.ntmps26
 go_wp2_with fail
 refine (H1.out _).mono ?_; rintro e w1 ⟨rfl,rfl⟩
 generalize (w.alloc (.cells #[.int .i64 0,.string ⟨#[]⟩,.int .i64 0,.int .i64 0] 40)) = W at *
 go_wp2_with fail
 refine (H3.out _).mono ?_; rintro e v3 ⟨rfl,k3⟩
 have HZ3 : Hid (CellsF v3 w.heap.size nilT) := HZ.out.next k3
 have HB3 : Hid (Below w.heap.size w v3) := Below.next HW.out k3
 clear k3
 have z0 : v3.cell? ⟨w.heap.size,0,none⟩ = some (.int .i64 0) := HZ3.out.cs 0 _ rfl
 have z1 : v3.cell? ⟨w.heap.size,1,none⟩ = some (.string ⟨#[]⟩) := HZ3.out.cs 1 _ rfl
 have z2 : v3.cell? ⟨w.heap.size,2,none⟩ = some (.int .i64 0) := HZ3.out.cs 2 _ rfl
 have z3 : v3.cell? ⟨w.heap.size,3,none⟩ = some (.int .i64 0) := HZ3.out.cs 3 _ rfl
 have f0 := HZ3.out.fz 0
 have f1 := HZ3.out.fz 1
 have f2 := HZ3.out.fz 2
 have f3 := HZ3.out.fz 3
 go_wp2_with fail
 try simp only [Exit.inBlock,Exit.then]
 refine bodyPost_ret (end_cell_tmp rfl rfl (loadTok _ (HZ3.out.four rfl _ _ _ _) rfl)) rfl ?_
 exact ⟨rfl,below_four HB3.out _ (Nat.le_refl _) _ _ _ _⟩
theorem one_tlong (s : ByteArray) (a : Nat) (ha : a < s.size) (hs : s.size ≤ 100000) (H1 : Hid (∀ w,Calls Tryz.prog 50 #[.int .u8 (s[a].toNat : Int),.bool true] w fun e w' => e = .returned (.bool false) ∧ w' = w)) (h34 : ((s[a].toNat : Int) == 34) = false) (h39 : ((s[a].toNat : Int) == 39) = true) (t : ByteArray) (n : Int) (H3 : Hid (∀ w,Calls Tryz.prog 54 #[.string s,.int .i64 (a : Int)] w fun e w' => e = .returned (.tuple #[.string t,.int .i64 n]) ∧ Below w.heap.size w w')) (hl : 64 < (t.size : Int)) (w : World) : Calls Tryz.prog 26 #[.string s,.int .i64 (a : Int)] w fun e w' => e = .returned (.tuple #[tv 0 ⟨#[]⟩ 0 0,.int .i64 (-1)]) ∧ Below w.heap.size w w' := by
 have hai : (a : Int) < (s.size : Int) := by omega
 have HZ : Hid (CellsF (w.alloc (.cells #[.int .i64 0,.string ⟨#[]⟩,.int .i64 0,.int .i64 0] 40)) w.heap.size nilT) := CellsF.new w nilT 40 (by simp)
 have HW : Hid (Below w.heap.size w (w.alloc (.cells #[.int .i64 0,.string ⟨#[]⟩,.int .i64 0,.int .i64 0] 40))) := below1 _ _
 go_enter Tryz.func26,Tryz.ntmps26
 go_wp2_with fail
 refine (H1.out _).mono ?_; rintro e w1 ⟨rfl,rfl⟩
 generalize (w.alloc (.cells #[.int .i64 0,.string ⟨#[]⟩,.int .i64 0,.int .i64 0] 40)) = W at *
 go_wp2_with fail
 refine (H3.out _).mono ?_; rintro e v3 ⟨rfl,k3⟩
 have HZ3 : Hid (CellsF v3 w.heap.size nilT) := HZ.out.next k3
 have HB3 : Hid (Below w.heap.size w v3) := Below.next HW.out k3
 clear k3
 have z0 : v3.cell? ⟨w.heap.size,0,none⟩ = some (.int .i64 0) := HZ3.out.cs 0 _ rfl
 have z1 : v3.cell? ⟨w.heap.size,1,none⟩ = some (.string ⟨#[]⟩) := HZ3.out.cs 1 _ rfl
 have z2 : v3.cell? ⟨w.heap.size,2,none⟩ = some (.int .i64 0) := HZ3.out.cs 2 _ rfl
 have z3 : v3.cell? ⟨w.heap.size,3,none⟩ = some (.int .i64 0) := HZ3.out.cs 3 _ rfl
 have f0 := HZ3.out.fz 0
 have f1 := HZ3.out.fz 1
 have f2 := HZ3.out.fz 2
 have f3 := HZ3.out.fz 3
 go_wp2_with fail
 try simp only [Exit.inBlock,Exit.then]
 refine bodyPost_ret (end_cell_tmp rfl rfl (loadTok _ (HZ3.out.four rfl _ _ _ _) rfl)) rfl ?_
 exact ⟨rfl,below_four HB3.out _ (Nat.le_refl _) _ _ _ _⟩
theorem one_tempty (s : ByteArray) (a : Nat) (ha : a < s.size) (hs : s.size ≤ 100000) (H1 : Hid (∀ w,Calls Tryz.prog 50 #[.int .u8 (s[a].toNat : Int),.bool true] w fun e w' => e = .returned (.bool false) ∧ w' = w)) (h34 : ((s[a].toNat : Int) == 34) = false) (h39 : ((s[a].toNat : Int) == 39) = true) (t : ByteArray) (n : Int) (H3 : Hid (∀ w,Calls Tryz.prog 54 #[.string s,.int .i64 (a : Int)] w fun e w' => e = .returned (.tuple #[.string ⟨#[]⟩,.int .i64 n]) ∧ Below w.heap.size w w'))  (w : World) : Calls Tryz.prog 26 #[.string s,.int .i64 (a : Int)] w fun e w' => e = .returned (.tuple #[tv 4 ⟨#[]⟩ 0 (a : Int),.int .i64 n]) ∧ Below w.heap.size w w' := by
 have hai : (a : Int) < (s.size : Int) := by omega
 have HZ : Hid (CellsF (w.alloc (.cells #[.int .i64 0,.string ⟨#[]⟩,.int .i64 0,.int .i64 0] 40)) w.heap.size nilT) := CellsF.new w nilT 40 (by simp)
 have HW : Hid (Below w.heap.size w (w.alloc (.cells #[.int .i64 0,.string ⟨#[]⟩,.int .i64 0,.int .i64 0] 40))) := below1 _ _
 go_enter Tryz.func26,Tryz.ntmps26
 go_wp2_with fail
 refine (H1.out _).mono ?_; rintro e w1 ⟨rfl,rfl⟩
 generalize (w.alloc (.cells #[.int .i64 0,.string ⟨#[]⟩,.int .i64 0,.int .i64 0] 40)) = W at *
 go_wp2_with fail
 refine (H3.out _).mono ?_; rintro e v3 ⟨rfl,k3⟩
 have HZ3 : Hid (CellsF v3 w.heap.size nilT) := HZ.out.next k3
 have HB3 : Hid (Below w.heap.size w v3) := Below.next HW.out k3
 clear k3
 have z0 : v3.cell? ⟨w.heap.size,0,none⟩ = some (.int .i64 0) := HZ3.out.cs 0 _ rfl
 have z1 : v3.cell? ⟨w.heap.size,1,none⟩ = some (.string ⟨#[]⟩) := HZ3.out.cs 1 _ rfl
 have z2 : v3.cell? ⟨w.heap.size,2,none⟩ = some (.int .i64 0) := HZ3.out.cs 2 _ rfl
 have z3 : v3.cell? ⟨w.heap.size,3,none⟩ = some (.int .i64 0) := HZ3.out.cs 3 _ rfl
 have f0 := HZ3.out.fz 0
 have f1 := HZ3.out.fz 1
 have f2 := HZ3.out.fz 2
 have f3 := HZ3.out.fz 3
 go_wp2_with fail
 try simp only [Exit.inBlock,Exit.then]
 refine bodyPost_ret (end_cell_tmp rfl rfl (loadTok _ (HZ3.out.four rfl _ _ _ _) rfl)) rfl ?_
 exact ⟨rfl,below_four HB3.out _ (Nat.le_refl _) _ _ _ _⟩
theorem one_ttext (s : ByteArray) (a : Nat) (ha : a < s.size) (hs : s.size ≤ 100000) (H1 : Hid (∀ w,Calls Tryz.prog 50 #[.int .u8 (s[a].toNat : Int),.bool true] w fun e w' => e = .returned (.bool false) ∧ w' = w)) (h34 : ((s[a].toNat : Int) == 34) = false) (h39 : ((s[a].toNat : Int) == 39) = true) (t : ByteArray) (n : Int) (H3 : Hid (∀ w,Calls Tryz.prog 54 #[.string s,.int .i64 (a : Int)] w fun e w' => e = .returned (.tuple #[.string t,.int .i64 n]) ∧ Below w.heap.size w w')) (hl : ¬ 64 < (t.size : Int)) (h0 : t.toList.isEmpty = false) (h1 : ¬ t.toList = []) (w : World) : Calls Tryz.prog 26 #[.string s,.int .i64 (a : Int)] w fun e w' => e = .returned (.tuple #[tv 4 t 0 (a : Int),.int .i64 n]) ∧ Below w.heap.size w w' := by
 have hai : (a : Int) < (s.size : Int) := by omega
 have HZ : Hid (CellsF (w.alloc (.cells #[.int .i64 0,.string ⟨#[]⟩,.int .i64 0,.int .i64 0] 40)) w.heap.size nilT) := CellsF.new w nilT 40 (by simp)
 have HW : Hid (Below w.heap.size w (w.alloc (.cells #[.int .i64 0,.string ⟨#[]⟩,.int .i64 0,.int .i64 0] 40))) := below1 _ _
 go_enter Tryz.func26,Tryz.ntmps26
 go_wp2_with fail
 refine (H1.out _).mono ?_; rintro e w1 ⟨rfl,rfl⟩
 generalize (w.alloc (.cells #[.int .i64 0,.string ⟨#[]⟩,.int .i64 0,.int .i64 0] 40)) = W at *
 go_wp2_with fail
 refine (H3.out _).mono ?_; rintro e v3 ⟨rfl,k3⟩
 have HZ3 : Hid (CellsF v3 w.heap.size nilT) := HZ.out.next k3
 have HB3 : Hid (Below w.heap.size w v3) := Below.next HW.out k3
 clear k3
 have z0 : v3.cell? ⟨w.heap.size,0,none⟩ = some (.int .i64 0) := HZ3.out.cs 0 _ rfl
 have z1 : v3.cell? ⟨w.heap.size,1,none⟩ = some (.string ⟨#[]⟩) := HZ3.out.cs 1 _ rfl
 have z2 : v3.cell? ⟨w.heap.size,2,none⟩ = some (.int .i64 0) := HZ3.out.cs 2 _ rfl
 have z3 : v3.cell? ⟨w.heap.size,3,none⟩ = some (.int .i64 0) := HZ3.out.cs 3 _ rfl
 have f0 := HZ3.out.fz 0
 have f1 := HZ3.out.fz 1
 have f2 := HZ3.out.fz 2
 have f3 := HZ3.out.fz 3
 go_wp2_with fail
 try simp only [Exit.inBlock,Exit.then]
 refine bodyPost_ret (end_cell_tmp rfl rfl (loadTok _ (HZ3.out.four rfl _ _ _ _) rfl)) rfl ?_
 exact ⟨rfl,below_four HB3.out _ (Nat.le_refl _) _ _ _ _⟩
theorem one_dbad (s : ByteArray) (a : Nat) (ha : a < s.size) (hs : s.size ≤ 100000) (H1 : Hid (∀ w,Calls Tryz.prog 50 #[.int .u8 (s[a].toNat : Int),.bool true] w fun e w' => e = .returned (.bool false) ∧ w' = w)) (h34 : ((s[a].toNat : Int) == 34) = false) (h39 : ((s[a].toNat : Int) == 39) = false) (d1 : (48 : Int) ≤ (s[a].toNat : Int)) (d2 : (s[a].toNat : Int) ≤ 57) (E : Nat) (hE : a ≤ E ∧ E ≤ s.size) (A : ByteArray) (hA : s.extract a E = A) (v x : Int) (hx : (x != 0) = true) (H2 : Hid (∀ w,Calls Tryz.prog 51 #[.string s,.int .i64 (a : Int),.bool true] w fun e w' => e = .returned (.int .i64 ((E : Nat) : Int)) ∧ w' = w)) (H3 : Hid (∀ w,Calls Tryz.prog 55 #[.string A] w fun e w' => e = .returned (.tuple #[.int .i64 v,.int .i64 x]) ∧ Below w.heap.size w w')) (w : World) : Calls Tryz.prog 26 #[.string s,.int .i64 (a : Int)] w fun e w' => e = .returned (.tuple #[tv 0 ⟨#[]⟩ 0 0,.int .i64 (-1)]) ∧ Below w.heap.size w w' := by
 have hai : (a : Int) < (s.size : Int) := by omega
 have hSL : ∀ V,(Instr.sliceAt 9 (.string s) (some (.int .i64 (a : Int))) (some (.int .i64 (E : Int))) none).run Tryz.prog V = .ok (.string A) V := fun V => by rw [← hA]; exact str_slice s a E (by omega) (by omega) V
 clear hA
 have HZ : Hid (CellsF (w.alloc (.cells #[.int .i64 0,.string ⟨#[]⟩,.int .i64 0,.int .i64 0] 40)) w.heap.size nilT) := CellsF.new w nilT 40 (by simp)
 have HW : Hid (Below w.heap.size w (w.alloc (.cells #[.int .i64 0,.string ⟨#[]⟩,.int .i64 0,.int .i64 0] 40))) := below1 _ _
 go_enter Tryz.func26,Tryz.ntmps26
 go_wp2_with fail
 refine (H1.out _).mono ?_; rintro e w1 ⟨rfl,rfl⟩
 generalize (w.alloc (.cells #[.int .i64 0,.string ⟨#[]⟩,.int .i64 0,.int .i64 0] 40)) = W at *
 go_wp2_with fail
 refine (H2.out _).mono ?_; rintro e w2 ⟨rfl,rfl⟩
 go_wp2_with fail
 refine (H3.out _).mono ?_; rintro e v3 ⟨rfl,k3⟩
 have HZ3 : Hid (CellsF v3 w.heap.size nilT) := HZ.out.next k3
 have HB3 : Hid (Below w.heap.size w v3) := Below.next HW.out k3
 clear k3
 have z0 : v3.cell? ⟨w.heap.size,0,none⟩ = some (.int .i64 0) := HZ3.out.cs 0 _ rfl
 have z1 : v3.cell? ⟨w.heap.size,1,none⟩ = some (.string ⟨#[]⟩) := HZ3.out.cs 1 _ rfl
 have z2 : v3.cell? ⟨w.heap.size,2,none⟩ = some (.int .i64 0) := HZ3.out.cs 2 _ rfl
 have z3 : v3.cell? ⟨w.heap.size,3,none⟩ = some (.int .i64 0) := HZ3.out.cs 3 _ rfl
 have f0 := HZ3.out.fz 0
 have f1 := HZ3.out.fz 1
 have f2 := HZ3.out.fz 2
 have f3 := HZ3.out.fz 3
 go_wp2_with fail
 try simp only [Exit.inBlock,Exit.then]
 refine bodyPost_ret (end_cell_tmp rfl rfl (loadTok _ (HZ3.out.four rfl _ _ _ _) rfl)) rfl ?_
 exact ⟨rfl,below_four HB3.out _ (Nat.le_refl _) _ _ _ _⟩
theorem one_dok (s : ByteArray) (a : Nat) (ha : a < s.size) (hs : s.size ≤ 100000) (H1 : Hid (∀ w,Calls Tryz.prog 50 #[.int .u8 (s[a].toNat : Int),.bool true] w fun e w' => e = .returned (.bool false) ∧ w' = w)) (h34 : ((s[a].toNat : Int) == 34) = false) (h39 : ((s[a].toNat : Int) == 39) = false) (d1 : (48 : Int) ≤ (s[a].toNat : Int)) (d2 : (s[a].toNat : Int) ≤ 57) (E : Nat) (hE : a ≤ E ∧ E ≤ s.size) (A : ByteArray) (hA : s.extract a E = A) (v x : Int) (H2 : Hid (∀ w,Calls Tryz.prog 51 #[.string s,.int .i64 (a : Int),.bool true] w fun e w' => e = .returned (.int .i64 ((E : Nat) : Int)) ∧ w' = w)) (H3 : Hid (∀ w,Calls Tryz.prog 55 #[.string A] w fun e w' => e = .returned (.tuple #[.int .i64 v,.int .i64 0]) ∧ Below w.heap.size w w')) (w : World) : Calls Tryz.prog 26 #[.string s,.int .i64 (a : Int)] w fun e w' => e = .returned (.tuple #[tv 3 ⟨#[]⟩ v (a : Int),.int .i64 (E : Int)]) ∧ Below w.heap.size w w' := by
 have hai : (a : Int) < (s.size : Int) := by omega
 have hSL : ∀ V,(Instr.sliceAt 9 (.string s) (some (.int .i64 (a : Int))) (some (.int .i64 (E : Int))) none).run Tryz.prog V = .ok (.string A) V := fun V => by rw [← hA]; exact str_slice s a E (by omega) (by omega) V
 clear hA
 have HZ : Hid (CellsF (w.alloc (.cells #[.int .i64 0,.string ⟨#[]⟩,.int .i64 0,.int .i64 0] 40)) w.heap.size nilT) := CellsF.new w nilT 40 (by simp)
 have HW : Hid (Below w.heap.size w (w.alloc (.cells #[.int .i64 0,.string ⟨#[]⟩,.int .i64 0,.int .i64 0] 40))) := below1 _ _
 go_enter Tryz.func26,Tryz.ntmps26
 go_wp2_with fail
 refine (H1.out _).mono ?_; rintro e w1 ⟨rfl,rfl⟩
 generalize (w.alloc (.cells #[.int .i64 0,.string ⟨#[]⟩,.int .i64 0,.int .i64 0] 40)) = W at *
 go_wp2_with fail
 refine (H2.out _).mono ?_; rintro e w2 ⟨rfl,rfl⟩
 go_wp2_with fail
 refine (H3.out _).mono ?_; rintro e v3 ⟨rfl,k3⟩
 have HZ3 : Hid (CellsF v3 w.heap.size nilT) := HZ.out.next k3
 have HB3 : Hid (Below w.heap.size w v3) := Below.next HW.out k3
 clear k3
 have z0 : v3.cell? ⟨w.heap.size,0,none⟩ = some (.int .i64 0) := HZ3.out.cs 0 _ rfl
 have z1 : v3.cell? ⟨w.heap.size,1,none⟩ = some (.string ⟨#[]⟩) := HZ3.out.cs 1 _ rfl
 have z2 : v3.cell? ⟨w.heap.size,2,none⟩ = some (.int .i64 0) := HZ3.out.cs 2 _ rfl
 have z3 : v3.cell? ⟨w.heap.size,3,none⟩ = some (.int .i64 0) := HZ3.out.cs 3 _ rfl
 have f0 := HZ3.out.fz 0
 have f1 := HZ3.out.fz 1
 have f2 := HZ3.out.fz 2
 have f3 := HZ3.out.fz 3
 go_wp2_with fail
 try simp only [Exit.inBlock,Exit.then]
 refine bodyPost_ret (end_cell_tmp rfl rfl (loadTok _ (HZ3.out.four rfl _ _ _ _) rfl)) rfl ?_
 exact ⟨rfl,below_four HB3.out _ (Nat.le_refl _) _ _ _ _⟩
def SkipL (s : ByteArray) (a : Nat) (nx b : Int) : Prop :=
 (∃ j : Nat,nx = (j : Int) ∧ b = (j : Int) ∧ a ≤ j ∧ j ≤ s.size ∧ LX (s.data.toList.drop a) a = LX (s.data.toList.drop j) j ∧ (j < s.size → gapN (s.data.toList.drop j) = 0 ∧ Lib.hasPrefix (s.data.toList.drop j) [47,42] = false)) ∨
 (∃ j : Nat,nx = -1 ∧ b = (j : Int) ∧ LX (s.data.toList.drop a) a = ([],some j))
set_option maxHeartbeats 2000000 in
theorem skip_le (s : ByteArray) (hs : s.size ≤ 100000) (a : Nat) (ha : a ≤ s.size) (w : World) :
 Calls Tryz.prog 25 #[.string s,.int .i64 (a : Int)] w fun e w' => (∃ nx b,e = .returned (.tuple #[.int .i64 nx,.int .i64 b]) ∧ SkipL s a nx b) ∧ w' = w := by
 obtain ⟨T,hT⟩ : ∃ T,LX (s.data.toList.drop a) a = T := ⟨_,rfl⟩
 have HT : Hid (LX (s.data.toList.drop a) a = T) := hT
 clear hT
 go_enter Tryz.func25,Tryz.ntmps25
 go_wp2_with fail
 go_loop [1] (fun i => ∃ j : Nat,(j ≤ s.size ∧ Hid (a ≤ j)) ∧ i = .int .i64 j ∧ Hid (T = LX (s.data.toList.drop j) j)) (fun i => s.size - (intOf i).toNat)
 case atStart => exact ⟨a,⟨ha,Nat.le_refl a⟩,rfl,HT.out.symm⟩
 case round =>
  obtain ⟨j,⟨hj,HAJ⟩,rfl,HP⟩ := hrel
  by_cases hlt : j < s.size
  · have hlti : (j : Int) < (s.size : Int) := by omega
    have hd := drop_at s j hlt
    have H1 : Hid (∀ w,Calls Tryz.prog 49 #[.string s,.int .i64 (j : Int),.string ⟨#[45,45]⟩] w fun e w' => e = .returned (.bool (Lib.hasPrefix (s.data.toList.drop j) [45,45])) ∧ w' = w) := fun w => begins_ref s ⟨#[45,45]⟩ hs (by decide) j hj w
    have H2 : Hid (∀ w,Calls Tryz.prog 49 #[.string s,.int .i64 (j : Int),.string ⟨#[47,42]⟩] w fun e w' => e = .returned (.bool (Lib.hasPrefix (s.data.toList.drop j) [47,42])) ∧ w' = w) := fun w => begins_ref s ⟨#[47,42]⟩ hs (by decide) j hj w
    have HBL : Hid (blB s[j] = ((decide ((s[j].toNat : Int) = 9)) || (decide ((s[j].toNat : Int) = 10)) || (decide ((s[j].toNat : Int) = 13)) || (decide ((s[j].toNat : Int) = 32)))) := by
     show _ = _
     rw [bl_of,Bool.eq_iff_iff]; simp; omega
    by_cases hb : blB s[j] = true
    · have HN : Hid (T = LX (s.data.toList.drop (j + 1)) (j + 1)) := by
       show _ = _
       rw [HP.out,hd,LX_blank hb]
      have q4 : ((s[j].toNat : Int) == 9) = true ∨ (((s[j].toNat : Int) == 9) = false ∧ ((s[j].toNat : Int) == 10) = true) ∨ (((s[j].toNat : Int) == 9) = false ∧ ((s[j].toNat : Int) == 10) = false ∧ ((s[j].toNat : Int) == 13) = true) ∨ (((s[j].toNat : Int) == 9) = false ∧ ((s[j].toNat : Int) == 10) = false ∧ ((s[j].toNat : Int) == 13) = false ∧ ((s[j].toNat : Int) == 32) = true) := by
       have := HBL.out
       rw [hb] at this
       simp only [beq_eq]
       simp at this ⊢
       omega
      clear HBL H1 H2 hd HP hb
      rcases q4 with q1 | ⟨q1,q2⟩ | ⟨q1,q2,q3⟩ | ⟨q1,q2,q3,q4⟩
      all_goals go_wp2_with fail
      all_goals go_round
      all_goals first | exact ⟨j + 1,⟨by omega,Nat.le_succ_of_le HAJ.out⟩,by go_num,HN⟩ | (simp [intOf]; omega)
    · have q4 : ((s[j].toNat : Int) == 9) = false ∧ ((s[j].toNat : Int) == 10) = false ∧ ((s[j].toNat : Int) == 13) = false ∧ ((s[j].toNat : Int) == 32) = false := by
       have := HBL.out
       rw [show blB s[j] = false by simpa using hb] at this
       simp only [beq_eq]
       simp at this ⊢
       omega
      obtain ⟨q1,q2,q3,q4⟩ := q4
      cases hp : Lib.hasPrefix (s.data.toList.drop j) [45,45]
      · rw [hp] at H1
        cases hr : Lib.hasPrefix (s.data.toList.drop j) [47,42]
        · have hg : gapN (s.data.toList.drop j) = 0 := by
           unfold gapN
           rw [hp,hr,hd,List.takeWhile_cons_of_neg hb]
           rfl
          rw [hr] at H2
          have HR : Hid (SkipL s a (j : Int) (j : Int)) := .inl ⟨j,rfl,rfl,HAJ.out,hj,by rw [HT.out,HP.out],fun _ => ⟨hg,hr⟩⟩
          clear HBL hd hb hp hr hg HP
          go_wp2_with fail
          refine (H1.out _).mono ?_; rintro e w1 ⟨rfl,rfl⟩
          go_wp2_with fail
          refine (H2.out _).mono ?_; rintro e w2 ⟨rfl,rfl⟩
          go_wp2_with fail
          go_ret2
          exact ⟨⟨_,_,rfl,HR.out⟩,rfl⟩
        · rw [hr] at H2
          have HRM : Hid (Lib.hasPrefix (s.data.toList.drop j) [47,42] = true) := hr
          have hj2 : j + 2 ≤ s.size := by
           have := pre_len hr
           rw [List.length_drop,len_of] at this
           simp at this
           omega
          have hw2 : wrap64 ((j : Int) + 2) = ((j + 2 : Nat) : Int) := by unfold wrap64; omega
          have HW2 : Hid (wrap64 ((j : Int) + 2) = ((j + 2 : Nat) : Int)) := hw2
          clear HBL hd hb hp hr hw2
          go_wp2_with fail
          refine (H1.out _).mono ?_; rintro e w1 ⟨rfl,rfl⟩
          go_wp2_with fail
          refine (H2.out _).mono ?_; rintro e w2 ⟨rfl,rfl⟩
          go_wp2_with fail
          go_loop [7] (fun i => ∃ m : Nat,j + 2 ≤ m ∧ m ≤ s.size ∧ i = .int .i64 m ∧ Hid (∀ i,j + 2 ≤ i → i < m → Lib.hasPrefix (s.data.toList.drop i) [42,47] = false)) (fun i => s.size - (intOf i).toNat)
          case atStart => exact ⟨j + 2,Nat.le_refl _,hj2,by first | rw [HW2.out] | go_num,fun i h1 h2 => by omega⟩
          case round =>
           obtain ⟨m,hm1,hm2,rfl,HM⟩ := hrel
           by_cases hmt : m < s.size
           · have hmti : (m : Int) < (s.size : Int) := by omega
             have H3 : Hid (∀ w,Calls Tryz.prog 49 #[.string s,.int .i64 (m : Int),.string ⟨#[42,47]⟩] w fun e w' => e = .returned (.bool (Lib.hasPrefix (s.data.toList.drop m) [42,47])) ∧ w' = w) := fun w => begins_ref s ⟨#[42,47]⟩ hs (by decide) m hm2 w
             cases hq : Lib.hasPrefix (s.data.toList.drop m) [42,47]
             · rw [hq] at H3
               have HM2 : Hid (∀ i,j + 2 ≤ i → i < m + 1 → Lib.hasPrefix (s.data.toList.drop i) [42,47] = false) := fun i h1 h2 => by
                by_cases e : i = m
                · rw [e]; exact hq
                · exact HM.out i h1 (by omega)
               clear HM hq
               go_wp2_with fail
               refine (H3.out _).mono ?_; rintro e w3 ⟨rfl,rfl⟩
               go_wp2_with fail
               go_round
               case rel => exact ⟨m + 1,by omega,by omega,by go_num,HM2⟩
               case measure => simp [intOf]; omega
             · rw [hq] at H3
               have HAM : Hid (a ≤ m + 2) := by
                have := HAJ.out
                show _ ≤ _
                omega
               have hm4 : m + 2 ≤ s.size := by
                have := pre_len hq
                rw [List.length_drop,len_of] at this
                simp at this
                omega
               have hix : Lib.index ((s.data.toList.drop j).drop 2) [42,47] = ((m - (j + 2) : Nat) : Int) := by
                rw [List.drop_drop]
                refine Lib.index_first (by rw [List.length_drop,len_of]; omega) ?_ (fun i hi => ?_)
                · rw [occ_drop,show j + 2 + (m - (j + 2)) = m by omega]; exact hq
                · rw [occ_drop]; exact HM.out _ (by omega) (by omega)
               have HN : Hid (T = LX (s.data.toList.drop (m + 2)) (m + 2)) := by
                show _ = _
                rw [HP.out,LX_remark HRM.out hix,List.drop_drop]
                rw [show j + (m - (j + 2) + 4) = m + 2 by omega]
               clear HM hq hix HP HRM
               go_wp2_with fail
               refine (H3.out _).mono ?_; rintro e w3 ⟨rfl,rfl⟩
               go_wp2_with fail
               go_round
               case rel => exact ⟨m + 2,⟨by omega,HAM⟩,by go_num,HN⟩
               case measure => simp [intOf]; omega
           · have hmti : ¬ (m : Int) < (s.size : Int) := by omega
             have hmge : (s.size : Int) ≤ (m : Int) := by omega
             have hix : Lib.index ((s.data.toList.drop j).drop 2) [42,47] = -1 := by
              rw [List.drop_drop]
              refine Lib.index_none (fun i hi => ?_)
              rw [List.length_drop,len_of] at hi
              rw [occ_drop]
              by_cases e : j + 2 + i < m
              · exact HM.out _ (by omega) e
              · rw [List.drop_of_length_le (by rw [len_of]; omega)]
                rfl
             have HR : Hid (SkipL s a (-1) (j : Int)) := .inr ⟨j,rfl,rfl,by rw [HT.out,HP.out,LX_open HRM.out hix]⟩
             clear HM hix HP HRM
             go_wp2_with fail
             go_ret2
             exact ⟨⟨_,_,rfl,HR.out⟩,rfl⟩
      · rw [hp] at H1
        obtain ⟨hl1,hl2⟩ := LX_line (a := j) hp
        have hnl := tw_len nlB (s.extract j s.size)
        rw [tail_data] at hnl
        obtain ⟨N,hN⟩ : ∃ N,j + ((s.data.toList.drop j).takeWhile nlB).length = N := ⟨_,rfl⟩
        have hNs : N ≤ s.size := by
         have := (List.takeWhile_prefix (l := s.data.toList.drop j) nlB).length_le
         rw [List.length_drop,len_of] at this
         omega
        have HN : Hid (T = LX (s.data.toList.drop N) N) := by
         show _ = _
         rw [HP.out,hl1,List.drop_drop,hN]
        have hjN : j < N := by omega
        have HAN : Hid (a ≤ N) := by
         have := HAJ.out
         show _ ≤ _
         omega
        have HS0 : Hid (N = j + ((s.data.toList.drop j).takeWhile nlB).length) := hN.symm
        clear HBL hd hb hp hl1 hl2 hnl hN HP H2
        go_wp2_with fail
        refine (H1.out _).mono ?_; rintro e w1 ⟨rfl,rfl⟩
        go_wp2_with fail
        go_loop [1] (fun i => ∃ m : Nat,m ≤ s.size ∧ i = .int .i64 m ∧ Hid (N = m + ((s.data.toList.drop m).takeWhile nlB).length)) (fun i => s.size - (intOf i).toNat)
        case atStart => exact ⟨j,by omega,rfl,HS0⟩
        case round =>
         obtain ⟨m,hm2,rfl,HM⟩ := hrel
         by_cases hmt : m < s.size
         · have hmti : (m : Int) < (s.size : Int) := by omega
           have hdm := drop_at s m hmt
           by_cases hq : nlB s[m] = true
           · have HM2 : Hid (N = m + 1 + ((s.data.toList.drop (m + 1)).takeWhile nlB).length) := by
              show _ = _
              have e := HM.out
              rw [hdm,List.takeWhile_cons_of_pos hq,List.length_cons] at e
              omega
             have q5 : ((s[m].toNat : Int) == 10) = false := by
              rw [beq_eq,decide_eq_false_iff_not]
              intro e
              have : s[m] = 10 := UInt8.toNat_inj.1 (by simpa using Int.ofNat_inj.1 e)
              rw [this] at hq; revert hq; decide
             have q6 : ((s[m].toNat : Int) != 10) = true := by simp [bne,q5]
             clear hdm hq HM
             go_wp2_with fail
             go_round
             case rel => exact ⟨m + 1,by omega,by go_num,HM2⟩
             case measure => simp [intOf]; omega
           · have hm : N = m := by
              have e := HM.out
              rw [hdm,List.takeWhile_cons_of_neg hq] at e
              simpa using e
             have q5 : ((s[m].toNat : Int) == 10) = true := by
              rw [beq_eq,decide_eq_true_eq]
              have : s[m] = 10 := by
               have h := hq
               unfold nlB at h
               simpa using h
              rw [this]; rfl
             have q6 : ((s[m].toNat : Int) != 10) = false := by simp [bne,q5]
             clear hdm hq HM
             go_wp2_with fail
             go_round
             case rel => exact ⟨m,⟨by omega,hm ▸ HAN⟩,rfl,hm ▸ HN⟩
             case measure => simp [intOf]; omega
         · have hmti : ¬ (m : Int) < (s.size : Int) := by omega
           have hm : N = m := by
            have e := HM.out
            rw [List.drop_of_length_le (by rw [len_of]; omega)] at e
            simpa using e
           clear HM
           go_wp2_with fail
           go_round
           case rel => exact ⟨m,⟨by omega,hm ▸ HAN⟩,rfl,hm ▸ HN⟩
           case measure => simp [intOf]; omega
  · have hlti : ¬ (j : Int) < (s.size : Int) := by omega
    have HR : Hid (SkipL s a (j : Int) (j : Int)) := .inl ⟨j,rfl,rfl,HAJ.out,hj,by rw [HT.out,HP.out],fun h => absurd h hlt⟩
    clear HP
    go_wp2_with fail
    go_ret2
    exact ⟨⟨_,_,rfl,HR.out⟩,rfl⟩
structure DS (w wr : World) (s : ByteArray) (T : List (TK × Nat) × Option Nat) (v : Value) (a : Nat) : Prop where
 lo : Below w.heap.size w wr
 hi : a ≤ s.size
 ac : ∃ acc,OwnT wr w.heap.size v acc ∧ acc.length ≤ a ∧ T = (acc ++ (LX (s.data.toList.drop a) a).1,(LX (s.data.toList.drop a) a).2)
theorem rtokens_full (s : ByteArray) (hs : 4096 < s.size) (w : World) : Calls Tryz.prog 12 #[.string s] w fun e w' => TokR w w' s.data.toList e := by
 have HT : Hid (tokV s.data.toList = ([],0,2)) := by show _ = _; unfold tokV; rw [if_pos (by rw [len_of]; exact hs)]
 have h1 : (4096 : Int) < (s.size : Int) := by omega
 go_enter Tryz.func12,Tryz.ntmps12
 go_wp2_with fail
 go_ret3
 refine ⟨.slice none 0 0,by rw [HT.out]; rfl,by rw [HT.out]; exact OwnT.nil _ _,Below.refl _ _⟩
def OneC (s : ByteArray) : Prop := ∀ (j : Nat) (w : World),j < s.size → Lib.hasPrefix (s.data.toList.drop j) [47,42] = false → Calls Tryz.prog 26 #[.string s,.int .i64 (j : Int)] w fun e w' => OneR j (firstV (s.data.toList.drop j)) e ∧ Below w.heap.size w w'
set_option maxHeartbeats 4000000 in
theorem rtokens_some (s : ByteArray) (hs : s.size ≤ 4096) (HO : Hid (OneC s)) (w : World) : Calls Tryz.prog 12 #[.string s] w fun e w' => TokR w w' s.data.toList e := by
 have h1 : ¬ (4096 : Int) < (s.size : Int) := by omega
 obtain ⟨T,hT⟩ : ∃ T,T = LX s.data.toList 0 := ⟨_,rfl⟩
 have HT : Hid (tokV s.data.toList = match T.2 with | none => (T.1 ++ [(endT,s.size)],0,0) | some p => ([],(p : Int),160)) := by
  show _ = _
  unfold tokV
  rw [if_neg (by rw [len_of]; omega),hT]
  unfold LX
  rw [len_of]
  all_goals first | rfl | (split <;> rfl) | (split <;> simp_all)
 have H0 : Hid (DS w w s T (.slice none 0 0) 0) := ⟨Below.refl _ _,by omega, [],OwnT.nil _ _,by simp,by rw [hT]; simp⟩
 have HSK : Hid (∀ (a : Nat) (w : World),a ≤ s.size → Calls Tryz.prog 25 #[.string s,.int .i64 (a : Int)] w fun e w' => (∃ nx b,e = .returned (.tuple #[.int .i64 nx,.int .i64 b]) ∧ SkipL s a nx b) ∧ w' = w) := fun a w ha => skip_le s (by omega) a ha w
 clear hT
 go_enter Tryz.func12,Tryz.ntmps12
 go_wp2_with fail
 go_loopw [5,6] (fun v x wr => ∃ a : Nat,x = .int .i64 (a : Int) ∧ Hid (DS w wr s T v a)) (fun _ x _ => s.size - (intOf x).toNat)
 case atStart => exact ⟨0,rfl,H0⟩
 case round =>
  obtain ⟨a,rfl,HS⟩ := hrel
  go_wp2_with fail
  refine (HSK.out a _ HS.out.hi).mono ?_; rintro e w1 ⟨⟨nx,bx,rfl,hsk⟩,rfl⟩
  rcases hsk with ⟨j,rfl,rfl,hle,hj,hLX,hgp⟩ | ⟨j,rfl,rfl,hLX⟩
  · have hji : ¬ (j : Int) < 0 := by omega
    have HLE : Hid (a ≤ j) := hle
    clear hle
    by_cases hlt : j < s.size
    · obtain ⟨hg0,hr0⟩ := hgp hlt
      have hlti : ¬ (s.size : Int) ≤ (j : Int) := by omega
      have HOne : Hid (∀ w,Calls Tryz.prog 26 #[.string s,.int .i64 (j : Int)] w fun e w' => OneR j (firstV (s.data.toList.drop j)) e ∧ Below w.heap.size w w') := fun w => HO.out j w hlt hr0
      have HLX : Hid (LX (s.data.toList.drop a) a = LX (s.data.toList.drop j) j) := hLX
      have HG0 : Hid (gapN (s.data.toList.drop j) = 0) := hg0
      have HJ : Hid (j < s.size) := hlt
      clear hLX hgp hg0 hr0
      go_wp2_with fail
      refine (HOne.out _).mono ?_; rintro e w2 ⟨hone,k2⟩
      have HK2 : Hid (Below w1.heap.size w1 w2) := k2
      clear k2
      rcases hone with ⟨hz,rfl⟩ | ⟨hz,k,t,n,A,rfl⟩
      · have hfl := first_le (s.data.toList.drop j) (rest_ne HJ.out)
        rw [List.length_drop,len_of] at hfl
        obtain ⟨X,hX⟩ : ∃ X,firstV (s.data.toList.drop j) = X := ⟨_,rfl⟩
        rw [hX] at hz hfl ⊢
        have HX : Hid (firstV (s.data.toList.drop j) = X) := hX
        clear hX
        have HLo : Hid (Below w.heap.size w w2) := Below.next HS.out.lo HK2.out
        obtain ⟨acc,o,hl,e⟩ := HS.out.ac
        have haj2 : acc.length ≤ 5000 := by have := HS.out.hi; omega
        have kb : Below w2.heap.size w2 (w2.alloc (.cells #[.int .i64 X.k,.string ⟨X.t.toArray⟩,.int .i64 X.n,.int .i64 (j : Int)] 40)) := below1 _ _
        have hsz2 : (w2.alloc (.cells #[.int .i64 X.k,.string ⟨X.t.toArray⟩,.int .i64 X.n,.int .i64 (j : Int)] 40)).heap.size = w2.heap.size + 1 := by simp
        obtain ⟨v6,w6,ra,o6,b6⟩ := append_tok ((o.next HK2.out).next kb) (X,j) haj2 (Nat.le_trans HLo.out.size (by rw [hsz2]; omega))
        rw [hsz2] at ra
        have RA : Hid ((Builtin.append_ #[35,35] 35 #[u5,.slice (some ⟨w2.heap.size + 1,0,none⟩) 1 1]).run Tryz.prog ((w2.alloc (.cells #[.int .i64 X.k,.string ⟨X.t.toArray⟩,.int .i64 X.n,.int .i64 (j : Int)] 40)).alloc (.cells #[.int .i64 X.k,.string ⟨X.t.toArray⟩,.int .i64 X.n,.int .i64 (j : Int)] 40)) = .ok v6 w6) := ra
        have HD : Hid (DS w w6 s T v6 (j + X.z) ∧ s.size - (j + X.z) < s.size - a) := by
         have hle := HLE.out
         have hJ := HJ.out
         have e2 := LX_tok (a := j) (rest_ne HJ.out) HG0.out (by rw [HX.out]; exact hz)
         rw [HX.out,List.drop_drop] at e2
         refine ⟨⟨(Below.next HLo.out kb).trans b6,by omega,acc ++ [(X,j)],o6, ?_, ?_⟩,by omega⟩
         · rw [List.length_append]
           show acc.length + 1 ≤ _
           omega
         · rw [e,HLX.out,e2]
           simp
        clear o hl e kb hsz2 ra o6 b6 haj2
        have hzi : ¬ ((j : Int) + (X.z : Int)) < 0 := by omega
        obtain ⟨xk,xt,xn,xz⟩ := X
        simp only at hz hfl RA HD hzi
        go_wp2_with (first | ((with_reducible apply st_append (x := .tmp 43)); (case ho => rfl); (case hgd => rfl); (case hr => exact RA.out)))
        go_roundw
        case rel => exact ⟨j + xz,by first | rfl | go_num,HD.out.1⟩
        case measure =>
         have := HD.out.2
         simp [intOf]; omega
      · have HR : Hid (T.2 = some j) := by
         obtain ⟨acc,o,hl,e⟩ := HS.out.ac
         show _ = _
         rw [e,HLX.out,LX_bad (rest_ne HJ.out) HG0.out hz]
        have HK : Hid (Below w.heap.size w w2) := Below.next HS.out.lo HK2.out
        clear hz HLX HG0 HOne HK2
        go_wp2_with fail
        go_ret3
        refine ⟨.slice none 0 0, ?_, ?_,HK.out.alloc HK.out.size _⟩
        · rw [HT.out,HR.out]; rfl
        · rw [HT.out,HR.out]; exact OwnT.nil _ _
    · obtain rfl : j = s.size := by omega
      obtain ⟨acc,o,hl,e⟩ := HS.out.ac
      have hT2 : T = (acc,none) := by
       rw [e,hLX,List.drop_of_length_le (by rw [len_of]; exact Nat.le_refl _),LX_nil]
       simp
      obtain ⟨v6,w6,ra,o6,b6⟩ := append_tok o (endT,s.size) (by have := HS.out.hi; omega) HS.out.lo.size
      have RA : Hid ((Builtin.append_ #[35,35] 35 #[u5,.slice (some ⟨w1.heap.size,0,none⟩) 1 1]).run Tryz.prog (w1.alloc (.cells #[.int .i64 0,.string ⟨#[]⟩,.int .i64 0,.int .i64 (s.size : Int)] 40)) = .ok v6 w6) := ra
      have HR : Hid (TokR w w6 s.data.toList (.returned (.tuple #[v6,.int .i64 0,.int .i64 0]))) := by
       refine ⟨v6, ?_, ?_,HS.out.lo.trans b6⟩
       · rw [HT.out,hT2]
       · rw [HT.out,hT2]; exact o6
      clear hgp hLX hT2 o hl e ra o6 b6 HS
      go_wp2_with (first | ((with_reducible apply st_append (x := .tmp 28)); (case ho => rfl); (case hgd => rfl); (case hr => exact RA.out)))
      go_ret3
      exact HR.out
  · have HR : Hid (T.2 = some j) := by
     obtain ⟨acc,o,hl,e⟩ := HS.out.ac
     show _ = _
     rw [e,hLX]
    have HK : Hid (Below w.heap.size w w1) := HS.out.lo
    clear hLX HS
    go_wp2_with fail
    go_ret3
    refine ⟨.slice none 0 0, ?_, ?_,HK.out⟩
    · rw [HT.out,HR.out]; rfl
    · rw [HT.out,HR.out]; exact OwnT.nil _ _
end Go.Proofs.YtlgkghebemfpjaaGreatDoor
