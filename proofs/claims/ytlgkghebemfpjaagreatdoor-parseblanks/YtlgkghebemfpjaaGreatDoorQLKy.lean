/- The key words. A block of cells. Tokens of each kind. Tokens, and what is none. How many bytes a sign has. How many bytes a sign has, by the program. -/
import Derived.Test.YtlgkghebemfpjaaGreatDoorQLBs
import Derived.Test.YtlgkghebemfpjaaGreatDoorQLQu
namespace Go.Proofs.YtlgkghebemfpjaaGreatDoor
open Go.ChangeShapes Go.WideShapes Go.ChangeAt Go.RowKit
set_option linter.unusedVariables false
set_option maxRecDepth 100000
set_option maxRecDepth 100000
def keysL : List (List UInt8) := [[65,76,76], [65,78,68], [65,83], [65,83,67], [66,69,84,87,69,69,78], [66,89], [67,65,83,69], [68,69,83,67], [68,73,83,84,73,78,67,84], [69,76,83,69], [69,78,68], [69,88,67,69,80,84], [69,88,73,83,84,83], [70,65,76,83,69], [70,82,79,77], [71,82,79,85,80], [72,65,86,73,78,71], [73,78], [73,78,78,69,82], [73,78,84,69,82,83,69,67,84], [73,83], [74,79,73,78], [76,69,70,84], [76,73,75,69], [76,73,77,73,84], [78,79,84], [78,85,76,76], [79,70,70,83,69,84], [79,78], [79,82], [79,82,68,69,82], [83,69,76,69,67,84], [84,72,69,78], [84,82,85,69], [85,78,73,79,78], [87,72,69,78], [87,72,69,82,69]]
def keyB (l : List UInt8) : Bool := keysL.contains l
theorem key_yes {l : List UInt8} (k : List UInt8) (h : (l == k) = true) (hk : keysL.contains k = true) : keyB l = true := by
 have : l = k := by simpa using h
 rw [this]; exact hk
theorem ret_b {a b : Bool} (h : a = b) : Ending.returned (.bool a) = .returned (.bool b) := by rw [h]
set_option maxHeartbeats 2000000 in
theorem key_is (s : ByteArray) (w : World) : Calls Tryz.prog 135 #[.string s] w fun e w' => e = .returned (.bool (keyB s.toList)) ∧ w' = w := by
 obtain ⟨v,hv⟩ : ∃ v,v = keyB s.toList := ⟨_,rfl⟩
 rw [← hv]
 have HV : Hid (v = keyB s.toList) := hv
 clear hv
 go_enter Tryz.func135,Tryz.ntmps135
 go_wp2
 all_goals go_ret
 all_goals refine ⟨ret_b ?_,rfl⟩
 all_goals rw [HV.out]
 all_goals first | (refine (key_yes _ (by assumption) (by decide)).symm) | (unfold keyB keysL; rw [List.contains_eq_mem]; simp_all; done) | (exfalso; simp_all; done)
theorem cell_put {w : World} {b c i j : Nat} (u : Value) (h : ¬ (b = c ∧ i = j)) : (w.setCell ⟨b,i,none⟩ u).cell? ⟨c,j,none⟩ = w.cell? ⟨c,j,none⟩ :=
 World.cell?_setCell_other _ _ _ _ (fun e => h (by cases e; exact ⟨rfl,rfl⟩))
structure CellsF (w : World) (b : Nat) (l : List Value) : Prop where
 cs : ∀ i v,l[i]? = some v → w.cell? ⟨b,i,none⟩ = some v
 fz : ∀ j,w.frozen? ⟨b,j,none⟩ = false
 ne : l ≠ []
theorem CellsF.lt {w : World} {b : Nat} {l : List Value} (h : CellsF w b l) : b < w.heap.size := by
 cases l with
 | nil => exact absurd rfl h.ne
 | cons x r => exact World.block_lt_of_cell? w _ (h.cs 0 x rfl)
theorem CellsF.far {w w' : World} {b : Nat} {l : List Value} (h : CellsF w b l) (hb : w'.heap[b]? = w.heap[b]?) : CellsF w' b l :=
 ⟨fun i v q => (World.cell?_of_block (a := ⟨b,i,none⟩) hb).trans (h.cs i v q),fun j => (World.frozen?_of_block (a := ⟨b,j,none⟩) hb).trans (h.fz j),h.ne⟩
theorem CellsF.next {w w' : World} {b : Nat} {l : List Value} (h : CellsF w b l) (q : Below w.heap.size w w') : CellsF w' b l := h.far (q.block b h.lt)
theorem CellsF.new (w : World) (l : List Value) (t : TypeId) (hl : l ≠ []) : CellsF (w.alloc (.cells l.toArray t)) w.heap.size l :=
 ⟨fun i v q => by simp [q],fun j => by simp,hl⟩
theorem CellsF.set {w : World} {b : Nat} {l : List Value} (h : CellsF w b l) (i : Nat) (v : Value) (hi : i < l.length) : CellsF (w.setCell ⟨b,i,none⟩ v) b (l.set i v) := by
 refine ⟨fun j u q => ?_,fun j => (World.frozen?_setCells b [v] i w _).trans (h.fz j),fun e => ?_⟩
 · by_cases hij : j = i
   · subst hij
     rw [List.getElem?_set_self hi] at q
     cases q
     obtain ⟨x,hx⟩ : ∃ x,l[j]? = some x := ⟨l[j],List.getElem?_eq_getElem hi⟩
     exact World.cell?_setCell_same' _ _ _ (by rw [h.cs j x hx]; rfl)
   · rw [List.getElem?_set_ne (Ne.symm hij)] at q
     exact (cell_put v (fun e => hij e.2.symm)).trans (h.cs j u q)
 · have := congrArg List.length e
   rw [List.length_set] at this
   exact h.ne (List.eq_nil_of_length_eq_zero this)
theorem below_put {B : Nat} {w w' : World} (h : Below B w w') (x o : Nat) (u : Value) (hx : B ≤ x) : Below B w (w'.setCell ⟨x,o,none⟩ u) :=
 ⟨h.os,h.tape,h.output,by simpa using h.size,fun i hi => (Below.heap_setCell w' ⟨x,o,none⟩ u i (fun e => by have e' : i = x := e; omega)).trans (h.block i hi)⟩
theorem CellsF.four {w : World} {b : Nat} {l : List Value} (h : CellsF w b l) (hl : l.length = 4) (v0 v1 v2 v3 : Value) :
 CellsF ((((w.setCell ⟨b,0,none⟩ v0).setCell ⟨b,1,none⟩ v1).setCell ⟨b,2,none⟩ v2).setCell ⟨b,3,none⟩ v3) b [v0,v1,v2,v3] := by
 match l,hl with
 | [u0,u1,u2,u3],_ => exact (((h.set 0 v0 (by simp)).set 1 v1 (by simp)).set 2 v2 (by simp)).set 3 v3 (by simp)
theorem below_four {B : Nat} {w w' : World} (h : Below B w w') (b : Nat) (hb : B ≤ b) (v0 v1 v2 v3 : Value) :
 Below B w ((((w'.setCell ⟨b,0,none⟩ v0).setCell ⟨b,1,none⟩ v1).setCell ⟨b,2,none⟩ v2).setCell ⟨b,3,none⟩ v3) :=
 below_put (below_put (below_put (below_put h _ _ _ hb) _ _ _ hb) _ _ _ hb) _ _ _ hb
theorem loadTok {w : World} {b : Nat} (l : List Value) (h : CellsF w b l) (hn : l.length = 4) : (loadVar 40 ⟨b,0,none⟩).run Tryz.prog w = .ok (.agg l.toArray) w := by
 have hl := loads l (n := 4) (w := w) (b := b) (o := 0) hn (fun j x hx => by rw [Nat.zero_add]; exact h.cs j x hx)
 simp [loadVar,Sem.run_bind,loadCells,hl]
abbrev nilT : List Value := [.int .i64 0,.string ⟨#[]⟩,.int .i64 0,.int .i64 0]
theorem take_tw (p : UInt8 → Bool) (l : List UInt8) : l.take (l.takeWhile p).length = l.takeWhile p := by
 have h := List.takeWhile_append_dropWhile (p := p) (l := l)
 conv => lhs; rw [← h]
 rw [List.take_left']
 rw [h]
theorem tw_len (p : UInt8 → Bool) (s : ByteArray) : (s.data.toList.takeWhile p).length ≤ s.size := by
 rw [← len_of]
 exact (List.takeWhile_prefix p).length_le
theorem ext_tw (p : UInt8 → Bool) (s : ByteArray) : s.extract 0 (s.data.toList.takeWhile p).length = ⟨(s.data.toList.takeWhile p).toArray⟩ := by
 apply ba_ext
 rw [ext_list,List.drop_zero,take_tw]
theorem str_head (s : ByteArray) (hi : Nat) (h2 : hi ≤ s.size) (W : World) : (Instr.sliceAt 9 (.string s) none (some (.int .i64 (hi : Int))) none).run Tryz.prog W = .ok (.string (s.extract 0 hi)) W := by
 rw [run_sliceAt_string W 9 _ _ _ _ Tryz.underlying9]
 have h0 : (0 : Int) ≤ (hi : Int) ∧ (hi : Int) ≤ (s.size : Int) := by omega
 simp [go_sem,Tryz.underlying9,h0]
theorem word_long (s A U : ByteArray) (N : Nat) (hN : (N : Int) ≤ (s.size : Int)) (hs : s.size ≤ 100000) (hA : s.extract 0 N = A) (hl : 64 < (N : Int)) (H1 : Hid (∀ w,Calls Tryz.prog 100 #[.string s,.func (.func 132) #[] #[]] w fun e w' => e = .returned (.int .i64 (N : Int)) ∧ Below w.heap.size w w')) (w : World) : Calls Tryz.prog 106 #[.string s] w fun e w' => e = .returned (.tuple #[tv 0 ⟨#[]⟩ 0 0,.int .i64 0]) ∧ Below w.heap.size w w' := by
 have HZ : Hid (CellsF (w.alloc (.cells #[.int .i64 0,.string ⟨#[]⟩,.int .i64 0,.int .i64 0] 40)) w.heap.size nilT) := CellsF.new w nilT 40 (by simp)
 have HW : Hid (Below w.heap.size w (w.alloc (.cells #[.int .i64 0,.string ⟨#[]⟩,.int .i64 0,.int .i64 0] 40))) := below1 _ _
 go_enter Tryz.func106,Tryz.ntmps106
 go_wp2_with fail
 refine Calls.mono (H1.out _) ?_; rintro e w1 ⟨rfl,k1⟩
 have HZ1 : Hid (CellsF w1 w.heap.size nilT) := HZ.out.next k1
 have HB1 : Hid (Below w.heap.size w w1) := Below.next HW.out k1
 clear k1
 have z0 : w1.cell? ⟨w.heap.size,0,none⟩ = some (.int .i64 0) := HZ1.out.cs 0 _ rfl
 have z1 : w1.cell? ⟨w.heap.size,1,none⟩ = some (.string ⟨#[]⟩) := HZ1.out.cs 1 _ rfl
 have z2 : w1.cell? ⟨w.heap.size,2,none⟩ = some (.int .i64 0) := HZ1.out.cs 2 _ rfl
 have z3 : w1.cell? ⟨w.heap.size,3,none⟩ = some (.int .i64 0) := HZ1.out.cs 3 _ rfl
 have f0 := HZ1.out.fz 0
 have f1 := HZ1.out.fz 1
 have f2 := HZ1.out.fz 2
 have f3 := HZ1.out.fz 3
 go_wp2_with fail
 try simp only [Exit.inBlock,Exit.then]
 refine bodyPost_ret (end_cell_tmp rfl rfl (loadTok _ (HZ1.out.four rfl _ _ _ _) rfl)) rfl ?_
 exact ⟨rfl,below_four HB1.out _ (Nat.le_refl _) _ _ _ _⟩
theorem word_key (s A U : ByteArray) (N : Nat) (hN : (N : Int) ≤ (s.size : Int)) (hs : s.size ≤ 100000) (hA : s.extract 0 N = A) (hl : ¬ 64 < (N : Int)) (H1 : Hid (∀ w,Calls Tryz.prog 100 #[.string s,.func (.func 132) #[] #[]] w fun e w' => e = .returned (.int .i64 (N : Int)) ∧ Below w.heap.size w w')) (H2 : Hid (∀ w,Calls Tryz.prog 133 #[.string A] w fun e w' => e = .returned (.string A) ∧ Below w.heap.size w w')) (H3 : Hid (∀ w,Calls Tryz.prog 134 #[.string A] w fun e w' => e = .returned (.string U) ∧ Below w.heap.size w w')) (H4 : Hid (∀ w,Calls Tryz.prog 135 #[.string U] w fun e w' => e = .returned (.bool true) ∧ w' = w)) (w : World) : Calls Tryz.prog 106 #[.string s] w fun e w' => e = .returned (.tuple #[tv 2 U 0 0,.int .i64 (N : Int)]) ∧ Below w.heap.size w w' := by
 have hSL : ∀ W,(Instr.sliceAt 9 (.string s) none (some (.int .i64 (N : Int))) none).run Tryz.prog W = .ok (.string A) W := fun W => by rw [← hA]; exact str_head s N (by omega) W
 clear hA
 have HZ : Hid (CellsF (w.alloc (.cells #[.int .i64 0,.string ⟨#[]⟩,.int .i64 0,.int .i64 0] 40)) w.heap.size nilT) := CellsF.new w nilT 40 (by simp)
 have HW : Hid (Below w.heap.size w (w.alloc (.cells #[.int .i64 0,.string ⟨#[]⟩,.int .i64 0,.int .i64 0] 40))) := below1 _ _
 go_enter Tryz.func106,Tryz.ntmps106
 go_wp2_with fail
 refine Calls.mono (H1.out _) ?_; rintro e w1 ⟨rfl,k1⟩
 have HZ1 : Hid (CellsF w1 w.heap.size nilT) := HZ.out.next k1
 have HB1 : Hid (Below w.heap.size w w1) := Below.next HW.out k1
 clear k1
 go_wp2_with fail
 refine Calls.mono (H2.out _) ?_; rintro e w2 ⟨rfl,k2⟩
 have HZ2 : Hid (CellsF w2 w.heap.size nilT) := HZ1.out.next k2
 have HB2 : Hid (Below w.heap.size w w2) := Below.next HB1.out k2
 clear k2
 go_wp2_with fail
 refine Calls.mono (H3.out _) ?_; rintro e w3 ⟨rfl,k3⟩
 have HZ3 : Hid (CellsF w3 w.heap.size nilT) := HZ2.out.next k3
 have HB3 : Hid (Below w.heap.size w w3) := Below.next HB2.out k3
 clear k3
 go_wp2_with fail
 refine Calls.mono (H4.out _) ?_; rintro e w4 ⟨rfl,rfl⟩
 have z0 : w4.cell? ⟨w.heap.size,0,none⟩ = some (.int .i64 0) := HZ3.out.cs 0 _ rfl
 have z1 : w4.cell? ⟨w.heap.size,1,none⟩ = some (.string ⟨#[]⟩) := HZ3.out.cs 1 _ rfl
 have z2 : w4.cell? ⟨w.heap.size,2,none⟩ = some (.int .i64 0) := HZ3.out.cs 2 _ rfl
 have z3 : w4.cell? ⟨w.heap.size,3,none⟩ = some (.int .i64 0) := HZ3.out.cs 3 _ rfl
 have f0 := HZ3.out.fz 0
 have f1 := HZ3.out.fz 1
 have f2 := HZ3.out.fz 2
 have f3 := HZ3.out.fz 3
 go_wp2_with fail
 try simp only [Exit.inBlock,Exit.then]
 refine bodyPost_ret (end_cell_tmp rfl rfl (loadTok _ (HZ3.out.four rfl _ _ _ _) rfl)) rfl ?_
 exact ⟨rfl,below_four HB3.out _ (Nat.le_refl _) _ _ _ _⟩
theorem word_name (s A U : ByteArray) (N : Nat) (hN : (N : Int) ≤ (s.size : Int)) (hs : s.size ≤ 100000) (hA : s.extract 0 N = A) (hl : ¬ 64 < (N : Int)) (H1 : Hid (∀ w,Calls Tryz.prog 100 #[.string s,.func (.func 132) #[] #[]] w fun e w' => e = .returned (.int .i64 (N : Int)) ∧ Below w.heap.size w w')) (H2 : Hid (∀ w,Calls Tryz.prog 133 #[.string A] w fun e w' => e = .returned (.string A) ∧ Below w.heap.size w w')) (H3 : Hid (∀ w,Calls Tryz.prog 134 #[.string A] w fun e w' => e = .returned (.string U) ∧ Below w.heap.size w w')) (H4 : Hid (∀ w,Calls Tryz.prog 135 #[.string U] w fun e w' => e = .returned (.bool false) ∧ w' = w)) (w : World) : Calls Tryz.prog 106 #[.string s] w fun e w' => e = .returned (.tuple #[tv 1 A 0 0,.int .i64 (N : Int)]) ∧ Below w.heap.size w w' := by
 have hSL : ∀ W,(Instr.sliceAt 9 (.string s) none (some (.int .i64 (N : Int))) none).run Tryz.prog W = .ok (.string A) W := fun W => by rw [← hA]; exact str_head s N (by omega) W
 clear hA
 have HZ : Hid (CellsF (w.alloc (.cells #[.int .i64 0,.string ⟨#[]⟩,.int .i64 0,.int .i64 0] 40)) w.heap.size nilT) := CellsF.new w nilT 40 (by simp)
 have HW : Hid (Below w.heap.size w (w.alloc (.cells #[.int .i64 0,.string ⟨#[]⟩,.int .i64 0,.int .i64 0] 40))) := below1 _ _
 go_enter Tryz.func106,Tryz.ntmps106
 go_wp2_with fail
 refine Calls.mono (H1.out _) ?_; rintro e w1 ⟨rfl,k1⟩
 have HZ1 : Hid (CellsF w1 w.heap.size nilT) := HZ.out.next k1
 have HB1 : Hid (Below w.heap.size w w1) := Below.next HW.out k1
 clear k1
 go_wp2_with fail
 refine Calls.mono (H2.out _) ?_; rintro e w2 ⟨rfl,k2⟩
 have HZ2 : Hid (CellsF w2 w.heap.size nilT) := HZ1.out.next k2
 have HB2 : Hid (Below w.heap.size w w2) := Below.next HB1.out k2
 clear k2
 go_wp2_with fail
 refine Calls.mono (H3.out _) ?_; rintro e w3 ⟨rfl,k3⟩
 have HZ3 : Hid (CellsF w3 w.heap.size nilT) := HZ2.out.next k3
 have HB3 : Hid (Below w.heap.size w w3) := Below.next HB2.out k3
 clear k3
 go_wp2_with fail
 refine Calls.mono (H4.out _) ?_; rintro e w4 ⟨rfl,rfl⟩
 have z0 : w4.cell? ⟨w.heap.size,0,none⟩ = some (.int .i64 0) := HZ3.out.cs 0 _ rfl
 have z1 : w4.cell? ⟨w.heap.size,1,none⟩ = some (.string ⟨#[]⟩) := HZ3.out.cs 1 _ rfl
 have z2 : w4.cell? ⟨w.heap.size,2,none⟩ = some (.int .i64 0) := HZ3.out.cs 2 _ rfl
 have z3 : w4.cell? ⟨w.heap.size,3,none⟩ = some (.int .i64 0) := HZ3.out.cs 3 _ rfl
 have f0 := HZ3.out.fz 0
 have f1 := HZ3.out.fz 1
 have f2 := HZ3.out.fz 2
 have f3 := HZ3.out.fz 3
 go_wp2_with fail
 try simp only [Exit.inBlock,Exit.then]
 refine bodyPost_ret (end_cell_tmp rfl rfl (loadTok _ (HZ3.out.four rfl _ _ _ _) rfl)) rfl ?_
 exact ⟨rfl,below_four HB3.out _ (Nat.le_refl _) _ _ _ _⟩
theorem digits_bad (s A : ByteArray) (N : Nat) (hN : (N : Int) ≤ (s.size : Int)) (hs : s.size ≤ 100000) (hA : s.extract 0 N = A) (v x : Int) (hx : (x != 0) = true) (H1 : Hid (∀ w,Calls Tryz.prog 100 #[.string s,.func (.func 108) #[] #[]] w fun e w' => e = .returned (.int .i64 (N : Int)) ∧ Below w.heap.size w w')) (H2 : Hid (∀ w,Calls Tryz.prog 137 #[.string A] w fun e w' => e = .returned (.tuple #[.int .i64 v,.int .i64 x]) ∧ w' = w)) (w : World) : Calls Tryz.prog 109 #[.string s] w fun e w' => e = .returned (.tuple #[tv 0 ⟨#[]⟩ 0 0,.int .i64 0]) ∧ Below w.heap.size w w' := by
 have hSL : ∀ W,(Instr.sliceAt 9 (.string s) none (some (.int .i64 (N : Int))) none).run Tryz.prog W = .ok (.string A) W := fun W => by rw [← hA]; exact str_head s N (by omega) W
 clear hA
 have HZ : Hid (CellsF (w.alloc (.cells #[.int .i64 0,.string ⟨#[]⟩,.int .i64 0,.int .i64 0] 40)) w.heap.size nilT) := CellsF.new w nilT 40 (by simp)
 have HW : Hid (Below w.heap.size w (w.alloc (.cells #[.int .i64 0,.string ⟨#[]⟩,.int .i64 0,.int .i64 0] 40))) := below1 _ _
 go_enter Tryz.func109,Tryz.ntmps109
 go_wp2_with fail
 refine Calls.mono (H1.out _) ?_; rintro e w1 ⟨rfl,k1⟩
 have HZ1 : Hid (CellsF w1 w.heap.size nilT) := HZ.out.next k1
 have HB1 : Hid (Below w.heap.size w w1) := Below.next HW.out k1
 clear k1
 go_wp2_with fail
 refine Calls.mono (H2.out _) ?_; rintro e w2 ⟨rfl,rfl⟩
 have z0 : w2.cell? ⟨w.heap.size,0,none⟩ = some (.int .i64 0) := HZ1.out.cs 0 _ rfl
 have z1 : w2.cell? ⟨w.heap.size,1,none⟩ = some (.string ⟨#[]⟩) := HZ1.out.cs 1 _ rfl
 have z2 : w2.cell? ⟨w.heap.size,2,none⟩ = some (.int .i64 0) := HZ1.out.cs 2 _ rfl
 have z3 : w2.cell? ⟨w.heap.size,3,none⟩ = some (.int .i64 0) := HZ1.out.cs 3 _ rfl
 have f0 := HZ1.out.fz 0
 have f1 := HZ1.out.fz 1
 have f2 := HZ1.out.fz 2
 have f3 := HZ1.out.fz 3
 go_wp2_with fail
 try simp only [Exit.inBlock,Exit.then]
 refine bodyPost_ret (end_cell_tmp rfl rfl (loadTok _ (HZ1.out.four rfl _ _ _ _) rfl)) rfl ?_
 exact ⟨rfl,below_four HB1.out _ (Nat.le_refl _) _ _ _ _⟩
theorem digits_ok (s A : ByteArray) (N : Nat) (hN : (N : Int) ≤ (s.size : Int)) (hs : s.size ≤ 100000) (hA : s.extract 0 N = A) (v x : Int)  (H1 : Hid (∀ w,Calls Tryz.prog 100 #[.string s,.func (.func 108) #[] #[]] w fun e w' => e = .returned (.int .i64 (N : Int)) ∧ Below w.heap.size w w')) (H2 : Hid (∀ w,Calls Tryz.prog 137 #[.string A] w fun e w' => e = .returned (.tuple #[.int .i64 v,.int .i64 0]) ∧ w' = w)) (w : World) : Calls Tryz.prog 109 #[.string s] w fun e w' => e = .returned (.tuple #[tv 3 ⟨#[]⟩ v 0,.int .i64 (N : Int)]) ∧ Below w.heap.size w w' := by
 have hSL : ∀ W,(Instr.sliceAt 9 (.string s) none (some (.int .i64 (N : Int))) none).run Tryz.prog W = .ok (.string A) W := fun W => by rw [← hA]; exact str_head s N (by omega) W
 clear hA
 have HZ : Hid (CellsF (w.alloc (.cells #[.int .i64 0,.string ⟨#[]⟩,.int .i64 0,.int .i64 0] 40)) w.heap.size nilT) := CellsF.new w nilT 40 (by simp)
 have HW : Hid (Below w.heap.size w (w.alloc (.cells #[.int .i64 0,.string ⟨#[]⟩,.int .i64 0,.int .i64 0] 40))) := below1 _ _
 go_enter Tryz.func109,Tryz.ntmps109
 go_wp2_with fail
 refine Calls.mono (H1.out _) ?_; rintro e w1 ⟨rfl,k1⟩
 have HZ1 : Hid (CellsF w1 w.heap.size nilT) := HZ.out.next k1
 have HB1 : Hid (Below w.heap.size w w1) := Below.next HW.out k1
 clear k1
 go_wp2_with fail
 refine Calls.mono (H2.out _) ?_; rintro e w2 ⟨rfl,rfl⟩
 have z0 : w2.cell? ⟨w.heap.size,0,none⟩ = some (.int .i64 0) := HZ1.out.cs 0 _ rfl
 have z1 : w2.cell? ⟨w.heap.size,1,none⟩ = some (.string ⟨#[]⟩) := HZ1.out.cs 1 _ rfl
 have z2 : w2.cell? ⟨w.heap.size,2,none⟩ = some (.int .i64 0) := HZ1.out.cs 2 _ rfl
 have z3 : w2.cell? ⟨w.heap.size,3,none⟩ = some (.int .i64 0) := HZ1.out.cs 3 _ rfl
 have f0 := HZ1.out.fz 0
 have f1 := HZ1.out.fz 1
 have f2 := HZ1.out.fz 2
 have f3 := HZ1.out.fz 3
 go_wp2_with fail
 try simp only [Exit.inBlock,Exit.then]
 refine bodyPost_ret (end_cell_tmp rfl rfl (loadTok _ (HZ1.out.four rfl _ _ _ _) rfl)) rfl ?_
 exact ⟨rfl,below_four HB1.out _ (Nat.le_refl _) _ _ _ _⟩
theorem name_none (s t : ByteArray) (n : Int)  (H1 : Hid (∀ w,Glob w → Calls Tryz.prog 136 #[.string s] w fun e w' => e = .returned (.tuple #[.string ⟨#[]⟩,.int .i64 n]) ∧ Below w.heap.size w w')) (w : World) (hg : Glob w) : Calls Tryz.prog 107 #[.string s] w fun e w' => e = .returned (.tuple #[tv 0 ⟨#[]⟩ 0 0,.int .i64 0]) ∧ Below w.heap.size w w' := by
 have HG : Hid (Glob (w.alloc (.cells #[.int .i64 0,.string ⟨#[]⟩,.int .i64 0,.int .i64 0] 40))) := hg.next (below1 _ _)
 clear hg
 have HZ : Hid (CellsF (w.alloc (.cells #[.int .i64 0,.string ⟨#[]⟩,.int .i64 0,.int .i64 0] 40)) w.heap.size nilT) := CellsF.new w nilT 40 (by simp)
 have HW : Hid (Below w.heap.size w (w.alloc (.cells #[.int .i64 0,.string ⟨#[]⟩,.int .i64 0,.int .i64 0] 40))) := below1 _ _
 go_enter Tryz.func107,Tryz.ntmps107
 go_wp2_with fail
 refine Calls.mono (H1.out _ HG.out) ?_; rintro e w1 ⟨rfl,k1⟩
 have HZ1 : Hid (CellsF w1 w.heap.size nilT) := HZ.out.next k1
 have HB1 : Hid (Below w.heap.size w w1) := Below.next HW.out k1
 clear k1
 have z0 : w1.cell? ⟨w.heap.size,0,none⟩ = some (.int .i64 0) := HZ1.out.cs 0 _ rfl
 have z1 : w1.cell? ⟨w.heap.size,1,none⟩ = some (.string ⟨#[]⟩) := HZ1.out.cs 1 _ rfl
 have z2 : w1.cell? ⟨w.heap.size,2,none⟩ = some (.int .i64 0) := HZ1.out.cs 2 _ rfl
 have z3 : w1.cell? ⟨w.heap.size,3,none⟩ = some (.int .i64 0) := HZ1.out.cs 3 _ rfl
 have f0 := HZ1.out.fz 0
 have f1 := HZ1.out.fz 1
 have f2 := HZ1.out.fz 2
 have f3 := HZ1.out.fz 3
 go_wp2_with fail
 try simp only [Exit.inBlock,Exit.then]
 refine bodyPost_ret (end_cell_tmp rfl rfl (loadTok _ (HZ1.out.four rfl _ _ _ _) rfl)) rfl ?_
 exact ⟨rfl,below_four HB1.out _ (Nat.le_refl _) _ _ _ _⟩
theorem name_long (s t : ByteArray) (n : Int) (h0 : t.toList.isEmpty = false) (h1 : ¬ t.toList = []) (hl : 64 < (t.size : Int)) (H1 : Hid (∀ w,Glob w → Calls Tryz.prog 136 #[.string s] w fun e w' => e = .returned (.tuple #[.string t,.int .i64 n]) ∧ Below w.heap.size w w')) (w : World) (hg : Glob w) : Calls Tryz.prog 107 #[.string s] w fun e w' => e = .returned (.tuple #[tv 0 ⟨#[]⟩ 0 0,.int .i64 0]) ∧ Below w.heap.size w w' := by
 have HG : Hid (Glob (w.alloc (.cells #[.int .i64 0,.string ⟨#[]⟩,.int .i64 0,.int .i64 0] 40))) := hg.next (below1 _ _)
 clear hg
 have HZ : Hid (CellsF (w.alloc (.cells #[.int .i64 0,.string ⟨#[]⟩,.int .i64 0,.int .i64 0] 40)) w.heap.size nilT) := CellsF.new w nilT 40 (by simp)
 have HW : Hid (Below w.heap.size w (w.alloc (.cells #[.int .i64 0,.string ⟨#[]⟩,.int .i64 0,.int .i64 0] 40))) := below1 _ _
 go_enter Tryz.func107,Tryz.ntmps107
 go_wp2_with fail
 refine Calls.mono (H1.out _ HG.out) ?_; rintro e w1 ⟨rfl,k1⟩
 have HZ1 : Hid (CellsF w1 w.heap.size nilT) := HZ.out.next k1
 have HB1 : Hid (Below w.heap.size w w1) := Below.next HW.out k1
 clear k1
 have z0 : w1.cell? ⟨w.heap.size,0,none⟩ = some (.int .i64 0) := HZ1.out.cs 0 _ rfl
 have z1 : w1.cell? ⟨w.heap.size,1,none⟩ = some (.string ⟨#[]⟩) := HZ1.out.cs 1 _ rfl
 have z2 : w1.cell? ⟨w.heap.size,2,none⟩ = some (.int .i64 0) := HZ1.out.cs 2 _ rfl
 have z3 : w1.cell? ⟨w.heap.size,3,none⟩ = some (.int .i64 0) := HZ1.out.cs 3 _ rfl
 have f0 := HZ1.out.fz 0
 have f1 := HZ1.out.fz 1
 have f2 := HZ1.out.fz 2
 have f3 := HZ1.out.fz 3
 go_wp2_with fail
 try simp only [Exit.inBlock,Exit.then]
 refine bodyPost_ret (end_cell_tmp rfl rfl (loadTok _ (HZ1.out.four rfl _ _ _ _) rfl)) rfl ?_
 exact ⟨rfl,below_four HB1.out _ (Nat.le_refl _) _ _ _ _⟩
theorem name_ok (s t : ByteArray) (n : Int) (h0 : t.toList.isEmpty = false) (h1 : ¬ t.toList = []) (hl : ¬ 64 < (t.size : Int)) (H1 : Hid (∀ w,Glob w → Calls Tryz.prog 136 #[.string s] w fun e w' => e = .returned (.tuple #[.string t,.int .i64 n]) ∧ Below w.heap.size w w')) (w : World) (hg : Glob w) : Calls Tryz.prog 107 #[.string s] w fun e w' => e = .returned (.tuple #[tv 1 t 0 0,.int .i64 n]) ∧ Below w.heap.size w w' := by
 have HG : Hid (Glob (w.alloc (.cells #[.int .i64 0,.string ⟨#[]⟩,.int .i64 0,.int .i64 0] 40))) := hg.next (below1 _ _)
 clear hg
 have HZ : Hid (CellsF (w.alloc (.cells #[.int .i64 0,.string ⟨#[]⟩,.int .i64 0,.int .i64 0] 40)) w.heap.size nilT) := CellsF.new w nilT 40 (by simp)
 have HW : Hid (Below w.heap.size w (w.alloc (.cells #[.int .i64 0,.string ⟨#[]⟩,.int .i64 0,.int .i64 0] 40))) := below1 _ _
 go_enter Tryz.func107,Tryz.ntmps107
 go_wp2_with fail
 refine Calls.mono (H1.out _ HG.out) ?_; rintro e w1 ⟨rfl,k1⟩
 have HZ1 : Hid (CellsF w1 w.heap.size nilT) := HZ.out.next k1
 have HB1 : Hid (Below w.heap.size w w1) := Below.next HW.out k1
 clear k1
 have z0 : w1.cell? ⟨w.heap.size,0,none⟩ = some (.int .i64 0) := HZ1.out.cs 0 _ rfl
 have z1 : w1.cell? ⟨w.heap.size,1,none⟩ = some (.string ⟨#[]⟩) := HZ1.out.cs 1 _ rfl
 have z2 : w1.cell? ⟨w.heap.size,2,none⟩ = some (.int .i64 0) := HZ1.out.cs 2 _ rfl
 have z3 : w1.cell? ⟨w.heap.size,3,none⟩ = some (.int .i64 0) := HZ1.out.cs 3 _ rfl
 have f0 := HZ1.out.fz 0
 have f1 := HZ1.out.fz 1
 have f2 := HZ1.out.fz 2
 have f3 := HZ1.out.fz 3
 go_wp2_with fail
 try simp only [Exit.inBlock,Exit.then]
 refine bodyPost_ret (end_cell_tmp rfl rfl (loadTok _ (HZ1.out.four rfl _ _ _ _) rfl)) rfl ?_
 exact ⟨rfl,below_four HB1.out _ (Nat.le_refl _) _ _ _ _⟩
theorem text_none (s t : ByteArray) (n : Int) (h0 : (n == 0) = true) (H1 : Hid (∀ w,Glob w → Calls Tryz.prog 136 #[.string s] w fun e w' => e = .returned (.tuple #[.string t,.int .i64 n]) ∧ Below w.heap.size w w')) (w : World) (hg : Glob w) : Calls Tryz.prog 110 #[.string s] w fun e w' => e = .returned (.tuple #[tv 0 ⟨#[]⟩ 0 0,.int .i64 0]) ∧ Below w.heap.size w w' := by
 have HG : Hid (Glob (w.alloc (.cells #[.int .i64 0,.string ⟨#[]⟩,.int .i64 0,.int .i64 0] 40))) := hg.next (below1 _ _)
 clear hg
 have HZ : Hid (CellsF (w.alloc (.cells #[.int .i64 0,.string ⟨#[]⟩,.int .i64 0,.int .i64 0] 40)) w.heap.size nilT) := CellsF.new w nilT 40 (by simp)
 have HW : Hid (Below w.heap.size w (w.alloc (.cells #[.int .i64 0,.string ⟨#[]⟩,.int .i64 0,.int .i64 0] 40))) := below1 _ _
 go_enter Tryz.func110,Tryz.ntmps110
 go_wp2_with fail
 refine Calls.mono (H1.out _ HG.out) ?_; rintro e w1 ⟨rfl,k1⟩
 have HZ1 : Hid (CellsF w1 w.heap.size nilT) := HZ.out.next k1
 have HB1 : Hid (Below w.heap.size w w1) := Below.next HW.out k1
 clear k1
 have z0 : w1.cell? ⟨w.heap.size,0,none⟩ = some (.int .i64 0) := HZ1.out.cs 0 _ rfl
 have z1 : w1.cell? ⟨w.heap.size,1,none⟩ = some (.string ⟨#[]⟩) := HZ1.out.cs 1 _ rfl
 have z2 : w1.cell? ⟨w.heap.size,2,none⟩ = some (.int .i64 0) := HZ1.out.cs 2 _ rfl
 have z3 : w1.cell? ⟨w.heap.size,3,none⟩ = some (.int .i64 0) := HZ1.out.cs 3 _ rfl
 have f0 := HZ1.out.fz 0
 have f1 := HZ1.out.fz 1
 have f2 := HZ1.out.fz 2
 have f3 := HZ1.out.fz 3
 go_wp2_with fail
 try simp only [Exit.inBlock,Exit.then]
 refine bodyPost_ret (end_cell_tmp rfl rfl (loadTok _ (HZ1.out.four rfl _ _ _ _) rfl)) rfl ?_
 exact ⟨rfl,below_four HB1.out _ (Nat.le_refl _) _ _ _ _⟩
theorem text_long (s t : ByteArray) (n : Int) (h0 : (n == 0) = false) (hl : 64 < (t.size : Int)) (H1 : Hid (∀ w,Glob w → Calls Tryz.prog 136 #[.string s] w fun e w' => e = .returned (.tuple #[.string t,.int .i64 n]) ∧ Below w.heap.size w w')) (w : World) (hg : Glob w) : Calls Tryz.prog 110 #[.string s] w fun e w' => e = .returned (.tuple #[tv 0 ⟨#[]⟩ 0 0,.int .i64 0]) ∧ Below w.heap.size w w' := by
 have HG : Hid (Glob (w.alloc (.cells #[.int .i64 0,.string ⟨#[]⟩,.int .i64 0,.int .i64 0] 40))) := hg.next (below1 _ _)
 clear hg
 have HZ : Hid (CellsF (w.alloc (.cells #[.int .i64 0,.string ⟨#[]⟩,.int .i64 0,.int .i64 0] 40)) w.heap.size nilT) := CellsF.new w nilT 40 (by simp)
 have HW : Hid (Below w.heap.size w (w.alloc (.cells #[.int .i64 0,.string ⟨#[]⟩,.int .i64 0,.int .i64 0] 40))) := below1 _ _
 go_enter Tryz.func110,Tryz.ntmps110
 go_wp2_with fail
 refine Calls.mono (H1.out _ HG.out) ?_; rintro e w1 ⟨rfl,k1⟩
 have HZ1 : Hid (CellsF w1 w.heap.size nilT) := HZ.out.next k1
 have HB1 : Hid (Below w.heap.size w w1) := Below.next HW.out k1
 clear k1
 have z0 : w1.cell? ⟨w.heap.size,0,none⟩ = some (.int .i64 0) := HZ1.out.cs 0 _ rfl
 have z1 : w1.cell? ⟨w.heap.size,1,none⟩ = some (.string ⟨#[]⟩) := HZ1.out.cs 1 _ rfl
 have z2 : w1.cell? ⟨w.heap.size,2,none⟩ = some (.int .i64 0) := HZ1.out.cs 2 _ rfl
 have z3 : w1.cell? ⟨w.heap.size,3,none⟩ = some (.int .i64 0) := HZ1.out.cs 3 _ rfl
 have f0 := HZ1.out.fz 0
 have f1 := HZ1.out.fz 1
 have f2 := HZ1.out.fz 2
 have f3 := HZ1.out.fz 3
 go_wp2_with fail
 try simp only [Exit.inBlock,Exit.then]
 refine bodyPost_ret (end_cell_tmp rfl rfl (loadTok _ (HZ1.out.four rfl _ _ _ _) rfl)) rfl ?_
 exact ⟨rfl,below_four HB1.out _ (Nat.le_refl _) _ _ _ _⟩
theorem text_ok (s t : ByteArray) (n : Int) (h0 : (n == 0) = false) (hl : ¬ 64 < (t.size : Int)) (H1 : Hid (∀ w,Glob w → Calls Tryz.prog 136 #[.string s] w fun e w' => e = .returned (.tuple #[.string t,.int .i64 n]) ∧ Below w.heap.size w w')) (w : World) (hg : Glob w) : Calls Tryz.prog 110 #[.string s] w fun e w' => e = .returned (.tuple #[tv 4 t 0 0,.int .i64 n]) ∧ Below w.heap.size w w' := by
 have HG : Hid (Glob (w.alloc (.cells #[.int .i64 0,.string ⟨#[]⟩,.int .i64 0,.int .i64 0] 40))) := hg.next (below1 _ _)
 clear hg
 have HZ : Hid (CellsF (w.alloc (.cells #[.int .i64 0,.string ⟨#[]⟩,.int .i64 0,.int .i64 0] 40)) w.heap.size nilT) := CellsF.new w nilT 40 (by simp)
 have HW : Hid (Below w.heap.size w (w.alloc (.cells #[.int .i64 0,.string ⟨#[]⟩,.int .i64 0,.int .i64 0] 40))) := below1 _ _
 go_enter Tryz.func110,Tryz.ntmps110
 go_wp2_with fail
 refine Calls.mono (H1.out _ HG.out) ?_; rintro e w1 ⟨rfl,k1⟩
 have HZ1 : Hid (CellsF w1 w.heap.size nilT) := HZ.out.next k1
 have HB1 : Hid (Below w.heap.size w w1) := Below.next HW.out k1
 clear k1
 have z0 : w1.cell? ⟨w.heap.size,0,none⟩ = some (.int .i64 0) := HZ1.out.cs 0 _ rfl
 have z1 : w1.cell? ⟨w.heap.size,1,none⟩ = some (.string ⟨#[]⟩) := HZ1.out.cs 1 _ rfl
 have z2 : w1.cell? ⟨w.heap.size,2,none⟩ = some (.int .i64 0) := HZ1.out.cs 2 _ rfl
 have z3 : w1.cell? ⟨w.heap.size,3,none⟩ = some (.int .i64 0) := HZ1.out.cs 3 _ rfl
 have f0 := HZ1.out.fz 0
 have f1 := HZ1.out.fz 1
 have f2 := HZ1.out.fz 2
 have f3 := HZ1.out.fz 3
 go_wp2_with fail
 try simp only [Exit.inBlock,Exit.then]
 refine bodyPost_ret (end_cell_tmp rfl rfl (loadTok _ (HZ1.out.four rfl _ _ _ _) rfl)) rfl ?_
 exact ⟨rfl,below_four HB1.out _ (Nat.le_refl _) _ _ _ _⟩
theorem sign_none (s : ByteArray) (N : Nat) (h0 : ((N : Int) == 0) = true) (H1 : Hid (∀ w,Calls Tryz.prog 138 #[.string s] w fun e w' => e = .returned (.int .i64 (N : Int)) ∧ w' = w)) (w : World) : Calls Tryz.prog 111 #[.string s] w fun e w' => e = .returned (.tuple #[tv 0 ⟨#[]⟩ 0 0,.int .i64 0]) ∧ Below w.heap.size w w' := by
 have HZ : Hid (CellsF (w.alloc (.cells #[.int .i64 0,.string ⟨#[]⟩,.int .i64 0,.int .i64 0] 40)) w.heap.size nilT) := CellsF.new w nilT 40 (by simp)
 have HW : Hid (Below w.heap.size w (w.alloc (.cells #[.int .i64 0,.string ⟨#[]⟩,.int .i64 0,.int .i64 0] 40))) := below1 _ _
 go_enter Tryz.func111,Tryz.ntmps111
 go_wp2_with fail
 refine Calls.mono (H1.out _) ?_; rintro e w1 ⟨rfl,rfl⟩
 generalize (w.alloc (.cells #[.int .i64 0,.string ⟨#[]⟩,.int .i64 0,.int .i64 0] 40)) = W at *
 have z0 : W.cell? ⟨w.heap.size,0,none⟩ = some (.int .i64 0) := HZ.out.cs 0 _ rfl
 have z1 : W.cell? ⟨w.heap.size,1,none⟩ = some (.string ⟨#[]⟩) := HZ.out.cs 1 _ rfl
 have z2 : W.cell? ⟨w.heap.size,2,none⟩ = some (.int .i64 0) := HZ.out.cs 2 _ rfl
 have z3 : W.cell? ⟨w.heap.size,3,none⟩ = some (.int .i64 0) := HZ.out.cs 3 _ rfl
 have f0 := HZ.out.fz 0
 have f1 := HZ.out.fz 1
 have f2 := HZ.out.fz 2
 have f3 := HZ.out.fz 3
 go_wp2_with fail
 try simp only [Exit.inBlock,Exit.then]
 refine bodyPost_ret (end_cell_tmp rfl rfl (loadTok _ (HZ.out.four rfl _ _ _ _) rfl)) rfl ?_
 exact ⟨rfl,below_four HW.out _ (Nat.le_refl _) _ _ _ _⟩
theorem sign_ne (s A : ByteArray) (N : Nat) (hN : (N : Int) ≤ (s.size : Int)) (hs : s.size ≤ 100000) (hA : s.extract 0 N = A) (h0 : ((N : Int) == 0) = false) (h1 : (A.toList == [33,61]) = true) (H1 : Hid (∀ w,Calls Tryz.prog 138 #[.string s] w fun e w' => e = .returned (.int .i64 (N : Int)) ∧ w' = w)) (H2 : Hid (∀ w,Calls Tryz.prog 133 #[.string A] w fun e w' => e = .returned (.string A) ∧ Below w.heap.size w w')) (w : World) : Calls Tryz.prog 111 #[.string s] w fun e w' => e = .returned (.tuple #[tv 5 ⟨#[60,62]⟩ 0 0,.int .i64 (N : Int)]) ∧ Below w.heap.size w w' := by
 have hSL : ∀ W,(Instr.sliceAt 9 (.string s) none (some (.int .i64 (N : Int))) none).run Tryz.prog W = .ok (.string A) W := fun W => by rw [← hA]; exact str_head s N (by omega) W
 clear hA
 have HZ : Hid (CellsF (w.alloc (.cells #[.int .i64 0,.string ⟨#[]⟩,.int .i64 0,.int .i64 0] 40)) w.heap.size nilT) := CellsF.new w nilT 40 (by simp)
 have HW : Hid (Below w.heap.size w (w.alloc (.cells #[.int .i64 0,.string ⟨#[]⟩,.int .i64 0,.int .i64 0] 40))) := below1 _ _
 go_enter Tryz.func111,Tryz.ntmps111
 go_wp2_with fail
 refine Calls.mono (H1.out _) ?_; rintro e w1 ⟨rfl,rfl⟩
 go_wp2_with fail
 refine Calls.mono (H2.out _) ?_; rintro e w2 ⟨rfl,k2⟩
 have HZ2 : Hid (CellsF w2 w.heap.size nilT) := HZ.out.next k2
 have HB2 : Hid (Below w.heap.size w w2) := Below.next HW.out k2
 clear k2
 have z0 : w2.cell? ⟨w.heap.size,0,none⟩ = some (.int .i64 0) := HZ2.out.cs 0 _ rfl
 have z1 : w2.cell? ⟨w.heap.size,1,none⟩ = some (.string ⟨#[]⟩) := HZ2.out.cs 1 _ rfl
 have z2 : w2.cell? ⟨w.heap.size,2,none⟩ = some (.int .i64 0) := HZ2.out.cs 2 _ rfl
 have z3 : w2.cell? ⟨w.heap.size,3,none⟩ = some (.int .i64 0) := HZ2.out.cs 3 _ rfl
 have f0 := HZ2.out.fz 0
 have f1 := HZ2.out.fz 1
 have f2 := HZ2.out.fz 2
 have f3 := HZ2.out.fz 3
 go_wp2_with fail
 try simp only [Exit.inBlock,Exit.then]
 refine bodyPost_ret (end_cell_tmp rfl rfl (loadTok _ (HZ2.out.four rfl _ _ _ _) rfl)) rfl ?_
 exact ⟨rfl,below_four HB2.out _ (Nat.le_refl _) _ _ _ _⟩
theorem sign_ok (s A : ByteArray) (N : Nat) (hN : (N : Int) ≤ (s.size : Int)) (hs : s.size ≤ 100000) (hA : s.extract 0 N = A) (h0 : ((N : Int) == 0) = false) (h1 : (A.toList == [33,61]) = false) (H1 : Hid (∀ w,Calls Tryz.prog 138 #[.string s] w fun e w' => e = .returned (.int .i64 (N : Int)) ∧ w' = w)) (H2 : Hid (∀ w,Calls Tryz.prog 133 #[.string A] w fun e w' => e = .returned (.string A) ∧ Below w.heap.size w w')) (w : World) : Calls Tryz.prog 111 #[.string s] w fun e w' => e = .returned (.tuple #[tv 5 A 0 0,.int .i64 (N : Int)]) ∧ Below w.heap.size w w' := by
 have hSL : ∀ W,(Instr.sliceAt 9 (.string s) none (some (.int .i64 (N : Int))) none).run Tryz.prog W = .ok (.string A) W := fun W => by rw [← hA]; exact str_head s N (by omega) W
 clear hA
 have HZ : Hid (CellsF (w.alloc (.cells #[.int .i64 0,.string ⟨#[]⟩,.int .i64 0,.int .i64 0] 40)) w.heap.size nilT) := CellsF.new w nilT 40 (by simp)
 have HW : Hid (Below w.heap.size w (w.alloc (.cells #[.int .i64 0,.string ⟨#[]⟩,.int .i64 0,.int .i64 0] 40))) := below1 _ _
 go_enter Tryz.func111,Tryz.ntmps111
 go_wp2_with fail
 refine Calls.mono (H1.out _) ?_; rintro e w1 ⟨rfl,rfl⟩
 go_wp2_with fail
 refine Calls.mono (H2.out _) ?_; rintro e w2 ⟨rfl,k2⟩
 have HZ2 : Hid (CellsF w2 w.heap.size nilT) := HZ.out.next k2
 have HB2 : Hid (Below w.heap.size w w2) := Below.next HW.out k2
 clear k2
 have z0 : w2.cell? ⟨w.heap.size,0,none⟩ = some (.int .i64 0) := HZ2.out.cs 0 _ rfl
 have z1 : w2.cell? ⟨w.heap.size,1,none⟩ = some (.string ⟨#[]⟩) := HZ2.out.cs 1 _ rfl
 have z2 : w2.cell? ⟨w.heap.size,2,none⟩ = some (.int .i64 0) := HZ2.out.cs 2 _ rfl
 have z3 : w2.cell? ⟨w.heap.size,3,none⟩ = some (.int .i64 0) := HZ2.out.cs 3 _ rfl
 have f0 := HZ2.out.fz 0
 have f1 := HZ2.out.fz 1
 have f2 := HZ2.out.fz 2
 have f3 := HZ2.out.fz 3
 go_wp2_with fail
 try simp only [Exit.inBlock,Exit.then]
 refine bodyPost_ret (end_cell_tmp rfl rfl (loadTok _ (HZ2.out.four rfl _ _ _ _) rfl)) rfl ?_
 exact ⟨rfl,below_four HB2.out _ (Nat.le_refl _) _ _ _ _⟩
theorem gap_line (s : ByteArray) (n : Int) (H1 : Hid (∀ w,Calls Tryz.prog 99 #[.string s,.string ⟨#[45,45]⟩] w fun e w' => e = .returned (.bool true) ∧ w' = w)) (H2 : Hid (∀ w,Calls Tryz.prog 100 #[.string s,.func (.func 101) #[] #[]] w fun e w' => e = .returned (.int .i64 n) ∧ Below w.heap.size w w')) (w : World) : Calls Tryz.prog 74 #[.string s] w fun e w' => e = .returned (.int .i64 n) ∧ Below w.heap.size w w' := by
 go_enter Tryz.func74,Tryz.ntmps74
 go_wp2_with fail
 refine Calls.mono (H1.out _) ?_; rintro e w1 ⟨rfl,rfl⟩
 go_wp2_with fail
 refine Calls.mono (H2.out _) ?_; rintro e w2 ⟨rfl,k2⟩
 have HK : Hid (Below w1.heap.size w1 w2) := k2
 clear k2
 go_wp2_with fail
 go_ret
 exact ⟨rfl,HK.out⟩
theorem gap_blank (s D : ByteArray) (n : Int) (H1 : Hid (∀ w,Calls Tryz.prog 99 #[.string s,.string ⟨#[45,45]⟩] w fun e w' => e = .returned (.bool false) ∧ w' = w)) (H2 : Hid (∀ w,Calls Tryz.prog 102 #[.string s,.string ⟨#[47,42]⟩] w fun e w' => e = .returned (.tuple #[.string D,.bool false]) ∧ w' = w)) (H3 : Hid (∀ w,Calls Tryz.prog 100 #[.string s,.func (.func 104) #[] #[]] w fun e w' => e = .returned (.int .i64 n) ∧ Below w.heap.size w w')) (w : World) : Calls Tryz.prog 74 #[.string s] w fun e w' => e = .returned (.int .i64 n) ∧ Below w.heap.size w w' := by
 go_enter Tryz.func74,Tryz.ntmps74
 go_wp2_with fail
 refine Calls.mono (H1.out _) ?_; rintro e w1 ⟨rfl,rfl⟩
 go_wp2_with fail
 refine Calls.mono (H2.out _) ?_; rintro e w2 ⟨rfl,rfl⟩
 go_wp2_with fail
 refine Calls.mono (H3.out _) ?_; rintro e w3 ⟨rfl,k2⟩
 have HK : Hid (Below w2.heap.size w2 w3) := k2
 clear k2
 go_wp2_with fail
 go_ret
 exact ⟨rfl,HK.out⟩
theorem first_word (s : ByteArray) (c : UInt8) (h0 : (0 : Int) < (s.size : Int)) (h0' : 0 < s.size) (hc : s[0] = c) (k n z : Int) (t : ByteArray) (wb db : Bool) (HB : Hid (∀ w,Calls Tryz.prog 105 #[.int .i32 (c.toNat : Int)] w fun e w' => e = .returned (.bool wb) ∧ w' = w)) (HD : Hid (∀ w,Calls Tryz.prog 108 #[.int .i32 (c.toNat : Int)] w fun e w' => e = .returned (.bool db) ∧ w' = w)) (hw : wb = true) (HT : Hid (∀ w,Glob w → Calls Tryz.prog 106 #[.string s] w fun e w' => e = .returned (.tuple #[tv k t n 0,.int .i64 z]) ∧ Below w.heap.size w w')) (w : World) (hg : Glob w) : Calls Tryz.prog 75 #[.string s] w fun e w' => e = .returned (.tuple #[tv k t n 0,.int .i64 z]) ∧ Below w.heap.size w w' := by
 have HG : Hid (Glob (w.alloc (.cells #[.int .i64 0,.string ⟨#[]⟩,.int .i64 0,.int .i64 0] 40))) := hg.next (below1 _ _)
 clear hg
 subst hw
 have h1 : wrap32 (c.toNat : Int) = (c.toNat : Int) := by have := c.toNat_lt; unfold wrap32; omega
 have h2 : (s[0].toNat : Int) = (c.toNat : Int) := by rw [hc]
 have HZ : Hid (CellsF (w.alloc (.cells #[.int .i64 0,.string ⟨#[]⟩,.int .i64 0,.int .i64 0] 40)) w.heap.size nilT) := CellsF.new w nilT 40 (by simp)
 have HW : Hid (Below w.heap.size w (w.alloc (.cells #[.int .i64 0,.string ⟨#[]⟩,.int .i64 0,.int .i64 0] 40))) := below1 _ _
 go_enter Tryz.func75,Tryz.ntmps75
 go_wp2_with fail
 refine Calls.mono (HB.out _) ?_; rintro e w1 ⟨rfl,rfl⟩
 go_wp2_with fail
 refine Calls.mono (HT.out _ HG.out) ?_; rintro e w2 ⟨rfl,k2⟩
 have HZ2 : Hid (CellsF w2 w.heap.size nilT) := HZ.out.next k2
 have HB2 : Hid (Below w.heap.size w w2) := Below.next HW.out k2
 clear k2
 have z0 : w2.cell? ⟨w.heap.size,0,none⟩ = some (.int .i64 0) := HZ2.out.cs 0 _ rfl
 have z1 : w2.cell? ⟨w.heap.size,1,none⟩ = some (.string ⟨#[]⟩) := HZ2.out.cs 1 _ rfl
 have z2 : w2.cell? ⟨w.heap.size,2,none⟩ = some (.int .i64 0) := HZ2.out.cs 2 _ rfl
 have z3 : w2.cell? ⟨w.heap.size,3,none⟩ = some (.int .i64 0) := HZ2.out.cs 3 _ rfl
 have f0 := HZ2.out.fz 0
 have f1 := HZ2.out.fz 1
 have f2 := HZ2.out.fz 2
 have f3 := HZ2.out.fz 3
 go_wp2_with fail
 try simp only [Exit.inBlock,Exit.then]
 refine bodyPost_ret (end_cell_tmp rfl rfl (loadTok _ (HZ2.out.four rfl _ _ _ _) rfl)) rfl ?_
 exact ⟨rfl,below_four HB2.out _ (Nat.le_refl _) _ _ _ _⟩
theorem first_name (s : ByteArray) (c : UInt8) (h0 : (0 : Int) < (s.size : Int)) (h0' : 0 < s.size) (hc : s[0] = c) (k n z : Int) (t : ByteArray) (wb db : Bool) (HB : Hid (∀ w,Calls Tryz.prog 105 #[.int .i32 (c.toNat : Int)] w fun e w' => e = .returned (.bool wb) ∧ w' = w)) (HD : Hid (∀ w,Calls Tryz.prog 108 #[.int .i32 (c.toNat : Int)] w fun e w' => e = .returned (.bool db) ∧ w' = w)) (hw : wb = false) (h34 : ((c.toNat : Int) == 34) = true) (HT : Hid (∀ w,Glob w → Calls Tryz.prog 107 #[.string s] w fun e w' => e = .returned (.tuple #[tv k t n 0,.int .i64 z]) ∧ Below w.heap.size w w')) (w : World) (hg : Glob w) : Calls Tryz.prog 75 #[.string s] w fun e w' => e = .returned (.tuple #[tv k t n 0,.int .i64 z]) ∧ Below w.heap.size w w' := by
 have HG : Hid (Glob (w.alloc (.cells #[.int .i64 0,.string ⟨#[]⟩,.int .i64 0,.int .i64 0] 40))) := hg.next (below1 _ _)
 clear hg
 subst hw
 have h1 : wrap32 (c.toNat : Int) = (c.toNat : Int) := by have := c.toNat_lt; unfold wrap32; omega
 have h2 : (s[0].toNat : Int) = (c.toNat : Int) := by rw [hc]
 have HZ : Hid (CellsF (w.alloc (.cells #[.int .i64 0,.string ⟨#[]⟩,.int .i64 0,.int .i64 0] 40)) w.heap.size nilT) := CellsF.new w nilT 40 (by simp)
 have HW : Hid (Below w.heap.size w (w.alloc (.cells #[.int .i64 0,.string ⟨#[]⟩,.int .i64 0,.int .i64 0] 40))) := below1 _ _
 go_enter Tryz.func75,Tryz.ntmps75
 go_wp2_with fail
 refine Calls.mono (HB.out _) ?_; rintro e w1 ⟨rfl,rfl⟩
 go_wp2_with fail
 refine Calls.mono (HT.out _ HG.out) ?_; rintro e w2 ⟨rfl,k2⟩
 have HZ2 : Hid (CellsF w2 w.heap.size nilT) := HZ.out.next k2
 have HB2 : Hid (Below w.heap.size w w2) := Below.next HW.out k2
 clear k2
 have z0 : w2.cell? ⟨w.heap.size,0,none⟩ = some (.int .i64 0) := HZ2.out.cs 0 _ rfl
 have z1 : w2.cell? ⟨w.heap.size,1,none⟩ = some (.string ⟨#[]⟩) := HZ2.out.cs 1 _ rfl
 have z2 : w2.cell? ⟨w.heap.size,2,none⟩ = some (.int .i64 0) := HZ2.out.cs 2 _ rfl
 have z3 : w2.cell? ⟨w.heap.size,3,none⟩ = some (.int .i64 0) := HZ2.out.cs 3 _ rfl
 have f0 := HZ2.out.fz 0
 have f1 := HZ2.out.fz 1
 have f2 := HZ2.out.fz 2
 have f3 := HZ2.out.fz 3
 go_wp2_with fail
 try simp only [Exit.inBlock,Exit.then]
 refine bodyPost_ret (end_cell_tmp rfl rfl (loadTok _ (HZ2.out.four rfl _ _ _ _) rfl)) rfl ?_
 exact ⟨rfl,below_four HB2.out _ (Nat.le_refl _) _ _ _ _⟩
theorem first_digits (s : ByteArray) (c : UInt8) (h0 : (0 : Int) < (s.size : Int)) (h0' : 0 < s.size) (hc : s[0] = c) (k n z : Int) (t : ByteArray) (wb db : Bool) (HB : Hid (∀ w,Calls Tryz.prog 105 #[.int .i32 (c.toNat : Int)] w fun e w' => e = .returned (.bool wb) ∧ w' = w)) (HD : Hid (∀ w,Calls Tryz.prog 108 #[.int .i32 (c.toNat : Int)] w fun e w' => e = .returned (.bool db) ∧ w' = w)) (hw : wb = false ∧ db = true) (h34 : ((c.toNat : Int) == 34) = false) (HT : Hid (∀ w,Glob w → Calls Tryz.prog 109 #[.string s] w fun e w' => e = .returned (.tuple #[tv k t n 0,.int .i64 z]) ∧ Below w.heap.size w w')) (w : World) (hg : Glob w) : Calls Tryz.prog 75 #[.string s] w fun e w' => e = .returned (.tuple #[tv k t n 0,.int .i64 z]) ∧ Below w.heap.size w w' := by
 have HG : Hid (Glob (w.alloc (.cells #[.int .i64 0,.string ⟨#[]⟩,.int .i64 0,.int .i64 0] 40))) := hg.next (below1 _ _)
 clear hg
 obtain ⟨rfl,rfl⟩ := hw
 have h1 : wrap32 (c.toNat : Int) = (c.toNat : Int) := by have := c.toNat_lt; unfold wrap32; omega
 have h2 : (s[0].toNat : Int) = (c.toNat : Int) := by rw [hc]
 have HZ : Hid (CellsF (w.alloc (.cells #[.int .i64 0,.string ⟨#[]⟩,.int .i64 0,.int .i64 0] 40)) w.heap.size nilT) := CellsF.new w nilT 40 (by simp)
 have HW : Hid (Below w.heap.size w (w.alloc (.cells #[.int .i64 0,.string ⟨#[]⟩,.int .i64 0,.int .i64 0] 40))) := below1 _ _
 go_enter Tryz.func75,Tryz.ntmps75
 go_wp2_with fail
 refine Calls.mono (HB.out _) ?_; rintro e w1 ⟨rfl,rfl⟩
 go_wp2_with fail
 refine Calls.mono (HD.out _) ?_; rintro e w1 ⟨rfl,rfl⟩
 go_wp2_with fail
 refine Calls.mono (HT.out _ HG.out) ?_; rintro e w2 ⟨rfl,k2⟩
 have HZ2 : Hid (CellsF w2 w.heap.size nilT) := HZ.out.next k2
 have HB2 : Hid (Below w.heap.size w w2) := Below.next HW.out k2
 clear k2
 have z0 : w2.cell? ⟨w.heap.size,0,none⟩ = some (.int .i64 0) := HZ2.out.cs 0 _ rfl
 have z1 : w2.cell? ⟨w.heap.size,1,none⟩ = some (.string ⟨#[]⟩) := HZ2.out.cs 1 _ rfl
 have z2 : w2.cell? ⟨w.heap.size,2,none⟩ = some (.int .i64 0) := HZ2.out.cs 2 _ rfl
 have z3 : w2.cell? ⟨w.heap.size,3,none⟩ = some (.int .i64 0) := HZ2.out.cs 3 _ rfl
 have f0 := HZ2.out.fz 0
 have f1 := HZ2.out.fz 1
 have f2 := HZ2.out.fz 2
 have f3 := HZ2.out.fz 3
 go_wp2_with fail
 try simp only [Exit.inBlock,Exit.then]
 refine bodyPost_ret (end_cell_tmp rfl rfl (loadTok _ (HZ2.out.four rfl _ _ _ _) rfl)) rfl ?_
 exact ⟨rfl,below_four HB2.out _ (Nat.le_refl _) _ _ _ _⟩
theorem first_text (s : ByteArray) (c : UInt8) (h0 : (0 : Int) < (s.size : Int)) (h0' : 0 < s.size) (hc : s[0] = c) (k n z : Int) (t : ByteArray) (wb db : Bool) (HB : Hid (∀ w,Calls Tryz.prog 105 #[.int .i32 (c.toNat : Int)] w fun e w' => e = .returned (.bool wb) ∧ w' = w)) (HD : Hid (∀ w,Calls Tryz.prog 108 #[.int .i32 (c.toNat : Int)] w fun e w' => e = .returned (.bool db) ∧ w' = w)) (hw : wb = false ∧ db = false) (h34 : ((c.toNat : Int) == 34) = false) (h39 : ((c.toNat : Int) == 39) = true) (HT : Hid (∀ w,Glob w → Calls Tryz.prog 110 #[.string s] w fun e w' => e = .returned (.tuple #[tv k t n 0,.int .i64 z]) ∧ Below w.heap.size w w')) (w : World) (hg : Glob w) : Calls Tryz.prog 75 #[.string s] w fun e w' => e = .returned (.tuple #[tv k t n 0,.int .i64 z]) ∧ Below w.heap.size w w' := by
 have HG : Hid (Glob (w.alloc (.cells #[.int .i64 0,.string ⟨#[]⟩,.int .i64 0,.int .i64 0] 40))) := hg.next (below1 _ _)
 clear hg
 obtain ⟨rfl,rfl⟩ := hw
 have h1 : wrap32 (c.toNat : Int) = (c.toNat : Int) := by have := c.toNat_lt; unfold wrap32; omega
 have h2 : (s[0].toNat : Int) = (c.toNat : Int) := by rw [hc]
 have HZ : Hid (CellsF (w.alloc (.cells #[.int .i64 0,.string ⟨#[]⟩,.int .i64 0,.int .i64 0] 40)) w.heap.size nilT) := CellsF.new w nilT 40 (by simp)
 have HW : Hid (Below w.heap.size w (w.alloc (.cells #[.int .i64 0,.string ⟨#[]⟩,.int .i64 0,.int .i64 0] 40))) := below1 _ _
 go_enter Tryz.func75,Tryz.ntmps75
 go_wp2_with fail
 refine Calls.mono (HB.out _) ?_; rintro e w1 ⟨rfl,rfl⟩
 go_wp2_with fail
 refine Calls.mono (HD.out _) ?_; rintro e w1 ⟨rfl,rfl⟩
 go_wp2_with fail
 refine Calls.mono (HT.out _ HG.out) ?_; rintro e w2 ⟨rfl,k2⟩
 have HZ2 : Hid (CellsF w2 w.heap.size nilT) := HZ.out.next k2
 have HB2 : Hid (Below w.heap.size w w2) := Below.next HW.out k2
 clear k2
 have z0 : w2.cell? ⟨w.heap.size,0,none⟩ = some (.int .i64 0) := HZ2.out.cs 0 _ rfl
 have z1 : w2.cell? ⟨w.heap.size,1,none⟩ = some (.string ⟨#[]⟩) := HZ2.out.cs 1 _ rfl
 have z2 : w2.cell? ⟨w.heap.size,2,none⟩ = some (.int .i64 0) := HZ2.out.cs 2 _ rfl
 have z3 : w2.cell? ⟨w.heap.size,3,none⟩ = some (.int .i64 0) := HZ2.out.cs 3 _ rfl
 have f0 := HZ2.out.fz 0
 have f1 := HZ2.out.fz 1
 have f2 := HZ2.out.fz 2
 have f3 := HZ2.out.fz 3
 go_wp2_with fail
 try simp only [Exit.inBlock,Exit.then]
 refine bodyPost_ret (end_cell_tmp rfl rfl (loadTok _ (HZ2.out.four rfl _ _ _ _) rfl)) rfl ?_
 exact ⟨rfl,below_four HB2.out _ (Nat.le_refl _) _ _ _ _⟩
theorem first_sign (s : ByteArray) (c : UInt8) (h0 : (0 : Int) < (s.size : Int)) (h0' : 0 < s.size) (hc : s[0] = c) (k n z : Int) (t : ByteArray) (wb db : Bool) (HB : Hid (∀ w,Calls Tryz.prog 105 #[.int .i32 (c.toNat : Int)] w fun e w' => e = .returned (.bool wb) ∧ w' = w)) (HD : Hid (∀ w,Calls Tryz.prog 108 #[.int .i32 (c.toNat : Int)] w fun e w' => e = .returned (.bool db) ∧ w' = w)) (hw : wb = false ∧ db = false) (h34 : ((c.toNat : Int) == 34) = false) (h39 : ((c.toNat : Int) == 39) = false) (HT : Hid (∀ w,Glob w → Calls Tryz.prog 111 #[.string s] w fun e w' => e = .returned (.tuple #[tv k t n 0,.int .i64 z]) ∧ Below w.heap.size w w')) (w : World) (hg : Glob w) : Calls Tryz.prog 75 #[.string s] w fun e w' => e = .returned (.tuple #[tv k t n 0,.int .i64 z]) ∧ Below w.heap.size w w' := by
 have HG : Hid (Glob (w.alloc (.cells #[.int .i64 0,.string ⟨#[]⟩,.int .i64 0,.int .i64 0] 40))) := hg.next (below1 _ _)
 clear hg
 obtain ⟨rfl,rfl⟩ := hw
 have h1 : wrap32 (c.toNat : Int) = (c.toNat : Int) := by have := c.toNat_lt; unfold wrap32; omega
 have h2 : (s[0].toNat : Int) = (c.toNat : Int) := by rw [hc]
 have HZ : Hid (CellsF (w.alloc (.cells #[.int .i64 0,.string ⟨#[]⟩,.int .i64 0,.int .i64 0] 40)) w.heap.size nilT) := CellsF.new w nilT 40 (by simp)
 have HW : Hid (Below w.heap.size w (w.alloc (.cells #[.int .i64 0,.string ⟨#[]⟩,.int .i64 0,.int .i64 0] 40))) := below1 _ _
 go_enter Tryz.func75,Tryz.ntmps75
 go_wp2_with fail
 refine Calls.mono (HB.out _) ?_; rintro e w1 ⟨rfl,rfl⟩
 go_wp2_with fail
 refine Calls.mono (HD.out _) ?_; rintro e w1 ⟨rfl,rfl⟩
 go_wp2_with fail
 refine Calls.mono (HT.out _ HG.out) ?_; rintro e w2 ⟨rfl,k2⟩
 have HZ2 : Hid (CellsF w2 w.heap.size nilT) := HZ.out.next k2
 have HB2 : Hid (Below w.heap.size w w2) := Below.next HW.out k2
 clear k2
 have z0 : w2.cell? ⟨w.heap.size,0,none⟩ = some (.int .i64 0) := HZ2.out.cs 0 _ rfl
 have z1 : w2.cell? ⟨w.heap.size,1,none⟩ = some (.string ⟨#[]⟩) := HZ2.out.cs 1 _ rfl
 have z2 : w2.cell? ⟨w.heap.size,2,none⟩ = some (.int .i64 0) := HZ2.out.cs 2 _ rfl
 have z3 : w2.cell? ⟨w.heap.size,3,none⟩ = some (.int .i64 0) := HZ2.out.cs 3 _ rfl
 have f0 := HZ2.out.fz 0
 have f1 := HZ2.out.fz 1
 have f2 := HZ2.out.fz 2
 have f3 := HZ2.out.fz 3
 go_wp2_with fail
 try simp only [Exit.inBlock,Exit.then]
 refine bodyPost_ret (end_cell_tmp rfl rfl (loadTok _ (HZ2.out.four rfl _ _ _ _) rfl)) rfl ?_
 exact ⟨rfl,below_four HB2.out _ (Nat.le_refl _) _ _ _ _⟩
def shortL : List UInt8 := [40,41,44,46,42,43,45,47,37,61,60,62]
def signN (l : List UInt8) : Nat :=
 if l.take 2 = [60,62] ∨ l.take 2 = [60,61] ∨ l.take 2 = [62,61] ∨ l.take 2 = [33,61] ∨ l.take 2 = [124,124] then 2
 else if l.take 2 = [47,42] then 0 else if shortL.contains (l.headD 0) then 1 else 0
theorem index_mem (c : UInt8) : ∀ l : List UInt8,decide (0 ≤ Lib.indexByte l c) = l.contains c
 | [] => rfl
 | b :: l => by
   have ih := index_mem c l
   have hge : -1 ≤ Lib.indexByte l c := Lib.indexByte_ge l c
   have e : (b :: l).contains c = (c == b || l.contains c) := by rw [List.contains_cons]
   rw [e, ← ih]
   by_cases h : b = c
   · subst h
     rw [Lib.indexByte,if_pos (by simp)]
     simp
   · rw [Lib.indexByte,if_neg (by simpa using h)]
     have h2 : (c == b) = false := by simpa using fun e => h e.symm
     rw [h2,Bool.false_or]
     by_cases hm : Lib.indexByte l c = -1
     · rw [if_pos (by simpa using hm),hm]
     · rw [if_neg (by simpa using hm)]
       rw [decide_eq_true (by omega),decide_eq_true (by omega)]
theorem sign_size (s X : ByteArray) (hE : s.extract 0 (min 2 (s.size : Int)).toNat = X) (h1 : 1 ≤ s.size) (hs : s.size ≤ 100000) (c : UInt8) (hc : s.extract 0 1 = ⟨#[c]⟩) (w : World) :
 Calls Tryz.prog 138 #[.string s] w fun e w' => e = .returned (.int .i64 (if X.toList = [60,62] ∨ X.toList = [60,61] ∨ X.toList = [62,61] ∨ X.toList = [33,61] ∨ X.toList = [124,124] then 2
 else if X.toList = [47,42] then 0 else if shortL.contains c then 1 else 0)) ∧ w' = w := by
 obtain ⟨n,hn⟩ : ∃ n,n = (if X.toList = [60,62] ∨ X.toList = [60,61] ∨ X.toList = [62,61] ∨ X.toList = [33,61] ∨ X.toList = [124,124] then (2 : Int)
 else if X.toList = [47,42] then 0 else if shortL.contains c then 1 else 0) := ⟨_,rfl⟩
 rw [← hn]
 have HN : Hid (n = (if X.toList = [60,62] ∨ X.toList = [60,61] ∨ X.toList = [62,61] ∨ X.toList = [33,61] ∨ X.toList = [124,124] then (2 : Int)
 else if X.toList = [47,42] then 0 else if shortL.contains c then 1 else 0)) := hn
 clear hn
 have HC : Hid (∀ w,Calls Tryz.prog 162 #[.string ⟨#[40,41,44,46,42,43,45,47,37,61,60,62]⟩,.string ⟨#[c]⟩] w fun e w' => e = .returned (.bool (shortL.contains c)) ∧ w' = w) := fun w => by
  rw [← index_mem]
  exact Tryz.strings_Contains_one ⟨#[40,41,44,46,42,43,45,47,37,61,60,62]⟩ c w
 have hSL1 : ∀ W,(Instr.sliceAt 9 (.string s) none (some (.int .i64 1)) none).run Tryz.prog W = .ok (.string ⟨#[c]⟩) W := fun W => by rw [← hc]; exact str_head s 1 (by omega) W
 clear hc
 obtain ⟨kb,hkb⟩ : ∃ kb,shortL.contains c = kb := ⟨_,rfl⟩
 rw [hkb] at HC HN
 clear hkb
 have h6 : (0 : Int) ≤ min 2 (s.size : Int) ∧ min 2 (s.size : Int) ≤ (s.size : Int) := by omega
 have h7 : (0 : Int) ≤ 1 ∧ (1 : Int) ≤ (s.size : Int) := by omega
 cases kb
 all_goals go_enter Tryz.func138,Tryz.ntmps138
 all_goals go_wp2_with (refine (HC.out _).mono ?_; rintro e w1 ⟨rfl,rfl⟩)
 all_goals go_ret
 all_goals refine ⟨ret_int ?_,rfl⟩
 all_goals rw [HN.out]
 all_goals clear HN
 all_goals (first | (simp only [beq_iff_eq,beq_eq_false_iff_ne,ne_eq] at *; simp [*]; done) | (simp [*]; done) | (exfalso; simp_all; done))
end Go.Proofs.YtlgkghebemfpjaaGreatDoor
