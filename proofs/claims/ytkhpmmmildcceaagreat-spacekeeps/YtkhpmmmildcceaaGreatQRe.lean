/- Read, of the bytes of a page. -/
import Derived.Test.YtkhpmmmildcceaaGreatQRs
namespace Go.Proofs.YtkhpmmmildcceaaGreat
open Go.ChangeShapes Go.WideShapes Go.ChangeAt Go.RowKit
set_option linter.unusedVariables false
set_option maxRecDepth 100000
set_option maxRecDepth 100000

theorem bytes_back (kd : UInt8) (cs : List Cel) : wr (bytesB (lay kd cs)) 4 (zs 4) = lay kd cs := by
  have e : bytesB (lay kd cs) = (lay kd cs).take 4 ++ (sumP (lay kd cs) ++ (lay kd cs).drop 8) := by unfold bytesB; rw [List.append_assoc]
  rw [e, wr_seg _ (sumP (lay kd cs)) _ (zs 4) 4 rfl rfl]
  rfl
theorem bytes_len (kd : UInt8) (cs : List Cel) (h : okC cs) : (bytesB (lay kd cs)).length = 256 := by
  have := lay_len kd cs h.2
  unfold bytesB
  rw [List.length_append, List.length_append, List.length_take, List.length_drop, this]
  rfl
theorem wr_whole (Z Y : List UInt8) (h : Z.length = Y.length) : wr Z 0 Y = Y := by
  rw [wr_eq _ _ _ (by omega), List.take_zero, Nat.zero_add, List.drop_eq_nil_of_le (by omega), List.append_nil]
  rfl
set_option maxHeartbeats 2000000 in
theorem read_yes (s : ByteArray) (kd : UInt8) (cs : List Cel) (hs : s.data.toList = bytesB (lay kd cs)) (hok : okC cs) (hr : ris cs) (hkd : kd.toNat ≠ 0) (w : World) : Calls Tryz.prog 122 #[.string s] w fun e w' => ∃ q, e = .returned (.tuple #[.pointer (some ⟨q, 0, none⟩), .int .i64 0]) ∧ Pg w' q (lay kd cs) ∧ Kept (fun _ => False) w w' ∧ w.heap.size ≤ q := by
  have hsz : s.size = 256 := by
    have : s.data.toList.length = s.size := by simp
    rw [hs, bytes_len kd cs hok] at this
    exact this.symm
  obtain ⟨S4, hS4⟩ : ∃ S, (⟨(sumP (lay kd cs)).toArray⟩ : ByteArray) = S := ⟨_, rfl⟩
  have hex : s.extract 4 8 = S4 := by
    rw [← hS4]
    apply ByteArray.ext
    apply Array.ext'
    rw [ByteArray.data_extract, Array.toList_extract, hs, List.extract_eq_take_drop]
    have e : bytesB (lay kd cs) = (lay kd cs).take 4 ++ (sumP (lay kd cs) ++ (lay kd cs).drop 8) := by unfold bytesB; rw [List.append_assoc]
    rw [e]
    rfl
  have HA : Hid ((Instr.alloc 158 true (.tuple #[])).run Tryz.prog w = .ok (.pointer (some ⟨w.heap.size, 0, none⟩)) (w.alloc (.cells (bv (zs 256)).toArray 158))) := alloc58 w
  have hP0 := pg_new w (zs 256) (by simp)
  have hK0 : Kept (fun _ => False) w (w.alloc (.cells (bv (zs 256)).toArray 158)) := (Kept.refl _ w).alloc _
  obtain ⟨W, hW⟩ : ∃ W, w.alloc (.cells (bv (zs 256)).toArray 158) = W := ⟨_, rfl⟩
  obtain ⟨q, hq⟩ : ∃ q, w.heap.size = q := ⟨_, rfl⟩
  rw [hW] at HA hP0 hK0
  rw [hq] at HA hP0
  have HQ : Hid (w.heap.size ≤ q) := Nat.le_of_eq hq
  have hC1 := copy_text hP0 3 0 256 s (by omega)
  rw [hsz, show offB 0 = 0 from rfl, show 256 - 0 = 256 from rfl] at hC1
  have hP1 := Pg.write s.data.toList 0 hP0
  rw [wr_whole (zs 256) s.data.toList (by rw [hs, bytes_len kd cs hok]; simp)] at hP1
  have hK1 : Kept (fun _ => False) w (W.setCells q 0 (bv s.data.toList)) := hK0.trans (kept_sets W q 0 (bv s.data.toList)) (fun i hi => .inr (by rw [hi, ← hq]; exact Nat.le_refl _))
  obtain ⟨W2, hW2⟩ : ∃ W2, W.setCells q 0 (bv s.data.toList) = W2 := ⟨_, rfl⟩
  rw [hW2] at hC1 hP1 hK1
  have HC1 : Hid ((Builtin.copy_ #[98, 9] 3 #[.slice (some ⟨q, 0, none⟩) 256 256, .string s]).run Tryz.prog W = .ok (.int .i64 256) W2) := hC1
  have hC2 := clear_page hP1 0 4 8 252 (by omega) (by omega)
  rw [show offB 4 = 4 from rfl, show 8 - 4 = 4 from rfl] at hC2
  have hP2 := Pg.write (zs 4) 4 hP1
  rw [hs, bytes_back] at hP2
  have hK2 : Kept (fun _ => False) w (W2.setCells q 4 (bv (zs 4))) := hK1.trans (kept_sets W2 q 4 (bv (zs 4))) (fun i hi => .inr (by rw [hi, ← hq]; exact Nat.le_refl _))
  obtain ⟨W3, hW3⟩ : ∃ W3, W2.setCells q 4 (bv (zs 4)) = W3 := ⟨_, rfl⟩
  rw [hW3] at hC2 hP2 hK2
  have HC2 : Hid ((Builtin.clear_ #[98] 0 #[.slice (some ⟨q, 4, none⟩) 4 252]).run Tryz.prog W2 = .ok (.tuple #[]) W3) := hC2
  have HV : Hid (Pg W3 q (lay kd cs) ∧ Kept (fun _ => False) w W3) := ⟨hP2, hK2⟩
  have e0 : (byteAt (lay kd cs) 0 != 0) = true := by simp [lay_kind, hkd]
  have H37 : Hid (∀ V, (Pg V q (lay kd cs) ∧ Kept (fun _ => False) w V) → Calls Tryz.prog 111 #[.pointer (some ⟨q, 0, none⟩)] V fun e w' => e = .returned (.bool true) ∧ Hid (Pg w' q (lay kd cs) ∧ Kept (fun _ => False) w w')) := fun V hV => by
    have := is_is hV.1
    rw [e0] at this
    exact this.mono fun e w1 ⟨q1, m, q2⟩ => ⟨q1, by rw [q2]; exact ⟨hV.1.dr m, hV.2.drewN m⟩⟩
  have H38 : Hid (∀ V, (Pg V q (lay kd cs) ∧ Kept (fun _ => False) w V) → Calls Tryz.prog 120 #[.pointer (some ⟨q, 0, none⟩)] V fun e w' => e = .returned (.string S4) ∧ Hid (Pg w' q (lay kd cs) ∧ Kept (fun _ => False) w w')) := fun V hV => by
    have := psum_is hV.1
    rw [hS4] at this
    exact this.mono fun e w1 ⟨q1, q2⟩ => ⟨q1, hV.1.step q2, hV.2.trans q2 (fun _ z => z.elim)⟩
  have H39 : Hid (∀ V, (Pg V q (lay kd cs) ∧ Kept (fun _ => False) w V) → Calls Tryz.prog 144 #[.pointer (some ⟨q, 0, none⟩)] V fun e w' => e = .returned (.bool true) ∧ Hid (Pg w' q (lay kd cs) ∧ Kept (fun _ => False) w w')) := fun V hV => (sound_yes hV.1 hok hr).mono fun e w1 ⟨q1, m, q2⟩ => ⟨q1, by rw [q2]; exact ⟨hV.1.dr m, hV.2.drewN m⟩⟩
  have hsl1 : ∀ W : World, (Instr.sliceAt 156 (.pointer (some ⟨q, 0, none⟩)) none none none).run Tryz.prog W = .ok (.slice (some ⟨q, 0, none⟩) 256 256) W := fun W => page_all W q
  have hsl2 : ∀ W : World, (Instr.sliceAt 156 (.pointer (some ⟨q, 0, none⟩)) (some (.int .i64 4)) (some (.int .i64 8)) none).run Tryz.prog W = .ok (.slice (some ⟨q, 4, none⟩) 4 252) W := fun W => page_lh W q 4 8 (by omega) (by omega)
  clear hs hok hr hkd hS4 hP0 hK0 hW hq hC1 hP1 hK1 hW2 hC2 hP2 hK2 hW3 e0
  go_enter Tryz.func122, Tryz.ntmps122
  go_upto_region 6 with (first | ((with_reducible apply st_alloc); (case ho => rfl); (case hgd => rfl); (case hr => exact HA.out)) | ((with_reducible apply st_copy); (case ho => rfl); (case hgd => rfl); (case hr => exact HC1.out)) | ((with_reducible apply st_clear); (case ho => rfl); (case hgd => rfl); (case hr => exact HC2.out)))
  have HV0 : Hid (Pg W3.drew q (lay kd cs) ∧ Kept (fun _ => False) w W3.drew) := ⟨⟨HV.out.1.blk, HV.out.1.len⟩, HV.out.2.drew⟩
  clear HV HA HC1 HC2 hsl1 hsl2
  refine wp_region_held_drew (S := (fun (_ : World) => True)) (by kernel_rfl) trivial (fun _ => ?_)
  refine wpAnyH_take (i := 0) (oi := { dst := some 19, op := Op.move (Operand.tmp 4), type := 124, pos := "read.go:13", after := #[], guard := none }) (v := .pointer (some ⟨q, 0, none⟩)) rfl (by kernel_rfl) (by kernel_rfl) (by kernel_rfl) (fun _ _ _ h => h) (Or.inl ⟨by rfl, ?_⟩) trivial ?_
  · intro wx hSw
    first | (go_simp; done) | (go_simp; with_reducible rfl)
  try simp only [Act.put, List.setIfInBounds_toArray, List.set_cons_zero, List.set_cons_succ]
  refine wpAnyH_ready (rs := [1]) (by kernel_rfl) (by simp) ?_
  refine AllReadyH.cons rfl (fun K hK => ?_) AllReadyH.nil
  go_simp
  refine Calls.mono (H37.out _ HV0.out) ?_
  rintro e V1 ⟨rfl, HV1⟩
  clear HV0
  refine hK.out _ _ trivial (fun _ => ?_)
  clear hK K
  try simp only [Act.put, List.setIfInBounds_toArray, List.set_cons_zero, List.set_cons_succ]
  refine wpAnyH_take (i := 2) (oi := { dst := some 21, op := Op.unOp UnOp.not 4 (Operand.tmp 20), type := 4, pos := "read.go:13", after := #[{ on := 1, ground := Ground.data }], guard := none }) (v := .bool false) rfl (by kernel_rfl) (by kernel_rfl) (by kernel_rfl) (fun _ _ _ h => h) (Or.inl ⟨by rfl, ?_⟩) trivial ?_
  · intro wx hSw
    first | (go_simp; done) | (go_simp; with_reducible rfl)
  try simp only [Act.put, List.setIfInBounds_toArray, List.set_cons_zero, List.set_cons_succ]
  refine wpAnyH_take (i := 3) (oi := { dst := some 22, op := Op.move (Operand.tmp 21), type := 4, pos := "read.go:13", after := #[{ on := 2, ground := Ground.data }, { on := 1, ground := Ground.chain }], guard := none }) (v := .bool false) rfl (by kernel_rfl) (by kernel_rfl) (by kernel_rfl) (fun _ _ _ h => h) (Or.inl ⟨by rfl, ?_⟩) trivial ?_
  · intro wx hSw
    first | (go_simp; done) | (go_simp; with_reducible rfl)
  try simp only [Act.put, List.setIfInBounds_toArray, List.set_cons_zero, List.set_cons_succ]
  refine wpAnyH_take (i := 4) (oi := { dst := some 23, op := Op.move (Operand.tmp 0), type := 9, pos := "read.go:13", after := #[{ on := 3, ground := Ground.guard }], guard := some (3, false) }) (v := .string s) rfl (by kernel_rfl) (by kernel_rfl) (by kernel_rfl) (fun _ _ _ h => h) (Or.inl ⟨by rfl, ?_⟩) trivial ?_
  · intro wx hSw
    first | (go_simp; done) | (go_simp; with_reducible rfl)
  try simp only [Act.put, List.setIfInBounds_toArray, List.set_cons_zero, List.set_cons_succ]
  refine wpAnyH_take (i := 5) (oi := { dst := some 24, op := Op.slice 9 (Operand.tmp 23) (some (Operand.const (Value.int IntKind.i64 4))) (some (Operand.const (Value.int IntKind.i64 8))) none, type := 9, pos := "read.go:13", after := #[{ on := 4, ground := Ground.data }, { on := 3, ground := Ground.guard }], guard := some (3, false) }) (v := .string S4) rfl (by kernel_rfl) (by kernel_rfl) (by kernel_rfl) (fun _ _ _ h => h) (Or.inl ⟨by rfl, ?_⟩) trivial ?_
  · intro wx hSw
    first | (go_simp; done) | (go_simp; with_reducible rfl)
  try simp only [Act.put, List.setIfInBounds_toArray, List.set_cons_zero, List.set_cons_succ]
  refine wpAnyH_take (i := 6) (oi := { dst := some 25, op := Op.move (Operand.tmp 4), type := 124, pos := "read.go:13", after := #[{ on := 3, ground := Ground.guard }], guard := some (3, false) }) (v := .pointer (some ⟨q, 0, none⟩)) rfl (by kernel_rfl) (by kernel_rfl) (by kernel_rfl) (fun _ _ _ h => h) (Or.inl ⟨by rfl, ?_⟩) trivial ?_
  · intro wx hSw
    first | (go_simp; done) | (go_simp; with_reducible rfl)
  try simp only [Act.put, List.setIfInBounds_toArray, List.set_cons_zero, List.set_cons_succ]
  refine wpAnyH_ready (rs := [7]) (by kernel_rfl) (by simp) ?_
  refine AllReadyH.cons rfl (fun K hK => ?_) AllReadyH.nil
  go_simp
  refine Calls.mono (H38.out _ HV1.out) ?_
  rintro e V7 ⟨rfl, HV7⟩
  clear HV1
  refine hK.out _ _ trivial (fun _ => ?_)
  clear hK K
  try simp only [Act.put, List.setIfInBounds_toArray, List.set_cons_zero, List.set_cons_succ]
  refine wpAnyH_take (i := 8) (oi := { dst := some 27, op := Op.binOp BinOp.neq 9 (Operand.tmp 24) (Operand.tmp 26) 9, type := 4, pos := "read.go:13", after := #[{ on := 5, ground := Ground.data }, { on := 7, ground := Ground.data }, { on := 3, ground := Ground.guard }], guard := some (3, false) }) (v := .bool false) rfl (by kernel_rfl) (by kernel_rfl) (by kernel_rfl) (fun _ _ _ h => h) (Or.inl ⟨by rfl, ?_⟩) trivial ?_
  · intro wx hSw
    first | (go_simp; done) | (go_simp; with_reducible rfl)
  try simp only [Act.put, List.setIfInBounds_toArray, List.set_cons_zero, List.set_cons_succ]
  refine wpAnyH_take (i := 9) (oi := { dst := some 28, op := Op.pick (Operand.tmp 22) (Operand.const (Value.bool true)) (Operand.tmp 27), type := 4, pos := "read.go:13", after := #[{ on := 3, ground := Ground.data }, { on := 8, ground := Ground.data }], guard := none }) (v := .bool false) rfl (by kernel_rfl) (by kernel_rfl) (by kernel_rfl) (fun _ _ _ h => h) (Or.inl ⟨by rfl, ?_⟩) trivial ?_
  · intro wx hSw
    first | (go_simp; done) | (go_simp; with_reducible rfl)
  try simp only [Act.put, List.setIfInBounds_toArray, List.set_cons_zero, List.set_cons_succ]
  refine wpAnyH_take (i := 10) (oi := { dst := some 29, op := Op.move (Operand.tmp 28), type := 4, pos := "read.go:13", after := #[{ on := 9, ground := Ground.data }, { on := 7, ground := Ground.chain }], guard := none }) (v := .bool false) rfl (by kernel_rfl) (by kernel_rfl) (by kernel_rfl) (fun _ _ _ h => h) (Or.inl ⟨by rfl, ?_⟩) trivial ?_
  · intro wx hSw
    first | (go_simp; done) | (go_simp; with_reducible rfl)
  try simp only [Act.put, List.setIfInBounds_toArray, List.set_cons_zero, List.set_cons_succ]
  refine wpAnyH_take (i := 11) (oi := { dst := some 30, op := Op.move (Operand.tmp 4), type := 124, pos := "read.go:13", after := #[{ on := 10, ground := Ground.guard }], guard := some (10, false) }) (v := .pointer (some ⟨q, 0, none⟩)) rfl (by kernel_rfl) (by kernel_rfl) (by kernel_rfl) (fun _ _ _ h => h) (Or.inl ⟨by rfl, ?_⟩) trivial ?_
  · intro wx hSw
    first | (go_simp; done) | (go_simp; with_reducible rfl)
  try simp only [Act.put, List.setIfInBounds_toArray, List.set_cons_zero, List.set_cons_succ]
  refine wpAnyH_ready (rs := [12]) (by kernel_rfl) (by simp) ?_
  refine AllReadyH.cons rfl (fun K hK => ?_) AllReadyH.nil
  go_simp
  refine Calls.mono (H39.out _ HV7.out) ?_
  rintro e V12 ⟨rfl, HV12⟩
  clear HV7
  refine hK.out _ _ trivial (fun _ => ?_)
  clear hK K
  try simp only [Act.put, List.setIfInBounds_toArray, List.set_cons_zero, List.set_cons_succ]
  refine wpAnyH_take (i := 13) (oi := { dst := some 32, op := Op.unOp UnOp.not 4 (Operand.tmp 31), type := 4, pos := "read.go:13", after := #[{ on := 12, ground := Ground.data }, { on := 10, ground := Ground.guard }], guard := some (10, false) }) (v := .bool false) rfl (by kernel_rfl) (by kernel_rfl) (by kernel_rfl) (fun _ _ _ h => h) (Or.inl ⟨by rfl, ?_⟩) trivial ?_
  · intro wx hSw
    first | (go_simp; done) | (go_simp; with_reducible rfl)
  try simp only [Act.put, List.setIfInBounds_toArray, List.set_cons_zero, List.set_cons_succ]
  refine wpAnyH_take (i := 14) (oi := { dst := some 33, op := Op.pick (Operand.tmp 29) (Operand.const (Value.bool true)) (Operand.tmp 32), type := 4, pos := "read.go:13", after := #[{ on := 10, ground := Ground.data }, { on := 13, ground := Ground.data }], guard := none }) (v := .bool false) rfl (by kernel_rfl) (by kernel_rfl) (by kernel_rfl) (fun _ _ _ h => h) (Or.inl ⟨by rfl, ?_⟩) trivial ?_
  · intro wx hSw
    first | (go_simp; done) | (go_simp; with_reducible rfl)
  try simp only [Act.put, List.setIfInBounds_toArray, List.set_cons_zero, List.set_cons_succ]
  refine wpAnyH_done (by kernel_rfl) ?_ _
  try simp only [Exit.then]
  clear H37 H38 H39
  go_wp2_with fail
  go_ret2
  exact ⟨q, rfl, HV12.out.1, HV12.out.2, HQ.out⟩
end Go.Proofs.YtkhpmmmildcceaaGreat
