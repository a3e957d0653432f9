/- What writes: tally, cut, add, take. -/
import Derived.Test.YtkhpmmmildcceaaGreatQPq
namespace Go.Proofs.YtkhpmmmildcceaaGreat
open Go.ChangeShapes Go.WideShapes Go.ChangeAt Go.RowKit
set_option linter.unusedVariables false
set_option maxRecDepth 100000
set_option maxRecDepth 100000

/-- Bytes, with some of them, from a place on, others. -/
def wr (B : List UInt8) : Nat → List UInt8 → List UInt8
  | _, [] => B
  | o, y :: Y => wr (B.set o y) (o + 1) Y
theorem wr_len (B : List UInt8) (o : Nat) (Y : List UInt8) : (wr B o Y).length = B.length := by
  induction Y generalizing B o with
  | nil => rfl
  | cons y Y ih => show (wr (B.set o y) (o + 1) Y).length = _; rw [ih, List.length_set]
theorem wr_eq (B : List UInt8) (o : Nat) (Y : List UInt8) (h : o + Y.length ≤ B.length) : wr B o Y = B.take o ++ Y ++ B.drop (o + Y.length) := by
  induction Y generalizing B o with
  | nil => show B = _; simp
  | cons y Y ih =>
    show wr (B.set o y) (o + 1) Y = _
    rw [List.length_cons] at h
    rw [ih _ _ (by rw [List.length_set]; omega)]
    have ho : o < B.length := by omega
    have e1 : (B.set o y).take (o + 1) = B.take o ++ [y] := by
      rw [List.take_succ_eq_append_getElem (by rw [List.length_set]; exact ho), List.getElem_set_self]
      congr 1
      rw [List.take_set]
      exact List.set_eq_of_length_le (by rw [List.length_take]; omega)
    rw [e1, List.drop_set_of_lt (by omega)]
    simp [Nat.add_assoc, Nat.add_comm 1]
theorem bv_set (B : List UInt8) (o : Nat) (y : UInt8) : bv (B.set o y) = (bv B).set o (.int .u8 (y.toNat : Int)) := by simp [bv, List.map_set]
theorem Pg.set1 {w : World} {p : Nat} {B : List UInt8} (h : Pg w p B) (o : Nat) (y : UInt8) : Pg (w.setCell ⟨p, o, none⟩ (.int .u8 (y.toNat : Int))) p (B.set o y) := by
  refine ⟨?_, by rw [List.length_set]; exact h.len⟩
  rw [bv_set]
  have hb := h.blk
  simp [World.setCell, Array.getElem?_modify, hb]
theorem Pg.write (Y : List UInt8) : ∀ {w : World} {p : Nat} {B : List UInt8} (o : Nat), Pg w p B → Pg (w.setCells p o (bv Y)) p (wr B o Y) := by
  induction Y with
  | nil => intro w p B o h; exact h
  | cons y Y ih => intro w p B o h; exact ih (o + 1) (h.set1 o y)
theorem kept_set1 (w : World) (p o : Nat) (v : Value) : Kept (fun i => i = p) w (w.setCell ⟨p, o, none⟩ v) := (Kept.refl (fun i => i = p) w).setCell (p := ⟨p, o, none⟩) (.inl rfl) v
theorem kept_sets (w : World) (p o : Nat) (vs : List Value) : Kept (fun i => i = p) w (w.setCells p o vs) := Kept.setCells (F := fun i => i = p) (.inl rfl) vs o w (Kept.refl _ w)
theorem byteAt_val (x : Nat) (hx : x < 256) : ((UInt8.ofNat x).toNat : Int) = (x : Int) := by
  rw [UInt8.toNat_ofNat']
  omega
/-- A page behind tally. -/
def tallyB (B : List UInt8) (c : Nat) : List UInt8 := wr B 1 [UInt8.ofNat c, UInt8.ofNat ((256 - endB B c) % 256), UInt8.ofNat ((256 - endB B c) / 256)]
set_option maxHeartbeats 2000000 in
theorem tally_is {w : World} {p : Nat} {B : List UInt8} (h : Pg w p B) (c : Nat) (hc : 6 + 2 * c < 256) : Calls Tryz.prog 142 #[.pointer (some ⟨p, 0, none⟩), .int .i64 (c : Int)] w fun e w' => e = .returned (.tuple #[]) ∧ Pg w' p (tallyB B c) ∧ Kept (fun i => i = p) w w' := by
  have H43 : Hid (Calls Tryz.prog 115 #[.pointer (some ⟨p, 0, none⟩), .int .i64 (c : Int)] w fun e w' => e = .returned (.int .i64 (endB B c : Int)) ∧ ∃ m, w' = w.drewN m) := end_is h c hc
  have he := endB_le B c
  obtain ⟨u, hu⟩ : ∃ u, 256 - endB B c = u := ⟨_, rfl⟩
  have hu2 : u ≤ 256 := by omega
  have HT : Hid (tallyB B c = wr B 1 [UInt8.ofNat c, UInt8.ofNat (u % 256), UInt8.ofNat (u / 256)]) := by
    show tallyB B c = _
    unfold tallyB
    rw [hu]
  have eu1 : wrap64 (256 - (endB B c : Int)) = (u : Int) := by unfold wrap64; omega
  have eu2 : IntKind.i64.wrap (256 - (endB B c : Int)) = (u : Int) := by rw [IntKind.wrap_i64]; omega
  have eu3 : (256 : Int) - (endB B c : Int) = (u : Int) := by omega
  have HPg : Hid (∀ m, Pg (w.drewN m) p B) := fun m => h.dr m
  have hc8 : (c : Int) % 256 = (c : Int) := by omega
  rw [HT.out]
  clear HT
  generalize endB B c = ee at *
  have hsz : c < 256 := by omega
  clear h hu he
  go_enter Tryz.func142, Tryz.ntmps142
  go_wp2_with fail
  refine Calls.mono H43.out ?_; rintro e w1 ⟨rfl, m1, hw1⟩
  have HP1 : Hid (Pg w1 p B ∧ Kept (fun i => i = p) w w1) := by rw [hw1]; exact ⟨HPg.out m1, (Kept.refl _ _).drewN m1⟩
  have k1 := HP1.out.1.cell 1 (by decide)
  have f1 := HP1.out.1.fz
  clear hw1 H43 HPg
  go_wp2_with fail
  have hP2 := HP1.out.1.set1 1 (UInt8.ofNat c)
  rw [byteAt_val c hsz] at hP2
  obtain ⟨W2, hW2⟩ : ∃ W2, w1.setCell ⟨p, 1, none⟩ (.int .u8 (c : Int)) = W2 := ⟨_, rfl⟩
  have hk2 : Kept (fun i => i = p) w W2 := by rw [← hW2]; exact HP1.out.2.trans (kept_set1 w1 p 1 _) (fun _ z => .inl z)
  rw [hW2] at hP2 ⊢
  have HP2 : Hid (Pg W2 p (B.set 1 (UInt8.ofNat c)) ∧ Kept (fun i => i = p) w W2) := ⟨hP2, hk2⟩
  have k2 := hP2.cell 2 (by decide)
  have k3 := hP2.cell 3 (by decide)
  have f2 := hP2.fz
  have e8 : IntKind.u8.wrap (u : Int) = ((u % 256 : Nat) : Int) := by rw [IntKind.wrap_u8]; omega
  have e9 : (u : Int) / 256 = ((u / 256 : Nat) : Int) := by omega
  have e10 : IntKind.u8.wrap ((u / 256 : Nat) : Int) = ((u / 256 : Nat) : Int) := by rw [IntKind.wrap_u8]; omega
  clear k1 f1 HP1 hP2 hk2 hW2
  obtain ⟨ul, hul⟩ : ∃ ul, u % 256 = ul := ⟨_, rfl⟩
  obtain ⟨uh, huh⟩ : ∃ uh, u / 256 = uh := ⟨_, rfl⟩
  rw [hul] at e8
  rw [huh] at e9 e10
  have HU : Hid (u % 256 = ul ∧ u / 256 = uh ∧ ul < 256 ∧ uh < 256) := ⟨hul, huh, by omega, by omega⟩
  clear hul huh
  refine wp_region_held_drew (S := (fun (_ : World) => True)) (by kernel_rfl) trivial (fun _ => ?_)
  refine wpAnyH_take (i := 0) (oi := { dst := some 15, op := Op.move (Operand.tmp 0), type := 124, pos := "change.go:111", after := #[], guard := none }) (v := .pointer (some ⟨p, 0, none⟩)) rfl (by kernel_rfl) (by kernel_rfl) (by kernel_rfl) (fun _ _ _ h => h) (Or.inl ⟨by rfl, ?_⟩) trivial ?_
  · intro wx hSw
    first | (go_simp; done) | (go_simp; with_reducible rfl)
  try simp only [Act.put, List.setIfInBounds_toArray, List.set_cons_zero, List.set_cons_succ]
  refine wpAnyH_take (i := 1) (oi := { dst := some 16, op := Op.move (Operand.tmp 0), type := 124, pos := "change.go:111", after := #[{ on := 10, ground := Ground.gcOnly Departure.lateStores }], guard := none }) (v := .pointer (some ⟨p, 0, none⟩)) rfl (by kernel_rfl) (by kernel_rfl) (by kernel_rfl) (fun _ _ _ h => h) (Or.inl ⟨by rfl, ?_⟩) trivial ?_
  · intro wx hSw
    first | (go_simp; done) | (go_simp; with_reducible rfl)
  try simp only [Act.put, List.setIfInBounds_toArray, List.set_cons_zero, List.set_cons_succ]
  refine wpAnyH_take (i := 2) (oi := { dst := some 17, op := Op.move (Operand.tmp 4), type := 3, pos := "change.go:111", after := #[], guard := none }) (v := .int .i64 (u : Int)) rfl (by kernel_rfl) (by kernel_rfl) (by kernel_rfl) (fun _ _ _ h => h) (Or.inl ⟨by rfl, ?_⟩) trivial ?_
  · intro wx hSw
    first | (go_simp; done) | (go_simp; with_reducible rfl)
  try simp only [Act.put, List.setIfInBounds_toArray, List.set_cons_zero, List.set_cons_succ]
  refine wpAnyH_take (i := 3) (oi := { dst := some 18, op := Op.convert 3 5 (Operand.tmp 17), type := 5, pos := "change.go:111", after := #[{ on := 2, ground := Ground.data }], guard := none }) (v := .int .u8 (ul : Int)) rfl (by kernel_rfl) (by kernel_rfl) (by kernel_rfl) (fun _ _ _ h => h) (Or.inl ⟨by rfl, ?_⟩) trivial ?_
  · intro wx hSw
    first | (go_simp; done) | (go_simp; with_reducible rfl)
  try simp only [Act.put, List.setIfInBounds_toArray, List.set_cons_zero, List.set_cons_succ]
  refine wpAnyH_take (i := 4) (oi := { dst := some 19, op := Op.move (Operand.tmp 4), type := 3, pos := "change.go:111", after := #[{ on := 10, ground := Ground.gcOnly Departure.lateStores }], guard := none }) (v := .int .i64 (u : Int)) rfl (by kernel_rfl) (by kernel_rfl) (by kernel_rfl) (fun _ _ _ h => h) (Or.inl ⟨by rfl, ?_⟩) trivial ?_
  · intro wx hSw
    first | (go_simp; done) | (go_simp; with_reducible rfl)
  try simp only [Act.put, List.setIfInBounds_toArray, List.set_cons_zero, List.set_cons_succ]
  refine wpAnyH_take (i := 5) (oi := { dst := some 20, op := Op.binOp BinOp.shr 3 (Operand.tmp 19) (Operand.const (Value.int IntKind.u64 8)) 57, type := 3, pos := "change.go:111", after := #[{ on := 4, ground := Ground.data }, { on := 10, ground := Ground.gcOnly Departure.lateStores }], guard := none }) (v := .int .i64 (uh : Int)) rfl (by kernel_rfl) (by kernel_rfl) (by kernel_rfl) (fun _ _ _ h => h) (Or.inl ⟨by rfl, ?_⟩) trivial ?_
  · intro wx hSw
    first | (go_simp; done) | (go_simp; with_reducible rfl)
  try simp only [Act.put, List.setIfInBounds_toArray, List.set_cons_zero, List.set_cons_succ]
  refine wpAnyH_take (i := 6) (oi := { dst := some 21, op := Op.convert 3 5 (Operand.tmp 20), type := 5, pos := "change.go:111", after := #[{ on := 5, ground := Ground.data }, { on := 10, ground := Ground.gcOnly Departure.lateStores }], guard := none }) (v := .int .u8 (uh : Int)) rfl (by kernel_rfl) (by kernel_rfl) (by kernel_rfl) (fun _ _ _ h => h) (Or.inl ⟨by rfl, ?_⟩) trivial ?_
  · intro wx hSw
    first | (go_simp; done) | (go_simp; with_reducible rfl)
  try simp only [Act.put, List.setIfInBounds_toArray, List.set_cons_zero, List.set_cons_succ]
  refine wpAnyH_take (i := 7) (oi := { dst := some 22, op := Op.nilCheck (Operand.tmp 15), type := 0, pos := "change.go:111", after := #[{ on := 0, ground := Ground.data }], guard := none }) (v := .pointer (some ⟨p, 0, none⟩)) rfl (by kernel_rfl) (by kernel_rfl) (by kernel_rfl) (fun _ _ _ h => h) (Or.inl ⟨by rfl, ?_⟩) trivial ?_
  · intro wx hSw
    first | (go_simp; done) | (go_simp; with_reducible rfl)
  try simp only [Act.put, List.setIfInBounds_toArray, List.set_cons_zero, List.set_cons_succ]
  refine wpAnyH_take (i := 8) (oi := { dst := some 23, op := Op.fieldAddr 158 (Operand.tmp 22) 0, type := 0, pos := "change.go:111", after := #[{ on := 7, ground := Ground.data }], guard := none }) (v := .pointer (some ⟨p, 0, none⟩)) rfl (by kernel_rfl) (by kernel_rfl) (by kernel_rfl) (fun _ _ _ h => h) (Or.inl ⟨by rfl, ?_⟩) trivial ?_
  · intro wx hSw
    first | (go_simp; done) | (go_simp; with_reducible rfl)
  try simp only [Act.put, List.setIfInBounds_toArray, List.set_cons_zero, List.set_cons_succ]
  refine wpAnyH_take (i := 9) (oi := { dst := some 24, op := Op.indexAddr 156 (Operand.tmp 23) (Operand.const (Value.int IntKind.i64 2)), type := 0, pos := "change.go:111", after := #[{ on := 8, ground := Ground.data }, { on := 0, ground := Ground.phase }, { on := 1, ground := Ground.textOnly Departure.lateStores }, { on := 2, ground := Ground.phase }, { on := 3, ground := Ground.phase }, { on := 4, ground := Ground.textOnly Departure.lateStores }, { on := 5, ground := Ground.textOnly Departure.lateStores }, { on := 6, ground := Ground.textOnly Departure.lateStores }], guard := none }) (v := .pointer (some ⟨p, 2, none⟩)) rfl (by kernel_rfl) (by kernel_rfl) (by kernel_rfl) (fun _ _ _ h => h) (Or.inl ⟨by rfl, ?_⟩) trivial ?_
  · intro wx hSw
    first | (go_simp; done) | (go_simp; with_reducible rfl)
  try simp only [Act.put, List.setIfInBounds_toArray, List.set_cons_zero, List.set_cons_succ]
  refine wpAnyH_take (i := 11) (oi := { dst := some 25, op := Op.nilCheck (Operand.tmp 16), type := 0, pos := "change.go:111", after := #[{ on := 1, ground := Ground.data }], guard := none }) (v := .pointer (some ⟨p, 0, none⟩)) rfl (by kernel_rfl) (by kernel_rfl) (by kernel_rfl) (fun _ _ _ h => h) (Or.inl ⟨by rfl, ?_⟩) trivial ?_
  · intro wx hSw
    first | (go_simp; done) | (go_simp; with_reducible rfl)
  try simp only [Act.put, List.setIfInBounds_toArray, List.set_cons_zero, List.set_cons_succ]
  refine wpAnyH_take (i := 12) (oi := { dst := some 26, op := Op.fieldAddr 158 (Operand.tmp 25) 0, type := 0, pos := "change.go:111", after := #[{ on := 11, ground := Ground.data }], guard := none }) (v := .pointer (some ⟨p, 0, none⟩)) rfl (by kernel_rfl) (by kernel_rfl) (by kernel_rfl) (fun _ _ _ h => h) (Or.inl ⟨by rfl, ?_⟩) trivial ?_
  · intro wx hSw
    first | (go_simp; done) | (go_simp; with_reducible rfl)
  try simp only [Act.put, List.setIfInBounds_toArray, List.set_cons_zero, List.set_cons_succ]
  refine wpAnyH_ready (rs := [10]) (by kernel_rfl) (by simp) ?_
  refine AllReadyH.cons rfl (fun K hK => ?_) AllReadyH.nil
  go_simp
  refine hK.out _ _ trivial (fun _ => ?_)
  clear hK K
  try simp only [Act.put, List.setIfInBounds_toArray, List.set_cons_zero, List.set_cons_succ]
  refine wpAnyH_take (i := 13) (oi := { dst := some 27, op := Op.indexAddr 156 (Operand.tmp 26) (Operand.const (Value.int IntKind.i64 3)), type := 0, pos := "change.go:111", after := #[{ on := 12, ground := Ground.data }, { on := 0, ground := Ground.phase }, { on := 1, ground := Ground.phase }, { on := 2, ground := Ground.phase }, { on := 3, ground := Ground.phase }, { on := 4, ground := Ground.phase }, { on := 5, ground := Ground.phase }, { on := 6, ground := Ground.phase }, { on := 7, ground := Ground.phase }, { on := 8, ground := Ground.phase }, { on := 9, ground := Ground.phase }, { on := 10, ground := Ground.phase }], guard := none }) (v := .pointer (some ⟨p, 3, none⟩)) rfl (by kernel_rfl) (by kernel_rfl) (by kernel_rfl) (fun _ _ _ h => h) (Or.inl ⟨by rfl, ?_⟩) trivial ?_
  · intro wx hSw
    first | (go_simp; done) | (go_simp; with_reducible rfl)
  try simp only [Act.put, List.setIfInBounds_toArray, List.set_cons_zero, List.set_cons_succ]
  refine wpAnyH_ready (rs := [14]) (by kernel_rfl) (by simp) ?_
  refine AllReadyH.cons rfl (fun K hK => ?_) AllReadyH.nil
  go_simp
  refine hK.out _ _ trivial (fun _ => ?_)
  clear hK K
  try simp only [Act.put, List.setIfInBounds_toArray, List.set_cons_zero, List.set_cons_succ]
  refine wpAnyH_done (by kernel_rfl) ?_ _
  try simp only [Exit.then]
  have hF := ((HP2.out.1.set1 2 (UInt8.ofNat ul)).set1 3 (UInt8.ofNat uh))
  rw [byteAt_val ul HU.out.2.2.1, byteAt_val uh HU.out.2.2.2] at hF
  have HF : Hid (Pg (((W2.drew.setCell ⟨p, 2, none⟩ (.int .u8 (ul : Int)))).setCell ⟨p, 3, none⟩ (.int .u8 (uh : Int))) p (((B.set 1 (UInt8.ofNat c)).set 2 (UInt8.ofNat ul)).set 3 (UInt8.ofNat uh)) ∧ Kept (fun i => i = p) w (((W2.drew.setCell ⟨p, 2, none⟩ (.int .u8 (ul : Int)))).setCell ⟨p, 3, none⟩ (.int .u8 (uh : Int)))) := ⟨⟨hF.blk, hF.len⟩, (HP2.out.2.drew.trans (kept_set1 _ p 2 _) (fun _ z => .inl z)).trans (kept_set1 _ p 3 _) (fun _ z => .inl z)⟩
  clear hF HP2
  go_wp2_with fail
  go_end0
  refine ⟨rfl, ?_, HF.out.2⟩
  rw [HU.out.1, HU.out.2.1]
  exact HF.out.1
end Go.Proofs.YtkhpmmmildcceaaGreat
