/- What writes: add. -/
import Derived.Test.YtkhpmmmildcceaaGreatQPx
import Derived.Deep.RegionLaw
import Derived.StillTailTactics
import Derived.Deep.Cut
namespace Go.Proofs.YtkhpmmmildcceaaGreat
open Go.ChangeShapes Go.WideShapes Go.ChangeAt Go.RowKit
set_option linter.unusedVariables false
set_option maxRecDepth 100000
set_option maxRecDepth 100000

section
variable {P : Program} {ops : Array Oper} {rest : List Oper} {o : Oper} {a : Act} {w w' : World} {Q : Exit → Act → World → Prop} {K : Act → World → Prop} {E : Prop} {v : Value}

end
theorem sub64 (a b c : Nat) (h : c + b = a) (ha : a ≤ 256) : wrap64 ((a : Int) - (b : Int)) = (c : Int) := by unfold wrap64; omega
theorem add64 (a b c : Nat) (hc : a + b = c) (ha : c ≤ 100000) : wrap64 ((a : Int) + (b : Int)) = (c : Int) := by unfold wrap64; omega
theorem addi64 (a b c : Nat) (hc : a + b = c) (ha : c ≤ 100000) : IntKind.i64.wrap ((a : Int) + (b : Int)) = (c : Int) := by rw [IntKind.wrap_i64]; omega
theorem wrap8 (a : Nat) (h : a < 256) : IntKind.u8.wrap (a : Int) = (a : Int) := by rw [IntKind.wrap_u8]; omega
theorem num1 {n n1 : Nat} (h : n + 1 = n1) (k : 6 + 2 * n1 < 256) : 6 + 2 * n < 256 := by omega
theorem num2 {a b : Nat} (h : a + 1 = b) (k : b < 256) : a < 256 := by omega
theorem num3 {n n1 : Nat} (h : n + 1 = n1) (k : 6 + 2 * n1 < 256) : n ≤ 1000000 := by omega
theorem num4 {b kl bk vl en : Nat} (h : b + kl = bk) (k : bk + vl = en) (j : en ≤ 256) : b + kl ≤ 256 := by omega
theorem num5 {bk vl en : Nat} (k : bk + vl = en) (j : en ≤ 256) : bk ≤ 256 := by omega
theorem num6 {a b c : Nat} (h : a + b = c) : b = c - a := by omega
theorem num7 {a b c : Nat} (h : a + b = c) : a ≤ c := by omega
theorem num8 {n1 : Nat} (k : 6 + 2 * n1 < 256) : n1 ≤ 100000 := by omega
theorem num9 {a : Nat} (h : a < 256) : (a : Int) < 256 := by omega
theorem copy_text {w : World} {p : Nat} {B : List UInt8} (h : Pg w p B) (ty : TypeId) (lo c : Nat) (s : ByteArray) (h1 : lo + s.size ≤ 256) : (Builtin.copy_ #[98, 9] ty #[.slice (some ⟨p, offB lo, none⟩) (256 - lo) c, .string s]).run Tryz.prog w = .ok (goInt s.size) (w.setCells p (offB lo) (bv s.data.toList)) := by
  have ho : offB lo + s.size ≤ 256 := by
    unfold offB
    split <;> omega
  exact run_copy_string (P := Tryz.prog) w 98 9 ty 5 p (offB lo) (256 - lo) c s Tryz.underlying98 (fun w => size5 w) (by omega) (fun j hj => by rw [h.cell (offB lo + j) (by omega)]; rfl) (fun j _ => h.fz _)
theorem wr_two (X : List UInt8) (o : Nat) (a b : UInt8) : wr X o [a, b] = (X.set o a).set (o + 1) b := rfl
set_option maxHeartbeats 4000000 in
theorem add_core {w : World} {p : Nat} {B : List UInt8} (h : Pg w p B) (n n1 pn pm kl vl b bk ek en : Nat) (hn : byteAt B 1 = n) (key val : ByteArray) (hkl : key.size = kl) (hvl : val.size = vl) (hen : endB B n = en) (e1 : b + kl = bk) (e2 : bk + vl = en) (e3 : en ≤ 256) (e4 : b < 256) (e5 : kl < 256) (e6 : 8 + 2 * n = pn) (e7 : pn + 1 = pm) (e8 : pm < 256) (e9 : n + 1 = n1) (e10 : 6 + 2 * n1 < 256) (e11 : ek + kl = en) (e12 : b + vl = ek) : Calls Tryz.prog 118 #[.pointer (some ⟨p, 0, none⟩), .string key, .string val] w fun e w' => e = .returned (.tuple #[]) ∧ Pg w' p (tallyB (wr (wr (wr B b key.data.toList) bk val.data.toList) pn [UInt8.ofNat b, UInt8.ofNat kl]) n1) ∧ Kept (fun i => i = p) w w' := by
  have H19 : Hid (Calls Tryz.prog 123 #[.pointer (some ⟨p, 0, none⟩)] w fun e w' => e = .returned (.int .i64 (n : Int)) ∧ ∃ m, w' = w.drewN m) := by have := len_is h; rw [hn] at this; exact this
  have H43 : Hid (∀ W, Pg W p B → Calls Tryz.prog 115 #[.pointer (some ⟨p, 0, none⟩), .int .i64 (n : Int)] W fun e w' => e = .returned (.int .i64 (en : Int)) ∧ ∃ j, w' = W.drewN j) := fun W hW => by have := end_is hW n (num1 e9 e10); rw [hen] at this; exact this
  have HPw : Hid (Pg w p B) := h
  have lk : key.data.toList.length = kl := by rw [← hkl]; simp
  have lv : val.data.toList.length = vl := by rw [← hvl]; simp
  have HB : Hid (b < 256 ∧ kl < 256 ∧ pn < 256 ∧ pm < 256 ∧ pn + 1 = pm) := ⟨e4, e5, num2 e7 e8, e8, e7⟩
  have HPL : Hid (∀ (W : World) (_ : ∃ D, Pg W p D), Calls Tryz.prog 141 #[.int .i64 (n : Int)] W fun e w' => e = .returned (.int .i64 (pn : Int)) ∧ ∃ j, w' = W.drewN j) := fun W _ => by have := placeOf_is n (num3 e9 e10) W; rw [e6] at this; exact this
  have HTL : Hid (∀ W D, Pg W p D → Calls Tryz.prog 142 #[.pointer (some ⟨p, 0, none⟩), .int .i64 (n1 : Int)] W fun e w' => e = .returned (.tuple #[]) ∧ Pg w' p (tallyB D n1) ∧ Kept (fun i => i = p) W w') := fun W D hW => tally_is hW n1 e10
  have HC1 : Hid (∀ W, Pg W p B → (Builtin.copy_ #[98, 9] 3 #[.slice (some ⟨p, offB b, none⟩) (256 - b) (256 - b), .string key]).run Tryz.prog W = .ok (goInt kl) (W.setCells p (offB b) (bv key.data.toList))) := fun W hW => by have := copy_text hW 3 b (256 - b) key (by rw [hkl]; exact num4 e1 e2 e3); rw [hkl] at this; exact this
  have HC2 : Hid (∀ W D, Pg W p D → (Builtin.copy_ #[98, 9] 3 #[.slice (some ⟨p, offB bk, none⟩) (256 - bk) (256 - bk), .string val]).run Tryz.prog W = .ok (goInt vl) (W.setCells p (offB bk) (bv val.data.toList))) := fun W D hW => by have := copy_text hW 3 bk (256 - bk) val (by rw [hvl, e2]; exact e3); rw [hvl] at this; exact this
  have hsl1 : ∀ W : World, (Instr.sliceAt 156 (.pointer (some ⟨p, 0, none⟩)) (some (.int .i64 (b : Int))) none none).run Tryz.prog W = .ok (.slice (some ⟨p, offB b, none⟩) (256 - b) (256 - b)) W := fun W => page_l W p b (Nat.le_of_lt e4)
  have hsl2 : ∀ W : World, (Instr.sliceAt 156 (.pointer (some ⟨p, 0, none⟩)) (some (.int .i64 (bk : Int))) none none).run Tryz.prog W = .ok (.slice (some ⟨p, offB bk, none⟩) (256 - bk) (256 - bk)) W := fun W => page_l W p bk (num5 e2 e3)
  have HW1 : Hid (∀ W, Pg W p B → Pg (W.setCells p (offB b) (bv key.data.toList)) p (wr B b key.data.toList)) := fun W hW => hW.writeO b bk _ (by rw [lk]; exact num6 e1) (num7 e1) (num5 e2 e3)
  have HW2 : Hid (∀ W D, Pg W p D → Pg (W.setCells p (offB bk) (bv val.data.toList)) p (wr D bk val.data.toList)) := fun W D hW => hW.writeO bk en _ (by rw [lv]; exact num6 e2) (num7 e2) e3
  have s1 : wrap64 ((en : Int) - (kl : Int)) = (ek : Int) := sub64 en kl ek e11 e3
  have s2 : wrap64 ((ek : Int) - (vl : Int)) = (b : Int) := sub64 ek vl b e12 (num5 e11 e3)
  have s3 : wrap64 ((b : Int) + (kl : Int)) = (bk : Int) := add64 b kl bk e1 (Nat.le_trans (num5 e2 e3) (by decide))
  have s4 : IntKind.u8.wrap (b : Int) = (b : Int) := wrap8 b e4
  have s5 : IntKind.u8.wrap (kl : Int) = (kl : Int) := wrap8 kl e5
  have s6 : IntKind.i64.wrap ((pn : Int) + 1) = (pm : Int) := addi64 pn 1 pm e7 (Nat.le_trans (Nat.le_of_lt e8) (by decide))
  have s7 : wrap64 ((n : Int) + 1) = (n1 : Int) := add64 n 1 n1 e9 (num8 e10)
  have s8 : (pm : Int) < 256 := num9 e8
  have s9 : (pn : Int) < 256 := num9 (num2 e7 e8)
  clear h hen hn e1 e2 e3 e4 e5 e6 e7 e8 e9 e10 e11 e12 lk lv
  go_enter Tryz.func118, Tryz.ntmps118
  go_wp2_with fail
  refine Calls.mono H19.out ?_; rintro e w1 ⟨rfl, m1, hw1⟩
  have HP1 : Hid (Pg w1 p B ∧ Kept (fun i => i = p) w w1) := by rw [hw1]; exact ⟨HPw.out.dr m1, (Kept.refl _ _).drewN m1⟩
  clear hw1 H19 HPw
  go_wp2_with fail
  refine Calls.mono (H43.out _ HP1.out.1) ?_; rintro e w2 ⟨rfl, m2, hw2⟩
  have HP2 : Hid (Pg w2 p B ∧ Kept (fun i => i = p) w w2) := by rw [hw2]; exact ⟨HP1.out.1.dr m2, HP1.out.2.drewN m2⟩
  clear hw2 H43 HP1
  have HCA : Hid ((Builtin.copy_ #[98, 9] 3 #[.slice (some ⟨p, offB b, none⟩) (256 - b) (256 - b), .string key]).run Tryz.prog w2 = .ok (goInt kl) (w2.setCells p (offB b) (bv key.data.toList))) := HC1.out _ HP2.out.1
  go_upto_region 3 with ((with_reducible apply st_copy); (case ho => rfl); (case hgd => rfl); (case hr => exact HCA.out))
  have hQ1 := HW1.out _ HP2.out.1
  have hK1 := HP2.out.2.trans (kept_sets w2 p (offB b) (bv key.data.toList)) (fun _ z => .inl z)
  obtain ⟨U1, hU1⟩ : ∃ U, w2.setCells p (offB b) (bv key.data.toList) = U := ⟨_, rfl⟩
  rw [hU1] at hQ1 hK1 ⊢
  have HQ1 : Hid (Pg U1 p (wr B b key.data.toList) ∧ Kept (fun i => i = p) w U1) := ⟨hQ1, hK1⟩
  have HCB : Hid ((Builtin.copy_ #[98, 9] 3 #[.slice (some ⟨p, offB bk, none⟩) (256 - bk) (256 - bk), .string val]).run Tryz.prog U1 = .ok (goInt vl) (U1.setCells p (offB bk) (bv val.data.toList))) := HC2.out _ _ HQ1.out.1
  clear hQ1 hK1 hU1 HCA HP2 HC1 HW1
  go_upto_region 4 with ((with_reducible apply st_copy); (case ho => rfl); (case hgd => rfl); (case hr => exact HCB.out))
  have hQ2 := HW2.out _ _ HQ1.out.1
  have hK2 := HQ1.out.2.trans (kept_sets U1 p (offB bk) (bv val.data.toList)) (fun _ z => .inl z)
  obtain ⟨U2, hU2⟩ : ∃ U, U1.setCells p (offB bk) (bv val.data.toList) = U := ⟨_, rfl⟩
  obtain ⟨B3, hB3⟩ : ∃ B3, wr (wr B b key.data.toList) bk val.data.toList = B3 := ⟨_, rfl⟩
  rw [hB3] at hQ2
  rw [hU2] at hQ2 hK2 ⊢
  have HB3 : Hid (wr (wr B b key.data.toList) bk val.data.toList = B3) := hB3
  have HU0 : Hid (Pg U2.drew p B3 ∧ Kept (fun i => i = p) w U2.drew) := ⟨⟨hQ2.blk, hQ2.len⟩, hK2.drew⟩
  have HPL' : Hid (∀ W, Pg W p B3 → Calls Tryz.prog 141 #[.int .i64 (n : Int)] W fun e w' => e = .returned (.int .i64 (pn : Int)) ∧ ∃ j, w' = W.drewN j) := fun W hW => HPL.out W ⟨_, hW⟩
  clear hQ2 hK2 hU2 hB3 HQ1 HCB HC2 HW2 HPL
  refine wp_region_held_drew (S := (fun (_ : World) => True)) (by kernel_rfl) trivial (fun _ => ?_)
  refine wpAnyH_take (i := 0) (oi := { dst := some 36, op := Op.move (Operand.tmp 0), type := 124, pos := "change.go:89", after := #[], guard := none }) (v := .pointer (some ⟨p, 0, none⟩)) rfl (by kernel_rfl) (by kernel_rfl) (by kernel_rfl) (fun _ _ _ h => h) (Or.inl ⟨by rfl, ?_⟩) trivial ?_
  · intro wx hSw
    first | (go_simp; done) | (go_simp; with_reducible rfl)
  try simp only [Act.put, List.setIfInBounds_toArray, List.set_cons_zero, List.set_cons_succ]
  refine wpAnyH_take (i := 1) (oi := { dst := some 37, op := Op.move (Operand.tmp 6), type := 3, pos := "change.go:89", after := #[], guard := none }) (v := .int .i64 (n : Int)) rfl (by kernel_rfl) (by kernel_rfl) (by kernel_rfl) (fun _ _ _ h => h) (Or.inl ⟨by rfl, ?_⟩) trivial ?_
  · intro wx hSw
    first | (go_simp; done) | (go_simp; with_reducible rfl)
  try simp only [Act.put, List.setIfInBounds_toArray, List.set_cons_zero, List.set_cons_succ]
  refine wpAnyH_take (i := 3) (oi := { dst := some 39, op := Op.move (Operand.tmp 0), type := 124, pos := "change.go:89", after := #[{ on := 15, ground := Ground.gcOnly Departure.lateStores }], guard := none }) (v := .pointer (some ⟨p, 0, none⟩)) rfl (by kernel_rfl) (by kernel_rfl) (by kernel_rfl) (fun _ _ _ h => h) (Or.inl ⟨by rfl, ?_⟩) trivial ?_
  · intro wx hSw
    first | (go_simp; done) | (go_simp; with_reducible rfl)
  try simp only [Act.put, List.setIfInBounds_toArray, List.set_cons_zero, List.set_cons_succ]
  refine wpAnyH_take (i := 4) (oi := { dst := some 40, op := Op.move (Operand.tmp 6), type := 3, pos := "change.go:89", after := #[], guard := none }) (v := .int .i64 (n : Int)) rfl (by kernel_rfl) (by kernel_rfl) (by kernel_rfl) (fun _ _ _ h => h) (Or.inl ⟨by rfl, ?_⟩) trivial ?_
  · intro wx hSw
    first | (go_simp; done) | (go_simp; with_reducible rfl)
  try simp only [Act.put, List.setIfInBounds_toArray, List.set_cons_zero, List.set_cons_succ]
  refine wpAnyH_take (i := 7) (oi := { dst := some 43, op := Op.move (Operand.tmp 7), type := 3, pos := "change.go:89", after := #[], guard := none }) (v := .int .i64 (b : Int)) rfl (by kernel_rfl) (by kernel_rfl) (by kernel_rfl) (fun _ _ _ h => h) (Or.inl ⟨by rfl, ?_⟩) trivial ?_
  · intro wx hSw
    first | (go_simp; done) | (go_simp; with_reducible rfl)
  try simp only [Act.put, List.setIfInBounds_toArray, List.set_cons_zero, List.set_cons_succ]
  refine wpAnyH_take (i := 8) (oi := { dst := some 44, op := Op.convert 3 5 (Operand.tmp 43), type := 5, pos := "change.go:89", after := #[{ on := 7, ground := Ground.data }], guard := none }) (v := .int .u8 (b : Int)) rfl (by kernel_rfl) (by kernel_rfl) (by kernel_rfl) (fun _ _ _ h => h) (Or.inl ⟨by rfl, ?_⟩) trivial ?_
  · intro wx hSw
    first | (go_simp; done) | (go_simp; with_reducible rfl)
  try simp only [Act.put, List.setIfInBounds_toArray, List.set_cons_zero, List.set_cons_succ]
  refine wpAnyH_take (i := 9) (oi := { dst := some 45, op := Op.move (Operand.tmp 1), type := 9, pos := "change.go:89", after := #[], guard := none }) (v := .string key) rfl (by kernel_rfl) (by kernel_rfl) (by kernel_rfl) (fun _ _ _ h => h) (Or.inl ⟨by rfl, ?_⟩) trivial ?_
  · intro wx hSw
    first | (go_simp; done) | (go_simp; with_reducible rfl)
  try simp only [Act.put, List.setIfInBounds_toArray, List.set_cons_zero, List.set_cons_succ]
  refine wpAnyH_take (i := 10) (oi := { dst := some 46, op := Op.call { callee := Callee.builtin Builtin.len, args := #[Operand.tmp 45], argTypes := #[9] }, type := 3, pos := "change.go:89", after := #[{ on := 9, ground := Ground.data }], guard := none }) (v := .int .i64 (kl : Int)) rfl (by kernel_rfl) (by kernel_rfl) (by kernel_rfl) (fun _ _ _ h => h) (Or.inl ⟨by rfl, ?_⟩) trivial ?_
  · intro wx hSw
    first | (go_simp; done) | (go_simp; with_reducible rfl)
  try simp only [Act.put, List.setIfInBounds_toArray, List.set_cons_zero, List.set_cons_succ]
  refine wpAnyH_take (i := 11) (oi := { dst := some 47, op := Op.convert 3 5 (Operand.tmp 46), type := 5, pos := "change.go:89", after := #[{ on := 10, ground := Ground.data }, { on := 15, ground := Ground.gcOnly Departure.lateStores }], guard := none }) (v := .int .u8 (kl : Int)) rfl (by kernel_rfl) (by kernel_rfl) (by kernel_rfl) (fun _ _ _ h => h) (Or.inl ⟨by rfl, ?_⟩) trivial ?_
  · intro wx hSw
    first | (go_simp; done) | (go_simp; with_reducible rfl)
  try simp only [Act.put, List.setIfInBounds_toArray, List.set_cons_zero, List.set_cons_succ]
  refine wpAnyH_take (i := 12) (oi := { dst := some 48, op := Op.nilCheck (Operand.tmp 36), type := 0, pos := "change.go:89", after := #[{ on := 0, ground := Ground.data }], guard := none }) (v := .pointer (some ⟨p, 0, none⟩)) rfl (by kernel_rfl) (by kernel_rfl) (by kernel_rfl) (fun _ _ _ h => h) (Or.inl ⟨by rfl, ?_⟩) trivial ?_
  · intro wx hSw
    first | (go_simp; done) | (go_simp; with_reducible rfl)
  try simp only [Act.put, List.setIfInBounds_toArray, List.set_cons_zero, List.set_cons_succ]
  refine wpAnyH_take (i := 13) (oi := { dst := some 49, op := Op.fieldAddr 158 (Operand.tmp 48) 0, type := 0, pos := "change.go:89", after := #[{ on := 12, ground := Ground.data }], guard := none }) (v := .pointer (some ⟨p, 0, none⟩)) rfl (by kernel_rfl) (by kernel_rfl) (by kernel_rfl) (fun _ _ _ h => h) (Or.inl ⟨by rfl, ?_⟩) trivial ?_
  · intro wx hSw
    first | (go_simp; done) | (go_simp; with_reducible rfl)
  try simp only [Act.put, List.setIfInBounds_toArray, List.set_cons_zero, List.set_cons_succ]
  refine wpAnyH_take (i := 16) (oi := { dst := some 51, op := Op.nilCheck (Operand.tmp 39), type := 0, pos := "change.go:89", after := #[{ on := 3, ground := Ground.data }], guard := none }) (v := .pointer (some ⟨p, 0, none⟩)) rfl (by kernel_rfl) (by kernel_rfl) (by kernel_rfl) (fun _ _ _ h => h) (Or.inl ⟨by rfl, ?_⟩) trivial ?_
  · intro wx hSw
    first | (go_simp; done) | (go_simp; with_reducible rfl)
  try simp only [Act.put, List.setIfInBounds_toArray, List.set_cons_zero, List.set_cons_succ]
  refine wpAnyH_take (i := 17) (oi := { dst := some 52, op := Op.fieldAddr 158 (Operand.tmp 51) 0, type := 0, pos := "change.go:89", after := #[{ on := 16, ground := Ground.data }], guard := none }) (v := .pointer (some ⟨p, 0, none⟩)) rfl (by kernel_rfl) (by kernel_rfl) (by kernel_rfl) (fun _ _ _ h => h) (Or.inl ⟨by rfl, ?_⟩) trivial ?_
  · intro wx hSw
    first | (go_simp; done) | (go_simp; with_reducible rfl)
  try simp only [Act.put, List.setIfInBounds_toArray, List.set_cons_zero, List.set_cons_succ]
  refine wpAnyH_ready (rs := [2]) (by kernel_rfl) (by simp) ?_
  refine AllReadyH.cons rfl (fun K hK => ?_) AllReadyH.nil
  go_simp
  refine Calls.mono (HPL'.out _ HU0.out.1) ?_
  rintro e V2c ⟨rfl, mx, hx⟩
  have HV2c : Hid (Pg V2c p B3 ∧ Kept (fun i => i = p) w V2c) := by rw [hx]; exact ⟨HU0.out.1.dr mx, HU0.out.2.drewN mx⟩
  clear hx HU0
  refine hK.out _ _ trivial (fun _ => ?_)
  clear hK K
  try simp only [Act.put, List.setIfInBounds_toArray, List.set_cons_zero, List.set_cons_succ]
  refine wpAnyH_ready (rs := [5]) (by kernel_rfl) (by simp) ?_
  refine AllReadyH.cons rfl (fun K hK => ?_) AllReadyH.nil
  go_simp
  refine Calls.mono (HPL'.out _ HV2c.out.1) ?_
  rintro e V5c ⟨rfl, mx, hx⟩
  have HV5c : Hid (Pg V5c p B3 ∧ Kept (fun i => i = p) w V5c) := by rw [hx]; exact ⟨HV2c.out.1.dr mx, HV2c.out.2.drewN mx⟩
  clear hx HV2c
  refine hK.out _ _ trivial (fun _ => ?_)
  clear hK K
  try simp only [Act.put, List.setIfInBounds_toArray, List.set_cons_zero, List.set_cons_succ]
  refine wpAnyH_take (i := 6) (oi := { dst := some 42, op := Op.binOp BinOp.add 3 (Operand.tmp 41) (Operand.const (Value.int IntKind.i64 1)) 3, type := 3, pos := "change.go:89", after := #[{ on := 5, ground := Ground.data }, { on := 15, ground := Ground.gcOnly Departure.lateStores }], guard := none }) (v := .int .i64 (pm : Int)) rfl (by kernel_rfl) (by kernel_rfl) (by kernel_rfl) (fun _ _ _ h => h) (Or.inl ⟨by rfl, ?_⟩) trivial ?_
  · intro wx hSw
    first | (go_simp; done) | (go_simp; with_reducible rfl)
  try simp only [Act.put, List.setIfInBounds_toArray, List.set_cons_zero, List.set_cons_succ]
  refine wpAnyH_take (i := 14) (oi := { dst := some 50, op := Op.indexAddr 156 (Operand.tmp 49) (Operand.tmp 38), type := 0, pos := "change.go:89", after := #[{ on := 13, ground := Ground.data }, { on := 2, ground := Ground.data }, { on := 0, ground := Ground.phase }, { on := 1, ground := Ground.phase }, { on := 2, ground := Ground.phase }, { on := 3, ground := Ground.textOnly Departure.lateStores }, { on := 4, ground := Ground.textOnly Departure.lateStores }, { on := 5, ground := Ground.phase }, { on := 6, ground := Ground.textOnly Departure.lateStores }, { on := 7, ground := Ground.phase }, { on := 8, ground := Ground.phase }, { on := 9, ground := Ground.textOnly Departure.lateStores }, { on := 10, ground := Ground.textOnly Departure.lateStoresUnsure }, { on := 11, ground := Ground.textOnly Departure.lateStores }], guard := none }) (v := .pointer (some ⟨p, pn, none⟩)) rfl (by kernel_rfl) (by kernel_rfl) (by kernel_rfl) (fun _ _ _ h => h) (Or.inl ⟨by rfl, ?_⟩) trivial ?_
  · intro wx hSw
    first | (go_simp; done) | (go_simp; with_reducible rfl)
  try simp only [Act.put, List.setIfInBounds_toArray, List.set_cons_zero, List.set_cons_succ]
  refine wpAnyH_ready (rs := [15]) (by kernel_rfl) (by simp) ?_
  refine AllReadyH.cons rfl (fun K hK => ?_) AllReadyH.nil
  have c1 := HV5c.out.1.cell pn (HB.out.2.2.1)
  have f1 := HV5c.out.1.fz
  go_simp
  refine hK.out _ _ trivial (fun _ => ?_)
  clear hK K
  try simp only [Act.put, List.setIfInBounds_toArray, List.set_cons_zero, List.set_cons_succ]
  refine wpAnyH_take (i := 18) (oi := { dst := some 53, op := Op.indexAddr 156 (Operand.tmp 52) (Operand.tmp 42), type := 0, pos := "change.go:89", after := #[{ on := 17, ground := Ground.data }, { on := 6, ground := Ground.data }, { on := 0, ground := Ground.phase }, { on := 1, ground := Ground.phase }, { on := 2, ground := Ground.phase }, { on := 3, ground := Ground.phase }, { on := 4, ground := Ground.phase }, { on := 5, ground := Ground.phase }, { on := 6, ground := Ground.phase }, { on := 7, ground := Ground.phase }, { on := 8, ground := Ground.phase }, { on := 9, ground := Ground.phase }, { on := 10, ground := Ground.phase }, { on := 11, ground := Ground.phase }, { on := 12, ground := Ground.phase }, { on := 13, ground := Ground.phase }, { on := 14, ground := Ground.phase }, { on := 15, ground := Ground.phase }], guard := none }) (v := .pointer (some ⟨p, pm, none⟩)) rfl (by kernel_rfl) (by kernel_rfl) (by kernel_rfl) (fun _ _ _ h => h) (Or.inl ⟨by rfl, ?_⟩) trivial ?_
  · intro wx hSw
    first | (go_simp; done) | (go_simp; with_reducible rfl)
  try simp only [Act.put, List.setIfInBounds_toArray, List.set_cons_zero, List.set_cons_succ]
  refine wpAnyH_ready (rs := [19]) (by kernel_rfl) (by simp) ?_
  refine AllReadyH.cons rfl (fun K hK => ?_) AllReadyH.nil
  have hP6 := HV5c.out.1.set1 pn (UInt8.ofNat b)
  rw [byteAt_val b HB.out.1] at hP6
  have c2 := hP6.cell pm HB.out.2.2.2.1
  have f2 := hP6.fz
  go_simp
  refine hK.out _ _ trivial (fun _ => ?_)
  clear hK K
  try simp only [Act.put, List.setIfInBounds_toArray, List.set_cons_zero, List.set_cons_succ]
  refine wpAnyH_done (by kernel_rfl) ?_ _
  try simp only [Exit.then]
  have hP6 := (HV5c.out.1.set1 pn (UInt8.ofNat b)).set1 pm (UInt8.ofNat kl)
  rw [byteAt_val b HB.out.1, byteAt_val kl HB.out.2.1] at hP6
  have hK6 := (HV5c.out.2.trans (kept_set1 V5c p pn (.int .u8 (b : Int))) (fun _ z => .inl z)).trans (kept_set1 _ p pm (.int .u8 (kl : Int))) (fun _ z => .inl z)
  obtain ⟨U6, hU6⟩ : ∃ U, (V5c.setCell ⟨p, pn, none⟩ (.int .u8 (b : Int))).setCell ⟨p, pm, none⟩ (.int .u8 (kl : Int)) = U := ⟨_, rfl⟩
  rw [hU6] at hP6 hK6 ⊢
  have HQ6 : Hid (Pg U6 p (wr B3 pn [UInt8.ofNat b, UInt8.ofNat kl]) ∧ Kept (fun i => i = p) w U6) := ⟨by rw [wr_two, HB.out.2.2.2.2]; exact hP6, hK6⟩
  clear hP6 hK6 hU6 HV5c
  go_wp2_with fail
  refine Calls.mono (HTL.out _ _ HQ6.out.1) ?_; rintro e w9 ⟨rfl, g1, g2⟩
  have HG : Hid (Pg w9 p (tallyB (wr B3 pn [UInt8.ofNat b, UInt8.ofNat kl]) n1) ∧ Kept (fun i => i = p) w w9) := ⟨g1, HQ6.out.2.trans g2 (fun _ z => .inl z)⟩
  clear g1 g2
  go_wp2_with fail
  go_end0
  rw [HB3.out]
  exact ⟨rfl, HG.out⟩
end Go.Proofs.YtkhpmmmildcceaaGreat
