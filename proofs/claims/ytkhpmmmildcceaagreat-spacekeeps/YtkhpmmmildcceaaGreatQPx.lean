/- What writes: cut. -/
import Derived.Test.YtkhpmmmildcceaaGreatQPw
import Derived.Lib.SliceRun
namespace Go.Proofs.YtkhpmmmildcceaaGreat
open Go.ChangeShapes Go.WideShapes Go.ChangeAt Go.RowKit
set_option linter.unusedVariables false
set_option maxRecDepth 100000
set_option maxRecDepth 100000

section
variable {P : Program} {ops : Array Oper} {o : Oper} {a : Act} {w w' : World} {Q : Exit → Act → World → Prop} {K : Act → World → Prop} {E : Prop} {v : Value}
theorem dr_clear {x : Operand} {t : TypeId} (hgd : o.guard = none) (ho : o.op = .call { callee := .builtin .clear, args := #[x], argTypes := #[t] }) (hr : (Builtin.clear_ #[t] o.type #[a.eval x]).run P w = .ok v w')
    (hK : K (a.put o.dst v) w') : if Region.wanted o (yielded ops a.tmps) = true then Oper.wp P o a w K Q else E := by
  have hw : Region.wanted o (yielded ops a.tmps) = true := by simp [Region.wanted, hgd]
  rw [if_pos hw]
  unfold Oper.wp execOp
  simp only [ho, resolve, invoke, builtin, Sem.run_bind, Sem.run_pure, Result.andThen_ok, List.map_toArray, List.map_cons, List.map_nil, hr]
  exact hK
end
/-- Noughts. -/
abbrev zs (n : Nat) : List UInt8 := List.replicate n 0
theorem bv_zs (n : Nat) : bv (zs n) = List.replicate n (.int .u8 0) := by simp [bv, zs]
theorem clear_page {w : World} {p : Nat} {B : List UInt8} (h : Pg w p B) (ty : TypeId) (lo hi c : Nat) (h1 : lo ≤ hi) (h2 : hi ≤ 256) : (Builtin.clear_ #[98] ty #[.slice (some ⟨p, offB lo, none⟩) (hi - lo) c]).run Tryz.prog w = .ok (.tuple #[]) (w.setCells p (offB lo) (bv (zs (hi - lo)))) := by
  by_cases e : hi - lo = 0
  · rw [e]
    simp [Builtin.clear_, run_underlying Tryz.underlying98, World.setCells, bv]
  · rw [offB_lt (by omega), bv_zs]
    exact Lib.run_clear_slice (P := Tryz.prog) w 98 5 ty (.int .u8 0) Tryz.underlying98 (fun w => by simp [go_sem]) rfl rfl p lo (hi - lo) c (by omega) (fun j hj => by rw [h.cell (lo + j) (by omega)]; rfl) (fun j _ => h.fz _)
theorem Pg.writeO {w : World} {p : Nat} {B : List UInt8} (h : Pg w p B) (lo hi : Nat) (Y : List UInt8) (hy : Y.length = hi - lo) (h1 : lo ≤ hi) (h2 : hi ≤ 256) : Pg (w.setCells p (offB lo) (bv Y)) p (wr B lo Y) := by
  by_cases e : hi - lo = 0
  · obtain rfl : Y = [] := List.eq_nil_of_length_eq_zero (by omega)
    exact h
  · rw [offB_lt (by omega)]
    exact Pg.write Y lo h
/-- A page behind cut. -/
def cutB (B : List UInt8) (k n : Nat) : List UInt8 := tallyB (wr (wr B (endB B n) (zs (endB B k - endB B n))) (8 + 2 * k) (zs (8 + 2 * n - (8 + 2 * k)))) k
set_option maxHeartbeats 4000000 in
theorem cut_is {w : World} {p : Nat} {B : List UInt8} (h : Pg w p B) (k n : Nat) (hn : byteAt B 1 = n) (hk : k ≤ n) (hn2 : 8 + 2 * n ≤ 256) (he : endB B n ≤ endB B k) : Calls Tryz.prog 117 #[.pointer (some ⟨p, 0, none⟩), .int .i64 (k : Int)] w fun e w' => e = .returned (.tuple #[]) ∧ Pg w' p (cutB B k n) ∧ Kept (fun i => i = p) w w' := by
  have H19 : Hid (Calls Tryz.prog 123 #[.pointer (some ⟨p, 0, none⟩)] w fun e w' => e = .returned (.int .i64 (n : Int)) ∧ ∃ m, w' = w.drewN m) := by have := len_is h; rw [hn] at this; exact this
  have hk2 := endB_le B k
  have HPw : Hid (Pg w p B) := h
  obtain ⟨lo, hlo⟩ : ∃ lo, endB B n = lo := ⟨_, rfl⟩
  obtain ⟨hi, hhi⟩ : ∃ hi, endB B k = hi := ⟨_, rfl⟩
  obtain ⟨pk, hpk⟩ : ∃ pk, 8 + 2 * k = pk := ⟨_, rfl⟩
  obtain ⟨pn, hpn⟩ : ∃ pn, 8 + 2 * n = pn := ⟨_, rfl⟩
  have HT : Hid (cutB B k n = tallyB (wr (wr B lo (zs (hi - lo))) pk (zs (pn - pk))) k) := by
    show cutB B k n = _
    unfold cutB
    rw [hlo, hhi, hpk, hpn]
  rw [hlo, hhi] at he
  rw [hhi] at hk2
  have HA : Hid (∀ W, Pg W p B → Calls Tryz.prog 115 #[.pointer (some ⟨p, 0, none⟩), .int .i64 (n : Int)] W fun e w' => e = .returned (.int .i64 (lo : Int)) ∧ ∃ j, w' = W.drewN j) := fun W hW => by have := end_is hW n (by omega); rw [hlo] at this; exact this
  have HBb : Hid (∀ W, Pg W p B → Calls Tryz.prog 115 #[.pointer (some ⟨p, 0, none⟩), .int .i64 (k : Int)] W fun e w' => e = .returned (.int .i64 (hi : Int)) ∧ ∃ j, w' = W.drewN j) := fun W hW => by have := end_is hW k (by omega); rw [hhi] at this; exact this
  have HPLk : Hid (∀ W : World, Calls Tryz.prog 141 #[.int .i64 (k : Int)] W fun e w' => e = .returned (.int .i64 (pk : Int)) ∧ ∃ j, w' = W.drewN j) := fun W => by have := placeOf_is k (by omega) W; rw [hpk] at this; exact this
  have HPLn : Hid (∀ W : World, Calls Tryz.prog 141 #[.int .i64 (n : Int)] W fun e w' => e = .returned (.int .i64 (pn : Int)) ∧ ∃ j, w' = W.drewN j) := fun W => by have := placeOf_is n (by omega) W; rw [hpn] at this; exact this
  have HTL : Hid (∀ W D, Pg W p D → Calls Tryz.prog 142 #[.pointer (some ⟨p, 0, none⟩), .int .i64 (k : Int)] W fun e w' => e = .returned (.tuple #[]) ∧ Pg w' p (tallyB D k) ∧ Kept (fun i => i = p) W w') := fun W D hW => tally_is hW k (by omega)
  have hpp : pk ≤ pn := by omega
  have hpn2 : pn ≤ 256 := by omega
  have hsl1 : ∀ W : World, (Instr.sliceAt 156 (.pointer (some ⟨p, 0, none⟩)) (some (.int .i64 (lo : Int))) (some (.int .i64 (hi : Int))) none).run Tryz.prog W = .ok (.slice (some ⟨p, offB lo, none⟩) (hi - lo) (256 - lo)) W := fun W => page_lh W p lo hi he hk2
  have hsl2 : ∀ W : World, (Instr.sliceAt 156 (.pointer (some ⟨p, 0, none⟩)) (some (.int .i64 (pk : Int))) (some (.int .i64 (pn : Int))) none).run Tryz.prog W = .ok (.slice (some ⟨p, offB pk, none⟩) (pn - pk) (256 - pk)) W := fun W => page_lh W p pk pn hpp hpn2
  have HB : Hid (lo ≤ hi ∧ hi ≤ 256 ∧ pk ≤ pn ∧ pn ≤ 256) := ⟨he, hk2, hpp, hpn2⟩
  rw [HT.out]
  clear HT h hlo hhi hpk hpn hn hk hn2 he hk2 hpp hpn2
  go_enter Tryz.func117, Tryz.ntmps117
  go_wp2_with fail
  refine Calls.mono H19.out ?_; rintro e w1 ⟨rfl, m1, hw1⟩
  have HP1 : Hid (Pg w1 p B ∧ Kept (fun i => i = p) w w1) := by rw [hw1]; exact ⟨HPw.out.dr m1, (Kept.refl _ _).drewN m1⟩
  clear hw1 H19 HPw
  have HC1 : Hid (∀ W, Pg W p B → (Builtin.clear_ #[98] 0 #[.slice (some ⟨p, offB lo, none⟩) (hi - lo) (256 - lo)]).run Tryz.prog W = .ok (.tuple #[]) (W.setCells p (offB lo) (bv (zs (hi - lo))))) := fun W hW => clear_page hW 0 lo hi _ HB.out.1 HB.out.2.1
  have HV0 : Hid (Pg w1.drew p B ∧ Kept (fun i => i = p) w w1.drew) := ⟨⟨HP1.out.1.blk, HP1.out.1.len⟩, HP1.out.2.drew⟩
  clear HP1
  go_wp2_with fail
  refine wp_region_held_drew (S := (fun (_ : World) => True)) (by kernel_rfl) trivial (fun _ => ?_)
  refine wpAnyH_take (i := 0) (oi := { dst := some 7, op := Op.move (Operand.tmp 0), type := 124, pos := "change.go:78", after := #[], guard := none }) (v := .pointer (some ⟨p, 0, none⟩)) rfl (by kernel_rfl) (by kernel_rfl) (by kernel_rfl) (fun _ _ _ h => h) (Or.inl ⟨by rfl, ?_⟩) trivial ?_
  · intro wx hSw
    first | (go_simp; done) | (go_simp; with_reducible rfl)
  try simp only [Act.put, List.setIfInBounds_toArray, List.set_cons_zero, List.set_cons_succ]
  refine wpAnyH_take (i := 1) (oi := { dst := some 8, op := Op.nilCheck (Operand.tmp 7), type := 0, pos := "change.go:78", after := #[{ on := 0, ground := Ground.data }], guard := none }) (v := .pointer (some ⟨p, 0, none⟩)) rfl (by kernel_rfl) (by kernel_rfl) (by kernel_rfl) (fun _ _ _ h => h) (Or.inl ⟨by rfl, ?_⟩) trivial ?_
  · intro wx hSw
    first | (go_simp; done) | (go_simp; with_reducible rfl)
  try simp only [Act.put, List.setIfInBounds_toArray, List.set_cons_zero, List.set_cons_succ]
  refine wpAnyH_take (i := 2) (oi := { dst := some 9, op := Op.fieldAddr 158 (Operand.tmp 8) 0, type := 0, pos := "change.go:78", after := #[{ on := 1, ground := Ground.data }], guard := none }) (v := .pointer (some ⟨p, 0, none⟩)) rfl (by kernel_rfl) (by kernel_rfl) (by kernel_rfl) (fun _ _ _ h => h) (Or.inl ⟨by rfl, ?_⟩) trivial ?_
  · intro wx hSw
    first | (go_simp; done) | (go_simp; with_reducible rfl)
  try simp only [Act.put, List.setIfInBounds_toArray, List.set_cons_zero, List.set_cons_succ]
  refine wpAnyH_take (i := 3) (oi := { dst := some 10, op := Op.move (Operand.tmp 0), type := 124, pos := "change.go:78", after := #[], guard := none }) (v := .pointer (some ⟨p, 0, none⟩)) rfl (by kernel_rfl) (by kernel_rfl) (by kernel_rfl) (fun _ _ _ h => h) (Or.inl ⟨by rfl, ?_⟩) trivial ?_
  · intro wx hSw
    first | (go_simp; done) | (go_simp; with_reducible rfl)
  try simp only [Act.put, List.setIfInBounds_toArray, List.set_cons_zero, List.set_cons_succ]
  refine wpAnyH_take (i := 4) (oi := { dst := some 11, op := Op.move (Operand.tmp 4), type := 3, pos := "change.go:78", after := #[], guard := none }) (v := .int .i64 (n : Int)) rfl (by kernel_rfl) (by kernel_rfl) (by kernel_rfl) (fun _ _ _ h => h) (Or.inl ⟨by rfl, ?_⟩) trivial ?_
  · intro wx hSw
    first | (go_simp; done) | (go_simp; with_reducible rfl)
  try simp only [Act.put, List.setIfInBounds_toArray, List.set_cons_zero, List.set_cons_succ]
  refine wpAnyH_take (i := 6) (oi := { dst := some 13, op := Op.move (Operand.tmp 0), type := 124, pos := "change.go:78", after := #[], guard := none }) (v := .pointer (some ⟨p, 0, none⟩)) rfl (by kernel_rfl) (by kernel_rfl) (by kernel_rfl) (fun _ _ _ h => h) (Or.inl ⟨by rfl, ?_⟩) trivial ?_
  · intro wx hSw
    first | (go_simp; done) | (go_simp; with_reducible rfl)
  try simp only [Act.put, List.setIfInBounds_toArray, List.set_cons_zero, List.set_cons_succ]
  refine wpAnyH_take (i := 7) (oi := { dst := some 14, op := Op.move (Operand.tmp 1), type := 3, pos := "change.go:78", after := #[], guard := none }) (v := .int .i64 (k : Int)) rfl (by kernel_rfl) (by kernel_rfl) (by kernel_rfl) (fun _ _ _ h => h) (Or.inl ⟨by rfl, ?_⟩) trivial ?_
  · intro wx hSw
    first | (go_simp; done) | (go_simp; with_reducible rfl)
  try simp only [Act.put, List.setIfInBounds_toArray, List.set_cons_zero, List.set_cons_succ]
  refine wpAnyH_ready (rs := [5]) (by kernel_rfl) (by simp) ?_
  refine AllReadyH.cons rfl (fun K hK => ?_) AllReadyH.nil
  go_simp
  refine Calls.mono (HA.out _ HV0.out.1) ?_
  rintro e V5a ⟨rfl, mx, hx⟩
  have HV5a : Hid (Pg V5a p B ∧ Kept (fun i => i = p) w V5a) := by rw [hx]; exact ⟨HV0.out.1.dr mx, HV0.out.2.drewN mx⟩
  clear hx HV0
  refine hK.out _ _ trivial (fun _ => ?_)
  clear hK K
  try simp only [Act.put, List.setIfInBounds_toArray, List.set_cons_zero, List.set_cons_succ]
  refine wpAnyH_ready (rs := [8]) (by kernel_rfl) (by simp) ?_
  refine AllReadyH.cons rfl (fun K hK => ?_) AllReadyH.nil
  go_simp
  refine Calls.mono (HBb.out _ HV5a.out.1) ?_
  rintro e V8a ⟨rfl, mx, hx⟩
  have HV8a : Hid (Pg V8a p B ∧ Kept (fun i => i = p) w V8a) := by rw [hx]; exact ⟨HV5a.out.1.dr mx, HV5a.out.2.drewN mx⟩
  clear hx HV5a
  refine hK.out _ _ trivial (fun _ => ?_)
  clear hK K
  try simp only [Act.put, List.setIfInBounds_toArray, List.set_cons_zero, List.set_cons_succ]
  refine wpAnyH_take (i := 9) (oi := { dst := some 16, op := Op.slice 156 (Operand.tmp 9) (some (Operand.tmp 12)) (some (Operand.tmp 15)) none, type := 98, pos := "change.go:78", after := #[{ on := 2, ground := Ground.data }, { on := 5, ground := Ground.data }, { on := 8, ground := Ground.data }], guard := none }) (v := .slice (some ⟨p, offB lo, none⟩) (hi - lo) (256 - lo)) rfl (by kernel_rfl) (by kernel_rfl) (by kernel_rfl) (fun _ _ _ h => h) (Or.inl ⟨by rfl, ?_⟩) trivial ?_
  · intro wx hSw
    first | (go_simp; done) | (go_simp; with_reducible rfl)
  try simp only [Act.put, List.setIfInBounds_toArray, List.set_cons_zero, List.set_cons_succ]
  refine wpAnyH_ready (rs := [10]) (by kernel_rfl) (by simp) ?_
  refine AllReadyH.cons rfl (fun K hK => ?_) AllReadyH.nil
  refine dr_clear (o := { dst := none, op := Op.call { callee := Callee.builtin Builtin.clear, args := #[Operand.tmp 16], argTypes := #[98] }, type := 0, pos := "change.go:78", after := #[{ on := 9, ground := Ground.data }, { on := 8, ground := Ground.chain }], guard := none }) rfl rfl (HC1.out _ HV8a.out.1) ?_
  refine hK.out _ _ trivial (fun _ => ?_)
  clear hK K
  try simp only [Act.put]
  refine wpAnyH_done (by kernel_rfl) ?_ _
  try simp only [Exit.then]
  obtain ⟨B1, hB1⟩ : ∃ B1, wr B lo (zs (hi - lo)) = B1 := ⟨_, rfl⟩
  have hQ1 := HV8a.out.1.writeO lo hi (zs (hi - lo)) (by simp) HB.out.1 HB.out.2.1
  have hK1 := HV8a.out.2.trans (kept_sets V8a p (offB lo) (bv (zs (hi - lo)))) (fun _ z => .inl z)
  obtain ⟨U, hU⟩ : ∃ U, V8a.setCells p (offB lo) (bv (zs (hi - lo))) = U := ⟨_, rfl⟩
  rw [hU, hB1] at hQ1
  rw [hU] at hK1 ⊢
  have HU0 : Hid (Pg U.drew p B1 ∧ Kept (fun i => i = p) w U.drew) := ⟨⟨hQ1.blk, hQ1.len⟩, hK1.drew⟩
  have HA2 : Hid (∀ W, Pg W p B1 → Calls Tryz.prog 141 #[.int .i64 (k : Int)] W fun e w' => e = .returned (.int .i64 (pk : Int)) ∧ ∃ j, w' = W.drewN j) := fun W _ => HPLk.out W
  have HB2 : Hid (∀ W, Pg W p B1 → Calls Tryz.prog 141 #[.int .i64 (n : Int)] W fun e w' => e = .returned (.int .i64 (pn : Int)) ∧ ∃ j, w' = W.drewN j) := fun W _ => HPLn.out W
  have HC2 : Hid (∀ W, Pg W p B1 → (Builtin.clear_ #[98] 0 #[.slice (some ⟨p, offB pk, none⟩) (pn - pk) (256 - pk)]).run Tryz.prog W = .ok (.tuple #[]) (W.setCells p (offB pk) (bv (zs (pn - pk))))) := fun W hW => clear_page hW 0 pk pn _ HB.out.2.2.1 HB.out.2.2.2
  have HB1 : Hid (wr B lo (zs (hi - lo)) = B1) := hB1
  clear hQ1 hK1 hU hB1 HV8a HC1 HA HBb HPLk HPLn hsl1
  go_wp2_with fail
  refine wp_region_held_drew (S := (fun (_ : World) => True)) (by kernel_rfl) trivial (fun _ => ?_)
  refine wpAnyH_take (i := 0) (oi := { dst := some 17, op := Op.move (Operand.tmp 0), type := 124, pos := "change.go:79", after := #[], guard := none }) (v := .pointer (some ⟨p, 0, none⟩)) rfl (by kernel_rfl) (by kernel_rfl) (by kernel_rfl) (fun _ _ _ h => h) (Or.inl ⟨by rfl, ?_⟩) trivial ?_
  · intro wx hSw
    first | (go_simp; done) | (go_simp; with_reducible rfl)
  try simp only [Act.put, List.setIfInBounds_toArray, List.set_cons_zero, List.set_cons_succ]
  refine wpAnyH_take (i := 1) (oi := { dst := some 18, op := Op.nilCheck (Operand.tmp 17), type := 0, pos := "change.go:79", after := #[{ on := 0, ground := Ground.data }], guard := none }) (v := .pointer (some ⟨p, 0, none⟩)) rfl (by kernel_rfl) (by kernel_rfl) (by kernel_rfl) (fun _ _ _ h => h) (Or.inl ⟨by rfl, ?_⟩) trivial ?_
  · intro wx hSw
    first | (go_simp; done) | (go_simp; with_reducible rfl)
  try simp only [Act.put, List.setIfInBounds_toArray, List.set_cons_zero, List.set_cons_succ]
  refine wpAnyH_take (i := 2) (oi := { dst := some 19, op := Op.fieldAddr 158 (Operand.tmp 18) 0, type := 0, pos := "change.go:79", after := #[{ on := 1, ground := Ground.data }], guard := none }) (v := .pointer (some ⟨p, 0, none⟩)) rfl (by kernel_rfl) (by kernel_rfl) (by kernel_rfl) (fun _ _ _ h => h) (Or.inl ⟨by rfl, ?_⟩) trivial ?_
  · intro wx hSw
    first | (go_simp; done) | (go_simp; with_reducible rfl)
  try simp only [Act.put, List.setIfInBounds_toArray, List.set_cons_zero, List.set_cons_succ]
  refine wpAnyH_take (i := 3) (oi := { dst := some 20, op := Op.move (Operand.tmp 1), type := 3, pos := "change.go:79", after := #[], guard := none }) (v := .int .i64 (k : Int)) rfl (by kernel_rfl) (by kernel_rfl) (by kernel_rfl) (fun _ _ _ h => h) (Or.inl ⟨by rfl, ?_⟩) trivial ?_
  · intro wx hSw
    first | (go_simp; done) | (go_simp; with_reducible rfl)
  try simp only [Act.put, List.setIfInBounds_toArray, List.set_cons_zero, List.set_cons_succ]
  refine wpAnyH_take (i := 5) (oi := { dst := some 22, op := Op.move (Operand.tmp 4), type := 3, pos := "change.go:79", after := #[], guard := none }) (v := .int .i64 (n : Int)) rfl (by kernel_rfl) (by kernel_rfl) (by kernel_rfl) (fun _ _ _ h => h) (Or.inl ⟨by rfl, ?_⟩) trivial ?_
  · intro wx hSw
    first | (go_simp; done) | (go_simp; with_reducible rfl)
  try simp only [Act.put, List.setIfInBounds_toArray, List.set_cons_zero, List.set_cons_succ]
  refine wpAnyH_ready (rs := [4]) (by kernel_rfl) (by simp) ?_
  refine AllReadyH.cons rfl (fun K hK => ?_) AllReadyH.nil
  go_simp
  refine Calls.mono (HA2.out _ HU0.out.1) ?_
  rintro e V4b ⟨rfl, mx, hx⟩
  have HV4b : Hid (Pg V4b p B1 ∧ Kept (fun i => i = p) w V4b) := by rw [hx]; exact ⟨HU0.out.1.dr mx, HU0.out.2.drewN mx⟩
  clear hx HU0
  refine hK.out _ _ trivial (fun _ => ?_)
  clear hK K
  try simp only [Act.put, List.setIfInBounds_toArray, List.set_cons_zero, List.set_cons_succ]
  refine wpAnyH_ready (rs := [6]) (by kernel_rfl) (by simp) ?_
  refine AllReadyH.cons rfl (fun K hK => ?_) AllReadyH.nil
  go_simp
  refine Calls.mono (HB2.out _ HV4b.out.1) ?_
  rintro e V6b ⟨rfl, mx, hx⟩
  have HV6b : Hid (Pg V6b p B1 ∧ Kept (fun i => i = p) w V6b) := by rw [hx]; exact ⟨HV4b.out.1.dr mx, HV4b.out.2.drewN mx⟩
  clear hx HV4b
  refine hK.out _ _ trivial (fun _ => ?_)
  clear hK K
  try simp only [Act.put, List.setIfInBounds_toArray, List.set_cons_zero, List.set_cons_succ]
  refine wpAnyH_take (i := 7) (oi := { dst := some 24, op := Op.slice 156 (Operand.tmp 19) (some (Operand.tmp 21)) (some (Operand.tmp 23)) none, type := 98, pos := "change.go:79", after := #[{ on := 2, ground := Ground.data }, { on := 4, ground := Ground.data }, { on := 6, ground := Ground.data }], guard := none }) (v := .slice (some ⟨p, offB pk, none⟩) (pn - pk) (256 - pk)) rfl (by kernel_rfl) (by kernel_rfl) (by kernel_rfl) (fun _ _ _ h => h) (Or.inl ⟨by rfl, ?_⟩) trivial ?_
  · intro wx hSw
    first | (go_simp; done) | (go_simp; with_reducible rfl)
  try simp only [Act.put, List.setIfInBounds_toArray, List.set_cons_zero, List.set_cons_succ]
  refine wpAnyH_ready (rs := [8]) (by kernel_rfl) (by simp) ?_
  refine AllReadyH.cons rfl (fun K hK => ?_) AllReadyH.nil
  refine dr_clear (o := { dst := none, op := Op.call { callee := Callee.builtin Builtin.clear, args := #[Operand.tmp 24], argTypes := #[98] }, type := 0, pos := "change.go:79", after := #[{ on := 7, ground := Ground.data }, { on := 6, ground := Ground.chain }], guard := none }) rfl rfl (HC2.out _ HV6b.out.1) ?_
  refine hK.out _ _ trivial (fun _ => ?_)
  clear hK K
  try simp only [Act.put]
  refine wpAnyH_done (by kernel_rfl) ?_ _
  try simp only [Exit.then]
  have hQ2 := HV6b.out.1.writeO pk pn (zs (pn - pk)) (by simp) HB.out.2.2.1 HB.out.2.2.2
  have hK2 := HV6b.out.2.trans (kept_sets V6b p (offB pk) (bv (zs (pn - pk)))) (fun _ z => .inl z)
  obtain ⟨U2, hU2⟩ : ∃ U, V6b.setCells p (offB pk) (bv (zs (pn - pk))) = U := ⟨_, rfl⟩
  rw [hU2] at hQ2 hK2 ⊢
  have HQ2 : Hid (Pg U2 p (wr B1 pk (zs (pn - pk))) ∧ Kept (fun i => i = p) w U2) := ⟨hQ2, hK2⟩
  clear hQ2 hK2 hU2 HV6b HC2 HA2 HB2 hsl2
  go_wp2_with fail
  refine Calls.mono (HTL.out _ _ HQ2.out.1) ?_; rintro e w9 ⟨rfl, g1, g2⟩
  have HG : Hid (Pg w9 p (tallyB (wr B1 pk (zs (pn - pk))) k) ∧ Kept (fun i => i = p) w w9) := ⟨g1, HQ2.out.2.trans g2 (fun _ z => .inl z)⟩
  clear g1 g2
  go_wp2_with fail
  go_end0
  rw [HB1.out]
  exact ⟨rfl, HG.out⟩
end Go.Proofs.YtkhpmmmildcceaaGreat
