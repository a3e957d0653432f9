/- What writes: take. -/
import Derived.Test.YtkhpmmmildcceaaGreatQPz
namespace Go.Proofs.YtkhpmmmildcceaaGreat
open Go.ChangeShapes Go.WideShapes Go.ChangeAt Go.RowKit
set_option linter.unusedVariables false
set_option maxRecDepth 100000
set_option maxRecDepth 100000

theorem copy_page {w : World} {p q : Nat} {B D : List UInt8} (h : Pg w p B) (hq : Pg w q D) (ty : TypeId) (lo a b c c' L : Nat) (h1 : a + L = b) (h2 : b ≤ 256) (h3 : lo + L ≤ 256) : (Builtin.copy_ #[98, 98] ty #[.slice (some ⟨p, offB lo, none⟩) (256 - lo) c, .slice (some ⟨q, offB a, none⟩) L c']).run Tryz.prog w = .ok (goInt L) (w.setCells p (offB lo) (bv ((D.drop a).take L))) := by
  have hs : (Tryz.prog.info? 5).map (·.size) = some 1 := by kernel_rfl
  by_cases e : L = 0
  · subst e
    have := run_copy_none (P := Tryz.prog) w 98 98 ty 5 (some ⟨p, offB lo, none⟩) (some ⟨q, offB a, none⟩) (256 - lo) c 0 c' Tryz.underlying98 hs (by simp)
    simpa [World.setCells, bv] using this
  · have hl : ((D.drop a).take L).length = L := by rw [List.length_take, List.length_drop, hq.len]; omega
    have := run_copy_cells (P := Tryz.prog) w 98 98 ty 5 p lo (256 - lo) c ⟨q, a, none⟩ L c' (bv ((D.drop a).take L)) Tryz.underlying98 hs (by rw [bv_len, hl]; simp [Nat.min_def]; omega) (fun j v hv => by
      have hj : j < L := by
        have := (List.getElem?_eq_some_iff.1 hv).1
        rw [bv_len, hl] at this
        exact this
      rw [Go.WideShapes.add_plain, hq.cell (a + j) (by omega), ← hv]
      have hb : a + j < D.length := by rw [hq.len]; omega
      simp [bv, byteAt, hj, hb]) (fun j hj => by
      rw [bv_len, hl] at hj
      rw [h.cell (lo + j) (by omega)]; rfl) (fun j _ => h.fz _) (bv_one _)
    rw [bv_len, hl] at this
    rw [offB_lt (by omega), offB_lt (by omega)]
    exact this
/-- Some places, one behind the other, told anew. -/
def shiftB (X : List UInt8) (n : Nat) (mv : Int) : Nat → List UInt8
  | 0 => X
  | m + 1 => (shiftB X n mv m).set (8 + 2 * (n + m)) (UInt8.ofNat (((byteAt (shiftB X n mv m) (8 + 2 * (n + m)) : Int) - mv) % 256).toNat)
theorem shift_val (x : Nat) (mv : Int) : IntKind.u8.wrap ((x : Int) - IntKind.u8.wrap mv) = ((((x : Int) - mv) % 256).toNat : Int) ∧ (((x : Int) - mv) % 256).toNat < 256 := by
  rw [IntKind.wrap_u8, IntKind.wrap_u8]
  omega
theorem num10 {i n m j : Nat} (h : i = n + j) (hj : j < m) (k : 6 + 2 * (n + m) < 256) : 8 + 2 * i < 256 ∧ i ≤ 1000000 := by omega
theorem nk1 {n m ct : Nat} (h : n + m = ct) (k : 6 + 2 * ct < 256) : 6 + 2 * n < 256 := by omega
theorem nk2 {a b : Nat} (h : 8 + 2 * a = b) (k : b ≤ 256) : 6 + 2 * a < 256 := by omega
theorem nk3 {k m al : Nat} (h : k + m = al) (j : 6 + 2 * al < 256) : 6 + 2 * k < 256 := by omega
theorem nk4 {n : Nat} (h : 6 + 2 * n < 256) : n ≤ 1000000 := by omega
theorem nk5 {ea La ek : Nat} (h : ea + La = ek) (k : ek ≤ 256) : min La (256 - ea) = La := by omega
theorem nk6 {lo La en : Nat} (h : lo + La = en) (k : en ≤ 256) : lo + La ≤ 256 := by omega
theorem nk7 {ek en : Nat} {mv : Int} (h : (ek : Int) - (en : Int) = mv) (k : en ≤ 256) (j : ek ≤ 256) : wrap64 ((ek : Int) - (en : Int)) = mv := by unfold wrap64; omega
theorem subi64 (a b c : Nat) (h : c + b = a) (ha : a ≤ 256) : IntKind.i64.wrap ((a : Int) - (b : Int)) = (c : Int) := by rw [IntKind.wrap_i64]; omega
theorem nk8 {n al na : Nat} (h : n + al = na) (j : 6 + 2 * n < 256) (k : 6 + 2 * al < 256) : na ≤ 256 := by omega
theorem nk9 {n m ct k al na : Nat} (h : n + m = ct) (j : k + m = al) (g : n + al = na) : ct + k = na := by omega
theorem nk10 {ct : Nat} (h : 6 + 2 * ct < 256) : ct ≤ 1000 := by omega
set_option maxHeartbeats 8000000 in
theorem take_core {w : World} {p q : Nat} {B D : List UInt8} (h : Pg w p B) (hq : Pg w q D) (hpq : p ≠ q) (n al k m ct en ea ek La lo oa ca ol cl pn pk pa Lp op cp oq cq : Nat) (mv : Int) (hn : byteAt B 1 = n) (hal : byteAt D 1 = al) (hen : endB B n = en) (hea : endB D al = ea) (hek : endB D k = ek)
    (e1 : ea + La = ek) (e2 : lo + La = en) (e3 : en ≤ 256) (e4 : ek ≤ 256) (e5 : 8 + 2 * n = pn) (e6 : 8 + 2 * k = pk) (e7 : 8 + 2 * al = pa) (e8 : pk + Lp = pa) (e9 : pa ≤ 256) (e10 : pn + Lp ≤ 256) (e11 : k + m = al) (e12 : n + m = ct) (e13 : 6 + 2 * ct < 256) (e14 : (ek : Int) - (en : Int) = mv)
    (c1 : offB ea = oa) (c2 : 256 - ea = ca) (c3 : offB lo = ol) (c4 : 256 - lo = cl) (c5 : offB pn = op) (c6 : 256 - pn = cp) (c7 : offB pk = oq) (c8 : 256 - pk = cq) :
    Calls Tryz.prog 119 #[.pointer (some ⟨p, 0, none⟩), .pointer (some ⟨q, 0, none⟩), .int .i64 (k : Int)] w fun e w' => e = .returned (.tuple #[]) ∧ Pg w' p (tallyB (shiftB (wr (wr B lo ((D.drop ea).take La)) pn ((D.drop pk).take Lp)) n mv m) ct) ∧ Kept (fun i => i = p) w w' := by
  have HLp : Hid (Calls Tryz.prog 123 #[.pointer (some ⟨p, 0, none⟩)] w fun e w' => e = .returned (.int .i64 (n : Int)) ∧ ∃ m, w' = w.drewN m) := by have := len_is h; rw [hn] at this; exact this
  have HLq : Hid (∀ W, Pg W q D → Calls Tryz.prog 123 #[.pointer (some ⟨q, 0, none⟩)] W fun e w' => e = .returned (.int .i64 (al : Int)) ∧ ∃ m, w' = W.drewN m) := fun W hW => by have := len_is hW; rw [hal] at this; exact this
  have b1 : 6 + 2 * n < 256 := nk1 e12 e13
  have b2 : 6 + 2 * al < 256 := nk2 e7 e9
  have b3 : 6 + 2 * k < 256 := nk3 e11 b2
  have HEn : Hid (∀ W, Pg W p B → Calls Tryz.prog 115 #[.pointer (some ⟨p, 0, none⟩), .int .i64 (n : Int)] W fun e w' => e = .returned (.int .i64 (en : Int)) ∧ ∃ j, w' = W.drewN j) := fun W hW => by have := end_is hW n b1; rw [hen] at this; exact this
  have HEa : Hid (∀ W, Pg W q D → Calls Tryz.prog 115 #[.pointer (some ⟨q, 0, none⟩), .int .i64 (al : Int)] W fun e w' => e = .returned (.int .i64 (ea : Int)) ∧ ∃ j, w' = W.drewN j) := fun W hW => by have := end_is hW al b2; rw [hea] at this; exact this
  have HEk : Hid (∀ W, Pg W q D → Calls Tryz.prog 115 #[.pointer (some ⟨q, 0, none⟩), .int .i64 (k : Int)] W fun e w' => e = .returned (.int .i64 (ek : Int)) ∧ ∃ j, w' = W.drewN j) := fun W hW => by have := end_is hW k b3; rw [hek] at this; exact this
  have HPn : Hid (∀ W : World, Calls Tryz.prog 141 #[.int .i64 (n : Int)] W fun e w' => e = .returned (.int .i64 (pn : Int)) ∧ ∃ j, w' = W.drewN j) := fun W => by have := placeOf_is n (nk4 b1) W; rw [e5] at this; exact this
  have HPk : Hid (∀ W : World, Calls Tryz.prog 141 #[.int .i64 (k : Int)] W fun e w' => e = .returned (.int .i64 (pk : Int)) ∧ ∃ j, w' = W.drewN j) := fun W => by have := placeOf_is k (nk4 b3) W; rw [e6] at this; exact this
  have HPa : Hid (∀ W : World, Calls Tryz.prog 141 #[.int .i64 (al : Int)] W fun e w' => e = .returned (.int .i64 (pa : Int)) ∧ ∃ j, w' = W.drewN j) := fun W => by have := placeOf_is al (nk4 b2) W; rw [e7] at this; exact this
  have HTL : Hid (∀ W D, Pg W p D → Calls Tryz.prog 142 #[.pointer (some ⟨p, 0, none⟩), .int .i64 (ct : Int)] W fun e w' => e = .returned (.tuple #[]) ∧ Pg w' p (tallyB D ct) ∧ Kept (fun i => i = p) W w') := fun W D hW => tally_is hW ct e13
  obtain ⟨SG, hSG⟩ : ∃ SG, (D.drop ea).take La = SG := ⟨_, rfl⟩
  obtain ⟨SP, hSP⟩ : ∃ SP, (D.drop pk).take Lp = SP := ⟨_, rfl⟩
  have lSG : SG.length = La := by rw [← hSG, List.length_take, List.length_drop, hq.len]; exact nk5 e1 e4
  have lSP : SP.length = Lp := by rw [← hSP, List.length_take, List.length_drop, hq.len]; exact nk5 e8 e9
  have HC1 : Hid (∀ W, Pg W p B → Pg W q D → (Builtin.copy_ #[98, 98] 3 #[.slice (some ⟨p, ol, none⟩) cl cl, .slice (some ⟨q, oa, none⟩) La ca]).run Tryz.prog W = .ok (.int .i64 (La : Int)) (W.setCells p ol (bv SG))) := fun W hW hV => by
    have := copy_page hW hV 3 lo ea ek cl ca La e1 e4 (nk6 e2 e3)
    rw [c3, c4, c1, hSG] at this
    exact this
  have HC2 : Hid (∀ W X, Pg W p X → Pg W q D → (Builtin.copy_ #[98, 98] 3 #[.slice (some ⟨p, op, none⟩) cp cp, .slice (some ⟨q, oq, none⟩) Lp cq]).run Tryz.prog W = .ok (.int .i64 (Lp : Int)) (W.setCells p op (bv SP))) := fun W X hW hV => by
    have := copy_page hW hV 3 pn pk pa cp cq Lp e8 e9 e10
    rw [c5, c6, c7, hSP] at this
    exact this
  have HW1 : Hid (∀ W, Pg W p B → Pg (W.setCells p ol (bv SG)) p (wr B lo SG)) := fun W hW => by have := hW.writeO lo en SG (by rw [lSG]; exact num6 e2) (num7 e2) e3; rw [c3] at this; exact this
  have HW2 : Hid (∀ W X, Pg W p X → Pg (W.setCells p op (bv SP)) p (wr X pn SP)) := fun W X hW => by have := hW.writeO pn (pn + Lp) SP (by rw [lSP]; exact (Nat.add_sub_cancel_left ..).symm) (Nat.le_add_right _ _) e10; rw [c5] at this; exact this
  have hsl1 : ∀ W : World, (Instr.sliceAt 156 (.pointer (some ⟨q, 0, none⟩)) (some (.int .i64 (ea : Int))) (some (.int .i64 (ek : Int))) none).run Tryz.prog W = .ok (.slice (some ⟨q, oa, none⟩) La ca) W := fun W => by have := page_lh W q ea ek (num7 e1) e4; rw [c1, c2, ← num6 e1] at this; exact this
  have hsl2 : ∀ W : World, (Instr.sliceAt 156 (.pointer (some ⟨p, 0, none⟩)) (some (.int .i64 (lo : Int))) none none).run Tryz.prog W = .ok (.slice (some ⟨p, ol, none⟩) cl cl) W := fun W => by have := page_l W p lo (num5 e2 e3); rw [c3, c4] at this; exact this
  have hsl3 : ∀ W : World, (Instr.sliceAt 156 (.pointer (some ⟨p, 0, none⟩)) (some (.int .i64 (pn : Int))) none none).run Tryz.prog W = .ok (.slice (some ⟨p, op, none⟩) cp cp) W := fun W => by have := page_l W p pn (Nat.le_trans (Nat.le_add_right _ _) e10); rw [c5, c6] at this; exact this
  have hsl4 : ∀ W : World, (Instr.sliceAt 156 (.pointer (some ⟨q, 0, none⟩)) (some (.int .i64 (pk : Int))) (some (.int .i64 (pa : Int))) none).run Tryz.prog W = .ok (.slice (some ⟨q, oq, none⟩) Lp cq) W := fun W => by have := page_lh W q pk pa (num7 e8) e9; rw [c7, c8, ← num6 e8] at this; exact this
  have s1 : wrap64 ((ek : Int) - (en : Int)) = mv := nk7 e14 e3 e4
  have s2 : IntKind.i64.wrap ((en : Int) - (La : Int)) = (lo : Int) := subi64 en La lo e2 e3
  obtain ⟨na, hna⟩ : ∃ na, n + al = na := ⟨_, rfl⟩
  have s3 : wrap64 ((n : Int) + (al : Int)) = (na : Int) := add64 n al na hna (Nat.le_trans (nk8 hna b1 b2) (by decide))
  have s4 : wrap64 ((na : Int) - (k : Int)) = (ct : Int) := sub64 na k ct (nk9 e12 e11 hna) (nk8 hna b1 b2)
  have HN : Hid (n + m = ct ∧ 6 + 2 * (n + m) < 256) := ⟨e12, by rw [e12]; exact e13⟩
  have HPQ : Hid (Pg w p B ∧ Pg w q D ∧ Kept (fun i => i = p) w w) := ⟨h, hq, Kept.refl _ _⟩
  have HNE : Hid (p ≠ q) := hpq
  have HCTn : Hid (n ≤ ct ∧ ct ≤ 1000) := ⟨num7 e12, nk10 e13⟩
  have HSH : Hid (∀ X, shiftB X n mv 0 = X) := fun X => rfl
  rw [hSG, hSP]
  clear h hq hpq hn hal hen hea hek e1 e2 e3 e4 e5 e6 e7 e8 e9 e10 e11 e12 e13 e14 c1 c2 c3 c4 c5 c6 c7 c8 b1 b2 b3 hSG hSP lSG lSP hna
  go_enter Tryz.func119, Tryz.ntmps119
  go_wp2_with fail
  refine Calls.mono HLp.out ?_; rintro e w1 ⟨rfl, m1, hw1⟩
  have HP1 : Hid (Pg w1 p B ∧ Pg w1 q D ∧ Kept (fun i => i = p) w w1) := by rw [hw1]; exact ⟨HPQ.out.1.dr m1, HPQ.out.2.1.dr m1, HPQ.out.2.2.drewN m1⟩
  clear hw1 HLp HPQ
  go_wp2_with fail
  refine Calls.mono (HLq.out _ HP1.out.2.1) ?_; rintro e w2 ⟨rfl, m2, hw2⟩
  have HU0 : Hid (Pg w2.drew p B ∧ Pg w2.drew q D ∧ Kept (fun i => i = p) w w2.drew) := by rw [hw2]; exact ⟨⟨HP1.out.1.blk, HP1.out.1.len⟩, ⟨HP1.out.2.1.blk, HP1.out.2.1.len⟩, (HP1.out.2.2.drewN m2).drew⟩
  clear hw2 HLq HP1
  go_wp2_with fail
  refine wp_region_held_drew (S := (fun (_ : World) => True)) (by kernel_rfl) trivial (fun _ => ?_)
  refine wpAnyH_take (i := 0) (oi := { dst := some 16, op := Op.move (Operand.tmp 1), type := 124, pos := "change.go:96", after := #[], guard := none }) (v := .pointer (some ⟨q, 0, none⟩)) rfl (by kernel_rfl) (by kernel_rfl) (by kernel_rfl) (fun _ _ _ h => h) (Or.inl ⟨by rfl, ?_⟩) trivial ?_
  · intro wx hSw
    first | (go_simp; done) | (go_simp; with_reducible rfl)
  try simp only [Act.put, List.setIfInBounds_toArray, List.set_cons_zero, List.set_cons_succ]
  refine wpAnyH_take (i := 1) (oi := { dst := some 17, op := Op.nilCheck (Operand.tmp 16), type := 0, pos := "change.go:96", after := #[{ on := 0, ground := Ground.data }], guard := none }) (v := .pointer (some ⟨q, 0, none⟩)) rfl (by kernel_rfl) (by kernel_rfl) (by kernel_rfl) (fun _ _ _ h => h) (Or.inl ⟨by rfl, ?_⟩) trivial ?_
  · intro wx hSw
    first | (go_simp; done) | (go_simp; with_reducible rfl)
  try simp only [Act.put, List.setIfInBounds_toArray, List.set_cons_zero, List.set_cons_succ]
  refine wpAnyH_take (i := 2) (oi := { dst := some 18, op := Op.fieldAddr 158 (Operand.tmp 17) 0, type := 0, pos := "change.go:96", after := #[{ on := 1, ground := Ground.data }], guard := none }) (v := .pointer (some ⟨q, 0, none⟩)) rfl (by kernel_rfl) (by kernel_rfl) (by kernel_rfl) (fun _ _ _ h => h) (Or.inl ⟨by rfl, ?_⟩) trivial ?_
  · intro wx hSw
    first | (go_simp; done) | (go_simp; with_reducible rfl)
  try simp only [Act.put, List.setIfInBounds_toArray, List.set_cons_zero, List.set_cons_succ]
  refine wpAnyH_take (i := 3) (oi := { dst := some 19, op := Op.move (Operand.tmp 1), type := 124, pos := "change.go:96", after := #[], guard := none }) (v := .pointer (some ⟨q, 0, none⟩)) rfl (by kernel_rfl) (by kernel_rfl) (by kernel_rfl) (fun _ _ _ h => h) (Or.inl ⟨by rfl, ?_⟩) trivial ?_
  · intro wx hSw
    first | (go_simp; done) | (go_simp; with_reducible rfl)
  try simp only [Act.put, List.setIfInBounds_toArray, List.set_cons_zero, List.set_cons_succ]
  refine wpAnyH_take (i := 4) (oi := { dst := some 20, op := Op.move (Operand.tmp 7), type := 3, pos := "change.go:96", after := #[], guard := none }) (v := .int .i64 (al : Int)) rfl (by kernel_rfl) (by kernel_rfl) (by kernel_rfl) (fun _ _ _ h => h) (Or.inl ⟨by rfl, ?_⟩) trivial ?_
  · intro wx hSw
    first | (go_simp; done) | (go_simp; with_reducible rfl)
  try simp only [Act.put, List.setIfInBounds_toArray, List.set_cons_zero, List.set_cons_succ]
  refine wpAnyH_take (i := 6) (oi := { dst := some 22, op := Op.move (Operand.tmp 1), type := 124, pos := "change.go:96", after := #[], guard := none }) (v := .pointer (some ⟨q, 0, none⟩)) rfl (by kernel_rfl) (by kernel_rfl) (by kernel_rfl) (fun _ _ _ h => h) (Or.inl ⟨by rfl, ?_⟩) trivial ?_
  · intro wx hSw
    first | (go_simp; done) | (go_simp; with_reducible rfl)
  try simp only [Act.put, List.setIfInBounds_toArray, List.set_cons_zero, List.set_cons_succ]
  refine wpAnyH_take (i := 7) (oi := { dst := some 23, op := Op.move (Operand.tmp 2), type := 3, pos := "change.go:96", after := #[], guard := none }) (v := .int .i64 (k : Int)) rfl (by kernel_rfl) (by kernel_rfl) (by kernel_rfl) (fun _ _ _ h => h) (Or.inl ⟨by rfl, ?_⟩) trivial ?_
  · intro wx hSw
    first | (go_simp; done) | (go_simp; with_reducible rfl)
  try simp only [Act.put, List.setIfInBounds_toArray, List.set_cons_zero, List.set_cons_succ]
  refine wpAnyH_ready (rs := [5]) (by kernel_rfl) (by simp) ?_
  refine AllReadyH.cons rfl (fun K hK => ?_) AllReadyH.nil
  go_simp
  refine Calls.mono (HEa.out _ HU0.out.2.1) ?_
  rintro e V5a ⟨rfl, mx, hx⟩
  have HV5a : Hid (Pg V5a p B ∧ Pg V5a q D ∧ Kept (fun i => i = p) w V5a) := by rw [hx]; exact ⟨HU0.out.1.dr mx, HU0.out.2.1.dr mx, HU0.out.2.2.drewN mx⟩
  clear hx HU0
  refine hK.out _ _ trivial (fun _ => ?_)
  clear hK K
  try simp only [Act.put, List.setIfInBounds_toArray, List.set_cons_zero, List.set_cons_succ]
  refine wpAnyH_ready (rs := [8]) (by kernel_rfl) (by simp) ?_
  refine AllReadyH.cons rfl (fun K hK => ?_) AllReadyH.nil
  go_simp
  refine Calls.mono (HEk.out _ HV5a.out.2.1) ?_
  rintro e V8a ⟨rfl, mx, hx⟩
  have HV8a : Hid (Pg V8a p B ∧ Pg V8a q D ∧ Kept (fun i => i = p) w V8a) := by rw [hx]; exact ⟨HV5a.out.1.dr mx, HV5a.out.2.1.dr mx, HV5a.out.2.2.drewN mx⟩
  clear hx HV5a
  refine hK.out _ _ trivial (fun _ => ?_)
  clear hK K
  try simp only [Act.put, List.setIfInBounds_toArray, List.set_cons_zero, List.set_cons_succ]
  refine wpAnyH_take (i := 9) (oi := { dst := some 25, op := Op.slice 156 (Operand.tmp 18) (some (Operand.tmp 21)) (some (Operand.tmp 24)) none, type := 98, pos := "change.go:96", after := #[{ on := 2, ground := Ground.data }, { on := 5, ground := Ground.data }, { on := 8, ground := Ground.data }], guard := none }) (v := .slice (some ⟨q, oa, none⟩) La ca) rfl (by kernel_rfl) (by kernel_rfl) (by kernel_rfl) (fun _ _ _ h => h) (Or.inl ⟨by rfl, ?_⟩) trivial ?_
  · intro wx hSw
    first | (go_simp; done) | (go_simp; with_reducible rfl)
  try simp only [Act.put, List.setIfInBounds_toArray, List.set_cons_zero, List.set_cons_succ]
  refine wpAnyH_take (i := 10) (oi := { dst := some 8, op := Op.assign (Operand.tmp 25), type := 98, pos := "change.go:96", after := #[{ on := 9, ground := Ground.data }, { on := 8, ground := Ground.chain }, { on := 0, ground := Ground.phase }, { on := 1, ground := Ground.phase }, { on := 2, ground := Ground.phase }, { on := 3, ground := Ground.phase }, { on := 4, ground := Ground.phase }, { on := 5, ground := Ground.phase }, { on := 6, ground := Ground.phase }, { on := 7, ground := Ground.phase }, { on := 8, ground := Ground.phase }, { on := 9, ground := Ground.phase }], guard := none }) (v := .slice (some ⟨q, oa, none⟩) La ca) rfl (by kernel_rfl) (by kernel_rfl) (by kernel_rfl) (fun _ _ _ h => h) (Or.inl ⟨by rfl, ?_⟩) trivial ?_
  · intro wx hSw
    first | (go_simp; done) | (go_simp; with_reducible rfl)
  try simp only [Act.put, List.setIfInBounds_toArray, List.set_cons_zero, List.set_cons_succ]
  refine wpAnyH_done (by kernel_rfl) ?_ _
  try simp only [Exit.then]
  clear HEa hsl1
  go_wp2_with fail
  refine Calls.mono (HEk.out _ HV8a.out.2.1) ?_; rintro e w3 ⟨rfl, m3, hw3⟩
  have HP3 : Hid (Pg w3 p B ∧ Pg w3 q D ∧ Kept (fun i => i = p) w w3) := by rw [hw3]; exact ⟨HV8a.out.1.dr m3, HV8a.out.2.1.dr m3, HV8a.out.2.2.drewN m3⟩
  clear hw3 HV8a HEk
  go_wp2_with fail
  refine Calls.mono (HEn.out _ HP3.out.1) ?_; rintro e w4 ⟨rfl, m4, hw4⟩
  have HU1 : Hid (Pg w4.drew p B ∧ Pg w4.drew q D ∧ Kept (fun i => i = p) w w4.drew) := by rw [hw4]; exact ⟨⟨HP3.out.1.blk, HP3.out.1.len⟩, ⟨HP3.out.2.1.blk, HP3.out.2.1.len⟩, (HP3.out.2.2.drewN m4).drew⟩
  clear hw4 HP3
  go_wp2_with fail
  refine wp_region_held_drew (S := (fun (_ : World) => True)) (by kernel_rfl) trivial (fun _ => ?_)
  refine wpAnyH_take (i := 0) (oi := { dst := some 33, op := Op.move (Operand.tmp 0), type := 124, pos := "change.go:98", after := #[], guard := none }) (v := .pointer (some ⟨p, 0, none⟩)) rfl (by kernel_rfl) (by kernel_rfl) (by kernel_rfl) (fun _ _ _ h => h) (Or.inl ⟨by rfl, ?_⟩) trivial ?_
  · intro wx hSw
    first | (go_simp; done) | (go_simp; with_reducible rfl)
  try simp only [Act.put, List.setIfInBounds_toArray, List.set_cons_zero, List.set_cons_succ]
  refine wpAnyH_take (i := 1) (oi := { dst := some 34, op := Op.nilCheck (Operand.tmp 33), type := 0, pos := "change.go:98", after := #[{ on := 0, ground := Ground.data }], guard := none }) (v := .pointer (some ⟨p, 0, none⟩)) rfl (by kernel_rfl) (by kernel_rfl) (by kernel_rfl) (fun _ _ _ h => h) (Or.inl ⟨by rfl, ?_⟩) trivial ?_
  · intro wx hSw
    first | (go_simp; done) | (go_simp; with_reducible rfl)
  try simp only [Act.put, List.setIfInBounds_toArray, List.set_cons_zero, List.set_cons_succ]
  refine wpAnyH_take (i := 2) (oi := { dst := some 35, op := Op.fieldAddr 158 (Operand.tmp 34) 0, type := 0, pos := "change.go:98", after := #[{ on := 1, ground := Ground.data }], guard := none }) (v := .pointer (some ⟨p, 0, none⟩)) rfl (by kernel_rfl) (by kernel_rfl) (by kernel_rfl) (fun _ _ _ h => h) (Or.inl ⟨by rfl, ?_⟩) trivial ?_
  · intro wx hSw
    first | (go_simp; done) | (go_simp; with_reducible rfl)
  try simp only [Act.put, List.setIfInBounds_toArray, List.set_cons_zero, List.set_cons_succ]
  refine wpAnyH_take (i := 3) (oi := { dst := some 36, op := Op.move (Operand.tmp 0), type := 124, pos := "change.go:98", after := #[], guard := none }) (v := .pointer (some ⟨p, 0, none⟩)) rfl (by kernel_rfl) (by kernel_rfl) (by kernel_rfl) (fun _ _ _ h => h) (Or.inl ⟨by rfl, ?_⟩) trivial ?_
  · intro wx hSw
    first | (go_simp; done) | (go_simp; with_reducible rfl)
  try simp only [Act.put, List.setIfInBounds_toArray, List.set_cons_zero, List.set_cons_succ]
  refine wpAnyH_take (i := 4) (oi := { dst := some 37, op := Op.move (Operand.tmp 6), type := 3, pos := "change.go:98", after := #[], guard := none }) (v := .int .i64 (n : Int)) rfl (by kernel_rfl) (by kernel_rfl) (by kernel_rfl) (fun _ _ _ h => h) (Or.inl ⟨by rfl, ?_⟩) trivial ?_
  · intro wx hSw
    first | (go_simp; done) | (go_simp; with_reducible rfl)
  try simp only [Act.put, List.setIfInBounds_toArray, List.set_cons_zero, List.set_cons_succ]
  refine wpAnyH_take (i := 6) (oi := { dst := some 39, op := Op.move (Operand.tmp 8), type := 98, pos := "change.go:98", after := #[], guard := none }) (v := .slice (some ⟨q, oa, none⟩) La ca) rfl (by kernel_rfl) (by kernel_rfl) (by kernel_rfl) (fun _ _ _ h => h) (Or.inl ⟨by rfl, ?_⟩) trivial ?_
  · intro wx hSw
    first | (go_simp; done) | (go_simp; with_reducible rfl)
  try simp only [Act.put, List.setIfInBounds_toArray, List.set_cons_zero, List.set_cons_succ]
  refine wpAnyH_take (i := 7) (oi := { dst := some 40, op := Op.call { callee := Callee.builtin Builtin.len, args := #[Operand.tmp 39], argTypes := #[98] }, type := 3, pos := "change.go:98", after := #[{ on := 6, ground := Ground.data }], guard := none }) (v := .int .i64 (La : Int)) rfl (by kernel_rfl) (by kernel_rfl) (by kernel_rfl) (fun _ _ _ h => h) (Or.inl ⟨by rfl, ?_⟩) trivial ?_
  · intro wx hSw
    first | (go_simp; done) | (go_simp; with_reducible rfl)
  try simp only [Act.put, List.setIfInBounds_toArray, List.set_cons_zero, List.set_cons_succ]
  refine wpAnyH_take (i := 10) (oi := { dst := some 43, op := Op.move (Operand.tmp 8), type := 98, pos := "change.go:98", after := #[], guard := none }) (v := .slice (some ⟨q, oa, none⟩) La ca) rfl (by kernel_rfl) (by kernel_rfl) (by kernel_rfl) (fun _ _ _ h => h) (Or.inl ⟨by rfl, ?_⟩) trivial ?_
  · intro wx hSw
    first | (go_simp; done) | (go_simp; with_reducible rfl)
  try simp only [Act.put, List.setIfInBounds_toArray, List.set_cons_zero, List.set_cons_succ]
  refine wpAnyH_ready (rs := [5]) (by kernel_rfl) (by simp) ?_
  refine AllReadyH.cons rfl (fun K hK => ?_) AllReadyH.nil
  go_simp
  refine Calls.mono (HEn.out _ HU1.out.1) ?_
  rintro e V5b ⟨rfl, mx, hx⟩
  have HV5b : Hid (Pg V5b p B ∧ Pg V5b q D ∧ Kept (fun i => i = p) w V5b) := by rw [hx]; exact ⟨HU1.out.1.dr mx, HU1.out.2.1.dr mx, HU1.out.2.2.drewN mx⟩
  clear hx HU1
  refine hK.out _ _ trivial (fun _ => ?_)
  clear hK K
  try simp only [Act.put, List.setIfInBounds_toArray, List.set_cons_zero, List.set_cons_succ]
  refine wpAnyH_take (i := 8) (oi := { dst := some 41, op := Op.binOp BinOp.sub 3 (Operand.tmp 38) (Operand.tmp 40) 3, type := 3, pos := "change.go:98", after := #[{ on := 5, ground := Ground.data }, { on := 7, ground := Ground.data }], guard := none }) (v := .int .i64 (lo : Int)) rfl (by kernel_rfl) (by kernel_rfl) (by kernel_rfl) (fun _ _ _ h => h) (Or.inl ⟨by rfl, ?_⟩) trivial ?_
  · intro wx hSw
    first | (go_simp; done) | (go_simp; with_reducible rfl)
  try simp only [Act.put, List.setIfInBounds_toArray, List.set_cons_zero, List.set_cons_succ]
  refine wpAnyH_take (i := 9) (oi := { dst := some 42, op := Op.slice 156 (Operand.tmp 35) (some (Operand.tmp 41)) none none, type := 98, pos := "change.go:98", after := #[{ on := 2, ground := Ground.data }, { on := 8, ground := Ground.data }], guard := none }) (v := .slice (some ⟨p, ol, none⟩) cl cl) rfl (by kernel_rfl) (by kernel_rfl) (by kernel_rfl) (fun _ _ _ h => h) (Or.inl ⟨by rfl, ?_⟩) trivial ?_
  · intro wx hSw
    first | (go_simp; done) | (go_simp; with_reducible rfl)
  try simp only [Act.put, List.setIfInBounds_toArray, List.set_cons_zero, List.set_cons_succ]
  refine wpAnyH_ready (rs := [11]) (by kernel_rfl) (by simp) ?_
  refine AllReadyH.cons rfl (fun K hK => ?_) AllReadyH.nil
  refine dr_copy (o := { dst := some 44, op := Op.call { callee := Callee.builtin Builtin.copy, args := #[Operand.tmp 42, Operand.tmp 43], argTypes := #[98, 98] }, type := 3, pos := "change.go:98", after := #[{ on := 9, ground := Ground.data }, { on := 10, ground := Ground.data }, { on := 5, ground := Ground.chain }], guard := none }) rfl rfl (HC1.out _ HV5b.out.1 HV5b.out.2.1) ?_
  refine hK.out _ _ trivial (fun _ => ?_)
  clear hK K
  try simp only [Act.put]
  refine wpAnyH_done (by kernel_rfl) ?_ _
  try simp only [Exit.then]
  obtain ⟨B1, hB1⟩ : ∃ B1, wr B lo SG = B1 := ⟨_, rfl⟩
  have hQ1 := HW1.out _ HV5b.out.1
  have kq := kept_sets V5b p ol (bv SG)
  have hR1 := HV5b.out.2.1.kept kq (fun e => HNE.out e.symm)
  have hK1 := HV5b.out.2.2.trans kq (fun _ z => .inl z)
  obtain ⟨U, hU⟩ : ∃ U, V5b.setCells p ol (bv SG) = U := ⟨_, rfl⟩
  rw [hB1] at hQ1
  rw [hU] at hQ1 hR1 hK1 ⊢
  have HU2 : Hid (Pg U.drew p B1 ∧ Pg U.drew q D ∧ Kept (fun i => i = p) w U.drew) := ⟨⟨hQ1.blk, hQ1.len⟩, ⟨hR1.blk, hR1.len⟩, hK1.drew⟩
  have HB1 : Hid (wr B lo SG = B1) := hB1
  have HC2' : Hid (∀ W, Pg W p B1 → Pg W q D → (Builtin.copy_ #[98, 98] 3 #[.slice (some ⟨p, op, none⟩) cp cp, .slice (some ⟨q, oq, none⟩) Lp cq]).run Tryz.prog W = .ok (.int .i64 (Lp : Int)) (W.setCells p op (bv SP))) := fun W => HC2.out W B1
  clear hQ1 hR1 hK1 kq hU hB1 HV5b HC1 HW1 HEn hsl2 HC2 s2
  rename Hid (∀ W, Pg W p B1 → Pg W q D → _) => HC2
  go_wp2_with fail
  refine wp_region_held_drew (S := (fun (_ : World) => True)) (by kernel_rfl) trivial (fun _ => ?_)
  refine wpAnyH_take (i := 0) (oi := { dst := some 45, op := Op.move (Operand.tmp 0), type := 124, pos := "change.go:99", after := #[], guard := none }) (v := .pointer (some ⟨p, 0, none⟩)) rfl (by kernel_rfl) (by kernel_rfl) (by kernel_rfl) (fun _ _ _ h => h) (Or.inl ⟨by rfl, ?_⟩) trivial ?_
  · intro wx hSw
    first | (go_simp; done) | (go_simp; with_reducible rfl)
  try simp only [Act.put, List.setIfInBounds_toArray, List.set_cons_zero, List.set_cons_succ]
  refine wpAnyH_take (i := 1) (oi := { dst := some 46, op := Op.nilCheck (Operand.tmp 45), type := 0, pos := "change.go:99", after := #[{ on := 0, ground := Ground.data }], guard := none }) (v := .pointer (some ⟨p, 0, none⟩)) rfl (by kernel_rfl) (by kernel_rfl) (by kernel_rfl) (fun _ _ _ h => h) (Or.inl ⟨by rfl, ?_⟩) trivial ?_
  · intro wx hSw
    first | (go_simp; done) | (go_simp; with_reducible rfl)
  try simp only [Act.put, List.setIfInBounds_toArray, List.set_cons_zero, List.set_cons_succ]
  refine wpAnyH_take (i := 2) (oi := { dst := some 47, op := Op.fieldAddr 158 (Operand.tmp 46) 0, type := 0, pos := "change.go:99", after := #[{ on := 1, ground := Ground.data }], guard := none }) (v := .pointer (some ⟨p, 0, none⟩)) rfl (by kernel_rfl) (by kernel_rfl) (by kernel_rfl) (fun _ _ _ h => h) (Or.inl ⟨by rfl, ?_⟩) trivial ?_
  · intro wx hSw
    first | (go_simp; done) | (go_simp; with_reducible rfl)
  try simp only [Act.put, List.setIfInBounds_toArray, List.set_cons_zero, List.set_cons_succ]
  refine wpAnyH_take (i := 3) (oi := { dst := some 48, op := Op.move (Operand.tmp 6), type := 3, pos := "change.go:99", after := #[], guard := none }) (v := .int .i64 (n : Int)) rfl (by kernel_rfl) (by kernel_rfl) (by kernel_rfl) (fun _ _ _ h => h) (Or.inl ⟨by rfl, ?_⟩) trivial ?_
  · intro wx hSw
    first | (go_simp; done) | (go_simp; with_reducible rfl)
  try simp only [Act.put, List.setIfInBounds_toArray, List.set_cons_zero, List.set_cons_succ]
  refine wpAnyH_take (i := 6) (oi := { dst := some 51, op := Op.move (Operand.tmp 1), type := 124, pos := "change.go:99", after := #[], guard := none }) (v := .pointer (some ⟨q, 0, none⟩)) rfl (by kernel_rfl) (by kernel_rfl) (by kernel_rfl) (fun _ _ _ h => h) (Or.inl ⟨by rfl, ?_⟩) trivial ?_
  · intro wx hSw
    first | (go_simp; done) | (go_simp; with_reducible rfl)
  try simp only [Act.put, List.setIfInBounds_toArray, List.set_cons_zero, List.set_cons_succ]
  refine wpAnyH_take (i := 7) (oi := { dst := some 52, op := Op.nilCheck (Operand.tmp 51), type := 0, pos := "change.go:99", after := #[{ on := 6, ground := Ground.data }], guard := none }) (v := .pointer (some ⟨q, 0, none⟩)) rfl (by kernel_rfl) (by kernel_rfl) (by kernel_rfl) (fun _ _ _ h => h) (Or.inl ⟨by rfl, ?_⟩) trivial ?_
  · intro wx hSw
    first | (go_simp; done) | (go_simp; with_reducible rfl)
  try simp only [Act.put, List.setIfInBounds_toArray, List.set_cons_zero, List.set_cons_succ]
  refine wpAnyH_take (i := 8) (oi := { dst := some 53, op := Op.fieldAddr 158 (Operand.tmp 52) 0, type := 0, pos := "change.go:99", after := #[{ on := 7, ground := Ground.data }], guard := none }) (v := .pointer (some ⟨q, 0, none⟩)) rfl (by kernel_rfl) (by kernel_rfl) (by kernel_rfl) (fun _ _ _ h => h) (Or.inl ⟨by rfl, ?_⟩) trivial ?_
  · intro wx hSw
    first | (go_simp; done) | (go_simp; with_reducible rfl)
  try simp only [Act.put, List.setIfInBounds_toArray, List.set_cons_zero, List.set_cons_succ]
  refine wpAnyH_take (i := 9) (oi := { dst := some 54, op := Op.move (Operand.tmp 2), type := 3, pos := "change.go:99", after := #[], guard := none }) (v := .int .i64 (k : Int)) rfl (by kernel_rfl) (by kernel_rfl) (by kernel_rfl) (fun _ _ _ h => h) (Or.inl ⟨by rfl, ?_⟩) trivial ?_
  · intro wx hSw
    first | (go_simp; done) | (go_simp; with_reducible rfl)
  try simp only [Act.put, List.setIfInBounds_toArray, List.set_cons_zero, List.set_cons_succ]
  refine wpAnyH_take (i := 11) (oi := { dst := some 56, op := Op.move (Operand.tmp 7), type := 3, pos := "change.go:99", after := #[], guard := none }) (v := .int .i64 (al : Int)) rfl (by kernel_rfl) (by kernel_rfl) (by kernel_rfl) (fun _ _ _ h => h) (Or.inl ⟨by rfl, ?_⟩) trivial ?_
  · intro wx hSw
    first | (go_simp; done) | (go_simp; with_reducible rfl)
  try simp only [Act.put, List.setIfInBounds_toArray, List.set_cons_zero, List.set_cons_succ]
  refine wpAnyH_ready (rs := [4]) (by kernel_rfl) (by simp) ?_
  refine AllReadyH.cons rfl (fun K hK => ?_) AllReadyH.nil
  go_simp
  refine Calls.mono (HPn.out _ ) ?_
  rintro e V4c ⟨rfl, mx, hx⟩
  have HV4c : Hid (Pg V4c p B1 ∧ Pg V4c q D ∧ Kept (fun i => i = p) w V4c) := by rw [hx]; exact ⟨HU2.out.1.dr mx, HU2.out.2.1.dr mx, HU2.out.2.2.drewN mx⟩
  clear hx HU2
  refine hK.out _ _ trivial (fun _ => ?_)
  clear hK K
  try simp only [Act.put, List.setIfInBounds_toArray, List.set_cons_zero, List.set_cons_succ]
  refine wpAnyH_take (i := 5) (oi := { dst := some 50, op := Op.slice 156 (Operand.tmp 47) (some (Operand.tmp 49)) none none, type := 98, pos := "change.go:99", after := #[{ on := 2, ground := Ground.data }, { on := 4, ground := Ground.data }], guard := none }) (v := .slice (some ⟨p, op, none⟩) cp cp) rfl (by kernel_rfl) (by kernel_rfl) (by kernel_rfl) (fun _ _ _ h => h) (Or.inl ⟨by rfl, ?_⟩) trivial ?_
  · intro wx hSw
    first | (go_simp; done) | (go_simp; with_reducible rfl)
  try simp only [Act.put, List.setIfInBounds_toArray, List.set_cons_zero, List.set_cons_succ]
  refine wpAnyH_ready (rs := [10]) (by kernel_rfl) (by simp) ?_
  refine AllReadyH.cons rfl (fun K hK => ?_) AllReadyH.nil
  go_simp
  refine Calls.mono (HPk.out _ ) ?_
  rintro e V10c ⟨rfl, mx, hx⟩
  have HV10c : Hid (Pg V10c p B1 ∧ Pg V10c q D ∧ Kept (fun i => i = p) w V10c) := by rw [hx]; exact ⟨HV4c.out.1.dr mx, HV4c.out.2.1.dr mx, HV4c.out.2.2.drewN mx⟩
  clear hx HV4c
  refine hK.out _ _ trivial (fun _ => ?_)
  clear hK K
  try simp only [Act.put, List.setIfInBounds_toArray, List.set_cons_zero, List.set_cons_succ]
  refine wpAnyH_ready (rs := [12]) (by kernel_rfl) (by simp) ?_
  refine AllReadyH.cons rfl (fun K hK => ?_) AllReadyH.nil
  go_simp
  refine Calls.mono (HPa.out _ ) ?_
  rintro e V12c ⟨rfl, mx, hx⟩
  have HV12c : Hid (Pg V12c p B1 ∧ Pg V12c q D ∧ Kept (fun i => i = p) w V12c) := by rw [hx]; exact ⟨HV10c.out.1.dr mx, HV10c.out.2.1.dr mx, HV10c.out.2.2.drewN mx⟩
  clear hx HV10c
  refine hK.out _ _ trivial (fun _ => ?_)
  clear hK K
  try simp only [Act.put, List.setIfInBounds_toArray, List.set_cons_zero, List.set_cons_succ]
  refine wpAnyH_take (i := 13) (oi := { dst := some 58, op := Op.slice 156 (Operand.tmp 53) (some (Operand.tmp 55)) (some (Operand.tmp 57)) none, type := 98, pos := "change.go:99", after := #[{ on := 8, ground := Ground.data }, { on := 10, ground := Ground.data }, { on := 12, ground := Ground.data }], guard := none }) (v := .slice (some ⟨q, oq, none⟩) Lp cq) rfl (by kernel_rfl) (by kernel_rfl) (by kernel_rfl) (fun _ _ _ h => h) (Or.inl ⟨by rfl, ?_⟩) trivial ?_
  · intro wx hSw
    first | (go_simp; done) | (go_simp; with_reducible rfl)
  try simp only [Act.put, List.setIfInBounds_toArray, List.set_cons_zero, List.set_cons_succ]
  refine wpAnyH_ready (rs := [14]) (by kernel_rfl) (by simp) ?_
  refine AllReadyH.cons rfl (fun K hK => ?_) AllReadyH.nil
  refine dr_copy (o := { dst := some 59, op := Op.call { callee := Callee.builtin Builtin.copy, args := #[Operand.tmp 50, Operand.tmp 58], argTypes := #[98, 98] }, type := 3, pos := "change.go:99", after := #[{ on := 5, ground := Ground.data }, { on := 13, ground := Ground.data }, { on := 12, ground := Ground.chain }], guard := none }) rfl rfl (HC2.out _ HV12c.out.1 HV12c.out.2.1) ?_
  refine hK.out _ _ trivial (fun _ => ?_)
  clear hK K
  try simp only [Act.put]
  refine wpAnyH_done (by kernel_rfl) ?_ _
  try simp only [Exit.then]
  obtain ⟨B2, hB2⟩ : ∃ B2, wr B1 pn SP = B2 := ⟨_, rfl⟩
  have hQ2 := HW2.out _ _ HV12c.out.1
  have kq := kept_sets V12c p op (bv SP)
  have hR2 := HV12c.out.2.1.kept kq (fun e => HNE.out e.symm)
  have hK2 := HV12c.out.2.2.trans kq (fun _ z => .inl z)
  obtain ⟨U2, hU2⟩ : ∃ U, V12c.setCells p op (bv SP) = U := ⟨_, rfl⟩
  rw [hB2] at hQ2
  rw [hU2] at hQ2 hR2 hK2 ⊢
  have HQ2 : Hid (Pg U2 p B2 ∧ Pg U2 q D ∧ Kept (fun i => i = p) w U2) := ⟨hQ2, hR2, hK2⟩
  have HB2 : Hid (wr B1 pn SP = B2) := hB2
  clear hQ2 hR2 hK2 kq hU2 hB2 HV12c HC2 HW2 HPn HPk HPa hsl3 hsl4
  go_wp2_with fail
  (try simp only [s3, s4])
  go_loopw [11] (fun v11 wr => ∃ j : Nat, j ≤ m ∧ v11 = .int .i64 ((n + j : Nat) : Int) ∧ Hid (Pg wr p (shiftB B2 n mv j) ∧ Pg wr q D ∧ Kept (fun i => i = p) w wr))
    (fun v11 _ => ct - (intOf v11).toNat)
  case atStart => exact ⟨0, Nat.zero_le _, rfl, HQ2.out⟩
  case round =>
    obtain ⟨j, hj, rfl, HI⟩ := hrel
    clear HQ2
    by_cases hjm : j < m
    · obtain ⟨i, hi⟩ : ∃ i, n + j = i := ⟨_, rfl⟩
      have hlt : (i : Int) < (ct : Int) := by have := HN.out.1; omega
      obtain ⟨pi, hpi⟩ : ∃ pi, 8 + 2 * i = pi := ⟨_, rfl⟩
      have hq10 := num10 hi.symm hjm HN.out.2
      have HPI : Hid (pi < 256) := by rw [← hpi]; exact hq10.1
      have HPi : Hid (∀ W : World, Calls Tryz.prog 141 #[.int .i64 (i : Int)] W fun e w' => e = .returned (.int .i64 (pi : Int)) ∧ ∃ j, w' = W.drewN j) := fun W => by have := placeOf_is i hq10.2 W; rw [hpi] at this; exact this
      obtain ⟨X, hX⟩ : ∃ X, shiftB B2 n mv j = X := ⟨_, rfl⟩
      rw [hX] at HI
      obtain ⟨y, hy⟩ : ∃ y, (((byteAt X pi : Int) - mv) % 256).toNat = y := ⟨_, rfl⟩
      obtain ⟨m8, hm8⟩ : ∃ m8, IntKind.u8.wrap mv = m8 := ⟨_, rfl⟩
      have hsv := shift_val (byteAt X pi) mv
      rw [hm8, hy] at hsv
      have HNX : Hid (shiftB B2 n mv (j + 1) = X.set pi (UInt8.ofNat y)) := by
        show (shiftB B2 n mv j).set (8 + 2 * (n + j)) (UInt8.ofNat (((byteAt (shiftB B2 n mv j) (8 + 2 * (n + j)) : Int) - mv) % 256).toNat) = _
        rw [hX, hi, hpi, hy]
      have hs1 := hsv.1
      have HY : Hid (y < 256) := hsv.2
      have hpib : (pi : Int) < 256 := num9 HPI.out
      rw [hi]
      have HII : Hid (n + j = i) := hi
      have HU3 : Hid (Pg wr.drew p X ∧ Pg wr.drew q D ∧ Kept (fun i => i = p) w wr.drew) := ⟨⟨HI.out.1.blk, HI.out.1.len⟩, ⟨HI.out.2.1.blk, HI.out.2.1.len⟩, HI.out.2.2.drew⟩
      clear HI hi hpi hq10 hX hy hsv
      go_wp2_with fail
      refine wp_region_held_drew (S := (fun (_ : World) => True)) (by kernel_rfl) trivial (fun _ => ?_)
      refine wpAnyH_take (i := 0) (oi := { dst := some 71, op := Op.move (Operand.tmp 0), type := 124, pos := "change.go:102", after := #[], guard := none }) (v := .pointer (some ⟨p, 0, none⟩)) rfl (by kernel_rfl) (by kernel_rfl) (by kernel_rfl) (fun _ _ _ h => h) (Or.inl ⟨by rfl, ?_⟩) trivial ?_
      · intro wx hSw
        first | (go_simp; done) | (go_simp; with_reducible rfl)
      try simp only [Act.put, List.setIfInBounds_toArray, List.set_cons_zero, List.set_cons_succ]
      refine wpAnyH_take (i := 1) (oi := { dst := some 72, op := Op.move (Operand.tmp 11), type := 3, pos := "change.go:102", after := #[], guard := none }) (v := .int .i64 (i : Int)) rfl (by kernel_rfl) (by kernel_rfl) (by kernel_rfl) (fun _ _ _ h => h) (Or.inl ⟨by rfl, ?_⟩) trivial ?_
      · intro wx hSw
        first | (go_simp; done) | (go_simp; with_reducible rfl)
      try simp only [Act.put, List.setIfInBounds_toArray, List.set_cons_zero, List.set_cons_succ]
      refine wpAnyH_take (i := 3) (oi := { dst := some 74, op := Op.nilCheck (Operand.tmp 71), type := 0, pos := "change.go:102", after := #[{ on := 0, ground := Ground.data }], guard := none }) (v := .pointer (some ⟨p, 0, none⟩)) rfl (by kernel_rfl) (by kernel_rfl) (by kernel_rfl) (fun _ _ _ h => h) (Or.inl ⟨by rfl, ?_⟩) trivial ?_
      · intro wx hSw
        first | (go_simp; done) | (go_simp; with_reducible rfl)
      try simp only [Act.put, List.setIfInBounds_toArray, List.set_cons_zero, List.set_cons_succ]
      refine wpAnyH_take (i := 4) (oi := { dst := some 75, op := Op.fieldAddr 158 (Operand.tmp 74) 0, type := 0, pos := "change.go:102", after := #[{ on := 3, ground := Ground.data }], guard := none }) (v := .pointer (some ⟨p, 0, none⟩)) rfl (by kernel_rfl) (by kernel_rfl) (by kernel_rfl) (fun _ _ _ h => h) (Or.inl ⟨by rfl, ?_⟩) trivial ?_
      · intro wx hSw
        first | (go_simp; done) | (go_simp; with_reducible rfl)
      try simp only [Act.put, List.setIfInBounds_toArray, List.set_cons_zero, List.set_cons_succ]
      refine wpAnyH_take (i := 7) (oi := { dst := some 78, op := Op.move (Operand.tmp 9), type := 3, pos := "change.go:102", after := #[], guard := none }) (v := .int .i64 mv) rfl (by kernel_rfl) (by kernel_rfl) (by kernel_rfl) (fun _ _ _ h => h) (Or.inl ⟨by rfl, ?_⟩) trivial ?_
      · intro wx hSw
        first | (go_simp; done) | (go_simp; with_reducible rfl)
      try simp only [Act.put, List.setIfInBounds_toArray, List.set_cons_zero, List.set_cons_succ]
      refine wpAnyH_take (i := 8) (oi := { dst := some 79, op := Op.convert 3 5 (Operand.tmp 78), type := 5, pos := "change.go:102", after := #[{ on := 7, ground := Ground.data }], guard := none }) (v := .int .u8 m8) rfl (by kernel_rfl) (by kernel_rfl) (by kernel_rfl) (fun _ _ _ h => h) (Or.inl ⟨by rfl, ?_⟩) trivial ?_
      · intro wx hSw
        first | (go_simp; done) | (go_simp; with_reducible rfl)
      try simp only [Act.put, List.setIfInBounds_toArray, List.set_cons_zero, List.set_cons_succ]
      refine wpAnyH_take (i := 10) (oi := { dst := some 81, op := Op.nilCheck (Operand.tmp 71), type := 0, pos := "change.go:102", after := #[{ on := 0, ground := Ground.data }], guard := none }) (v := .pointer (some ⟨p, 0, none⟩)) rfl (by kernel_rfl) (by kernel_rfl) (by kernel_rfl) (fun _ _ _ h => h) (Or.inl ⟨by rfl, ?_⟩) trivial ?_
      · intro wx hSw
        first | (go_simp; done) | (go_simp; with_reducible rfl)
      try simp only [Act.put, List.setIfInBounds_toArray, List.set_cons_zero, List.set_cons_succ]
      refine wpAnyH_take (i := 11) (oi := { dst := some 82, op := Op.fieldAddr 158 (Operand.tmp 81) 0, type := 0, pos := "change.go:102", after := #[{ on := 10, ground := Ground.data }], guard := none }) (v := .pointer (some ⟨p, 0, none⟩)) rfl (by kernel_rfl) (by kernel_rfl) (by kernel_rfl) (fun _ _ _ h => h) (Or.inl ⟨by rfl, ?_⟩) trivial ?_
      · intro wx hSw
        first | (go_simp; done) | (go_simp; with_reducible rfl)
      try simp only [Act.put, List.setIfInBounds_toArray, List.set_cons_zero, List.set_cons_succ]
      refine wpAnyH_ready (rs := [2]) (by kernel_rfl) (by simp) ?_
      refine AllReadyH.cons rfl (fun K hK => ?_) AllReadyH.nil
      go_simp
      refine Calls.mono (HPi.out _ ) ?_
      rintro e V2d ⟨rfl, mx, hx⟩
      have HV2d : Hid (Pg V2d p X ∧ Pg V2d q D ∧ Kept (fun i => i = p) w V2d) := by rw [hx]; exact ⟨HU3.out.1.dr mx, HU3.out.2.1.dr mx, HU3.out.2.2.drewN mx⟩
      clear hx HU3
      refine hK.out _ _ trivial (fun _ => ?_)
      clear hK K
      try simp only [Act.put, List.setIfInBounds_toArray, List.set_cons_zero, List.set_cons_succ]
      refine wpAnyH_take (i := 5) (oi := { dst := some 76, op := Op.indexAddr 156 (Operand.tmp 75) (Operand.tmp 73), type := 0, pos := "change.go:102", after := #[{ on := 4, ground := Ground.data }, { on := 2, ground := Ground.data }], guard := none }) (v := .pointer (some ⟨p, pi, none⟩)) rfl (by kernel_rfl) (by kernel_rfl) (by kernel_rfl) (fun _ _ _ h => h) (Or.inl ⟨by rfl, ?_⟩) trivial ?_
      · intro wx hSw
        first | (go_simp; done) | (go_simp; with_reducible rfl)
      try simp only [Act.put, List.setIfInBounds_toArray, List.set_cons_zero, List.set_cons_succ]
      refine wpAnyH_ready (rs := [6]) (by kernel_rfl) (by simp) ?_
      refine AllReadyH.cons rfl (fun K hK => ?_) AllReadyH.nil
      have cc := HV2d.out.1.cell pi HPI.out
      go_simp
      refine hK.out _ _ trivial (fun _ => ?_)
      clear hK K
      try simp only [Act.put, List.setIfInBounds_toArray, List.set_cons_zero, List.set_cons_succ]
      refine wpAnyH_take (i := 9) (oi := { dst := some 80, op := Op.binOp BinOp.sub 5 (Operand.tmp 77) (Operand.tmp 79) 5, type := 5, pos := "change.go:102", after := #[{ on := 6, ground := Ground.data }, { on := 8, ground := Ground.data }], guard := none }) (v := .int .u8 (y : Int)) rfl (by kernel_rfl) (by kernel_rfl) (by kernel_rfl) (fun _ _ _ h => h) (Or.inl ⟨by rfl, ?_⟩) trivial ?_
      · intro wx hSw
        first | (go_simp; done) | (go_simp; with_reducible rfl)
      try simp only [Act.put, List.setIfInBounds_toArray, List.set_cons_zero, List.set_cons_succ]
      refine wpAnyH_take (i := 12) (oi := { dst := some 83, op := Op.indexAddr 156 (Operand.tmp 82) (Operand.tmp 73), type := 0, pos := "change.go:102", after := #[{ on := 11, ground := Ground.data }, { on := 2, ground := Ground.data }, { on := 0, ground := Ground.phase }, { on := 1, ground := Ground.phase }, { on := 2, ground := Ground.phase }, { on := 3, ground := Ground.phase }, { on := 4, ground := Ground.phase }, { on := 5, ground := Ground.phase }, { on := 6, ground := Ground.phase }, { on := 7, ground := Ground.phase }, { on := 8, ground := Ground.phase }, { on := 9, ground := Ground.phase }], guard := none }) (v := .pointer (some ⟨p, pi, none⟩)) rfl (by kernel_rfl) (by kernel_rfl) (by kernel_rfl) (fun _ _ _ h => h) (Or.inl ⟨by rfl, ?_⟩) trivial ?_
      · intro wx hSw
        first | (go_simp; done) | (go_simp; with_reducible rfl)
      try simp only [Act.put, List.setIfInBounds_toArray, List.set_cons_zero, List.set_cons_succ]
      refine wpAnyH_ready (rs := [13]) (by kernel_rfl) (by simp) ?_
      refine AllReadyH.cons rfl (fun K hK => ?_) AllReadyH.nil
      have cd := HV2d.out.1.cell pi HPI.out
      have fd := HV2d.out.1.fz
      go_simp
      refine hK.out _ _ trivial (fun _ => ?_)
      clear hK K
      try simp only [Act.put, List.setIfInBounds_toArray, List.set_cons_zero, List.set_cons_succ]
      refine wpAnyH_done (by kernel_rfl) ?_ _
      try simp only [Exit.then]
      have hP6 := HV2d.out.1.set1 pi (UInt8.ofNat y)
      rw [byteAt_val y HY.out] at hP6
      have kq := kept_set1 V2d p pi (.int .u8 (y : Int))
      have hR6 := HV2d.out.2.1.kept kq (fun e => HNE.out e.symm)
      have hK6 := HV2d.out.2.2.trans kq (fun _ z => .inl z)
      obtain ⟨U6, hU6⟩ : ∃ U, V2d.setCell ⟨p, pi, none⟩ (.int .u8 (y : Int)) = U := ⟨_, rfl⟩
      rw [hU6] at hP6 hR6 hK6 ⊢
      have HQ6 : Hid (Pg U6 p (shiftB B2 n mv (j + 1)) ∧ Pg U6 q D ∧ Kept (fun i => i = p) w U6) := ⟨by rw [HNX.out]; exact hP6, hR6, hK6⟩
      have hib : (i : Int) + 1 ≤ 1000 := by have := HN.out.1; have := HCTn.out; have := HII.out; omega
      clear hP6 kq hR6 hK6 hU6 HV2d HNX hs1 hm8 hpib
      go_wp2_with fail
      go_roundw
      case rel =>
        have e : Value.int .i64 ((i : Int) + 1) = .int .i64 ((n + (j + 1) : Nat) : Int) := by
          have := HII.out
          have e1 : ((n + (j + 1) : Nat) : Int) = (i : Int) + 1 := by omega
          rw [e1]
        exact ⟨j + 1, hjm, e, HQ6.out⟩
      case measure =>
        have := HII.out
        have := HN.out.1
        simp [intOf]
        omega
    · have hje : n + j = ct := by have := HN.out.1; omega
      have hjj : j = m := by have := HN.out.1; omega
      rw [hjj] at HI
      rw [hje]
      have hge : ¬ (ct : Int) < (ct : Int) := by omega
      clear hje hjj hjm hj
      go_wp2_with fail
      refine Calls.mono (HTL.out _ _ HI.out.1) ?_; rintro e w9 ⟨rfl, g1, g2⟩
      have HG : Hid (Pg w9 p (tallyB (shiftB B2 n mv m) ct) ∧ Kept (fun i => i = p) w w9) := ⟨g1, HI.out.2.2.trans g2 (fun _ z => .inl z)⟩
      clear g1 g2 HI
      go_wp2_with fail
      go_end0
      rw [HB1.out, HB2.out]
      exact ⟨rfl, HG.out⟩
end Go.Proofs.YtkhpmmmildcceaaGreat
