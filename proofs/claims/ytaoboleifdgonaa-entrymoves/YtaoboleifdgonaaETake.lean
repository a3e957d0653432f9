/- entry: Take, and the document's. -/
import Derived.Test.YtaoboleifdgonaaEMem
namespace Go.Proofs.Ytaoboleifdgonaa
open Go.ChangeShapes Go.WideShapes Go.RowKit
set_option linter.unusedVariables false
set_option maxRecDepth 100000

/-- The cells of a row of seven values that an operation is read of. -/
theorem row7 {w : World} {a : Option Addr} {c : Nat} {x0 x1 x2 x3 x4 x5 x6 : V} (h : Row w (.slice a 7 c) [x0, x1, x2, x3, x4, x5, x6]) :
    ∃ b o, a = some ⟨b, o, none⟩ ∧ w.cell? ⟨b, o + 1, none⟩ = some (.int .i64 x0.n) ∧ w.cell? ⟨b, o + 5, none⟩ = some (.string x1.s) ∧ w.cell? ⟨b, o + 8, none⟩ = some (.string x2.s) ∧ w.cell? ⟨b, o + 11, none⟩ = some (.string x3.s) ∧ w.cell? ⟨b, o + 13, none⟩ = some (.int .i64 x4.n) ∧ w.cell? ⟨b, o + 16, none⟩ = some (.int .i64 x5.n) ∧ w.cell? ⟨b, o + 19, none⟩ = some (.int .i64 x6.n) := by
  rcases h with ⟨_, _, _, e⟩ | ⟨b, o, c', e, h⟩
  · cases e
  · cases e
    exact ⟨b, o, rfl, (h 0 (by simp)).c1, (h 1 (by simp)).c2, (h 2 (by simp)).c2, (h 3 (by simp)).c2, (h 4 (by simp)).c1, (h 5 (by simp)).c1, (h 6 (by simp)).c1⟩
theorem seven_of (r : List V) (h : r.length = 7) : ∃ x0 x1 x2 x3 x4 x5 x6, r = [x0, x1, x2, x3, x4, x5, x6] := by
  match r, h with
  | [x0, x1, x2, x3, x4, x5, x6], _ => exact ⟨_, _, _, _, _, _, _, rfl⟩
theorem CellsF.seven {w : World} {b : Nat} {l : List Value} (h : CellsF w b l) (hl : l.length = 7) (v0 v1 v2 v3 v4 v5 v6 : Value) :
    CellsF (((((((w.setCell ⟨b, 0, none⟩ v0).setCell ⟨b, 1, none⟩ v1).setCell ⟨b, 2, none⟩ v2).setCell ⟨b, 3, none⟩ v3).setCell ⟨b, 4, none⟩ v4).setCell ⟨b, 5, none⟩ v5).setCell ⟨b, 6, none⟩ v6) b [v0, v1, v2, v3, v4, v5, v6] := by
  match l, hl with
  | [u0, u1, u2, u3, u4, u5, u6], _ =>
    exact ((((((h.set 0 v0 (by simp)).set 1 v1 (by simp)).set 2 v2 (by simp)).set 3 v3 (by simp)).set 4 v4 (by simp)).set 5 v5 (by simp)).set 6 v6 (by simp)
theorem below_seven {B : Nat} {w w' : World} (h : Below B w w') (b : Nat) (hb : B ≤ b) (v0 v1 v2 v3 v4 v5 v6 : Value) :
    Below B w (((((((w'.setCell ⟨b, 0, none⟩ v0).setCell ⟨b, 1, none⟩ v1).setCell ⟨b, 2, none⟩ v2).setCell ⟨b, 3, none⟩ v3).setCell ⟨b, 4, none⟩ v4).setCell ⟨b, 5, none⟩ v5).setCell ⟨b, 6, none⟩ v6) :=
  below_set (below_set (below_set (below_set (below_set (below_set (below_set h _ _ _ hb) _ _ _ hb) _ _ _ hb) _ _ _ hb) _ _ _ hb) _ _ _ hb) _ _ _ hb
/-- What Take answers of a row. -/
def TakeO (T : Option (List V)) (v : Value) : Prop := (∃ k sku loc to qty id due, T = some (opR k sku loc to qty id due) ∧ mayO k sku loc to qty id due ∧ v = .tuple #[oo k sku loc to qty id due, .int .i64 0]) ∨ ((¬ ∃ k sku loc to qty id due, T = some (opR k sku loc to qty id due) ∧ mayO k sku loc to qty id due) ∧ v = .tuple #[oo 0 ⟨#[]⟩ ⟨#[]⟩ ⟨#[]⟩ 0 0 0, .int .i64 50])
theorem TakeO.one {T : Option (List V)} {v v' : Value} (h : TakeO T v) (h' : TakeO T v') : v = v' := by
  rcases h with ⟨k, sku, loc, to, qty, id, due, e, m, rfl⟩ | ⟨h, rfl⟩
  · rcases h' with ⟨k', sku', loc', to', qty', id', due', e', m', rfl⟩ | ⟨h', rfl⟩
    · rw [e] at e'
      have := Option.some.inj e'
      simp only [opR, List.cons.injEq, V.mk.injEq] at this
      obtain ⟨⟨_, rfl, _⟩, ⟨_, _, rfl⟩, ⟨_, _, rfl⟩, ⟨_, _, rfl⟩, ⟨_, rfl, _⟩, ⟨_, rfl, _⟩, ⟨_, rfl, _⟩, _⟩ := this
      rfl
    · exact absurd ⟨_, _, _, _, _, _, _, e, m⟩ h'
  · rcases h' with ⟨k', sku', loc', to', qty', id', due', e', m', rfl⟩ | ⟨h', rfl⟩
    · exact absurd ⟨_, _, _, _, _, _, _, e', m'⟩ h
    · rfl
theorem opR_self {x0 x1 x2 x3 x4 x5 x6 : V} {k : Int} {sku loc to : ByteArray} {qty id due : Int} (h : [x0, x1, x2, x3, x4, x5, x6] = opR k sku loc to qty id due) : k = x0.n ∧ sku = x1.s ∧ loc = x2.s ∧ to = x3.s ∧ qty = x4.n ∧ id = x5.n ∧ due = x6.n := by
  simp only [opR, List.cons.injEq] at h
  obtain ⟨rfl, rfl, rfl, rfl, rfl, rfl, rfl, _⟩ := h
  exact ⟨rfl, rfl, rfl, rfl, rfl, rfl, rfl⟩
/-- The document's letters of an operation's row. -/
def opLetters : ByteArray := ⟨#[110, 116, 116, 116, 110, 110, 110]⟩
theorem may1 {x : V} (hk : x.k = 1) (hm : x.may) : x = ⟨1, x.n, ⟨#[]⟩⟩ := by
  obtain ⟨k, n, s⟩ := x
  have hk' : k = 1 := hk
  subst hk'
  have hm' : mayV 1 n s := hm
  have : s.size = 0 := by unfold mayV at hm'; omega
  rw [empty_of this]
theorem may2 {x : V} (hk : x.k = 2) (hm : x.may) : x = ⟨2, 0, x.s⟩ := by
  obtain ⟨k, n, s⟩ := x
  have hk' : k = 2 := hk
  subst hk'
  have hm' : mayV 2 n s := hm
  have : n = 0 := by unfold mayV at hm'; omega
  subst this
  rfl
theorem kinds_op {x0 x1 x2 x3 x4 x5 x6 : V} (hf : fits [x0, x1, x2, x3, x4, x5, x6]) : kindsP [x0, x1, x2, x3, x4, x5, x6] opLetters ↔ [x0, x1, x2, x3, x4, x5, x6] = opR x0.n x1.s x2.s x3.s x4.n x5.n x6.n := by
  constructor
  · intro h
    have h0 := h.2 0 (by simp) (by decide)
    have h1 := h.2 1 (by simp) (by decide)
    have h2 := h.2 2 (by simp) (by decide)
    have h3 := h.2 3 (by simp) (by decide)
    have h4 := h.2 4 (by simp) (by decide)
    have h5 := h.2 5 (by simp) (by decide)
    have h6 := h.2 6 (by simp) (by decide)
    unfold opR
    have e0 : x0 = ⟨1, x0.n, ⟨#[]⟩⟩ := may1 (show x0.k = 1 from h0.1) h0.2
    have e1 : x1 = ⟨2, 0, x1.s⟩ := may2 (show x1.k = 2 from h1.1) h1.2
    have e2 : x2 = ⟨2, 0, x2.s⟩ := may2 (show x2.k = 2 from h2.1) h2.2
    have e3 : x3 = ⟨2, 0, x3.s⟩ := may2 (show x3.k = 2 from h3.1) h3.2
    have e4 : x4 = ⟨1, x4.n, ⟨#[]⟩⟩ := may1 (show x4.k = 1 from h4.1) h4.2
    have e5 : x5 = ⟨1, x5.n, ⟨#[]⟩⟩ := may1 (show x5.k = 1 from h5.1) h5.2
    have e6 : x6 = ⟨1, x6.n, ⟨#[]⟩⟩ := may1 (show x6.k = 1 from h6.1) h6.2
    rw [← e0, ← e1, ← e2, ← e3, ← e4, ← e5, ← e6]
  · intro h
    refine ⟨rfl, fun i hi hi' => ?_⟩
    have hm : ([x0, x1, x2, x3, x4, x5, x6][i]).may := hf _ (List.getElem_mem hi)
    simp only [opR, List.cons.injEq, and_true] at h
    obtain ⟨e0, e1, e2, e3, e4, e5, e6⟩ := h
    match i, hi with
    | 0, _ => exact ⟨by show x0.k = 1; rw [e0], hm⟩
    | 1, _ => exact ⟨by show x1.k = 2; rw [e1], hm⟩
    | 2, _ => exact ⟨by show x2.k = 2; rw [e2], hm⟩
    | 3, _ => exact ⟨by show x3.k = 2; rw [e3], hm⟩
    | 4, _ => exact ⟨by show x4.k = 1; rw [e4], hm⟩
    | 5, _ => exact ⟨by show x5.k = 1; rw [e5], hm⟩
    | 6, _ => exact ⟨by show x6.k = 1; rw [e6], hm⟩
set_option maxHeartbeats 4000000 in
theorem refTakeO_is (s : ByteArray) (hs : s.size ≤ 1000000) (w : World) : Calls Try.prog 15 #[.string s] w fun e w' => (∃ v, e = .returned v ∧ TakeO (takeR s) v) ∧ Below w.heap.size w w' := by
  have HT : Hid _ := fun w => refTake_is s hs w
  have HFW : Hid _ := take_fwd s
  obtain ⟨T, hT⟩ : ∃ T, takeR s = T := ⟨_, rfl⟩
  rw [hT] at HT HFW ⊢
  clear hT
  go_enter Try.func15, Try.ntmps15
  go_wp2_with fail
  refine Calls.mono (HT.out _) ?_; rintro e w1 ⟨h1, k1⟩
  have HZ : Hid (CellsF w1 w.heap.size [.int .i64 0, .string ⟨#[]⟩, .string ⟨#[]⟩, .string ⟨#[]⟩, .int .i64 0, .int .i64 0, .int .i64 0]) := (CellsF.new w [.int .i64 0, .string ⟨#[]⟩, .string ⟨#[]⟩, .string ⟨#[]⟩, .int .i64 0, .int .i64 0, .int .i64 0] 23 (by simp)).next k1
  have HB1 : Hid (Below w.heap.size w w1) := Below.next (below1 _ _) k1
  cases T with
  | none =>
    have h1' : e = .returned (.tuple #[.slice none 0 0, .int .i64 50]) := h1
    subst h1'
    clear h1 k1
    have z0 : w1.cell? ⟨w.heap.size, 0, none⟩ = some (.int .i64 0) := HZ.out.cs 0 _ rfl
    have z1 : w1.cell? ⟨w.heap.size, 1, none⟩ = some (.string ⟨#[]⟩) := HZ.out.cs 1 _ rfl
    have z2 : w1.cell? ⟨w.heap.size, 2, none⟩ = some (.string ⟨#[]⟩) := HZ.out.cs 2 _ rfl
    have z3 : w1.cell? ⟨w.heap.size, 3, none⟩ = some (.string ⟨#[]⟩) := HZ.out.cs 3 _ rfl
    have z4 : w1.cell? ⟨w.heap.size, 4, none⟩ = some (.int .i64 0) := HZ.out.cs 4 _ rfl
    have z5 : w1.cell? ⟨w.heap.size, 5, none⟩ = some (.int .i64 0) := HZ.out.cs 5 _ rfl
    have z6 : w1.cell? ⟨w.heap.size, 6, none⟩ = some (.int .i64 0) := HZ.out.cs 6 _ rfl
    have f0 := HZ.out.fz 0
    have f1 := HZ.out.fz 1
    have f2 := HZ.out.fz 2
    have f3 := HZ.out.fz 3
    have f4 := HZ.out.fz 4
    have f5 := HZ.out.fz 5
    have f6 := HZ.out.fz 6
    go_wp2_with fail
    try simp only [Exit.inBlock, Exit.then]
    refine bodyPost_ret (end_cell_tmp rfl rfl (loadOp _ (HZ.out.seven rfl _ _ _ _ _ _ _) rfl)) rfl ?_
    exact ⟨⟨_, rfl, .inr ⟨(fun ⟨_, _, _, _, _, _, _, q, _⟩ => by cases q), rfl⟩⟩, below_seven HB1.out _ (Nat.le_refl _) _ _ _ _ _ _ _⟩
  | some r =>
    obtain ⟨ra, rc, rfl, R1⟩ := (show ∃ a c, e = .returned (.tuple #[.slice a r.length c, .int .i64 0]) ∧ Row w1 (.slice a r.length c) r from h1)
    obtain ⟨hf1, hf2, hf3, _⟩ := HFW.out r rfl
    by_cases h7 : r.length = 7
    ·
        obtain ⟨x0, x1, x2, x3, x4, x5, x6, hr⟩ := seven_of r h7
        have HRX : Hid (r = [x0, x1, x2, x3, x4, x5, x6]) := hr
        rw [h7] at R1 ⊢
        rw [hr] at R1 hf2
        clear hr
        have HR1 : Hid (Row w1 (.slice ra 7 rc) [x0, x1, x2, x3, x4, x5, x6]) := R1
        have HFI : Hid (fits [x0, x1, x2, x3, x4, x5, x6]) := hf2
        obtain ⟨b, o, rfl, c0, c1, c2, c3, c4, c5, c6⟩ := row7 R1
        have HKD : Hid _ := kinds_is (some ⟨b, o, none⟩) rc 7 [x0, x1, x2, x3, x4, x5, x6] rfl (by omega) opLetters (by decide) (fits_small hf2) w1 R1
        have HKO : Hid _ := kinds_op hf2
        have HMO0 := fun w => refMayO_is x0.n x1.s x2.s x3.s x4.n x5.n x6.n w
        have HYES : Hid (∀ (he : [x0, x1, x2, x3, x4, x5, x6] = opR x0.n x1.s x2.s x3.s x4.n x5.n x6.n) (hm : mayO x0.n x1.s x2.s x3.s x4.n x5.n x6.n), TakeO (some [x0, x1, x2, x3, x4, x5, x6]) (.tuple #[oo x0.n x1.s x2.s x3.s x4.n x5.n x6.n, .int .i64 0])) := fun he hm => .inl ⟨_, _, _, _, _, _, _, congrArg some he, hm, rfl⟩
        have HNO : Hid (¬ ([x0, x1, x2, x3, x4, x5, x6] = opR x0.n x1.s x2.s x3.s x4.n x5.n x6.n ∧ mayO x0.n x1.s x2.s x3.s x4.n x5.n x6.n) → ¬ ∃ k sku loc to qty id due, some [x0, x1, x2, x3, x4, x5, x6] = some (opR k sku loc to qty id due) ∧ mayO k sku loc to qty id due) := fun hn ⟨k, sku, loc, to, qty, id, due, q, m⟩ => hn (by obtain ⟨rfl, rfl, rfl, rfl, rfl, rfl, rfl⟩ := opR_self (Option.some.inj q); exact ⟨Option.some.inj q, m⟩)
        clear R1 h1 k1 hf1 hf2 hf3 HFW HT
        go_wp2_with fail
        refine Calls.mono HKD.out ?_; rintro e w2 ⟨⟨kb, rfl, hkb⟩, k2⟩
        have HZ2 : Hid (CellsF w2 w.heap.size [.int .i64 0, .string ⟨#[]⟩, .string ⟨#[]⟩, .string ⟨#[]⟩, .int .i64 0, .int .i64 0, .int .i64 0]) := HZ.out.next k2
        have HB2 : Hid (Below w.heap.size w w2) := Below.next HB1.out k2
        have d0 : w2.cell? ⟨b, o + 1, none⟩ = some (.int .i64 x0.n) := (k2.cell (p := ⟨b, o + 1, none⟩) (World.block_lt_of_cell? w1 _ c0)).trans c0
        have d1 : w2.cell? ⟨b, o + 5, none⟩ = some (.string x1.s) := (k2.cell (p := ⟨b, o + 5, none⟩) (World.block_lt_of_cell? w1 _ c1)).trans c1
        have d2 : w2.cell? ⟨b, o + 8, none⟩ = some (.string x2.s) := (k2.cell (p := ⟨b, o + 8, none⟩) (World.block_lt_of_cell? w1 _ c2)).trans c2
        have d3 : w2.cell? ⟨b, o + 11, none⟩ = some (.string x3.s) := (k2.cell (p := ⟨b, o + 11, none⟩) (World.block_lt_of_cell? w1 _ c3)).trans c3
        have d4 : w2.cell? ⟨b, o + 13, none⟩ = some (.int .i64 x4.n) := (k2.cell (p := ⟨b, o + 13, none⟩) (World.block_lt_of_cell? w1 _ c4)).trans c4
        have d5 : w2.cell? ⟨b, o + 16, none⟩ = some (.int .i64 x5.n) := (k2.cell (p := ⟨b, o + 16, none⟩) (World.block_lt_of_cell? w1 _ c5)).trans c5
        have d6 : w2.cell? ⟨b, o + 19, none⟩ = some (.int .i64 x6.n) := (k2.cell (p := ⟨b, o + 19, none⟩) (World.block_lt_of_cell? w1 _ c6)).trans c6
        have HKB : Hid (kb = true ↔ [x0, x1, x2, x3, x4, x5, x6] = opR x0.n x1.s x2.s x3.s x4.n x5.n x6.n) := hkb.trans HKO.out
        clear hkb k2 HKD c0 c1 c2 c3 c4 c5 c6
        cases kb with
        | false =>
          have HNR : Hid (¬ [x0, x1, x2, x3, x4, x5, x6] = opR x0.n x1.s x2.s x3.s x4.n x5.n x6.n) := fun q => by have := HKB.out.2 q; cases this
          have z0 : w2.cell? ⟨w.heap.size, 0, none⟩ = some (.int .i64 0) := HZ2.out.cs 0 _ rfl
          have z1 : w2.cell? ⟨w.heap.size, 1, none⟩ = some (.string ⟨#[]⟩) := HZ2.out.cs 1 _ rfl
          have z2 : w2.cell? ⟨w.heap.size, 2, none⟩ = some (.string ⟨#[]⟩) := HZ2.out.cs 2 _ rfl
          have z3 : w2.cell? ⟨w.heap.size, 3, none⟩ = some (.string ⟨#[]⟩) := HZ2.out.cs 3 _ rfl
          have z4 : w2.cell? ⟨w.heap.size, 4, none⟩ = some (.int .i64 0) := HZ2.out.cs 4 _ rfl
          have z5 : w2.cell? ⟨w.heap.size, 5, none⟩ = some (.int .i64 0) := HZ2.out.cs 5 _ rfl
          have z6 : w2.cell? ⟨w.heap.size, 6, none⟩ = some (.int .i64 0) := HZ2.out.cs 6 _ rfl
          have f0 := HZ2.out.fz 0
          have f1 := HZ2.out.fz 1
          have f2 := HZ2.out.fz 2
          have f3 := HZ2.out.fz 3
          have f4 := HZ2.out.fz 4
          have f5 := HZ2.out.fz 5
          have f6 := HZ2.out.fz 6
          clear d0 d1 d2 d3 d4 d5 d6
          go_wp2_with fail
          try simp only [Exit.inBlock, Exit.then]
          refine bodyPost_ret (end_cell_tmp rfl rfl (loadOp _ (HZ2.out.seven rfl _ _ _ _ _ _ _) rfl)) rfl ?_
          exact ⟨⟨_, rfl, .inr ⟨(by rw [HRX.out]; exact HNO.out (fun q => HNR.out q.1)), rfl⟩⟩, below_seven HB2.out _ (Nat.le_refl _) _ _ _ _ _ _ _⟩
        | true =>
          have HNR : Hid ([x0, x1, x2, x3, x4, x5, x6] = opR x0.n x1.s x2.s x3.s x4.n x5.n x6.n) := HKB.out.1 rfl
          go_wp2_with fail
          go_region_held (fun (w' : World) => (w'.cell? ⟨b, o + 1, none⟩ = some (.int .i64 x0.n) ∧ w'.cell? ⟨b, o + 5, none⟩ = some (.string x1.s) ∧ w'.cell? ⟨b, o + 8, none⟩ = some (.string x2.s) ∧ w'.cell? ⟨b, o + 11, none⟩ = some (.string x3.s) ∧ w'.cell? ⟨b, o + 13, none⟩ = some (.int .i64 x4.n) ∧ w'.cell? ⟨b, o + 16, none⟩ = some (.int .i64 x5.n) ∧ w'.cell? ⟨b, o + 19, none⟩ = some (.int .i64 x6.n))) (first | (with_reducible assumption) | exact ⟨d0, d1, d2, d3, d4, d5, d6⟩ | go_keep) (fail)
          have HW : Hid (Below w2.heap.size w2 (w2.alloc (.cells #[.int .i64 x0.n, .string x1.s, .string x2.s, .string x3.s, .int .i64 x4.n, .int .i64 x5.n, .int .i64 x6.n] 23)).drew) := (below1 _ _).drew
          have HZW : Hid (CellsF (w2.alloc (.cells #[.int .i64 x0.n, .string x1.s, .string x2.s, .string x3.s, .int .i64 x4.n, .int .i64 x5.n, .int .i64 x6.n] 23)).drew w.heap.size [.int .i64 0, .string ⟨#[]⟩, .string ⟨#[]⟩, .string ⟨#[]⟩, .int .i64 0, .int .i64 0, .int .i64 0]) := HZ2.out.next HW.out
          have HOW : Hid (CellsF (w2.alloc (.cells #[.int .i64 x0.n, .string x1.s, .string x2.s, .string x3.s, .int .i64 x4.n, .int .i64 x5.n, .int .i64 x6.n] 23)).drew w2.heap.size [.int .i64 x0.n, .string x1.s, .string x2.s, .string x3.s, .int .i64 x4.n, .int .i64 x5.n, .int .i64 x6.n]) := (CellsF.new w2 [.int .i64 x0.n, .string x1.s, .string x2.s, .string x3.s, .int .i64 x4.n, .int .i64 x5.n, .int .i64 x6.n] 23 (by simp)).next (Below.refl _ _).drew
          have HBW : Hid (Below w.heap.size w (w2.alloc (.cells #[.int .i64 x0.n, .string x1.s, .string x2.s, .string x3.s, .int .i64 x4.n, .int .i64 x5.n, .int .i64 x6.n] 23)).drew) := Below.next HB2.out HW.out
          generalize (w2.alloc (.cells #[.int .i64 x0.n, .string x1.s, .string x2.s, .string x3.s, .int .i64 x4.n, .int .i64 x5.n, .int .i64 x6.n] 23)).drew = wd at *
          have q0 : wd.cell? ⟨w2.heap.size, 0, none⟩ = some (.int .i64 x0.n) := HOW.out.cs 0 _ rfl
          have q1 : wd.cell? ⟨w2.heap.size, 1, none⟩ = some (.string x1.s) := HOW.out.cs 1 _ rfl
          have q2 : wd.cell? ⟨w2.heap.size, 2, none⟩ = some (.string x2.s) := HOW.out.cs 2 _ rfl
          have q3 : wd.cell? ⟨w2.heap.size, 3, none⟩ = some (.string x3.s) := HOW.out.cs 3 _ rfl
          have q4 : wd.cell? ⟨w2.heap.size, 4, none⟩ = some (.int .i64 x4.n) := HOW.out.cs 4 _ rfl
          have q5 : wd.cell? ⟨w2.heap.size, 5, none⟩ = some (.int .i64 x5.n) := HOW.out.cs 5 _ rfl
          have q6 : wd.cell? ⟨w2.heap.size, 6, none⟩ = some (.int .i64 x6.n) := HOW.out.cs 6 _ rfl
          by_cases hm : mayO x0.n x1.s x2.s x3.s x4.n x5.n x6.n
          · simp only [decide_eq_true hm] at HMO0
            have HMO : Hid _ := HMO0
            clear HMO0
            go_wp2_with fail
            refine Calls.mono (HMO.out _) ?_; rintro e w3 ⟨rfl, k3⟩
            have HZ3 : Hid (CellsF w3 w.heap.size [.int .i64 0, .string ⟨#[]⟩, .string ⟨#[]⟩, .string ⟨#[]⟩, .int .i64 0, .int .i64 0, .int .i64 0]) := HZW.out.next k3
            have HO3 : Hid (CellsF w3 w2.heap.size [.int .i64 x0.n, .string x1.s, .string x2.s, .string x3.s, .int .i64 x4.n, .int .i64 x5.n, .int .i64 x6.n]) := HOW.out.next k3
            have HB3 : Hid (Below w.heap.size w w3) := Below.next HBW.out k3
            clear k3 q0 q1 q2 q3 q4 q5 q6
            have z0 : w3.cell? ⟨w.heap.size, 0, none⟩ = some (.int .i64 0) := HZ3.out.cs 0 _ rfl
            have z1 : w3.cell? ⟨w.heap.size, 1, none⟩ = some (.string ⟨#[]⟩) := HZ3.out.cs 1 _ rfl
            have z2 : w3.cell? ⟨w.heap.size, 2, none⟩ = some (.string ⟨#[]⟩) := HZ3.out.cs 2 _ rfl
            have z3 : w3.cell? ⟨w.heap.size, 3, none⟩ = some (.string ⟨#[]⟩) := HZ3.out.cs 3 _ rfl
            have z4 : w3.cell? ⟨w.heap.size, 4, none⟩ = some (.int .i64 0) := HZ3.out.cs 4 _ rfl
            have z5 : w3.cell? ⟨w.heap.size, 5, none⟩ = some (.int .i64 0) := HZ3.out.cs 5 _ rfl
            have z6 : w3.cell? ⟨w.heap.size, 6, none⟩ = some (.int .i64 0) := HZ3.out.cs 6 _ rfl
            have f0 := HZ3.out.fz 0
            have f1 := HZ3.out.fz 1
            have f2 := HZ3.out.fz 2
            have f3 := HZ3.out.fz 3
            have f4 := HZ3.out.fz 4
            have f5 := HZ3.out.fz 5
            have f6 := HZ3.out.fz 6
            have q0 : w3.cell? ⟨w2.heap.size, 0, none⟩ = some (.int .i64 x0.n) := HO3.out.cs 0 _ rfl
            have q1 : w3.cell? ⟨w2.heap.size, 1, none⟩ = some (.string x1.s) := HO3.out.cs 1 _ rfl
            have q2 : w3.cell? ⟨w2.heap.size, 2, none⟩ = some (.string x2.s) := HO3.out.cs 2 _ rfl
            have q3 : w3.cell? ⟨w2.heap.size, 3, none⟩ = some (.string x3.s) := HO3.out.cs 3 _ rfl
            have q4 : w3.cell? ⟨w2.heap.size, 4, none⟩ = some (.int .i64 x4.n) := HO3.out.cs 4 _ rfl
            have q5 : w3.cell? ⟨w2.heap.size, 5, none⟩ = some (.int .i64 x5.n) := HO3.out.cs 5 _ rfl
            have q6 : w3.cell? ⟨w2.heap.size, 6, none⟩ = some (.int .i64 x6.n) := HO3.out.cs 6 _ rfl
            go_wp2_with fail
            try simp only [Exit.inBlock, Exit.then]
            refine bodyPost_ret (end_cell_tmp rfl rfl (loadOp _ (HZ3.out.seven rfl _ _ _ _ _ _ _) rfl)) rfl ?_
            exact ⟨⟨_, rfl, (by rw [HRX.out]; exact HYES.out HNR.out hm)⟩, below_seven HB3.out _ (Nat.le_refl _) _ _ _ _ _ _ _⟩
          · simp only [decide_eq_false hm] at HMO0
            have HMO : Hid _ := HMO0
            clear HMO0
            go_wp2_with fail
            refine Calls.mono (HMO.out _) ?_; rintro e w3 ⟨rfl, k3⟩
            have HZ3 : Hid (CellsF w3 w.heap.size [.int .i64 0, .string ⟨#[]⟩, .string ⟨#[]⟩, .string ⟨#[]⟩, .int .i64 0, .int .i64 0, .int .i64 0]) := HZW.out.next k3
            have HO3 : Hid (CellsF w3 w2.heap.size [.int .i64 x0.n, .string x1.s, .string x2.s, .string x3.s, .int .i64 x4.n, .int .i64 x5.n, .int .i64 x6.n]) := HOW.out.next k3
            have HB3 : Hid (Below w.heap.size w w3) := Below.next HBW.out k3
            clear k3 q0 q1 q2 q3 q4 q5 q6
            have z0 : w3.cell? ⟨w.heap.size, 0, none⟩ = some (.int .i64 0) := HZ3.out.cs 0 _ rfl
            have z1 : w3.cell? ⟨w.heap.size, 1, none⟩ = some (.string ⟨#[]⟩) := HZ3.out.cs 1 _ rfl
            have z2 : w3.cell? ⟨w.heap.size, 2, none⟩ = some (.string ⟨#[]⟩) := HZ3.out.cs 2 _ rfl
            have z3 : w3.cell? ⟨w.heap.size, 3, none⟩ = some (.string ⟨#[]⟩) := HZ3.out.cs 3 _ rfl
            have z4 : w3.cell? ⟨w.heap.size, 4, none⟩ = some (.int .i64 0) := HZ3.out.cs 4 _ rfl
            have z5 : w3.cell? ⟨w.heap.size, 5, none⟩ = some (.int .i64 0) := HZ3.out.cs 5 _ rfl
            have z6 : w3.cell? ⟨w.heap.size, 6, none⟩ = some (.int .i64 0) := HZ3.out.cs 6 _ rfl
            have f0 := HZ3.out.fz 0
            have f1 := HZ3.out.fz 1
            have f2 := HZ3.out.fz 2
            have f3 := HZ3.out.fz 3
            have f4 := HZ3.out.fz 4
            have f5 := HZ3.out.fz 5
            have f6 := HZ3.out.fz 6
            go_wp2_with fail
            try simp only [Exit.inBlock, Exit.then]
            refine bodyPost_ret (end_cell_tmp rfl rfl (loadOp _ (HZ3.out.seven rfl _ _ _ _ _ _ _) rfl)) rfl ?_
            exact ⟨⟨_, rfl, .inr ⟨(by rw [HRX.out]; exact HNO.out (fun q => hm q.2)), rfl⟩⟩, below_seven HB3.out _ (Nat.le_refl _) _ _ _ _ _ _ _⟩
    · have h7i : ((r.length : Int) == 7) = false := by simp; omega
      have h7j : ¬ (r.length : Int) = 7 := by omega
      have HKD : Hid _ := kinds_is ra rc r.length r rfl (by omega) opLetters (by decide) (fits_small hf2) w1 R1
      have HNK : Hid (¬ kindsP r opLetters) := fun q => h7 q.1
      have HN7 : Hid (¬ r.length = 7) := h7
      clear h1 k1 R1 hf1 hf2 hf3 h7
      go_wp2_with fail
      refine Calls.mono HKD.out ?_; rintro e w2 ⟨⟨kb, rfl, hkb⟩, k2⟩
      have HZ2 : Hid (CellsF w2 w.heap.size [.int .i64 0, .string ⟨#[]⟩, .string ⟨#[]⟩, .string ⟨#[]⟩, .int .i64 0, .int .i64 0, .int .i64 0]) := HZ.out.next k2
      have HB2 : Hid (Below w.heap.size w w2) := Below.next HB1.out k2
      cases kb with
      | true => exact absurd (hkb.1 rfl) HNK.out
      | false =>
        clear hkb k2 HKD
        have z0 : w2.cell? ⟨w.heap.size, 0, none⟩ = some (.int .i64 0) := HZ2.out.cs 0 _ rfl
        have z1 : w2.cell? ⟨w.heap.size, 1, none⟩ = some (.string ⟨#[]⟩) := HZ2.out.cs 1 _ rfl
        have z2 : w2.cell? ⟨w.heap.size, 2, none⟩ = some (.string ⟨#[]⟩) := HZ2.out.cs 2 _ rfl
        have z3 : w2.cell? ⟨w.heap.size, 3, none⟩ = some (.string ⟨#[]⟩) := HZ2.out.cs 3 _ rfl
        have z4 : w2.cell? ⟨w.heap.size, 4, none⟩ = some (.int .i64 0) := HZ2.out.cs 4 _ rfl
        have z5 : w2.cell? ⟨w.heap.size, 5, none⟩ = some (.int .i64 0) := HZ2.out.cs 5 _ rfl
        have z6 : w2.cell? ⟨w.heap.size, 6, none⟩ = some (.int .i64 0) := HZ2.out.cs 6 _ rfl
        have f0 := HZ2.out.fz 0
        have f1 := HZ2.out.fz 1
        have f2 := HZ2.out.fz 2
        have f3 := HZ2.out.fz 3
        have f4 := HZ2.out.fz 4
        have f5 := HZ2.out.fz 5
        have f6 := HZ2.out.fz 6
        go_wp2_with fail
        try simp only [Exit.inBlock, Exit.then]
        refine bodyPost_ret (end_cell_tmp rfl rfl (loadOp _ (HZ2.out.seven rfl _ _ _ _ _ _ _) rfl)) rfl ?_
        exact ⟨⟨_, rfl, .inr ⟨(fun ⟨_, _, _, _, _, _, _, q, _⟩ => HN7.out (by rw [Option.some.inj q]; rfl)), rfl⟩⟩, below_seven HB2.out _ (Nat.le_refl _) _ _ _ _ _ _ _⟩
set_option maxHeartbeats 4000000 in
theorem takeO_is (s : ByteArray) (hs : s.size ≤ 1000000) (w : World) : Calls Try.prog 14 #[.string s] w fun e w' => (∃ v, e = .returned v ∧ TakeO (takeR s) v) ∧ Below w.heap.size w w' := by
  have HT : Hid _ := fun w => take_is s hs w
  have HFW : Hid _ := take_fwd s
  obtain ⟨T, hT⟩ : ∃ T, takeR s = T := ⟨_, rfl⟩
  rw [hT] at HT HFW ⊢
  clear hT
  go_enter Try.func14, Try.ntmps14
  go_wp2_with fail
  refine Calls.mono (HT.out _) ?_; rintro e w1 ⟨h1, k1⟩
  have HZ : Hid (CellsF w1 w.heap.size [.int .i64 0, .string ⟨#[]⟩, .string ⟨#[]⟩, .string ⟨#[]⟩, .int .i64 0, .int .i64 0, .int .i64 0]) := (CellsF.new w [.int .i64 0, .string ⟨#[]⟩, .string ⟨#[]⟩, .string ⟨#[]⟩, .int .i64 0, .int .i64 0, .int .i64 0] 23 (by simp)).next k1
  have HB1 : Hid (Below w.heap.size w w1) := Below.next (below1 _ _) k1
  cases T with
  | none =>
    have h1' : e = .returned (.tuple #[.slice none 0 0, .int .i64 50]) := h1
    subst h1'
    clear h1 k1
    have z0 : w1.cell? ⟨w.heap.size, 0, none⟩ = some (.int .i64 0) := HZ.out.cs 0 _ rfl
    have z1 : w1.cell? ⟨w.heap.size, 1, none⟩ = some (.string ⟨#[]⟩) := HZ.out.cs 1 _ rfl
    have z2 : w1.cell? ⟨w.heap.size, 2, none⟩ = some (.string ⟨#[]⟩) := HZ.out.cs 2 _ rfl
    have z3 : w1.cell? ⟨w.heap.size, 3, none⟩ = some (.string ⟨#[]⟩) := HZ.out.cs 3 _ rfl
    have z4 : w1.cell? ⟨w.heap.size, 4, none⟩ = some (.int .i64 0) := HZ.out.cs 4 _ rfl
    have z5 : w1.cell? ⟨w.heap.size, 5, none⟩ = some (.int .i64 0) := HZ.out.cs 5 _ rfl
    have z6 : w1.cell? ⟨w.heap.size, 6, none⟩ = some (.int .i64 0) := HZ.out.cs 6 _ rfl
    have f0 := HZ.out.fz 0
    have f1 := HZ.out.fz 1
    have f2 := HZ.out.fz 2
    have f3 := HZ.out.fz 3
    have f4 := HZ.out.fz 4
    have f5 := HZ.out.fz 5
    have f6 := HZ.out.fz 6
    go_wp2_with fail
    try simp only [Exit.inBlock, Exit.then]
    refine bodyPost_ret (end_cell_tmp rfl rfl (loadOp _ (HZ.out.seven rfl _ _ _ _ _ _ _) rfl)) rfl ?_
    exact ⟨⟨_, rfl, .inr ⟨(fun ⟨_, _, _, _, _, _, _, q, _⟩ => by cases q), rfl⟩⟩, below_seven HB1.out _ (Nat.le_refl _) _ _ _ _ _ _ _⟩
  | some r =>
    obtain ⟨ra, rc, rfl, R1⟩ := (show ∃ a c, e = .returned (.tuple #[.slice a r.length c, .int .i64 0]) ∧ Row w1 (.slice a r.length c) r from h1)
    obtain ⟨hf1, hf2, hf3, _⟩ := HFW.out r rfl
    by_cases h7 : r.length = 7
    ·
        obtain ⟨x0, x1, x2, x3, x4, x5, x6, hr⟩ := seven_of r h7
        have HRX : Hid (r = [x0, x1, x2, x3, x4, x5, x6]) := hr
        rw [h7] at R1 ⊢
        rw [hr] at R1 hf2
        clear hr
        have HR1 : Hid (Row w1 (.slice ra 7 rc) [x0, x1, x2, x3, x4, x5, x6]) := R1
        have HFI : Hid (fits [x0, x1, x2, x3, x4, x5, x6]) := hf2
        obtain ⟨b, o, rfl, c0, c1, c2, c3, c4, c5, c6⟩ := row7 R1
        have HSA : Hid (∀ x, x ∈ [x0, x1, x2, x3, x4, x5, x6] → x.s.size ≤ 9223372036854775807) := fits_small hf2
        have HOR : Hid _ := fun w => opRow_is x0.n x1.s x2.s x3.s x4.n x5.n x6.n w
        have HMO0 := fun w => mayO_is x0.n x1.s x2.s x3.s x4.n x5.n x6.n w
        have HIR : Hid (∀ (B : Nat) (w : World), Row w (.slice (some ⟨b, o, none⟩) 7 rc) [x0, x1, x2, x3, x4, x5, x6] → Row w (.slice (some ⟨B, 0, none⟩) 7 7) (opR x0.n x1.s x2.s x3.s x4.n x5.n x6.n) → Calls Try.prog 38 #[.slice (some ⟨b, o, none⟩) 7 rc, .slice (some ⟨B, 0, none⟩) 7 7] w fun e w' => Ans (fits [x0, x1, x2, x3, x4, x5, x6] ∧ [x0, x1, x2, x3, x4, x5, x6] = opR x0.n x1.s x2.s x3.s x4.n x5.n x6.n) e ∧ Below w.heap.size w w') := fun B w hr hq => isRow_is _ _ rc 7 7 7 _ _ rfl rfl (by omega) (by omega) HSA.out w hr hq
        have HYES : Hid (∀ (he : [x0, x1, x2, x3, x4, x5, x6] = opR x0.n x1.s x2.s x3.s x4.n x5.n x6.n) (hm : mayO x0.n x1.s x2.s x3.s x4.n x5.n x6.n), TakeO (some [x0, x1, x2, x3, x4, x5, x6]) (.tuple #[oo x0.n x1.s x2.s x3.s x4.n x5.n x6.n, .int .i64 0])) := fun he hm => .inl ⟨_, _, _, _, _, _, _, congrArg some he, hm, rfl⟩
        have HNO : Hid (¬ ([x0, x1, x2, x3, x4, x5, x6] = opR x0.n x1.s x2.s x3.s x4.n x5.n x6.n ∧ mayO x0.n x1.s x2.s x3.s x4.n x5.n x6.n) → ¬ ∃ k sku loc to qty id due, some [x0, x1, x2, x3, x4, x5, x6] = some (opR k sku loc to qty id due) ∧ mayO k sku loc to qty id due) := fun hn ⟨k, sku, loc, to, qty, id, due, q, m⟩ => hn (by obtain ⟨rfl, rfl, rfl, rfl, rfl, rfl, rfl⟩ := opR_self (Option.some.inj q); exact ⟨Option.some.inj q, m⟩)
        clear R1 h1 k1 hf1 hf2 hf3 HFW HT
        go_wp2_with fail
        go_region_held (fun (w' : World) => (w'.cell? ⟨b, o + 1, none⟩ = some (.int .i64 x0.n) ∧ w'.cell? ⟨b, o + 5, none⟩ = some (.string x1.s) ∧ w'.cell? ⟨b, o + 8, none⟩ = some (.string x2.s) ∧ w'.cell? ⟨b, o + 11, none⟩ = some (.string x3.s) ∧ w'.cell? ⟨b, o + 13, none⟩ = some (.int .i64 x4.n) ∧ w'.cell? ⟨b, o + 16, none⟩ = some (.int .i64 x5.n) ∧ w'.cell? ⟨b, o + 19, none⟩ = some (.int .i64 x6.n))) (first | (with_reducible assumption) | exact ⟨c0, c1, c2, c3, c4, c5, c6⟩ | go_keep) (fail)
        have HW : Hid (Below w1.heap.size w1 (w1.alloc (.cells #[.int .i64 x0.n, .string x1.s, .string x2.s, .string x3.s, .int .i64 x4.n, .int .i64 x5.n, .int .i64 x6.n] 23)).drew) := (below1 _ _).drew
        have HZW : Hid (CellsF (w1.alloc (.cells #[.int .i64 x0.n, .string x1.s, .string x2.s, .string x3.s, .int .i64 x4.n, .int .i64 x5.n, .int .i64 x6.n] 23)).drew w.heap.size [.int .i64 0, .string ⟨#[]⟩, .string ⟨#[]⟩, .string ⟨#[]⟩, .int .i64 0, .int .i64 0, .int .i64 0]) := HZ.out.next HW.out
        have HOW : Hid (CellsF (w1.alloc (.cells #[.int .i64 x0.n, .string x1.s, .string x2.s, .string x3.s, .int .i64 x4.n, .int .i64 x5.n, .int .i64 x6.n] 23)).drew w1.heap.size [.int .i64 x0.n, .string x1.s, .string x2.s, .string x3.s, .int .i64 x4.n, .int .i64 x5.n, .int .i64 x6.n]) := (CellsF.new w1 [.int .i64 x0.n, .string x1.s, .string x2.s, .string x3.s, .int .i64 x4.n, .int .i64 x5.n, .int .i64 x6.n] 23 (by simp)).next (Below.refl _ _).drew
        have HBW : Hid (Below w.heap.size w (w1.alloc (.cells #[.int .i64 x0.n, .string x1.s, .string x2.s, .string x3.s, .int .i64 x4.n, .int .i64 x5.n, .int .i64 x6.n] 23)).drew) := Below.next HB1.out HW.out
        have HRW : Hid (Row (w1.alloc (.cells #[.int .i64 x0.n, .string x1.s, .string x2.s, .string x3.s, .int .i64 x4.n, .int .i64 x5.n, .int .i64 x6.n] 23)).drew (.slice (some ⟨b, o, none⟩) 7 rc) [x0, x1, x2, x3, x4, x5, x6]) := HR1.out.next HW.out
        generalize (w1.alloc (.cells #[.int .i64 x0.n, .string x1.s, .string x2.s, .string x3.s, .int .i64 x4.n, .int .i64 x5.n, .int .i64 x6.n] 23)).drew = wd at *
        have q0 : wd.cell? ⟨w1.heap.size, 0, none⟩ = some (.int .i64 x0.n) := HOW.out.cs 0 _ rfl
        have q1 : wd.cell? ⟨w1.heap.size, 1, none⟩ = some (.string x1.s) := HOW.out.cs 1 _ rfl
        have q2 : wd.cell? ⟨w1.heap.size, 2, none⟩ = some (.string x2.s) := HOW.out.cs 2 _ rfl
        have q3 : wd.cell? ⟨w1.heap.size, 3, none⟩ = some (.string x3.s) := HOW.out.cs 3 _ rfl
        have q4 : wd.cell? ⟨w1.heap.size, 4, none⟩ = some (.int .i64 x4.n) := HOW.out.cs 4 _ rfl
        have q5 : wd.cell? ⟨w1.heap.size, 5, none⟩ = some (.int .i64 x5.n) := HOW.out.cs 5 _ rfl
        have q6 : wd.cell? ⟨w1.heap.size, 6, none⟩ = some (.int .i64 x6.n) := HOW.out.cs 6 _ rfl
        go_wp2_with fail
        refine Calls.mono (HOR.out _) ?_; rintro e w3 ⟨B, rfl, R3, k3⟩
        have HI3 : Hid _ := HIR.out B w3 (HRW.out.next k3) R3
        have HZ3 : Hid (CellsF w3 w.heap.size [.int .i64 0, .string ⟨#[]⟩, .string ⟨#[]⟩, .string ⟨#[]⟩, .int .i64 0, .int .i64 0, .int .i64 0]) := HZW.out.next k3
        have HO3 : Hid (CellsF w3 w1.heap.size [.int .i64 x0.n, .string x1.s, .string x2.s, .string x3.s, .int .i64 x4.n, .int .i64 x5.n, .int .i64 x6.n]) := HOW.out.next k3
        have HB3 : Hid (Below w.heap.size w w3) := Below.next HBW.out k3
        clear k3 R3 q0 q1 q2 q3 q4 q5 q6
        go_wp2_with fail
        refine Calls.mono HI3.out ?_; rintro e w4 ⟨⟨kb, rfl, hkb⟩, k4⟩
        have HZ4 : Hid (CellsF w4 w.heap.size [.int .i64 0, .string ⟨#[]⟩, .string ⟨#[]⟩, .string ⟨#[]⟩, .int .i64 0, .int .i64 0, .int .i64 0]) := HZ3.out.next k4
        have HO4 : Hid (CellsF w4 w1.heap.size [.int .i64 x0.n, .string x1.s, .string x2.s, .string x3.s, .int .i64 x4.n, .int .i64 x5.n, .int .i64 x6.n]) := HO3.out.next k4
        have HB4 : Hid (Below w.heap.size w w4) := Below.next HB3.out k4
        have HKB : Hid (kb = true ↔ [x0, x1, x2, x3, x4, x5, x6] = opR x0.n x1.s x2.s x3.s x4.n x5.n x6.n) := ⟨fun q => (hkb.1 q).2, fun q => hkb.2 ⟨HFI.out, q⟩⟩
        clear hkb k4 HI3
        cases kb with
        | false =>
          have HNR : Hid (¬ [x0, x1, x2, x3, x4, x5, x6] = opR x0.n x1.s x2.s x3.s x4.n x5.n x6.n) := fun q => by have := HKB.out.2 q; cases this
          have z0 : w4.cell? ⟨w.heap.size, 0, none⟩ = some (.int .i64 0) := HZ4.out.cs 0 _ rfl
          have z1 : w4.cell? ⟨w.heap.size, 1, none⟩ = some (.string ⟨#[]⟩) := HZ4.out.cs 1 _ rfl
          have z2 : w4.cell? ⟨w.heap.size, 2, none⟩ = some (.string ⟨#[]⟩) := HZ4.out.cs 2 _ rfl
          have z3 : w4.cell? ⟨w.heap.size, 3, none⟩ = some (.string ⟨#[]⟩) := HZ4.out.cs 3 _ rfl
          have z4 : w4.cell? ⟨w.heap.size, 4, none⟩ = some (.int .i64 0) := HZ4.out.cs 4 _ rfl
          have z5 : w4.cell? ⟨w.heap.size, 5, none⟩ = some (.int .i64 0) := HZ4.out.cs 5 _ rfl
          have z6 : w4.cell? ⟨w.heap.size, 6, none⟩ = some (.int .i64 0) := HZ4.out.cs 6 _ rfl
          have f0 := HZ4.out.fz 0
          have f1 := HZ4.out.fz 1
          have f2 := HZ4.out.fz 2
          have f3 := HZ4.out.fz 3
          have f4 := HZ4.out.fz 4
          have f5 := HZ4.out.fz 5
          have f6 := HZ4.out.fz 6
          go_wp2_with fail
          try simp only [Exit.inBlock, Exit.then]
          refine bodyPost_ret (end_cell_tmp rfl rfl (loadOp _ (HZ4.out.seven rfl _ _ _ _ _ _ _) rfl)) rfl ?_
          exact ⟨⟨_, rfl, .inr ⟨(by rw [HRX.out]; exact HNO.out (fun q => HNR.out q.1)), rfl⟩⟩, below_seven HB4.out _ (Nat.le_refl _) _ _ _ _ _ _ _⟩
        | true =>
          have HNR : Hid ([x0, x1, x2, x3, x4, x5, x6] = opR x0.n x1.s x2.s x3.s x4.n x5.n x6.n) := HKB.out.1 rfl
          have q0 : w4.cell? ⟨w1.heap.size, 0, none⟩ = some (.int .i64 x0.n) := HO4.out.cs 0 _ rfl
          have q1 : w4.cell? ⟨w1.heap.size, 1, none⟩ = some (.string x1.s) := HO4.out.cs 1 _ rfl
          have q2 : w4.cell? ⟨w1.heap.size, 2, none⟩ = some (.string x2.s) := HO4.out.cs 2 _ rfl
          have q3 : w4.cell? ⟨w1.heap.size, 3, none⟩ = some (.string x3.s) := HO4.out.cs 3 _ rfl
          have q4 : w4.cell? ⟨w1.heap.size, 4, none⟩ = some (.int .i64 x4.n) := HO4.out.cs 4 _ rfl
          have q5 : w4.cell? ⟨w1.heap.size, 5, none⟩ = some (.int .i64 x5.n) := HO4.out.cs 5 _ rfl
          have q6 : w4.cell? ⟨w1.heap.size, 6, none⟩ = some (.int .i64 x6.n) := HO4.out.cs 6 _ rfl
          by_cases hm : mayO x0.n x1.s x2.s x3.s x4.n x5.n x6.n
          · simp only [decide_eq_true hm] at HMO0
            have HMO : Hid _ := HMO0
            clear HMO0
            go_wp2_with fail
            refine Calls.mono (HMO.out _) ?_; rintro e w5 ⟨rfl, k5⟩
            have HZ5 : Hid (CellsF w5 w.heap.size [.int .i64 0, .string ⟨#[]⟩, .string ⟨#[]⟩, .string ⟨#[]⟩, .int .i64 0, .int .i64 0, .int .i64 0]) := HZ4.out.next k5
            have HO5 : Hid (CellsF w5 w1.heap.size [.int .i64 x0.n, .string x1.s, .string x2.s, .string x3.s, .int .i64 x4.n, .int .i64 x5.n, .int .i64 x6.n]) := HO4.out.next k5
            have HB5 : Hid (Below w.heap.size w w5) := Below.next HB4.out k5
            clear k5 q0 q1 q2 q3 q4 q5 q6
            have z0 : w5.cell? ⟨w.heap.size, 0, none⟩ = some (.int .i64 0) := HZ5.out.cs 0 _ rfl
            have z1 : w5.cell? ⟨w.heap.size, 1, none⟩ = some (.string ⟨#[]⟩) := HZ5.out.cs 1 _ rfl
            have z2 : w5.cell? ⟨w.heap.size, 2, none⟩ = some (.string ⟨#[]⟩) := HZ5.out.cs 2 _ rfl
            have z3 : w5.cell? ⟨w.heap.size, 3, none⟩ = some (.string ⟨#[]⟩) := HZ5.out.cs 3 _ rfl
            have z4 : w5.cell? ⟨w.heap.size, 4, none⟩ = some (.int .i64 0) := HZ5.out.cs 4 _ rfl
            have z5 : w5.cell? ⟨w.heap.size, 5, none⟩ = some (.int .i64 0) := HZ5.out.cs 5 _ rfl
            have z6 : w5.cell? ⟨w.heap.size, 6, none⟩ = some (.int .i64 0) := HZ5.out.cs 6 _ rfl
            have f0 := HZ5.out.fz 0
            have f1 := HZ5.out.fz 1
            have f2 := HZ5.out.fz 2
            have f3 := HZ5.out.fz 3
            have f4 := HZ5.out.fz 4
            have f5 := HZ5.out.fz 5
            have f6 := HZ5.out.fz 6
            have q0 : w5.cell? ⟨w1.heap.size, 0, none⟩ = some (.int .i64 x0.n) := HO5.out.cs 0 _ rfl
            have q1 : w5.cell? ⟨w1.heap.size, 1, none⟩ = some (.string x1.s) := HO5.out.cs 1 _ rfl
            have q2 : w5.cell? ⟨w1.heap.size, 2, none⟩ = some (.string x2.s) := HO5.out.cs 2 _ rfl
            have q3 : w5.cell? ⟨w1.heap.size, 3, none⟩ = some (.string x3.s) := HO5.out.cs 3 _ rfl
            have q4 : w5.cell? ⟨w1.heap.size, 4, none⟩ = some (.int .i64 x4.n) := HO5.out.cs 4 _ rfl
            have q5 : w5.cell? ⟨w1.heap.size, 5, none⟩ = some (.int .i64 x5.n) := HO5.out.cs 5 _ rfl
            have q6 : w5.cell? ⟨w1.heap.size, 6, none⟩ = some (.int .i64 x6.n) := HO5.out.cs 6 _ rfl
            go_wp2_with fail
            try simp only [Exit.inBlock, Exit.then]
            refine bodyPost_ret (end_cell_tmp rfl rfl (loadOp _ (HZ5.out.seven rfl _ _ _ _ _ _ _) rfl)) rfl ?_
            exact ⟨⟨_, rfl, (by rw [HRX.out]; exact HYES.out HNR.out hm)⟩, below_seven HB5.out _ (Nat.le_refl _) _ _ _ _ _ _ _⟩
          · simp only [decide_eq_false hm] at HMO0
            have HMO : Hid _ := HMO0
            clear HMO0
            go_wp2_with fail
            refine Calls.mono (HMO.out _) ?_; rintro e w5 ⟨rfl, k5⟩
            have HZ5 : Hid (CellsF w5 w.heap.size [.int .i64 0, .string ⟨#[]⟩, .string ⟨#[]⟩, .string ⟨#[]⟩, .int .i64 0, .int .i64 0, .int .i64 0]) := HZ4.out.next k5
            have HO5 : Hid (CellsF w5 w1.heap.size [.int .i64 x0.n, .string x1.s, .string x2.s, .string x3.s, .int .i64 x4.n, .int .i64 x5.n, .int .i64 x6.n]) := HO4.out.next k5
            have HB5 : Hid (Below w.heap.size w w5) := Below.next HB4.out k5
            clear k5 q0 q1 q2 q3 q4 q5 q6
            have z0 : w5.cell? ⟨w.heap.size, 0, none⟩ = some (.int .i64 0) := HZ5.out.cs 0 _ rfl
            have z1 : w5.cell? ⟨w.heap.size, 1, none⟩ = some (.string ⟨#[]⟩) := HZ5.out.cs 1 _ rfl
            have z2 : w5.cell? ⟨w.heap.size, 2, none⟩ = some (.string ⟨#[]⟩) := HZ5.out.cs 2 _ rfl
            have z3 : w5.cell? ⟨w.heap.size, 3, none⟩ = some (.string ⟨#[]⟩) := HZ5.out.cs 3 _ rfl
            have z4 : w5.cell? ⟨w.heap.size, 4, none⟩ = some (.int .i64 0) := HZ5.out.cs 4 _ rfl
            have z5 : w5.cell? ⟨w.heap.size, 5, none⟩ = some (.int .i64 0) := HZ5.out.cs 5 _ rfl
            have z6 : w5.cell? ⟨w.heap.size, 6, none⟩ = some (.int .i64 0) := HZ5.out.cs 6 _ rfl
            have f0 := HZ5.out.fz 0
            have f1 := HZ5.out.fz 1
            have f2 := HZ5.out.fz 2
            have f3 := HZ5.out.fz 3
            have f4 := HZ5.out.fz 4
            have f5 := HZ5.out.fz 5
            have f6 := HZ5.out.fz 6
            go_wp2_with fail
            try simp only [Exit.inBlock, Exit.then]
            refine bodyPost_ret (end_cell_tmp rfl rfl (loadOp _ (HZ5.out.seven rfl _ _ _ _ _ _ _) rfl)) rfl ?_
            exact ⟨⟨_, rfl, .inr ⟨(by rw [HRX.out]; exact HNO.out (fun q => hm q.2)), rfl⟩⟩, below_seven HB5.out _ (Nat.le_refl _) _ _ _ _ _ _ _⟩
    · have h7i : ((r.length : Int) == 7) = false := by simp; omega
      have h7j : ¬ (r.length : Int) = 7 := by omega
      have HN7 : Hid (¬ r.length = 7) := h7
      clear h1 k1 R1 hf1 hf2 hf3 h7
      have z0 : w1.cell? ⟨w.heap.size, 0, none⟩ = some (.int .i64 0) := HZ.out.cs 0 _ rfl
      have z1 : w1.cell? ⟨w.heap.size, 1, none⟩ = some (.string ⟨#[]⟩) := HZ.out.cs 1 _ rfl
      have z2 : w1.cell? ⟨w.heap.size, 2, none⟩ = some (.string ⟨#[]⟩) := HZ.out.cs 2 _ rfl
      have z3 : w1.cell? ⟨w.heap.size, 3, none⟩ = some (.string ⟨#[]⟩) := HZ.out.cs 3 _ rfl
      have z4 : w1.cell? ⟨w.heap.size, 4, none⟩ = some (.int .i64 0) := HZ.out.cs 4 _ rfl
      have z5 : w1.cell? ⟨w.heap.size, 5, none⟩ = some (.int .i64 0) := HZ.out.cs 5 _ rfl
      have z6 : w1.cell? ⟨w.heap.size, 6, none⟩ = some (.int .i64 0) := HZ.out.cs 6 _ rfl
      have f0 := HZ.out.fz 0
      have f1 := HZ.out.fz 1
      have f2 := HZ.out.fz 2
      have f3 := HZ.out.fz 3
      have f4 := HZ.out.fz 4
      have f5 := HZ.out.fz 5
      have f6 := HZ.out.fz 6
      go_wp2_with fail
      try simp only [Exit.inBlock, Exit.then]
      refine bodyPost_ret (end_cell_tmp rfl rfl (loadOp _ (HZ.out.seven rfl _ _ _ _ _ _ _) rfl)) rfl ?_
      exact ⟨⟨_, rfl, .inr ⟨(fun ⟨_, _, _, _, _, _, _, q, _⟩ => HN7.out (by rw [Option.some.inj q]; rfl)), rfl⟩⟩, below_seven HB1.out _ (Nat.le_refl _) _ _ _ _ _ _ _⟩
end Go.Proofs.Ytaoboleifdgonaa
