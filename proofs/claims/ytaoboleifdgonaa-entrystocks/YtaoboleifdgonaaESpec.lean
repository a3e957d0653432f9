/- entry: what is read of rows. -/
import Derived.Test.YtaoboleifdgonaaERows
import Derived.Test.YtaoboleifdgonaaETake
namespace Go.Proofs.Ytaoboleifdgonaa
open Go.ChangeShapes Go.WideShapes Go.RowKit
set_option linter.unusedVariables false
set_option maxRecDepth 100000

/-- What RowStock answers. -/
def StockO (r : List V) (v : Value) : Prop := (∃ sku loc a b, (fits r ∧ r = stockR sku loc a b) ∧ v = .tuple #[ss sku loc a b, .int .i64 0]) ∨ ((¬ ∃ sku loc a b, fits r ∧ r = stockR sku loc a b) ∧ v = .tuple #[ss ⟨#[]⟩ ⟨#[]⟩ 0 0, .int .i64 50])
theorem StockO.one {r : List V} {v v' : Value} (h : StockO r v) (h' : StockO r v') : v = v' := by
  rcases h with ⟨sku, loc, a, b, ⟨f, e⟩, rfl⟩ | ⟨h, rfl⟩
  · rcases h' with ⟨sku', loc', a', b', ⟨f', e'⟩, rfl⟩ | ⟨h', rfl⟩
    · rw [e] at e'
      simp only [stockR, List.cons.injEq, V.mk.injEq] at e'
      obtain ⟨⟨_, _, rfl⟩, ⟨_, _, rfl⟩, ⟨_, rfl, _⟩, ⟨_, rfl, _⟩, _⟩ := e'
      rfl
    · exact absurd ⟨_, _, _, _, f, e⟩ h'
  · rcases h' with ⟨sku', loc', a', b', ⟨f', e'⟩, rfl⟩ | ⟨h', rfl⟩
    · exact absurd ⟨_, _, _, _, f', e'⟩ h
    · rfl
/-- Texts that tell numbers apart. -/
structure Tells (f : Int → ByteArray) (L : List Int) : Prop where
  back : ∀ n, ¬ (f n).size = 0 → toldF f L (f n) = n
  here : ∀ s, ¬ (f (toldF f L s)).size = 0 → f (toldF f L s) = s
theorem Tells.inj {f : Int → ByteArray} {L : List Int} (h : Tells f L) {a b : Int} (ha : ¬ (f a).size = 0) (e : f a = f b) : a = b := by
  rw [← h.back a ha, e, h.back b (by rw [← e]; exact ha)]
theorem told_none (f : Int → ByteArray) (s : ByteArray) : ∀ L : List Int, (toldF f L s = -1) ∨ f (toldF f L s) = s
  | [] => .inl rfl
  | n :: L => by
    rw [toldF]
    by_cases h : f n = s
    · rw [if_pos h]; exact .inr h
    · rw [if_neg h]; exact told_none f s L
theorem tells_state : Tells stT [0, 1, 2] := by
  constructor
  · intro n h
    have hn : n = 0 ∨ n = 1 ∨ n = 2 := by
      by_cases c0 : n = 0
      · exact .inl c0
      · by_cases c1 : n = 1
        · exact .inr (.inl c1)
        · by_cases c2 : n = 2
          · exact .inr (.inr c2)
          · exact absurd (by unfold stT; rw [if_neg c0, if_neg c1, if_neg c2]; rfl) h
    rcases hn with rfl | rfl | rfl <;> decide
  · intro s h
    rcases told_none stT s [0, 1, 2] with e | e
    · rw [e] at h; exact absurd (by decide) h
    · exact e
theorem tells_kind : Tells kdT [1, 3, 6, 7] := by
  constructor
  · intro n h
    have hn : n = 1 ∨ n = 3 ∨ n = 6 ∨ n = 7 := by
      by_cases c0 : n = 1
      · exact .inl c0
      · by_cases c1 : n = 3
        · exact .inr (.inl c1)
        · by_cases c2 : n = 6
          · exact .inr (.inr (.inl c2))
          · by_cases c3 : n = 7
            · exact .inr (.inr (.inr c3))
            · exact absurd (by unfold kdT; rw [if_neg c0, if_neg c1, if_neg c2, if_neg c3]; rfl) h
    rcases hn with rfl | rfl | rfl | rfl <;> decide
  · intro s h
    rcases told_none kdT s [1, 3, 6, 7] with e | e
    · rw [e] at h; exact absurd (by decide) h
    · exact e
/-- What RowHold and RowMove answer. -/
def SixO (f : Int → ByteArray) (r : List V) (v : Value) : Prop := (∃ id sku loc qty st due, ((fits r ∧ r = sixR f id sku loc qty st due) ∧ ¬ (f st).size = 0) ∧ v = .tuple #[hh id sku loc qty st due, .int .i64 0]) ∨ ((¬ ∃ id sku loc qty st due, (fits r ∧ r = sixR f id sku loc qty st due) ∧ ¬ (f st).size = 0) ∧ v = .tuple #[hh 0 ⟨#[]⟩ ⟨#[]⟩ 0 0 0, .int .i64 50])
theorem orNull_n (n : Int) : (orNull n).n = n := by
  unfold orNull
  by_cases h : n = 0
  · rw [if_pos h]; exact h.symm
  · rw [if_neg h]
theorem six_inj {f : Int → ByteArray} {L : List Int} (T : Tells f L) {id id' : Int} {sku sku' loc loc' : ByteArray} {qty qty' st st' due due' : Int} (h : ¬ (f st).size = 0) (h' : ¬ (f st').size = 0) (e : sixR f id sku loc qty st due = sixR f id' sku' loc' qty' st' due') : id = id' ∧ sku = sku' ∧ loc = loc' ∧ qty = qty' ∧ st = st' ∧ due = due' := by
  unfold sixR at e
  rw [if_neg h, if_neg h'] at e
  simp only [List.cons.injEq, V.mk.injEq] at e
  obtain ⟨⟨_, rfl, _⟩, ⟨_, _, rfl⟩, ⟨_, _, rfl⟩, ⟨_, rfl, _⟩, ⟨_, _, e4⟩, e5, _⟩ := e
  exact ⟨rfl, rfl, rfl, rfl, T.inj h e4, by rw [← orNull_n due, e5, orNull_n]⟩
theorem SixO.one {f : Int → ByteArray} {L : List Int} (T : Tells f L) {r : List V} {v v' : Value} (h : SixO f r v) (h' : SixO f r v') : v = v' := by
  rcases h with ⟨id, sku, loc, qty, st, due, ⟨⟨fi, e⟩, ne⟩, rfl⟩ | ⟨h, rfl⟩
  · rcases h' with ⟨id', sku', loc', qty', st', due', ⟨⟨fi', e'⟩, ne'⟩, rfl⟩ | ⟨h', rfl⟩
    · rw [e] at e'
      obtain ⟨rfl, rfl, rfl, rfl, rfl, rfl⟩ := six_inj T ne ne' e'
      rfl
    · exact absurd ⟨_, _, _, _, _, _, ⟨fi, e⟩, ne⟩ h'
  · rcases h' with ⟨id', sku', loc', qty', st', due', ⟨⟨fi', e'⟩, ne'⟩, rfl⟩ | ⟨h', rfl⟩
    · exact absurd ⟨_, _, _, _, _, _, ⟨fi', e'⟩, ne'⟩ h
    · rfl
theorem four_of (r : List V) (h : r.length = 4) : ∃ x0 x1 x2 x3, r = [x0, x1, x2, x3] := by
  match r, h with
  | [x0, x1, x2, x3], _ => exact ⟨_, _, _, _, rfl⟩
theorem six_of (r : List V) (h : r.length = 6) : ∃ x0 x1 x2 x3 x4 x5, r = [x0, x1, x2, x3, x4, x5] := by
  match r, h with
  | [x0, x1, x2, x3, x4, x5], _ => exact ⟨_, _, _, _, _, _, rfl⟩
def stockLetters : ByteArray := ⟨#[116, 116, 110, 110]⟩
def sixLetters : ByteArray := ⟨#[110, 116, 116, 110, 116, 109]⟩
theorem stock_self {x0 x1 x2 x3 : V} {sku loc : ByteArray} {a b : Int} (h : [x0, x1, x2, x3] = stockR sku loc a b) : sku = x0.s ∧ loc = x1.s ∧ a = x2.n ∧ b = x3.n := by
  simp only [stockR, List.cons.injEq] at h
  obtain ⟨rfl, rfl, rfl, rfl, _⟩ := h
  exact ⟨rfl, rfl, rfl, rfl⟩
theorem kinds_stock {x0 x1 x2 x3 : V} : kindsP [x0, x1, x2, x3] stockLetters ↔ fits [x0, x1, x2, x3] ∧ [x0, x1, x2, x3] = stockR x0.s x1.s x2.n x3.n := by
  constructor
  · intro h
    have h0 := h.2 0 (by simp) (by decide)
    have h1 := h.2 1 (by simp) (by decide)
    have h2 := h.2 2 (by simp) (by decide)
    have h3 := h.2 3 (by simp) (by decide)
    refine ⟨fun x hx => ?_, ?_⟩
    · simp only [List.mem_cons, List.mem_nil_iff, or_false] at hx
      rcases hx with rfl | rfl | rfl | rfl
      · exact h0.2
      · exact h1.2
      · exact h2.2
      · exact h3.2
    · unfold stockR
      have e0 : x0 = ⟨2, 0, x0.s⟩ := may2 (show x0.k = 2 from h0.1) h0.2
      have e1 : x1 = ⟨2, 0, x1.s⟩ := may2 (show x1.k = 2 from h1.1) h1.2
      have e2 : x2 = ⟨1, x2.n, ⟨#[]⟩⟩ := may1 (show x2.k = 1 from h2.1) h2.2
      have e3 : x3 = ⟨1, x3.n, ⟨#[]⟩⟩ := may1 (show x3.k = 1 from h3.1) h3.2
      rw [← e0, ← e1, ← e2, ← e3]
  · rintro ⟨hf, h⟩
    refine ⟨rfl, fun i hi hi' => ?_⟩
    have hm : ([x0, x1, x2, x3][i]).may := hf _ (List.getElem_mem hi)
    simp only [stockR, List.cons.injEq, and_true] at h
    obtain ⟨e0, e1, e2, e3⟩ := h
    match i, hi with
    | 0, _ => exact ⟨by show x0.k = 2; rw [e0], hm⟩
    | 1, _ => exact ⟨by show x1.k = 2; rw [e1], hm⟩
    | 2, _ => exact ⟨by show x2.k = 1; rw [e2], hm⟩
    | 3, _ => exact ⟨by show x3.k = 1; rw [e3], hm⟩
theorem orNull_of {x : V} (hk : x.k = 0 ∨ (x.k = 1 ∧ ¬ x.n = 0)) (hm : x.may) : x = orNull x.n := by
  rcases hk with hk | ⟨hk, hn⟩
  · obtain ⟨k, n, s⟩ := x
    have hk' : k = 0 := hk
    subst hk'
    have hm' : mayV 0 n s := hm
    have h1 : n = 0 := by unfold mayV at hm'; omega
    have h2 : s.size = 0 := by unfold mayV at hm'; omega
    rw [h1, empty_of h2]
    rfl
  · have e := may1 hk hm
    unfold orNull
    rw [if_neg hn]
    exact e
theorem orNull_kind (n : Int) : (orNull n).k = 0 ∨ ((orNull n).k = 1 ∧ ¬ (orNull n).n = 0) := by
  unfold orNull
  by_cases h : n = 0
  · rw [if_pos h]; exact .inl rfl
  · rw [if_neg h]; exact .inr ⟨rfl, h⟩
/-- The row of six values, its text in place. -/
def sixL (id : Int) (sku loc : ByteArray) (qty : Int) (tx : ByteArray) (due : Int) : List V := [⟨1, id, ⟨#[]⟩⟩, ⟨2, 0, sku⟩, ⟨2, 0, loc⟩, ⟨1, qty, ⟨#[]⟩⟩, ⟨2, 0, tx⟩, orNull due]
theorem sixR_is {f : Int → ByteArray} {id : Int} {sku loc : ByteArray} {qty st due : Int} (h : ¬ (f st).size = 0) : sixR f id sku loc qty st due = sixL id sku loc qty (f st) due := by unfold sixR sixL; rw [if_neg h]
theorem six_self {x0 x1 x2 x3 x4 x5 : V} {id : Int} {sku loc : ByteArray} {qty : Int} {tx : ByteArray} {due : Int} (h : [x0, x1, x2, x3, x4, x5] = sixL id sku loc qty tx due) : id = x0.n ∧ sku = x1.s ∧ loc = x2.s ∧ qty = x3.n ∧ tx = x4.s ∧ due = x5.n := by
  simp only [sixL, List.cons.injEq] at h
  obtain ⟨rfl, rfl, rfl, rfl, rfl, rfl, _⟩ := h
  exact ⟨rfl, rfl, rfl, rfl, rfl, (orNull_n due).symm⟩
theorem kinds_six {x0 x1 x2 x3 x4 x5 : V} : kindsP [x0, x1, x2, x3, x4, x5] sixLetters ↔ fits [x0, x1, x2, x3, x4, x5] ∧ [x0, x1, x2, x3, x4, x5] = sixL x0.n x1.s x2.s x3.n x4.s x5.n := by
  constructor
  · intro h
    have h0 := h.2 0 (by simp) (by decide)
    have h1 := h.2 1 (by simp) (by decide)
    have h2 := h.2 2 (by simp) (by decide)
    have h3 := h.2 3 (by simp) (by decide)
    have h4 := h.2 4 (by simp) (by decide)
    have h5 := h.2 5 (by simp) (by decide)
    refine ⟨fun x hx => ?_, ?_⟩
    · simp only [List.mem_cons, List.mem_nil_iff, or_false] at hx
      rcases hx with rfl | rfl | rfl | rfl | rfl | rfl
      · exact h0.2
      · exact h1.2
      · exact h2.2
      · exact h3.2
      · exact h4.2
      · exact h5.2
    · unfold sixL
      have e0 : x0 = ⟨1, x0.n, ⟨#[]⟩⟩ := may1 (show x0.k = 1 from h0.1) h0.2
      have e1 : x1 = ⟨2, 0, x1.s⟩ := may2 (show x1.k = 2 from h1.1) h1.2
      have e2 : x2 = ⟨2, 0, x2.s⟩ := may2 (show x2.k = 2 from h2.1) h2.2
      have e3 : x3 = ⟨1, x3.n, ⟨#[]⟩⟩ := may1 (show x3.k = 1 from h3.1) h3.2
      have e4 : x4 = ⟨2, 0, x4.s⟩ := may2 (show x4.k = 2 from h4.1) h4.2
      have e5 : x5 = orNull x5.n := orNull_of (show x5.k = 0 ∨ (x5.k = 1 ∧ ¬ x5.n = 0) from h5.1) h5.2
      rw [← e0, ← e1, ← e2, ← e3, ← e4, ← e5]
  · rintro ⟨hf, h⟩
    refine ⟨rfl, fun i hi hi' => ?_⟩
    have hm : ([x0, x1, x2, x3, x4, x5][i]).may := hf _ (List.getElem_mem hi)
    simp only [sixL, List.cons.injEq, and_true] at h
    obtain ⟨e0, e1, e2, e3, e4, e5⟩ := h
    match i, hi with
    | 0, _ => exact ⟨by show x0.k = 1; rw [e0], hm⟩
    | 1, _ => exact ⟨by show x1.k = 2; rw [e1], hm⟩
    | 2, _ => exact ⟨by show x2.k = 2; rw [e2], hm⟩
    | 3, _ => exact ⟨by show x3.k = 1; rw [e3], hm⟩
    | 4, _ => exact ⟨by show x4.k = 2; rw [e4], hm⟩
    | 5, _ => exact ⟨by show x5.k = 0 ∨ (x5.k = 1 ∧ ¬ x5.n = 0); rw [e5]; exact orNull_kind _, hm⟩
/-- A row is that of some six values just if it is that of those that are read of it. -/
theorem six_iff {f : Int → ByteArray} {L : List Int} (T : Tells f L) {x0 x1 x2 x3 x4 x5 : V} : (∃ id sku loc qty st due, (fits [x0, x1, x2, x3, x4, x5] ∧ [x0, x1, x2, x3, x4, x5] = sixR f id sku loc qty st due) ∧ ¬ (f st).size = 0) ↔ (fits [x0, x1, x2, x3, x4, x5] ∧ [x0, x1, x2, x3, x4, x5] = sixR f x0.n x1.s x2.s x3.n (toldF f L x4.s) x5.n) := by
  constructor
  · rintro ⟨id, sku, loc, qty, st, due, ⟨hf, e⟩, ne⟩
    rw [sixR_is ne] at e
    obtain ⟨rfl, rfl, rfl, rfl, h4, rfl⟩ := six_self e
    have hst : toldF f L x4.s = st := by rw [← h4, T.back st ne]
    rw [hst, sixR_is ne]
    exact ⟨hf, e⟩
  · rintro ⟨hf, e⟩
    have ne : ¬ (f (toldF f L x4.s)).size = 0 := fun q => by
      unfold sixR at e
      rw [if_pos q] at e
      cases e
    exact ⟨_, _, _, _, _, _, ⟨hf, e⟩, ne⟩
/-- The cells that are read of a row. -/
theorem row4 {w : World} {a : Option Addr} {c : Nat} {x0 x1 x2 x3 : V} (h : Row w (.slice a 4 c) [x0, x1, x2, x3]) :
    ∃ b o, a = some ⟨b, o, none⟩ ∧ w.cell? ⟨b, o + 2, none⟩ = some (.string x0.s) ∧ w.cell? ⟨b, o + 5, none⟩ = some (.string x1.s) ∧ w.cell? ⟨b, o + 7, none⟩ = some (.int .i64 x2.n) ∧ w.cell? ⟨b, o + 10, none⟩ = some (.int .i64 x3.n) := by
  rcases h with ⟨_, _, _, e⟩ | ⟨b, o, c', e, h⟩
  · cases e
  · cases e
    exact ⟨b, o, rfl, (h 0 (by simp)).c2, (h 1 (by simp)).c2, (h 2 (by simp)).c1, (h 3 (by simp)).c1⟩
theorem row6 {w : World} {a : Option Addr} {c : Nat} {x0 x1 x2 x3 x4 x5 : V} (h : Row w (.slice a 6 c) [x0, x1, x2, x3, x4, x5]) :
    ∃ b o, a = some ⟨b, o, none⟩ ∧ w.cell? ⟨b, o + 1, none⟩ = some (.int .i64 x0.n) ∧ w.cell? ⟨b, o + 5, none⟩ = some (.string x1.s) ∧ w.cell? ⟨b, o + 8, none⟩ = some (.string x2.s) ∧ w.cell? ⟨b, o + 10, none⟩ = some (.int .i64 x3.n) ∧ w.cell? ⟨b, o + 14, none⟩ = some (.string x4.s) ∧ w.cell? ⟨b, o + 16, none⟩ = some (.int .i64 x5.n) := by
  rcases h with ⟨_, _, _, e⟩ | ⟨b, o, c', e, h⟩
  · cases e
  · cases e
    exact ⟨b, o, rfl, (h 0 (by simp)).c1, (h 1 (by simp)).c2, (h 2 (by simp)).c2, (h 3 (by simp)).c1, (h 4 (by simp)).c2, (h 5 (by simp)).c1⟩
theorem CellsF.four {w : World} {b : Nat} {l : List Value} (h : CellsF w b l) (hl : l.length = 4) (v0 v1 v2 v3 : Value) :
    CellsF ((((w.setCell ⟨b, 0, none⟩ v0).setCell ⟨b, 1, none⟩ v1).setCell ⟨b, 2, none⟩ v2).setCell ⟨b, 3, none⟩ v3) b [v0, v1, v2, v3] := by
  match l, hl with
  | [u0, u1, u2, u3], _ => exact (((h.set 0 v0 (by simp)).set 1 v1 (by simp)).set 2 v2 (by simp)).set 3 v3 (by simp)
theorem below_four {B : Nat} {w w' : World} (h : Below B w w') (b : Nat) (hb : B ≤ b) (v0 v1 v2 v3 : Value) :
    Below B w ((((w'.setCell ⟨b, 0, none⟩ v0).setCell ⟨b, 1, none⟩ v1).setCell ⟨b, 2, none⟩ v2).setCell ⟨b, 3, none⟩ v3) :=
  below_set (below_set (below_set (below_set h _ _ _ hb) _ _ _ hb) _ _ _ hb) _ _ _ hb
theorem CellsF.six {w : World} {b : Nat} {l : List Value} (h : CellsF w b l) (hl : l.length = 6) (v0 v1 v2 v3 v4 v5 : Value) :
    CellsF ((((((w.setCell ⟨b, 0, none⟩ v0).setCell ⟨b, 1, none⟩ v1).setCell ⟨b, 2, none⟩ v2).setCell ⟨b, 3, none⟩ v3).setCell ⟨b, 4, none⟩ v4).setCell ⟨b, 5, none⟩ v5) b [v0, v1, v2, v3, v4, v5] := by
  match l, hl with
  | [u0, u1, u2, u3, u4, u5], _ => exact (((((h.set 0 v0 (by simp)).set 1 v1 (by simp)).set 2 v2 (by simp)).set 3 v3 (by simp)).set 4 v4 (by simp)).set 5 v5 (by simp)
theorem below_six {B : Nat} {w w' : World} (h : Below B w w') (b : Nat) (hb : B ≤ b) (v0 v1 v2 v3 v4 v5 : Value) :
    Below B w ((((((w'.setCell ⟨b, 0, none⟩ v0).setCell ⟨b, 1, none⟩ v1).setCell ⟨b, 2, none⟩ v2).setCell ⟨b, 3, none⟩ v3).setCell ⟨b, 4, none⟩ v4).setCell ⟨b, 5, none⟩ v5) :=
  below_set (below_set (below_set (below_set (below_set (below_set h _ _ _ hb) _ _ _ hb) _ _ _ hb) _ _ _ hb) _ _ _ hb) _ _ _ hb
theorem cells_far {w : World} {b c o : Nat} {v0 v1 v2 v3 v4 v5 : Value} (h : b ≠ c) : ((((((w.setCell ⟨b, 0, none⟩ v0).setCell ⟨b, 1, none⟩ v1).setCell ⟨b, 2, none⟩ v2).setCell ⟨b, 3, none⟩ v3).setCell ⟨b, 4, none⟩ v4).setCell ⟨b, 5, none⟩ v5).cell? ⟨c, o, none⟩ = w.cell? ⟨c, o, none⟩ :=
  (cell_put _ (fun q => h q.1)).trans ((cell_put _ (fun q => h q.1)).trans ((cell_put _ (fun q => h q.1)).trans ((cell_put _ (fun q => h q.1)).trans ((cell_put _ (fun q => h q.1)).trans (cell_put _ (fun q => h q.1))))))
theorem heap_far {w : World} {b c : Nat} {v0 v1 v2 v3 v4 v5 : Value} (h : c ≠ b) : ((((((w.setCell ⟨b, 0, none⟩ v0).setCell ⟨b, 1, none⟩ v1).setCell ⟨b, 2, none⟩ v2).setCell ⟨b, 3, none⟩ v3).setCell ⟨b, 4, none⟩ v4).setCell ⟨b, 5, none⟩ v5).heap[c]? = w.heap[c]? :=
  (Below.heap_setCell _ ⟨b, 5, none⟩ v5 c h).trans ((Below.heap_setCell _ ⟨b, 4, none⟩ v4 c h).trans ((Below.heap_setCell _ ⟨b, 3, none⟩ v3 c h).trans ((Below.heap_setCell _ ⟨b, 2, none⟩ v2 c h).trans ((Below.heap_setCell _ ⟨b, 1, none⟩ v1 c h).trans (Below.heap_setCell _ ⟨b, 0, none⟩ v0 c h)))))
end Go.Proofs.Ytaoboleifdgonaa
