/- Trees in memory. -/
import Derived.Test.YtgebionlkmjfnaaSPur
namespace Go.Proofs.Ytgebionlkmjfnaa.Sx
open Go.ChangeShapes Go.WideShapes Go.RowKit
set_option linter.unusedVariables false
set_option maxRecDepth 100000

/-- A value that is a slice of a list. -/
def Sl {α : Type} (f : α → List Value) (k : Nat) (w : World) (v : Value) (l : List α) : Prop := ∃ a c, v = .slice a l.length c ∧ Rw f k w a l ∧ l.length ≤ c ∧ (a = none → c = 0)
theorem Sl.next {α : Type} {f : α → List Value} {k : Nat} {w w' : World} {v : Value} {l : List α} (h : Sl f k w v l) (hf : ∀ x, f x ≠ []) (b : Below w.heap.size w w') : Sl f k w' v l := by
  obtain ⟨a, c, h1, h2, h3, h4⟩ := h
  exact ⟨a, c, h1, h2.next hf b, h3, h4⟩
theorem Sl.nil {α : Type} (f : α → List Value) (k : Nat) (w : World) : Sl f k w (.slice none 0 0) ([] : List α) := ⟨none, 0, rfl, Rw.nil _ _ _ _, Nat.le_refl _, fun _ => rfl⟩
theorem Fresh.sl {α : Type} {f : α → List Value} {k e : Nat} (hf : ∀ x, (f x).length = k) {w w' : World} {v : Value} {l : List α} (h : Fresh e k (l.flatMap f) l.length w w' v) : Sl f k w' v l := own_rw hf h.own
def ptv (b : Nat) : List Value := [.pointer (some ⟨b, 0, none⟩)]
theorem ptv_ne (b : Nat) : ptv b ≠ [] := by simp [ptv]
theorem ptv_len (b : Nat) : (ptv b).length = 1 := rfl
theorem Rw.take {α : Type} {f : α → List Value} {k : Nat} {w : World} {a : Option Addr} {l : List α} (h : Rw f k w a l) (i : Nat) : Rw f k w a (l.take i) := fun hl => by
  obtain ⟨b, o, e, hc⟩ := h (fun e => hl (by rw [e, List.take_nil]))
  refine ⟨b, o, e, fun j x hx => hc j x ?_⟩
  obtain ⟨hj, rfl⟩ := List.getElem?_eq_some_iff.1 hx
  rw [List.getElem_take]
  exact List.getElem?_eq_getElem _
theorem Rw.drop {α : Type} {f : α → List Value} {k : Nat} {w : World} {b o : Nat} {l : List α} (h : Rw f k w (some ⟨b, o, none⟩) l) (i : Nat) : Rw f k w (some ⟨b, o + i * k, none⟩) (l.drop i) := fun hl => by
  obtain ⟨b', o', e, hc⟩ := h (fun e => hl (by rw [e, List.drop_nil]))
  cases e
  refine ⟨b, o + i * k, rfl, fun j x hx m u hu => ?_⟩
  rw [List.getElem?_drop] at hx
  have := hc (i + j) x hx m u hu
  rwa [show o + (i + j) * k + m = o + i * k + j * k + m by rw [Nat.add_mul]; omega] at this
/-- A list of one or two that was just made. -/
theorem rw_lit {α : Type} {f : α → List Value} {k : Nat} (hf : ∀ x, (f x).length = k) {w : World} {b : Nat} {l : List α} (h : CellsF w b (l.flatMap f)) : Rw f k w (some ⟨b, 0, none⟩) l := fun hl => by
  refine ⟨b, 0, rfl, fun i x hx j u hu => ?_⟩
  rw [Nat.zero_add]
  refine h.cs _ _ ?_
  have hflat : ∀ (l : List α) (i : Nat) (x : α), l[i]? = some x → ∀ j u, (f x)[j]? = some u → (l.flatMap f)[i * k + j]? = some u := by
    intro l
    induction l with
    | nil => intro i x hx; simp at hx
    | cons y r ih =>
      intro i x hx j u hu
      have hjj : j < k := by
        have := (List.getElem?_eq_some_iff.1 hu).1
        rwa [hf x] at this
      rw [List.flatMap_cons]
      cases i with
      | zero =>
        have e : y = x := by simpa using hx
        subst e
        rw [Nat.zero_mul, Nat.zero_add, List.getElem?_append_left (by rw [hf]; exact hjj)]
        exact hu
      | succ i =>
        rw [List.getElem?_append_right (by rw [hf, Nat.succ_mul]; omega), hf, show (i + 1) * k + j - k = i * k + j by rw [Nat.succ_mul]; omega]
        exact ih i x (by simpa using hx) j u hu
  exact hflat l i x hx j u hu
section
variable {K V : Type}
/-- A node: its items, and where its kids lie. -/
def NdAt (itv : K × V → List Value) (w : World) (b : Nat) (xs : List (K × V)) (bs : List Nat) : Prop :=
  ∃ u v, w.cell? ⟨b, 0, none⟩ = some u ∧ w.cell? ⟨b, 1, none⟩ = some v ∧ Sl itv 2 w u xs ∧ Sl ptv 1 w v bs
def Kids {α : Type} (R : Nat → α → Prop) (bs : List Nat) (ks : List α) : Prop := bs.length = ks.length ∧ ∀ (i b : Nat) (k : α), bs[i]? = some b → ks[i]? = some k → R b k
/-- A tree lies from a block on. -/
def At (itv : K × V → List Value) (w : World) : ∀ (d : Nat), Nat → Tr K V d → Prop
  | 0, b, l => NdAt itv w b l []
  | d + 1, b, t => ∃ bs, NdAt itv w b t.1 bs ∧ Kids (At itv w d) bs t.2
theorem NdAt.next {itv : K × V → List Value} (hi : ∀ x, itv x ≠ []) {w w' : World} {b : Nat} {xs : List (K × V)} {bs : List Nat} (h : NdAt itv w b xs bs) (q : Below w.heap.size w w') : NdAt itv w' b xs bs := by
  obtain ⟨u, v, h1, h2, h3, h4⟩ := h
  have hb := q.block b (World.block_lt_of_cell? w _ h1)
  exact ⟨u, v, (World.cell?_of_block (a := ⟨b, 0, none⟩) hb).trans h1, (World.cell?_of_block (a := ⟨b, 1, none⟩) hb).trans h2, h3.next hi q, h4.next ptv_ne q⟩
theorem Kids.mono {α : Type} {R R' : Nat → α → Prop} {bs : List Nat} {ks : List α} (h : Kids R bs ks) (hR : ∀ b k, R b k → R' b k) : Kids R' bs ks := ⟨h.1, fun i b k e1 e2 => hR b k (h.2 i b k e1 e2)⟩
theorem At.next {itv : K × V → List Value} (hi : ∀ x, itv x ≠ []) {w w' : World} (q : Below w.heap.size w w') : ∀ {d : Nat} {b : Nat} {t : Tr K V d}, At itv w d b t → At itv w' d b t
  | 0, _, _, h => NdAt.next hi h q
  | _ + 1, _, _, ⟨bs, h1, h2⟩ => ⟨bs, h1.next hi q, h2.mono (fun _ _ r => At.next hi q r)⟩
theorem Kids.append {α : Type} {R : Nat → α → Prop} {bs bs' : List Nat} {ks ks' : List α} (h : Kids R bs ks) (g : Kids R bs' ks') : Kids R (bs ++ bs') (ks ++ ks') := by
  refine ⟨by rw [List.length_append, List.length_append, h.1, g.1], fun i b k e1 e2 => ?_⟩
  by_cases c : i < bs.length
  · rw [List.getElem?_append_left c] at e1
    rw [List.getElem?_append_left (by rw [← h.1]; exact c)] at e2
    exact h.2 i b k e1 e2
  · rw [List.getElem?_append_right (by omega)] at e1
    rw [List.getElem?_append_right (by rw [← h.1]; omega), ← h.1] at e2
    exact g.2 _ b k e1 e2
theorem Kids.nil {α : Type} (R : Nat → α → Prop) : Kids R [] [] := ⟨rfl, fun i b k e => by simp at e⟩
theorem Kids.one {α : Type} {R : Nat → α → Prop} {b : Nat} {k : α} (h : R b k) : Kids R [b] [k] := ⟨rfl, fun i b' k' e1 e2 => by
  cases i with
  | zero => simp at e1 e2; subst e1; subst e2; exact h
  | succ i => simp at e1⟩
theorem Kids.two {α : Type} {R : Nat → α → Prop} {b c : Nat} {k l : α} (h : R b k) (g : R c l) : Kids R [b, c] [k, l] := (Kids.one h).append (Kids.one g)
theorem Kids.take {α : Type} {R : Nat → α → Prop} {bs : List Nat} {ks : List α} (h : Kids R bs ks) (n : Nat) : Kids R (bs.take n) (ks.take n) := by
  refine ⟨by rw [List.length_take, List.length_take, h.1], fun i b k e1 e2 => ?_⟩
  obtain ⟨h1, rfl⟩ := List.getElem?_eq_some_iff.1 e1
  obtain ⟨h2, rfl⟩ := List.getElem?_eq_some_iff.1 e2
  rw [List.getElem_take, List.getElem_take]
  rw [List.length_take] at h1 h2
  exact h.2 i _ _ (List.getElem?_eq_getElem (by omega)) (List.getElem?_eq_getElem (by omega))
theorem Kids.drop {α : Type} {R : Nat → α → Prop} {bs : List Nat} {ks : List α} (h : Kids R bs ks) (n : Nat) : Kids R (bs.drop n) (ks.drop n) := by
  refine ⟨by rw [List.length_drop, List.length_drop, h.1], fun i b k e1 e2 => ?_⟩
  rw [List.getElem?_drop] at e1 e2
  exact h.2 _ b k e1 e2
theorem Kids.at {α : Type} {R : Nat → α → Prop} {bs : List Nat} {ks : List α} (h : Kids R bs ks) (i : Nat) (hi : i < bs.length) (hk : i < ks.length) : R bs[i] ks[i] := h.2 i _ _ (List.getElem?_eq_getElem hi) (List.getElem?_eq_getElem hk)
theorem Sl.ptr {w : World} {v : Value} {bs : List Nat} (h : Sl ptv 1 w v bs) (hne : bs ≠ []) : ∃ b o c, v = .slice (some ⟨b, o, none⟩) bs.length c ∧ bs.length ≤ c ∧ b < w.heap.size ∧ ∀ i (hi : i < bs.length), w.cell? ⟨b, o + i * 1, none⟩ = some (.pointer (some ⟨bs[i], 0, none⟩)) := by
  obtain ⟨a, c, h1, h2, h3, h4⟩ := h
  obtain ⟨b, o, e, hc⟩ := h2 hne
  exact ⟨b, o, c, by rw [h1, e], h3, h2.lt ptv_ne e hne, fun i hi => hc i _ (List.getElem?_eq_getElem hi) 0 _ rfl⟩
end
end Go.Proofs.Ytgebionlkmjfnaa.Sx
