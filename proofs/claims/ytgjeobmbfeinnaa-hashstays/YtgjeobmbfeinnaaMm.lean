/- Lists in memory. -/
import Derived.Test.YtgjeobmbfeinnaaVals
namespace Go.Proofs.Ytgjeobmbfeinnaa
open Go.ChangeShapes Go.WideShapes Go.RowKit
set_option linter.unusedVariables false
set_option maxRecDepth 100000

/-- A value that is a slice of a list. -/
def Sl {α : Type} (f : α → List Value) (k : Nat) (w : World) (v : Value) (l : List α) : Prop := ∃ a c, v = .slice a l.length c ∧ Rw f k w a l ∧ l.length ≤ c ∧ (a = none → c = 0)
theorem Sl.next {α : Type} {f : α → List Value} {k : Nat} {w w' : World} {v : Value} {l : List α} (h : Sl f k w v l) (hf : ∀ x, f x ≠ []) (b : Below w.heap.size w w') : Sl f k w' v l := by
  obtain ⟨a, c, h1, h2, h3, h4⟩ := h
  exact ⟨a, c, h1, h2.next hf b, h3, h4⟩
theorem Sl.nil {α : Type} (f : α → List Value) (k : Nat) (w : World) : Sl f k w (.slice none 0 0) ([] : List α) := ⟨none, 0, rfl, Rw.nil _ _ _ _, Nat.le_refl _, fun _ => rfl⟩
theorem Fresh.sl {α : Type} {f : α → List Value} {k e : Nat} (hf : ∀ x, (f x).length = k) {w w' : World} {v : Value} {l : List α} (h : Fresh e k (l.flatMap f) l.length w w' v) : Sl f k w' v l := own_rw hf h.own
def ptv (b : Nat) : List Value := [.pointer (some ⟨b, 0, none⟩)]
theorem ptv_ne (b : Nat) : ptv b ≠ [] := by simp [ptv]
theorem ptv_len (b : Nat) : (ptv b).length = 1 := rfl
theorem Rw.take {α : Type} {f : α → List Value} {k : Nat} {w : World} {a : Option Addr} {l : List α} (h : Rw f k w a l) (i : Nat) : Rw f k w a (l.take i) := fun hl => by
  obtain ⟨b, o, e, hc⟩ := h (fun e => hl (by rw [e, List.take_nil]))
  refine ⟨b, o, e, fun j x hx => hc j x ?_⟩
  obtain ⟨hj, rfl⟩ := List.getElem?_eq_some_iff.1 hx
  rw [List.getElem_take]
  exact List.getElem?_eq_getElem _
theorem Rw.drop {α : Type} {f : α → List Value} {k : Nat} {w : World} {b o : Nat} {l : List α} (h : Rw f k w (some ⟨b, o, none⟩) l) (i : Nat) : Rw f k w (some ⟨b, o + i * k, none⟩) (l.drop i) := fun hl => by
  obtain ⟨b', o', e, hc⟩ := h (fun e => hl (by rw [e, List.drop_nil]))
  cases e
  refine ⟨b, o + i * k, rfl, fun j x hx m u hu => ?_⟩
  rw [List.getElem?_drop] at hx
  have := hc (i + j) x hx m u hu
  rwa [show o + (i + j) * k + m = o + i * k + j * k + m by rw [Nat.add_mul]; omega] at this
/-- A list of one or two that was just made. -/
theorem rw_lit {α : Type} {f : α → List Value} {k : Nat} (hf : ∀ x, (f x).length = k) {w : World} {b : Nat} {l : List α} (h : CellsF w b (l.flatMap f)) : Rw f k w (some ⟨b, 0, none⟩) l := fun hl => by
  refine ⟨b, 0, rfl, fun i x hx j u hu => ?_⟩
  rw [Nat.zero_add]
  refine h.cs _ _ ?_
  have hflat : ∀ (l : List α) (i : Nat) (x : α), l[i]? = some x → ∀ j u, (f x)[j]? = some u → (l.flatMap f)[i * k + j]? = some u := by
    intro l
    induction l with
    | nil => intro i x hx; simp at hx
    | cons y r ih =>
      intro i x hx j u hu
      have hjj : j < k := by
        have := (List.getElem?_eq_some_iff.1 hu).1
        rwa [hf x] at this
      rw [List.flatMap_cons]
      cases i with
      | zero =>
        have e : y = x := by simpa using hx
        subst e
        rw [Nat.zero_mul, Nat.zero_add, List.getElem?_append_left (by rw [hf]; exact hjj)]
        exact hu
      | succ i =>
        rw [List.getElem?_append_right (by rw [hf, Nat.succ_mul]; omega), hf, show (i + 1) * k + j - k = i * k + j by rw [Nat.succ_mul]; omega]
        exact ih i x (by simpa using hx) j u hu
  exact hflat l i x hx j u hu
def Kids {α : Type} (R : Nat → α → Prop) (bs : List Nat) (ks : List α) : Prop := bs.length = ks.length ∧ ∀ (i b : Nat) (k : α), bs[i]? = some b → ks[i]? = some k → R b k
theorem Kids.mono {α : Type} {R R' : Nat → α → Prop} {bs : List Nat} {ks : List α} (h : Kids R bs ks) (hR : ∀ b k, R b k → R' b k) : Kids R' bs ks := ⟨h.1, fun i b k e1 e2 => hR b k (h.2 i b k e1 e2)⟩
theorem Kids.append {α : Type} {R : Nat → α → Prop} {bs bs' : List Nat} {ks ks' : List α} (h : Kids R bs ks) (g : Kids R bs' ks') : Kids R (bs ++ bs') (ks ++ ks') := by
  refine ⟨by rw [List.length_append, List.length_append, h.1, g.1], fun i b k e1 e2 => ?_⟩
  by_cases c : i < bs.length
  · rw [List.getElem?_append_left c] at e1
    rw [List.getElem?_append_left (by rw [← h.1]; exact c)] at e2
    exact h.2 i b k e1 e2
  · rw [List.getElem?_append_right (by omega)] at e1
    rw [List.getElem?_append_right (by rw [← h.1]; omega), ← h.1] at e2
    exact g.2 _ b k e1 e2
theorem Kids.nil {α : Type} (R : Nat → α → Prop) : Kids R [] [] := ⟨rfl, fun i b k e => by simp at e⟩
theorem Kids.one {α : Type} {R : Nat → α → Prop} {b : Nat} {k : α} (h : R b k) : Kids R [b] [k] := ⟨rfl, fun i b' k' e1 e2 => by
  cases i with
  | zero => simp at e1 e2; subst e1; subst e2; exact h
  | succ i => simp at e1⟩
theorem Kids.two {α : Type} {R : Nat → α → Prop} {b c : Nat} {k l : α} (h : R b k) (g : R c l) : Kids R [b, c] [k, l] := (Kids.one h).append (Kids.one g)
theorem Kids.take {α : Type} {R : Nat → α → Prop} {bs : List Nat} {ks : List α} (h : Kids R bs ks) (n : Nat) : Kids R (bs.take n) (ks.take n) := by
  refine ⟨by rw [List.length_take, List.length_take, h.1], fun i b k e1 e2 => ?_⟩
  obtain ⟨h1, rfl⟩ := List.getElem?_eq_some_iff.1 e1
  obtain ⟨h2, rfl⟩ := List.getElem?_eq_some_iff.1 e2
  rw [List.getElem_take, List.getElem_take]
  rw [List.length_take] at h1 h2
  exact h.2 i _ _ (List.getElem?_eq_getElem (by omega)) (List.getElem?_eq_getElem (by omega))
theorem Kids.drop {α : Type} {R : Nat → α → Prop} {bs : List Nat} {ks : List α} (h : Kids R bs ks) (n : Nat) : Kids R (bs.drop n) (ks.drop n) := by
  refine ⟨by rw [List.length_drop, List.length_drop, h.1], fun i b k e1 e2 => ?_⟩
  rw [List.getElem?_drop] at e1 e2
  exact h.2 _ b k e1 e2
theorem Kids.at {α : Type} {R : Nat → α → Prop} {bs : List Nat} {ks : List α} (h : Kids R bs ks) (i : Nat) (hi : i < bs.length) (hk : i < ks.length) : R bs[i] ks[i] := h.2 i _ _ (List.getElem?_eq_getElem hi) (List.getElem?_eq_getElem hk)
theorem Sl.ptr {w : World} {v : Value} {bs : List Nat} (h : Sl ptv 1 w v bs) (hne : bs ≠ []) : ∃ b o c, v = .slice (some ⟨b, o, none⟩) bs.length c ∧ bs.length ≤ c ∧ b < w.heap.size ∧ ∀ i (hi : i < bs.length), w.cell? ⟨b, o + i * 1, none⟩ = some (.pointer (some ⟨bs[i], 0, none⟩)) := by
  obtain ⟨a, c, h1, h2, h3, h4⟩ := h
  obtain ⟨b, o, e, hc⟩ := h2 hne
  exact ⟨b, o, c, by rw [h1, e], h3, h2.lt ptv_ne e hne, fun i hi => hc i _ (List.getElem?_eq_getElem hi) 0 _ rfl⟩
theorem Sl.own {α : Type} {f : α → List Value} {k e : Nat} (hf : ∀ x, (f x).length = k) {w w' : World} {v : Value} {l : List α} (h : w.ownsRow 0 e k v l.length (l.flatMap f)) (hb : ∀ g, v.ownBlock = some g → w'.heap[g]? = w.heap[g]?) : Sl f k w' v l := own_rw hf (ownsRow_kept h hb)
theorem slices_shape {α : Type} {f : α → List Value} {k : Nat} {w : World} {v : Value} {l : List α} (h : Sl f k w v l) : ∃ a c, v = .slice a l.length c := by
  obtain ⟨a, c, e, _⟩ := h
  exact ⟨a, c, e⟩
/-- A slice's beginning, and its end. -/
theorem Sl.head {α : Type} {f : α → List Value} {k : Nat} {w : World} {a : Option Addr} {n c : Nat} {l : List α} (h : Sl f k w (.slice a n c) l) (i : Nat) (hi : i ≤ l.length) : Sl f k w (.slice a i c) (l.take i) := by
  obtain ⟨a', c', e, h2, h3, h4⟩ := h
  cases e
  exact ⟨a, c, by rw [List.length_take, Nat.min_eq_left hi], h2.take i, by rw [List.length_take]; omega, h4⟩
theorem Sl.tail {α : Type} {f : α → List Value} {k : Nat} {w : World} {b o n c : Nat} {l : List α} (h : Sl f k w (.slice (some ⟨b, o, none⟩) n c) l) (j : Nat) (hj : j ≤ l.length) : Sl f k w (.slice (some ⟨b, o + j * k, none⟩) (l.length - j) (c - j)) (l.drop j) := by
  obtain ⟨a', c', e, h2, h3, h4⟩ := h
  cases e
  exact ⟨_, c - j, by rw [List.length_drop], h2.drop j, by rw [List.length_drop]; omega, fun e => by cases e⟩
theorem size_set (w : World) (b o : Nat) (v : Value) : (w.setCell ⟨b, o, none⟩ v).heap.size = w.heap.size := by simp
theorem heap_set (w : World) {b g : Nat} (o : Nat) (v : Value) (h : g ≠ b) : (w.setCell ⟨b, o, none⟩ v).heap[g]? = w.heap[g]? := Below.heap_setCell w ⟨b, o, none⟩ v g h

/-- A value: a kind, a number and a text. -/
structure Val where
  k : Int
  n : Int
  s : ByteArray
deriving DecidableEq
abbrev Val.v (x : Val) : Value := vv x.k x.n x.s
def Val.cs (x : Val) : List Value := [.int .i64 x.k, .int .i64 x.n, .string x.s]
def Val.fit (x : Val) : Prop := x.s.size ≤ 9223372036854775807
/-- An entry as it lies: a value, and where its numbers are. -/
structure Ent where
  v : Val
  a : Option Addr
  n : Nat
  c : Nat
abbrev Ent.u (e : Ent) : Value := .slice e.a e.n e.c
abbrev Ent.val (e : Ent) : Value := .agg #[.int .i64 e.v.k, .int .i64 e.v.n, .string e.v.s, .slice e.a e.n e.c]
def ev (e : Ent) : List Value := [.int .i64 e.v.k, .int .i64 e.v.n, .string e.v.s, .slice e.a e.n e.c]
theorem ev_ne (x : Ent) : ev x ≠ [] := by simp [ev]
theorem ev_len (x : Ent) : (ev x).length = 4 := rfl
theorem ev_one (l : List Ent) : ∀ v ∈ l.flatMap ev, v.oneCell' = true := by
  intro v hv
  obtain ⟨x, _, h⟩ := List.mem_flatMap.1 hv
  simp only [ev, List.mem_cons, List.not_mem_nil, or_false] at h
  rcases h with rfl | rfl | rfl | rfl <;> rfl
def iv (x : Int) : List Value := [.int .i64 x]
theorem iv_ne (x : Int) : iv x ≠ [] := by simp [iv]
theorem iv_len (x : Int) : (iv x).length = 1 := rfl
theorem iv_one (l : List Int) : ∀ v ∈ l.flatMap iv, v.oneCell' = true := by
  intro v hv
  obtain ⟨x, _, h⟩ := List.mem_flatMap.1 hv
  simp only [iv, List.mem_cons, List.not_mem_nil, or_false] at h
  subst h; rfl
theorem ptv_one (l : List Nat) : ∀ v ∈ l.flatMap ptv, v.oneCell' = true := by
  intro v hv
  obtain ⟨x, _, h⟩ := List.mem_flatMap.1 hv
  simp only [ptv, List.mem_cons, List.not_mem_nil, or_false] at h
  subst h; rfl
/-- A pair of the law's. -/
structure Pr where
  v : Val
  n : Int
deriving DecidableEq
def pv (p : Pr) : List Value := [.int .i64 p.v.k, .int .i64 p.v.n, .string p.v.s, .int .i64 p.n]
theorem pv_ne (x : Pr) : pv x ≠ [] := by simp [pv]
theorem pv_len (x : Pr) : (pv x).length = 4 := rfl
theorem pv_one (l : List Pr) : ∀ v ∈ l.flatMap pv, v.oneCell' = true := by
  intro v hv
  obtain ⟨x, _, h⟩ := List.mem_flatMap.1 hv
  simp only [pv, List.mem_cons, List.not_mem_nil, or_false] at h
  rcases h with rfl | rfl | rfl | rfl <;> rfl
theorem info3 : (Try.prog.info? 3).map (fun i => (i.zero, i.size, i.bytes)) = some (some (.int .i64 0), 1, 8) := by kernel_rfl
theorem info65 : (Try.prog.info? 65).map (fun i => (i.zero, i.size, i.bytes)) = some (some (.pointer none), 1, 8) := by kernel_rfl
theorem info61 : (Try.prog.info? 61).map (fun i => (i.zero, i.size, i.bytes)) = some (some (.agg #[.int .i64 0, .int .i64 0, .string ⟨#[]⟩, .slice none 0 0]), 4, 56) := by kernel_rfl
theorem info43 : (Try.prog.info? 43).map (fun i => (i.zero, i.size, i.bytes)) = some (some (.agg #[.int .i64 0, .int .i64 0, .string ⟨#[]⟩, .int .i64 0]), 4, 40) := by kernel_rfl
theorem Sl.ints {w : World} {v : Value} {l : List Int} (h : Sl iv 1 w v l) (hne : l ≠ []) : ∃ b o c, v = .slice (some ⟨b, o, none⟩) l.length c ∧ l.length ≤ c ∧ b < w.heap.size ∧ ∀ i (hi : i < l.length), w.cell? ⟨b, o + i, none⟩ = some (.int .i64 l[i]) := by
  obtain ⟨a, c, h1, h2, h3, h4⟩ := h
  obtain ⟨b, o, e, hc⟩ := h2 hne
  exact ⟨b, o, c, by rw [h1, e], h3, h2.lt iv_ne e hne, fun i hi => by have := hc i _ (List.getElem?_eq_getElem hi) 0 _ rfl; rwa [Nat.mul_one, Nat.add_zero] at this⟩
theorem Sl.ents {w : World} {v : Value} {l : List Ent} (h : Sl ev 4 w v l) (hne : l ≠ []) : ∃ b o c, v = .slice (some ⟨b, o, none⟩) l.length c ∧ l.length ≤ c ∧ b < w.heap.size ∧ ∀ i (hi : i < l.length), w.cell? ⟨b, o + i * 4, none⟩ = some (.int .i64 l[i].v.k) ∧ w.cell? ⟨b, o + i * 4 + 1, none⟩ = some (.int .i64 l[i].v.n) ∧ w.cell? ⟨b, o + i * 4 + 2, none⟩ = some (.string l[i].v.s) ∧ w.cell? ⟨b, o + i * 4 + 3, none⟩ = some (.slice l[i].a l[i].n l[i].c) := by
  obtain ⟨a, c, h1, h2, h3, h4⟩ := h
  obtain ⟨b, o, e, hc⟩ := h2 hne
  exact ⟨b, o, c, by rw [h1, e], h3, h2.lt ev_ne e hne, fun i hi => ⟨hc i _ (List.getElem?_eq_getElem hi) 0 _ rfl, hc i _ (List.getElem?_eq_getElem hi) 1 _ rfl, hc i _ (List.getElem?_eq_getElem hi) 2 _ rfl, hc i _ (List.getElem?_eq_getElem hi) 3 _ rfl⟩⟩
theorem Sl.prs {w : World} {v : Value} {l : List Pr} (h : Sl pv 4 w v l) (hne : l ≠ []) : ∃ b o c, v = .slice (some ⟨b, o, none⟩) l.length c ∧ l.length ≤ c ∧ b < w.heap.size ∧ ∀ i (hi : i < l.length), w.cell? ⟨b, o + i * 4, none⟩ = some (.int .i64 l[i].v.k) ∧ w.cell? ⟨b, o + i * 4 + 1, none⟩ = some (.int .i64 l[i].v.n) ∧ w.cell? ⟨b, o + i * 4 + 2, none⟩ = some (.string l[i].v.s) ∧ w.cell? ⟨b, o + i * 4 + 3, none⟩ = some (.int .i64 l[i].n) := by
  obtain ⟨a, c, h1, h2, h3, h4⟩ := h
  obtain ⟨b, o, e, hc⟩ := h2 hne
  exact ⟨b, o, c, by rw [h1, e], h3, h2.lt pv_ne e hne, fun i hi => ⟨hc i _ (List.getElem?_eq_getElem hi) 0 _ rfl, hc i _ (List.getElem?_eq_getElem hi) 1 _ rfl, hc i _ (List.getElem?_eq_getElem hi) 2 _ rfl, hc i _ (List.getElem?_eq_getElem hi) 3 _ rfl⟩⟩
/-- Whether two values are the same. -/
theorem same_run (x y : Val) (w : World) : (binOp .eql 24 x.v y.v).run Try.prog w = .ok (.bool (decide (x = y))) w := by
  obtain ⟨k, n, s⟩ := x
  obtain ⟨k', n', s'⟩ := y
  show (binOp .eql 24 (vv k n s) (vv k' n' s')).run Try.prog w = _
  have hs : s = s' ↔ s.toList = s'.toList := ⟨fun e => by rw [e], byte_inj⟩
  simp [go_sem]
  by_cases h1 : k = k' <;> by_cases h2 : n = n' <;> by_cases h3 : s.toList = s'.toList <;> simp [h1, h2, h3, hs]
end Go.Proofs.Ytgjeobmbfeinnaa
