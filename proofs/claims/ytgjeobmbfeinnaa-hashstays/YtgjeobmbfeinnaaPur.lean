/- Numbers by values, by definition. -/
import Derived.Test.YtgjeobmbfeinnaaMm
import Derived.Test.YtgjeobmbfeinnaaHsh
namespace Go.Proofs.Ytgjeobmbfeinnaa
open Go.ChangeShapes Go.WideShapes Go.RowKit
set_option linter.unusedVariables false
set_option maxRecDepth 100000

theorem getD_lt {α : Type} {l : List α} {i : Nat} {x : α} (h : l[i]? = some x) : i < l.length := (List.getElem?_eq_some_iff.1 h).1
/-- Two lists, part by part. -/
def Two {α β : Type} (R : α → β → Prop) (l : List α) (m : List β) : Prop := l.length = m.length ∧ ∀ (i : Nat) a b, l[i]? = some a → m[i]? = some b → R a b
theorem Two.mono {α β : Type} {R R' : α → β → Prop} {l : List α} {m : List β} (h : Two R l m) (hR : ∀ a b, R a b → R' a b) : Two R' l m := ⟨h.1, fun i a b e1 e2 => hR a b (h.2 i a b e1 e2)⟩
theorem Two.nil {α β : Type} (R : α → β → Prop) : Two R [] [] := ⟨rfl, fun i a b e => by simp at e⟩
theorem Two.set {α β : Type} {R : α → β → Prop} {l : List α} {m : List β} (h : Two R l m) (i : Nat) {a : α} {b : β} (hab : R a b) : Two R (l.set i a) (m.set i b) := by
  refine ⟨by rw [List.length_set, List.length_set, h.1], fun j x y e1 e2 => ?_⟩
  by_cases c : i = j
  · subst c
    have h1 := getD_lt e1
    have h2 := getD_lt e2
    rw [List.length_set] at h1 h2
    rw [List.getElem?_set_self h1] at e1
    rw [List.getElem?_set_self h2] at e2
    cases e1; cases e2
    exact hab
  · rw [List.getElem?_set_ne c] at e1 e2
    exact h.2 j x y e1 e2
theorem Two.snoc {α β : Type} {R : α → β → Prop} {l : List α} {m : List β} (h : Two R l m) {a : α} {b : β} (hab : R a b) : Two R (l ++ [a]) (m ++ [b]) := by
  refine ⟨by simp [h.1], fun j x y e1 e2 => ?_⟩
  by_cases c : j < l.length
  · rw [List.getElem?_append_left c] at e1
    rw [List.getElem?_append_left (by rw [← h.1]; exact c)] at e2
    exact h.2 j x y e1 e2
  · rw [List.getElem?_append_right (by omega)] at e1
    rw [List.getElem?_append_right (by rw [← h.1]; omega), ← h.1] at e2
    cases hj : j - l.length with
    | zero => rw [hj] at e1 e2; simp at e1 e2; subst e1; subst e2; exact hab
    | succ k => rw [hj] at e1; simp at e1
theorem Two.erase {α β : Type} {R : α → β → Prop} {l : List α} {m : List β} (h : Two R l m) (i : Nat) : Two R (l.eraseIdx i) (m.eraseIdx i) := by
  refine ⟨by rw [List.length_eraseIdx, List.length_eraseIdx, h.1], fun j x y e1 e2 => ?_⟩
  rw [List.getElem?_eraseIdx] at e1 e2
  by_cases c : j < i
  · rw [if_pos c] at e1 e2; exact h.2 j x y e1 e2
  · rw [if_neg c] at e1 e2; exact h.2 _ x y e1 e2
/-! ### Rising numbers -/
def Rise (l : List Int) : Prop := l.Pairwise (· < ·)
/-- How many numbers are less. -/
def lo (l : List Int) (n : Int) : Nat := (l.takeWhile (fun x => decide (x < n))).length
theorem lo_le (l : List Int) (n : Int) : lo l n ≤ l.length := by unfold lo; exact (List.takeWhile_sublist _).length_le
theorem lo_cons_lt {x n : Int} (l : List Int) (h : x < n) : lo (x :: l) n = lo l n + 1 := by unfold lo; rw [List.takeWhile_cons, if_pos (decide_eq_true h)]; rfl
theorem lo_cons_ge {x n : Int} (l : List Int) (h : ¬ x < n) : lo (x :: l) n = 0 := by unfold lo; rw [List.takeWhile_cons, if_neg (by simpa using h)]; rfl
theorem lo_lt (l : List Int) (n : Int) : ∀ (i : Nat) (h : i < l.length), i < lo l n → l[i] < n := by
  induction l with
  | nil => intro i h; simp at h
  | cons x r ih =>
    intro i h hi
    by_cases c : x < n
    · rw [lo_cons_lt r c] at hi
      cases i with
      | zero => exact c
      | succ i => exact ih i (by simpa using h) (by omega)
    · rw [lo_cons_ge r c] at hi; omega
theorem lo_at (l : List Int) (n : Int) (h : lo l n < l.length) : ¬ l[lo l n] < n := by
  induction l with
  | nil => simp at h
  | cons x r ih =>
    by_cases c : x < n
    · have e := lo_cons_lt r c
      have h' : lo r n < r.length := by rw [e] at h; simpa using h
      have := ih h'
      simpa [e] using this
    · have e := lo_cons_ge r c
      simpa [e] using c
theorem lo_ge {l : List Int} (hs : Rise l) (n : Int) (i : Nat) (h : i < l.length) (hi : lo l n ≤ i) : n ≤ l[i] := by
  have h0 := lo_at l n (by omega)
  by_cases e : lo l n = i
  · subst e; omega
  · have := List.pairwise_iff_getElem.1 hs (lo l n) i (by omega) h (by omega)
    omega
def ins (n : Int) (l : List Int) : List Int := l.take (lo l n) ++ n :: l.drop (lo l n)
theorem mem_ins (n x : Int) (l : List Int) : x ∈ ins n l ↔ x = n ∨ x ∈ l := by
  unfold ins
  rw [List.mem_append, List.mem_cons]
  conv => rhs; rw [← List.take_append_drop (lo l n) l, List.mem_append]
  constructor
  · rintro (h | h | h)
    · exact .inr (.inl h)
    · exact .inl h
    · exact .inr (.inr h)
  · rintro (h | h | h)
    · exact .inr (.inl h)
    · exact .inl h
    · exact .inr (.inr h)
theorem ins_len (n : Int) (l : List Int) : (ins n l).length = l.length + 1 := by
  unfold ins
  rw [List.length_append, List.length_cons, List.length_take, List.length_drop]
  have := lo_le l n
  omega
theorem mem_take_lt {l : List Int} {n x : Int} (h : x ∈ l.take (lo l n)) : x < n := by
  rw [List.mem_take_iff_getElem] at h
  obtain ⟨i, hi, rfl⟩ := h
  exact lo_lt l n i (by omega) (by omega)
theorem mem_drop_ge {l : List Int} (hs : Rise l) {n x : Int} (h : x ∈ l.drop (lo l n)) : n ≤ x := by
  rw [List.mem_drop_iff_getElem] at h
  obtain ⟨i, hi, rfl⟩ := h
  exact lo_ge hs n _ _ (by omega)
theorem rise_ins {n : Int} {l : List Int} (hs : Rise l) (hn : n ∉ l) : Rise (ins n l) := by
  unfold ins Rise
  rw [List.pairwise_append]
  refine ⟨List.Pairwise.sublist (List.take_sublist _ _) hs, ?_, ?_⟩
  · rw [List.pairwise_cons]
    refine ⟨fun x hx => ?_, List.Pairwise.sublist (List.drop_sublist _ _) hs⟩
    have h1 := mem_drop_ge hs hx
    have h2 : x ≠ n := fun e => hn (e ▸ List.mem_of_mem_drop hx)
    omega
  · intro a ha b hb
    have h1 := mem_take_lt ha
    rcases List.mem_cons.1 hb with rfl | hb
    · exact h1
    · have := mem_drop_ge hs hb; omega
/-- Is a number there? -/
theorem mem_lo {l : List Int} (hs : Rise l) (n : Int) : n ∈ l ↔ ∃ h : lo l n < l.length, l[lo l n] = n := by
  constructor
  · intro hm
    obtain ⟨i, hi, e⟩ := List.mem_iff_getElem.1 hm
    have h1 : lo l n ≤ i := by
      by_cases c : i < lo l n
      · have := lo_lt l n i hi c; omega
      · omega
    have hl : lo l n < l.length := by omega
    refine ⟨hl, ?_⟩
    have h2 := lo_at l n hl
    by_cases c : lo l n = i
    · simp only [c]; exact e
    · have := List.pairwise_iff_getElem.1 hs (lo l n) i hl hi (by omega)
      omega
  · rintro ⟨h, e⟩
    rw [← e]; exact List.getElem_mem h
/-- A list without a number. -/
def del (n : Int) (l : List Int) : List Int := l.take (lo l n) ++ l.drop (lo l n + 1)
theorem rise_del {n : Int} {l : List Int} (hs : Rise l) : Rise (del n l) := by
  unfold del Rise
  rw [List.pairwise_append]
  refine ⟨List.Pairwise.sublist (List.take_sublist _ _) hs, List.Pairwise.sublist (List.drop_sublist _ _) hs, ?_⟩
  intro a ha b hb
  have h1 := mem_take_lt ha
  rw [List.mem_drop_iff_getElem] at hb
  obtain ⟨i, hi, rfl⟩ := hb
  have := lo_ge hs n (lo l n + 1 + i) (by omega) (by omega)
  omega
theorem mem_del {n : Int} {l : List Int} (hs : Rise l) (hn : n ∈ l) (x : Int) : x ∈ del n l ↔ x ≠ n ∧ x ∈ l := by
  obtain ⟨h, e⟩ := (mem_lo hs n).1 hn
  have hsplit : l = l.take (lo l n) ++ n :: l.drop (lo l n + 1) := by
    conv => lhs; rw [← List.take_append_drop (lo l n) l, List.drop_eq_getElem_cons h, e]
  unfold del
  constructor
  · intro hx
    rcases List.mem_append.1 hx with hx | hx
    · exact ⟨by have := mem_take_lt hx; omega, List.mem_of_mem_take hx⟩
    · refine ⟨?_, List.mem_of_mem_drop hx⟩
      rw [List.mem_drop_iff_getElem] at hx
      obtain ⟨i, hi, rfl⟩ := hx
      have := List.pairwise_iff_getElem.1 hs (lo l n) (lo l n + 1 + i) h (by omega) (by omega)
      omega
  · rintro ⟨h1, h2⟩
    rw [hsplit] at h2
    rcases List.mem_append.1 h2 with h2 | h2
    · exact List.mem_append.2 (.inl h2)
    · rcases List.mem_cons.1 h2 with rfl | h2
      · exact absurd rfl h1
      · exact List.mem_append.2 (.inr h2)
theorem del_le (n : Int) (l : List Int) : (del n l).length ≤ l.length := by
  unfold del
  rw [List.length_append, List.length_take, List.length_drop]
  omega
theorem rise_ext : ∀ {l m : List Int}, Rise l → Rise m → (∀ x, x ∈ l ↔ x ∈ m) → l = m
  | [], [], _, _, _ => rfl
  | [], y :: m, _, _, h => absurd ((h y).2 (List.mem_cons_self ..)) (by simp)
  | x :: l, [], _, _, h => absurd ((h x).1 (List.mem_cons_self ..)) (by simp)
  | x :: l, y :: m, hl, hm, h => by
    obtain ⟨hl1, hl2⟩ := List.pairwise_cons.1 hl
    obtain ⟨hm1, hm2⟩ := List.pairwise_cons.1 hm
    have e : x = y := by
      have h1 := (h x).1 (List.mem_cons_self ..)
      have h2 := (h y).2 (List.mem_cons_self ..)
      rcases List.mem_cons.1 h1 with e | h1
      · exact e
      · rcases List.mem_cons.1 h2 with e | h2
        · exact e.symm
        · have := hm1 x h1; have := hl1 y h2; omega
    subst e
    rw [rise_ext hl2 hm2 (fun z => ?_)]
    have hz := h z
    rw [List.mem_cons, List.mem_cons] at hz
    constructor
    · intro q
      rcases hz.1 (.inr q) with e | q'
      · have := hl1 z q; omega
      · exact q'
    · intro q
      rcases hz.2 (.inr q) with e | q'
      · have := hm1 z q; omega
      · exact q'
/-! ### Buckets -/
abbrev En := Val × List Int
def may (v : Val) : Prop := mayV v.k v.n v.s
instance (v : Val) : Decidable (may v) := by unfold may; infer_instance
def hs (v : Val) : Nat := (hashN v.k v.n v.s).toNat
theorem hs_is (v : Val) : hashN v.k v.n v.s = (hs v : Int) := by unfold hs; have := hashN_range v.k v.n v.s; omega
theorem hs_lt (v : Val) : hs v < 4294967296 := by unfold hs; have := hashN_range v.k v.n v.s; omega
/-- The buckets hold what a value has. -/
structure Fits (F : Val → List Int) (bs : List (List En)) : Prop where
  pos : 0 < bs.length
  at_ : ∀ (q : Nat) b, bs[q]? = some b → ∀ e ∈ b, hs e.1 % bs.length = q ∧ F e.1 = e.2 ∧ e.2 ≠ []
  uni : ∀ b ∈ bs, b.Pairwise (fun x y => x.1 ≠ y.1)
  all : ∀ v, F v ≠ [] → ∀ b, bs[hs v % bs.length]? = some b → (v, F v) ∈ b
def upd (F : Val → List Int) (v : Val) (l : List Int) : Val → List Int := fun u => if u = v then l else F u
theorem upd_same (F : Val → List Int) (v : Val) (l : List Int) : upd F v l v = l := if_pos rfl
theorem upd_other (F : Val → List Int) {v u : Val} (l : List Int) (h : u ≠ v) : upd F v l u = F u := if_neg h
/-- The entry of a bucket that a place is told for, or none. -/
def Spot (vs : List Val) (v : Val) (r : Int) : Prop := (r = -1 ∧ v ∉ vs) ∨ ∃ j : Nat, r = j ∧ vs[j]? = some v
theorem set_flat {α : Type} : ∀ (bs : List (List α)) (q : Nat) (b b' : List α), bs[q]? = some b → (bs.set q b').flatten.length + b.length = bs.flatten.length + b'.length
  | [], q, b, b', h => by simp at h
  | c :: r, 0, b, b', h => by
    simp at h; subst h
    simp only [List.set_cons_zero, List.flatten_cons, List.length_append]
    omega
  | c :: r, q + 1, b, b', h => by
    have := set_flat r q b b' (by simpa using h)
    simp only [List.set_cons_succ, List.flatten_cons, List.length_append]
    omega
theorem le_flat {α : Type} {bs : List (List α)} {q : Nat} {b : List α} (h : bs[q]? = some b) : b.length ≤ bs.flatten.length := by
  have := set_flat bs q b [] h
  rw [List.length_nil, Nat.add_zero] at this
  omega
/-- A bucket with an entry in place of the one of the same value. -/
def put1 (b : List En) (r : Int) (v : Val) (l : List Int) : List En := (if r = -1 then b else b.eraseIdx r.toNat) ++ (if l = [] then [] else [(v, l)])
theorem put1_len (b : List En) (r : Int) (v : Val) (l : List Int) : (put1 b r v l).length ≤ b.length + 1 := by
  unfold put1
  rw [List.length_append]
  have h1 : (if r = -1 then b else b.eraseIdx r.toNat).length ≤ b.length := by
    split
    · exact Nat.le_refl _
    · rw [List.length_eraseIdx]; split <;> omega
  have h2 : (if l = [] then ([] : List En) else [(v, l)]).length ≤ 1 := by split <;> simp
  omega
theorem erase_mem {b : List En} {v : Val} (hu : b.Pairwise (fun x y => x.1 ≠ y.1)) {j : Nat} (hj : (b.map Prod.fst)[j]? = some v) (e : En) : e ∈ b.eraseIdx j ↔ e ∈ b ∧ e.1 ≠ v := by
  rw [List.getElem?_map] at hj
  obtain ⟨x, hx, ex⟩ := Option.map_eq_some_iff.1 hj
  obtain ⟨hjl, hjx⟩ := List.getElem?_eq_some_iff.1 hx
  rw [List.mem_eraseIdx_iff_getElem]
  constructor
  · rintro ⟨i, hi, hne, rfl⟩
    refine ⟨List.getElem_mem hi, fun q => ?_⟩
    rcases Nat.lt_or_gt_of_ne hne with c | c
    · have := List.pairwise_iff_getElem.1 hu i j hi hjl c
      rw [hjx, ex] at this
      exact this q
    · have := List.pairwise_iff_getElem.1 hu j i hjl hi c
      rw [hjx, ex] at this
      exact this q.symm
  · rintro ⟨hm, hne⟩
    obtain ⟨i, hi, rfl⟩ := List.mem_iff_getElem.1 hm
    refine ⟨i, hi, fun q => ?_, rfl⟩
    subst q
    rw [hjx, ex] at hne
    exact hne rfl
theorem spot_mem {b : List En} {v : Val} {r : Int} (hu : b.Pairwise (fun x y => x.1 ≠ y.1)) (h : Spot (b.map Prod.fst) v r) (e : En) : e ∈ (if r = -1 then b else b.eraseIdx r.toNat) ↔ e ∈ b ∧ e.1 ≠ v := by
  rcases h with ⟨rfl, h⟩ | ⟨j, rfl, h⟩
  · rw [if_pos rfl]
    exact ⟨fun q => ⟨q, fun q' => h (q' ▸ List.mem_map_of_mem q)⟩, fun q => q.1⟩
  · rw [if_neg (by omega), Int.toNat_natCast]
    exact erase_mem hu h e
theorem Fits.put {F : Val → List Int} {bs : List (List En)} (h : Fits F bs) {v : Val} {b : List En} {r : Int} (hb : bs[hs v % bs.length]? = some b) (hr : Spot (b.map Prod.fst) v r) (l : List Int) : Fits (upd F v l) (bs.set (hs v % bs.length) (put1 b r v l)) := by
  have hu := h.uni b (List.mem_of_getElem? hb)
  have hq := getD_lt hb
  have hmem : ∀ e : En, e ∈ put1 b r v l ↔ (e ∈ b ∧ e.1 ≠ v) ∨ (l ≠ [] ∧ e = (v, l)) := by
    intro e
    unfold put1
    rw [List.mem_append, spot_mem hu hr]
    by_cases c : l = []
    · rw [if_pos c]; simp [c]
    · rw [if_neg c]; simp [c]
  refine ⟨by rw [List.length_set]; exact h.pos, ?_, ?_, ?_⟩
  · intro q b' hb' e he
    rw [List.length_set]
    by_cases c : hs v % bs.length = q
    · subst c
      rw [List.getElem?_set_self hq] at hb'
      cases hb'
      rcases (hmem e).1 he with ⟨h1, h2⟩ | ⟨h1, rfl⟩
      · have := h.at_ _ b hb e h1
        exact ⟨this.1, by rw [upd_other _ _ h2]; exact this.2.1, this.2.2⟩
      · exact ⟨rfl, upd_same _ _ _, h1⟩
    · rw [List.getElem?_set_ne c] at hb'
      have := h.at_ q b' hb' e he
      refine ⟨this.1, ?_, this.2.2⟩
      rw [upd_other _ _ (fun q' => c (by rw [← q']; exact this.1))]
      exact this.2.1
  · intro b' hb'
    rcases List.mem_or_eq_of_mem_set hb' with h1 | rfl
    · exact h.uni b' h1
    · unfold put1
      rw [List.pairwise_append]
      refine ⟨?_, ?_, ?_⟩
      · split
        · exact hu
        · exact List.Pairwise.sublist (List.eraseIdx_sublist _ _) hu
      · split
        · exact List.Pairwise.nil
        · exact List.pairwise_singleton _ _
      · intro x hx y hy
        have hx' := ((spot_mem hu hr x).1 hx).2
        split at hy
        · simp at hy
        · simp at hy; subst hy; exact hx'
  · intro u hne b' hb'
    rw [List.length_set] at hb'
    by_cases c : hs v % bs.length = hs u % bs.length
    · rw [← c, List.getElem?_set_self hq] at hb'
      cases hb'
      rw [hmem]
      by_cases e : u = v
      · subst e
        rw [upd_same] at hne ⊢
        exact .inr ⟨hne, rfl⟩
      · rw [upd_other _ _ e] at hne ⊢
        exact .inl ⟨h.all u hne b (by rw [← c]; exact hb), e⟩
    · rw [List.getElem?_set_ne c] at hb'
      have e : u ≠ v := fun q => c (by rw [q])
      rw [upd_other _ _ e] at hne ⊢
      exact h.all u hne b' hb'
/-- No buckets hold anything. -/
theorem Fits.empty {m : Nat} (hm : 0 < m) : Fits (fun _ => []) (List.replicate m ([] : List En)) := by
  refine ⟨by rw [List.length_replicate]; exact hm, ?_, ?_, ?_⟩
  · intro q b hb e he
    have := List.mem_of_getElem? hb
    rw [List.eq_of_mem_replicate this] at he
    simp at he
  · intro b hb
    rw [List.eq_of_mem_replicate hb]
    exact List.Pairwise.nil
  · intro v h; exact absurd rfl h
theorem Fits.same {F G : Val → List Int} {bs : List (List En)} (h : Fits F bs) (e : ∀ v, F v = G v) : Fits G bs := by
  have : F = G := funext e
  rw [← this]; exact h
theorem Fits.apart {F : Val → List Int} {bs : List (List En)} (h : Fits F bs) : bs.flatten.Pairwise (fun x y => x.1 ≠ y.1) := by
  rw [List.pairwise_flatten]
  refine ⟨h.uni, ?_⟩
  rw [List.pairwise_iff_getElem]
  intro i j hi hj hij x hx y hy e
  have h1 := (h.at_ i _ (List.getElem?_eq_getElem hi) x hx).1
  have h2 := (h.at_ j _ (List.getElem?_eq_getElem hj) y hy).1
  rw [e] at h1
  omega
theorem Fits.find {F : Val → List Int} {bs : List (List En)} (h : Fits F bs) {v : Val} {b : List En} {r : Int} (hb : bs[hs v % bs.length]? = some b) (hr : Spot (b.map Prod.fst) v r) : (r = -1 ∧ F v = []) ∨ ∃ j : Nat, r = j ∧ b[j]? = some (v, F v) := by
  rcases hr with ⟨rfl, hn⟩ | ⟨j, rfl, hj⟩
  · refine .inl ⟨rfl, ?_⟩
    by_cases c : F v = []
    · exact c
    · exact absurd (List.mem_map_of_mem (h.all v c b hb)) hn
  · refine .inr ⟨j, rfl, ?_⟩
    rw [List.getElem?_map] at hj
    obtain ⟨x, hx, ex⟩ := Option.map_eq_some_iff.1 hj
    have := (h.at_ _ b hb x (List.mem_of_getElem? hx)).2.1
    rw [hx]
    rw [ex] at this
    rw [this, ← ex]
end Go.Proofs.Ytgjeobmbfeinnaa
