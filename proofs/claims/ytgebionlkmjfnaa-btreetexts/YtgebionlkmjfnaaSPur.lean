/- Keys that are ordered; lists of items; trees of a depth, and what they hold. -/
import Derived.Test.YtgebionlkmjfnaaSBase
namespace Go.Proofs.Ytgebionlkmjfnaa.Sx
set_option linter.unusedVariables false
set_option maxRecDepth 100000

/-- Keys: which of two stands first. -/
class KOrd (K : Type) where
  kc : K → K → Int
  turn : ∀ a b, kc a b = - kc b a
  range : ∀ a b, kc a b = -1 ∨ kc a b = 0 ∨ kc a b = 1
  zero : ∀ a b, kc a b = 0 ↔ a = b
  thru : ∀ a b c, kc a b = -1 → kc b c = -1 → kc a c = -1
export KOrd (kc)

section
variable {K V : Type} [KOrd K]
theorem kc_self (a : K) : kc a a = 0 := (KOrd.zero a a).2 rfl
theorem kc_one {a b : K} : kc a b = 1 ↔ kc b a = -1 := by have := KOrd.turn a b; omega

def Low (l : List (K × V)) (k : K) : Prop := ∀ x, x ∈ l → kc x.1 k = -1
def High (l : List (K × V)) (k : K) : Prop := ∀ x, x ∈ l → kc k x.1 = -1
def Sorted (l : List (K × V)) : Prop := l.Pairwise (fun x y => kc x.1 y.1 = -1)
def lessK (k : K) (x : K × V) : Bool := decide (kc x.1 k = -1)
def moreK (k : K) (x : K × V) : Bool := decide (kc k x.1 = -1)
def isK (k : K) (x : K × V) : Bool := decide (kc x.1 k = 0)
/-- With a value by a key; without a key; what is by a key. -/
def insL (l : List (K × V)) (k : K) (v : V) : List (K × V) := l.filter (lessK k) ++ (k, v) :: l.filter (moreK k)
def delL (l : List (K × V)) (k : K) : List (K × V) := l.filter (fun x => !isK k x)
def getL (l : List (K × V)) (k : K) : Option V := (l.find? (isK k)).map (·.2)

theorem Low.append {a b : List (K × V)} {k : K} (h : Low a k) (g : Low b k) : Low (a ++ b) k := fun x hx => (List.mem_append.1 hx).elim (h x) (g x)
theorem High.append {a b : List (K × V)} {k : K} (h : High a k) (g : High b k) : High (a ++ b) k := fun x hx => (List.mem_append.1 hx).elim (h x) (g x)
theorem low_less {l : List (K × V)} {k : K} (h : Low l k) : l.filter (lessK k) = l := List.filter_eq_self.2 (fun x hx => decide_eq_true (h x hx))
theorem low_more {l : List (K × V)} {k : K} (h : Low l k) : l.filter (moreK k) = [] := List.filter_eq_nil_iff.2 (fun x hx e => by
  have h1 := h x hx; have h2 : kc k x.1 = -1 := of_decide_eq_true e; have := KOrd.turn k x.1; omega)
theorem high_less {l : List (K × V)} {k : K} (h : High l k) : l.filter (lessK k) = [] := List.filter_eq_nil_iff.2 (fun x hx e => by
  have h1 := h x hx; have h2 : kc x.1 k = -1 := of_decide_eq_true e; have := KOrd.turn k x.1; omega)
theorem high_more {l : List (K × V)} {k : K} (h : High l k) : l.filter (moreK k) = l := List.filter_eq_self.2 (fun x hx => decide_eq_true (h x hx))
theorem low_not {l : List (K × V)} {k : K} (h : Low l k) : l.filter (fun x => !isK k x) = l := List.filter_eq_self.2 (fun x hx => by
  have h1 := h x hx; have : isK k x = false := decide_eq_false (by omega); rw [this]; rfl)
theorem high_not {l : List (K × V)} {k : K} (h : High l k) : l.filter (fun x => !isK k x) = l := List.filter_eq_self.2 (fun x hx => by
  have h1 := h x hx; have := KOrd.turn k x.1; have : isK k x = false := decide_eq_false (by omega); rw [this]; rfl)
theorem low_find {l : List (K × V)} {k : K} (h : Low l k) : l.find? (isK k) = none := List.find?_eq_none.2 (fun x hx e => by
  have h1 := h x hx; have h2 : kc x.1 k = 0 := of_decide_eq_true e; omega)
theorem high_find {l : List (K × V)} {k : K} (h : High l k) : l.find? (isK k) = none := List.find?_eq_none.2 (fun x hx e => by
  have h1 := h x hx; have h2 : kc x.1 k = 0 := of_decide_eq_true e; have := KOrd.turn k x.1; omega)
theorem insL_mid {P M S : List (K × V)} {k : K} (v : V) (hp : Low P k) (hs : High S k) : insL (P ++ M ++ S) k v = P ++ insL M k v ++ S := by
  unfold insL
  simp only [List.filter_append, low_less hp, low_more hp, high_less hs, high_more hs, List.append_nil, List.nil_append, List.append_assoc, List.cons_append]
theorem delL_mid {P M S : List (K × V)} {k : K} (hp : Low P k) (hs : High S k) : delL (P ++ M ++ S) k = P ++ delL M k ++ S := by
  unfold delL
  rw [List.filter_append, List.filter_append, low_not hp, high_not hs]
theorem getL_mid {P M S : List (K × V)} {k : K} (hp : Low P k) (hs : High S k) : getL (P ++ M ++ S) k = getL M k := by
  unfold getL
  rw [List.find?_append, List.find?_append, low_find hp, high_find hs]
  simp
theorem insL_one (k : K) (v0 v : V) : insL [(k, v0)] k v = [(k, v)] := by
  unfold insL
  have h1 : lessK k (k, v0) = false := decide_eq_false (by show ¬ kc k k = -1; rw [kc_self]; omega)
  have h2 : moreK k (k, v0) = false := decide_eq_false (by show ¬ kc k k = -1; rw [kc_self]; omega)
  simp [h1, h2]
theorem delL_one (k : K) (v0 : V) : delL [(k, v0)] k = [] := by
  unfold delL
  have h1 : isK k (k, v0) = true := decide_eq_true (kc_self k)
  simp [h1]
theorem getL_one (k : K) (v0 : V) : getL [(k, v0)] k = some v0 := by
  unfold getL
  have h1 : isK k (k, v0) = true := decide_eq_true (kc_self k)
  simp [h1]
theorem insL_nil (k : K) (v : V) : insL ([] : List (K × V)) k v = [(k, v)] := rfl
theorem delL_nil (k : K) : delL ([] : List (K × V)) k = [] := rfl
theorem getL_nil (k : K) : getL ([] : List (K × V)) k = none := rfl

/-- Where a key stands, or would stand; whether it is there. -/
def pos (l : List (K × V)) (k : K) : Nat := (l.takeWhile (lessK k)).length
def has (l : List (K × V)) (k : K) : Bool := (l[pos l k]?).any (isK k)
theorem pos_le (l : List (K × V)) (k : K) : pos l k ≤ l.length := (List.takeWhile_prefix _).length_le
theorem take_pos (l : List (K × V)) (k : K) : l.take (pos l k) = l.takeWhile (lessK k) := by
  have := List.takeWhile_prefix (lessK k) (l := l)
  exact (List.prefix_iff_eq_take.1 this).symm
theorem drop_pos (l : List (K × V)) (k : K) : l.drop (pos l k) = l.dropWhile (lessK k) := by
  have h := List.takeWhile_append_dropWhile (p := lessK k) (l := l)
  have h2 := List.take_append_drop (pos l k) l
  rw [take_pos] at h2
  exact List.append_cancel_left (h2.trans h.symm)
theorem low_take (l : List (K × V)) (k : K) : Low (l.take (pos l k)) k := fun x hx => by
  rw [take_pos] at hx
  have : ∀ (l : List (K × V)), x ∈ l.takeWhile (lessK k) → lessK k x = true := by
    intro l
    induction l with
    | nil => intro h; simp at h
    | cons y r ih =>
      intro h
      rw [List.takeWhile_cons] at h
      by_cases c : lessK k y = true
      · rw [if_pos c] at h
        rcases List.mem_cons.1 h with rfl | h
        · exact c
        · exact ih h
      · rw [if_neg c] at h; simp at h
  exact of_decide_eq_true (this l hx)
theorem drop_head {l : List (K × V)} {k : K} {y : K × V} {Z : List (K × V)} (h : l.drop (pos l k) = y :: Z) : ¬ kc y.1 k = -1 := by
  rw [drop_pos] at h
  have : ∀ (l : List (K × V)), l.dropWhile (lessK k) = y :: Z → lessK k y = false := by
    intro l
    induction l with
    | nil => intro h; simp at h
    | cons x r ih =>
      intro h
      rw [List.dropWhile_cons] at h
      by_cases c : lessK k x = true
      · rw [if_pos c] at h; exact ih h
      · rw [if_neg c] at h
        cases h
        exact Bool.eq_false_iff.2 c
  exact of_decide_eq_false (this l h)
theorem sorted_high {k : K} {y : K × V} {Z : List (K × V)} (h : Sorted (y :: Z)) (hk : kc k y.1 = -1) : High (y :: Z) k := fun x hx => by
  rcases List.mem_cons.1 hx with rfl | hx
  · exact hk
  · exact KOrd.thru _ _ _ hk ((List.pairwise_cons.1 h).1 x hx)
/-- What stands around a key. -/
theorem around {l : List (K × V)} (hs : Sorted l) (k : K) :
    (has l k = false ∧ Low (l.take (pos l k)) k ∧ High (l.drop (pos l k)) k) ∨
    (has l k = true ∧ pos l k < l.length ∧ Low (l.take (pos l k)) k ∧ High (l.drop (pos l k + 1)) k ∧ ∃ v, l.drop (pos l k) = (k, v) :: l.drop (pos l k + 1)) := by
  have hl := low_take l k
  have hsd : Sorted (l.drop (pos l k)) := hs.sublist (List.drop_sublist _ _)
  have hh : has l k = ((l.drop (pos l k)).head?).any (isK k) := by unfold has; rw [List.head?_drop]
  cases hd : l.drop (pos l k) with
  | nil =>
    refine .inl ⟨by rw [hh, hd]; rfl, hl, fun x hx => by cases hx⟩
  | cons y Z =>
    have hy := drop_head hd
    rw [hd] at hsd
    have hlt : pos l k < l.length := by
      have := congrArg List.length hd
      rw [List.length_drop, List.length_cons] at this; omega
    have hZ : l.drop (pos l k + 1) = Z := by
      rw [← List.tail_drop, hd]; rfl
    rcases KOrd.range y.1 k with c | c | c
    · exact absurd c hy
    · have e : y.1 = k := (KOrd.zero _ _).1 c
      refine .inr ⟨by rw [hh, hd]; exact decide_eq_true c, hlt, hl, ?_, y.2, ?_⟩
      · rw [hZ]; intro x hx; rw [← e]; exact (List.pairwise_cons.1 hsd).1 x hx
      · rw [hZ, ← e]
    · refine .inl ⟨by rw [hh, hd]; exact decide_eq_false (by omega), hl, sorted_high hsd (kc_one.1 c)⟩

end
section
variable {K V : Type}
/-- Keys and lists between them. -/
def weave : List (K × V) → List (List (K × V)) → List (K × V)
  | xs, [] => xs
  | [], f :: _ => f
  | x :: xs, f :: fs => f ++ x :: weave xs fs
def pre : List (K × V) → List (List (K × V)) → List (K × V)
  | x :: xs, f :: fs => f ++ x :: pre xs fs
  | _, _ => []
def suf : List (K × V) → List (List (K × V)) → List (K × V)
  | x :: xs, f :: fs => x :: f ++ suf xs fs
  | _, _ => []
theorem weave_tail : ∀ (Y : List (K × V)) (f : List (K × V)) (B : List (List (K × V))), B.length = Y.length → weave Y (f :: B) = f ++ suf Y B
  | [], f, [], _ => by simp [weave, suf]
  | y :: Y, f, b :: B, h => by
    rw [weave, weave_tail Y b B (by simpa using h), suf]; simp
theorem weave_at : ∀ (X : List (K × V)) (A : List (List (K × V))) (Y : List (K × V)) (f : List (K × V)) (B : List (List (K × V))), A.length = X.length → B.length = Y.length → weave (X ++ Y) (A ++ f :: B) = pre X A ++ f ++ suf Y B
  | [], [], Y, f, B, _, h => by simp [pre, weave_tail Y f B h]
  | x :: X, a :: A, Y, f, B, h, h' => by
    rw [List.cons_append, List.cons_append, weave, weave_at X A Y f B (by simpa using h) h', pre]
    simp
theorem weave_two : ∀ (L : List (K × V)) (A : List (List (K × V))) (m : K × V) (R : List (K × V)) (B : List (List (K × V))), A.length = L.length + 1 → B.length = R.length + 1 → weave (L ++ m :: R) (A ++ B) = weave L A ++ m :: weave R B
  | [], [a], m, R, B, _, h => by simp [weave]
  | x :: L, a :: b :: A, m, R, B, h, h' => by
    have := weave_two L (b :: A) m R B (by simpa using h) h'
    rw [List.cons_append, List.cons_append, weave, this, weave]
    simp
theorem pre_low [KOrd K] {k : K} : ∀ (X : List (K × V)) (A : List (List (K × V))), Sorted (pre X A) → Low X k → Low (pre X A) k
  | [], _, _, _ => fun x hx => by simp [pre] at hx
  | _ :: _, [], _, _ => fun x hx => by simp [pre] at hx
  | y :: X, a :: A, hs, hl => fun x hx => by
    rw [pre] at hx hs
    have h1 := List.pairwise_append.1 hs
    have hy := hl y (List.mem_cons_self ..)
    rcases List.mem_append.1 hx with h | h
    · exact KOrd.thru _ _ _ (h1.2.2 x h y (List.mem_cons_self ..)) hy
    · rcases List.mem_cons.1 h with rfl | h
      · exact hy
      · exact pre_low X A (List.pairwise_cons.1 h1.2.1).2 (fun z hz => hl z (List.mem_cons_of_mem _ hz)) x h
theorem suf_high [KOrd K] {k : K} : ∀ (Y : List (K × V)) (B : List (List (K × V))), Sorted (suf Y B) → High Y k → High (suf Y B) k
  | [], _, _, _ => fun x hx => by simp [suf] at hx
  | _ :: _, [], _, _ => fun x hx => by simp [suf] at hx
  | y :: Y, b :: B, hs, hh => by
    rw [suf] at hs ⊢
    exact sorted_high hs (hh y (List.mem_cons_self ..))
theorem weave_length : ∀ (xs : List (K × V)) (fs : List (List (K × V))), fs.length = xs.length + 1 → (weave xs fs).length = xs.length + (fs.map List.length).sum
  | [], [f], _ => by simp [weave]
  | x :: xs, f :: fs, h => by
    rw [weave, List.length_append, List.length_cons, weave_length xs fs (by simpa using h)]
    simp; omega

/-- Trees of a depth. -/
def Tr (K V : Type) : Nat → Type
  | 0 => List (K × V)
  | d + 1 => List (K × V) × List (Tr K V d)
def flat : ∀ (d : Nat), Tr K V d → List (K × V)
  | 0, l => l
  | d + 1, t => weave t.1 (t.2.map (flat d))
def itemsT : ∀ {d : Nat}, Tr K V d → List (K × V)
  | 0, l => l
  | _ + 1, t => t.1
/-- So many items as there may be. -/
def Sz (lo hi : Nat) : ∀ (d : Nat), Tr K V d → Prop
  | 0, l => lo ≤ l.length ∧ l.length ≤ hi
  | d + 1, t => lo ≤ t.1.length ∧ t.1.length ≤ hi ∧ t.2.length = t.1.length + 1 ∧ ∀ k, k ∈ t.2 → Sz 6 12 d k
theorem Sz.mono {lo hi lo' hi' : Nat} (hl : lo' ≤ lo) (hh : hi ≤ hi') : ∀ {d : Nat} {t : Tr K V d}, Sz lo hi d t → Sz lo' hi' d t
  | 0, _, h => ⟨Nat.le_trans hl h.1, Nat.le_trans h.2 hh⟩
  | _ + 1, _, h => ⟨Nat.le_trans hl h.1, Nat.le_trans h.2.1 hh, h.2.2⟩
theorem Sz.lo {lo hi : Nat} : ∀ {d : Nat} {t : Tr K V d}, Sz lo hi d t → lo ≤ (itemsT t).length ∧ (itemsT t).length ≤ hi
  | 0, _, h => h
  | _ + 1, _, h => ⟨h.1, h.2.1⟩
theorem Sz.set {lo hi lo' hi' : Nat} : ∀ {d : Nat} {t : Tr K V d}, Sz lo hi d t → lo' ≤ (itemsT t).length → (itemsT t).length ≤ hi' → Sz lo' hi' d t
  | 0, _, h, a, b => ⟨a, b⟩
  | _ + 1, _, h, a, b => ⟨a, b, h.2.2⟩
theorem flat_big : ∀ (d : Nat) (t : Tr K V d) (lo hi : Nat), 1 ≤ lo → Sz lo hi d t → 2 ^ d ≤ (flat d t).length
  | 0, l, lo, hi, h, hs => by have := hs.1; show 1 ≤ List.length l; omega
  | d + 1, t, lo, hi, h, hs => by
    obtain ⟨h1, h2, h3, h4⟩ := hs
    show 2 ^ (d + 1) ≤ (weave t.1 (t.2.map (flat d))).length
    rw [weave_length _ _ (by rw [List.length_map]; exact h3)]
    have : ∀ (l : List (Tr K V d)), (∀ k, k ∈ l → Sz 6 12 d k) → l.length * 2 ^ d ≤ ((l.map (flat d)).map List.length).sum := by
      intro l
      induction l with
      | nil => intro _; simp
      | cons x r ih =>
        intro hx
        have e1 := flat_big d x 6 12 (by omega) (hx x (List.mem_cons_self ..))
        have e2 := ih (fun k hk => hx k (List.mem_cons_of_mem _ hk))
        simp only [List.map_cons, List.sum_cons, List.length_cons, Nat.succ_mul]
        omega
    have h5 := this t.2 h4
    have h6 : 2 * 2 ^ d ≤ t.2.length * 2 ^ d := Nat.mul_le_mul_right _ (by omega)
    rw [Nat.pow_succ]
    omega
end
end Go.Proofs.Ytgebionlkmjfnaa.Sx
