/- Quotes, twice and once: no Go in sight. -/
import Derived.Test.YtgokilochbnbaaaDoorQu
import Derived.Lib.SplitLaws
import Derived.Lib.Replace
namespace Go.Proofs.YtgokilochbnbaaaDoor
open Go.ChangeShapes Go.WideShapes Go.ChangeAt Go.RowKit
set_option linter.unusedVariables false
set_option maxRecDepth 100000

/-- A text with each quote twice. -/
def dupL (q : UInt8) (l : List UInt8) : List UInt8 := l.flatMap (fun c => if c = q then [q, q] else [c])
theorem dupL_cons (q c : UInt8) (l : List UInt8) : dupL q (c :: l) = (if c = q then [q, q] else [c]) ++ dupL q l := by simp [dupL]
theorem dupL_hit (q : UInt8) (l : List UInt8) : dupL q (q :: l) = q :: q :: dupL q l := by rw [dupL_cons, if_pos rfl]; rfl
theorem dupL_miss (q c : UInt8) (l : List UInt8) (h : c ≠ q) : dupL q (c :: l) = c :: dupL q l := by rw [dupL_cons, if_neg h]; rfl
theorem dupL_snoc (q c : UInt8) (l : List UInt8) : dupL q (l ++ [c]) = dupL q l ++ (if c = q then [q, q] else [c]) := by simp [dupL]
theorem dupL_none (q : UInt8) (l : List UInt8) (h : ∀ c ∈ l, c ≠ q) : dupL q l = l := by
  induction l with
  | nil => rfl
  | cons c r ih => rw [dupL_miss q c r (h c (by simp)), ih (fun d hd => h d (by simp [hd]))]
theorem dupL_app (q : UInt8) (a b : List UInt8) : dupL q (a ++ b) = dupL q a ++ dupL q b := by simp [dupL]
theorem dupL_len (q : UInt8) (l : List UInt8) : l.length ≤ (dupL q l).length ∧ (dupL q l).length ≤ 2 * l.length := by
  induction l with
  | nil => simp [dupL]
  | cons c r ih =>
    rw [dupL_cons, List.length_append, List.length_cons]
    split <;> simp <;> omega
theorem pair_occ (q : UInt8) (a x : List UInt8) (ha : ∀ c ∈ a, c ≠ q) : Lib.index (a ++ q :: q :: x) [q, q] = (a.length : Int) := by
  induction a with
  | nil =>
    rw [List.nil_append, Lib.index, if_pos (by simp [List.isPrefixOf])]
    rfl
  | cons c r ih =>
    have h1 := ih (fun d hd => ha d (by simp [hd]))
    have hc : c ≠ q := ha c (by simp)
    have hp : ¬ ([q, q] : List UInt8).isPrefixOf (c :: (r ++ q :: q :: x)) = true := by
      intro h
      simp [List.isPrefixOf] at h
      exact hc h.1.symm
    rw [List.cons_append, Lib.index, if_neg hp, h1, if_neg (fun e => by have := beq_iff_eq.1 e; omega)]
    simp
theorem pair_none (q : UInt8) (a : List UInt8) (ha : ∀ c ∈ a, c ≠ q) : Lib.index a [q, q] = -1 := by
  induction a with
  | nil => rfl
  | cons c r ih =>
    have h1 := ih (fun d hd => ha d (by simp [hd]))
    have hc : c ≠ q := ha c (by simp)
    have hp : ¬ ([q, q] : List UInt8).isPrefixOf (c :: r) = true := by
      intro h
      simp [List.isPrefixOf] at h
      exact hc h.1.symm
    rw [Lib.index, if_neg hp, h1]
    rfl
theorem cut_at (q : UInt8) : ∀ t : List UInt8, (∀ c ∈ t, c ≠ q) ∨ ∃ a b, t = a ++ q :: b ∧ (∀ c ∈ a, c ≠ q)
  | [] => .inl (by simp)
  | c :: r => by
    by_cases h : c = q
    · exact .inr ⟨[], r, by rw [h]; rfl, by simp⟩
    · rcases cut_at q r with k | ⟨a, b, e, k⟩
      · exact .inl (fun d hd => by
          rcases List.mem_cons.1 hd with rfl | hd
          · exact h
          · exact k d hd)
      · refine .inr ⟨c :: a, b, by rw [e]; rfl, fun d hd => ?_⟩
        rcases List.mem_cons.1 hd with rfl | hd
        · exact h
        · exact k d hd
/-- Two quotes in place of one, turned back. -/
theorem replace_pairs (q : UInt8) : ∀ n (t : List UInt8), t.length ≤ n → Lib.replaceK [q, q] [q] (Lib.count (dupL q t) [q, q]) (dupL q t) = t := by
  intro n
  induction n with
  | zero =>
    intro t h
    have : t = [] := List.eq_nil_of_length_eq_zero (by omega)
    subst this
    rw [Lib.count_miss (pair_none q _ (by simp [dupL]))]
    rfl
  | succ n ih =>
    intro t h
    rcases cut_at q t with k | ⟨a, b, rfl, k⟩
    · rw [dupL_none q t k, Lib.count_miss (pair_none q t k)]
      rfl
    · have e : dupL q (a ++ q :: b) = a ++ q :: q :: dupL q b := by rw [dupL_app, dupL_none q a k, dupL_hit]
      have hi := pair_occ q a (dupL q b) k
      have hd : (a ++ q :: q :: dupL q b).drop (a.length + ([q, q] : List UInt8).length) = dupL q b := by
        rw [← List.drop_drop, List.drop_left]; rfl
      rw [e, Lib.count_hit (by simp) hi, hd, Nat.add_comm 1, Lib.replaceK_hit _ _ _ _ _ hi, hd, ih b (by rw [List.length_append, List.length_cons] at h; omega)]
      rw [List.take_left]
      simp
theorem replace_back (q : UInt8) (t : List UInt8) : Lib.replaceAll (dupL q t) [q, q] [q] = t := by
  unfold Lib.replaceAll Lib.replace
  rw [if_neg (by simp)]
  have e : Lib.replaceNum (dupL q t) [q, q] (-1) = Lib.count (dupL q t) [q, q] := by unfold Lib.replaceNum; rw [if_pos (.inl (by omega))]
  rw [e, replace_pairs q t.length t (Nat.le_refl _)]
theorem replace_once (q : UInt8) : ∀ l : List UInt8, Lib.replaceK [q] [q, q] (Lib.count l [q]) l = dupL q l
  | [] => by
    have : Lib.count [] [q] = 0 := Lib.count_one q []
    rw [this]
    rfl
  | b :: l => by
    have ih := replace_once q l
    by_cases h : b = q
    · subst h
      have hi : Lib.index (b :: l) [b] = ((0 : Nat) : Int) := by rw [Lib.index, if_pos (by simp [List.isPrefixOf])]; rfl
      rw [Lib.count_cons_eq, Nat.add_comm, Lib.replaceK_hit _ _ _ _ 0 hi]
      show [] ++ [b, b] ++ Lib.replaceK [b] [b, b] (Lib.count l [b]) l = _
      rw [ih, dupL_hit]
      rfl
    · rw [Lib.count_cons_ne b q l h, dupL_miss q b l h, ← ih]
      cases hc : Lib.count l [q] with
      | zero => rfl
      | succ k =>
        obtain ⟨i, hi⟩ := Lib.index_of_count (s := l) (old := [q]) (by omega)
        have hi2 : Lib.index (b :: l) [q] = ((i + 1 : Nat) : Int) := by
          have hp : ([q] : List UInt8).isPrefixOf (b :: l) = false := by simp [List.isPrefixOf]; exact fun e => h e.symm
          rw [Lib.index, if_neg (by rw [hp]; exact fun e => by cases e), hi, if_neg (fun e => by have := beq_iff_eq.1 e; omega)]
          omega
        rw [Lib.replaceK_hit _ _ _ _ _ hi2, Lib.replaceK_hit _ _ _ _ _ hi]
        rfl
theorem replace_dup (q : UInt8) (l : List UInt8) : Lib.replaceAll l [q] [q, q] = dupL q l := by
  unfold Lib.replaceAll Lib.replace
  rw [if_neg (by simp)]
  have e : Lib.replaceNum l [q] (-1) = Lib.count l [q] := by unfold Lib.replaceNum; rw [if_pos (.inl (by omega))]
  rw [e, replace_once]

/-- What stands ahead of the quote that ends a text, each two of them in place of one, and how many bytes with it. -/
def quo (q : UInt8) : List UInt8 → Option (List UInt8 × Nat)
  | [] => none
  | [c] => if c = q then some ([], 1) else none
  | c :: d :: r =>
    if c = q then (if d = q then (quo q r).map (fun x => (q :: x.1, x.2 + 2)) else some ([], 1))
    else (quo q (d :: r)).map (fun x => (c :: x.1, x.2 + 1))
/-- What is found is a text with its quotes twice, and one behind it that no other one follows. -/
theorem q_next (q : UInt8) : q + 1 ≠ q := by
  intro e
  have := congrArg UInt8.toNat e
  have := q.toNat_lt
  simp at *
theorem quo_some (q : UInt8) : ∀ l t m, quo q l = some (t, m) → m = (dupL q t).length + 1 ∧ ∃ r, l = dupL q t ++ q :: r ∧ r.headD (q + 1) ≠ q := by
  intro l
  induction l using quo.induct (q := q) with
  | case1 => intro t m h; cases h
  | case2 =>
    intro t m h
    rw [quo, if_pos rfl] at h
    cases h
    exact ⟨by simp [dupL], [], by simp [dupL], q_next q⟩
  | case3 c hc =>
    intro t m h
    rw [quo, if_neg hc] at h
    cases h
  | case4 r ih =>
    intro t m h
    rw [quo, if_pos rfl, if_pos rfl] at h
    cases hx : quo q r with
    | none => rw [hx] at h; cases h
    | some x =>
      obtain ⟨t', m'⟩ := x
      rw [hx] at h
      simp only [Option.map_some, Option.some.injEq, Prod.mk.injEq] at h
      obtain ⟨rfl, rfl⟩ := h
      obtain ⟨h1, r', h2, h3⟩ := ih t' m' hx
      refine ⟨by rw [dupL_hit]; simp; omega, r', by rw [dupL_hit, h2]; rfl, h3⟩
  | case5 d r hd =>
    intro t m h
    rw [quo, if_pos rfl, if_neg hd] at h
    cases h
    exact ⟨by simp [dupL], d :: r, by simp [dupL], by simpa using hd⟩
  | case6 c d r hc ih =>
    intro t m h
    rw [quo, if_neg hc] at h
    cases hx : quo q (d :: r) with
    | none => rw [hx] at h; cases h
    | some x =>
      obtain ⟨t', m'⟩ := x
      rw [hx] at h
      simp only [Option.map_some, Option.some.injEq, Prod.mk.injEq] at h
      obtain ⟨rfl, rfl⟩ := h
      obtain ⟨h1, r', h2, h3⟩ := ih t' m' hx
      refine ⟨by rw [dupL_miss q c t' hc]; simp; omega, r', by rw [dupL_miss q c t' hc, h2]; rfl, h3⟩
/-- The scan and what is found, as one. -/
def Agree (q : UInt8) (l : List UInt8) : Prop := (∃ t m, quo q l = some (t, m) ∧ scan (fq q) true l = (m, false)) ∨ (quo q l = none ∧ (scan (fq q) true l).2 = true)
theorem quo_scan (q : UInt8) : ∀ l, Agree q l := by
  have g1 : fq q true q = some false := by unfold fq; rw [if_pos rfl]; rfl
  have g2 : fq q false q = some true := by unfold fq; rw [if_pos rfl]; rfl
  have g3 : ∀ c, c ≠ q → fq q true c = some true := fun c hc => by unfold fq; rw [if_neg hc]; rfl
  have g4 : ∀ c, c ≠ q → fq q false c = none := fun c hc => by unfold fq; rw [if_neg hc]; rfl
  intro l
  induction l using quo.induct (q := q) with
  | case1 => exact .inr ⟨rfl, rfl⟩
  | case2 => exact .inl ⟨[], 1, by rw [quo, if_pos rfl], by rw [scan_go g1]; rfl⟩
  | case3 c hc => exact .inr ⟨by rw [quo, if_neg hc], by rw [scan_go (g3 c hc)]; rfl⟩
  | case4 r ih =>
    unfold Agree
    rw [quo, if_pos rfl, if_pos rfl, scan_go g1, scan_go g2]
    rcases ih with ⟨t, m, h1, h2⟩ | ⟨h1, h2⟩
    · exact .inl ⟨q :: t, m + 2, by rw [h1]; rfl, by rw [h2]⟩
    · exact .inr ⟨by rw [h1]; rfl, h2⟩
  | case5 d r hd =>
    unfold Agree
    rw [quo, if_pos rfl, if_neg hd, scan_go g1, scan_stop (g4 d hd)]
    exact .inl ⟨[], 1, rfl, rfl⟩
  | case6 c d r hc ih =>
    unfold Agree
    rw [quo, if_neg hc, scan_go (g3 c hc)]
    rcases ih with ⟨t, m, h1, h2⟩ | ⟨h1, h2⟩
    · exact .inl ⟨c :: t, m + 1, by rw [h1]; rfl, by rw [h2]⟩
    · exact .inr ⟨by rw [h1]; rfl, h2⟩
end Go.Proofs.YtgokilochbnbaaaDoor
