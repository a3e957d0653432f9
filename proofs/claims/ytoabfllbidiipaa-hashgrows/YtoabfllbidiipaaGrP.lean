/- HashGrows: what the index has. -/
import Derived.Test.YtoabfllbidiipaaSam
namespace Go.Proofs.Ytoabfllbidiipaa
open Go.ChangeShapes Go.WideShapes Go.RowKit
set_option linter.unusedVariables false
set_option maxRecDepth 100000

/-- The values in a row. -/
def vI (n : Int) : Val := ⟨1, n, ⟨#[]⟩⟩
/-- The numbers from a to b, each by a value of its own. -/
def rowF (f : Int) (a b : Nat) : Val → List Int := fun v => if v.k = 1 ∧ v.s = ⟨#[]⟩ ∧ f + a ≤ v.n ∧ v.n < f + b then [v.n - f] else []
theorem rowF_fit (f : Int) (a b : Nat) : ∀ v, rowF f a b v ≠ [] → v.fit := fun v hv => by
  unfold rowF at hv
  split at hv
  · rename_i h
    unfold Val.fit
    rw [h.2.1]
    decide
  · exact absurd rfl hv
theorem vI_fit (n : Int) : (vI n).fit := by show (0 : Nat) ≤ _; omega
theorem vI_may (n : Int) : may (vI n) := .inr (.inl ⟨rfl, rfl⟩)
theorem rowF_in (f : Int) (a b i : Nat) (h1 : a ≤ i) (h2 : i < b) : rowF f a b (vI (f + i)) = [(i : Int)] := by
  unfold rowF vI
  rw [if_pos ⟨rfl, rfl, by simp only; omega, by simp only; omega⟩]
  simp only [List.cons.injEq, and_true]
  omega
theorem rowF_out (f : Int) (a b i : Nat) (h : i < a ∨ b ≤ i) : rowF f a b (vI (f + i)) = [] := by
  unfold rowF vI
  rw [if_neg (fun q => by have := q.2.2; simp only at this; omega)]
theorem val_eq {v : Val} {n : Int} (h1 : v.k = 1) (h2 : v.s = ⟨#[]⟩) (h3 : v.n = n) : v = vI n := by
  obtain ⟨k, m, s⟩ := v
  simp only at h1 h2 h3
  subst h1; subst h2; subst h3
  rfl
theorem ins_nil (n : Int) : ins n [] = [n] := rfl
theorem del_one (n : Int) : del n [n] = [] := by
  unfold del
  rw [lo_cons_ge [] (by omega)]
  rfl
theorem row_with (f : Int) (i c nb : Nat) : wF (rowF f 0 i) (vI (f + i)) i = rowF f 0 (i + 1) ∧ wC (rowF f 0 i) (vI (f + i)) i c = c + 1 ∧ isNew (rowF f 0 i) (vI (f + i)) i := by
  have hn : isNew (rowF f 0 i) (vI (f + i)) i := ⟨vI_may _, by rw [rowF_out f 0 i i (.inr (Nat.le_refl _))]; simp⟩
  refine ⟨?_, by unfold wC; rw [if_pos hn], hn⟩
  unfold wF
  rw [if_pos hn, rowF_out f 0 i i (.inr (Nat.le_refl _)), ins_nil]
  funext v
  by_cases e : v = vI (f + i)
  · subst e
    rw [upd_same, rowF_in f 0 (i + 1) i (Nat.zero_le _) (by omega)]
  · rw [upd_other _ _ e]
    unfold rowF
    by_cases q : v.k = 1 ∧ v.s = ⟨#[]⟩ ∧ f + ((0 : Nat) : Int) ≤ v.n ∧ v.n < f + (i : Int)
    · rw [if_pos q, if_pos ⟨q.1, q.2.1, q.2.2.1, by have := q.2.2.2; omega⟩]
    · rw [if_neg q, if_neg (fun q' => q ⟨q'.1, q'.2.1, q'.2.2.1, by
        have h1 := q'.2.2.2
        have h2 : v.n ≠ f + i := fun h => e (val_eq q'.1 q'.2.1 h)
        omega⟩)]
theorem row_wo (f : Int) (i n c : Nat) (h : i < n) : oF (rowF f i n) (vI (f + i)) i = rowF f (i + 1) n ∧ oC (rowF f i n) (vI (f + i)) i c = c - 1 ∧ (i : Int) ∈ rowF f i n (vI (f + i)) := by
  have e0 := rowF_in f i n i (Nat.le_refl _) h
  have hn : (i : Int) ∈ rowF f i n (vI (f + i)) := by rw [e0]; simp
  refine ⟨?_, by unfold oC; rw [if_pos hn], hn⟩
  unfold oF
  rw [if_pos hn, e0, del_one]
  funext v
  by_cases e : v = vI (f + i)
  · subst e
    rw [upd_same, rowF_out f (i + 1) n i (.inl (by omega))]
  · rw [upd_other _ _ e]
    unfold rowF
    by_cases q : v.k = 1 ∧ v.s = ⟨#[]⟩ ∧ f + ((i + 1 : Nat) : Int) ≤ v.n ∧ v.n < f + (n : Int)
    · rw [if_pos q, if_pos ⟨q.1, q.2.1, by have := q.2.2.1; omega, q.2.2.2⟩]
    · rw [if_neg q, if_neg (fun q' => q ⟨q'.1, q'.2.1, by
        have h1 := q'.2.2.1
        have h2 : v.n ≠ f + i := fun h => e (val_eq q'.1 q'.2.1 h)
        omega, q'.2.2.2⟩)]
theorem row_zero (f : Int) : rowF f 0 0 = fun _ => [] := by
  funext v
  unfold rowF
  rw [if_neg (fun q => by have := q.2.2; omega)]
/-- With: one more. -/
theorem grow_with (p : Option Addr) (f : Int) (i nb : Nat) (hi : i < 300) (hnb : nb ≤ 18) (hle : i ≤ 32 * nb) (w : World) (h : Ix w p (rowF f 0 i) nb (i + 1)) :
    Calls Try.prog 15 #[.agg #[.pointer p, .int .i64 i], .agg #[.int .i64 1, .int .i64 (f + i), .string ⟨#[]⟩], .int .i64 i] w fun e w' => ∃ p' nb', e = .returned (.agg #[.pointer p', .int .i64 ((i : Int) + 1)]) ∧ Ix w' p' (rowF f 0 (i + 1)) nb' (i + 2) ∧ Below w.heap.size w w' ∧ nb' ≤ 18 ∧ i + 1 ≤ 32 * nb' := by
  have h0 := With_is p i (rowF f 0 i) nb (i + 1) (by omega) (by omega) hle (by omega) (rowF_fit f 0 i) (vI (f + i)) (vI_fit _) i w h
  obtain ⟨e1, e2, e3⟩ := row_with f i i nb
  rw [e1, e2] at h0
  refine h0.mono fun e w' ⟨p', q1, q2, q3⟩ => ⟨p', _, q1, q2, q3, ?_, ?_⟩
  · unfold wN; split <;> omega
  · unfold wN
    by_cases d : i = 32 * nb
    · rw [if_pos ⟨e3, d⟩]; omega
    · rw [if_neg (fun q => d q.2)]; omega
theorem grow_wo (p : Option Addr) (f : Int) (i n nb : Nat) (hi : i < n) (hn : n ≤ 300) (hnb : nb ≤ 18) (w : World) (h : Ix w p (rowF f i n) nb (n + 1 + i)) :
    Calls Try.prog 16 #[.agg #[.pointer p, .int .i64 ((n : Int) - i)], .agg #[.int .i64 1, .int .i64 (f + i), .string ⟨#[]⟩], .int .i64 i] w fun e w' => ∃ p', e = .returned (.agg #[.pointer p', .int .i64 ((n : Int) - (i + 1))]) ∧ Ix w' p' (rowF f (i + 1) n) nb (n + 1 + (i + 1)) ∧ Below w.heap.size w w' := by
  have h0 := Without_is p (n - i) (rowF f i n) nb (n + 1 + i) (by omega) (by omega) (by omega) (vI (f + i)) (vI_fit _) i (fun _ => by omega) w h
  obtain ⟨e1, e2, _⟩ := row_wo f i n (n - i) hi
  rw [e1, e2, show (((n - i : Nat)) : Int) = (n : Int) - i by omega] at h0
  refine h0.mono fun e w' ⟨p', q1, q2, q3⟩ => ⟨p', ?_, q2, q3⟩
  rw [show (((n - i - 1 : Nat)) : Int) = (n : Int) - (i + 1) by omega] at q1
  exact q1
end Go.Proofs.Ytoabfllbidiipaa
