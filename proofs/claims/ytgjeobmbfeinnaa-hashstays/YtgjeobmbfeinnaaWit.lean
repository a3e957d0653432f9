/- With, Without, whatever they do. -/
import Derived.Test.YtgjeobmbfeinnaaWtw
import Derived.Test.YtgjeobmbfeinnaaWow
namespace Go.Proofs.Ytgjeobmbfeinnaa
open Go.ChangeShapes Go.WideShapes Go.RowKit
set_option linter.unusedVariables false
set_option maxRecDepth 100000

def oF (F : Val → List Int) (x : Val) (n : Int) : Val → List Int := if n ∈ F x then upd F x (del n (F x)) else F
def oC (F : Val → List Int) (x : Val) (n : Int) (c : Nat) : Nat := if n ∈ F x then c - 1 else c
theorem With_is (p : Option Addr) (c : Nat) (F : Val → List Int) (nb M : Nat) (hM : M ≤ 980) (hnb : nb ≤ 100) (hc0 : c ≤ 32 * nb) (hc : c ≤ 900) (hfit : ∀ v, F v ≠ [] → v.fit) (x : Val) (hx : x.fit) (n : Int) (w : World) (h : Ix w p F nb M) :
    Calls Try.prog 15 #[.agg #[.pointer p, .int .i64 c], x.v, .int .i64 n] w fun e w' => ∃ p', e = .returned (.agg #[.pointer p', .int .i64 (wC F x n c : Nat)]) ∧ Ix w' p' (wF F x n) (wN F x n c nb) (M + 1) ∧ Below w.heap.size w w' := by
  by_cases hn : isNew F x n
  · refine (with_new p c F nb M hM hnb hc0 hc hfit x hx n w h hn.1 hn.2).mono fun e w' ⟨p', q1, q2, q3⟩ => ⟨some ⟨p', 0, none⟩, ?_, ?_, q3⟩
    · unfold wC; rw [if_pos hn]; exact q1
    · unfold wF wN
      rw [if_pos hn]
      by_cases d : c = 32 * nb
      · rw [if_pos d] at q2; rw [if_pos ⟨hn, d⟩]; exact q2
      · rw [if_neg d] at q2; rw [if_neg (fun q => d q.2)]; exact q2
  · refine (with_not p c F nb M hM hnb x hx n w h hn).mono fun e w' ⟨q1, q2, q3⟩ => ⟨p, ?_, ?_, q3⟩
    · unfold wC; rw [if_neg hn]; exact q1
    · unfold wF wN
      rw [if_neg hn, if_neg (fun q => hn q.1)]
      exact q2.wide (by omega)
theorem Without_is (p : Option Addr) (c : Nat) (F : Val → List Int) (nb M : Nat) (hM : M ≤ 980) (hnb : nb ≤ 100) (hc : c ≤ 900) (x : Val) (hx : x.fit) (n : Int) (hc1 : n ∈ F x → 0 < c) (w : World) (h : Ix w p F nb M) :
    Calls Try.prog 16 #[.agg #[.pointer p, .int .i64 c], x.v, .int .i64 n] w fun e w' => ∃ p', e = .returned (.agg #[.pointer p', .int .i64 (oC F x n c : Nat)]) ∧ Ix w' p' (oF F x n) nb (M + 1) ∧ Below w.heap.size w w' := by
  by_cases hn : n ∈ F x
  · refine (wo_there p c F nb M hM hnb hc x hx n w h hn).mono fun e w' ⟨p', q1, q2, q3⟩ => ⟨some ⟨p', 0, none⟩, ?_, ?_, q3⟩
    · unfold oC; rw [if_pos hn, q1, show (((c - 1 : Nat)) : Int) = (c : Int) - 1 by have := hc1 hn; omega]
    · unfold oF; rw [if_pos hn]; exact q2
  · refine (wo_not p c F nb M hM hnb x hx n w h hn).mono fun e w' ⟨q1, q2, q3⟩ => ⟨p, ?_, ?_, q3⟩
    · unfold oC; rw [if_neg hn]; exact q1
    · unfold oF; rw [if_neg hn]; exact q2.wide (by omega)
/-- A state of an index that may be. -/
structure St (F : Val → List Int) (c nb : Nat) : Prop where
  fit : ∀ v, F v ≠ [] → v.fit
  le : c ≤ 32 * nb
theorem Ix.zero (w : World) (M : Nat) : Ix w none (fun _ => []) 0 M := .inl ⟨rfl, rfl, fun _ => rfl⟩
theorem St.zero : St (fun _ => []) 0 0 := ⟨fun v h => absurd rfl h, Nat.le_refl _⟩
theorem St.with {F : Val → List Int} {c nb : Nat} (h : St F c nb) (x : Val) (hx : x.fit) (n : Int) : St (wF F x n) (wC F x n c) (wN F x n c nb) := by
  constructor
  · intro v hv
    unfold wF at hv
    split at hv
    · by_cases e : v = x
      · subst e; exact hx
      · rw [upd_other _ _ e] at hv; exact h.fit v hv
    · exact h.fit v hv
  · unfold wC wN
    by_cases hn : isNew F x n
    · rw [if_pos hn]
      by_cases d : c = 32 * nb
      · rw [if_pos ⟨hn, d⟩]; omega
      · rw [if_neg (fun q => d q.2)]; have := h.le; omega
    · rw [if_neg hn, if_neg (fun q => hn q.1)]; exact h.le
theorem St.wo {F : Val → List Int} {c nb : Nat} (h : St F c nb) (x : Val) (n : Int) : St (oF F x n) (oC F x n c) nb := by
  constructor
  · intro v hv
    unfold oF at hv
    split at hv
    · by_cases e : v = x
      · subst e
        rename_i hm
        exact h.fit v (fun q => by rw [q] at hm; simp at hm)
      · rw [upd_other _ _ e] at hv; exact h.fit v hv
    · exact h.fit v hv
  · unfold oC
    split
    · have := h.le; omega
    · exact h.le
end Go.Proofs.Ytgjeobmbfeinnaa
