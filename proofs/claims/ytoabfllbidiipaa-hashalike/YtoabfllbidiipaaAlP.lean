/- HashAlike: what the calls answer. -/
import Derived.Test.YtoabfllbidiipaaGrP
namespace Go.Proofs.Ytoabfllbidiipaa
open Go.ChangeShapes Go.WideShapes Go.RowKit
set_option linter.unusedVariables false
set_option maxRecDepth 100000

theorem xor_one (n : Int) : bits .xor .i64 n 1 ≠ n := by
  intro h
  have key : (bits .xor .i64 n 1) % 2 = (n + 1) % 2 := by
    show (IntKind.i64.wrap ((BitVec.ofInt 64 n ^^^ BitVec.ofInt 64 1).toNat : Nat)) % 2 = _
    rw [BitVec.toNat_xor, BitVec.toNat_ofInt, BitVec.toNat_ofInt, IntKind.wrap_i64]
    have h1 : ((1 : Int) % ((2 ^ 64 : Nat) : Int)).toNat = 1 := by decide
    rw [h1]
    have h2 : ((n % ((2 ^ 64 : Nat) : Int)).toNat ^^^ 1) % 2 = ((n % ((2 ^ 64 : Nat) : Int)).toNat + 1) % 2 := by
      have := @Nat.xor_mod_two_eq_one (n % ((2 ^ 64 : Nat) : Int)).toNat 1
      by_cases c : ((n % ((2 ^ 64 : Nat) : Int)).toNat ^^^ 1) % 2 = 1
      · have := this.1 c; omega
      · have := mt this.2 c; omega
    generalize (n % ((2 ^ 64 : Nat) : Int)).toNat ^^^ 1 = y at *
    omega
  rw [h] at key
  omega
theorem al_not (x : Val) (n : Int) (h : ¬ may x) (F : Val → List Int) (c nb : Nat) : wF F x n = F ∧ wC F x n c = c ∧ wN F x n c nb = nb := by
  have h' : ¬ isNew F x n := fun q => h q.1
  refine ⟨?_, ?_, ?_⟩
  · unfold wF; rw [if_neg h']
  · unfold wC; rw [if_neg h']
  · unfold wN; rw [if_neg (fun q => h' q.1)]
theorem al_one (x : Val) (n : Int) (h : may x) : wF (fun _ => []) x n = upd (fun _ => []) x [n] ∧ wC (fun _ => []) x n 0 = 1 ∧ wN (fun _ => []) x n 0 0 = 1 := by
  have h' : isNew (fun _ => []) x n := ⟨h, by simp⟩
  refine ⟨?_, ?_, ?_⟩
  · unfold wF; rw [if_pos h', ins_nil]
  · unfold wC; rw [if_pos h']
  · unfold wN; rw [if_pos ⟨h', rfl⟩]; rfl
theorem al_two (x : Val) (n : Int) : wF (upd (fun _ => []) x [n]) x n = upd (fun _ => []) x [n] ∧ wC (upd (fun _ => []) x [n]) x n 1 = 1 ∧ wN (upd (fun _ => []) x [n]) x n 1 1 = 1 := by
  have h' : ¬ isNew (upd (fun _ => []) x [n]) x n := fun q => q.2 (by rw [upd_same]; simp)
  refine ⟨?_, ?_, ?_⟩
  · unfold wF; rw [if_neg h']
  · unfold wC; rw [if_neg h']
  · unfold wN; rw [if_neg (fun q => h' q.1)]
theorem al_fit (x : Val) (hx : x.fit) (n : Int) : ∀ v, upd (fun _ => []) x [n] v ≠ [] → v.fit := fun v hv => by
  by_cases e : v = x
  · subst e; exact hx
  · rw [upd_other _ _ e] at hv; exact absurd rfl hv
def vO : Val := ⟨2, 0, ⟨#[111, 116, 104, 101, 114]⟩⟩
theorem vO_fit : vO.fit := by unfold Val.fit vO; decide
/-- The contracts that the statement asks for, of an index of one number, or of none. -/
structure Al (x : Val) (n : Int) (F : Val → List Int) (c nb : Nat) : Prop where
  w1 : ∀ w, Calls Try.prog 15 #[.agg #[.pointer none, .int .i64 0], x.v, .int .i64 n] w fun e w' => ∃ p, e = .returned (.agg #[.pointer p, .int .i64 c]) ∧ Ix w' p F nb 2 ∧ Below w.heap.size w w'
  w2 : ∀ w p, Ix w p F nb 2 → Calls Try.prog 15 #[.agg #[.pointer p, .int .i64 c], x.v, .int .i64 n] w fun e w' => ∃ p', e = .returned (.agg #[.pointer p', .int .i64 c]) ∧ Ix w' p' F nb 3 ∧ Below w.heap.size w w'
  fd : ∀ w p, Ix w p F nb 3 → Calls Try.prog 13 #[.agg #[.pointer p, .int .i64 c], x.v] w fun e w' => ∃ a k, e = .returned (.slice a c k) ∧ Below w.heap.size w w'
  o1 : ∀ w p, Ix w p F nb 2 → Calls Try.prog 16 #[.agg #[.pointer p, .int .i64 c], x.v, .int .i64 (bits .xor .i64 n 1)] w fun e w' => ∃ p', e = .returned (.agg #[.pointer p', .int .i64 c]) ∧ Below w.heap.size w w'
  o2 : ∀ w p, Ix w p F nb 2 → Calls Try.prog 16 #[.agg #[.pointer p, .int .i64 c], x.v, .int .i64 n] w fun e w' => ∃ p', e = .returned (.agg #[.pointer p', .int .i64 0]) ∧ Below w.heap.size w w'
  o3 : x ≠ vO → ∀ w p, Ix w p F nb 2 → Calls Try.prog 16 #[.agg #[.pointer p, .int .i64 c], vO.v, .int .i64 n] w fun e w' => ∃ p', e = .returned (.agg #[.pointer p', .int .i64 c]) ∧ Below w.heap.size w w'
theorem al_may (x : Val) (hx : x.fit) (n : Int) (h : may x) : Al x n (upd (fun _ => []) x [n]) 1 1 := by
  have hs : upd (fun _ => []) x [n] x = [n] := upd_same _ _ _
  refine ⟨fun w => ?_, fun w p hi => ?_, fun w p hi => ?_, fun w p hi => ?_, fun w p hi => ?_, fun hne w p hi => ?_⟩
  · have := With_is none 0 (fun _ => []) 0 1 (by omega) (by omega) (by omega) (by omega) (fun v h => absurd rfl h) x hx n w (Ix.zero w 1)
    rw [(al_one x n h).1, (al_one x n h).2.1, (al_one x n h).2.2] at this
    exact this
  · have := With_is p 1 _ 1 2 (by omega) (by omega) (by omega) (by omega) (al_fit x hx n) x hx n w hi
    rw [(al_two x n).1, (al_two x n).2.1, (al_two x n).2.2] at this
    exact this
  · refine (find_is p 1 _ 1 3 (by omega) (by omega) x hx w hi).mono fun e w' ⟨v, q1, q2, q3⟩ => ?_
    rw [hs] at q2
    obtain ⟨a, k, rfl⟩ := slices_shape q2
    exact ⟨a, k, q1, q3⟩
  · refine (Without_is p 1 _ 1 2 (by omega) (by omega) (by omega) x hx _ (fun _ => by omega) w hi).mono fun e w' ⟨p', q1, q2, q3⟩ => ⟨p', ?_, q3⟩
    unfold oC at q1
    rw [hs, if_neg (fun q => xor_one n (by simpa using q))] at q1
    exact q1
  · refine (Without_is p 1 _ 1 2 (by omega) (by omega) (by omega) x hx n (fun _ => by omega) w hi).mono fun e w' ⟨p', q1, q2, q3⟩ => ⟨p', ?_, q3⟩
    unfold oC at q1
    rw [hs, if_pos (by simp)] at q1
    exact q1
  · refine (Without_is p 1 _ 1 2 (by omega) (by omega) (by omega) vO vO_fit n (fun _ => by omega) w hi).mono fun e w' ⟨p', q1, q2, q3⟩ => ⟨p', ?_, q3⟩
    unfold oC at q1
    rw [upd_other _ _ (fun q => hne q.symm), if_neg (by simp)] at q1
    exact q1
theorem al_none (x : Val) (hx : x.fit) (n : Int) (h : ¬ may x) : Al x n (fun _ => []) 0 0 := by
  refine ⟨fun w => ?_, fun w p hi => ?_, fun w p hi => ?_, fun w p hi => ?_, fun w p hi => ?_, fun hne w p hi => ?_⟩
  · have := With_is none 0 (fun _ => []) 0 1 (by omega) (by omega) (by omega) (by omega) (fun v h => absurd rfl h) x hx n w (Ix.zero w 1)
    rw [(al_not x n h (fun _ => []) 0 0).1, (al_not x n h (fun _ => []) 0 0).2.1, (al_not x n h (fun _ => []) 0 0).2.2] at this
    exact this
  · have := With_is p 0 (fun _ => []) 0 2 (by omega) (by omega) (by omega) (by omega) (fun v h => absurd rfl h) x hx n w hi
    rw [(al_not x n h (fun _ => []) 0 0).1, (al_not x n h (fun _ => []) 0 0).2.1, (al_not x n h (fun _ => []) 0 0).2.2] at this
    exact this
  · refine (find_is p 0 _ 0 3 (by omega) (by omega) x hx w hi).mono fun e w' ⟨v, q1, q2, q3⟩ => ?_
    obtain ⟨a, k, rfl⟩ := slices_shape q2
    exact ⟨a, k, q1, q3⟩
  · refine (Without_is p 0 (fun _ => []) 0 2 (by omega) (by omega) (by omega) x hx (bits .xor .i64 n 1) (fun q => by simp at q) w hi).mono fun e w' ⟨p', q1, q2, q3⟩ => ⟨p', ?_, q3⟩
    unfold oC at q1
    rw [if_neg (by simp)] at q1
    exact q1
  · refine (Without_is p 0 (fun _ => []) 0 2 (by omega) (by omega) (by omega) x hx n (fun q => by simp at q) w hi).mono fun e w' ⟨p', q1, q2, q3⟩ => ⟨p', ?_, q3⟩
    unfold oC at q1
    rw [if_neg (by simp)] at q1
    exact q1
  · refine (Without_is p 0 (fun _ => []) 0 2 (by omega) (by omega) (by omega) vO vO_fit n (fun q => by simp at q) w hi).mono fun e w' ⟨p', q1, q2, q3⟩ => ⟨p', ?_, q3⟩
    unfold oC at q1
    rw [if_neg (by simp)] at q1
    exact q1
end Go.Proofs.Ytoabfllbidiipaa
