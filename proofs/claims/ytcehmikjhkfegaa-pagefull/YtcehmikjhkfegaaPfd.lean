/- PageFull: its cells, the first taken out. -/
import Derived.Test.YtcehmikjhkfegaaPv
namespace Go.Proofs.Ytcehmikjhkfegaa
open Go.ChangeShapes Go.WideShapes Go.ChangeAt Go.RowKit
set_option linter.unusedVariables false
set_option maxRecDepth 100000

theorem full_find0 (n c k : Nat) (b : Bool) (hc : 1 ≤ c) (h : FindO (full n c) [107, 0] k b) : k = 0 ∧ b = true := by
  obtain ⟨h1, h2, h3, h4⟩ := h
  have hl : 0 < (full n c).length := by rw [full_len]; omega
  have e0 : (full n c)[0].1 = [107, 0] := by rw [full_get n c 0 hl]; rfl
  have hk : k = 0 := by
    rcases Nat.eq_zero_or_pos k with h | h
    · exact h
    · have := h2 0 hl h
      rw [e0] at this
      have := (less_irr [107, 0]).symm.trans this
      cases this
  subst hk
  exact ⟨rfl, h4.2 ⟨hl, e0⟩⟩
theorem rest_find (n c k : Nat) (b : Bool) (hc : c ≤ 200) (h : FindO ((full n c).drop 1) [107, 0] k b) : b = false := by
  cases b with
  | false => rfl
  | true =>
    obtain ⟨hi, he⟩ := h.2.2.2.1 rfl
    have hi' := hi
    rw [List.length_drop, full_len] at hi'
    rw [List.getElem_drop, full_get n c (1 + k) (by rw [full_len]; omega)] at he
    have : UInt8.ofNat (1 + k) = 0 := by
      have := congrArg (fun l : List UInt8 => l[1]?) he
      simpa [fc] using this
    have := congrArg UInt8.toNat this
    rw [UInt8.toNat_ofNat'] at this
    have h0 : (0 : UInt8).toNat = 0 := rfl
    omega
theorem rest_tot (n c : Nat) (h : 2 ≤ n) (hc : 1 ≤ c) : tot ((full n c).drop 1) + n = c * n ∧ ((full n c).drop 1).length = c - 1 := by
  refine ⟨?_, by rw [List.length_drop, full_len]⟩
  have h1 := full_tot n c h
  have hl : 0 < (full n c).length := by rw [full_len]; omega
  have e : full n c = [(full n c)[0]] ++ (full n c).drop 1 := by
    have := List.drop_eq_getElem_cons hl
    rw [List.drop_zero] at this
    exact this
  rw [e, tot_append] at h1
  have e2 : tot [(full n c)[0]] = csz ((full n c)[0]) + 0 := rfl
  rw [e2, full_get n c 0 hl, fc_sz n 0 h] at h1
  omega
theorem rest_ris (n c : Nat) (h : c ≤ 200) : ris ((full n c).drop 1) := fun i j hi hj hij => by
  rw [List.length_drop, full_len] at hi hj
  rw [List.getElem_drop, List.getElem_drop]
  exact full_ris n c (by omega) (1 + i) (1 + j) (by rw [full_len]; omega) (by rw [full_len]; omega) (by omega)
/-- Drop, of the first. -/
theorem full_drop {w : World} {p n c : Nat} (h : Pg w p (lay 2 (full n c))) (h1 : 2 ≤ n) (h2 : n ≤ 100) (h3 : 8 + 2 * c + c * n ≤ 256) (hc : 1 ≤ c) : Calls Try.prog 25 #[.pointer (some ⟨p, 0, none⟩), .string ⟨#[107, 0]⟩] w fun e w' => e = .returned (.int .i64 0) ∧ (Pg w' p (lay 2 ((full n c).drop 1)) ∧ okC ((full n c).drop 1)) ∧ Kept (fun i => i = p) w w' := by
  refine (pdrop_is h (full_ok n c h1 h2 h3) (full_ris n c (by omega)) (by decide) ⟨#[107, 0]⟩).mono ?_
  rintro e w' ⟨k, b, hf, hE⟩
  obtain ⟨rfl, rfl⟩ := full_find0 n c k b hc hf
  rcases hE with ⟨hb, _⟩ | ⟨_, g1, g2, g3, g4⟩
  · cases hb
  · exact ⟨g1, ⟨g2, g3⟩, g4⟩
theorem rest_drop {w : World} {p n c : Nat} (h : Pg w p (lay 2 ((full n c).drop 1))) (hok : okC ((full n c).drop 1)) (hc : c ≤ 200) : Calls Try.prog 25 #[.pointer (some ⟨p, 0, none⟩), .string ⟨#[107, 0]⟩] w fun e w' => e = .returned (.int .i64 3) ∧ Pg w' p (lay 2 ((full n c).drop 1)) ∧ Kept (fun _ => False) w w' := by
  refine (pdrop_is h hok (rest_ris n c hc) (by decide) ⟨#[107, 0]⟩).mono ?_
  rintro e w' ⟨k, b, hf, hE⟩
  obtain rfl := rest_find n c k b hc hf
  rcases hE with ⟨_, g1, g2, g3⟩ | ⟨hb, _⟩
  · exact ⟨g1, g2, g3⟩
  · cases hb
theorem rest_free {w : World} {p n c : Nat} (h : Pg w p (lay 2 ((full n c).drop 1))) (hok : okC ((full n c).drop 1)) (h1 : 2 ≤ n) (hc : 1 ≤ c) : Calls Try.prog 23 #[.pointer (some ⟨p, 0, none⟩)] w fun e w' => e = .returned (.int .i64 (max ((248 : Int) - ((c * n + 2 * c : Nat) : Int) + (n : Int)) 0)) ∧ Kept (fun _ => False) w w' := by
  obtain ⟨t1, t2⟩ := rest_tot n c h1 hc
  have ec := lay_count 2 _ hok
  have ee := endAll 2 _ hok
  have h3 := hok.2
  rw [t2] at ec ee h3
  have := free_is h (by rw [lay_kind]; decide) (by rw [ec]; omega)
  rw [ec, ee] at this
  have en : ((256 - tot ((full n c).drop 1) : Nat) : Int) - ((8 + 2 * (c - 1) : Nat) : Int) - 2 = (248 : Int) - ((c * n + 2 * c : Nat) : Int) + (n : Int) := by
    generalize c * n = z at *
    omega
  rw [en] at this
  exact this.mono fun e w' ⟨q1, m, q2⟩ => ⟨q1, by rw [q2]; exact (Kept.refl _ _).drewN m⟩
theorem full_at {w : World} {p n c : Nat} (h : Pg w p (lay 2 (full n c))) (h1 : 2 ≤ n) (h2 : n ≤ 100) (h3 : 8 + 2 * c + c * n ≤ 256) (hc : 1 ≤ c) : Calls Try.prog 20 #[.pointer (some ⟨p, 0, none⟩), .int .i64 0] w fun e w' => (∃ s, e = .returned (.tuple #[.string ⟨#[107, 0]⟩, .string s])) ∧ Kept (fun _ => False) w w' := by
  have hok := full_ok n c h1 h2 h3
  have hl : 0 < (full n c).length := by rw [full_len]; omega
  obtain ⟨k1, k2, k3⟩ := lay_key 2 hok hl
  rw [full_get n c 0 hl] at k1
  have ec := lay_count 2 _ hok
  rw [full_len] at ec
  obtain ⟨a, b, e, ha⟩ := cell_split hl
  have hok2 := hok
  rw [e] at hok2
  have hcell := (lay_cell 2 a _ b hok2).2.2.1
  rw [← e, ha] at hcell
  have := at_is h 0 k3 (by rw [ec]; omega) hcell
  rw [k1] at this
  exact this.mono fun e w' ⟨q1, m, q2⟩ => ⟨⟨_, q1⟩, by rw [q2]; exact (Kept.refl _ _).drewN m⟩
theorem full_at0 {w : World} {p n : Nat} (h : Pg w p (lay 2 (full n 0))) : Calls Try.prog 20 #[.pointer (some ⟨p, 0, none⟩), .int .i64 0] w fun e w' => e = .returned (.tuple #[.string ⟨#[]⟩, .string ⟨#[]⟩]) ∧ Kept (fun _ => False) w w' := by
  have ec := lay_count 2 _ ok0
  refine (at_no h 0 (.inr ?_)).mono fun e w' ⟨q1, m, q2⟩ => ⟨q1, by rw [q2]; exact (Kept.refl _ _).drewN m⟩
  show (byteAt (lay 2 []) 1 : Int) ≤ 0
  rw [ec]
  exact Int.le_refl _
end Go.Proofs.Ytcehmikjhkfegaa
