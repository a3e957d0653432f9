/- value: a row that is taken is put as it was. -/
import Derived.Test.YtaoboleifdgonaaTripC
namespace Go.Proofs.Ytaoboleifdgonaa
open Go.ChangeShapes Go.WideShapes Go.RowKit
set_option linter.unusedVariables false
set_option maxRecDepth 100000

theorem takeL_fwd (m : Nat) : ∀ (L : ByteArray) (short : Bool) (acc acc' : List V) (L' : ByteArray), takeL m L short acc = some (acc', L', false) → short = false ∧ ∃ r, acc' = acc ++ r ∧ r.length = m ∧ fits r ∧ (∀ x, x ∈ r → -9223372036854775808 ≤ x.n ∧ x.n ≤ 9223372036854775807) ∧ L.data.toList = valsB r ++ L'.data.toList := by
  induction m with
  | zero =>
    intro L short acc acc' L' h
    rw [takeL] at h
    have h' := Option.some.inj h
    have e1 := (Prod.mk.inj h').1
    have e2 := (Prod.mk.inj (Prod.mk.inj h').2).1
    have e3 := (Prod.mk.inj (Prod.mk.inj h').2).2
    refine ⟨e3, [], by rw [List.append_nil, e1], rfl, (fun x hx => by cases hx), (fun x hx => by cases hx), ?_⟩
    rw [← e2]
    rfl
  | succ m ih =>
    intro L short acc acc' L' h
    rw [takeL] at h
    by_cases hm : (cutV L short).v.may
    · rw [if_pos hm] at h
      obtain ⟨hs, r, e1, e2, e3, e4, e5⟩ := ih _ _ _ _ _ h
      obtain ⟨f0, f1, f2⟩ := cut_fwd L short hs hm
      refine ⟨f0, (cutV L short).v :: r, by rw [e1, List.append_assoc]; rfl, by rw [List.length_cons, e2], ?_, ?_, ?_⟩
      · intro x hx
        rcases List.mem_cons.1 hx with rfl | hx
        · exact hm
        · exact e3 x hx
      · intro x hx
        rcases List.mem_cons.1 hx with rfl | hx
        · exact f2
        · exact e4 x hx
      · rw [f1, e5]
        show _ = ((cutV L short).v.bytes ++ valsB r) ++ L'.data.toList
        rw [List.append_assoc]
    · rw [if_neg hm] at h
      cases h
theorem take_fwd (S : ByteArray) (r : List V) (h : takeR S = some r) : r.length ≤ 255 ∧ fits r ∧ (∀ x, x ∈ r → -9223372036854775808 ≤ x.n ∧ x.n ≤ 9223372036854775807) ∧ S.data.toList = rowB r := by
  rw [takeR_is] at h
  cases hT : takeL (firstN S 1).toNat (rest S 1) (fewer false S 1) [] with
  | none => rw [hT] at h; cases h
  | some p =>
    obtain ⟨acc', L', sh⟩ := p
    rw [hT] at h
    unfold close at h
    simp only at h
    split at h
    · cases h
    · rename_i hc
      have hsh : sh = false := by cases sh with | true => exact absurd (.inl rfl) hc | false => rfl
      have hz : L'.size = 0 := by
        by_cases hz : L'.size = 0
        · exact hz
        · exact absurd (.inr hz) hc
      subst hsh
      obtain ⟨f1, r', e1, e2, e3, e4, e5⟩ := takeL_fwd _ _ _ _ _ _ hT
      have er : r' = r := by rw [List.nil_append] at e1; rw [← e1]; exact Option.some.inj h
      subst er
      obtain ⟨_, l1⟩ := fewer_yes f1
      obtain ⟨x, t, hL, hx, ht⟩ := one_byte S l1
      have hxl := x.toNat_lt
      rw [hx, Int.toNat_natCast] at e2
      have hnil : L'.data.toList = [] := List.eq_nil_of_length_eq_zero (by rw [len_size]; exact hz)
      refine ⟨by omega, e3, e4, ?_⟩
      rw [hnil, List.append_nil, ht] at e5
      rw [hL, e5]
      show _ = lowB (r'.length : Int) :: valsB r'
      rw [e2, low_byte]
end Go.Proofs.Ytaoboleifdgonaa
