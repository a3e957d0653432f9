/- few. -/
import Derived.Test.YtehaancdadmdkaaNx
namespace Go.Proofs.Ytehaancdadmdkaa
open Go.ChangeShapes Go.WideShapes Go.ChangeAt Go.RowKit
set_option linter.unusedVariables false
set_option maxRecDepth 100000

/-- Few cells, of few bytes. -/
def fewC (l : List Cel) : Prop := l.length ≤ 40 ∧ ∀ c, c ∈ l → c.1.length ≤ 200 ∧ c.2.length ≤ 200
def FewE (l : List Cel) (w : World) (e : Ending) (w' : World) : Prop := ∃ b, e = .returned (.bool b) ∧ (b = true → fewC l) ∧ w' = w
set_option maxHeartbeats 2000000 in
theorem few_is {w : World} (a : Option Addr) (N c : Nat) (l : List Cel) (hN : l.length = N) (h : Sl cv 2 w (.slice a N c) l) : Calls Try.prog 17 #[.slice a N c] w fun e w' => FewE l w e w' := by
  have HS : Hid (Sl cv 2 w (.slice a N c) l ∧ l.length = N) := ⟨h, hN⟩
  clear h hN
  go_enter Try.func17, Try.ntmps17
  go_wp2_with fail
  go_loopw [3] (fun v3 wr => ∃ i : Nat, i ≤ N ∧ i ≤ 40 ∧ v3 = .int .i64 i ∧ wr = w ∧ Hid (∀ x (hx : x < l.length), x < i → l[x].1.length ≤ 200 ∧ l[x].2.length ≤ 200)) (fun v3 _ => 40 - (intOf v3).toNat)
  case atStart => exact ⟨0, Nat.zero_le _, by omega, rfl, rfl, fun x hx h => absurd h (Nat.not_lt_zero _)⟩
  case round =>
    obtain ⟨i, hi, hi4, rfl, rfl, HI⟩ := hrel
    by_cases hlt : i < N
    · have c1 : (i : Int) < (N : Int) := by omega
      by_cases hl4 : i < 40
      · have c2 : (i : Int) < 40 := by omega
        have hl : i < l.length := by rw [HS.out.2]; exact hlt
        obtain ⟨b, o, c', hv, hc', hb, hcs⟩ := HS.out.1.cells (fun e => by rw [e] at hl; exact absurd hl (Nat.not_lt_zero _))
        rw [HS.out.2] at hv
        cases hv
        obtain ⟨y0, y1⟩ := hcs i hl
        obtain ⟨S1, hS1⟩ : ∃ S, (⟨l[i].1.toArray⟩ : ByteArray) = S := ⟨_, rfl⟩
        obtain ⟨S2, hS2⟩ : ∃ S, (⟨l[i].2.toArray⟩ : ByteArray) = S := ⟨_, rfl⟩
        have e1 : S1.size = l[i].1.length := by rw [← hS1]; exact mk_size _
        have e2 : S2.size = l[i].2.length := by rw [← hS2]; exact mk_size _
        have HE : Hid (S1.size = l[i].1.length ∧ S2.size = l[i].2.length) := ⟨e1, e2⟩
        rw [hS1] at y0
        rw [hS2] at y1
        clear hcs hb hS1 hS2 e1 e2
        generalize hs1 : S1.size = s1 at *
        generalize hs2 : S2.size = s2 at *
        by_cases k1 : (200 : Int) < s1
        · clear HE HI
          go_wp2_with fail
          go_ret
          exact ⟨false, rfl, (fun e => nomatch e), rfl⟩
        · by_cases k2 : (200 : Int) < s2
          · clear HE HI
            go_wp2_with fail
            go_ret
            exact ⟨false, rfl, (fun e => nomatch e), rfl⟩
          · have HI2 : Hid (∀ x (hx : x < l.length), x < i + 1 → l[x].1.length ≤ 200 ∧ l[x].2.length ≤ 200) := fun x hx hxi => by
              rcases Nat.lt_or_eq_of_le (Nat.lt_succ_iff.1 hxi) with q | q
              · exact HI.out x hx q
              · subst q; have := HE.out; omega
            clear HE HI hl
            go_wp2_with fail
            go_roundw
            case rel => exact ⟨i + 1, hlt, hl4, by rw [Int.natCast_add]; rfl, trivial, HI2.out⟩
            case measure => simp only [intOf]; omega
      · have c2 : ¬ (i : Int) < 40 := by omega
        have HF : Hid (decide ((N : Int) ≤ 40) = true → fewC l) := fun e => by have := of_decide_eq_true e; omega
        clear HI
        go_wp2_with fail
        go_ret
        exact ⟨_, rfl, HF.out, rfl⟩
    · have c1 : ¬ (i : Int) < (N : Int) := by omega
      have HF : Hid (decide ((N : Int) ≤ 40) = true → fewC l) := fun e => by
        refine ⟨by rw [HS.out.2]; have := of_decide_eq_true e; omega, fun x hx => ?_⟩
        obtain ⟨j, hj, rfl⟩ := List.getElem_of_mem hx
        exact HI.out j hj (by have := HS.out.2; omega)
      clear HI
      go_wp2_with fail
      go_ret
      exact ⟨_, rfl, HF.out, rfl⟩
end Go.Proofs.Ytehaancdadmdkaa
