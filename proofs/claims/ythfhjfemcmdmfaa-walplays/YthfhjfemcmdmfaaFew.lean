/- few. -/
import Derived.Test.YthfhjfemcmdmfaaMe
import Derived.Test.YthfhjfemcmdmfaaByte
namespace Go.Proofs.Ythfhjfemcmdmfaa
open Go.ChangeShapes Go.WideShapes Go.ChangeAt Go.RowKit
set_option linter.unusedVariables false
set_option maxRecDepth 100000

/-- What few answers. -/
def FewO (g : List ByteArray) (w : World) (e : Ending) (w' : World) : Prop := ∃ r : Bool, e = .returned (.bool r) ∧ w' = w ∧ (r = true → g.length ≤ 8 ∧ ∀ s, s ∈ g → s.size ≤ 4096)
set_option maxHeartbeats 2000000 in
theorem few_is (ga : Option Addr) (gc : Nat) (g : List ByteArray) (w : World) (h : Texts w (.slice ga g.length gc) g) (hl : g.length ≤ 9223372036854775807) (hs : ∀ s, s ∈ g → s.size ≤ 9223372036854775807) :
    Calls Try.prog 18 #[.slice ga g.length gc] w fun e w' => FewO g w e w' := by
  have HG : Hid (Texts w (.slice ga g.length gc) g ∧ ∀ s, s ∈ g → s.size ≤ 9223372036854775807) := ⟨h, hs⟩
  obtain ⟨n, hn⟩ : ∃ n, g.length = n := ⟨_, rfl⟩
  have HN : Hid (g.length = n) := hn
  rw [hn] at hl ⊢
  clear h hs hn
  go_enter Try.func18, Try.ntmps18
  go_wp2_with fail
  go_loopw [3] (fun vi wr => ∃ i : Nat, i ≤ n ∧ i ≤ 8 ∧ vi = .int .i64 i ∧ w = wr ∧ Hid (∀ j (hj : j < g.length), j < i → g[j].size ≤ 4096))
    (fun vi _ => 8 - (intOf vi).toNat)
  case atStart => exact ⟨0, Nat.zero_le _, Nat.zero_le _, rfl, rfl, fun j hj h => absurd h (Nat.not_lt_zero _)⟩
  case round =>
    obtain ⟨i, hi, hi8, rfl, rfl, HI⟩ := hrel
    by_cases hgo : i < n ∧ i < 8
    · obtain ⟨h1, h2⟩ := hgo
      have h1i : (i : Int) < (n : Int) := by omega
      have h2i : (i : Int) < 8 := by omega
      have hil : i < g.length := by rw [HN.out]; exact h1
      obtain ⟨gb, go, hga, z0⟩ := HG.out.1.cell i hil
      rw [HN.out] at HG
      subst hga
      have hzb := HG.out.2 _ (List.getElem_mem hil)
      have HZ : Hid (∀ m, m = g[i] → m.size ≤ 4096 → ∀ j (hj : j < g.length), j < i + 1 → g[j].size ≤ 4096) := fun m hm hs j hj hlt => by
        by_cases e : j < i
        · exact HI.out j hj e
        · obtain rfl : j = i := by omega
          rw [← hm]; exact hs
      obtain ⟨z, hz⟩ : ∃ z, g[i] = z := ⟨_, rfl⟩
      rw [hz] at z0 hzb
      have HZ2 : Hid (z.size ≤ 4096 → ∀ j (hj : j < g.length), j < i + 1 → g[j].size ≤ 4096) := HZ.out z hz.symm
      clear HZ hz
      by_cases c1 : z.size > 200
      · have c1i : (z.size : Int) > 200 := by omega
        by_cases c2 : z.size ≤ 1024
        · have c2i : (z.size : Int) ≤ 1024 := by omega
          go_wp2_with fail
          go_ret
          exact ⟨false, rfl, rfl, fun e => by cases e⟩
        · have c2i : ¬ (z.size : Int) ≤ 1024 := by omega
          by_cases c3 : z.size > 4096
          · have c3i : (z.size : Int) > 4096 := by omega
            go_wp2_with fail
            go_ret
            exact ⟨false, rfl, rfl, fun e => by cases e⟩
          · have c3i : ¬ (z.size : Int) > 4096 := by omega
            have HE : Hid _ := HZ2.out (by omega)
            go_wp2_with fail
            go_roundw
            case rel => exact ⟨i + 1, by omega, by omega, by go_num, by first | rfl | trivial, HE.out⟩
            case measure => simp [intOf]; omega
      · have c1i : ¬ (z.size : Int) > 200 := by omega
        have c3i : ¬ (z.size : Int) > 4096 := by omega
        have HE : Hid _ := HZ2.out (by omega)
        go_wp2_with fail
        go_roundw
        case rel => exact ⟨i + 1, by omega, by omega, by go_num, by first | rfl | trivial, HE.out⟩
        case measure => simp [intOf]; omega
    · by_cases h1 : i < n
      · have h1i : (i : Int) < (n : Int) := by omega
        have h2i : ¬ (i : Int) < 8 := by omega
        have h3 : ¬ (n : Int) ≤ 8 := by omega
        go_wp2_with fail
        go_ret
        exact ⟨false, rfl, rfl, fun e => by cases e⟩
      · have h1i : ¬ (i : Int) < (n : Int) := by omega
        have h3 : (n : Int) ≤ 8 := by omega
        have HE : Hid (g.length ≤ 8 ∧ ∀ s, s ∈ g → s.size ≤ 4096) := ⟨by rw [HN.out]; omega, fun s hs => by
          obtain ⟨j, hj, rfl⟩ := List.mem_iff_getElem.1 hs
          exact HI.out j hj (by rw [HN.out] at hj; omega)⟩
        go_wp2_with fail
        go_ret
        exact ⟨true, rfl, rfl, fun _ => HE.out⟩
end Go.Proofs.Ythfhjfemcmdmfaa
