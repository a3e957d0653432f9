/- The document's disk: Read. -/
import Derived.Test.YtlkkeabenklefaaRWrite
namespace Go.Proofs.Ytlkkeabenklefaa
open Go.ChangeShapes Go.WideShapes Go.ChangeAt Go.RowKit
set_option linter.unusedVariables false

theorem ref_read_no (a b : Option Addr) (n c m k : Nat) (f : Int) (off : Bool) (x : Int) (hx : x < 0 ∨ (n : Int) ≤ x) (w : World) :
    Calls Try.prog 14 #[.agg #[.slice a n c, .slice b m k, .int .i64 f, .bool off], .int .i64 x] w fun e w' =>
      e = .returned (.tuple #[.string ⟨#[]⟩, .int .i64 1]) ∧ Kept (fun _ => False) w w' := by
  by_cases h1 : x < 0
  · go_enter Try.func14, Try.ntmps14
    go_wp2_with fail
    go_ret2
    exact ⟨rfl, (Kept.refl _ w).alloc _⟩
  · have h2 : (n : Int) ≤ x := hx.resolve_left h1
    go_enter Try.func14, Try.ntmps14
    go_wp2_with fail
    go_ret2
    exact ⟨rfl, (Kept.refl _ w).alloc _⟩

theorem ref_read_off (a b : Option Addr) (n c m k : Nat) (f : Int) (x : Nat) (hx : x < n) (w : World) :
    Calls Try.prog 14 #[.agg #[.slice a n c, .slice b m k, .int .i64 f, .bool true], .int .i64 (x : Int)] w fun e w' =>
      e = .returned (.tuple #[.string ⟨#[]⟩, .int .i64 30]) ∧ Kept (fun _ => False) w w' := by
  have h1 : ¬ (x : Int) < 0 := by omega
  have h2 : ¬ (n : Int) ≤ (x : Int) := by omega
  go_enter Try.func14, Try.ntmps14
  go_wp2_with fail
  go_ret2
  exact ⟨rfl, (Kept.refl _ w).alloc _⟩

theorem behind_next (s : List UInt8) (i : Nat) (Q : List (Nat × List UInt8)) (j : Nat) (hj : j < Q.length) : behind s i (Q.take (j + 1)) = if Q[j].1 = i then Q[j].2 else behind s i (Q.take j) := by
  unfold behind
  rw [List.take_succ_eq_append_getElem hj, List.foldl_append]
  rfl

theorem ref_read_on {w : World} (b : Nat) (u : Option Addr) (n c k : Nat) (f : Int) (S : Nat → List UInt8) (Q : List (Nat × List UInt8)) (hu : w.ownsRow 0 68 2 (.slice u Q.length k) Q.length (Q.flatMap wv)) (hQ : Q.length ≤ 1048576)
    (x : Nat) (hx : x < n) (hc : w.cell? ⟨b, x, none⟩ = some (.string ⟨(S x).toArray⟩)) :
    Calls Try.prog 14 #[.agg #[.slice (some ⟨b, 0, none⟩) n c, .slice u Q.length k, .int .i64 f, .bool false], .int .i64 (x : Int)] w fun e w' =>
      e = .returned (.tuple #[.string ⟨(behind (S x) x Q).toArray⟩, .int .i64 0]) ∧ Kept (fun _ => False) w w' := by
  have h1 : ¬ (x : Int) < 0 := by omega
  have h2 : ¬ (n : Int) ≤ (x : Int) := by omega
  have h3 : (x : Int) < (n : Int) := by omega
  obtain ⟨W, hW⟩ : ∃ W, W = w.alloc (.cells #[.slice (some ⟨b, 0, none⟩) n c, .slice u Q.length k, .int .i64 f, .bool false] 30) := ⟨_, rfl⟩
  have kW : Kept (fun _ => False) w W := by rw [hW]; exact (Kept.refl _ w).alloc _
  have cW := kW.cell hc (fun q => q)
  have p1 : W.cell? ⟨w.heap.size, 1, none⟩ = some (.slice u Q.length k) := by rw [hW]; simp [go_sem]
  have huW : W.ownsRow 0 68 2 (.slice u Q.length k) Q.length (Q.flatMap wv) := ownsRow_kept hu (fun i hi => kW.block i (hu.lt i hi).2 (fun q => q))
  have HC : Hid (∀ j (hj : j < Q.length), ∃ g, u = some ⟨g, 0, none⟩ ∧ W.cell? ⟨g, j * 2, none⟩ = some (.int .i64 (Q[j].1 : Int)) ∧ W.cell? ⟨g, j * 2 + 1, none⟩ = some (.string ⟨Q[j].2.toArray⟩)) := by
    intro j hj
    rcases huW.2 with ⟨e, hn⟩ | ⟨g, cap, cur, e, _⟩
    · omega
    · cases e
      have ⟨a1, a2⟩ := wv_at Q j hj
      exact ⟨g, rfl, by rw [huW.cellAt _ (by omega), a1], by rw [huW.cellAt _ (by omega), a2]⟩
  have HW := (show Hid _ from hW)
  have HK := (show Hid _ from kW)
  have HB : Hid (∀ j (hj : j < Q.length), behind (S x) x (Q.take (j + 1)) = if Q[j].1 = x then Q[j].2 else behind (S x) x (Q.take j)) := fun j hj => behind_next _ _ _ j hj
  have HE : Hid (Q.take Q.length = Q) := List.take_length
  have HS : Hid (behind (S x) x (Q.take 0) = S x) := rfl
  have cW0 := cW
  rw [hW] at cW0
  clear hW kW hu huW hc cW
  go_enter Try.func14, Try.ntmps14
  go_wp2_with fail
  go_loopw [6, 7] (fun s i wr => ∃ j : Nat, j ≤ Q.length ∧ i = .int .i64 j ∧ s = .string ⟨(behind (S x) x (Q.take j)).toArray⟩ ∧ wr = W)
    (fun _ i _ => Q.length - (intOf i).toNat)
  case atStart => exact ⟨0, Nat.zero_le _, rfl, by rw [HS.out], HW.out.symm⟩
  case round =>
    obtain ⟨j, hj, rfl, rfl, rfl⟩ := hrel
    clear cW0 HS
    by_cases hlt : j < Q.length
    · have hji : (j : Int) < (Q.length : Int) := by omega
      obtain ⟨g, rfl, c1, c2⟩ := HC.out j hlt
      have hn := HB.out j hlt
      generalize Q[j] = q at *
      have HNX := (show Hid _ from hn)
      generalize behind (S x) x (List.take j Q) = t at *
      clear hn HC HB HE
      by_cases hq : q.1 = x
      · have hqi : (q.1 : Int) = (x : Int) := by omega
        rw [if_pos hq] at HNX
        go_wp2_with fail
        go_roundw
        case rel => exact ⟨j + 1, by omega, by go_num, by rw [HNX.out], trivial⟩
        case measure => simp [intOf]; omega
      · have hqi : ((q.1 : Int) == (x : Int)) = false := by simp; omega
        rw [if_neg hq] at HNX
        go_wp2_with fail
        go_roundw
        case rel => exact ⟨j + 1, by omega, by go_num, by rw [HNX.out], trivial⟩
        case measure => simp [intOf]; omega
    · have hji : ¬ (j : Int) < (Q.length : Int) := by omega
      have ej : j = Q.length := by omega
      rw [ej, HE.out]
      go_wp2_with fail
      go_ret2
      exact ⟨rfl, HK.out⟩
end Go.Proofs.Ytlkkeabenklefaa
