/- The document's ledger: index, ahead, Same of nothing. The document's May of operations. -/
import Derived.Test.YtbclddgicnaamaaFind
import Derived.Test.YtbclddgicnaamaaEOp
namespace Go.Proofs.Ytbclddgicnaamaa
open Go.ChangeShapes Go.WideShapes Go.RowKit
set_option linter.unusedVariables false
set_option maxRecDepth 100000

set_option maxHeartbeats 2000000 in
theorem index_is (a0 : Option Addr) (n0 c0 : Nat) (a1 : Option Addr) (n1 c1 : Nat) (a2 : Option Addr) (n2 c2 : Nat) (ops : Int) (l : List Stk) (hn : l.length = n0) (hm : n0 ≤ 1000000000000) (sku loc : ByteArray) (w : World) (hr : Rw stv 4 w a0 l) :
    Calls Try.prog 57 #[.agg #[.slice a0 n0 c0, .slice a1 n1 c1, .slice a2 n2 c2, .int .i64 ops], .string sku, .string loc] w fun e w' => e = .returned (.int .i64 (if hasK l sku loc then (idxK l sku loc : Nat) else -1)) ∧ Below w.heap.size w w' := by
  obtain ⟨z, hz⟩ : ∃ z : Int, (if hasK l sku loc then ((idxK l sku loc : Nat) : Int) else -1) = z := ⟨_, rfl⟩
  rw [hz]
  have HZ : Hid ((if hasK l sku loc then ((idxK l sku loc : Nat) : Int) else -1) = z) := hz
  obtain ⟨W, hW⟩ : ∃ W, w.alloc (.cells #[.slice a0 n0 c0, .slice a1 n1 c1, .slice a2 n2 c2, .int .i64 ops] 26) = W := ⟨_, rfl⟩
  have hB : Below w.heap.size w W := hW ▸ below1 _ _
  have hL : CellsF W w.heap.size [.slice a0 n0 c0, .slice a1 n1 c1, .slice a2 n2 c2, .int .i64 ops] := by rw [← hW]; exact CellsF.at _ 26 (by simp) rfl
  have HL : Hid (l.length = n0) := hn
  have HR : Hid (Rw stv 4 w a0 l) := hr
  have HB : Hid (Below w.heap.size w W) := hB
  have l0 := hL.cs 0 _ rfl
  clear hz hn hr hB hL
  go_enter Try.func57, Try.ntmps57
  go_wp2_with fail
  try rw [hW]
  clear hW
  go_wp2_with fail
  go_loopw [7] (fun vi wr => ∃ k : Nat, k ≤ n0 ∧ vi = .int .i64 k ∧ wr = W ∧ Hid (∀ i (h : i < l.length), i < k → isK sku loc l[i] = false))
    (fun vi _ => n0 - (intOf vi).toNat)
  case atStart => exact ⟨0, Nat.zero_le _, rfl, rfl, fun i h q => absurd q (Nat.not_lt_zero _)⟩
  case round =>
    obtain ⟨k, hk, rfl, rfl, HI⟩ := hrel
    by_cases hlt : k < n0
    · have hlti : (k : Int) < (n0 : Int) := by omega
      have hkl : k < l.length := by have := HL.out; omega
      obtain ⟨b, o, rfl, hb, hc⟩ := HR.out.stk (fun e => by rw [e] at hkl; simp at hkl)
      have hx := (hc k hkl).next (HB.out.block b hb)
      have HY : Hid (isK sku loc l[k] = true → z = (k : Int)) := fun e => by
        rw [← HZ.out, if_pos (show hasK l sku loc = true from List.any_eq_true.2 ⟨_, List.getElem_mem hkl, e⟩)]
        have : idxK l sku loc = k := by
          unfold idxK
          exact (List.findIdx_eq hkl).2 ⟨e, fun j hj => HI.out j (by omega) hj⟩
        rw [this]
      have HNX : Hid (isK sku loc l[k] = false → ∀ i (h : i < l.length), i < k + 1 → isK sku loc l[i] = false) := fun e i h q => by
        by_cases c : i = k
        · subst c; exact e
        · exact HI.out i h (by omega)
      clear hc hb
      generalize l[k] = x at *
      obtain ⟨x0, x1, x2, x3⟩ := hx
      obtain ⟨xs, xl, xo, xh⟩ := x
      dsimp only at x0 x1 x2 x3
      by_cases c0 : xs = sku
      · subst c0
        by_cases c1 : xl = loc
        · subst c1
          have HE : Hid (z = (k : Int)) := HY.out (decide_eq_true ⟨rfl, rfl⟩)
          clear HY HNX
          go_wp2_with fail
          go_ret
          exact ⟨by rw [HE.out]; rfl, HB.out⟩
        · have HE : Hid (∀ i (h : i < l.length), i < k + 1 → isK xs loc l[i] = false) := HNX.out (decide_eq_false (fun e => c1 e.2))
          have b1 := byte_bne c1
          clear HY HNX
          go_wp2_with fail
          go_roundw
          case rel => exact ⟨k + 1, by omega, by go_num, by trivial, HE.out⟩
          case measure => simp [intOf]; omega
      · have HE : Hid (∀ i (h : i < l.length), i < k + 1 → isK sku loc l[i] = false) := HNX.out (decide_eq_false (fun e => c0 e.1))
        have b0 := byte_bne c0
        clear HY HNX
        go_wp2_with fail
        go_roundw
        case rel => exact ⟨k + 1, by omega, by go_num, by trivial, HE.out⟩
        case measure => simp [intOf]; omega
    · have hlti : ¬ (k : Int) < (n0 : Int) := by omega
      have HE : Hid (z = -1) := by
        show z = -1
        rw [← HZ.out, if_neg (fun e => by
          obtain ⟨x, hx, hi⟩ := List.any_eq_true.1 e
          obtain ⟨i, h, rfl⟩ := List.getElem_of_mem hx
          have := HI.out i h (by have := HL.out; omega)
          rw [this] at hi; cases hi)]
      go_wp2_with fail
      go_ret
      exact ⟨by rw [HE.out]; rfl, HB.out⟩
/-- Of ledgers without anything. -/
theorem refSame_none (a0 : Option Addr) (c0 : Nat) (a1 : Option Addr) (c1 : Nat) (a2 : Option Addr) (c2 : Nat) (b0 : Option Addr) (d0 : Nat) (b1 : Option Addr) (d1 : Nat) (b2 : Option Addr) (d2 : Nat) (w : World) :
    Calls Try.prog 13 #[.agg #[.slice a0 0 c0, .slice a1 0 c1, .slice a2 0 c2, .int .i64 0], .agg #[.slice b0 0 d0, .slice b1 0 d1, .slice b2 0 d2, .int .i64 0]] w fun e w' => e = .returned (.bool true) ∧ Below w.heap.size w w' := by
  go_enter Try.func13, Try.ntmps13
  go_wp2_with fail
  refine wp_loop_rounds 1 ?_
  rw [rounds_succ]
  go_wp2_with fail
  refine wp_loop_rounds 1 ?_
  rw [rounds_succ]
  go_wp2_with fail
  refine wp_loop_rounds 1 ?_
  rw [rounds_succ]
  go_wp2_with fail
  go_ret
  exact ⟨rfl, below2 _ _ _⟩
end Go.Proofs.Ytbclddgicnaamaa

namespace Go.Proofs.Ytbclddgicnaamaa
open Go.ChangeShapes Go.WideShapes Go.RowKit
set_option linter.unusedVariables false
set_option maxRecDepth 100000
set_option maxRecDepth 100000

theorem refName_is (s : ByteArray) (w : World) : Calls Try.prog 31 #[.string s] w fun e w' => e = .returned (.bool (decide (name s))) ∧ w' = w := by
  by_cases h1 : 1 ≤ s.size
  · have h1i : 1 ≤ (s.size : Int) := by omega
    by_cases h2 : s.size ≤ 64
    · have h2i : (s.size : Int) ≤ 64 := by omega
      have HM : Hid (decide (name s) = true) := decide_eq_true ⟨h1, h2⟩
      go_enter Try.func31, Try.ntmps31
      go_wp2_with fail
      go_ret
      exact ⟨by rw [HM.out]; rfl, rfl⟩
    · have h2i : ¬ (s.size : Int) ≤ 64 := by omega
      have HM : Hid (decide (name s) = false) := decide_eq_false (fun q => h2 q.2)
      go_enter Try.func31, Try.ntmps31
      go_wp2_with fail
      go_ret
      exact ⟨by rw [HM.out]; rfl, rfl⟩
  · have h1i : ¬ 1 ≤ (s.size : Int) := by omega
    have HM : Hid (decide (name s) = false) := decide_eq_false (fun q => h1 q.1)
    go_enter Try.func31, Try.ntmps31
    go_wp2_with fail
    go_ret
    exact ⟨by rw [HM.out]; rfl, rfl⟩
end Go.Proofs.Ytbclddgicnaamaa
