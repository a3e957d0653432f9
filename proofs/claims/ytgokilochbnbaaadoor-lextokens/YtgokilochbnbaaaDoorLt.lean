/- LexTokens walked. -/
import Derived.Test.YtgokilochbnbaaaDoorLb
import Derived.Test.YtgokilochbnbaaaDoorRx
import Derived.Test.YtgokilochbnbaaaDoorRy
import Derived.LoopTactic
import Derived.BigQuiet
namespace Go.Proofs.YtgokilochbnbaaaDoor
open Go.ChangeShapes Go.WideShapes Go.ChangeAt Go.RowKit
set_option linter.unusedVariables false
set_option maxRecDepth 100000

theorem toks_big (s : ByteArray) (h : 1024 < (s.size : Int)) (h2 : (s.size : Int) ≤ 4096) (w : World) (hg : Glob w) : Calls Tryd.prog 3 #[.string s] w fun e w' => e = .returned (.bool true) ∧ Below w.heap.size w w' := by
  have HA : Hid AwkC := awk_c
  have HG : Hid (Glob w) := hg
  clear hg
  go_enter Tryd.func3, Tryd.ntmps3
  go_wp2_with fail
  refine Calls.mono (HA.out _ HG.out) ?_; rintro e w1 ⟨rfl, k1⟩
  have HK : Hid (Below w.heap.size w w1) := k1
  clear k1
  go_wp2_with fail
  go_ret
  exact ⟨rfl, HK.out⟩
theorem toks_none_small (s : ByteArray) (h : ¬ 1024 < (s.size : Int)) (p e0 : Int) (hp : (p != p) = false) (he : (e0 != e0) = false)
    (H1 : Hid (∀ w, Glob w → Calls Tryd.prog 9 #[.string s] w fun e w' => ∃ a c, e = .returned (.tuple #[.slice a 0 c, .int .i64 p, .int .i64 e0]) ∧ Below w.heap.size w w'))
    (H2 : Hid (∀ w, Calls Tryd.prog 10 #[.string s] w fun e w' => ∃ a c, e = .returned (.tuple #[.slice a 0 c, .int .i64 p, .int .i64 e0]) ∧ Below w.heap.size w w'))
    (H4 : Hid (∀ a c a' c' w, Calls Tryd.prog 11 #[.slice a 0 c, .slice a' 0 c'] w fun e w' => e = .returned (.bool true) ∧ w' = w)) (w : World) (hg : Glob w) :
    Calls Tryd.prog 3 #[.string s] w fun e w' => e = .returned (.bool true) ∧ Below w.heap.size w w' := by
  have HA : Hid AwkC := awk_c
  have HG : Hid (Glob w) := hg
  clear hg
  go_enter Tryd.func3, Tryd.ntmps3
  go_wp2_with fail
  refine Calls.mono (H1.out _ HG.out) ?_; rintro e w1 ⟨a1, c1, rfl, k1⟩
  have HK : Hid (Below w.heap.size w w1) := k1
  have HG1 : Hid (Glob w1) := HG.out.next k1
  clear k1
  go_wp2_with fail
  refine Calls.mono (H2.out _) ?_; rintro e w2 ⟨a2, c2, rfl, k2⟩
  have HK2 : Hid (Below w.heap.size w w2) := Below.next HK.out k2
  have HG2 : Hid (Glob w2) := HG1.out.next k2
  clear k2
  go_wp2_with fail
  refine Calls.mono (H4.out _ _ _ _ _) ?_; rintro e w3 ⟨rfl, rfl⟩
  go_wp2_with fail
  go_loop [9] (fun i => i = .int .i64 0) (fun i => 0)
  case atStart => rfl
  case round =>
    obtain rfl := hrel
    go_wp2_with fail
    refine Calls.mono (HA.out _ HG2.out) ?_; rintro e w4 ⟨rfl, k4⟩
    have HK4 : Hid (Below w.heap.size w w4) := Below.next HK2.out k4
    clear k4
    go_wp2_with fail
    go_ret
    exact ⟨rfl, HK4.out⟩
theorem toks_none_far (s : ByteArray) (h : 1024 < (s.size : Int)) (h2 : ¬ (s.size : Int) ≤ 4096) (p e0 : Int) (hp : (p != p) = false) (he : (e0 != e0) = false)
    (H1 : Hid (∀ w, Glob w → Calls Tryd.prog 9 #[.string s] w fun e w' => ∃ a c, e = .returned (.tuple #[.slice a 0 c, .int .i64 p, .int .i64 e0]) ∧ Below w.heap.size w w'))
    (H2 : Hid (∀ w, Calls Tryd.prog 10 #[.string s] w fun e w' => ∃ a c, e = .returned (.tuple #[.slice a 0 c, .int .i64 p, .int .i64 e0]) ∧ Below w.heap.size w w'))
    (H4 : Hid (∀ a c a' c' w, Calls Tryd.prog 11 #[.slice a 0 c, .slice a' 0 c'] w fun e w' => e = .returned (.bool true) ∧ w' = w)) (w : World) (hg : Glob w) :
    Calls Tryd.prog 3 #[.string s] w fun e w' => e = .returned (.bool true) ∧ Below w.heap.size w w' := by
  have HA : Hid AwkC := awk_c
  have HG : Hid (Glob w) := hg
  clear hg
  go_enter Tryd.func3, Tryd.ntmps3
  go_wp2_with fail
  refine Calls.mono (H1.out _ HG.out) ?_; rintro e w1 ⟨a1, c1, rfl, k1⟩
  have HK : Hid (Below w.heap.size w w1) := k1
  have HG1 : Hid (Glob w1) := HG.out.next k1
  clear k1
  go_wp2_with fail
  refine Calls.mono (H2.out _) ?_; rintro e w2 ⟨a2, c2, rfl, k2⟩
  have HK2 : Hid (Below w.heap.size w w2) := Below.next HK.out k2
  have HG2 : Hid (Glob w2) := HG1.out.next k2
  clear k2
  go_wp2_with fail
  refine Calls.mono (H4.out _ _ _ _ _) ?_; rintro e w3 ⟨rfl, rfl⟩
  go_wp2_with fail
  go_loop [9] (fun i => i = .int .i64 0) (fun i => 0)
  case atStart => rfl
  case round =>
    obtain rfl := hrel
    go_wp2_with fail
    refine Calls.mono (HA.out _ HG2.out) ?_; rintro e w4 ⟨rfl, k4⟩
    have HK4 : Hid (Below w.heap.size w w4) := Below.next HK2.out k4
    clear k4
    go_wp2_with fail
    go_ret
    exact ⟨rfl, HK4.out⟩
set_option maxHeartbeats 800000 in
theorem toks_some (s : ByteArray) (h : ¬ 1024 < (s.size : Int)) (n : Nat) (hm : n ≤ 5000) (r : List (TK × Nat)) (HN : Hid (r.length = n)) (p e0 : Int) (hp : (p != p) = false) (he : (e0 != e0) = false)
    (H1 : Hid (∀ w, Glob w → Calls Tryd.prog 9 #[.string s] w fun e w' => ∃ g c, e = .returned (.tuple #[.slice (some ⟨g, 0, none⟩) n c, .int .i64 p, .int .i64 e0]) ∧ Cells w' g r ∧ Below w.heap.size w w'))
    (H2 : Hid (∀ w, Calls Tryd.prog 10 #[.string s] w fun e w' => ∃ g c, e = .returned (.tuple #[.slice (some ⟨g, 0, none⟩) n c, .int .i64 p, .int .i64 e0]) ∧ Cells w' g r ∧ Below w.heap.size w w'))
    (H4 : Hid (∀ w g c g' c', Cells w g r → Cells w g' r → Calls Tryd.prog 11 #[.slice (some ⟨g, 0, none⟩) n c, .slice (some ⟨g', 0, none⟩) n c'] w fun e w' => e = .returned (.bool true) ∧ Below w.heap.size w w')) (w : World) (hg : Glob w) :
    Calls Tryd.prog 3 #[.string s] w fun e w' => e = .returned (.bool true) ∧ Below w.heap.size w w' := by
  have HA : Hid AwkC := awk_c
  have HG : Hid (Glob w) := hg
  clear hg
  go_enter Tryd.func3, Tryd.ntmps3
  go_wp2_with fail
  refine Calls.mono (H1.out _ HG.out) ?_; rintro e w1 ⟨g, c, rfl, hc, k1⟩
  have HK : Hid (Below w.heap.size w w1) := k1
  have HG1 : Hid (Glob w1) := HG.out.next k1
  have HC : Hid (Cells w1 g r) := hc
  clear k1 hc
  go_wp2_with fail
  refine Calls.mono (H2.out _) ?_; rintro e w2 ⟨g', c', rfl, hc', k2⟩
  have HK2 : Hid (Below w.heap.size w w2) := Below.next HK.out k2
  have HG2 : Hid (Glob w2) := HG1.out.next k2
  have HC2 : Hid (Cells w2 g r) := HC.out.next k2
  have HD2 : Hid (Cells w2 g' r) := hc'
  clear k2 hc'
  go_wp2_with fail
  refine Calls.mono (H4.out _ _ _ _ _ HC2.out HD2.out) ?_; rintro e w3 ⟨rfl, k3⟩
  have HK3 : Hid (Below w.heap.size w w3) := Below.next HK2.out k3
  have HG3 : Hid (Glob w3) := HG2.out.next k3
  have HC3 : Hid (Cells w3 g r) := HC2.out.next k3
  have HD3 : Hid (Cells w3 g' r) := HD2.out.next k3
  clear k3
  go_wp2_with fail
  go_loopw [9] (fun i wr => ∃ (j : Nat), j ≤ n ∧ i = .int .i64 (j : Int) ∧ Hid (∃ k, wr = w3.drewN k)) (fun i _ => n - (intOf i).toNat)
  case atStart => exact ⟨0, Nat.zero_le _, rfl, ⟨0, rfl⟩⟩
  case round =>
    obtain ⟨j, hj, rfl, HW⟩ := hrel
    by_cases hlt : j < n
    · have hlti : (j : Int) < (n : Int) := by omega
      have hr : j < r.length := by have := HN.out; omega
      have c3 := (rt_get r j hr (w := wr) (g := g) (by obtain ⟨k, hk⟩ := HW.out; rw [hk]; exact HC3.out)).2.2.2
      have d3 := (rt_get r j hr (w := wr) (g := g') (by obtain ⟨k, hk⟩ := HW.out; rw [hk]; exact HD3.out)).2.2.2
      generalize ((r[j].2 : Nat) : Int) = x at *
      have hx : (x == x) = true := by simp
      have hx2 : (x != x) = false := by simp
      clear hr
      go_wp2_with fail
      go_quiet (fail)
      have HW2 : Hid (∃ k, wr.drewN nq = w3.drewN k) := by
        obtain ⟨k, hk⟩ := HW.out
        exact ⟨k + nq, by rw [hk]; exact World.drewN_drewN _ _ _⟩
      generalize wr.drewN nq = wq at *
      clear c3 d3
      go_wp2_with fail
      go_roundw
      case rel => exact ⟨j + 1, by omega, by go_num, HW2⟩
      case measure => simp [intOf]; omega
    · have hlti : ¬ (j : Int) < (n : Int) := by omega
      have HGr : Hid (Glob wr) := by
        obtain ⟨k, hk⟩ := HW.out
        rw [hk]
        exact HG3.out.next (drewN_below _ k)
      have HKr : Hid (Below w.heap.size w wr) := by
        obtain ⟨k, hk⟩ := HW.out
        rw [hk]
        exact Below.next HK3.out (drewN_below _ k)
      go_wp2_with fail
      refine Calls.mono (HA.out _ HGr.out) ?_; rintro e w4 ⟨rfl, k4⟩
      have HK4 : Hid (Below w.heap.size w w4) := Below.next HKr.out k4
      clear k4
      go_wp2_with fail
      go_ret
      exact ⟨rfl, HK4.out⟩
theorem rtokens_is (s : ByteArray) (w : World) : Calls Tryd.prog 10 #[.string s] w fun e w' => TokR w w' s.data.toList e := by
  by_cases h : s.size ≤ 4096
  · exact rtokens_some s h (fun j w hj hp => one_ref s j hj (by omega) hp w) w
  · exact rtokens_full s (by omega) w
theorem walk_tokens (s : ByteArray) (w : World) (hg : Glob w) : Calls Tryd.prog 3 #[.string s] w fun e w' => e = .returned (.bool true) ∧ Below w.heap.size w w' := by
  by_cases h : 1024 < s.size ∧ s.size ≤ 4096
  · exact toks_big s (by omega) (by omega) w hg
  · have hp : ((tokV s.data.toList).2.1 != (tokV s.data.toList).2.1) = false := by simp
    have he : ((tokV s.data.toList).2.2 != (tokV s.data.toList).2.2) = false := by simp
    rcases tokV_cases s.data.toList with ⟨ts, ht⟩ | ⟨h1, h2⟩
    · have hl : s.size ≤ 4096 := by
        refine Nat.le_of_not_lt (fun hx => ?_)
        have e := too_long (l := s.data.toList) (by rw [len_of]; exact hx)
        rw [ht.eq] at e
        have := congrArg (fun q => q.2.2) e
        simp at this
      have hlen := ht.len
      rw [len_of] at hlen
      refine toks_some s (by omega) (fullR s.data.toList ts).length (by simp; omega) (fullR s.data.toList ts) rfl 0 0 rfl rfl (fun w hg => tokens_has s ht w hg) (fun w => ?_)
        (fun w g c g' c' hc hc' => same_c (decide_eq_true rfl) (by simp; omega) w g c g' c' hc hc') w hg
      refine (rtokens_is s w).mono ?_
      rintro e w' ⟨v, rfl, o, k⟩
      rw [ht.eq] at o ⊢
      obtain ⟨g, c, rfl, hc, _⟩ := OwnT.cells o (by simp)
      exact ⟨g, c, rfl, hc, k⟩
    · have hR : ∀ w, Calls Tryd.prog 10 #[.string s] w fun e w' => ∃ a c, e = .returned (.tuple #[.slice a 0 c, .int .i64 (tokV s.data.toList).2.1, .int .i64 (tokV s.data.toList).2.2]) ∧ Below w.heap.size w w' := fun w => by
        refine (rtokens_is s w).mono ?_
        rintro e w' ⟨v, rfl, o, k⟩
        rw [h1] at o
        obtain ⟨a, c, rfl, _⟩ := o.row
        exact ⟨a, c, rfl, k⟩
      by_cases hs : 1024 < s.size
      · exact toks_none_far s (by omega) (by omega) _ _ hp he (fun w hg => tokens_not s h1 w hg) hR (fun a c a' c' w => same_none a a' c c' w) w hg
      · exact toks_none_small s (by omega) _ _ hp he (fun w hg => tokens_not s h1 w hg) hR (fun a c a' c' w => same_none a a' c c' w) w hg
end Go.Proofs.YtgokilochbnbaaaDoor
