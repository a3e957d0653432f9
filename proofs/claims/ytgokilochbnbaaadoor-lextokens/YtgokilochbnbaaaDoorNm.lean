/- Contract of the document's Mul (package quaysideref01): a is doubled as often as b has bits. -/
import Derived.Test.YtgokilochbnbaaaDoorNb
namespace Go.Proofs.YtgokilochbnbaaaDoor.Num
open Go.ChangeShapes Go.WideShapes Go.ChangeAt Go.RowKit
set_option linter.unusedVariables false
set_option maxRecDepth 100000

theorem hi_two {x : Int} (h : -2 ≤ hi x) : -9223372036854775808 ≤ x := by unfold hi at h; omega
theorem hi_two' {x : Int} (h : hi x < -2) : x < -9223372036854775808 := by unfold hi at h; omega
theorem Pair.fresh_at (w : World) (n : Nat) (x : Int) (hn : w.heap.size = n) : Pair (w.alloc (.cells #[.int .i64 (hi x), .int .i64 (lo x)] 87)) n x := hn ▸ Pair.fresh w x
theorem Pair.zero_at (w : World) (n : Nat) (x : Int) (hx : x = 0) (hn : w.heap.size = n) : Pair (w.alloc (.cells #[.int .i64 0, .int .i64 0] 87)) n x := by
  subst hx
  exact hn ▸ Pair.fresh w 0
theorem below_two {B : Nat} {a w : World} (h : Below B a w) {c : Nat} (hc : B ≤ c) (u v : Value) : Below B a ((w.setCell ⟨c, 0, none⟩ u).setCell ⟨c, 1, none⟩ v) := (h.setCell (p := ⟨c, 0, none⟩) hc u).setCell (p := ⟨c, 1, none⟩) hc v
theorem plus_to (x y z : Int) (h : x + y = z) (c1 : -73786976294838206464 ≤ x ∧ x ≤ 73786976294838206464) (c2 : -73786976294838206464 ≤ y ∧ y ≤ 73786976294838206464) (w : World) :
    Calls Tryd.prog 84 #[.agg #[.int .i64 (hi x), .int .i64 (lo x)], .agg #[.int .i64 (hi y), .int .i64 (lo y)]] w fun e w' => e = .returned (.agg #[.int .i64 (hi z), .int .i64 (lo z)]) ∧ Below w.heap.size w w' :=
  h ▸ plus_any x y (hi_small x c1) (hi_small y c2) w
theorem less_to (x z : Int) (h : -x = z) (c1 : -73786976294838206464 ≤ x ∧ x ≤ 73786976294838206464) (w : World) :
    Calls Tryd.prog 83 #[.agg #[.int .i64 (hi x), .int .i64 (lo x)]] w fun e w' => e = .returned (.agg #[.int .i64 (hi z), .int .i64 (lo z)]) ∧ Below w.heap.size w w' :=
  h ▸ less_any x (hi_small x c1) w
theorem bit_is (x : Int) (k : Nat) (b : Bool) (h : bitB x k = b) (k2 : k ≤ 63) (w : World) :
    Calls Tryd.prog 85 #[.agg #[.int .i64 (hi x), .int .i64 (lo x)], .int .i64 (k : Int)] w fun e w' => e = .returned (.bool b) ∧ Below w.heap.size w w' :=
  h ▸ bit_any x k k2 w
theorem ret_vl {p : Int} (h : ¬ (-9223372036854775808 ≤ p ∧ p ≤ 9223372036854775807)) : Ending.returned (.tuple #[.int .i64 0, .int .i64 10]) = .returned (.tuple #[.int .i64 (vl p), .int .i64 (er p)]) := by
  rw [(vl_out h).1, (vl_out h).2]

set_option maxHeartbeats 4000000 in
theorem refMul_pp (A B : Int) (pA : 0 < A) (lA : A ≤ 9223372036854775807) (pB : 0 < B) (lB : B ≤ 9223372036854775807) (w : World) :
    Calls Tryd.prog 66 #[.int .i64 A, .int .i64 B] w fun e w' => e = .returned (.tuple #[.int .i64 (vl (A * B)), .int .i64 (er (A * B))]) ∧ Below w.heap.size w w' := by
  have t0 : (A == 0) = false := by simp; omega
  have t1 : (B == 0) = false := by simp; omega
  go_enter Tryd.func66, Tryd.ntmps66
  go_wp2_with fail
  refine (of_any A (by omega) _).mono ?_; rintro e w1 ⟨rfl, k1⟩
  go_wp2_with fail
  refine (of_any B (by omega) _).mono ?_; rintro e w2 ⟨rfl, k2⟩
  have K2 := bnext k1 k2
  have pX := (Pair.fresh w2 A).alloc (.cells #[.int .i64 (hi B), .int .i64 (lo B)] 87)
  have pY := Pair.fresh_at (w2.alloc (.cells #[.int .i64 (hi A), .int .i64 (lo A)] 87)) (w2.heap.size + 1) B (by simp)
  have KB : Below w.heap.size w ((w2.alloc (.cells #[.int .i64 (hi A), .int .i64 (lo A)] 87)).alloc (.cells #[.int .i64 (hi B), .int .i64 (lo B)] 87)) := (K2.alloc K2.size _).alloc (Nat.le_trans K2.size (by simp)) _
  have hX : w.heap.size ≤ w2.heap.size := K2.size
  clear k1 k2 K2
  go_wp2_with fail
  refine (less_any A (hi_small _ (by omega)) _).mono ?_; rintro e w3 ⟨rfl, k3⟩
  replace pX := pX.below k3
  replace pY := pY.below k3
  replace KB := bnext KB k3
  clear k3
  obtain ⟨x0, x1, x2, x3, x4⟩ := id pX
  obtain ⟨y0, y1, y2, y3, y4⟩ := id pY
  go_wp2_with fail
  clear x0 x1 x2 x3 x4 y0 y1 y2 y3 y4
  replace pX := pX.put (-A)
  replace pY := pY.beside (c := w2.heap.size) (by omega) (.int .i64 (hi (-A))) (.int .i64 (lo (-A)))
  replace KB := below_two KB hX (.int .i64 (hi (-A))) (.int .i64 (lo (-A)))
  refine (less_any B (hi_small _ (by omega)) _).mono ?_; rintro e w4 ⟨rfl, k4⟩
  replace pX := pX.below k4
  replace pY := pY.below k4
  replace KB := bnext KB k4
  clear k4
  obtain ⟨x0, x1, x2, x3, x4⟩ := id pX
  obtain ⟨y0, y1, y2, y3, y4⟩ := id pY
  go_wp2_with fail
  clear x0 x1 x2 x3 x4 y0 y1 y2 y3 y4
  replace pX := pX.beside (c := w2.heap.size + 1) (by omega) (.int .i64 (hi (-B))) (.int .i64 (lo (-B)))
  replace pY := pY.put (-B)
  replace KB := below_two KB (c := w2.heap.size + 1) (by omega) (.int .i64 (hi (-B))) (.int .i64 (lo (-B)))
  have hS : w2.heap.size + 1 < w4.heap.size := by first | omega | simpa using pY.lt
  go_loopw [9] (fun i wr => ∃ n : Int, -1 ≤ n ∧ n ≤ 63 ∧ i = .int .i64 n ∧ Pair wr w2.heap.size (-A) ∧ Pair wr (w2.heap.size + 1) (-B) ∧ Pair wr w4.heap.size (part A B (n + 1).toNat) ∧ -9223372036854775808 ≤ part A B (n + 1).toNat ∧ Below w.heap.size w wr)
    (fun i _ => (intOf i + 1).toNat)
  case atStart =>
    have hz := part_start A B (by omega) (by omega)
    exact ⟨63, by omega, by omega, rfl, pX.alloc _, pY.alloc _, Pair.zero_at _ _ _ hz (by simp), by show -9223372036854775808 ≤ part A B 64; omega, KB.alloc KB.size _⟩
  case round =>
    clear pX pY KB
    obtain ⟨n, hn1, hn2, rfl, pX, pY, pS, hp, KB⟩ := hrel
    by_cases hn : 0 ≤ n
    · obtain ⟨j, rfl⟩ := Int.eq_ofNat_of_zero_le hn
      have ej : ((j : Int) + 1).toNat = j + 1 := by omega
      rw [ej] at pS hp
      clear ej
      have hp0 := (part_low A B (j + 1) (by omega) (by omega)).2
      have hpl := (part_low A B j (by omega) (by omega)).1
      have hst := part_step A B j
      obtain ⟨d, hd⟩ : ∃ d, part A B (j + 1) + part A B (j + 1) = d := ⟨_, rfl⟩
      rw [hd] at hst
      obtain ⟨p, hpp⟩ : ∃ p, part A B j = p := ⟨_, rfl⟩
      obtain ⟨q, hq⟩ : ∃ q, part A B (j + 1) = q := ⟨_, rfl⟩
      rw [hpp] at hpl hst
      rw [hq] at pS hp hp0 hd
      have HP : Hid (part A B j = p) := hpp
      have HD : Hid (q + q = d) := hd
      have hd1 : d ≤ 0 := by omega
      have hd2 : -18446744073709551616 ≤ d := by omega
      have HQ : Hid (part A B (j + 1) = q) := hq
      clear hpp hq hd
      cases hb : bitB B j
      · have HE : Hid (d = p) := by rw [hb] at hst; simp at hst; show _ = _; omega
        have hb0 : Hid (bitB B j = false) := hb
        clear hst hb
        by_cases hh : hi p < -2
        · have _u := hh
          obtain rfl : d = p := HE.out
          obtain ⟨s0, s1, s2, s3, s4⟩ := id pS
          go_wp2_with fail
          refine (plus_to q q d HD.out (by omega) (by omega) _).mono ?_; rintro e w5 ⟨rfl, k5⟩
          clear s0 s1 s2 s3 s4
          replace pX := pX.below k5
          replace pY := pY.below k5
          replace pS := pS.below k5
          replace KB := bnext KB k5
          clear k5
          obtain ⟨y0, y1, y2, y3, y4⟩ := id pY
          obtain ⟨s0, s1, s2, s3, s4⟩ := id pS
          go_wp2_with fail
          clear y0 y1 y2 y3 y4 s0 s1 s2 s3 s4
          replace pX := pX.beside (c := w4.heap.size) (by omega) (.int .i64 (hi d)) (.int .i64 (lo d))
          replace pY := pY.beside (c := w4.heap.size) (by omega) (.int .i64 (hi d)) (.int .i64 (lo d))
          replace pS := pS.put d
          replace KB := below_two KB (c := w4.heap.size) (by omega) (.int .i64 (hi d)) (.int .i64 (lo d))
          refine (less_to (-B) B (by omega) (by omega) _).mono ?_; rintro e w6 ⟨rfl, k6⟩
          replace pX := pX.below k6
          replace pY := pY.below k6
          replace pS := pS.below k6
          replace KB := bnext KB k6
          clear k6
          go_wp2_with fail
          refine (bit_is B j false hb0.out (by omega) _).mono ?_; rintro e w7 ⟨rfl, k7⟩
          replace pX := pX.below k7
          replace pY := pY.below k7
          replace pS := pS.below k7
          replace KB := bnext KB k7
          clear k7
          obtain ⟨s0, s1, s2, s3, s4⟩ := id pS
          go_wp2_with fail
          clear s0 s1 s2 s3 s4
          have ho := hi_two' hh
          go_ret2
          exact ⟨ret_vl (by omega), KB⟩
        · have _u := hh
          obtain rfl : d = p := HE.out
          obtain ⟨s0, s1, s2, s3, s4⟩ := id pS
          go_wp2_with fail
          refine (plus_to q q d HD.out (by omega) (by omega) _).mono ?_; rintro e w5 ⟨rfl, k5⟩
          clear s0 s1 s2 s3 s4
          replace pX := pX.below k5
          replace pY := pY.below k5
          replace pS := pS.below k5
          replace KB := bnext KB k5
          clear k5
          obtain ⟨y0, y1, y2, y3, y4⟩ := id pY
          obtain ⟨s0, s1, s2, s3, s4⟩ := id pS
          go_wp2_with fail
          clear y0 y1 y2 y3 y4 s0 s1 s2 s3 s4
          replace pX := pX.beside (c := w4.heap.size) (by omega) (.int .i64 (hi d)) (.int .i64 (lo d))
          replace pY := pY.beside (c := w4.heap.size) (by omega) (.int .i64 (hi d)) (.int .i64 (lo d))
          replace pS := pS.put d
          replace KB := below_two KB (c := w4.heap.size) (by omega) (.int .i64 (hi d)) (.int .i64 (lo d))
          refine (less_to (-B) B (by omega) (by omega) _).mono ?_; rintro e w6 ⟨rfl, k6⟩
          replace pX := pX.below k6
          replace pY := pY.below k6
          replace pS := pS.below k6
          replace KB := bnext KB k6
          clear k6
          go_wp2_with fail
          refine (bit_is B j false hb0.out (by omega) _).mono ?_; rintro e w7 ⟨rfl, k7⟩
          replace pX := pX.below k7
          replace pY := pY.below k7
          replace pS := pS.below k7
          replace KB := bnext KB k7
          clear k7
          obtain ⟨s0, s1, s2, s3, s4⟩ := id pS
          go_wp2_with fail
          clear s0 s1 s2 s3 s4
          have ho := hi_two hh
          go_roundw
          case rel =>
            have ej : ((j : Int) - 1 + 1).toNat = j := by omega
            refine ⟨(j : Int) - 1, by omega, by omega, rfl, pX, pY, ?_, ?_, KB⟩
            · rw [ej, HP.out]; exact pS
            · rw [ej, HP.out]; exact ho
          case measure => simp [intOf]
      · have HE : Hid (d + -A = p) := by rw [hb] at hst; simp at hst; show _ = _; omega
        have hb0 : Hid (bitB B j = true) := hb
        clear hst hb
        by_cases hh : hi p < -2
        · have _u := hh
          obtain ⟨s0, s1, s2, s3, s4⟩ := id pS
          go_wp2_with fail
          refine (plus_to q q d HD.out (by omega) (by omega) _).mono ?_; rintro e w5 ⟨rfl, k5⟩
          clear s0 s1 s2 s3 s4
          replace pX := pX.below k5
          replace pY := pY.below k5
          replace pS := pS.below k5
          replace KB := bnext KB k5
          clear k5
          obtain ⟨y0, y1, y2, y3, y4⟩ := id pY
          obtain ⟨s0, s1, s2, s3, s4⟩ := id pS
          go_wp2_with fail
          clear y0 y1 y2 y3 y4 s0 s1 s2 s3 s4
          replace pX := pX.beside (c := w4.heap.size) (by omega) (.int .i64 (hi d)) (.int .i64 (lo d))
          replace pY := pY.beside (c := w4.heap.size) (by omega) (.int .i64 (hi d)) (.int .i64 (lo d))
          replace pS := pS.put d
          replace KB := below_two KB (c := w4.heap.size) (by omega) (.int .i64 (hi d)) (.int .i64 (lo d))
          refine (less_to (-B) B (by omega) (by omega) _).mono ?_; rintro e w6 ⟨rfl, k6⟩
          replace pX := pX.below k6
          replace pY := pY.below k6
          replace pS := pS.below k6
          replace KB := bnext KB k6
          clear k6
          go_wp2_with fail
          refine (bit_is B j true hb0.out (by omega) _).mono ?_; rintro e w7 ⟨rfl, k7⟩
          replace pX := pX.below k7
          replace pY := pY.below k7
          replace pS := pS.below k7
          replace KB := bnext KB k7
          clear k7
          obtain ⟨x0, x1, x2, x3, x4⟩ := id pX
          obtain ⟨s0, s1, s2, s3, s4⟩ := id pS
          go_wp2_with fail
          clear x0 x1 x2 x3 x4 s0 s1 s2 s3 s4
          refine (plus_to d (-A) p HE.out (by omega) (by omega) _).mono ?_; rintro e w8 ⟨rfl, k8⟩
          replace pX := pX.below k8
          replace pY := pY.below k8
          replace pS := pS.below k8
          replace KB := bnext KB k8
          clear k8
          obtain ⟨s0, s1, s2, s3, s4⟩ := id pS
          go_wp2_with fail
          clear s0 s1 s2 s3 s4
          replace pX := pX.beside (c := w4.heap.size) (by omega) (.int .i64 (hi p)) (.int .i64 (lo p))
          replace pY := pY.beside (c := w4.heap.size) (by omega) (.int .i64 (hi p)) (.int .i64 (lo p))
          replace pS := pS.put p
          replace KB := below_two KB (c := w4.heap.size) (by omega) (.int .i64 (hi p)) (.int .i64 (lo p))
          have ho := hi_two' hh
          go_ret2
          exact ⟨ret_vl (by omega), KB⟩
        · have _u := hh
          obtain ⟨s0, s1, s2, s3, s4⟩ := id pS
          go_wp2_with fail
          refine (plus_to q q d HD.out (by omega) (by omega) _).mono ?_; rintro e w5 ⟨rfl, k5⟩
          clear s0 s1 s2 s3 s4
          replace pX := pX.below k5
          replace pY := pY.below k5
          replace pS := pS.below k5
          replace KB := bnext KB k5
          clear k5
          obtain ⟨y0, y1, y2, y3, y4⟩ := id pY
          obtain ⟨s0, s1, s2, s3, s4⟩ := id pS
          go_wp2_with fail
          clear y0 y1 y2 y3 y4 s0 s1 s2 s3 s4
          replace pX := pX.beside (c := w4.heap.size) (by omega) (.int .i64 (hi d)) (.int .i64 (lo d))
          replace pY := pY.beside (c := w4.heap.size) (by omega) (.int .i64 (hi d)) (.int .i64 (lo d))
          replace pS := pS.put d
          replace KB := below_two KB (c := w4.heap.size) (by omega) (.int .i64 (hi d)) (.int .i64 (lo d))
          refine (less_to (-B) B (by omega) (by omega) _).mono ?_; rintro e w6 ⟨rfl, k6⟩
          replace pX := pX.below k6
          replace pY := pY.below k6
          replace pS := pS.below k6
          replace KB := bnext KB k6
          clear k6
          go_wp2_with fail
          refine (bit_is B j true hb0.out (by omega) _).mono ?_; rintro e w7 ⟨rfl, k7⟩
          replace pX := pX.below k7
          replace pY := pY.below k7
          replace pS := pS.below k7
          replace KB := bnext KB k7
          clear k7
          obtain ⟨x0, x1, x2, x3, x4⟩ := id pX
          obtain ⟨s0, s1, s2, s3, s4⟩ := id pS
          go_wp2_with fail
          clear x0 x1 x2 x3 x4 s0 s1 s2 s3 s4
          refine (plus_to d (-A) p HE.out (by omega) (by omega) _).mono ?_; rintro e w8 ⟨rfl, k8⟩
          replace pX := pX.below k8
          replace pY := pY.below k8
          replace pS := pS.below k8
          replace KB := bnext KB k8
          clear k8
          obtain ⟨s0, s1, s2, s3, s4⟩ := id pS
          go_wp2_with fail
          clear s0 s1 s2 s3 s4
          replace pX := pX.beside (c := w4.heap.size) (by omega) (.int .i64 (hi p)) (.int .i64 (lo p))
          replace pY := pY.beside (c := w4.heap.size) (by omega) (.int .i64 (hi p)) (.int .i64 (lo p))
          replace pS := pS.put p
          replace KB := below_two KB (c := w4.heap.size) (by omega) (.int .i64 (hi p)) (.int .i64 (lo p))
          have ho := hi_two hh
          go_roundw
          case rel =>
            have ej : ((j : Int) - 1 + 1).toNat = j := by omega
            refine ⟨(j : Int) - 1, by omega, by omega, rfl, pX, pY, ?_, ?_, KB⟩
            · rw [ej, HP.out]; exact pS
            · rw [ej, HP.out]; exact ho
          case measure => simp [intOf]
    · obtain rfl : n = -1 := by omega
      have e0 : ((-1 : Int) + 1).toNat = 0 := rfl
      rw [e0, part_end] at pS hp
      clear e0
      have dA : decide (A < 0) = false := by simp; omega
      have dB : decide (B < 0) = false := by simp; omega
      obtain ⟨s0, s1, s2, s3, s4⟩ := id pS
      go_wp2_with fail
      refine (less_to (-(A * B)) (A * B) (by omega) (by have := (part_low A B 0 (by omega) (by omega)); rw [part_end] at this; omega) _).mono ?_; rintro e w5 ⟨rfl, k5⟩
      clear s0 s1 s2 s3 s4
      replace pS := pS.below k5
      replace KB := bnext KB k5
      clear k5
      obtain ⟨s0, s1, s2, s3, s4⟩ := id pS
      go_wp2_with fail
      clear s0 s1 s2 s3 s4
      replace pS := pS.put (A * B)
      replace KB := below_two KB (c := w4.heap.size) (by omega) (.int .i64 (hi (A * B))) (.int .i64 (lo (A * B)))
      refine (number_any (A * B) _).mono ?_; rintro e w6 ⟨rfl, k6⟩
      go_wp2_with fail
      go_ret2
      exact ⟨rfl, bnext KB k6⟩

set_option maxHeartbeats 4000000 in
theorem refMul_pn (A B : Int) (pA : 0 < A) (lA : A ≤ 9223372036854775807) (pB : 0 < B) (lB : B ≤ 9223372036854775808) (w : World) :
    Calls Tryd.prog 66 #[.int .i64 A, .int .i64 (-B)] w fun e w' => e = .returned (.tuple #[.int .i64 (vl (-(A * B))), .int .i64 (er (-(A * B)))]) ∧ Below w.heap.size w w' := by
  have t0 : (A == 0) = false := by simp; omega
  have t1 : (-B == 0) = false := by simp; omega
  go_enter Tryd.func66, Tryd.ntmps66
  go_wp2_with fail
  refine (of_any A (by omega) _).mono ?_; rintro e w1 ⟨rfl, k1⟩
  go_wp2_with fail
  refine (of_any (-B) (by omega) _).mono ?_; rintro e w2 ⟨rfl, k2⟩
  have K2 := bnext k1 k2
  have pX := (Pair.fresh w2 A).alloc (.cells #[.int .i64 (hi (-B)), .int .i64 (lo (-B))] 87)
  have pY := Pair.fresh_at (w2.alloc (.cells #[.int .i64 (hi A), .int .i64 (lo A)] 87)) (w2.heap.size + 1) (-B) (by simp)
  have KB : Below w.heap.size w ((w2.alloc (.cells #[.int .i64 (hi A), .int .i64 (lo A)] 87)).alloc (.cells #[.int .i64 (hi (-B)), .int .i64 (lo (-B))] 87)) := (K2.alloc K2.size _).alloc (Nat.le_trans K2.size (by simp)) _
  have hX : w.heap.size ≤ w2.heap.size := K2.size
  clear k1 k2 K2
  go_wp2_with fail
  refine (less_any A (hi_small _ (by omega)) _).mono ?_; rintro e w3 ⟨rfl, k3⟩
  replace pX := pX.below k3
  replace pY := pY.below k3
  replace KB := bnext KB k3
  clear k3
  obtain ⟨x0, x1, x2, x3, x4⟩ := id pX
  obtain ⟨y0, y1, y2, y3, y4⟩ := id pY
  go_wp2_with fail
  clear x0 x1 x2 x3 x4 y0 y1 y2 y3 y4
  replace pX := pX.put (-A)
  replace pY := pY.beside (c := w2.heap.size) (by omega) (.int .i64 (hi (-A))) (.int .i64 (lo (-A)))
  replace KB := below_two KB hX (.int .i64 (hi (-A))) (.int .i64 (lo (-A)))
  have hS : w2.heap.size + 1 < w3.heap.size := by first | omega | simpa using pY.lt
  go_loopw [9] (fun i wr => ∃ n : Int, -1 ≤ n ∧ n ≤ 63 ∧ i = .int .i64 n ∧ Pair wr w2.heap.size (-A) ∧ Pair wr (w2.heap.size + 1) (-B) ∧ Pair wr w3.heap.size (part A B (n + 1).toNat) ∧ -9223372036854775808 ≤ part A B (n + 1).toNat ∧ Below w.heap.size w wr)
    (fun i _ => (intOf i + 1).toNat)
  case atStart =>
    have hz := part_start A B (by omega) (by omega)
    exact ⟨63, by omega, by omega, rfl, pX.alloc _, pY.alloc _, Pair.zero_at _ _ _ hz (by simp), by show -9223372036854775808 ≤ part A B 64; omega, KB.alloc KB.size _⟩
  case round =>
    clear pX pY KB
    obtain ⟨n, hn1, hn2, rfl, pX, pY, pS, hp, KB⟩ := hrel
    by_cases hn : 0 ≤ n
    · obtain ⟨j, rfl⟩ := Int.eq_ofNat_of_zero_le hn
      have ej : ((j : Int) + 1).toNat = j + 1 := by omega
      rw [ej] at pS hp
      clear ej
      have hp0 := (part_low A B (j + 1) (by omega) (by omega)).2
      have hpl := (part_low A B j (by omega) (by omega)).1
      have hst := part_step A B j
      obtain ⟨d, hd⟩ : ∃ d, part A B (j + 1) + part A B (j + 1) = d := ⟨_, rfl⟩
      rw [hd] at hst
      obtain ⟨p, hpp⟩ : ∃ p, part A B j = p := ⟨_, rfl⟩
      obtain ⟨q, hq⟩ : ∃ q, part A B (j + 1) = q := ⟨_, rfl⟩
      rw [hpp] at hpl hst
      rw [hq] at pS hp hp0 hd
      have HP : Hid (part A B j = p) := hpp
      have HD : Hid (q + q = d) := hd
      have hd1 : d ≤ 0 := by omega
      have hd2 : -18446744073709551616 ≤ d := by omega
      have HQ : Hid (part A B (j + 1) = q) := hq
      clear hpp hq hd
      cases hb : bitB B j
      · have HE : Hid (d = p) := by rw [hb] at hst; simp at hst; show _ = _; omega
        have hb0 : Hid (bitB B j = false) := hb
        clear hst hb
        by_cases hh : hi p < -2
        · have _u := hh
          obtain rfl : d = p := HE.out
          obtain ⟨s0, s1, s2, s3, s4⟩ := id pS
          go_wp2_with fail
          refine (plus_to q q d HD.out (by omega) (by omega) _).mono ?_; rintro e w5 ⟨rfl, k5⟩
          clear s0 s1 s2 s3 s4
          replace pX := pX.below k5
          replace pY := pY.below k5
          replace pS := pS.below k5
          replace KB := bnext KB k5
          clear k5
          obtain ⟨y0, y1, y2, y3, y4⟩ := id pY
          obtain ⟨s0, s1, s2, s3, s4⟩ := id pS
          go_wp2_with fail
          clear y0 y1 y2 y3 y4 s0 s1 s2 s3 s4
          replace pX := pX.beside (c := w3.heap.size) (by omega) (.int .i64 (hi d)) (.int .i64 (lo d))
          replace pY := pY.beside (c := w3.heap.size) (by omega) (.int .i64 (hi d)) (.int .i64 (lo d))
          replace pS := pS.put d
          replace KB := below_two KB (c := w3.heap.size) (by omega) (.int .i64 (hi d)) (.int .i64 (lo d))
          refine (less_to (-B) B (by omega) (by omega) _).mono ?_; rintro e w6 ⟨rfl, k6⟩
          replace pX := pX.below k6
          replace pY := pY.below k6
          replace pS := pS.below k6
          replace KB := bnext KB k6
          clear k6
          go_wp2_with fail
          refine (bit_is B j false hb0.out (by omega) _).mono ?_; rintro e w7 ⟨rfl, k7⟩
          replace pX := pX.below k7
          replace pY := pY.below k7
          replace pS := pS.below k7
          replace KB := bnext KB k7
          clear k7
          obtain ⟨s0, s1, s2, s3, s4⟩ := id pS
          go_wp2_with fail
          clear s0 s1 s2 s3 s4
          have ho := hi_two' hh
          go_ret2
          exact ⟨ret_vl (by omega), KB⟩
        · have _u := hh
          obtain rfl : d = p := HE.out
          obtain ⟨s0, s1, s2, s3, s4⟩ := id pS
          go_wp2_with fail
          refine (plus_to q q d HD.out (by omega) (by omega) _).mono ?_; rintro e w5 ⟨rfl, k5⟩
          clear s0 s1 s2 s3 s4
          replace pX := pX.below k5
          replace pY := pY.below k5
          replace pS := pS.below k5
          replace KB := bnext KB k5
          clear k5
          obtain ⟨y0, y1, y2, y3, y4⟩ := id pY
          obtain ⟨s0, s1, s2, s3, s4⟩ := id pS
          go_wp2_with fail
          clear y0 y1 y2 y3 y4 s0 s1 s2 s3 s4
          replace pX := pX.beside (c := w3.heap.size) (by omega) (.int .i64 (hi d)) (.int .i64 (lo d))
          replace pY := pY.beside (c := w3.heap.size) (by omega) (.int .i64 (hi d)) (.int .i64 (lo d))
          replace pS := pS.put d
          replace KB := below_two KB (c := w3.heap.size) (by omega) (.int .i64 (hi d)) (.int .i64 (lo d))
          refine (less_to (-B) B (by omega) (by omega) _).mono ?_; rintro e w6 ⟨rfl, k6⟩
          replace pX := pX.below k6
          replace pY := pY.below k6
          replace pS := pS.below k6
          replace KB := bnext KB k6
          clear k6
          go_wp2_with fail
          refine (bit_is B j false hb0.out (by omega) _).mono ?_; rintro e w7 ⟨rfl, k7⟩
          replace pX := pX.below k7
          replace pY := pY.below k7
          replace pS := pS.below k7
          replace KB := bnext KB k7
          clear k7
          obtain ⟨s0, s1, s2, s3, s4⟩ := id pS
          go_wp2_with fail
          clear s0 s1 s2 s3 s4
          have ho := hi_two hh
          go_roundw
          case rel =>
            have ej : ((j : Int) - 1 + 1).toNat = j := by omega
            refine ⟨(j : Int) - 1, by omega, by omega, rfl, pX, pY, ?_, ?_, KB⟩
            · rw [ej, HP.out]; exact pS
            · rw [ej, HP.out]; exact ho
          case measure => simp [intOf]
      · have HE : Hid (d + -A = p) := by rw [hb] at hst; simp at hst; show _ = _; omega
        have hb0 : Hid (bitB B j = true) := hb
        clear hst hb
        by_cases hh : hi p < -2
        · have _u := hh
          obtain ⟨s0, s1, s2, s3, s4⟩ := id pS
          go_wp2_with fail
          refine (plus_to q q d HD.out (by omega) (by omega) _).mono ?_; rintro e w5 ⟨rfl, k5⟩
          clear s0 s1 s2 s3 s4
          replace pX := pX.below k5
          replace pY := pY.below k5
          replace pS := pS.below k5
          replace KB := bnext KB k5
          clear k5
          obtain ⟨y0, y1, y2, y3, y4⟩ := id pY
          obtain ⟨s0, s1, s2, s3, s4⟩ := id pS
          go_wp2_with fail
          clear y0 y1 y2 y3 y4 s0 s1 s2 s3 s4
          replace pX := pX.beside (c := w3.heap.size) (by omega) (.int .i64 (hi d)) (.int .i64 (lo d))
          replace pY := pY.beside (c := w3.heap.size) (by omega) (.int .i64 (hi d)) (.int .i64 (lo d))
          replace pS := pS.put d
          replace KB := below_two KB (c := w3.heap.size) (by omega) (.int .i64 (hi d)) (.int .i64 (lo d))
          refine (less_to (-B) B (by omega) (by omega) _).mono ?_; rintro e w6 ⟨rfl, k6⟩
          replace pX := pX.below k6
          replace pY := pY.below k6
          replace pS := pS.below k6
          replace KB := bnext KB k6
          clear k6
          go_wp2_with fail
          refine (bit_is B j true hb0.out (by omega) _).mono ?_; rintro e w7 ⟨rfl, k7⟩
          replace pX := pX.below k7
          replace pY := pY.below k7
          replace pS := pS.below k7
          replace KB := bnext KB k7
          clear k7
          obtain ⟨x0, x1, x2, x3, x4⟩ := id pX
          obtain ⟨s0, s1, s2, s3, s4⟩ := id pS
          go_wp2_with fail
          clear x0 x1 x2 x3 x4 s0 s1 s2 s3 s4
          refine (plus_to d (-A) p HE.out (by omega) (by omega) _).mono ?_; rintro e w8 ⟨rfl, k8⟩
          replace pX := pX.below k8
          replace pY := pY.below k8
          replace pS := pS.below k8
          replace KB := bnext KB k8
          clear k8
          obtain ⟨s0, s1, s2, s3, s4⟩ := id pS
          go_wp2_with fail
          clear s0 s1 s2 s3 s4
          replace pX := pX.beside (c := w3.heap.size) (by omega) (.int .i64 (hi p)) (.int .i64 (lo p))
          replace pY := pY.beside (c := w3.heap.size) (by omega) (.int .i64 (hi p)) (.int .i64 (lo p))
          replace pS := pS.put p
          replace KB := below_two KB (c := w3.heap.size) (by omega) (.int .i64 (hi p)) (.int .i64 (lo p))
          have ho := hi_two' hh
          go_ret2
          exact ⟨ret_vl (by omega), KB⟩
        · have _u := hh
          obtain ⟨s0, s1, s2, s3, s4⟩ := id pS
          go_wp2_with fail
          refine (plus_to q q d HD.out (by omega) (by omega) _).mono ?_; rintro e w5 ⟨rfl, k5⟩
          clear s0 s1 s2 s3 s4
          replace pX := pX.below k5
          replace pY := pY.below k5
          replace pS := pS.below k5
          replace KB := bnext KB k5
          clear k5
          obtain ⟨y0, y1, y2, y3, y4⟩ := id pY
          obtain ⟨s0, s1, s2, s3, s4⟩ := id pS
          go_wp2_with fail
          clear y0 y1 y2 y3 y4 s0 s1 s2 s3 s4
          replace pX := pX.beside (c := w3.heap.size) (by omega) (.int .i64 (hi d)) (.int .i64 (lo d))
          replace pY := pY.beside (c := w3.heap.size) (by omega) (.int .i64 (hi d)) (.int .i64 (lo d))
          replace pS := pS.put d
          replace KB := below_two KB (c := w3.heap.size) (by omega) (.int .i64 (hi d)) (.int .i64 (lo d))
          refine (less_to (-B) B (by omega) (by omega) _).mono ?_; rintro e w6 ⟨rfl, k6⟩
          replace pX := pX.below k6
          replace pY := pY.below k6
          replace pS := pS.below k6
          replace KB := bnext KB k6
          clear k6
          go_wp2_with fail
          refine (bit_is B j true hb0.out (by omega) _).mono ?_; rintro e w7 ⟨rfl, k7⟩
          replace pX := pX.below k7
          replace pY := pY.below k7
          replace pS := pS.below k7
          replace KB := bnext KB k7
          clear k7
          obtain ⟨x0, x1, x2, x3, x4⟩ := id pX
          obtain ⟨s0, s1, s2, s3, s4⟩ := id pS
          go_wp2_with fail
          clear x0 x1 x2 x3 x4 s0 s1 s2 s3 s4
          refine (plus_to d (-A) p HE.out (by omega) (by omega) _).mono ?_; rintro e w8 ⟨rfl, k8⟩
          replace pX := pX.below k8
          replace pY := pY.below k8
          replace pS := pS.below k8
          replace KB := bnext KB k8
          clear k8
          obtain ⟨s0, s1, s2, s3, s4⟩ := id pS
          go_wp2_with fail
          clear s0 s1 s2 s3 s4
          replace pX := pX.beside (c := w3.heap.size) (by omega) (.int .i64 (hi p)) (.int .i64 (lo p))
          replace pY := pY.beside (c := w3.heap.size) (by omega) (.int .i64 (hi p)) (.int .i64 (lo p))
          replace pS := pS.put p
          replace KB := below_two KB (c := w3.heap.size) (by omega) (.int .i64 (hi p)) (.int .i64 (lo p))
          have ho := hi_two hh
          go_roundw
          case rel =>
            have ej : ((j : Int) - 1 + 1).toNat = j := by omega
            refine ⟨(j : Int) - 1, by omega, by omega, rfl, pX, pY, ?_, ?_, KB⟩
            · rw [ej, HP.out]; exact pS
            · rw [ej, HP.out]; exact ho
          case measure => simp [intOf]
    · obtain rfl : n = -1 := by omega
      have e0 : ((-1 : Int) + 1).toNat = 0 := rfl
      rw [e0, part_end] at pS hp
      clear e0
      have dA : decide (A < 0) = false := by simp; omega
      have dB : decide (B < 0) = false := by simp; omega
      obtain ⟨s0, s1, s2, s3, s4⟩ := id pS
      go_wp2_with fail
      refine (number_any (-(A * B)) _).mono ?_; rintro e w6 ⟨rfl, k6⟩
      go_wp2_with fail
      go_ret2
      exact ⟨rfl, bnext KB k6⟩

set_option maxHeartbeats 4000000 in
theorem refMul_np (A B : Int) (pA : 0 < A) (lA : A ≤ 9223372036854775808) (pB : 0 < B) (lB : B ≤ 9223372036854775807) (w : World) :
    Calls Tryd.prog 66 #[.int .i64 (-A), .int .i64 B] w fun e w' => e = .returned (.tuple #[.int .i64 (vl (-(A * B))), .int .i64 (er (-(A * B)))]) ∧ Below w.heap.size w w' := by
  have t0 : (-A == 0) = false := by simp; omega
  have t1 : (B == 0) = false := by simp; omega
  go_enter Tryd.func66, Tryd.ntmps66
  go_wp2_with fail
  refine (of_any (-A) (by omega) _).mono ?_; rintro e w1 ⟨rfl, k1⟩
  go_wp2_with fail
  refine (of_any B (by omega) _).mono ?_; rintro e w2 ⟨rfl, k2⟩
  have K2 := bnext k1 k2
  have pX := (Pair.fresh w2 (-A)).alloc (.cells #[.int .i64 (hi B), .int .i64 (lo B)] 87)
  have pY := Pair.fresh_at (w2.alloc (.cells #[.int .i64 (hi (-A)), .int .i64 (lo (-A))] 87)) (w2.heap.size + 1) B (by simp)
  have KB : Below w.heap.size w ((w2.alloc (.cells #[.int .i64 (hi (-A)), .int .i64 (lo (-A))] 87)).alloc (.cells #[.int .i64 (hi B), .int .i64 (lo B)] 87)) := (K2.alloc K2.size _).alloc (Nat.le_trans K2.size (by simp)) _
  have hX : w.heap.size ≤ w2.heap.size := K2.size
  clear k1 k2 K2
  go_wp2_with fail
  refine (less_any B (hi_small _ (by omega)) _).mono ?_; rintro e w4 ⟨rfl, k4⟩
  replace pX := pX.below k4
  replace pY := pY.below k4
  replace KB := bnext KB k4
  clear k4
  obtain ⟨x0, x1, x2, x3, x4⟩ := id pX
  obtain ⟨y0, y1, y2, y3, y4⟩ := id pY
  go_wp2_with fail
  clear x0 x1 x2 x3 x4 y0 y1 y2 y3 y4
  replace pX := pX.beside (c := w2.heap.size + 1) (by omega) (.int .i64 (hi (-B))) (.int .i64 (lo (-B)))
  replace pY := pY.put (-B)
  replace KB := below_two KB (c := w2.heap.size + 1) (by omega) (.int .i64 (hi (-B))) (.int .i64 (lo (-B)))
  have hS : w2.heap.size + 1 < w4.heap.size := by first | omega | simpa using pY.lt
  go_loopw [9] (fun i wr => ∃ n : Int, -1 ≤ n ∧ n ≤ 63 ∧ i = .int .i64 n ∧ Pair wr w2.heap.size (-A) ∧ Pair wr (w2.heap.size + 1) (-B) ∧ Pair wr w4.heap.size (part A B (n + 1).toNat) ∧ -9223372036854775808 ≤ part A B (n + 1).toNat ∧ Below w.heap.size w wr)
    (fun i _ => (intOf i + 1).toNat)
  case atStart =>
    have hz := part_start A B (by omega) (by omega)
    exact ⟨63, by omega, by omega, rfl, pX.alloc _, pY.alloc _, Pair.zero_at _ _ _ hz (by simp), by show -9223372036854775808 ≤ part A B 64; omega, KB.alloc KB.size _⟩
  case round =>
    clear pX pY KB
    obtain ⟨n, hn1, hn2, rfl, pX, pY, pS, hp, KB⟩ := hrel
    by_cases hn : 0 ≤ n
    · obtain ⟨j, rfl⟩ := Int.eq_ofNat_of_zero_le hn
      have ej : ((j : Int) + 1).toNat = j + 1 := by omega
      rw [ej] at pS hp
      clear ej
      have hp0 := (part_low A B (j + 1) (by omega) (by omega)).2
      have hpl := (part_low A B j (by omega) (by omega)).1
      have hst := part_step A B j
      obtain ⟨d, hd⟩ : ∃ d, part A B (j + 1) + part A B (j + 1) = d := ⟨_, rfl⟩
      rw [hd] at hst
      obtain ⟨p, hpp⟩ : ∃ p, part A B j = p := ⟨_, rfl⟩
      obtain ⟨q, hq⟩ : ∃ q, part A B (j + 1) = q := ⟨_, rfl⟩
      rw [hpp] at hpl hst
      rw [hq] at pS hp hp0 hd
      have HP : Hid (part A B j = p) := hpp
      have HD : Hid (q + q = d) := hd
      have hd1 : d ≤ 0 := by omega
      have hd2 : -18446744073709551616 ≤ d := by omega
      have HQ : Hid (part A B (j + 1) = q) := hq
      clear hpp hq hd
      cases hb : bitB B j
      · have HE : Hid (d = p) := by rw [hb] at hst; simp at hst; show _ = _; omega
        have hb0 : Hid (bitB B j = false) := hb
        clear hst hb
        by_cases hh : hi p < -2
        · have _u := hh
          obtain rfl : d = p := HE.out
          obtain ⟨s0, s1, s2, s3, s4⟩ := id pS
          go_wp2_with fail
          refine (plus_to q q d HD.out (by omega) (by omega) _).mono ?_; rintro e w5 ⟨rfl, k5⟩
          clear s0 s1 s2 s3 s4
          replace pX := pX.below k5
          replace pY := pY.below k5
          replace pS := pS.below k5
          replace KB := bnext KB k5
          clear k5
          obtain ⟨y0, y1, y2, y3, y4⟩ := id pY
          obtain ⟨s0, s1, s2, s3, s4⟩ := id pS
          go_wp2_with fail
          clear y0 y1 y2 y3 y4 s0 s1 s2 s3 s4
          replace pX := pX.beside (c := w4.heap.size) (by omega) (.int .i64 (hi d)) (.int .i64 (lo d))
          replace pY := pY.beside (c := w4.heap.size) (by omega) (.int .i64 (hi d)) (.int .i64 (lo d))
          replace pS := pS.put d
          replace KB := below_two KB (c := w4.heap.size) (by omega) (.int .i64 (hi d)) (.int .i64 (lo d))
          refine (less_to (-B) B (by omega) (by omega) _).mono ?_; rintro e w6 ⟨rfl, k6⟩
          replace pX := pX.below k6
          replace pY := pY.below k6
          replace pS := pS.below k6
          replace KB := bnext KB k6
          clear k6
          go_wp2_with fail
          refine (bit_is B j false hb0.out (by omega) _).mono ?_; rintro e w7 ⟨rfl, k7⟩
          replace pX := pX.below k7
          replace pY := pY.below k7
          replace pS := pS.below k7
          replace KB := bnext KB k7
          clear k7
          obtain ⟨s0, s1, s2, s3, s4⟩ := id pS
          go_wp2_with fail
          clear s0 s1 s2 s3 s4
          have ho := hi_two' hh
          go_ret2
          exact ⟨ret_vl (by omega), KB⟩
        · have _u := hh
          obtain rfl : d = p := HE.out
          obtain ⟨s0, s1, s2, s3, s4⟩ := id pS
          go_wp2_with fail
          refine (plus_to q q d HD.out (by omega) (by omega) _).mono ?_; rintro e w5 ⟨rfl, k5⟩
          clear s0 s1 s2 s3 s4
          replace pX := pX.below k5
          replace pY := pY.below k5
          replace pS := pS.below k5
          replace KB := bnext KB k5
          clear k5
          obtain ⟨y0, y1, y2, y3, y4⟩ := id pY
          obtain ⟨s0, s1, s2, s3, s4⟩ := id pS
          go_wp2_with fail
          clear y0 y1 y2 y3 y4 s0 s1 s2 s3 s4
          replace pX := pX.beside (c := w4.heap.size) (by omega) (.int .i64 (hi d)) (.int .i64 (lo d))
          replace pY := pY.beside (c := w4.heap.size) (by omega) (.int .i64 (hi d)) (.int .i64 (lo d))
          replace pS := pS.put d
          replace KB := below_two KB (c := w4.heap.size) (by omega) (.int .i64 (hi d)) (.int .i64 (lo d))
          refine (less_to (-B) B (by omega) (by omega) _).mono ?_; rintro e w6 ⟨rfl, k6⟩
          replace pX := pX.below k6
          replace pY := pY.below k6
          replace pS := pS.below k6
          replace KB := bnext KB k6
          clear k6
          go_wp2_with fail
          refine (bit_is B j false hb0.out (by omega) _).mono ?_; rintro e w7 ⟨rfl, k7⟩
          replace pX := pX.below k7
          replace pY := pY.below k7
          replace pS := pS.below k7
          replace KB := bnext KB k7
          clear k7
          obtain ⟨s0, s1, s2, s3, s4⟩ := id pS
          go_wp2_with fail
          clear s0 s1 s2 s3 s4
          have ho := hi_two hh
          go_roundw
          case rel =>
            have ej : ((j : Int) - 1 + 1).toNat = j := by omega
            refine ⟨(j : Int) - 1, by omega, by omega, rfl, pX, pY, ?_, ?_, KB⟩
            · rw [ej, HP.out]; exact pS
            · rw [ej, HP.out]; exact ho
          case measure => simp [intOf]
      · have HE : Hid (d + -A = p) := by rw [hb] at hst; simp at hst; show _ = _; omega
        have hb0 : Hid (bitB B j = true) := hb
        clear hst hb
        by_cases hh : hi p < -2
        · have _u := hh
          obtain ⟨s0, s1, s2, s3, s4⟩ := id pS
          go_wp2_with fail
          refine (plus_to q q d HD.out (by omega) (by omega) _).mono ?_; rintro e w5 ⟨rfl, k5⟩
          clear s0 s1 s2 s3 s4
          replace pX := pX.below k5
          replace pY := pY.below k5
          replace pS := pS.below k5
          replace KB := bnext KB k5
          clear k5
          obtain ⟨y0, y1, y2, y3, y4⟩ := id pY
          obtain ⟨s0, s1, s2, s3, s4⟩ := id pS
          go_wp2_with fail
          clear y0 y1 y2 y3 y4 s0 s1 s2 s3 s4
          replace pX := pX.beside (c := w4.heap.size) (by omega) (.int .i64 (hi d)) (.int .i64 (lo d))
          replace pY := pY.beside (c := w4.heap.size) (by omega) (.int .i64 (hi d)) (.int .i64 (lo d))
          replace pS := pS.put d
          replace KB := below_two KB (c := w4.heap.size) (by omega) (.int .i64 (hi d)) (.int .i64 (lo d))
          refine (less_to (-B) B (by omega) (by omega) _).mono ?_; rintro e w6 ⟨rfl, k6⟩
          replace pX := pX.below k6
          replace pY := pY.below k6
          replace pS := pS.below k6
          replace KB := bnext KB k6
          clear k6
          go_wp2_with fail
          refine (bit_is B j true hb0.out (by omega) _).mono ?_; rintro e w7 ⟨rfl, k7⟩
          replace pX := pX.below k7
          replace pY := pY.below k7
          replace pS := pS.below k7
          replace KB := bnext KB k7
          clear k7
          obtain ⟨x0, x1, x2, x3, x4⟩ := id pX
          obtain ⟨s0, s1, s2, s3, s4⟩ := id pS
          go_wp2_with fail
          clear x0 x1 x2 x3 x4 s0 s1 s2 s3 s4
          refine (plus_to d (-A) p HE.out (by omega) (by omega) _).mono ?_; rintro e w8 ⟨rfl, k8⟩
          replace pX := pX.below k8
          replace pY := pY.below k8
          replace pS := pS.below k8
          replace KB := bnext KB k8
          clear k8
          obtain ⟨s0, s1, s2, s3, s4⟩ := id pS
          go_wp2_with fail
          clear s0 s1 s2 s3 s4
          replace pX := pX.beside (c := w4.heap.size) (by omega) (.int .i64 (hi p)) (.int .i64 (lo p))
          replace pY := pY.beside (c := w4.heap.size) (by omega) (.int .i64 (hi p)) (.int .i64 (lo p))
          replace pS := pS.put p
          replace KB := below_two KB (c := w4.heap.size) (by omega) (.int .i64 (hi p)) (.int .i64 (lo p))
          have ho := hi_two' hh
          go_ret2
          exact ⟨ret_vl (by omega), KB⟩
        · have _u := hh
          obtain ⟨s0, s1, s2, s3, s4⟩ := id pS
          go_wp2_with fail
          refine (plus_to q q d HD.out (by omega) (by omega) _).mono ?_; rintro e w5 ⟨rfl, k5⟩
          clear s0 s1 s2 s3 s4
          replace pX := pX.below k5
          replace pY := pY.below k5
          replace pS := pS.below k5
          replace KB := bnext KB k5
          clear k5
          obtain ⟨y0, y1, y2, y3, y4⟩ := id pY
          obtain ⟨s0, s1, s2, s3, s4⟩ := id pS
          go_wp2_with fail
          clear y0 y1 y2 y3 y4 s0 s1 s2 s3 s4
          replace pX := pX.beside (c := w4.heap.size) (by omega) (.int .i64 (hi d)) (.int .i64 (lo d))
          replace pY := pY.beside (c := w4.heap.size) (by omega) (.int .i64 (hi d)) (.int .i64 (lo d))
          replace pS := pS.put d
          replace KB := below_two KB (c := w4.heap.size) (by omega) (.int .i64 (hi d)) (.int .i64 (lo d))
          refine (less_to (-B) B (by omega) (by omega) _).mono ?_; rintro e w6 ⟨rfl, k6⟩
          replace pX := pX.below k6
          replace pY := pY.below k6
          replace pS := pS.below k6
          replace KB := bnext KB k6
          clear k6
          go_wp2_with fail
          refine (bit_is B j true hb0.out (by omega) _).mono ?_; rintro e w7 ⟨rfl, k7⟩
          replace pX := pX.below k7
          replace pY := pY.below k7
          replace pS := pS.below k7
          replace KB := bnext KB k7
          clear k7
          obtain ⟨x0, x1, x2, x3, x4⟩ := id pX
          obtain ⟨s0, s1, s2, s3, s4⟩ := id pS
          go_wp2_with fail
          clear x0 x1 x2 x3 x4 s0 s1 s2 s3 s4
          refine (plus_to d (-A) p HE.out (by omega) (by omega) _).mono ?_; rintro e w8 ⟨rfl, k8⟩
          replace pX := pX.below k8
          replace pY := pY.below k8
          replace pS := pS.below k8
          replace KB := bnext KB k8
          clear k8
          obtain ⟨s0, s1, s2, s3, s4⟩ := id pS
          go_wp2_with fail
          clear s0 s1 s2 s3 s4
          replace pX := pX.beside (c := w4.heap.size) (by omega) (.int .i64 (hi p)) (.int .i64 (lo p))
          replace pY := pY.beside (c := w4.heap.size) (by omega) (.int .i64 (hi p)) (.int .i64 (lo p))
          replace pS := pS.put p
          replace KB := below_two KB (c := w4.heap.size) (by omega) (.int .i64 (hi p)) (.int .i64 (lo p))
          have ho := hi_two hh
          go_roundw
          case rel =>
            have ej : ((j : Int) - 1 + 1).toNat = j := by omega
            refine ⟨(j : Int) - 1, by omega, by omega, rfl, pX, pY, ?_, ?_, KB⟩
            · rw [ej, HP.out]; exact pS
            · rw [ej, HP.out]; exact ho
          case measure => simp [intOf]
    · obtain rfl : n = -1 := by omega
      have e0 : ((-1 : Int) + 1).toNat = 0 := rfl
      rw [e0, part_end] at pS hp
      clear e0
      have dA : decide (A < 0) = false := by simp; omega
      have dB : decide (B < 0) = false := by simp; omega
      obtain ⟨s0, s1, s2, s3, s4⟩ := id pS
      go_wp2_with fail
      refine (number_any (-(A * B)) _).mono ?_; rintro e w6 ⟨rfl, k6⟩
      go_wp2_with fail
      go_ret2
      exact ⟨rfl, bnext KB k6⟩

set_option maxHeartbeats 4000000 in
theorem refMul_nn (A B : Int) (pA : 0 < A) (lA : A ≤ 9223372036854775808) (pB : 0 < B) (lB : B ≤ 9223372036854775808) (w : World) :
    Calls Tryd.prog 66 #[.int .i64 (-A), .int .i64 (-B)] w fun e w' => e = .returned (.tuple #[.int .i64 (vl (A * B)), .int .i64 (er (A * B))]) ∧ Below w.heap.size w w' := by
  have t0 : (-A == 0) = false := by simp; omega
  have t1 : (-B == 0) = false := by simp; omega
  go_enter Tryd.func66, Tryd.ntmps66
  go_wp2_with fail
  refine (of_any (-A) (by omega) _).mono ?_; rintro e w1 ⟨rfl, k1⟩
  go_wp2_with fail
  refine (of_any (-B) (by omega) _).mono ?_; rintro e w2 ⟨rfl, k2⟩
  have K2 := bnext k1 k2
  have pX := (Pair.fresh w2 (-A)).alloc (.cells #[.int .i64 (hi (-B)), .int .i64 (lo (-B))] 87)
  have pY := Pair.fresh_at (w2.alloc (.cells #[.int .i64 (hi (-A)), .int .i64 (lo (-A))] 87)) (w2.heap.size + 1) (-B) (by simp)
  have KB : Below w.heap.size w ((w2.alloc (.cells #[.int .i64 (hi (-A)), .int .i64 (lo (-A))] 87)).alloc (.cells #[.int .i64 (hi (-B)), .int .i64 (lo (-B))] 87)) := (K2.alloc K2.size _).alloc (Nat.le_trans K2.size (by simp)) _
  have hX : w.heap.size ≤ w2.heap.size := K2.size
  clear k1 k2 K2
  go_wp2_with fail
  have hS : w2.heap.size + 1 < (w2.heap.size + 1 + 1) := by first | omega | simpa using pY.lt
  go_loopw [9] (fun i wr => ∃ n : Int, -1 ≤ n ∧ n ≤ 63 ∧ i = .int .i64 n ∧ Pair wr w2.heap.size (-A) ∧ Pair wr (w2.heap.size + 1) (-B) ∧ Pair wr (w2.heap.size + 1 + 1) (part A B (n + 1).toNat) ∧ -9223372036854775808 ≤ part A B (n + 1).toNat ∧ Below w.heap.size w wr)
    (fun i _ => (intOf i + 1).toNat)
  case atStart =>
    have hz := part_start A B (by omega) (by omega)
    exact ⟨63, by omega, by omega, rfl, pX.alloc _, pY.alloc _, Pair.zero_at _ _ _ hz (by simp), by show -9223372036854775808 ≤ part A B 64; omega, KB.alloc KB.size _⟩
  case round =>
    clear pX pY KB
    obtain ⟨n, hn1, hn2, rfl, pX, pY, pS, hp, KB⟩ := hrel
    by_cases hn : 0 ≤ n
    · obtain ⟨j, rfl⟩ := Int.eq_ofNat_of_zero_le hn
      have ej : ((j : Int) + 1).toNat = j + 1 := by omega
      rw [ej] at pS hp
      clear ej
      have hp0 := (part_low A B (j + 1) (by omega) (by omega)).2
      have hpl := (part_low A B j (by omega) (by omega)).1
      have hst := part_step A B j
      obtain ⟨d, hd⟩ : ∃ d, part A B (j + 1) + part A B (j + 1) = d := ⟨_, rfl⟩
      rw [hd] at hst
      obtain ⟨p, hpp⟩ : ∃ p, part A B j = p := ⟨_, rfl⟩
      obtain ⟨q, hq⟩ : ∃ q, part A B (j + 1) = q := ⟨_, rfl⟩
      rw [hpp] at hpl hst
      rw [hq] at pS hp hp0 hd
      have HP : Hid (part A B j = p) := hpp
      have HD : Hid (q + q = d) := hd
      have hd1 : d ≤ 0 := by omega
      have hd2 : -18446744073709551616 ≤ d := by omega
      have HQ : Hid (part A B (j + 1) = q) := hq
      clear hpp hq hd
      cases hb : bitB B j
      · have HE : Hid (d = p) := by rw [hb] at hst; simp at hst; show _ = _; omega
        have hb0 : Hid (bitB B j = false) := hb
        clear hst hb
        by_cases hh : hi p < -2
        · have _u := hh
          obtain rfl : d = p := HE.out
          obtain ⟨s0, s1, s2, s3, s4⟩ := id pS
          go_wp2_with fail
          refine (plus_to q q d HD.out (by omega) (by omega) _).mono ?_; rintro e w5 ⟨rfl, k5⟩
          clear s0 s1 s2 s3 s4
          replace pX := pX.below k5
          replace pY := pY.below k5
          replace pS := pS.below k5
          replace KB := bnext KB k5
          clear k5
          obtain ⟨y0, y1, y2, y3, y4⟩ := id pY
          obtain ⟨s0, s1, s2, s3, s4⟩ := id pS
          go_wp2_with fail
          clear y0 y1 y2 y3 y4 s0 s1 s2 s3 s4
          replace pX := pX.beside (c := (w2.heap.size + 1 + 1)) (by omega) (.int .i64 (hi d)) (.int .i64 (lo d))
          replace pY := pY.beside (c := (w2.heap.size + 1 + 1)) (by omega) (.int .i64 (hi d)) (.int .i64 (lo d))
          replace pS := pS.put d
          replace KB := below_two KB (c := (w2.heap.size + 1 + 1)) (by omega) (.int .i64 (hi d)) (.int .i64 (lo d))
          refine (less_to (-B) B (by omega) (by omega) _).mono ?_; rintro e w6 ⟨rfl, k6⟩
          replace pX := pX.below k6
          replace pY := pY.below k6
          replace pS := pS.below k6
          replace KB := bnext KB k6
          clear k6
          go_wp2_with fail
          refine (bit_is B j false hb0.out (by omega) _).mono ?_; rintro e w7 ⟨rfl, k7⟩
          replace pX := pX.below k7
          replace pY := pY.below k7
          replace pS := pS.below k7
          replace KB := bnext KB k7
          clear k7
          obtain ⟨s0, s1, s2, s3, s4⟩ := id pS
          go_wp2_with fail
          clear s0 s1 s2 s3 s4
          have ho := hi_two' hh
          go_ret2
          exact ⟨ret_vl (by omega), KB⟩
        · have _u := hh
          obtain rfl : d = p := HE.out
          obtain ⟨s0, s1, s2, s3, s4⟩ := id pS
          go_wp2_with fail
          refine (plus_to q q d HD.out (by omega) (by omega) _).mono ?_; rintro e w5 ⟨rfl, k5⟩
          clear s0 s1 s2 s3 s4
          replace pX := pX.below k5
          replace pY := pY.below k5
          replace pS := pS.below k5
          replace KB := bnext KB k5
          clear k5
          obtain ⟨y0, y1, y2, y3, y4⟩ := id pY
          obtain ⟨s0, s1, s2, s3, s4⟩ := id pS
          go_wp2_with fail
          clear y0 y1 y2 y3 y4 s0 s1 s2 s3 s4
          replace pX := pX.beside (c := (w2.heap.size + 1 + 1)) (by omega) (.int .i64 (hi d)) (.int .i64 (lo d))
          replace pY := pY.beside (c := (w2.heap.size + 1 + 1)) (by omega) (.int .i64 (hi d)) (.int .i64 (lo d))
          replace pS := pS.put d
          replace KB := below_two KB (c := (w2.heap.size + 1 + 1)) (by omega) (.int .i64 (hi d)) (.int .i64 (lo d))
          refine (less_to (-B) B (by omega) (by omega) _).mono ?_; rintro e w6 ⟨rfl, k6⟩
          replace pX := pX.below k6
          replace pY := pY.below k6
          replace pS := pS.below k6
          replace KB := bnext KB k6
          clear k6
          go_wp2_with fail
          refine (bit_is B j false hb0.out (by omega) _).mono ?_; rintro e w7 ⟨rfl, k7⟩
          replace pX := pX.below k7
          replace pY := pY.below k7
          replace pS := pS.below k7
          replace KB := bnext KB k7
          clear k7
          obtain ⟨s0, s1, s2, s3, s4⟩ := id pS
          go_wp2_with fail
          clear s0 s1 s2 s3 s4
          have ho := hi_two hh
          go_roundw
          case rel =>
            have ej : ((j : Int) - 1 + 1).toNat = j := by omega
            refine ⟨(j : Int) - 1, by omega, by omega, rfl, pX, pY, ?_, ?_, KB⟩
            · rw [ej, HP.out]; exact pS
            · rw [ej, HP.out]; exact ho
          case measure => simp [intOf]
      · have HE : Hid (d + -A = p) := by rw [hb] at hst; simp at hst; show _ = _; omega
        have hb0 : Hid (bitB B j = true) := hb
        clear hst hb
        by_cases hh : hi p < -2
        · have _u := hh
          obtain ⟨s0, s1, s2, s3, s4⟩ := id pS
          go_wp2_with fail
          refine (plus_to q q d HD.out (by omega) (by omega) _).mono ?_; rintro e w5 ⟨rfl, k5⟩
          clear s0 s1 s2 s3 s4
          replace pX := pX.below k5
          replace pY := pY.below k5
          replace pS := pS.below k5
          replace KB := bnext KB k5
          clear k5
          obtain ⟨y0, y1, y2, y3, y4⟩ := id pY
          obtain ⟨s0, s1, s2, s3, s4⟩ := id pS
          go_wp2_with fail
          clear y0 y1 y2 y3 y4 s0 s1 s2 s3 s4
          replace pX := pX.beside (c := (w2.heap.size + 1 + 1)) (by omega) (.int .i64 (hi d)) (.int .i64 (lo d))
          replace pY := pY.beside (c := (w2.heap.size + 1 + 1)) (by omega) (.int .i64 (hi d)) (.int .i64 (lo d))
          replace pS := pS.put d
          replace KB := below_two KB (c := (w2.heap.size + 1 + 1)) (by omega) (.int .i64 (hi d)) (.int .i64 (lo d))
          refine (less_to (-B) B (by omega) (by omega) _).mono ?_; rintro e w6 ⟨rfl, k6⟩
          replace pX := pX.below k6
          replace pY := pY.below k6
          replace pS := pS.below k6
          replace KB := bnext KB k6
          clear k6
          go_wp2_with fail
          refine (bit_is B j true hb0.out (by omega) _).mono ?_; rintro e w7 ⟨rfl, k7⟩
          replace pX := pX.below k7
          replace pY := pY.below k7
          replace pS := pS.below k7
          replace KB := bnext KB k7
          clear k7
          obtain ⟨x0, x1, x2, x3, x4⟩ := id pX
          obtain ⟨s0, s1, s2, s3, s4⟩ := id pS
          go_wp2_with fail
          clear x0 x1 x2 x3 x4 s0 s1 s2 s3 s4
          refine (plus_to d (-A) p HE.out (by omega) (by omega) _).mono ?_; rintro e w8 ⟨rfl, k8⟩
          replace pX := pX.below k8
          replace pY := pY.below k8
          replace pS := pS.below k8
          replace KB := bnext KB k8
          clear k8
          obtain ⟨s0, s1, s2, s3, s4⟩ := id pS
          go_wp2_with fail
          clear s0 s1 s2 s3 s4
          replace pX := pX.beside (c := (w2.heap.size + 1 + 1)) (by omega) (.int .i64 (hi p)) (.int .i64 (lo p))
          replace pY := pY.beside (c := (w2.heap.size + 1 + 1)) (by omega) (.int .i64 (hi p)) (.int .i64 (lo p))
          replace pS := pS.put p
          replace KB := below_two KB (c := (w2.heap.size + 1 + 1)) (by omega) (.int .i64 (hi p)) (.int .i64 (lo p))
          have ho := hi_two' hh
          go_ret2
          exact ⟨ret_vl (by omega), KB⟩
        · have _u := hh
          obtain ⟨s0, s1, s2, s3, s4⟩ := id pS
          go_wp2_with fail
          refine (plus_to q q d HD.out (by omega) (by omega) _).mono ?_; rintro e w5 ⟨rfl, k5⟩
          clear s0 s1 s2 s3 s4
          replace pX := pX.below k5
          replace pY := pY.below k5
          replace pS := pS.below k5
          replace KB := bnext KB k5
          clear k5
          obtain ⟨y0, y1, y2, y3, y4⟩ := id pY
          obtain ⟨s0, s1, s2, s3, s4⟩ := id pS
          go_wp2_with fail
          clear y0 y1 y2 y3 y4 s0 s1 s2 s3 s4
          replace pX := pX.beside (c := (w2.heap.size + 1 + 1)) (by omega) (.int .i64 (hi d)) (.int .i64 (lo d))
          replace pY := pY.beside (c := (w2.heap.size + 1 + 1)) (by omega) (.int .i64 (hi d)) (.int .i64 (lo d))
          replace pS := pS.put d
          replace KB := below_two KB (c := (w2.heap.size + 1 + 1)) (by omega) (.int .i64 (hi d)) (.int .i64 (lo d))
          refine (less_to (-B) B (by omega) (by omega) _).mono ?_; rintro e w6 ⟨rfl, k6⟩
          replace pX := pX.below k6
          replace pY := pY.below k6
          replace pS := pS.below k6
          replace KB := bnext KB k6
          clear k6
          go_wp2_with fail
          refine (bit_is B j true hb0.out (by omega) _).mono ?_; rintro e w7 ⟨rfl, k7⟩
          replace pX := pX.below k7
          replace pY := pY.below k7
          replace pS := pS.below k7
          replace KB := bnext KB k7
          clear k7
          obtain ⟨x0, x1, x2, x3, x4⟩ := id pX
          obtain ⟨s0, s1, s2, s3, s4⟩ := id pS
          go_wp2_with fail
          clear x0 x1 x2 x3 x4 s0 s1 s2 s3 s4
          refine (plus_to d (-A) p HE.out (by omega) (by omega) _).mono ?_; rintro e w8 ⟨rfl, k8⟩
          replace pX := pX.below k8
          replace pY := pY.below k8
          replace pS := pS.below k8
          replace KB := bnext KB k8
          clear k8
          obtain ⟨s0, s1, s2, s3, s4⟩ := id pS
          go_wp2_with fail
          clear s0 s1 s2 s3 s4
          replace pX := pX.beside (c := (w2.heap.size + 1 + 1)) (by omega) (.int .i64 (hi p)) (.int .i64 (lo p))
          replace pY := pY.beside (c := (w2.heap.size + 1 + 1)) (by omega) (.int .i64 (hi p)) (.int .i64 (lo p))
          replace pS := pS.put p
          replace KB := below_two KB (c := (w2.heap.size + 1 + 1)) (by omega) (.int .i64 (hi p)) (.int .i64 (lo p))
          have ho := hi_two hh
          go_roundw
          case rel =>
            have ej : ((j : Int) - 1 + 1).toNat = j := by omega
            refine ⟨(j : Int) - 1, by omega, by omega, rfl, pX, pY, ?_, ?_, KB⟩
            · rw [ej, HP.out]; exact pS
            · rw [ej, HP.out]; exact ho
          case measure => simp [intOf]
    · obtain rfl : n = -1 := by omega
      have e0 : ((-1 : Int) + 1).toNat = 0 := rfl
      rw [e0, part_end] at pS hp
      clear e0
      have dA : decide (A < 0) = false := by simp; omega
      have dB : decide (B < 0) = false := by simp; omega
      obtain ⟨s0, s1, s2, s3, s4⟩ := id pS
      go_wp2_with fail
      refine (less_to (-(A * B)) (A * B) (by omega) (by have := (part_low A B 0 (by omega) (by omega)); rw [part_end] at this; omega) _).mono ?_; rintro e w5 ⟨rfl, k5⟩
      clear s0 s1 s2 s3 s4
      replace pS := pS.below k5
      replace KB := bnext KB k5
      clear k5
      obtain ⟨s0, s1, s2, s3, s4⟩ := id pS
      go_wp2_with fail
      clear s0 s1 s2 s3 s4
      replace pS := pS.put (A * B)
      replace KB := below_two KB (c := (w2.heap.size + 1 + 1)) (by omega) (.int .i64 (hi (A * B))) (.int .i64 (lo (A * B)))
      refine (number_any (A * B) _).mono ?_; rintro e w6 ⟨rfl, k6⟩
      go_wp2_with fail
      go_ret2
      exact ⟨rfl, bnext KB k6⟩

theorem refMul_zero (a b : Int) (h : a = 0 ∨ b = 0) (w : World) :
    Calls Tryd.prog 66 #[.int .i64 a, .int .i64 b] w fun e w' => e = .returned (.tuple #[.int .i64 0, .int .i64 0]) ∧ Below w.heap.size w w' := by
  by_cases c : a = 0
  · subst c
    go_enter Tryd.func66, Tryd.ntmps66
    go_wp2
    go_ret2
    exact ⟨rfl, Below.refl _ _⟩
  · obtain rfl : b = 0 := by omega
    have t : (a == 0) = false := by simpa using c
    go_enter Tryd.func66, Tryd.ntmps66
    go_wp2
    go_ret2
    exact ⟨rfl, Below.refl _ _⟩

theorem refMul_any (a b : Int) (ha : -9223372036854775808 ≤ a ∧ a ≤ 9223372036854775807) (hb : -9223372036854775808 ≤ b ∧ b ≤ 9223372036854775807) (w : World) :
    Calls Tryd.prog 66 #[.int .i64 a, .int .i64 b] w fun e w' => e = .returned (.tuple #[.int .i64 (vl (a * b)), .int .i64 (er (a * b))]) ∧ Below w.heap.size w w' := by
  by_cases z : a = 0 ∨ b = 0
  · have e : a * b = 0 := by rcases z with rfl | rfl <;> simp
    rw [e]
    exact refMul_zero a b z w
  by_cases pa : 0 < a
  · by_cases pb : 0 < b
    · exact refMul_pp a b pa (by omega) pb (by omega) w
    · have h := refMul_pn a (-b) pa (by omega) (by omega) (by omega) w
      rwa [Int.neg_neg, Int.mul_neg, Int.neg_neg] at h
  · by_cases pb : 0 < b
    · have h := refMul_np (-a) b (by omega) (by omega) pb (by omega) w
      rwa [Int.neg_neg, Int.neg_mul, Int.neg_neg] at h
    · have h := refMul_nn (-a) (-b) (by omega) (by omega) (by omega) (by omega) w
      rwa [Int.neg_neg, Int.neg_neg, Int.neg_mul_neg] at h
end Go.Proofs.YtgokilochbnbaaaDoor.Num
