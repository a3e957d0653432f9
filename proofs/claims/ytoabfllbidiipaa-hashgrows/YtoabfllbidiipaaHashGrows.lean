/- HashGrows is true of every two numbers, without conditions: many numbers, each by a value of its own, are all found, and taken out again. -/
import Derived.Test.YtoabfllbidiipaaRows
import Derived.WalkKit
import Derived.Test.YtoabfllbidiipaaGrP
import Derived.Test.YtoabfllbidiipaaAwk
import Derived.Below
import Derived.ChangeOld
import Derived.Laws.BitsAll
import Derived.ProofKit
import Derived.OpenShut
import Derived.ShutString
namespace Go.Proofs.Ytoabfllbidiipaa.hashGrows
open Go.ChangeShapes Go.WideShapes Go.ChangeAt Go.RowKit
open Go.ChangeMaps (open_string shut_string)
set_option linter.unusedVariables false

theorem own : ownKnob Try.prog.godebug = none := by kernel_rfl

theorem and_16 (n : Int) : bits .and .i64 n 65535 = n % 65536 := by
  have h : (BitVec.ofInt 64 65535).toNat = 2 ^ 16 - 1 := by decide
  have key : (BitVec.ofInt 64 n &&& BitVec.ofInt 64 65535).toNat = (n % ((2 ^ 64 : Nat) : Int)).toNat % 2 ^ 16 := by
    rw [BitVec.toNat_and, BitVec.toNat_ofInt, h, Nat.and_two_pow_sub_one_eq_mod]
  show IntKind.i64.wrap ((BitVec.ofInt 64 n &&& BitVec.ofInt 64 65535).toNat : Nat) = n % 65536
  rw [key, IntKind.wrap_i64]
  omega
theorem and_511 (n : Int) : bits .and .i64 n 511 = n % 512 := by
  have h : (BitVec.ofInt 64 511).toNat = 2 ^ 9 - 1 := by decide
  have key : (BitVec.ofInt 64 n &&& BitVec.ofInt 64 511).toNat = (n % ((2 ^ 64 : Nat) : Int)).toNat % 2 ^ 9 := by
    rw [BitVec.toNat_and, BitVec.toNat_ofInt, h, Nat.and_two_pow_sub_one_eq_mod]
  show IntKind.i64.wrap ((BitVec.ofInt 64 n &&& BitVec.ofInt 64 511).toNat : Nat) = n % 512
  rw [key, IntKind.wrap_i64]
  omega

set_option maxHeartbeats 8000000 in
theorem grows_is {m0 : Int} (n : Nat) (f : Nat) (hn : n < 300) (hf : f ≤ 65535) (a0 a1 : Int) (h0 : bits .and .i64 a0 511 = (m0 : Int)) (hm : m0.tmod 300 = (n : Int)) (h1 : bits .and .i64 a1 65535 = (f : Int)) (w : World) :
    Calls Try.prog 5 #[.int .i64 a0, .int .i64 a1] w fun e w' => e = .returned (.bool true) ∧ Below w.heap.size w w' := by
  have HA : Hid (∀ w, Calls Try.prog 7 #[] w fun e w' => e = .returned (.bool true) ∧ Below w.heap.size w w') := awake_is
  have HW : Hid (∀ (p : Option Addr) (i nb : Nat), i < 300 → nb ≤ 18 → i ≤ 32 * nb → ∀ w, Ix w p (rowF f 0 i) nb (i + 1) → Calls Try.prog 15 #[.agg #[.pointer p, .int .i64 i], .agg #[.int .i64 1, .int .i64 ((f : Int) + i), .string ⟨#[]⟩], .int .i64 i] w fun e w' => ∃ p' nb', e = .returned (.agg #[.pointer p', .int .i64 ((i : Int) + 1)]) ∧ Ix w' p' (rowF f 0 (i + 1)) nb' (i + 2) ∧ Below w.heap.size w w' ∧ nb' ≤ 18 ∧ i + 1 ≤ 32 * nb') := fun p i nb h1 h2 h3 w h => grow_with p f i nb h1 h2 h3 w h
  have HO : Hid (∀ (p : Option Addr) (i nb : Nat), i < n → nb ≤ 18 → ∀ w, Ix w p (rowF f i n) nb (n + 1 + i) → Calls Try.prog 16 #[.agg #[.pointer p, .int .i64 ((n : Int) - i)], .agg #[.int .i64 1, .int .i64 ((f : Int) + i), .string ⟨#[]⟩], .int .i64 i] w fun e w' => ∃ p', e = .returned (.agg #[.pointer p', .int .i64 ((n : Int) - (i + 1))]) ∧ Ix w' p' (rowF f (i + 1) n) nb (n + 1 + (i + 1)) ∧ Below w.heap.size w w') := fun p i nb h1 h2 w h => grow_wo p f i n nb h1 (by omega) h2 w h
  have HX0 : Hid (Blk (w.alloc (.cells #[.pointer none, .int .i64 0] 27)) w.heap.size 27 [.pointer none, .int .i64 0] ∧ Below w.heap.size w (w.alloc (.cells #[.pointer none, .int .i64 0] 27))) := ⟨Blk.new w 27 [.pointer none, .int .i64 0], below1 _ _⟩
  have HI0 : Hid (∀ w, Ix w none (rowF f 0 0) 0 1) := fun w => by rw [row_zero]; exact Ix.zero w 1
  go_enter Try.func5, Try.ntmps5
  go_wp2_with fail
  go_loopw [7] (fun vi wr => ∃ (i nb : Nat) (p : Option Addr), i ≤ n ∧ nb ≤ 18 ∧ i ≤ 32 * nb ∧ vi = .int .i64 i ∧ Hid (Blk wr w.heap.size 27 [.pointer p, .int .i64 i] ∧ Below w.heap.size w wr ∧ Ix wr p (rowF f 0 i) nb (i + 1)))
    (fun vi _ => n - (intOf vi).toNat)
  case atStart => exact ⟨0, 0, none, Nat.zero_le _, Nat.zero_le _, Nat.zero_le _, rfl, HX0.out.1, HX0.out.2, HI0.out _⟩
  case round =>
    clear HX0 HI0
    obtain ⟨i, nb, p, hi, hnb, hle, rfl, HI⟩ := hrel
    by_cases hlt : i < n
    · have hlti : (i : Int) < (n : Int) := by omega
      have x0 := HI.out.1.cell (i := 0) rfl
      have x1 := HI.out.1.cell (i := 1) rfl
      have xf := HI.out.1.fz
      have HC : Hid _ := HW.out p i nb (by omega) hnb hle wr HI.out.2.2
      clear HW
      go_wp2_with fail
      refine Calls.mono HC.out ?_; rintro e w2 ⟨p2, nb2, rfl, hI2, k2, hnb2, hle2⟩
      have HB2 : Hid (Blk w2 w.heap.size 27 [.pointer p, .int .i64 i]) := HI.out.1.next k2
      have y0 := HB2.out.cell (i := 0) rfl
      have y1 := HB2.out.cell (i := 1) rfl
      have yf := HB2.out.fz
      have HR : Hid (Blk ((w2.setCell ⟨w.heap.size, 0, none⟩ (.pointer p2)).setCell ⟨w.heap.size, 1, none⟩ (.int .i64 ((i : Int) + 1))) w.heap.size 27 [.pointer p2, .int .i64 ((i + 1 : Nat) : Int)] ∧ Below w.heap.size w ((w2.setCell ⟨w.heap.size, 0, none⟩ (.pointer p2)).setCell ⟨w.heap.size, 1, none⟩ (.int .i64 ((i : Int) + 1))) ∧ Ix ((w2.setCell ⟨w.heap.size, 0, none⟩ (.pointer p2)).setCell ⟨w.heap.size, 1, none⟩ (.int .i64 ((i : Int) + 1))) p2 (rowF f 0 (i + 1)) nb2 (i + 1 + 1)) :=
        ⟨(HB2.out.set 0 _).set 1 _, below_set (below_set (HI.out.2.1.trans (k2.mono HI.out.2.1.size)) _ _ _ (Nat.le_refl _)) _ _ _ (Nat.le_refl _), hI2.quiet HB2.out (fun k hk => (heap_set _ _ _ hk).trans (heap_set _ _ _ hk))⟩
      clear hI2 k2 HC HI x0 x1 xf
      go_wp2_with fail
      go_roundw
      case rel => exact ⟨i + 1, nb2, p2, by omega, hnb2, hle2, by go_num, HR.out⟩
      case measure => simp [intOf]; omega
    · have hlti : ¬ (i : Int) < (n : Int) := by omega
      obtain rfl : n = i := by omega
      have HFI : Hid (∀ w' (j : Nat), j < n → Ix w' p (rowF f 0 n) nb (n + 1) → Calls Try.prog 13 #[.agg #[.pointer p, .int .i64 n], .agg #[.int .i64 1, .int .i64 ((f : Int) + j), .string ⟨#[]⟩]] w' fun e w'' => ∃ a c, e = .returned (.slice a 1 c) ∧ Sl iv 1 w'' (.slice a 1 c) [(j : Int)] ∧ Below w'.heap.size w' w'') := fun w' j hj h => by
        refine (find_is p n (rowF f 0 n) nb (n + 1) (by omega) (by omega) (vI ((f : Int) + j)) (vI_fit _) w' h).mono fun e w'' ⟨v, q1, q2, q3⟩ => ?_
        rw [rowF_in f 0 n j (Nat.zero_le _) hj] at q2
        obtain ⟨a, c, rfl⟩ := slices_shape q2
        exact ⟨a, c, q1, q2, q3⟩
      have HSM : Hid (∀ w' u v (j : Int), Sl iv 1 w' u [j] → Sl iv 1 w' v [j] → Calls Try.prog 12 #[u, v] w' fun e w'' => e = .returned (.bool true) ∧ Below w'.heap.size w' w'') := fun w' u v j h1 h2 => by
        have := same_is u v [j] [j] (by simp) (by simp) w' h1 h2
        rw [decide_eq_true rfl] at this
        exact this
      have HBU : Hid (∀ w' p c F' M', Ix w' p F' nb M' → Calls Try.prog 11 #[.agg #[.pointer p, .int .i64 c]] w' fun e w'' => e = .returned (.int .i64 (8 * nb : Nat)) ∧ Below w'.heap.size w' w'') := fun w' p c F' M' h => buckets_is p c F' nb M' (by omega) w' h
      have HLE : Hid (∀ p c w', Calls Try.prog 10 #[.agg #[.pointer p, .int .i64 c]] w' fun e w'' => e = .returned (.int .i64 c) ∧ Below w'.heap.size w' w'') := fun p c w' => len_is p c w'
      clear HW hlt
      go_wp2_with fail
      go_loopw [8] (fun vi wr => ∃ (j : Nat), j ≤ n ∧ vi = .int .i64 j ∧ Hid (Blk wr w.heap.size 27 [.pointer p, .int .i64 n] ∧ Below w.heap.size w wr ∧ Ix wr p (rowF f 0 n) nb (n + 1)))
        (fun vi _ => n - (intOf vi).toNat)
      case atStart => exact ⟨0, Nat.zero_le _, rfl, HI.out⟩
      case round =>
        clear HI
        obtain ⟨j, hj, rfl, HI⟩ := hrel
        by_cases hlt2 : j < n
        · have hlti2 : (j : Int) < (n : Int) := by omega
          have x0 := HI.out.1.cell (i := 0) rfl
          have x1 := HI.out.1.cell (i := 1) rfl
          have HC : Hid _ := HFI.out wr j hlt2 HI.out.2.2
          clear HO
          go_wp2_with fail
          refine Calls.mono HC.out ?_; rintro e w2 ⟨a, c, rfl, hs2, k2⟩
          have HC2 : Hid _ := HSM.out (w2.alloc (.cells #[.int .i64 (j : Int)] 3)) (.slice a 1 c) (.slice (some ⟨w2.heap.size, 0, none⟩) 1 1) (j : Int) (hs2.next iv_ne (below1 _ _)) (sl_one w2 j)
          have HK2 : Hid (Below wr.heap.size wr (w2.alloc (.cells #[.int .i64 (j : Int)] 3))) := Below.next k2 (below1 _ _)
          clear hs2 k2 HC x0 x1
          go_wp2_with fail
          refine Calls.mono HC2.out ?_; rintro e w3 ⟨rfl, k3⟩
          have hb := Below.next HK2.out k3
          have HR : Hid (Blk w3 w.heap.size 27 [.pointer p, .int .i64 n] ∧ Below w.heap.size w w3 ∧ Ix w3 p (rowF f 0 n) nb (n + 1)) := ⟨HI.out.1.next hb, HI.out.2.1.trans (hb.mono HI.out.2.1.size), HI.out.2.2.next hb⟩
          clear hb k3 HC2 HK2 HI
          go_wp2_with fail
          go_roundw
          case rel => exact ⟨j + 1, by omega, by go_num, HR.out⟩
          case measure => simp [intOf]; omega
        · have hlti2 : ¬ (j : Int) < (n : Int) := by omega
          have x0 := HI.out.1.cell (i := 0) rfl
          have x1 := HI.out.1.cell (i := 1) rfl
          have HC : Hid _ := HBU.out wr p (n : Int) _ _ HI.out.2.2
          clear hlt2 HFI HSM
          go_wp2_with fail
          refine Calls.mono HC.out ?_; rintro e w2 ⟨rfl, k2⟩
          have HX2 : Hid (Blk w2 w.heap.size 27 [.pointer p, .int .i64 n]) := HI.out.1.next k2
          have y0 := HX2.out.cell (i := 0) rfl
          have y1 := HX2.out.cell (i := 1) rfl
          obtain ⟨w3, hw3⟩ : ∃ w3, w2.alloc (.cells #[.pointer p, .int .i64 (n : Int)] 27) = w3 := ⟨_, rfl⟩
          have hk3 : Below wr.heap.size wr w3 := by rw [← hw3]; exact Below.next k2 (below1 _ _)
          have HX3 : Hid (Blk w3 w.heap.size 27 [.pointer p, .int .i64 n] ∧ Blk w3 w2.heap.size 27 [.pointer p, .int .i64 ((n : Int) - (0 : Nat))] ∧ Below w.heap.size w w3 ∧ Ix w3 p (rowF f 0 n) nb (n + 1) ∧ Ix w3 p (rowF f 0 n) nb (n + 1 + 0)) := by
            refine ⟨HI.out.1.next hk3, ?_, HI.out.2.1.trans (hk3.mono HI.out.2.1.size), HI.out.2.2.next hk3, HI.out.2.2.next hk3⟩
            rw [← hw3]
            have := Blk.new w2 27 [.pointer p, .int .i64 (n : Int)]
            rw [show (n : Int) - ((0 : Nat) : Int) = n by omega]
            exact this
          have hYX : w.heap.size < w2.heap.size := HX2.out.lt
          have HW3 : Hid (w2.alloc (.cells #[.pointer p, .int .i64 (n : Int)] 27) = w3) := hw3
          clear hw3 hk3 k2 HC HI x0 x1 HX2
          go_wp2_with fail
          rw [HW3.out]
          obtain ⟨yb, hyb⟩ : ∃ yb, w2.heap.size = yb := ⟨_, rfl⟩
          rw [hyb] at hYX HX3 ⊢
          clear hyb HW3
          go_loopw [11] (fun vi wr => ∃ (i : Nat) (q : Option Addr), i ≤ n ∧ vi = .int .i64 i ∧ Hid (Blk wr w.heap.size 27 [.pointer p, .int .i64 n] ∧ Blk wr yb 27 [.pointer q, .int .i64 ((n : Int) - i)] ∧ Below w.heap.size w wr ∧ Ix wr p (rowF f 0 n) nb (n + 1) ∧ Ix wr q (rowF f i n) nb (n + 1 + i)))
            (fun vi _ => n - (intOf vi).toNat)
          case atStart => exact ⟨0, p, Nat.zero_le _, rfl, HX3.out⟩
          case round =>
            clear HX3
            obtain ⟨i, q, hi, rfl, HI⟩ := hrel
            by_cases hlt3 : i < n
            · have hlti3 : (i : Int) < (n : Int) := by omega
              have x0 := HI.out.2.1.cell (i := 0) rfl
              have x1 := HI.out.2.1.cell (i := 1) rfl
              have HC : Hid _ := HO.out q i nb hlt3 hnb wr HI.out.2.2.2.2
              go_wp2_with fail
              refine Calls.mono HC.out ?_; rintro e w4 ⟨q4, rfl, hI4, k4⟩
              have HY4 : Hid (Blk w4 yb 27 [.pointer q, .int .i64 ((n : Int) - i)]) := HI.out.2.1.next k4
              have y0 := HY4.out.cell (i := 0) rfl
              have y1 := HY4.out.cell (i := 1) rfl
              have yf := HY4.out.fz
              have hfar : ∀ k, k ≠ yb → ((w4.setCell ⟨yb, 0, none⟩ (.pointer q4)).setCell ⟨yb, 1, none⟩ (.int .i64 ((n : Int) - ((i : Int) + 1)))).heap[k]? = w4.heap[k]? := fun k hk => (heap_set _ _ _ hk).trans (heap_set _ _ _ hk)
              have HR : Hid (Blk ((w4.setCell ⟨yb, 0, none⟩ (.pointer q4)).setCell ⟨yb, 1, none⟩ (.int .i64 ((n : Int) - ((i : Int) + 1)))) w.heap.size 27 [.pointer p, .int .i64 n] ∧ Blk ((w4.setCell ⟨yb, 0, none⟩ (.pointer q4)).setCell ⟨yb, 1, none⟩ (.int .i64 ((n : Int) - ((i : Int) + 1)))) yb 27 [.pointer q4, .int .i64 ((n : Int) - ((i + 1 : Nat) : Int))] ∧ Below w.heap.size w ((w4.setCell ⟨yb, 0, none⟩ (.pointer q4)).setCell ⟨yb, 1, none⟩ (.int .i64 ((n : Int) - ((i : Int) + 1)))) ∧ Ix ((w4.setCell ⟨yb, 0, none⟩ (.pointer q4)).setCell ⟨yb, 1, none⟩ (.int .i64 ((n : Int) - ((i : Int) + 1)))) p (rowF f 0 n) nb (n + 1) ∧ Ix ((w4.setCell ⟨yb, 0, none⟩ (.pointer q4)).setCell ⟨yb, 1, none⟩ (.int .i64 ((n : Int) - ((i : Int) + 1)))) q4 (rowF f (i + 1) n) nb (n + 1 + (i + 1))) :=
                ⟨(HI.out.1.next k4).far (hfar _ (by omega)), (HY4.out.set 0 _).set 1 _, below_set (below_set (HI.out.2.2.1.trans (k4.mono HI.out.2.2.1.size)) _ _ _ (by omega)) _ _ _ (by omega), (HI.out.2.2.2.1.next k4).quiet HY4.out hfar, hI4.quiet HY4.out hfar⟩
              clear hI4 k4 HC HI x0 x1 hfar
              go_wp2_with fail
              go_roundw
              case rel => exact ⟨i + 1, q4, by omega, by go_num, HR.out⟩
              case measure => simp [intOf]; omega
            · have hlti3 : ¬ (i : Int) < (n : Int) := by omega
              obtain rfl : n = i := by omega
              have HX : Hid (Blk wr w.heap.size 27 [.pointer p, .int .i64 n] ∧ Blk wr yb 27 [.pointer q, .int .i64 0] ∧ Below w.heap.size w wr ∧ Ix wr q (rowF f n n) nb (n + 1 + n)) := by
                have h := HI.out
                rw [show (n : Int) - (n : Int) = 0 by omega] at h
                exact ⟨h.1, h.2.1, h.2.2.1, h.2.2.2.2⟩
              have x0 := HX.out.1.cell (i := 0) rfl
              have x1 := HX.out.1.cell (i := 1) rfl
              clear HI HO hlt3
              go_wp2_with fail
              refine Calls.mono (HLE.out _ _ _) ?_; rintro e w4 ⟨rfl, k4⟩
              have HX4 : Hid (Blk w4 yb 27 [.pointer q, .int .i64 0] ∧ Below w.heap.size w w4 ∧ Ix w4 q (rowF f n n) nb (n + 1 + n)) := ⟨HX.out.2.1.next k4, HX.out.2.2.1.trans (k4.mono HX.out.2.2.1.size), HX.out.2.2.2.next k4⟩
              clear k4 x0 x1 HX
              have x0 := HX4.out.1.cell (i := 0) rfl
              have x1 := HX4.out.1.cell (i := 1) rfl
              go_wp2_with fail
              refine Calls.mono (HLE.out _ _ _) ?_; rintro e w5 ⟨rfl, k5⟩
              have HX5 : Hid (Blk w5 yb 27 [.pointer q, .int .i64 0] ∧ Below w.heap.size w w5 ∧ Ix w5 q (rowF f n n) nb (n + 1 + n)) := ⟨HX4.out.1.next k5, HX4.out.2.1.trans (k5.mono HX4.out.2.1.size), HX4.out.2.2.next k5⟩
              clear k5 x0 x1 HX4
              have x0 := HX5.out.1.cell (i := 0) rfl
              have x1 := HX5.out.1.cell (i := 1) rfl
              have HC : Hid _ := HBU.out w5 q 0 _ _ HX5.out.2.2
              go_wp2_with fail
              refine Calls.mono HC.out ?_; rintro e w6 ⟨rfl, k6⟩
              have HB6 : Hid (Below w.heap.size w w6) := HX5.out.2.1.trans (k6.mono HX5.out.2.1.size)
              clear k6 x0 x1 HX5 HC
              have hge : (n : Int) ≤ 4 * (8 * (nb : Int)) := by omega
              go_wp2_with fail
              all_goals (refine Calls.mono (HA.out _) ?_; rintro e w7 ⟨rfl, k7⟩)
              all_goals (have HB7 : Hid (Below w.heap.size w w7) := HB6.out.trans (k7.mono HB6.out.size))
              all_goals clear k7
              all_goals go_wp2_with fail
              all_goals go_ret
              all_goals exact ⟨rfl, HB7.out⟩

theorem walk (a0 : Int) (a1 : Int) (w0 : (Lit.int .i64 a0).wf = true) (w1 : (Lit.int .i64 a1).wf = true) (w : World) :
    Calls Try.prog 5 #[.int .i64 a0, .int .i64 a1] w fun e w' => e = .returned (.bool true) ∧ Below w.heap.size w w' := by
  obtain ⟨f, hf⟩ : ∃ f : Nat, bits .and .i64 a1 65535 = (f : Int) := ⟨(a1 % 65536).toNat, by rw [and_16]; omega⟩
  have hf2 : f ≤ 65535 := by rw [and_16] at hf; omega
  have hm : ∃ n : Nat, n < 300 ∧ (bits .and .i64 a0 511).tmod 300 = (n : Int) := by
    rw [and_511]
    refine ⟨((a0 % 512) % 300).toNat, by omega, ?_⟩
    rw [Int.tmod_eq_emod_of_nonneg (by omega)]
    omega
  obtain ⟨n, hn, hm⟩ := hm
  obtain ⟨m0, hm0⟩ : ∃ m0, bits .and .i64 a0 511 = m0 := ⟨_, rfl⟩
  exact grows_is (m0 := m0) n f hn hf2 a0 a1 hm0 (by rw [← hm0]; exact hm) hf w

/-! ### THE ROW's STEP: WRITTEN OUT: LEAVE IT -/
set_option maxRecDepth 100000 in
theorem lifted (os : Os) (started : os.Started) (H : Type) (enc : TypeId × Value → H) :
    ReturnsInHanded {} Try.checked os 5 .any (Rows.hashGrowsSpec.pre6 enc Try.prog Try.f5 Rows.hashGrowsRow.domain false) (Rows.hashGrowsSpec.post enc Try.prog Try.f5 false true false false) := by
  refine returnsInHanded_of_change (C := Try.checked) own started (by kernel_rfl) Try.func5
    (ChangeSpec.witness6 (enc := enc) (C := Try.checked) false ⟨#[], #[.int .i64 0, .int .i64 0], []⟩ 8 (by kernel_rfl) (by kernel_rfl) (by kernel_rfl) (by kernel_rfl)) ?_
  intro W base args ds gs before hval0 hW hcnd _
  have hval : ∀ (j : Nat) t v, Try.f5.params[j]? = some t → args[j]? = some v → Value.okWide Try.prog W .any base t v := hval0
  have hW' := hW
  obtain ⟨p, q, hA0, hV, rfl, hfz, hnd⟩ := hW
  have hA : DataW.TrodAll enc Try.prog W 0 (fun _ => true) true Try.f5.params.toList args.toList ds p := hA0
  rw [Try.params5] at hA hval
  obtain ⟨v0, vs0, d0, ds0, p0, q0, hargs, rfl, rfl, h0, r0⟩ := trodAll_cons hA
  obtain ⟨v1, vs1, d1, ds1, p1, q1, rfl, rfl, rfl, h1, r1⟩ := trodAll_cons r0
  obtain ⟨rfl, rfl, rfl⟩ := trodAll_nil r1
  obtain rfl : args = #[v0, v1] := by cases args; simp_all
  obtain ⟨rfl, rfl⟩ := trodVars_none hV
  obtain ⟨a0, rfl, rfl, rfl, w0⟩ := open_int Try.underlying3 (hval 0 3 v0 rfl rfl) h0
  obtain ⟨a1, rfl, rfl, rfl, w1⟩ := open_int Try.underlying3 (hval 1 3 v1 rfl rfl) h1
  clear hA0 hval0
  simp only [List.append_nil] at hW'
  refine (walk a0 a1 w0 w1 W).mono fun e W' ⟨he, hg⟩ => ?_
  subst he
  exact ⟨_, rfl, _, _, _, [], _, [], hW', trodAll_mk1 (shut_bool Try.underlying4 _), (trodAll_cons_mk (shut_int Try.underlying3 w0) (trodAll_cons_mk (shut_int Try.underlying3 w1) trodAll_mk0)), rfl, hg.frame _, fun h => by cases h⟩

theorem over : Rows.hashGrowsRow.holds Try.pinned (OpenSpec.ofChange Rows.hashGrowsSpec) :=
  OpenClaim.holds_of_wide 5 Try.f5 rfl rfl rfl rfl rfl rfl rfl ⟨rfl, rfl, rfl, rfl, rfl⟩ rfl rfl rfl rfl rfl (by kernel_rfl) Try.func5 (by kernel_rfl)
    (of_decide_eq_true (by kernel_rfl)) (by unfold Func.isWrapper; first | (rw [if_pos (by decide +kernel)]; kernel_rfl) | (rw [if_neg (by decide +kernel)]; exact ⟨rfl, rfl⟩))
    (fun os started H enc _ => lifted os started H enc)

/-- ████ THE STATEMENT ████ -/
theorem proved : Rows.HashGrowsSaid :=
  over
#print axioms proved
end Go.Proofs.Ytoabfllbidiipaa.hashGrows
