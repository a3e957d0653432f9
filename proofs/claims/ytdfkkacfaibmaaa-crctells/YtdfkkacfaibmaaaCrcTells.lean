/- Proved: for every text s and every two numbers at and by the Go function CrcTells of the stage's statements returns true, and its arguments read behind the call as they did before; no condition beyond the form's own reach. -/
import Derived.Test.YtdfkkacfaibmaaaRows
import Derived.WalkKit
import Derived.ProofKit
import Derived.OpenShut
import Derived.ShutString
import Derived.Below
import Derived.Test.YtdfkkacfaibmaaaRow
import Derived.Test.YtdfkkacfaibmaaaSame
import Derived.Test.YtdfkkacfaibmaaaTell
namespace Go.Proofs.Ytdfkkacfaibmaaa.crcTells
open Go.ChangeShapes Go.WideShapes Go.ChangeAt Go.RowKit
open Go.ChangeMaps (open_string shut_string)
set_option linter.unusedVariables false

theorem own : ownKnob Try.prog.godebug = none := by kernel_rfl

theorem and16 (n : Int) : ∃ q : Nat, bits .and .i64 n 65535 = (q : Int) := by
  have h : (BitVec.ofInt 64 65535).toNat = 2 ^ 16 - 1 := by decide
  have key : (BitVec.ofInt 64 n &&& BitVec.ofInt 64 65535).toNat = (n % ((2 ^ 64 : Nat) : Int)).toNat % 2 ^ 16 := by
    rw [BitVec.toNat_and, BitVec.toNat_ofInt, h, Nat.and_two_pow_sub_one_eq_mod]
  refine ⟨(n % ((2 ^ 64 : Nat) : Int)).toNat % 2 ^ 16, ?_⟩
  show IntKind.i64.wrap ((BitVec.ofInt 64 n &&& BitVec.ofInt 64 65535).toNat : Nat) = _
  rw [key, IntKind.wrap_i64]
  omega
theorem get_is {l : List UInt8} {i : Nat} (h : i < l.length) : l[i] = l[i]?.getD 0 := by simp [h]

theorem walk_long (s : ByteArray) (p n : Int) (hs : s.size ≤ 9223372036854775807) (h : ¬ s.size ≤ 1024) (w : World) :
    Calls Try.prog 6 #[.string s, .int .i64 p, .int .i64 n] w fun e w' => e = .returned (.bool true) ∧ Below w.heap.size w w' := by
  have H : Hid (∀ w, Calls Try.prog 8 #[.string s] w fun e w' => e = .returned (.bool false) ∧ w' = w) := fun w => by
    have := light_is s hs w
    rwa [decide_eq_false h] at this
  go_enter Try.func6, Try.ntmps6
  go_wp2_with fail
  refine (H.out _).mono ?_; rintro e w1 ⟨rfl, rfl⟩
  go_wp2_with fail
  refine (nine_is _).mono ?_; rintro e w1 ⟨rfl, rfl⟩
  go_wp2_with fail
  go_ret
  exact ⟨rfl, Below.refl _ _⟩

theorem walk_few (s : ByteArray) (p n : Int) (h : s.size < 4) (w : World) :
    Calls Try.prog 6 #[.string s, .int .i64 p, .int .i64 n] w fun e w' => e = .returned (.bool true) ∧ Below w.heap.size w w' := by
  have H : Hid (∀ w, Calls Try.prog 8 #[.string s] w fun e w' => e = .returned (.bool true) ∧ w' = w) := fun w => by
    have := light_is s (by omega) w
    rwa [decide_eq_true (by omega)] at this
  go_enter Try.func6, Try.ntmps6
  go_wp2_with fail
  refine (H.out _).mono ?_; rintro e w1 ⟨rfl, rfl⟩
  go_wp2_with fail
  refine (nine_is _).mono ?_; rintro e w1 ⟨rfl, rfl⟩
  go_wp2_with fail
  go_ret
  exact ⟨rfl, Below.refl _ _⟩

set_option maxHeartbeats 1000000 in
theorem walk_tells (s : ByteArray) (p n : Int) (q k : Nat) (hq : bits .and .i64 p 65535 = (q : Int)) (hk : (q : Int).tmod ((s.size : Int) - 3) = (k : Int)) (hk4 : k + 4 ≤ s.size) (h : s.size ≤ 1024) (w : World) :
    Calls Try.prog 6 #[.string s, .int .i64 p, .int .i64 n] w fun e w' => e = .returned (.bool true) ∧ Below w.heap.size w w' := by
  have H : Hid (∀ w, Calls Try.prog 8 #[.string s] w fun e w' => e = .returned (.bool true) ∧ w' = w) := fun w => by
    have := light_is s (by omega) w
    rwa [decide_eq_true h] at this
  have HT := (show Hid _ from tells s.data.toList k n (by rw [len_of]; omega))
  have hT0 : Hid (turned s.data.toList k n 0 = s.data.toList) := rfl
  have hTl : Hid (∀ i, (turned s.data.toList k n i).length = s.size) := fun i => by rw [turned_len, len_of]
  have hTs : Hid (∀ i, turned s.data.toList k n (i + 1) = (turned s.data.toList k n i).set (k + i) ((turned s.data.toList k n i)[k + i]?.getD 0 ^^^ yb n i)) := fun i => rfl
  generalize hTT : turned s.data.toList k n = T at *
  clear hTT
  obtain ⟨C, W, hcv, hrow, hbel⟩ := text_row s w
  have hne : ¬ ((s.size : Int) - 3 = 0) := by omega
  have ab := fun n => and_byte n
  have al := and_low n
  have HR : Hid (Row W w.heap.size s.data.toList) := hrow
  clear hrow
  have H1 := (show Hid _ from fun w => sum_is s (by omega) w)
  have H2 : Hid (∀ w, Calls Try.prog 10 #[.string ⟨(T 4).toArray⟩] w fun e w' => e = .returned (.int .i64 (sumOf (T 4) : Nat)) ∧ w' = w) := fun w => sum_is ⟨(T 4).toArray⟩ (by have := hTl.out 4; show (T 4).toArray.size ≤ _; simp; omega) w
  have H3 : Hid (∀ w, Calls Try.prog 18 #[.string s, .string ⟨(T 4).toArray⟩] w fun e w' => e = .returned (.bool false) ∧ w' = w) := fun w => by
    have := same_is s ⟨(T 4).toArray⟩ (by omega) (by have := hTl.out 4; show (T 4).toArray.size ≤ _; simp; omega) w
    have e : sameL s.data.toList (T 4) = false := by
      apply decide_eq_false
      rintro ⟨g1, g2, g3⟩
      by_cases c : low n = 0
      · exact g1 (HT.out.1 c).symm
      · exact HT.out.2 c g3.symm
    rwa [show (ByteArray.mk (T 4).toArray).data.toList = T 4 from rfl, e] at this
  have HB : Hid (((sumOf (T 4) : Int) == (sumOf s.data.toList : Int)) = ((low n : Int) == 0)) := by
    show _ = _
    rw [Bool.eq_iff_iff, beq_iff_eq, beq_iff_eq]
    constructor
    · intro g
      by_cases c : low n = 0
      · omega
      · exact absurd (by omega) (HT.out.2 c)
    · intro g
      rw [HT.out.1 (by omega)]
  generalize sumOf s.data.toList = A at *
  generalize sumOf (T 4) = B at *
  generalize low n = m at *
  clear HT
  go_enter Try.func6, Try.ntmps6
  go_wp2_with fail
  refine (H.out _).mono ?_; rintro e w1 ⟨rfl, rfl⟩
  go_wp2_with fail
  go_loopw [9] (fun i wr => ∃ j : Nat, j ≤ 4 ∧ i = .int .i64 j ∧ Hid (Row wr w1.heap.size (T j)) ∧ Below w1.heap.size w1 wr)
    (fun i _ => 4 - (intOf i).toNat)
  case atStart => exact ⟨0, Nat.zero_le _, rfl, by rw [hT0.out]; exact HR, hbel⟩
  case round =>
    obtain ⟨j, hj, rfl, HW, KB⟩ := hrel
    by_cases c : j < 4
    · have hlt : k + j < (T j).length := by rw [hTl.out]; omega
      have HP := (show Hid _ from HW.out.put (k + j) hlt ((T j)[k + j]?.getD 0 ^^^ yb n j))
      have hc := HW.out.cells (k + j) hlt
      have hf := HW.out.free (k + j) hlt
      rw [get_is hlt] at hc
      rw [← hTs.out] at HP
      generalize (T j)[k + j]?.getD 0 = x at *
      have hx := byte_lt x
      have hy := byte_lt (yb n j)
      have x8 : bits .xor .u8 (x.toNat : Int) (n / 2 ^ (8 * j) % 256) = ((x ^^^ yb n j).toNat : Int) := by
        rw [yb_is, u8_xor_nat _ _ hx hy, UInt8.toNat_xor]
      clear hlt
      go_wp2_with fail
      go_region
      go_wp2
      go_roundw
      case rel => exact ⟨j + 1, by omega, by go_num, HP.out.drewN 1, (KB.setCell (p := ⟨w1.heap.size, k + j, none⟩) (Nat.le_refl _) _).trans ⟨rfl, rfl, rfl, Nat.le_refl _, fun _ _ => rfl⟩⟩
      case measure => simp [intOf]; omega
    · obtain rfl : j = 4 := by omega
      have ht := row_text HW.out s.size C (hTl.out 4).symm
      have HK : Hid (Below w1.heap.size w1 wr) := KB
      by_cases d : m = 0
      · have d1 : ((m : Int) == 0) = true := by rw [d]; rfl
        have d2 : ((B : Int) == (A : Int)) = true := by rw [HB.out]; exact d1
        clear HB d KB
        go_wp2_with fail
        refine (H2.out _).mono ?_; rintro e w2 ⟨rfl, rfl⟩
        go_wp2_with fail
        refine (H1.out _).mono ?_; rintro e w2 ⟨rfl, rfl⟩
        go_wp2_with fail
        refine (H3.out _).mono ?_; rintro e w2 ⟨rfl, rfl⟩
        go_wp2_with fail
        refine (nine_is _).mono ?_; rintro e w2 ⟨rfl, rfl⟩
        go_wp2_with fail
        go_ret
        exact ⟨rfl, HK.out⟩
      · have d1 : ((m : Int) == 0) = false := by simp; omega
        have d2 : ((B : Int) == (A : Int)) = false := by rw [HB.out]; exact d1
        clear HB d KB
        go_wp2_with fail
        refine (H2.out _).mono ?_; rintro e w2 ⟨rfl, rfl⟩
        go_wp2_with fail
        refine (H1.out _).mono ?_; rintro e w2 ⟨rfl, rfl⟩
        go_wp2_with fail
        refine (H3.out _).mono ?_; rintro e w2 ⟨rfl, rfl⟩
        go_wp2_with fail
        refine (nine_is _).mono ?_; rintro e w2 ⟨rfl, rfl⟩
        go_wp2_with fail
        go_ret
        exact ⟨rfl, HK.out⟩

theorem walk (a0 : ByteArray) (a1 a2 : Int) (w0 : a0.size ≤ maxLen) (w1 : (Lit.int .i64 a1).wf = true) (w2 : (Lit.int .i64 a2).wf = true) (w : World) :
    Calls Try.prog 6 #[.string a0, .int .i64 a1, .int .i64 a2] w fun e w' => e = .returned (.bool true) ∧ Below w.heap.size w w' := by
  unfold maxLen at w0
  by_cases c : a0.size ≤ 1024
  · by_cases d : a0.size < 4
    · exact walk_few a0 a1 a2 d w
    · obtain ⟨q, hq⟩ := and16 a1
      have hm : (q : Int).tmod ((a0.size : Int) - 3) = ((q % (a0.size - 3) : Nat) : Int) := by
        rw [show (a0.size : Int) - 3 = ((a0.size - 3 : Nat) : Int) by omega]
        rw [Int.tmod_eq_emod_of_nonneg (by omega)]
        rfl
      have hlt := Nat.mod_lt q (show 0 < a0.size - 3 by omega)
      exact walk_tells a0 a1 a2 q _ hq hm (by omega) c w
  · exact walk_long a0 a1 a2 (by omega) c w

/-! ### THE ROW's STEP: WRITTEN OUT: LEAVE IT -/
set_option maxRecDepth 100000 in
theorem lifted (os : Os) (started : os.Started) (H : Type) (enc : TypeId × Value → H) :
    ReturnsInHanded {} Try.checked os 6 .any (Rows.crcTellsSpec.pre6 enc Try.prog Try.f6 Rows.crcTellsRow.domain false) (Rows.crcTellsSpec.post enc Try.prog Try.f6 false true false false) := by
  refine returnsInHanded_of_change (C := Try.checked) own started (by kernel_rfl) Try.func6
    (ChangeSpec.witness6 (enc := enc) (C := Try.checked) false ⟨#[], #[.string ByteArray.empty, .int .i64 0, .int .i64 0], []⟩ 8 (by kernel_rfl) (by kernel_rfl) (by kernel_rfl) (by kernel_rfl)) ?_
  intro W base args ds gs before hval0 hW hcnd _
  have hval : ∀ (j : Nat) t v, Try.f6.params[j]? = some t → args[j]? = some v → Value.okWide Try.prog W .any base t v := hval0
  have hW' := hW
  obtain ⟨p, q, hA0, hV, rfl, hfz, hnd⟩ := hW
  have hA : DataW.TrodAll enc Try.prog W 0 (fun _ => true) true Try.f6.params.toList args.toList ds p := hA0
  rw [Try.params6] at hA hval
  obtain ⟨v0, vs0, d0, ds0, p0, q0, hargs, rfl, rfl, h0, r0⟩ := trodAll_cons hA
  obtain ⟨v1, vs1, d1, ds1, p1, q1, rfl, rfl, rfl, h1, r1⟩ := trodAll_cons r0
  obtain ⟨v2, vs2, d2, ds2, p2, q2, rfl, rfl, rfl, h2, r2⟩ := trodAll_cons r1
  obtain ⟨rfl, rfl, rfl⟩ := trodAll_nil r2
  obtain rfl : args = #[v0, v1, v2] := by cases args; simp_all
  obtain ⟨rfl, rfl⟩ := trodVars_none hV
  obtain ⟨a0, rfl, rfl, rfl, w0⟩ := open_string Try.underlying9 (hval 0 9 v0 rfl rfl) h0
  obtain ⟨a1, rfl, rfl, rfl, w1⟩ := open_int Try.underlying3 (hval 1 3 v1 rfl rfl) h1
  obtain ⟨a2, rfl, rfl, rfl, w2⟩ := open_int Try.underlying3 (hval 2 3 v2 rfl rfl) h2
  clear hA0 hval0
  simp only [List.append_nil] at hW'
  refine (walk a0 a1 a2 w0 w1 w2 W).mono fun e W' ⟨he, hg⟩ => ?_
  subst he
  exact ⟨_, rfl, _, _, _, [], _, [], hW', trodAll_mk1 (shut_bool Try.underlying4 _), (trodAll_cons_mk (shut_string Try.underlying9 w0) (trodAll_cons_mk (shut_int Try.underlying3 w1) (trodAll_cons_mk (shut_int Try.underlying3 w2) trodAll_mk0))), rfl, hg.frame _, fun h => by cases h⟩

theorem over : Rows.crcTellsRow.holds Try.pinned (OpenSpec.ofChange Rows.crcTellsSpec) :=
  OpenClaim.holds_of_wide 6 Try.f6 rfl rfl rfl rfl rfl rfl rfl ⟨rfl, rfl, rfl, rfl, rfl⟩ rfl rfl rfl rfl rfl (by kernel_rfl) Try.func6 (by kernel_rfl)
    (of_decide_eq_true (by kernel_rfl)) (by unfold Func.isWrapper; first | (rw [if_pos (by decide +kernel)]; kernel_rfl) | (rw [if_neg (by decide +kernel)]; exact ⟨rfl, rfl⟩))
    (fun os started H enc _ => lifted os started H enc)

/-- ████ THE STATEMENT ████ -/
theorem proved : Rows.CrcTellsSaid :=
  over
#print axioms proved
end Go.Proofs.Ytdfkkacfaibmaaa.crcTells
