/- Proved: for every three texts a, b and c the Go function CrcThree of the stage's statements returns true, and its arguments read behind the call as they did before; no condition beyond the form's own reach. -/
import Derived.Test.YtdfkkacfaibmaaaRows
import Derived.WalkKit
import Derived.ProofKit
import Derived.OpenShut
import Derived.ShutString
import Derived.Below
import Derived.BigQuiet
import Derived.Test.YtdfkkacfaibmaaaTri
namespace Go.Proofs.Ytdfkkacfaibmaaa.crcThree
open Go.ChangeShapes Go.WideShapes Go.ChangeAt Go.RowKit
open Go.ChangeMaps (open_string shut_string)
set_option linter.unusedVariables false

theorem own : ownKnob Try.prog.godebug = none := by kernel_rfl

theorem cut_list (a : ByteArray) (n : Nat) : (a.extract 0 n).data.toList = a.data.toList.take n := by
  rw [ByteArray.data_extract, Array.toList_extract]
  simp [List.extract]
theorem cut_len (a : ByteArray) (n : Nat) (h : n ≤ a.size) : (a.data.toList.take n).length = n := by
  have := len_of a
  simp; omega
theorem cut_size (a : ByteArray) (n : Nat) (h : n ≤ a.size) : (a.extract 0 n).size = n := by
  rw [← len_of, cut_list, cut_len a n h]
theorem cut_at (a : ByteArray) (n i : Nat) (h : i < n) (hn : n ≤ a.size) (h' : i < (a.data.toList.take n).length) : (a.data.toList.take n)[i] = a[i] := by
  rw [List.getElem_take]; rfl

set_option maxHeartbeats 1000000 in
theorem walk_three (a b c : ByteArray) (n : Nat) (hm : min (min (min a.size b.size) c.size) 256 = n) (xa : a.size ≤ 9223372036854775807) (xb : b.size ≤ 9223372036854775807) (xc : c.size ≤ 9223372036854775807) (w : World) :
    Calls Try.prog 7 #[.string a, .string b, .string c] w fun e w' => e = .returned (.bool true) ∧ Below w.heap.size w w' := by
  have ha : n ≤ a.size := by omega
  have hb : n ≤ b.size := by omega
  have hc : n ≤ c.size := by omega
  have hn : n ≤ 256 := by omega
  have hmin := fun w => min_four a.size b.size c.size w
  rw [hm] at hmin
  clear hm
  have la := cut_len a n ha
  have lb := cut_len b n hb
  have lc := cut_len c n hc
  obtain ⟨X, hX⟩ : ∃ X, X = tri (a.data.toList.take n) (b.data.toList.take n) (c.data.toList.take n) := ⟨_, rfl⟩
  have lX : X.length = n := by rw [hX]; exact tri_len la lb lc
  have HX : Hid (∀ i (h : i < n), X[i]'(lX.symm ▸ h) = a[i]'(Nat.lt_of_lt_of_le h ha) ^^^ b[i]'(Nat.lt_of_lt_of_le h hb) ^^^ c[i]'(Nat.lt_of_lt_of_le h hc)) := fun i h => by
    subst hX
    rw [tri_at (by omega) (by omega) (by omega) (by omega), cut_at a n i h ha, cut_at b n i h hb, cut_at c n i h hc]
  have HA : Hid (∀ w, Calls Try.prog 10 #[.string (a.extract 0 n)] w fun e w' => e = .returned (.int .i64 (sumOf (a.data.toList.take n) : Nat)) ∧ w' = w) := fun w => by
    have := sum_is (a.extract 0 n) (by rw [cut_size a n ha]; omega) w
    rwa [cut_list] at this
  have HB : Hid (∀ w, Calls Try.prog 10 #[.string (b.extract 0 n)] w fun e w' => e = .returned (.int .i64 (sumOf (b.data.toList.take n) : Nat)) ∧ w' = w) := fun w => by
    have := sum_is (b.extract 0 n) (by rw [cut_size b n hb]; omega) w
    rwa [cut_list] at this
  have HC : Hid (∀ w, Calls Try.prog 10 #[.string (c.extract 0 n)] w fun e w' => e = .returned (.int .i64 (sumOf (c.data.toList.take n) : Nat)) ∧ w' = w) := fun w => by
    have := sum_is (c.extract 0 n) (by rw [cut_size c n hc]; omega) w
    rwa [cut_list] at this
  have sX : (ByteArray.mk X.toArray).size ≤ 140737488351232 := by show X.toArray.size ≤ _; simp; omega
  have HT : Hid (∀ w, Calls Try.prog 10 #[.string ⟨X.toArray⟩] w fun e w' => e = .returned (.int .i64 (sumOf X : Nat)) ∧ w' = w) := fun w => sum_is ⟨X.toArray⟩ sX w
  have HS : Hid (∀ w, Calls Try.prog 18 #[.string (a.extract 0 n), .string (b.extract 0 n)] w fun e w' => e = .returned (.bool (sameL (a.data.toList.take n) (b.data.toList.take n))) ∧ w' = w) := fun w => by
    have := same_is (a.extract 0 n) (b.extract 0 n) (by rw [cut_size a n ha]; omega) (by rw [cut_size b n hb]; omega) w
    rwa [cut_list, cut_list] at this
  have HR : Hid (∀ w, Calls Try.prog 19 #[.string (a.extract 0 n), .string (b.extract 0 n)] w fun e w' => e = .returned (.bool (sameL (a.data.toList.take n) (b.data.toList.take n))) ∧ w' = w) := fun w => by
    have := refSame_is (a.extract 0 n) (b.extract 0 n) (by rw [cut_size a n ha]; omega) (by rw [cut_size b n hb]; omega) w
    rwa [cut_list, cut_list] at this
  have HU : Hid (∀ w, Calls Try.prog 18 #[.string (c.extract 0 n), .string ⟨X.toArray⟩] w fun e w' => e = .returned (.bool (sameL (a.data.toList.take n) (b.data.toList.take n))) ∧ w' = w) := fun w => by
    have := same_is (c.extract 0 n) ⟨X.toArray⟩ (by rw [cut_size c n hc]; omega) sX w
    rwa [cut_list, show (ByteArray.mk X.toArray).data.toList = X from rfl, hX, same_tri la lb lc, ← hX] at this
  have y1 := i64_xor _ _ (sumOf_lt (a.data.toList.take n)) (sumOf_lt (b.data.toList.take n))
  have y2 := i64_xor _ _ (xor_lt32 (sumOf_lt (a.data.toList.take n)) (sumOf_lt (b.data.toList.take n))) (sumOf_lt (c.data.toList.take n))
  rw [sum_tri la lb lc, ← hX] at y2
  clear hX sX
  generalize sumOf X = ST at *
  generalize sumOf (a.data.toList.take n) ^^^ sumOf (b.data.toList.take n) = SAB at *
  generalize sumOf (a.data.toList.take n) = SA at *
  generalize sumOf (b.data.toList.take n) = SB at *
  generalize sumOf (c.data.toList.take n) = SC at *
  generalize sameL (a.data.toList.take n) (b.data.toList.take n) = S at *
  obtain ⟨W, hmk, hrow, hbel⟩ := make_row n hn w
  have P0 : Hid (Row W w.heap.size (part X 0)) := by rw [part_zero, lX]; exact hrow
  have PL : Hid (∀ i, i ≤ n → (part X i).length = n) := fun i h => by rw [part_len X i (by omega), lX]
  have PS : Hid (∀ i (h : i < n), (part X i).set i (a[i]'(Nat.lt_of_lt_of_le h ha) ^^^ b[i]'(Nat.lt_of_lt_of_le h hb) ^^^ c[i]'(Nat.lt_of_lt_of_le h hc)) = part X (i + 1)) := fun i h => by rw [← HX.out i h]; exact part_step X i (by omega)
  have PA : Hid (part X n = X) := by
    have := part_all X
    rwa [lX] at this
  have LX : Hid (X.length = n) := lX
  clear hrow HX lX la lb lc
  go_enter Try.func7, Try.ntmps7
  go_wp2_with fail
  go_loopw [9] (fun i wr => ∃ j : Nat, j ≤ n ∧ i = .int .i64 j ∧ Hid (Row wr w.heap.size (part X j)) ∧ Below w.heap.size w wr)
    (fun i _ => n - (intOf i).toNat)
  case atStart => exact ⟨0, Nat.zero_le _, rfl, P0, hbel⟩
  case round =>
    obtain ⟨j, hj, rfl, HW, KB⟩ := hrel
    by_cases d : j < n
    · have hlt : j < (part X j).length := by rw [PL.out j hj]; omega
      have HP := (show Hid _ from HW.out.put j hlt (a[j] ^^^ b[j] ^^^ c[j]))
      have hcell := HW.out.cells j hlt
      have hf := HW.out.free j hlt
      rw [PS.out j d] at HP
      generalize ((part X j)[j]'hlt).toNat = v at *
      have ja : j < a.size := by omega
      have jb : j < b.size := by omega
      have jc : j < c.size := by omega
      have x1 : bits .xor .u8 (a[j].toNat : Int) (b[j].toNat : Int) = ((a[j] ^^^ b[j]).toNat : Int) := by
        rw [u8_xor_nat _ _ (byte_lt _) (byte_lt _), UInt8.toNat_xor]
      have x2 : bits .xor .u8 ((a[j] ^^^ b[j]).toNat : Int) (c[j].toNat : Int) = ((a[j] ^^^ b[j] ^^^ c[j]).toNat : Int) := by
        rw [u8_xor_nat _ _ (byte_lt _) (byte_lt _), UInt8.toNat_xor (a[j] ^^^ b[j])]
      obtain ⟨r, hr⟩ : ∃ r : Nat, r = (a[j] ^^^ b[j] ^^^ c[j]).toNat := ⟨_, rfl⟩
      obtain ⟨u, hu⟩ : ∃ u : Nat, u = (a[j] ^^^ b[j]).toNat := ⟨_, rfl⟩
      rw [← hr] at HP x2
      rw [← hu] at x1 x2
      clear hlt hr hu
      go_wp2_with fail
      go_region
      go_wp2
      go_roundw
      case rel => exact ⟨j + 1, by omega, by go_num, HP.out.drewN 1, (KB.setCell (p := ⟨w.heap.size, j, none⟩) (Nat.le_refl _) _).trans ⟨rfl, rfl, rfl, Nat.le_refl _, fun _ _ => rfl⟩⟩
      case measure => simp [intOf]; omega
    · obtain rfl : j = n := by omega
      rw [PA.out] at HW
      have ht := row_text HW.out j j LX.out.symm
      have HK : Hid (Below w.heap.size w wr) := KB
      clear KB
      have ga : (j : Int) ≤ (a.size : Int) := by omega
      have gb : (j : Int) ≤ (b.size : Int) := by omega
      have gc : (j : Int) ≤ (c.size : Int) := by omega
      have g0 : (0 : Int) ≤ (j : Int) := by omega
      go_wp2_with fail
      go_quiet (exact Calls.quiet_of_same (HS.out _))
      have HQ : Hid (Below w.heap.size w (wr.drewN nq)) := HK.out.trans ⟨rfl, rfl, rfl, Nat.le_refl _, fun _ _ => rfl⟩
      clear ht HK HW
      generalize wr.drewN nq = wq at *
      cases S
      all_goals
        go_wp2_with fail
        go_quiet (first
          | with_reducible exact Calls.quiet_of_same (HA.out _) | with_reducible exact Calls.quiet_of_same (HB.out _) | with_reducible exact Calls.quiet_of_same (HC.out _) | with_reducible exact Calls.quiet_of_same (HT.out _)
          | with_reducible exact Calls.quiet_of_same (HS.out _) | with_reducible exact Calls.quiet_of_same (HR.out _) | with_reducible exact Calls.quiet_of_same (HU.out _) | with_reducible exact Calls.quiet_of_same (nine_is _))
        go_wp2
        go_ret
        exact ⟨rfl, HQ.out.trans ⟨rfl, rfl, rfl, Nat.le_refl _, fun _ _ => rfl⟩⟩

theorem walk (a0 a1 a2 : ByteArray) (w0 : a0.size ≤ maxLen) (w1 : a1.size ≤ maxLen) (w2 : a2.size ≤ maxLen) (w : World) :
    Calls Try.prog 7 #[.string a0, .string a1, .string a2] w fun e w' => e = .returned (.bool true) ∧ Below w.heap.size w w' := by
  unfold maxLen at w0 w1 w2
  exact walk_three a0 a1 a2 _ rfl (by omega) (by omega) (by omega) w

/-! ### THE ROW's STEP: WRITTEN OUT: LEAVE IT -/
set_option maxRecDepth 100000 in
theorem lifted (os : Os) (started : os.Started) (H : Type) (enc : TypeId × Value → H) :
    ReturnsInHanded {} Try.checked os 7 .any (Rows.crcThreeSpec.pre6 enc Try.prog Try.f7 Rows.crcThreeRow.domain false) (Rows.crcThreeSpec.post enc Try.prog Try.f7 false true false false) := by
  refine returnsInHanded_of_change (C := Try.checked) own started (by kernel_rfl) Try.func7
    (ChangeSpec.witness6 (enc := enc) (C := Try.checked) false ⟨#[], #[.string ByteArray.empty, .string ByteArray.empty, .string ByteArray.empty], []⟩ 8 (by kernel_rfl) (by kernel_rfl) (by kernel_rfl) (by kernel_rfl)) ?_
  intro W base args ds gs before hval0 hW hcnd _
  have hval : ∀ (j : Nat) t v, Try.f7.params[j]? = some t → args[j]? = some v → Value.okWide Try.prog W .any base t v := hval0
  have hW' := hW
  obtain ⟨p, q, hA0, hV, rfl, hfz, hnd⟩ := hW
  have hA : DataW.TrodAll enc Try.prog W 0 (fun _ => true) true Try.f7.params.toList args.toList ds p := hA0
  rw [Try.params7] at hA hval
  obtain ⟨v0, vs0, d0, ds0, p0, q0, hargs, rfl, rfl, h0, r0⟩ := trodAll_cons hA
  obtain ⟨v1, vs1, d1, ds1, p1, q1, rfl, rfl, rfl, h1, r1⟩ := trodAll_cons r0
  obtain ⟨v2, vs2, d2, ds2, p2, q2, rfl, rfl, rfl, h2, r2⟩ := trodAll_cons r1
  obtain ⟨rfl, rfl, rfl⟩ := trodAll_nil r2
  obtain rfl : args = #[v0, v1, v2] := by cases args; simp_all
  obtain ⟨rfl, rfl⟩ := trodVars_none hV
  obtain ⟨a0, rfl, rfl, rfl, w0⟩ := open_string Try.underlying9 (hval 0 9 v0 rfl rfl) h0
  obtain ⟨a1, rfl, rfl, rfl, w1⟩ := open_string Try.underlying9 (hval 1 9 v1 rfl rfl) h1
  obtain ⟨a2, rfl, rfl, rfl, w2⟩ := open_string Try.underlying9 (hval 2 9 v2 rfl rfl) h2
  clear hA0 hval0
  simp only [List.append_nil] at hW'
  refine (walk a0 a1 a2 w0 w1 w2 W).mono fun e W' ⟨he, hg⟩ => ?_
  subst he
  exact ⟨_, rfl, _, _, _, [], _, [], hW', trodAll_mk1 (shut_bool Try.underlying4 _), (trodAll_cons_mk (shut_string Try.underlying9 w0) (trodAll_cons_mk (shut_string Try.underlying9 w1) (trodAll_cons_mk (shut_string Try.underlying9 w2) trodAll_mk0))), rfl, hg.frame _, fun h => by cases h⟩

theorem over : Rows.crcThreeRow.holds Try.pinned (OpenSpec.ofChange Rows.crcThreeSpec) :=
  OpenClaim.holds_of_wide 7 Try.f7 rfl rfl rfl rfl rfl rfl rfl ⟨rfl, rfl, rfl, rfl, rfl⟩ rfl rfl rfl rfl rfl (by kernel_rfl) Try.func7 (by kernel_rfl)
    (of_decide_eq_true (by kernel_rfl)) (by unfold Func.isWrapper; first | (rw [if_pos (by decide +kernel)]; kernel_rfl) | (rw [if_neg (by decide +kernel)]; exact ⟨rfl, rfl⟩))
    (fun os started H enc _ => lifted os started H enc)

/-- ████ THE STATEMENT ████ -/
theorem proved : Rows.CrcThreeSaid :=
  over
#print axioms proved
end Go.Proofs.Ytdfkkacfaibmaaa.crcThree
