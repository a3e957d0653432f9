/- Proved: for every number sum and every text s the Go function CrcBytes of the stage's statements returns true, and its arguments read behind the call as they did before; no condition beyond the form's own reach. -/
import Derived.Test.YtdfkkacfaibmaaaRows
import Derived.WalkKit
import Derived.ProofKit
import Derived.OpenShut
import Derived.ShutString
import Derived.Below
import Derived.Deep.RegionWith
import Derived.Test.YtdfkkacfaibmaaaPut
namespace Go.Proofs.Ytdfkkacfaibmaaa.crcBytes
open Go.ChangeShapes Go.WideShapes Go.ChangeAt Go.RowKit
open Go.ChangeMaps (open_string shut_string)
set_option linter.unusedVariables false

theorem own : ownKnob Try.prog.godebug = none := by kernel_rfl

theorem bnext {w w1 w2 : World} (h : Below w.heap.size w w1) (k : Below w1.heap.size w1 w2) : Below w.heap.size w w2 := h.trans (k.mono h.size)
theorem Below.of_drew {B : Nat} {w w' : World} (h : Below B w.drew w') : Below B w w' := ⟨h.os, h.tape, h.output, h.size, h.block⟩

/-- Take of a text whose first bytes are known. -/
theorem take_of {s : ByteArray} {a b c d : UInt8} {r : List UInt8} (h : s.data.toList = a :: b :: c :: d :: r) (hs : s.size ≤ 140737488351232) (w : World) :
    Calls Try.prog 16 #[.string s] w fun e w' => e = .returned (.int .i64 (four a.toNat b.toNat c.toNat d.toNat : Nat)) ∧ w' = w := by
  have hl := len_of s
  rw [h] at hl
  simp at hl
  have g : ∀ k (hk : k < s.size), s[k] = s.data.toList[k]'(by simpa using hk) := fun k hk => rfl
  have := take_is s (by omega) hs w
  simp only [g, h] at this
  exact this
theorem refTake_of {s : ByteArray} {a b c d : UInt8} {r : List UInt8} (h : s.data.toList = a :: b :: c :: d :: r) (hs : s.size ≤ 140737488351232) (w : World) :
    Calls Try.prog 17 #[.string s] w fun e w' => e = .returned (.int .i64 (four a.toNat b.toNat c.toNat d.toNat : Nat)) ∧ Below w.heap.size w w' := by
  have hl := len_of s
  rw [h] at hl
  simp at hl
  have g : ∀ k (hk : k < s.size), s[k] = s.data.toList[k]'(by simpa using hk) := fun k hk => rfl
  have := refTake_is s (by omega) hs w
  simp only [g, h] at this
  exact this

theorem four_put {m : Nat} (h : m < 4294967296) : four (UInt8.ofNat m).toNat (UInt8.ofNat (m / 256)).toNat (UInt8.ofNat (m / 65536)).toNat (UInt8.ofNat (m / 16777216)).toNat = m := by
  unfold four
  simp only [UInt8.toNat_ofNat']
  omega
theorem four_lt (a b c d : UInt8) : four a.toNat b.toNat c.toNat d.toNat < 4294967296 := by
  have := byte_lt a; have := byte_lt b; have := byte_lt c; have := byte_lt d
  unfold four; omega
theorem put_four (a b c d : UInt8) : putL (four a.toNat b.toNat c.toNat d.toNat) = [a, b, c, d] := by
  have := byte_lt a; have := byte_lt b; have := byte_lt c; have := byte_lt d
  unfold putL four
  refine congr (congrArg List.cons ?_) (congr (congrArg List.cons ?_) (congr (congrArg List.cons ?_) (congr (congrArg List.cons ?_) rfl))) <;> (apply UInt8.toNat_inj.1; rw [UInt8.toNat_ofNat']; omega)

theorem cat_list (a b : ByteArray) : (a ++ b).data.toList = a.data.toList ++ b.data.toList := by simp
theorem cat_size (a b : ByteArray) : (a ++ b).size = a.size + b.size := by simp

theorem walk_long (n : Int) (s : ByteArray) (hs : s.size ≤ 9223372036854775807) (h : ¬ s.size ≤ 1024) (w : World) :
    Calls Try.prog 5 #[.int .i64 n, .string s] w fun e w' => e = .returned (.bool true) ∧ Below w.heap.size w w' := by
  have H : Hid (∀ w, Calls Try.prog 8 #[.string s] w fun e w' => e = .returned (.bool false) ∧ w' = w) := fun w => by
    have := light_is s hs w
    rwa [decide_eq_false h] at this
  go_enter Try.func5, Try.ntmps5
  go_wp2_with fail
  refine (H.out _).mono ?_; rintro e w1 ⟨rfl, rfl⟩
  go_wp2_with fail
  refine (nine_is _).mono ?_; rintro e w1 ⟨rfl, rfl⟩
  go_wp2_with fail
  go_ret
  exact ⟨rfl, Below.refl _ _⟩

set_option maxHeartbeats 1000000 in
theorem walk_few (n : Int) (s : ByteArray) (h : s.size < 4) (w : World) :
    Calls Try.prog 5 #[.int .i64 n, .string s] w fun e w' => e = .returned (.bool true) ∧ Below w.heap.size w w' := by
  have H : Hid (∀ w, Calls Try.prog 8 #[.string s] w fun e w' => e = .returned (.bool true) ∧ w' = w) := fun w => by
    have := light_is s (by omega) w
    rwa [decide_eq_true (by omega)] at this
  have al := and_low n
  obtain ⟨m, hm⟩ : ∃ m, m = low n := ⟨_, rfl⟩
  have hlt : m < 4294967296 := hm ▸ low_lt n
  obtain ⟨T, hT⟩ : ∃ T : ByteArray, T = ⟨(putL m).toArray⟩ := ⟨_, rfl⟩
  have tl : T.data.toList = UInt8.ofNat m :: UInt8.ofNat (m / 256) :: UInt8.ofNat (m / 65536) :: UInt8.ofNat (m / 16777216) :: [] := by rw [hT]; rfl
  have ts : T.size = 4 := by rw [hT]; rfl
  have cl : (T ++ s).data.toList = UInt8.ofNat m :: UInt8.ofNat (m / 256) :: UInt8.ofNat (m / 65536) :: UInt8.ofNat (m / 16777216) :: s.data.toList := by rw [cat_list, tl]; rfl
  have H1 : Hid (∀ w, Calls Try.prog 14 #[.int .i64 n] w fun e w' => e = .returned (.string T) ∧ Below w.heap.size w w') := fun w => by
    have := put_is n w
    rwa [← hm, ← hT] at this
  have H2 : Hid (∀ w, Calls Try.prog 15 #[.int .i64 n] w fun e w' => e = .returned (.string T) ∧ Below w.heap.size w w') := fun w => by
    have := refPut_is n w
    rwa [← hm, ← hT] at this
  have H3 := (show Hid _ from fun w => take_few s h w)
  have H4 := (show Hid _ from fun w => refTake_few s h w)
  have H5 : Hid (∀ w, Calls Try.prog 16 #[.string T] w fun e w' => e = .returned (.int .i64 m) ∧ w' = w) := fun w => by
    have := take_of tl (by omega) w
    rwa [four_put hlt] at this
  have H6 : Hid (∀ w, Calls Try.prog 16 #[.string (T ++ s)] w fun e w' => e = .returned (.int .i64 m) ∧ w' = w) := fun w => by
    have := take_of cl (by rw [cat_size]; omega) w
    rwa [four_put hlt] at this
  rw [← hm] at al
  clear hm hT tl cl hlt
  go_enter Try.func5, Try.ntmps5
  go_wp2_with fail
  refine (H.out _).mono ?_; rintro e w1 ⟨rfl, rfl⟩
  go_wp2_with fail
  refine (H1.out _).mono ?_; rintro e w1 ⟨rfl, k1⟩
  go_wp2_with fail
  refine (H2.out _).mono ?_; rintro e w2 ⟨rfl, k2⟩
  go_wp2_with fail
  refine (H3.out _).mono ?_; rintro e w3 ⟨rfl, rfl⟩
  go_wp2_with fail
  refine (H4.out _).mono ?_; rintro e w3 ⟨rfl, k3⟩
  go_wp2_with fail
  refine (H5.out _).mono ?_; rintro e w4 ⟨rfl, rfl⟩
  go_wp2_with fail
  refine (H6.out _).mono ?_; rintro e w4 ⟨rfl, rfl⟩
  go_wp2_with fail
  refine (H5.out _).mono ?_; rintro e w4 ⟨rfl, rfl⟩
  go_wp2_with fail
  have hd : decide ((s.size : Int) < 4) = true := decide_eq_true (by omega)
  go_quiet (exact Calls.quiet_of_same (nine_is _))
  go_wp2
  go_ret
  exact ⟨rfl, (bnext (bnext k1 k2) k3).trans ⟨rfl, rfl, rfl, Nat.le_refl _, fun _ _ => rfl⟩⟩

set_option maxHeartbeats 1000000 in
theorem walk_four (n : Int) (s : ByteArray) (h : s.size ≤ 1024) (a b c d : UInt8) (r : List UInt8) (hl : s.data.toList = a :: b :: c :: d :: r) (w : World) :
    Calls Try.prog 5 #[.int .i64 n, .string s] w fun e w' => e = .returned (.bool true) ∧ Below w.heap.size w w' := by
  have H : Hid (∀ w, Calls Try.prog 8 #[.string s] w fun e w' => e = .returned (.bool true) ∧ w' = w) := fun w => by
    have := light_is s (by omega) w
    rwa [decide_eq_true h] at this
  have al := and_low n
  obtain ⟨m, hm⟩ : ∃ m, m = low n := ⟨_, rfl⟩
  have hlt : m < 4294967296 := hm ▸ low_lt n
  obtain ⟨T, hT⟩ : ∃ T : ByteArray, T = ⟨(putL m).toArray⟩ := ⟨_, rfl⟩
  have tl : T.data.toList = UInt8.ofNat m :: UInt8.ofNat (m / 256) :: UInt8.ofNat (m / 65536) :: UInt8.ofNat (m / 16777216) :: [] := by rw [hT]; rfl
  have ts : T.size = 4 := by rw [hT]; rfl
  have cl : (T ++ s).data.toList = UInt8.ofNat m :: UInt8.ofNat (m / 256) :: UInt8.ofNat (m / 65536) :: UInt8.ofNat (m / 16777216) :: s.data.toList := by rw [cat_list, tl]; rfl
  have H1 : Hid (∀ w, Calls Try.prog 14 #[.int .i64 n] w fun e w' => e = .returned (.string T) ∧ Below w.heap.size w w') := fun w => by
    have := put_is n w
    rwa [← hm, ← hT] at this
  have H2 : Hid (∀ w, Calls Try.prog 15 #[.int .i64 n] w fun e w' => e = .returned (.string T) ∧ Below w.heap.size w w') := fun w => by
    have := refPut_is n w
    rwa [← hm, ← hT] at this
  have H3 := (show Hid _ from fun w => take_of hl (by omega) w)
  have H4 := (show Hid _ from fun w => refTake_of hl (by omega) w)
  have H7 : Hid (∀ w, Calls Try.prog 14 #[.int .i64 (four a.toNat b.toNat c.toNat d.toNat : Nat)] w fun e w' => e = .returned (.string (s.extract 0 4)) ∧ Below w.heap.size w w') := fun w => by
    have := put_is (four a.toNat b.toNat c.toNat d.toNat : Nat) w
    rw [low_nat (four_lt a b c d), put_four] at this
    have e : s.extract 0 4 = ⟨[a, b, c, d].toArray⟩ := by
      apply ByteArray.ext
      rw [ByteArray.data_extract]
      apply Array.toList_inj.1
      rw [Array.toList_extract, hl]
      rfl
    rwa [e]
  have h4 : 4 ≤ s.size := by
    have := len_of s
    rw [hl] at this
    simp at this
    omega
  generalize four a.toNat b.toNat c.toNat d.toNat = F at *
  have H5 : Hid (∀ w, Calls Try.prog 16 #[.string T] w fun e w' => e = .returned (.int .i64 m) ∧ w' = w) := fun w => by
    have := take_of tl (by omega) w
    rwa [four_put hlt] at this
  have H6 : Hid (∀ w, Calls Try.prog 16 #[.string (T ++ s)] w fun e w' => e = .returned (.int .i64 m) ∧ w' = w) := fun w => by
    have := take_of cl (by rw [cat_size]; omega) w
    rwa [four_put hlt] at this
  rw [← hm] at al
  clear hm hT tl cl hlt hl
  go_enter Try.func5, Try.ntmps5
  go_wp2_with fail
  refine (H.out _).mono ?_; rintro e w1 ⟨rfl, rfl⟩
  go_wp2_with fail
  refine (H1.out _).mono ?_; rintro e w1 ⟨rfl, k1⟩
  go_wp2_with fail
  refine (H2.out _).mono ?_; rintro e w2 ⟨rfl, k2⟩
  go_wp2_with fail
  refine (H3.out _).mono ?_; rintro e w3 ⟨rfl, rfl⟩
  go_wp2_with fail
  refine (H4.out _).mono ?_; rintro e w3 ⟨rfl, k3⟩
  go_wp2_with fail
  refine (H5.out _).mono ?_; rintro e w4 ⟨rfl, rfl⟩
  go_wp2_with fail
  refine (H6.out _).mono ?_; rintro e w4 ⟨rfl, rfl⟩
  go_wp2_with fail
  refine (H5.out _).mono ?_; rintro e w4 ⟨rfl, rfl⟩
  go_wp2_with fail
  have hd : decide ((s.size : Int) < 4) = false := decide_eq_false (by omega)
  go_region_with (first
    | (go_at_call 9; refine (nine_is _).mono ?_; rintro e w5 ⟨rfl, rfl⟩)
    | (go_at_call 16; refine (H3.out _).mono ?_; rintro e w6 ⟨rfl, rfl⟩)
    | (go_at_call 14; refine (H7.out _).mono ?_; rintro e w7 ⟨rfl, k7⟩))
  all_goals
    go_wp2_with fail
    go_ret
    exact ⟨rfl, bnext (bnext (bnext k1 k2) k3) (Below.of_drew k7)⟩

theorem walk (a0 : Int) (a1 : ByteArray) (w0 : (Lit.int .i64 a0).wf = true) (w1 : a1.size ≤ maxLen) (w : World) :
    Calls Try.prog 5 #[.int .i64 a0, .string a1] w fun e w' => e = .returned (.bool true) ∧ Below w.heap.size w w' := by
  unfold maxLen at w1
  by_cases c : a1.size ≤ 1024
  · by_cases d : a1.size < 4
    · exact walk_few a0 a1 d w
    · obtain ⟨a, b, x, y, r, h⟩ : ∃ a b x y r, a1.data.toList = a :: b :: x :: y :: r := by
        have hl := len_of a1
        match h : a1.data.toList with
        | [] => rw [h] at hl; simp at hl; omega
        | [_] => rw [h] at hl; simp at hl; omega
        | [_, _] => rw [h] at hl; simp at hl; omega
        | [_, _, _] => rw [h] at hl; simp at hl; omega
        | a :: b :: x :: y :: r => exact ⟨a, b, x, y, r, rfl⟩
      exact walk_four a0 a1 c a b x y r h w
  · exact walk_long a0 a1 (by omega) c w

/-! ### THE ROW's STEP: WRITTEN OUT: LEAVE IT -/
set_option maxRecDepth 100000 in
theorem lifted (os : Os) (started : os.Started) (H : Type) (enc : TypeId × Value → H) :
    ReturnsInHanded {} Try.checked os 5 .any (Rows.crcBytesSpec.pre6 enc Try.prog Try.f5 Rows.crcBytesRow.domain false) (Rows.crcBytesSpec.post enc Try.prog Try.f5 false true false false) := by
  refine returnsInHanded_of_change (C := Try.checked) own started (by kernel_rfl) Try.func5
    (ChangeSpec.witness6 (enc := enc) (C := Try.checked) false ⟨#[], #[.int .i64 0, .string ByteArray.empty], []⟩ 8 (by kernel_rfl) (by kernel_rfl) (by kernel_rfl) (by kernel_rfl)) ?_
  intro W base args ds gs before hval0 hW hcnd _
  have hval : ∀ (j : Nat) t v, Try.f5.params[j]? = some t → args[j]? = some v → Value.okWide Try.prog W .any base t v := hval0
  have hW' := hW
  obtain ⟨p, q, hA0, hV, rfl, hfz, hnd⟩ := hW
  have hA : DataW.TrodAll enc Try.prog W 0 (fun _ => true) true Try.f5.params.toList args.toList ds p := hA0
  rw [Try.params5] at hA hval
  obtain ⟨v0, vs0, d0, ds0, p0, q0, hargs, rfl, rfl, h0, r0⟩ := trodAll_cons hA
  obtain ⟨v1, vs1, d1, ds1, p1, q1, rfl, rfl, rfl, h1, r1⟩ := trodAll_cons r0
  obtain ⟨rfl, rfl, rfl⟩ := trodAll_nil r1
  obtain rfl : args = #[v0, v1] := by cases args; simp_all
  obtain ⟨rfl, rfl⟩ := trodVars_none hV
  obtain ⟨a0, rfl, rfl, rfl, w0⟩ := open_int Try.underlying3 (hval 0 3 v0 rfl rfl) h0
  obtain ⟨a1, rfl, rfl, rfl, w1⟩ := open_string Try.underlying9 (hval 1 9 v1 rfl rfl) h1
  clear hA0 hval0
  simp only [List.append_nil] at hW'
  refine (walk a0 a1 w0 w1 W).mono fun e W' ⟨he, hg⟩ => ?_
  subst he
  exact ⟨_, rfl, _, _, _, [], _, [], hW', trodAll_mk1 (shut_bool Try.underlying4 _), (trodAll_cons_mk (shut_int Try.underlying3 w0) (trodAll_cons_mk (shut_string Try.underlying9 w1) trodAll_mk0)), rfl, hg.frame _, fun h => by cases h⟩

theorem over : Rows.crcBytesRow.holds Try.pinned (OpenSpec.ofChange Rows.crcBytesSpec) :=
  OpenClaim.holds_of_wide 5 Try.f5 rfl rfl rfl rfl rfl rfl rfl ⟨rfl, rfl, rfl, rfl, rfl⟩ rfl rfl rfl rfl rfl (by kernel_rfl) Try.func5 (by kernel_rfl)
    (of_decide_eq_true (by kernel_rfl)) (by unfold Func.isWrapper; first | (rw [if_pos (by decide +kernel)]; kernel_rfl) | (rw [if_neg (by decide +kernel)]; exact ⟨rfl, rfl⟩))
    (fun os started H enc _ => lifted os started H enc)

/-- ████ THE STATEMENT ████ -/
theorem proved : Rows.CrcBytesSaid :=
  over
#print axioms proved
end Go.Proofs.Ytdfkkacfaibmaaa.crcBytes
