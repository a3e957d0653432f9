/- Proved: for every a and b the Go function NumAdds of the stage's statements returns true, and its arguments read behind the call as they did before; no condition. -/
import Derived.Test.YtoieipodmckmiaaRows
import Derived.WalkKit
import Derived.ProofKit
import Derived.OpenShut
import Derived.Test.YtoieipodmckmiaaWide
import Derived.ShutString
namespace Go.Proofs.Ytoieipodmckmiaa.numAdds
open Go.ChangeShapes Go.WideShapes Go.ChangeAt Go.RowKit
open Go.ChangeMaps (open_string shut_string)
set_option linter.unusedVariables false      -- a walk need not use every 'w<i>' (that an integer argument fits its kind)

theorem own : ownKnob Try.prog.godebug = none := by kernel_rfl

/-! ### STEP 1: THE WALK: the Go text returns true. 'Grown w w'': the world has at most new blocks (Derived/RowKit3.lean). Part the cases AHEAD of 'go_enter' where a test parts the walk; take each callee by a contract of your own. -/

/-- Both sums answer the same. -/
theorem add_same (a b : Int) (ha : -9223372036854775808 ≤ a ∧ a ≤ 9223372036854775807) (hb : -9223372036854775808 ≤ b ∧ b ≤ 9223372036854775807) :
    ∃ s e : Int, (∀ w, Calls Try.prog 9 #[.int .i64 a, .int .i64 b] w fun r w' => r = .returned (.tuple #[.int .i64 s, .int .i64 e]) ∧ w' = w) ∧
      ∀ w, Calls Try.prog 10 #[.int .i64 a, .int .i64 b] w fun r w' => r = .returned (.tuple #[.int .i64 s, .int .i64 e]) ∧ Below w.heap.size w w' := by
  by_cases h : -9223372036854775808 ≤ a + b ∧ a + b ≤ 9223372036854775807
  · exact ⟨a + b, 0, fun w => add_in a b ha hb h.1 h.2 w, fun w => refAdd_in a b ha hb h w⟩
  · exact ⟨0, 10, fun w => add_over a b ha hb (by omega) w, fun w => refAdd_over a b ha hb (by omega) w⟩

theorem neg_same (a : Int) (ha : -9223372036854775808 ≤ a ∧ a ≤ 9223372036854775807) :
    ∃ s e : Int, (∀ w, Calls Try.prog 13 #[.int .i64 a] w fun r w' => r = .returned (.tuple #[.int .i64 s, .int .i64 e]) ∧ w' = w) ∧
      ∀ w, Calls Try.prog 14 #[.int .i64 a] w fun r w' => r = .returned (.tuple #[.int .i64 s, .int .i64 e]) ∧ Below w.heap.size w w' := by
  by_cases h : -9223372036854775808 < a
  · exact ⟨-a, 0, fun w => neg_in a ha h w, fun w => refNeg_in a ha h w⟩
  · obtain rfl : a = -9223372036854775808 := by omega
    exact ⟨0, 10, fun w => neg_least w, fun w => refNeg_least w⟩

theorem walk_in (a b : Int) (ha : -9223372036854775808 ≤ a ∧ a ≤ 9223372036854775807) (hb : -9223372036854775808 ≤ b ∧ b ≤ 9223372036854775807)
    (h : -9223372036854775808 ≤ a - b ∧ a - b ≤ 9223372036854775807) (w : World) :
    Calls Try.prog 3 #[.int .i64 a, .int .i64 b] w fun e w' => e = .returned (.bool true) ∧ Below w.heap.size w w' := by
  obtain ⟨s, f, c1, c2⟩ := add_same a b ha hb
  obtain ⟨n, g, c3, c4⟩ := neg_same a ha
  have H1 : Hid (∀ w, Calls Try.prog 9 #[.int .i64 a, .int .i64 b] w fun r w' => r = .returned (.tuple #[.int .i64 s, .int .i64 f]) ∧ w' = w) := c1
  have H2 : Hid (∀ w, Calls Try.prog 10 #[.int .i64 a, .int .i64 b] w fun r w' => r = .returned (.tuple #[.int .i64 s, .int .i64 f]) ∧ Below w.heap.size w w') := c2
  have H3 : Hid (∀ w, Calls Try.prog 13 #[.int .i64 a] w fun r w' => r = .returned (.tuple #[.int .i64 n, .int .i64 g]) ∧ w' = w) := c3
  have H4 : Hid (∀ w, Calls Try.prog 14 #[.int .i64 a] w fun r w' => r = .returned (.tuple #[.int .i64 n, .int .i64 g]) ∧ Below w.heap.size w w') := c4
  clear c1 c2 c3 c4
  have t1 : (a - b + b != a) = false := by simp
  go_enter Try.func3, Try.ntmps3
  go_wp2_with fail
  refine (H1.out _).mono ?_; rintro e w1 ⟨rfl, rfl⟩
  go_wp2_with fail
  refine (H2.out _).mono ?_; rintro e w1 ⟨rfl, k1⟩
  go_wp2_with fail
  refine (sub_in a b ha hb h.1 h.2 _).mono ?_; rintro e w2 ⟨rfl, rfl⟩
  go_wp2_with fail
  refine (refSub_in a b ha hb h _).mono ?_; rintro e w2 ⟨rfl, k2⟩
  go_wp2_with fail
  refine (add_in (a - b) b h hb (by omega) (by omega) _).mono ?_; rintro e w3 ⟨rfl, rfl⟩
  go_wp2_with fail
  refine (H3.out _).mono ?_; rintro e w1 ⟨rfl, rfl⟩
  go_wp2_with fail
  refine (H4.out _).mono ?_; rintro e w3 ⟨rfl, k3⟩
  go_wp2_with fail
  refine (adds_true _).mono ?_; rintro e w4 ⟨rfl, rfl⟩
  go_wp2_with fail
  go_ret
  exact ⟨rfl, bnext (bnext k1 k2) k3⟩

theorem walk_over (a b : Int) (ha : -9223372036854775808 ≤ a ∧ a ≤ 9223372036854775807) (hb : -9223372036854775808 ≤ b ∧ b ≤ 9223372036854775807)
    (h : ¬ (-9223372036854775808 ≤ a - b ∧ a - b ≤ 9223372036854775807)) (w : World) :
    Calls Try.prog 3 #[.int .i64 a, .int .i64 b] w fun e w' => e = .returned (.bool true) ∧ Below w.heap.size w w' := by
  obtain ⟨s, f, c1, c2⟩ := add_same a b ha hb
  obtain ⟨n, g, c3, c4⟩ := neg_same a ha
  have H1 : Hid (∀ w, Calls Try.prog 9 #[.int .i64 a, .int .i64 b] w fun r w' => r = .returned (.tuple #[.int .i64 s, .int .i64 f]) ∧ w' = w) := c1
  have H2 : Hid (∀ w, Calls Try.prog 10 #[.int .i64 a, .int .i64 b] w fun r w' => r = .returned (.tuple #[.int .i64 s, .int .i64 f]) ∧ Below w.heap.size w w') := c2
  have H3 : Hid (∀ w, Calls Try.prog 13 #[.int .i64 a] w fun r w' => r = .returned (.tuple #[.int .i64 n, .int .i64 g]) ∧ w' = w) := c3
  have H4 : Hid (∀ w, Calls Try.prog 14 #[.int .i64 a] w fun r w' => r = .returned (.tuple #[.int .i64 n, .int .i64 g]) ∧ Below w.heap.size w w') := c4
  clear c1 c2 c3 c4
  go_enter Try.func3, Try.ntmps3
  go_wp2_with fail
  refine (H1.out _).mono ?_; rintro e w1 ⟨rfl, rfl⟩
  go_wp2_with fail
  refine (H2.out _).mono ?_; rintro e w1 ⟨rfl, k1⟩
  go_wp2_with fail
  refine (sub_over a b ha hb (by omega) _).mono ?_; rintro e w2 ⟨rfl, rfl⟩
  go_wp2_with fail
  refine (refSub_over a b ha hb (by omega) _).mono ?_; rintro e w2 ⟨rfl, k2⟩
  go_wp2_with fail
  refine (H3.out _).mono ?_; rintro e w1 ⟨rfl, rfl⟩
  go_wp2_with fail
  refine (H4.out _).mono ?_; rintro e w3 ⟨rfl, k3⟩
  go_wp2_with fail
  refine (adds_true _).mono ?_; rintro e w4 ⟨rfl, rfl⟩
  go_wp2_with fail
  go_ret
  exact ⟨rfl, bnext (bnext k1 k2) k3⟩

theorem walk (a0 : Int) (a1 : Int) (w0 : (Lit.int .i64 a0).wf = true) (w1 : (Lit.int .i64 a1).wf = true) (w : World) :
    Calls Try.prog 3 #[.int .i64 a0, .int .i64 a1] w fun e w' => e = .returned (.bool true) ∧ Below w.heap.size w w' := by
  by_cases h : -9223372036854775808 ≤ a0 - a1 ∧ a0 - a1 ≤ 9223372036854775807
  · exact walk_in a0 a1 (bd64 w0) (bd64 w1) h w
  · exact walk_over a0 a1 (bd64 w0) (bd64 w1) h w

/-! ### THE ROW's STEP: WRITTEN OUT: LEAVE IT -/
set_option maxRecDepth 100000 in
theorem lifted (os : Os) (started : os.Started) (H : Type) (enc : TypeId × Value → H) :
    ReturnsInHanded {} Try.checked os 3 .any (Rows.numAddsSpec.pre6 enc Try.prog Try.f3 Rows.numAddsRow.domain false) (Rows.numAddsSpec.post enc Try.prog Try.f3 false true false false) := by
  refine returnsInHanded_of_change (C := Try.checked) own started (by kernel_rfl) Try.func3
    (ChangeSpec.witness6 (enc := enc) (C := Try.checked) false ⟨#[], #[.int .i64 0, .int .i64 0], []⟩ 8 (by kernel_rfl) (by kernel_rfl) (by kernel_rfl) (by kernel_rfl)) ?_
  intro W base args ds gs before hval0 hW hcnd _
  have hval : ∀ (j : Nat) t v, Try.f3.params[j]? = some t → args[j]? = some v → Value.okWide Try.prog W .any base t v := hval0
  have hW' := hW
  obtain ⟨p, q, hA0, hV, rfl, hfz, hnd⟩ := hW
  have hA : DataW.TrodAll enc Try.prog W 0 (fun _ => true) true Try.f3.params.toList args.toList ds p := hA0
  rw [Try.params3] at hA hval
  obtain ⟨v0, vs0, d0, ds0, p0, q0, hargs, rfl, rfl, h0, r0⟩ := trodAll_cons hA
  obtain ⟨v1, vs1, d1, ds1, p1, q1, rfl, rfl, rfl, h1, r1⟩ := trodAll_cons r0
  obtain ⟨rfl, rfl, rfl⟩ := trodAll_nil r1
  obtain rfl : args = #[v0, v1] := by cases args; simp_all
  obtain ⟨rfl, rfl⟩ := trodVars_none hV
  obtain ⟨a0, rfl, rfl, rfl, w0⟩ := open_int Try.underlying3 (hval 0 3 v0 rfl rfl) h0
  obtain ⟨a1, rfl, rfl, rfl, w1⟩ := open_int Try.underlying3 (hval 1 3 v1 rfl rfl) h1
  clear hA0 hval0
  simp only [List.append_nil] at hW'
  refine (walk a0 a1 w0 w1 W).mono fun e W' ⟨he, hg⟩ => ?_
  subst he
  exact ⟨_, rfl, _, _, _, [], _, [], hW', trodAll_mk1 (shut_bool Try.underlying4 _), (trodAll_cons_mk (shut_int Try.underlying3 w0) (trodAll_cons_mk (shut_int Try.underlying3 w1) trodAll_mk0)), rfl, hg.frame _, fun h => by cases h⟩

theorem over : Rows.numAddsRow.holds Try.pinned (OpenSpec.ofChange Rows.numAddsSpec) :=
  OpenClaim.holds_of_wide 3 Try.f3 rfl rfl rfl rfl rfl rfl rfl ⟨rfl, rfl, rfl, rfl, rfl⟩ rfl rfl rfl rfl rfl (by kernel_rfl) Try.func3 (by kernel_rfl)
    (of_decide_eq_true (by kernel_rfl)) (by unfold Func.isWrapper; first | (rw [if_pos (by decide +kernel)]; kernel_rfl) | (rw [if_neg (by decide +kernel)]; exact ⟨rfl, rfl⟩))
    (fun os started H enc _ => lifted os started H enc)

/-- ████ THE STATEMENT ████ -/
theorem proved : Rows.NumAddsSaid :=
  over
#print axioms proved
end Go.Proofs.Ytoieipodmckmiaa.numAdds
