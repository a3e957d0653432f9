/- Proved: for every number n and every text s the Go function NumTexts of the stage's statements returns true, and its arguments read behind the call as they did before; no condition beyond the form's own reach. -/
import Derived.Test.YtoieipodmckmiaaRows
import Derived.WalkKit
import Derived.ProofKit
import Derived.OpenShut
import Derived.SizedLaws
import Derived.Test.YtoieipodmckmiaaRefText
import Derived.ShutString
namespace Go.Proofs.Ytoieipodmckmiaa.numTexts
open Go.ChangeShapes Go.WideShapes Go.ChangeAt Go.RowKit
open Go.ChangeMaps (open_string shut_string)
set_option linter.unusedVariables false      -- a walk need not use every 'w<i>' (that an integer argument fits its kind)

theorem own : ownKnob Try.prog.godebug = none := by kernel_rfl

/-! ### STEP 1: THE WALK: the Go text returns true. 'Grown w w'': the world has at most new blocks (Derived/RowKit3.lean). Part the cases AHEAD of 'go_enter' where a test parts the walk; take each callee by a contract of your own. -/

theorem minus_ten : txt (-10) = [45, 49, 48] := by
  unfold txt
  rw [if_pos (by omega)]
  have e : (-10 : Int).natAbs = 10 := rfl
  rw [e, dg_step 10 (by omega), dg_small (10 / 10) (by omega)]
  rfl

theorem walk_long (n : Int) (s : ByteArray) (hs : s.size ≤ 140737488351232) (h : 100 < s.size) (w : World) :
    Calls Try.prog 7 #[.int .i64 n, .string s] w fun e w' => e = .returned (.bool true) ∧ Below w.heap.size w w' := by
  have H : Hid (∀ w, Calls Try.prog 24 #[.int .i64 (-10)] w fun e w' => e = .returned (.string ⟨#[45, 49, 48]⟩) ∧ Below w.heap.size w w') := fun w => by
    have h := text_any (-10) (by omega) w
    rwa [minus_ten] at h
  go_enter Try.func7, Try.ntmps7
  go_wp2_with fail
  refine (H.out _).mono ?_; rintro e w1 ⟨rfl, k1⟩
  go_wp2_with fail
  go_ret
  exact ⟨rfl, k1⟩

theorem walk_short (n : Int) (hn : -9223372036854775808 ≤ n ∧ n ≤ 9223372036854775807) (s : ByteArray) (h : s.size ≤ 100) (w : World) :
    Calls Try.prog 7 #[.int .i64 n, .string s] w fun e w' => e = .returned (.bool true) ∧ Below w.heap.size w w' := by
  obtain ⟨t, ht⟩ : ∃ t : ByteArray, t = ⟨(txt n).toArray⟩ := ⟨_, rfl⟩
  have htd : t.data.toList = txt n := by rw [ht]
  have hts : t.size ≤ 140737488351232 := by
    have h1 := len_of t
    rw [htd] at h1
    have h2 : (txt n).length ≤ 20 := by
      unfold txt
      have := len_dg n.natAbs 19 (by omega) (by omega)
      split
      · simp; omega
      · omega
    omega
  obtain ⟨V, hV⟩ : ∃ V, V = rdV s.data.toList := ⟨_, rfl⟩
  obtain ⟨E, hE⟩ : ∃ E, E = rdE s.data.toList := ⟨_, rfl⟩
  have H1 : Hid (∀ w, Calls Try.prog 24 #[.int .i64 n] w fun e w' => e = .returned (.string t) ∧ Below w.heap.size w w') := fun w => ht ▸ text_any n hn w
  have H2 : Hid (∀ w, Calls Try.prog 25 #[.string s] w fun e w' => e = .returned (.tuple #[.int .i64 V, .int .i64 E]) ∧ w' = w) := fun w => by rw [hV, hE]; exact read_any s (by omega) w
  have H3 : Hid (∀ w, Calls Try.prog 26 #[.string s] w fun e w' => e = .returned (.tuple #[.int .i64 V, .int .i64 E]) ∧ Below w.heap.size w w') := fun w => by rw [hV, hE]; exact refRead_any s (by omega) w
  have H4 : Hid (∀ w, Calls Try.prog 25 #[.string t] w fun e w' => e = .returned (.tuple #[.int .i64 n, .int .i64 0]) ∧ w' = w) := fun w => by
    have h := read_any t hts w
    rwa [htd, (rd_good (rd_txt n).1).1, (rd_good (rd_txt n).1).2, (rd_txt n).2, (vl_in hn).1, (vl_in hn).2] at h
  have H5 : Hid (∀ w, Calls Try.prog 27 #[.int .i64 n] w fun e w' => e = .returned (.string t) ∧ Below w.heap.size w w') := fun w => ht ▸ refText_any n hn w
  by_cases c : E = 0
  · have H6 : Hid (∀ w, Calls Try.prog 24 #[.int .i64 V] w fun e w' => e = .returned (.string s) ∧ Below w.heap.size w w') := fun w => by
      have hb : rdBad s.data.toList = false := by
        cases hb : rdBad s.data.toList
        · rfl
        · rw [hE, (rd_bad hb).2] at c; omega
      have hr : -9223372036854775808 ≤ rdNum s.data.toList ∧ rdNum s.data.toList ≤ 9223372036854775807 := by
        rw [hE, (rd_good hb).2] at c
        by_cases hr : -9223372036854775808 ≤ rdNum s.data.toList ∧ rdNum s.data.toList ≤ 9223372036854775807
        · exact hr
        · rw [(vl_out hr).2] at c; omega
      have hv : V = rdNum s.data.toList := by rw [hV, (rd_good hb).1, (vl_in hr).1]
      have h := text_any V (by rw [hv]; exact hr) w
      rwa [hv, txt_rd _ hb, Lib.mk_data, ← hv] at h
    subst c
    clear hV hE ht htd hts hn
    go_enter Try.func7, Try.ntmps7
    go_wp2_with fail
    refine (H1.out _).mono ?_; rintro e w1 ⟨rfl, k1⟩
    go_wp2_with fail
    refine (H2.out _).mono ?_; rintro e w2 ⟨rfl, rfl⟩
    go_wp2_with fail
    refine (H3.out _).mono ?_; rintro e w2 ⟨rfl, k2⟩
    go_wp2_with fail
    refine (H4.out _).mono ?_; rintro e w3 ⟨rfl, rfl⟩
    go_wp2_with fail
    refine (H5.out _).mono ?_; rintro e w3 ⟨rfl, k3⟩
    go_wp2_with fail
    refine (H6.out _).mono ?_; rintro e w4 ⟨rfl, k4⟩
    go_wp2_with fail
    go_ret
    exact ⟨rfl, bnext (bnext (bnext k1 k2) k3) k4⟩
  · have c' : (E != 0) = true := by simpa using c
    clear hV hE ht htd hts hn c
    go_enter Try.func7, Try.ntmps7
    go_wp2_with fail
    refine (H1.out _).mono ?_; rintro e w1 ⟨rfl, k1⟩
    go_wp2_with fail
    refine (H2.out _).mono ?_; rintro e w2 ⟨rfl, rfl⟩
    go_wp2_with fail
    refine (H3.out _).mono ?_; rintro e w2 ⟨rfl, k2⟩
    go_wp2_with fail
    refine (H4.out _).mono ?_; rintro e w3 ⟨rfl, rfl⟩
    go_wp2_with fail
    refine (H5.out _).mono ?_; rintro e w3 ⟨rfl, k3⟩
    go_wp2_with fail
    go_ret
    exact ⟨rfl, bnext (bnext k1 k2) k3⟩

theorem walk (a0 : Int) (a1 : ByteArray) (w0 : (Lit.int .i64 a0).wf = true) (w1 : a1.size ≤ maxLen) (hr : a1.size ≤ 140737488351232) (w : World) :
    Calls Try.prog 7 #[.int .i64 a0, .string a1] w fun e w' => e = .returned (.bool true) ∧ Below w.heap.size w w' := by
  by_cases c : 100 < a1.size
  · exact walk_long a0 a1 hr c w
  · exact walk_short a0 (bd64 w0) a1 (by omega) w

/-! ### THE ROW's STEP: WRITTEN OUT: LEAVE IT -/
set_option maxRecDepth 100000 in
theorem lifted (os : Os) (started : os.Started) (H : Type) (enc : TypeId × Value → H) :
    ReturnsInHanded {} Try.checked os 7 .any (Rows.numTextsSpec.pre6 enc Try.prog Try.f7 Rows.numTextsRow.domain false) (Rows.numTextsSpec.post enc Try.prog Try.f7 false true false false) := by
  refine returnsInHanded_of_change_sized (C := Try.checked) own started (by kernel_rfl) Try.func7
    (ChangeSpec.witness6 (enc := enc) (C := Try.checked) false ⟨#[], #[.int .i64 0, .string ByteArray.empty], []⟩ 8 (by kernel_rfl) (by kernel_rfl) (by kernel_rfl) (by kernel_rfl)) ?_
  intro W base args ds gs before hval0 hW hcnd hsz0 _
  have hsz : (DataW.weightsEach Try.prog (Try.f7.params.toList ++ Rows.numTextsSpec.plain.varTypes Try.prog) (ds ++ gs)).all (· ≤ reachBytes) = true := hsz0
  clear hsz0
  have hval : ∀ (j : Nat) t v, Try.f7.params[j]? = some t → args[j]? = some v → Value.okWide Try.prog W .any base t v := hval0
  have hW' := hW
  obtain ⟨p, q, hA0, hV, rfl, hfz, hnd⟩ := hW
  have hA : DataW.TrodAll enc Try.prog W 0 (fun _ => true) true Try.f7.params.toList args.toList ds p := hA0
  rw [Try.params7] at hA hval hsz
  obtain ⟨v0, vs0, d0, ds0, p0, q0, hargs, rfl, rfl, h0, r0⟩ := trodAll_cons hA
  obtain ⟨v1, vs1, d1, ds1, p1, q1, rfl, rfl, rfl, h1, r1⟩ := trodAll_cons r0
  obtain ⟨rfl, rfl, rfl⟩ := trodAll_nil r1
  obtain rfl : args = #[v0, v1] := by cases args; simp_all
  obtain ⟨rfl, rfl⟩ := trodVars_none hV
  obtain ⟨a0, rfl, rfl, rfl, w0⟩ := open_int Try.underlying3 (hval 0 3 v0 rfl rfl) h0
  obtain ⟨a1, rfl, rfl, rfl, w1⟩ := open_string Try.underlying9 (hval 1 9 v1 rfl rfl) h1
  clear hA0 hval0
  simp only [List.append_nil] at hW'
  have hr : a1.size ≤ 140737488351232 := by
    have := sized_string hsz (j := 1) (t := 9) rfl rfl
    simpa [reachBytes] using this
  refine (walk a0 a1 w0 w1 hr W).mono fun e W' ⟨he, hg⟩ => ?_
  subst he
  exact ⟨_, rfl, _, _, _, [], _, [], hW', trodAll_mk1 (shut_bool Try.underlying4 _), (trodAll_cons_mk (shut_int Try.underlying3 w0) (trodAll_cons_mk (shut_string Try.underlying9 w1) trodAll_mk0)), rfl, hg.frame _, fun h => by cases h⟩

theorem over : Rows.numTextsRow.holds Try.pinned (OpenSpec.ofChange Rows.numTextsSpec) :=
  OpenClaim.holds_of_wide 7 Try.f7 rfl rfl rfl rfl rfl rfl rfl ⟨rfl, rfl, rfl, rfl, rfl⟩ rfl rfl rfl rfl rfl (by kernel_rfl) Try.func7 (by kernel_rfl)
    (of_decide_eq_true (by kernel_rfl)) (by unfold Func.isWrapper; first | (rw [if_pos (by decide +kernel)]; kernel_rfl) | (rw [if_neg (by decide +kernel)]; exact ⟨rfl, rfl⟩))
    (fun os started H enc _ => lifted os started H enc)

/-- ████ THE STATEMENT ████ -/
theorem proved : Rows.NumTextsSaid :=
  over
#print axioms proved
end Go.Proofs.Ytoieipodmckmiaa.numTexts
