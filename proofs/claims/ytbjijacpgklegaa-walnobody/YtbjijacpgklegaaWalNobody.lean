/- Proved: for all numbers from, to and turn, quaysidelaw04.WalNobody(from, to, turn) returns true and the arguments read as before (no condition). -/
import Derived.Test.YtbjijacpgklegaaRows
import Derived.WalkKit
import Derived.Test.YtbjijacpgklegaaWake
import Derived.ProofKit
import Derived.OpenShut
import Derived.ShutString
namespace Go.Proofs.Ytbjijacpgklegaa.walNobody
open Go.ChangeShapes Go.WideShapes Go.ChangeAt Go.RowKit
open Go.ChangeMaps (open_string shut_string)
set_option linter.unusedVariables false

theorem own : ownKnob Try.prog.godebug = none := by kernel_rfl

set_option maxRecDepth 100000 in
theorem walk (a0 : Int) (a1 : Int) (a2 : Int) (w0 : (Lit.int .i64 a0).wf = true) (w1 : (Lit.int .i64 a1).wf = true) (w2 : (Lit.int .i64 a2).wf = true) (w : World) :
    Calls Try.prog 7 #[.int .i64 a0, .int .i64 a1, .int .i64 a2] w fun e w' => e = .returned (.bool true) ∧ Below w.heap.size w w' := by
  have hno : ¬ mayOpen 0 a0 a1 a2 := fun h => by unfold mayOpen at h; omega
  have H1 := (show Hid _ from open_no (.pointer none) (.inl rfl) 0 a0 a1 a2 hno w (.inl ⟨rfl, rfl⟩))
  have HA := (show Hid _ from awake_is)
  have HNO := (show Hid _ from hno)
  clear w0 w1 w2 hno
  go_enter Try.func7, Try.ntmps7
  go_wp2_with fail
  refine Calls.mono H1.out ?_; rintro e w1 ⟨rfl, k1⟩
  have HK1 := (show Hid _ from k1)
  have H2 := (show Hid _ from open_no (.pointer (some ⟨w1.heap.size, 0, none⟩)) (.inr ⟨_, rfl⟩) 0 a0 a1 a2 HNO.out (w1.alloc (.cells #[.slice none 0 0, .slice none 0 0, .slice none 0 0, .int .i64 0, .bool false] 69)) (.inr ⟨_, none, 0, rfl, by simp⟩))
  clear k1 H1
  go_wp2_with fail
  refine Calls.mono H2.out ?_; rintro e w2 ⟨rfl, k2⟩
  have HK2 : Hid (Kept (fun _ => False) w w2) := (HK1.out.alloc _).trans k2 (fun _ z => .inl z)
  clear k2 H2 HK1
  obtain ⟨W, hW⟩ : ∃ W, W = (w2.alloc (.cells #[.pointer none, .int .i64 0, .int .i64 0, .int .i64 0, .slice none 0 0, .int .i64 0] 71)).alloc (.cells #[.pointer none, .pointer (some ⟨w2.heap.size, 0, none⟩)] 42) := ⟨_, rfl⟩
  have x0 : W.cell? ⟨w2.heap.size + 1, 0, none⟩ = some (.pointer none) := by rw [hW]; simp [go_sem]
  have x1 : W.cell? ⟨w2.heap.size + 1, 1, none⟩ = some (.pointer (some ⟨w2.heap.size, 0, none⟩)) := by rw [hW]; simp [go_sem]
  have x2 : W.cell? ⟨w2.heap.size, 0, none⟩ = some (.pointer none) := by rw [hW]; simp [go_sem]
  have HX0 := (show Hid _ from x0)
  have HX1 := (show Hid _ from x1)
  have HO0 : Hid (∀ wr, Kept (fun _ => False) W wr → Opened wr (.pointer none) false) := fun wr k => .inl ⟨rfl, rfl⟩
  have HO1 : Hid (∀ wr, Kept (fun _ => False) W wr → Opened wr (.pointer (some ⟨w2.heap.size, 0, none⟩)) false) := fun wr k => .inr ⟨_, none, rfl, k.cell x2 (fun z => z), rfl⟩
  have HKW : Hid (Kept (fun _ => False) w W) := by
    show Kept (fun _ => False) w W
    rw [hW]
    exact (HK2.out.alloc _).alloc _
  have HW := (show Hid _ from hW)
  clear hW x0 x1 x2 HK2
  go_wp2_with fail
  rw [← HW.out]
  go_loopw [12] (fun i wr => ∃ j : Nat, j ≤ 2 ∧ i = .int .i64 j ∧ Hid (Kept (fun _ => False) W wr)) (fun i _ => 2 - (intOf i).toNat)
  case atStart => exact ⟨0, by omega, rfl, Kept.refl _ _⟩
  case round =>
    obtain ⟨j, hj, rfl, HK⟩ := hrel
    have c0 := HK.out.cell HX0.out (fun z => z)
    have c1 := HK.out.cell HX1.out (fun z => z)
    obtain rfl | rfl | rfl : j = 0 ∨ j = 1 ∨ j = 2 := by omega
    · have HRc : Hid (∀ wr, Kept (fun _ => False) W wr → _) := fun wr k => records_no (.pointer none) wr (HO0.out wr k)
      have HAd : Hid (∀ u wr, Kept (fun _ => False) W wr → _) := fun u wr k => add_no (.pointer none) u wr (HO0.out wr k)
      have HSy : Hid (∀ wr, Kept (fun _ => False) W wr → _) := fun wr k => sync_no (.pointer none) wr (HO0.out wr k)
      have HUs : Hid (∀ wr, Kept (fun _ => False) W wr → _) := fun wr k => used_no (.pointer none) wr (HO0.out wr k)
      go_wp2_with fail
      refine Calls.mono (HRc.out _ HK.out) ?_; rintro e w5 ⟨rfl, rfl⟩
      go_wp2_with fail
      refine Calls.mono (HAd.out _ _ (HK.out.alloc _)) ?_; rintro e w6 ⟨rfl, rfl⟩
      have HK2 : Hid (Kept (fun _ => False) W (w5.alloc (.cells #[.string ⟨#[120]⟩] 9))) := HK.out.alloc _
      have m0 : (w5.alloc (.cells #[.string ⟨#[120]⟩] 9)).cell? ⟨w2.heap.size + 1, 0, none⟩ = some (.pointer none) := HK2.out.cell HX0.out (fun z => z)
      have m1 : (w5.alloc (.cells #[.string ⟨#[120]⟩] 9)).cell? ⟨w2.heap.size + 1, 1, none⟩ = some (.pointer (some ⟨w2.heap.size, 0, none⟩)) := HK2.out.cell HX1.out (fun z => z)
      generalize w5.alloc (.cells #[.string ⟨#[120]⟩] 9) = w6 at *
      clear c0 c1
      go_wp2_with fail
      refine Calls.mono (HSy.out _ HK2.out) ?_; rintro e w7 ⟨rfl, rfl⟩
      go_wp2_with fail
      refine Calls.mono (HUs.out _ HK2.out) ?_; rintro e w7 ⟨rfl, rfl⟩
      go_wp2_with fail
      go_roundw
      case rel => exact ⟨1, by omega, by go_num, HK2.out⟩
      case measure => simp [intOf]
    · have HRc : Hid (∀ wr, Kept (fun _ => False) W wr → _) := fun wr k => records_no (.pointer (some ⟨w2.heap.size, 0, none⟩)) wr (HO1.out wr k)
      have HAd : Hid (∀ u wr, Kept (fun _ => False) W wr → _) := fun u wr k => add_no (.pointer (some ⟨w2.heap.size, 0, none⟩)) u wr (HO1.out wr k)
      have HSy : Hid (∀ wr, Kept (fun _ => False) W wr → _) := fun wr k => sync_no (.pointer (some ⟨w2.heap.size, 0, none⟩)) wr (HO1.out wr k)
      have HUs : Hid (∀ wr, Kept (fun _ => False) W wr → _) := fun wr k => used_no (.pointer (some ⟨w2.heap.size, 0, none⟩)) wr (HO1.out wr k)
      go_wp2_with fail
      refine Calls.mono (HRc.out _ HK.out) ?_; rintro e w5 ⟨rfl, rfl⟩
      go_wp2_with fail
      refine Calls.mono (HAd.out _ _ (HK.out.alloc _)) ?_; rintro e w6 ⟨rfl, rfl⟩
      have HK2 : Hid (Kept (fun _ => False) W (w5.alloc (.cells #[.string ⟨#[120]⟩] 9))) := HK.out.alloc _
      have m0 : (w5.alloc (.cells #[.string ⟨#[120]⟩] 9)).cell? ⟨w2.heap.size + 1, 0, none⟩ = some (.pointer none) := HK2.out.cell HX0.out (fun z => z)
      have m1 : (w5.alloc (.cells #[.string ⟨#[120]⟩] 9)).cell? ⟨w2.heap.size + 1, 1, none⟩ = some (.pointer (some ⟨w2.heap.size, 0, none⟩)) := HK2.out.cell HX1.out (fun z => z)
      generalize w5.alloc (.cells #[.string ⟨#[120]⟩] 9) = w6 at *
      clear c0 c1
      go_wp2_with fail
      refine Calls.mono (HSy.out _ HK2.out) ?_; rintro e w7 ⟨rfl, rfl⟩
      go_wp2_with fail
      refine Calls.mono (HUs.out _ HK2.out) ?_; rintro e w7 ⟨rfl, rfl⟩
      go_wp2_with fail
      go_roundw
      case rel => exact ⟨2, by omega, by go_num, HK2.out⟩
      case measure => simp [intOf]
    · go_wp2_with fail
      refine Calls.mono (HA.out _) ?_; rintro e w3 ⟨rfl, k3⟩
      have HK3 := (show Hid _ from k3)
      clear k3
      go_wp2_with fail
      go_ret
      have hb := (HKW.out.trans HK.out (fun _ z => .inl z)).below (Nat.le_refl _) (fun _ z => z.elim)
      exact ⟨rfl, hb.trans (HK3.out.mono hb.size)⟩

/-! ### THE ROW's STEP: WRITTEN OUT: LEAVE IT -/
set_option maxRecDepth 100000 in
theorem lifted (os : Os) (started : os.Started) (H : Type) (enc : TypeId × Value → H) :
    ReturnsInHanded {} Try.checked os 7 .any (Rows.walNobodySpec.pre6 enc Try.prog Try.f7 Rows.walNobodyRow.domain false) (Rows.walNobodySpec.post enc Try.prog Try.f7 false true false false) := by
  refine returnsInHanded_of_change (C := Try.checked) own started (by kernel_rfl) Try.func7
    (ChangeSpec.witness6 (enc := enc) (C := Try.checked) false ⟨#[], #[.int .i64 0, .int .i64 0, .int .i64 0], []⟩ 8 (by kernel_rfl) (by kernel_rfl) (by kernel_rfl) (by kernel_rfl)) ?_
  intro W base args ds gs before hval0 hW hcnd _
  have hval : ∀ (j : Nat) t v, Try.f7.params[j]? = some t → args[j]? = some v → Value.okWide Try.prog W .any base t v := hval0
  have hW' := hW
  obtain ⟨p, q, hA0, hV, rfl, hfz, hnd⟩ := hW
  have hA : DataW.TrodAll enc Try.prog W 0 (fun _ => true) true Try.f7.params.toList args.toList ds p := hA0
  rw [Try.params7] at hA hval
  obtain ⟨v0, vs0, d0, ds0, p0, q0, hargs, rfl, rfl, h0, r0⟩ := trodAll_cons hA
  obtain ⟨v1, vs1, d1, ds1, p1, q1, rfl, rfl, rfl, h1, r1⟩ := trodAll_cons r0
  obtain ⟨v2, vs2, d2, ds2, p2, q2, rfl, rfl, rfl, h2, r2⟩ := trodAll_cons r1
  obtain ⟨rfl, rfl, rfl⟩ := trodAll_nil r2
  obtain rfl : args = #[v0, v1, v2] := by cases args; simp_all
  obtain ⟨rfl, rfl⟩ := trodVars_none hV
  obtain ⟨a0, rfl, rfl, rfl, w0⟩ := open_int Try.underlying3 (hval 0 3 v0 rfl rfl) h0
  obtain ⟨a1, rfl, rfl, rfl, w1⟩ := open_int Try.underlying3 (hval 1 3 v1 rfl rfl) h1
  obtain ⟨a2, rfl, rfl, rfl, w2⟩ := open_int Try.underlying3 (hval 2 3 v2 rfl rfl) h2
  clear hA0 hval0
  simp only [List.append_nil] at hW'
  refine (walk a0 a1 a2 w0 w1 w2 W).mono fun e W' ⟨he, hg⟩ => ?_
  subst he
  exact ⟨_, rfl, _, _, _, [], _, [], hW', trodAll_mk1 (shut_bool Try.underlying4 _), (trodAll_cons_mk (shut_int Try.underlying3 w0) (trodAll_cons_mk (shut_int Try.underlying3 w1) (trodAll_cons_mk (shut_int Try.underlying3 w2) trodAll_mk0))), rfl, hg.frame _, fun h => by cases h⟩

theorem over : Rows.walNobodyRow.holds Try.pinned (OpenSpec.ofChange Rows.walNobodySpec) :=
  OpenClaim.holds_of_wide 7 Try.f7 rfl rfl rfl rfl rfl rfl rfl ⟨rfl, rfl, rfl, rfl, rfl⟩ rfl rfl rfl rfl rfl (by kernel_rfl) Try.func7 (by kernel_rfl)
    (of_decide_eq_true (by kernel_rfl)) (by unfold Func.isWrapper; first | (rw [if_pos (by decide +kernel)]; kernel_rfl) | (rw [if_neg (by decide +kernel)]; exact ⟨rfl, rfl⟩))
    (fun os started H enc _ => lifted os started H enc)

/-- ████ THE STATEMENT ████ -/
theorem proved : Rows.WalNobodySaid :=
  over
#print axioms proved
end Go.Proofs.Ytbjijacpgklegaa.walNobody
