/- Proved: for every number n and every text s, quaysidelaw03.DiskNobody(n, s) returns true and both arguments read as before (no condition). -/
import Derived.Test.YtlkkeabenklefaaRows
import Derived.WalkKit
import Derived.ProofKit
import Derived.OpenShut
import Derived.ShutString
import Derived.Test.YtlkkeabenklefaaAwake
namespace Go.Proofs.Ytlkkeabenklefaa.diskNobody
open Go.ChangeShapes Go.WideShapes Go.ChangeAt Go.RowKit
open Go.ChangeMaps (open_string shut_string)
set_option linter.unusedVariables false

theorem own : ownKnob Try.prog.godebug = none := by kernel_rfl

theorem nobody (v : Value) (W : World) (h : Szd W v 0) (a0 : Int) (a1 : ByteArray) :
    Hid (Calls Try.prog 13 #[v, .int .i64 a0] W fun e w' => e = .returned (.tuple #[.string ⟨#[]⟩, .int .i64 1]) ∧ w' = W) ∧ Hid (Calls Try.prog 23 #[v] W fun e w' => e = .returned (.int .i64 0) ∧ w' = W) ∧
    Hid (Calls Try.prog 11 #[v, .int .i64 a0, .string a1] W fun e w' => e = .returned (.int .i64 1) ∧ w' = W) ∧ Hid (Calls Try.prog 15 #[v] W fun e w' => e = .returned (.int .i64 1) ∧ w' = W) ∧
    Hid (Calls Try.prog 17 #[v, .int .i64 a0] W fun e w' => e = .returned (.int .i64 1) ∧ w' = W) ∧ Hid (Calls Try.prog 19 #[v, .slice none 0 0] W fun e w' => e = .returned (.int .i64 1) ∧ w' = W) :=
  ⟨read_no v 0 a0 W h (by omega), size_is v 0 W h, write_no v 0 a0 a1 W h (by omega), flush_no v W h, fuse_no v a0 W h, crash_no v _ W h⟩

set_option maxRecDepth 100000 in
theorem walk (a0 : Int) (a1 : ByteArray) (w0 : (Lit.int .i64 a0).wf = true) (w1 : a1.size ≤ maxLen) (w : World) :
    Calls Try.prog 6 #[.int .i64 a0, .string a1] w fun e w' => e = .returned (.bool true) ∧ Below w.heap.size w w' := by
  obtain ⟨W, hW⟩ : ∃ W, W = (w.alloc (.cells #[.slice none 0 0, .slice none 0 0, .slice none 0 0, .int .i64 0, .bool false] 56)).alloc (.cells #[.pointer none, .pointer (some ⟨w.heap.size, 0, none⟩)] 23) := ⟨_, rfl⟩
  have hb : Below w.heap.size w W := by rw [hW]; exact ((Below.refl _ w).alloc (Nat.le_refl _) _).alloc (by simp) _
  have hp : ∀ j, W.cell? ⟨w.heap.size, j, none⟩ = (#[.slice none 0 0, .slice none 0 0, .slice none 0 0, .int .i64 0, .bool false] : Array Value)[j]? := by
    intro j
    rw [hW, World.cell?_alloc_lt _ _ _ (by simp), World.cell?_alloc_new]
  have c0 : W.cell? ⟨w.heap.size + 1, 0, none⟩ = some (.pointer none) := by
    rw [hW]
    simp [go_sem]
  have c1 : W.cell? ⟨w.heap.size + 1, 1, none⟩ = some (.pointer (some ⟨w.heap.size, 0, none⟩)) := by
    rw [hW]
    simp [go_sem]
  obtain ⟨HR0, HZ0, HWr0, HFl0, HFu0, HCr0⟩ := nobody (.pointer none) W (.inl ⟨rfl, rfl⟩) a0 a1
  obtain ⟨HR1, HZ1, HWr1, HFl1, HFu1, HCr1⟩ := nobody (.pointer (some ⟨w.heap.size, 0, none⟩)) W (.inr ⟨_, none, 0, rfl, by rw [hp]; rfl⟩) a0 a1
  have HO0 := (show Hid _ from off_nil W)
  have HO1 := (show Hid _ from off_at w.heap.size false W (by rw [hp]; rfl))
  have HWa0 := (show Hid _ from waits_nil W)
  have HWa1 : Hid (Calls Try.prog 22 #[.pointer (some ⟨w.heap.size, 0, none⟩)] W fun e w' => e = .returned (.int .i64 0) ∧ w' = W) := waits_at w.heap.size none 0 0 W (by rw [hp]; rfl)
  have HA := (show Hid _ from awake_is W)
  have HB := (show Hid _ from hb)
  clear hb hp
  have HW := (show Hid _ from hW)
  clear hW
  go_enter Try.func6, Try.ntmps6
  go_wp2_with fail
  rw [← HW.out]
  obtain ⟨p, hp⟩ : ∃ p, w.heap.size = p := ⟨_, rfl⟩
  rw [hp] at c0 c1 HR1 HZ1 HWr1 HFl1 HFu1 HCr1 HO1 HWa1
  rw [hp]
  clear hp
  go_loopw [6] (fun i wr => ∃ j : Nat, j ≤ 2 ∧ i = .int .i64 j ∧ wr = W) (fun i _ => 2 - (intOf i).toNat)
  case atStart => exact ⟨0, by omega, rfl, rfl⟩
  case round =>
    obtain ⟨j, hj, rfl, rfl⟩ := hrel
    obtain rfl | rfl | rfl : j = 0 ∨ j = 1 ∨ j = 2 := by omega
    · have HR := HR0; have HZ := HZ0; have HWr := HWr0; have HFl := HFl0; have HFu := HFu0; have HCr := HCr0; have HO := HO0; have HWa := HWa0
      go_wp2_with fail
      refine Calls.mono HR.out ?_; rintro e w1 ⟨rfl, rfl⟩
      go_wp2_with fail
      refine Calls.mono HZ.out ?_; rintro e w1 ⟨rfl, rfl⟩
      go_wp2_with fail
      refine Calls.mono HWr.out ?_; rintro e w1 ⟨rfl, rfl⟩
      go_wp2_with fail
      refine Calls.mono HFl.out ?_; rintro e w1 ⟨rfl, rfl⟩
      go_wp2_with fail
      refine Calls.mono HWa.out ?_; rintro e w1 ⟨rfl, rfl⟩
      go_wp2_with fail
      refine Calls.mono HFu.out ?_; rintro e w1 ⟨rfl, rfl⟩
      go_wp2_with fail
      refine Calls.mono HO.out ?_; rintro e w1 ⟨rfl, rfl⟩
      go_wp2_with fail
      refine Calls.mono HCr.out ?_; rintro e w1 ⟨rfl, rfl⟩
      go_wp2_with fail
      go_roundw
      case rel => exact ⟨1, by omega, by go_num, trivial⟩
      case measure => simp [intOf]
    · have HR := HR1; have HZ := HZ1; have HWr := HWr1; have HFl := HFl1; have HFu := HFu1; have HCr := HCr1; have HO := HO1; have HWa := HWa1
      go_wp2_with fail
      refine Calls.mono HR.out ?_; rintro e w1 ⟨rfl, rfl⟩
      go_wp2_with fail
      refine Calls.mono HZ.out ?_; rintro e w1 ⟨rfl, rfl⟩
      go_wp2_with fail
      refine Calls.mono HWr.out ?_; rintro e w1 ⟨rfl, rfl⟩
      go_wp2_with fail
      refine Calls.mono HFl.out ?_; rintro e w1 ⟨rfl, rfl⟩
      go_wp2_with fail
      refine Calls.mono HWa.out ?_; rintro e w1 ⟨rfl, rfl⟩
      go_wp2_with fail
      refine Calls.mono HFu.out ?_; rintro e w1 ⟨rfl, rfl⟩
      go_wp2_with fail
      refine Calls.mono HO.out ?_; rintro e w1 ⟨rfl, rfl⟩
      go_wp2_with fail
      refine Calls.mono HCr.out ?_; rintro e w1 ⟨rfl, rfl⟩
      go_wp2_with fail
      go_roundw
      case rel => exact ⟨2, by omega, by go_num, trivial⟩
      case measure => simp [intOf]
    · go_wp2_with fail
      refine Calls.mono HA.out ?_; rintro e w1 ⟨rfl, k1⟩
      have HK := (show Hid _ from k1)
      clear k1
      go_wp2_with fail
      go_ret
      exact ⟨rfl, HB.out.trans (HK.out.mono HB.out.size)⟩

/-! ### THE ROW's STEP: WRITTEN OUT: LEAVE IT -/
set_option maxRecDepth 100000 in
theorem lifted (os : Os) (started : os.Started) (H : Type) (enc : TypeId × Value → H) :
    ReturnsInHanded {} Try.checked os 6 .any (Rows.diskNobodySpec.pre6 enc Try.prog Try.f6 Rows.diskNobodyRow.domain false) (Rows.diskNobodySpec.post enc Try.prog Try.f6 false true false false) := by
  refine returnsInHanded_of_change (C := Try.checked) own started (by kernel_rfl) Try.func6
    (ChangeSpec.witness6 (enc := enc) (C := Try.checked) false ⟨#[], #[.int .i64 0, .string ByteArray.empty], []⟩ 8 (by kernel_rfl) (by kernel_rfl) (by kernel_rfl) (by kernel_rfl)) ?_
  intro W base args ds gs before hval0 hW hcnd _
  have hval : ∀ (j : Nat) t v, Try.f6.params[j]? = some t → args[j]? = some v → Value.okWide Try.prog W .any base t v := hval0
  have hW' := hW
  obtain ⟨p, q, hA0, hV, rfl, hfz, hnd⟩ := hW
  have hA : DataW.TrodAll enc Try.prog W 0 (fun _ => true) true Try.f6.params.toList args.toList ds p := hA0
  rw [Try.params6] at hA hval
  obtain ⟨v0, vs0, d0, ds0, p0, q0, hargs, rfl, rfl, h0, r0⟩ := trodAll_cons hA
  obtain ⟨v1, vs1, d1, ds1, p1, q1, rfl, rfl, rfl, h1, r1⟩ := trodAll_cons r0
  obtain ⟨rfl, rfl, rfl⟩ := trodAll_nil r1
  obtain rfl : args = #[v0, v1] := by cases args; simp_all
  obtain ⟨rfl, rfl⟩ := trodVars_none hV
  obtain ⟨a0, rfl, rfl, rfl, w0⟩ := open_int Try.underlying3 (hval 0 3 v0 rfl rfl) h0
  obtain ⟨a1, rfl, rfl, rfl, w1⟩ := open_string Try.underlying9 (hval 1 9 v1 rfl rfl) h1
  clear hA0 hval0
  simp only [List.append_nil] at hW'
  refine (walk a0 a1 w0 w1 W).mono fun e W' ⟨he, hg⟩ => ?_
  subst he
  exact ⟨_, rfl, _, _, _, [], _, [], hW', trodAll_mk1 (shut_bool Try.underlying4 _), (trodAll_cons_mk (shut_int Try.underlying3 w0) (trodAll_cons_mk (shut_string Try.underlying9 w1) trodAll_mk0)), rfl, hg.frame _, fun h => by cases h⟩

theorem over : Rows.diskNobodyRow.holds Try.pinned (OpenSpec.ofChange Rows.diskNobodySpec) :=
  OpenClaim.holds_of_wide 6 Try.f6 rfl rfl rfl rfl rfl rfl rfl ⟨rfl, rfl, rfl, rfl, rfl⟩ rfl rfl rfl rfl rfl (by kernel_rfl) Try.func6 (by kernel_rfl)
    (of_decide_eq_true (by kernel_rfl)) (by unfold Func.isWrapper; first | (rw [if_pos (by decide +kernel)]; kernel_rfl) | (rw [if_neg (by decide +kernel)]; exact ⟨rfl, rfl⟩))
    (fun os started H enc _ => lifted os started H enc)

/-- ████ THE STATEMENT ████ -/
theorem proved : Rows.DiskNobodySaid :=
  over
#print axioms proved
end Go.Proofs.Ytlkkeabenklefaa.diskNobody
