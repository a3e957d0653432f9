/- For every two numbers the law ValueRises returns true and leaves its arguments as they were, the two listed tables of the library being as the program's text lays them: numbers' bytes rise with them. -/
import Derived.Test.YtfpdocobjlgfnaaDoorRows
import Derived.Test.YtfpdocobjlgfnaaDoorWrap
import Derived.Test.YtfpdocobjlgfnaaDoorAwake
import Derived.Test.YtfpdocobjlgfnaaDoorRise
import Derived.ShutString
import Derived.ChangeOld
import Derived.Below
import Derived.BigRegion
namespace Go.Proofs.YtfpdocobjlgfnaaDoor.valueRises
open Go.ChangeShapes Go.WideShapes Go.ChangeAt Go.RowKit
set_option linter.unusedVariables false

theorem bd64 {a : Int} (h : (Lit.int .i64 a).wf = true) : -9223372036854775808 ≤ a ∧ a ≤ 9223372036854775807 := by
  simpa using bounds_i64 h
theorem one_row (w : World) (n : Int) : Row (w.alloc (.cells #[.int .i64 1, .int .i64 n, .string ⟨#[]⟩] 23)) (.slice (some ⟨w.heap.size, 0, none⟩) [(⟨1, n, ⟨#[]⟩⟩ : V)].length 1) [⟨1, n, ⟨#[]⟩⟩] := by
  refine .inr ⟨w.heap.size, 0, 1, rfl, fun i hi => ?_⟩
  obtain rfl : i = 0 := by have : i < 1 := hi; omega
  exact At.new w 1 n ⟨#[]⟩
theorem one_put (n : Int) : putR [⟨1, n, ⟨#[]⟩⟩] = .tuple #[.string ⟨(rowB [⟨1, n, ⟨#[]⟩⟩]).toArray⟩, .int .i64 0] := by
  unfold putR
  rw [if_pos ⟨by simp, fun x hx => by obtain rfl := List.mem_singleton.1 hx; exact .inr (.inl ⟨rfl, rfl⟩)⟩]
set_option maxRecDepth 100000 in
set_option maxHeartbeats 4000000 in
theorem walk (a b : Int) (ha : -9223372036854775808 ≤ a ∧ a ≤ 9223372036854775807) (hb : -9223372036854775808 ≤ b ∧ b ≤ 9223372036854775807) (w : World) (hg : Glob w) :
    Calls Tryd.prog 7 #[.int .i64 a, .int .i64 b] w fun e w' => e = .returned (.bool true) ∧ Below w.heap.size w w' := by
  have HA : Hid _ := awake_is
  have HG : Hid (Glob w) := hg
  have HP : Hid (∀ (n : Int) (w : World), Calls Tryd.prog 16 #[.slice (some ⟨w.heap.size, 0, none⟩) 1 1] (w.alloc (.cells #[.int .i64 1, .int .i64 n, .string ⟨#[]⟩] 23)) fun e w' => e = .returned (.tuple #[.string ⟨(rowB [⟨1, n, ⟨#[]⟩⟩]).toArray⟩, .int .i64 0]) ∧ Below w.heap.size w w') := fun n w => by
    have := put_is (some ⟨w.heap.size, 0, none⟩) 1 1 [⟨1, n, ⟨#[]⟩⟩] rfl _ (one_row w n) (fun x hx => by obtain rfl := List.mem_singleton.1 hx; exact Nat.zero_le _) (by omega)
    rw [one_put] at this
    exact this.mono (by rintro e w' ⟨rfl, k⟩; exact ⟨rfl, Below.next (below1 _ _) k⟩)
  have e1 := rise_less a b ha hb
  have e2 := rise_same a b ha hb
  have l1 : (⟨(rowB [⟨1, a, ⟨#[]⟩⟩]).toArray⟩ : ByteArray).size = 10 := rise_len a
  have l2 : (⟨(rowB [⟨1, b, ⟨#[]⟩⟩]).toArray⟩ : ByteArray).size = 10 := rise_len b
  have HP1 := (show Hid _ from HP.out a w)
  have HP2 := (show Hid _ from HP.out b)
  generalize (⟨(rowB [⟨1, a, ⟨#[]⟩⟩]).toArray⟩ : ByteArray) = s at *
  generalize (⟨(rowB [⟨1, b, ⟨#[]⟩⟩]).toArray⟩ : ByteArray) = t at *
  have l1i : (s.size : Int) = 10 := by omega
  have l2i : (t.size : Int) = 10 := by omega
  clear HP hg
  go_enter Tryd.func7, Tryd.ntmps7
  go_wp2_with fail
  refine Calls.mono HP1.out ?_; rintro e w1 ⟨rfl, k1⟩
  have HK1 : Hid (Below w.heap.size w w1) := k1
  clear k1
  go_wp2_with fail
  refine Calls.mono (HP2.out _) ?_; rintro e w2 ⟨rfl, k2⟩
  have HK2 : Hid (Below w.heap.size w w2) := Below.next HK1.out k2
  clear k2
  have HAW : Hid (Calls Tryd.prog 12 #[] w2 fun e w' => e = .returned (.bool true) ∧ Below w.heap.size w w') := (HA.out w2 (HG.out.next HK2.out)).mono (by rintro e w' ⟨rfl, k⟩; exact ⟨rfl, Below.next HK2.out k⟩)
  go_wp2_with fail
  refine Calls.mono HAW.out ?_; rintro e w3 ⟨rfl, k3⟩
  have HK3 : Hid (Below w.heap.size w w3) := k3
  clear k3
  go_wp2_with fail
  go_ret
  exact ⟨rfl, HK3.out⟩

set_option maxRecDepth 100000 in
theorem lifted (os : Os) (started : os.Started) (H : Type) (enc : TypeId × Value → H) :
    ReturnsInHanded {} Tryd.checked os 7 .any (fun w args => (Rows.valueRisesSpec.pre enc Tryd.prog Tryd.f7 Rows.valueRisesRow.domain false w args ∧ laidMetH Tryd.prog Rows.valueRisesRow.laid w) ∧ sizedMet enc Tryd.prog Tryd.f7 (OpenSpec.ofChange Rows.valueRisesSpec) false w args) (Rows.valueRisesSpec.post enc Tryd.prog Tryd.f7 false true false false) := by
  refine change_and_shaped (C := Tryd.checked) (X := fun w _ => laidMetH Tryd.prog Rows.valueRisesRow.laid w) (fun _ _ _ hh h => h.of_heap hh) own started (by kernel_rfl) Tryd.func7
    (ChangeSpec.witness_shaped (enc := enc) (C := Tryd.checked) (os := os) (X := fun w _ => laidMetH Tryd.prog Rows.valueRisesRow.laid w) false (World.laidAll Tryd.prog os Rows.valueRisesRow.laid) #[.int .i64 0, .int .i64 0] 8 (World.laidAll_os _ _ _)
      (World.shaped_of_ZipB (by kernel_rfl) (by kernel_rfl)) (by kernel_rfl) (by kernel_rfl) (by kernel_rfl)
      (by rw [MakeChecks.laidMetH_plain _ _ _ (by kernel_rfl)]; exact laidMet_laidAll _ (by kernel_rfl) (by kernel_rfl))) ?_
  intro W base args ds gs before hval0 hW hsh
  have hval : ∀ (j : Nat) t v, Tryd.f7.params[j]? = some t → args[j]? = some v → Value.okWide Tryd.prog W .any base t v := hval0
  have hW' := hW
  obtain ⟨p, q, hA0, hV, rfl, hfz, hnd⟩ := hW
  have hA : DataW.TrodAll enc Tryd.prog W 0 (fun _ => true) true Tryd.f7.params.toList args.toList ds p := hA0
  rw [Tryd.params7] at hA hval
  obtain ⟨v0, vs0, d0, ds0, p0, q0, hargs, rfl, rfl, h0, r0⟩ := trodAll_cons hA
  obtain ⟨v1, vs1, d1, ds1, p1, q1, rfl, rfl, rfl, h1, r1⟩ := trodAll_cons r0
  obtain ⟨rfl, rfl, rfl⟩ := trodAll_nil r1
  obtain rfl : args = #[v0, v1] := by cases args; simp_all
  obtain ⟨rfl, rfl⟩ := trodVars_none hV
  obtain ⟨a0, rfl, rfl, rfl, w0⟩ := open_int Tryd.underlying3 (hval 0 3 v0 rfl rfl) h0
  obtain ⟨a1, rfl, rfl, rfl, w1⟩ := open_int Tryd.underlying3 (hval 1 3 v1 rfl rfl) h1
  clear hA0 hval0
  simp only [List.append_nil] at hW'
  refine (walk a0 a1 (bd64 w0) (bd64 w1) W (glob_of hsh)).mono fun e W' ⟨he, bel⟩ => ?_
  subst he
  exact ⟨_, rfl, _, _, _, [], _, [], hW', trodAll_mk1 (shut_bool Tryd.underlying4 _), (trodAll_cons_mk (shut_int Tryd.underlying3 w0) (trodAll_cons_mk (shut_int Tryd.underlying3 w1) trodAll_mk0)), rfl, bel.frame _, fun h => by cases h⟩

theorem over : Rows.ValueRisesSaid :=
  OpenClaim.holds_of_wide 7 Tryd.f7 rfl rfl rfl rfl rfl rfl rfl ⟨rfl, rfl, rfl, rfl, rfl⟩ rfl rfl rfl rfl rfl (by kernel_rfl) Tryd.func7 (by kernel_rfl)
    (of_decide_eq_true (by kernel_rfl)) (by unfold Func.isWrapper; first | (rw [if_pos (by decide +kernel)]; kernel_rfl) | (rw [if_neg (by decide +kernel)]; exact ⟨rfl, rfl⟩))
    (fun os started H enc _ => lifted os started H enc)

/-- ████ THE STATEMENT ████ -/
theorem proved : Rows.ValueRisesCardSaid :=
  Claim7.holds_tied_plain_at .later [] [.data, .pinned] true (true, "647c1eda5c3fd17d657d51398d3c79e23436c64eae0fd39fc9353b44211b31c8") false over (fun _ h => by cases h) (by kernel_rfl) (fun _ h => by cases h) valueRises_row_tie rfl ⟨rfl, rfl⟩ (by kernel_rfl) rfl
    (fun f fn hf hfn => by
      obtain rfl : f = 7 := Option.some.inj ((show Tryd.prog.funcNamed "quayside/quaysidelaw05.ValueRises" = some 7 by kernel_rfl).symm.trans hf) |>.symm
      obtain rfl : fn = Tryd.f7 := (Option.some.inj (Tryd.func7.symm.trans hfn)).symm
      exact ⟨by kernel_rfl, fun j t ht => by
        rw [Tryd.params7] at ht
        have hm : t ∈ [3, 3] := by simpa using Array.mem_of_getElem? ht
        have hall : ([3, 3].all fun u => !Tryd.prog.wantsStandIn u) = true := by kernel_rfl
        exact (show Tryd.prog.wantsStandIn t = false by simpa using List.all_eq_true.1 hall t hm)⟩)
    (by kernel_rfl)
#print axioms proved
end Go.Proofs.YtfpdocobjlgfnaaDoor.valueRises
