/- For every text the law EntryTakes returns true: the operation of any bytes, or that there is none, and what is taken is put as the same. -/
import Derived.Test.YtaoboleifdgonaaRows
import Derived.Test.YtaoboleifdgonaaEOpen
import Derived.WalkKit
import Derived.ProofKit
import Derived.OpenShut
import Derived.ShutString
import Derived.ChangeOld
import Derived.Below
import Derived.BigQuiet
import Derived.Deep.RegionHeld
namespace Go.Proofs.Ytaoboleifdgonaa.entryTakes
open Go.ChangeShapes Go.WideShapes Go.ChangeAt Go.RowKit
open Go.ChangeMaps (open_string shut_string)
set_option linter.unusedVariables false

/-- Both takings, as one. -/
theorem both (s : ByteArray) (hs : s.size ≤ 1000000) : ∃ v, TakeO (takeR s) v ∧ (∀ w, Calls Try.prog 14 #[.string s] w fun e w' => e = .returned v ∧ Below w.heap.size w w') ∧ (∀ w, Calls Try.prog 15 #[.string s] w fun e w' => e = .returned v ∧ Below w.heap.size w w') := by
  have hex : ∃ v, TakeO (takeR s) v := by
    by_cases h : ∃ k sku loc to qty id due, takeR s = some (opR k sku loc to qty id due) ∧ mayO k sku loc to qty id due
    · obtain ⟨k, sku, loc, to, qty, id, due, e, m⟩ := h
      exact ⟨_, .inl ⟨k, sku, loc, to, qty, id, due, e, m, rfl⟩⟩
    · exact ⟨_, .inr ⟨h, rfl⟩⟩
  obtain ⟨v, hv⟩ := hex
  refine ⟨v, hv, fun w => (takeO_is s hs w).mono ?_, fun w => (refTakeO_is s hs w).mono ?_⟩
  · rintro e w' ⟨⟨u, rfl, hu⟩, q⟩
    exact ⟨congrArg Ending.returned (hu.one hv), q⟩
  · rintro e w' ⟨⟨u, rfl, hu⟩, q⟩
    exact ⟨congrArg Ending.returned (hu.one hv), q⟩
set_option maxRecDepth 100000 in
set_option maxHeartbeats 4000000 in
theorem walk (s : ByteArray) (w : World) : Calls Try.prog 4 #[.string s] w fun e w' => e = .returned (.bool true) ∧ Below w.heap.size w w' := by
  have HA : Hid _ := fun w => awakeE_is w
  by_cases h1k : 1024 < s.size
  · have h1ki : 1024 < (s.size : Int) := by omega
    go_enter Try.func4, Try.ntmps4
    go_wp2_with fail
    refine Calls.mono (HA.out _) ?_; rintro e w9 ⟨rfl, k9⟩
    have HB9 : Hid (Below w.heap.size w w9) := Below.next (Below.refl _ _) k9
    clear k9
    go_wp2_with fail
    go_ret
    exact ⟨rfl, HB9.out⟩
  · have h1ki : ¬ 1024 < (s.size : Int) := by omega
    obtain ⟨v, hv, H1, H2⟩ := both s (by omega)
    have HT1 : Hid _ := H1
    have HT2 : Hid _ := H2
    have HFW : Hid _ := take_fwd s
    clear H1 H2
    rcases hv with ⟨k, sku, loc, to, qty, id, due, e, m, rfl⟩ | ⟨_, rfl⟩
    · have HPU : Hid (∀ w, Calls Try.prog 10 #[oo k sku loc to qty id due] w fun e w' => e = .returned (.tuple #[.string s, .int .i64 0]) ∧ Below w.heap.size w w') := fun w => by
        have hp := put_op k sku loc to qty id due w
        have hb := (HFW.out _ e).2.2.2
        rw [show putO k sku loc to qty id due = _ from if_pos m, ← hb] at hp
        exact hp
      clear e m HFW
      go_enter Try.func4, Try.ntmps4
      go_wp2_with fail
      refine Calls.mono (HT1.out _) ?_; rintro e w1 ⟨rfl, k1⟩
      have HB1 : Hid (Below w.heap.size w w1) := k1
      have HO1 : Hid (CellsF (w1.alloc (.cells #[.int .i64 k, .string sku, .string loc, .string to, .int .i64 qty, .int .i64 id, .int .i64 due] 23)) w1.heap.size [.int .i64 k, .string sku, .string loc, .string to, .int .i64 qty, .int .i64 id, .int .i64 due]) := CellsF.new w1 [.int .i64 k, .string sku, .string loc, .string to, .int .i64 qty, .int .i64 id, .int .i64 due] 23 (by simp)
      clear k1
      go_wp2_with fail
      refine Calls.mono (HT2.out _) ?_; rintro e w2 ⟨rfl, k2⟩
      have k3 : Below (w1.alloc (.cells #[.int .i64 k, .string sku, .string loc, .string to, .int .i64 qty, .int .i64 id, .int .i64 due] 23)).heap.size (w1.alloc (.cells #[.int .i64 k, .string sku, .string loc, .string to, .int .i64 qty, .int .i64 id, .int .i64 due] 23)) (w2.alloc (.cells #[.int .i64 k, .string sku, .string loc, .string to, .int .i64 qty, .int .i64 id, .int .i64 due] 23)) := k2.alloc k2.size _
      have HB3 : Hid (Below w.heap.size w (w2.alloc (.cells #[.int .i64 k, .string sku, .string loc, .string to, .int .i64 qty, .int .i64 id, .int .i64 due] 23))) := Below.next (HB1.out.alloc HB1.out.size _) k3
      have p0 := HO1.out.old k3 0 _ rfl
      have p1 := HO1.out.old k3 1 _ rfl
      have p2 := HO1.out.old k3 2 _ rfl
      have p3 := HO1.out.old k3 3 _ rfl
      have p4 := HO1.out.old k3 4 _ rfl
      have p5 := HO1.out.old k3 5 _ rfl
      have p6 := HO1.out.old k3 6 _ rfl
      clear k2 k3
      go_wp2_with fail
      refine Calls.mono (HPU.out _) ?_; rintro e w5 ⟨rfl, k5⟩
      have HB5 : Hid (Below w.heap.size w w5) := Below.next HB3.out k5
      clear k5
      go_wp2_with fail
      refine Calls.mono (HA.out _) ?_; rintro e w9 ⟨rfl, k9⟩
      have HB9 : Hid (Below w.heap.size w w9) := Below.next HB5.out k9
      clear k9
      go_wp2_with fail
      go_ret
      exact ⟨rfl, HB9.out⟩
    · go_enter Try.func4, Try.ntmps4
      go_wp2_with fail
      refine Calls.mono (HT1.out _) ?_; rintro e w1 ⟨rfl, k1⟩
      have HB1 : Hid (Below w.heap.size w w1) := k1
      have HO1 : Hid (CellsF (w1.alloc (.cells #[.int .i64 0, .string ⟨#[]⟩, .string ⟨#[]⟩, .string ⟨#[]⟩, .int .i64 0, .int .i64 0, .int .i64 0] 23)) w1.heap.size [.int .i64 0, .string ⟨#[]⟩, .string ⟨#[]⟩, .string ⟨#[]⟩, .int .i64 0, .int .i64 0, .int .i64 0]) := CellsF.new w1 [.int .i64 0, .string ⟨#[]⟩, .string ⟨#[]⟩, .string ⟨#[]⟩, .int .i64 0, .int .i64 0, .int .i64 0] 23 (by simp)
      clear k1
      go_wp2_with fail
      refine Calls.mono (HT2.out _) ?_; rintro e w2 ⟨rfl, k2⟩
      have k3 : Below (w1.alloc (.cells #[.int .i64 0, .string ⟨#[]⟩, .string ⟨#[]⟩, .string ⟨#[]⟩, .int .i64 0, .int .i64 0, .int .i64 0] 23)).heap.size (w1.alloc (.cells #[.int .i64 0, .string ⟨#[]⟩, .string ⟨#[]⟩, .string ⟨#[]⟩, .int .i64 0, .int .i64 0, .int .i64 0] 23)) (w2.alloc (.cells #[.int .i64 0, .string ⟨#[]⟩, .string ⟨#[]⟩, .string ⟨#[]⟩, .int .i64 0, .int .i64 0, .int .i64 0] 23)) := k2.alloc k2.size _
      have HB3 : Hid (Below w.heap.size w (w2.alloc (.cells #[.int .i64 0, .string ⟨#[]⟩, .string ⟨#[]⟩, .string ⟨#[]⟩, .int .i64 0, .int .i64 0, .int .i64 0] 23))) := Below.next (HB1.out.alloc HB1.out.size _) k3
      have p0 := HO1.out.old k3 0 _ rfl
      have p1 := HO1.out.old k3 1 _ rfl
      have p2 := HO1.out.old k3 2 _ rfl
      have p3 := HO1.out.old k3 3 _ rfl
      have p4 := HO1.out.old k3 4 _ rfl
      have p5 := HO1.out.old k3 5 _ rfl
      have p6 := HO1.out.old k3 6 _ rfl
      clear k2 k3
      go_wp2_with fail
      refine Calls.mono (HA.out _) ?_; rintro e w9 ⟨rfl, k9⟩
      have HB9 : Hid (Below w.heap.size w w9) := Below.next HB3.out k9
      clear k9
      go_wp2_with fail
      go_ret
      exact ⟨rfl, HB9.out⟩

set_option maxRecDepth 100000 in
theorem lifted (os : Os) (started : os.Started) (H : Type) (enc : TypeId × Value → H) :
    ReturnsInHanded {} Try.checked os 4 .any (Rows.entryTakesSpec.pre6 enc Try.prog Try.f4 Rows.entryTakesRow.domain false) (Rows.entryTakesSpec.post enc Try.prog Try.f4 false true false false) := by
  refine returnsInHanded_of_change (C := Try.checked) own started (by kernel_rfl) Try.func4
    (ChangeSpec.witness6 (enc := enc) (C := Try.checked) false ⟨#[], #[.string ⟨#[]⟩], []⟩ 8 (by kernel_rfl) (by kernel_rfl) (by kernel_rfl) (by kernel_rfl)) ?_
  intro W base args ds gs before hval0 hW hcnd _
  have hval : ∀ (j : Nat) t v, Try.f4.params[j]? = some t → args[j]? = some v → Value.okWide Try.prog W .any base t v := hval0
  have hW' := hW
  obtain ⟨p, q, hA0, hV, rfl, hfz, hnd⟩ := hW
  have hA : DataW.TrodAll enc Try.prog W 0 (fun _ => true) true Try.f4.params.toList args.toList ds p := hA0
  rw [Try.params4] at hA hval
  obtain ⟨v0, vs0, d0, ds0, p0, q0, hargs, rfl, rfl, h0, rr0⟩ := trodAll_cons hA
  obtain ⟨rfl, rfl, rfl⟩ := trodAll_nil rr0
  obtain rfl : args = #[v0] := by cases args; simp_all
  obtain ⟨rfl, rfl⟩ := trodVars_none hV
  have g0 := h0
  have lt0 : ∀ x ∈ p0, x.block < W.heap.size := by obtain ⟨m, hm⟩ := g0; exact DataW.trod_lt m _ _ _ hm
  obtain ⟨a0, rfl, rfl, rfl, w0⟩ := open_string Try.underlying9 (hval 0 9 v0 rfl rfl) h0
  simp only [List.append_nil] at hW'
  clear hA0 hval0
  refine (walk a0 W).mono fun e W' ⟨he, bel⟩ => ?_
  subst he
  exact ⟨_, rfl, _, _, _, [], _, [], hW', trodAll_mk1 (shut_bool Try.underlying4 _), (trodAll_cons_mk (Below.trod laidOut (by kernel_rfl) (of_decide_eq_true (by kernel_rfl)) g0 bel lt0) trodAll_mk0), rfl, bel.frame _, fun h => by cases h⟩

theorem over : Rows.entryTakesRow.holds Try.pinned (OpenSpec.ofChange Rows.entryTakesSpec) :=
  OpenClaim.holds_of_wide 4 Try.f4 rfl rfl rfl rfl rfl rfl rfl ⟨rfl, rfl, rfl, rfl, rfl⟩ rfl rfl rfl rfl rfl (by kernel_rfl) Try.func4 (by kernel_rfl)
    (of_decide_eq_true (by kernel_rfl)) (by unfold Func.isWrapper; first | (rw [if_pos (by decide +kernel)]; kernel_rfl) | (rw [if_neg (by decide +kernel)]; exact ⟨rfl, rfl⟩))
    (fun os started H enc _ => lifted os started H enc)

/-- ████ THE STATEMENT ████ -/
theorem proved : Rows.EntryTakesSaid := over
#print axioms proved
end Go.Proofs.Ytaoboleifdgonaa.entryTakes
