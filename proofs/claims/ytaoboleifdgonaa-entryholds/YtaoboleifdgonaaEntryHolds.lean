/- For every hold and every row the law EntryHolds returns true and leaves its arguments as they were: any hold as a row, and the hold of any row, there and back. -/
import Derived.Test.YtaoboleifdgonaaRows
import Derived.Test.YtaoboleifdgonaaEntryHoldsB
import Derived.Test.YtaoboleifdgonaaEntryHoldsC
import Derived.Test.YtaoboleifdgonaaEntryHoldsD
import Derived.Test.YtaoboleifdgonaaEntryHoldsE
import Derived.WalkKit
import Derived.ProofKit
import Derived.OpenShut
import Derived.ShutString
import Derived.ChangeOld
import Derived.Below
import Derived.BigQuiet
import Derived.Deep.RegionHeld
namespace Go.Proofs.Ytaoboleifdgonaa.entryHolds
open Go.ChangeShapes Go.WideShapes Go.ChangeAt Go.RowKit
open Go.ChangeMaps (open_string shut_string)
set_option linter.unusedVariables false

set_option maxRecDepth 100000 in
set_option maxHeartbeats 1000000 in
theorem walk (a : Option Addr) (c n : Nat) (r : List V) (hn : r.length = n) (hl : n ≤ 9223372036854775807) (id : Int) (sku : ByteArray) (loc : ByteArray) (qty : Int) (st : Int) (due : Int) (w : World) (hr : Row w (.slice a r.length c) r) :
    Calls Try.prog 6 #[hh id sku loc qty st due, .slice a n c] w fun e w' => e = .returned (.bool true) ∧ Below w.heap.size w w' := by
  have HA : Hid _ := fun w => awakeE_is w
  by_cases h1 : 200 < sku.size
  · have i1 : 200 < (sku.size : Int) := by omega
    go_enter Try.func6, Try.ntmps6
    go_wp2_with fail
    refine Calls.mono (HA.out _) ?_; rintro e w9 ⟨rfl, k9⟩
    have HB9 : Hid (Below w.heap.size w w9) := Below.next (below1 _ _) k9
    clear k9
    go_wp2_with fail
    go_ret
    exact ⟨rfl, HB9.out⟩

  by_cases h2 : 200 < loc.size
  · have i1 : ¬ 200 < (sku.size : Int) := by omega
    have i2 : 200 < (loc.size : Int) := by omega
    go_enter Try.func6, Try.ntmps6
    go_wp2_with fail
    refine Calls.mono (HA.out _) ?_; rintro e w9 ⟨rfl, k9⟩
    have HB9 : Hid (Below w.heap.size w w9) := Below.next (below1 _ _) k9
    clear k9
    go_wp2_with fail
    go_ret
    exact ⟨rfl, HB9.out⟩

  by_cases hlit : lit r
  · have hl20 : r.length ≤ 20 := hlit.1
    have hq : ∀ w', Row w' (.slice a r.length c) r → Calls Try.prog 16 #[.slice a n c] w' fun e w'' => e = .returned (.bool true) ∧ Below w'.heap.size w' w'' := fun w' hr' => lightE_yes a c n r hn hlit w' hr' hl
    · obtain ⟨v, hv, H1, H2⟩ := both a c n r hn (by omega) (fun x q => by have := hlit.2 x q; omega)
      rcases hv with ⟨y0, y1, y2, y3, y4, y5, hy, rfl⟩ | ⟨_, rfl⟩
      · by_cases hown : (sku.size ≤ 64 ∧ loc.size ≤ 64) ∧ ¬ (stT st).size = 0
        · exact walk_own_read a c n r hn (by omega) id sku loc qty st due (by omega) (by omega) hown y0 y1 y2 y3 y4 y5 hy w hr hq H1 H2
        · exact walk_not_read a c n r hn (by omega) id sku loc qty st due (by omega) (by omega) hown y0 y1 y2 y3 y4 y5 hy w hr hq H1 H2
      · by_cases hown : (sku.size ≤ 64 ∧ loc.size ≤ 64) ∧ ¬ (stT st).size = 0
        · exact walk_own_none a c n r hn (by omega) id sku loc qty st due (by omega) (by omega) hown 0 ⟨#[]⟩ ⟨#[]⟩ 0 0 0 w hr hq H1 H2
        · exact walk_not_none a c n r hn (by omega) id sku loc qty st due (by omega) (by omega) hown 0 ⟨#[]⟩ ⟨#[]⟩ 0 0 0 w hr hq H1 H2
  · have HL : Hid _ := lightE_no a c n r hn hlit (w.alloc (.cells #[.int .i64 id, .string sku, .string loc, .int .i64 qty, .int .i64 st, .int .i64 due] 44)) (hr.next (below1 _ _)) hl
    have i1 : ¬ 200 < (sku.size : Int) := by omega
    have i2 : ¬ 200 < (loc.size : Int) := by omega
    go_enter Try.func6, Try.ntmps6
    go_wp2_with fail
    refine Calls.mono HL.out ?_; rintro e w1 ⟨rfl, k1⟩
    have HB1 : Hid (Below w.heap.size w w1) := Below.next (below1 _ _) k1
    clear k1
    go_wp2_with fail
    refine Calls.mono (HA.out _) ?_; rintro e w9 ⟨rfl, k9⟩
    have HB9 : Hid (Below w.heap.size w w9) := Below.next HB1.out k9
    clear k9
    go_wp2_with fail
    go_ret
    exact ⟨rfl, HB9.out⟩

set_option maxRecDepth 100000 in
theorem lifted (os : Os) (started : os.Started) (H : Type) (enc : TypeId × Value → H) :
    ReturnsInHanded {} Try.checked os 6 .any (Rows.entryHoldsSpec.pre6 enc Try.prog Try.f6 Rows.entryHoldsRow.domain false) (Rows.entryHoldsSpec.post enc Try.prog Try.f6 false true false false) := by
  refine returnsInHanded_of_change (C := Try.checked) own started (by kernel_rfl) Try.func6
    (ChangeSpec.witness6 (enc := enc) (C := Try.checked) false ⟨#[], #[hh 0 ⟨#[]⟩ ⟨#[]⟩ 0 0 0, .slice none 0 0], []⟩ 8 (by kernel_rfl) (by kernel_rfl) (by kernel_rfl) (by kernel_rfl)) ?_
  intro W base args ds gs before hval0 hW hcnd _
  have hval : ∀ (j : Nat) t v, Try.f6.params[j]? = some t → args[j]? = some v → Value.okWide Try.prog W .any base t v := hval0
  have hW' := hW
  obtain ⟨p, q, hA0, hV, rfl, hfz, hnd⟩ := hW
  have hA : DataW.TrodAll enc Try.prog W 0 (fun _ => true) true Try.f6.params.toList args.toList ds p := hA0
  rw [Try.params6] at hA hval
  obtain ⟨v0, vs0, d0, ds0, p0, q0, hargs, rfl, rfl, h0, rr0⟩ := trodAll_cons hA
  obtain ⟨v1, vs1, d1, ds1, p1, q1, rfl, rfl, rfl, h1, rr1⟩ := trodAll_cons rr0
  obtain ⟨rfl, rfl, rfl⟩ := trodAll_nil rr1
  obtain rfl : args = #[v0, v1] := by cases args; simp_all
  obtain ⟨rfl, rfl⟩ := trodVars_none hV
  have g0 := h0
  have lt0 : ∀ x ∈ p0, x.block < W.heap.size := by obtain ⟨m, hm⟩ := g0; exact DataW.trod_lt m _ _ _ hm
  have g1 := h1
  have lt1 : ∀ x ∈ p1, x.block < W.heap.size := by obtain ⟨m, hm⟩ := g1; exact DataW.trod_lt m _ _ _ hm
  obtain ⟨x0, x1, x2, x3, x4, x5, rfl, _, _, _, _, _, _⟩ := open_hold (hval 0 44 v0 rfl rfl) h0
  obtain ⟨a1, len1, cap1, rfl⟩ := okWide_slice Try.underlying36 (hval 1 36 v1 rfl rfl)
  obtain ⟨r1, hr1, ht1, hl1⟩ := open_row h1
  clear hA0 hval0
  refine (walk a1 cap1 len1 r1 hr1 hl1 x0 x1 x2 x3 x4 x5 W ht1).mono fun e W' ⟨he, bel⟩ => ?_
  subst he
  exact ⟨_, rfl, _, _, _, [], _, [], hW', trodAll_mk1 (shut_bool Try.underlying4 _), (trodAll_cons_mk (Below.trod laidOut (by kernel_rfl) (of_decide_eq_true (by kernel_rfl)) g0 bel lt0) (trodAll_cons_mk (Below.trod laidOut (by kernel_rfl) (of_decide_eq_true (by kernel_rfl)) g1 bel lt1) trodAll_mk0)), rfl, bel.frame _, fun h => by cases h⟩

theorem over : Rows.entryHoldsRow.holds Try.pinned (OpenSpec.ofChange Rows.entryHoldsSpec) :=
  OpenClaim.holds_of_wide 6 Try.f6 rfl rfl rfl rfl rfl rfl rfl ⟨rfl, rfl, rfl, rfl, rfl⟩ rfl rfl rfl rfl rfl (by kernel_rfl) Try.func6 (by kernel_rfl)
    (of_decide_eq_true (by kernel_rfl)) (by unfold Func.isWrapper; first | (rw [if_pos (by decide +kernel)]; kernel_rfl) | (rw [if_neg (by decide +kernel)]; exact ⟨rfl, rfl⟩))
    (fun os started H enc _ => lifted os started H enc)

/-- ████ THE STATEMENT ████ -/
theorem proved : Rows.EntryHoldsSaid := over
#print axioms proved
end Go.Proofs.Ytaoboleifdgonaa.entryHolds
