/- Proved: for every number n and every list l of acts, quaysidelaw03.DiskPlays(n, l) returns true and the arguments read as before (no condition). -/
import Derived.Test.YtlkkeabenklefaaRows
import Derived.WalkKit
import Derived.Test.YtlkkeabenklefaaActs
import Derived.ProofKit
import Derived.OpenShut
import Derived.ShutString
import Derived.ChangeOld
import Derived.Below
namespace Go.Proofs.Ytlkkeabenklefaa.diskPlays
open Go.ChangeShapes Go.WideShapes Go.ChangeAt Go.RowKit
open Go.ChangeMaps (open_string shut_string)
set_option linter.unusedVariables false

theorem own : ownKnob Try.prog.godebug = none := by kernel_rfl
theorem laidOut : laidOutB Try.prog = true := by kernel_rfl

set_option maxRecDepth 100000 in
/-- A number of sectors that may not be. -/
theorem plays_no (n : Int) (hn : ¬ (1 ≤ n ∧ n ≤ 4096)) (a1 : Option Addr) (len1 cap1 : Nat) (w : World) :
    Calls Try.prog 3 #[.int .i64 n, .slice a1 len1 cap1] w fun e w' => e = .returned (.bool true) ∧ Below w.heap.size w w' := by
  have HN := (show Hid _ from new_no n w hn)
  have HR := (show Hid _ from ref_new_no n (by omega))
  have HAW := (show Hid _ from awake_is)
  clear hn
  go_enter Try.func3, Try.ntmps3
  go_wp2_with fail
  refine Calls.mono HN.out ?_; rintro e w1 ⟨rfl, rfl⟩
  go_wp2_with fail
  refine Calls.mono (HR.out _) ?_; rintro e w2 ⟨rfl, k2⟩
  have HK : Hid (Below w1.heap.size w1 (w2.alloc (.cells #[.slice none 0 0, .slice none 0 0, .int .i64 0, .bool false] 30))) := (k2.alloc _).below (Nat.le_refl _) (fun _ q => q.elim)
  clear k2
  go_wp2_with fail
  refine Calls.mono (HAW.out _) ?_; rintro e w3 ⟨rfl, k3⟩
  have HK3 := (show Hid _ from k3)
  clear k3
  go_wp2_with fail
  go_ret
  exact ⟨rfl, HK.out.trans (HK3.out.mono HK.out.size)⟩

set_option maxRecDepth 100000 in
/-- More sectors than are played with. -/
theorem plays_many (n : Nat) (h1 : 64 < n) (h2 : n ≤ 4096) (a1 : Option Addr) (len1 cap1 : Nat) (w : World) :
    Calls Try.prog 3 #[.int .i64 (n : Int), .slice a1 len1 cap1] w fun e w' => e = .returned (.bool true) ∧ Below w.heap.size w w' := by
  have HN := (show Hid _ from new_is n (by omega) h2 w)
  have HAW := (show Hid _ from awake_is)
  have g64 : 64 < (n : Int) := by omega
  go_enter Try.func3, Try.ntmps3
  go_wp2_with fail
  refine Calls.mono HN.out ?_; rintro e w1 ⟨p, F, rfl, g1, g2, g3⟩
  have HRN := (show Hid _ from ref_new (w := w1) n (by omega) h2)
  have HD1 := (show Hid _ from g2)
  clear g1 g2 g3 HN
  go_wp2_with fail
  refine Calls.mono HRN.out ?_; rintro e w2 ⟨b, rfl, o2, k2⟩
  have HK : Hid (Below w.heap.size w (w2.alloc (.cells #[.slice (some ⟨b, 0, none⟩) n n, .slice none 0 0, .int .i64 (-1), .bool false] 30))) := (k2.alloc _).toBelow HD1.out (fun _ q => q.elim)
  clear o2 k2 HRN HD1
  go_wp2_with fail
  refine Calls.mono (HAW.out _) ?_; rintro e w3 ⟨rfl, k3⟩
  have HK3 := (show Hid _ from k3)
  clear k3
  go_wp2_with fail
  go_ret
  exact ⟨rfl, HK.out.trans (HK3.out.mono HK.out.size)⟩

theorem walk (n : Int) (a1 : Option Addr) (len1 cap1 : Nat) (w : World) (hl : len1 ≤ 9223372036854775807) (ha : ∀ i, i < len1 → ∃ b o kind at_ cc s ko kc ks, Ac w a1 i b o kind at_ cc s ko kc ks) :
    Calls Try.prog 3 #[.int .i64 n, .slice a1 len1 cap1] w fun e w' => e = .returned (.bool true) ∧ Below w.heap.size w w' := by
  by_cases h : 1 ≤ n ∧ n ≤ 4096
  · obtain ⟨m, rfl⟩ : ∃ m : Nat, n = (m : Int) := ⟨n.toNat, by omega⟩
    by_cases h2 : m ≤ 64
    · exact plays_loop m (by omega) h2 a1 len1 cap1 w hl ha
    · exact plays_many m (by omega) (by omega) a1 len1 cap1 w
  · exact plays_no n h a1 len1 cap1 w

/-! ### THE ROW's STEP: WRITTEN OUT: LEAVE IT -/
set_option maxRecDepth 100000 in
theorem lifted (os : Os) (started : os.Started) (H : Type) (enc : TypeId × Value → H) :
    ReturnsInHanded {} Try.checked os 3 .any (Rows.diskPlaysSpec.pre6 enc Try.prog Try.f3 Rows.diskPlaysRow.domain false) (Rows.diskPlaysSpec.post enc Try.prog Try.f3 false true false false) := by
  refine returnsInHanded_of_change (C := Try.checked) own started (by kernel_rfl) Try.func3
    (ChangeSpec.witness6 (enc := enc) (C := Try.checked) false ⟨#[], #[.int .i64 0, .slice none 0 0], []⟩ 8 (by kernel_rfl) (by kernel_rfl) (by kernel_rfl) (by kernel_rfl)) ?_
  intro W base args ds gs before hval0 hW hcnd _
  have hval : ∀ (j : Nat) t v, Try.f3.params[j]? = some t → args[j]? = some v → Value.okWide Try.prog W .any base t v := hval0
  have hW' := hW
  obtain ⟨p, q, hA0, hV, rfl, hfz, hnd⟩ := hW
  have hA : DataW.TrodAll enc Try.prog W 0 (fun _ => true) true Try.f3.params.toList args.toList ds p := hA0
  rw [Try.params3] at hA hval
  obtain ⟨v0, vs0, d0, ds0, p0, q0, hargs, rfl, rfl, h0, r0⟩ := trodAll_cons hA
  obtain ⟨v1, vs1, d1, ds1, p1, q1, rfl, rfl, rfl, h1, r1⟩ := trodAll_cons r0
  obtain ⟨rfl, rfl, rfl⟩ := trodAll_nil r1
  obtain rfl : args = #[v0, v1] := by cases args; simp_all
  obtain ⟨rfl, rfl⟩ := trodVars_none hV
  obtain ⟨a0, rfl, rfl, rfl, w0⟩ := open_int Try.underlying3 (hval 0 3 v0 rfl rfl) h0
  obtain ⟨a1, len1, cap1, rfl⟩ := okWide_slice Try.underlying22 (hval 1 22 v1 rfl rfl)
  have k1 := h1
  have lt1 : ∀ x ∈ p1, x.block < W.heap.size := by obtain ⟨m, hm⟩ := k1; exact DataW.trod_lt m _ _ _ hm
  have w1 := open_acts h1
  clear hA0 hval0
  refine (walk a0 a1 len1 cap1 W w1.1 w1.2).mono fun e W' ⟨he, bel⟩ => ?_
  subst he
  exact ⟨_, rfl, _, _, _, [], _, [], hW', trodAll_mk1 (shut_bool Try.underlying4 _), (trodAll_cons_mk (shut_int Try.underlying3 w0) (trodAll_cons_mk (Below.trod laidOut (by kernel_rfl) (of_decide_eq_true (by kernel_rfl)) k1 bel lt1) trodAll_mk0)), rfl, bel.frame _, fun h => by cases h⟩

theorem over : Rows.diskPlaysRow.holds Try.pinned (OpenSpec.ofChange Rows.diskPlaysSpec) :=
  OpenClaim.holds_of_wide 3 Try.f3 rfl rfl rfl rfl rfl rfl rfl ⟨rfl, rfl, rfl, rfl, rfl⟩ rfl rfl rfl rfl rfl (by kernel_rfl) Try.func3 (by kernel_rfl)
    (of_decide_eq_true (by kernel_rfl)) (by unfold Func.isWrapper; first | (rw [if_pos (by decide +kernel)]; kernel_rfl) | (rw [if_neg (by decide +kernel)]; exact ⟨rfl, rfl⟩))
    (fun os started H enc _ => lifted os started H enc)

/-- ████ THE STATEMENT ████ -/
theorem proved : Rows.DiskPlaysSaid := over
#print axioms proved
end Go.Proofs.Ytlkkeabenklefaa.diskPlays
