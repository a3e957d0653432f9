/- For every operation the law EntryPuts returns true and leaves its argument as it was: any operation as bytes, or that it may not be, there and back. -/
import Derived.Test.YtaoboleifdgonaaRows
import Derived.Test.YtaoboleifdgonaaEOpen
import Derived.WalkKit
import Derived.ProofKit
import Derived.OpenShut
import Derived.ShutString
import Derived.ChangeOld
import Derived.Below
import Derived.BigQuiet
import Derived.Deep.RegionHeld
namespace Go.Proofs.Ytaoboleifdgonaa.entryPuts
open Go.ChangeShapes Go.WideShapes Go.ChangeAt Go.RowKit
open Go.ChangeMaps (open_string shut_string)
set_option linter.unusedVariables false

theorem light_op (k : Int) (sku loc to : ByteArray) (qty id due : Int) (w : World) : Calls Try.prog 8 #[oo k sku loc to qty id due] w fun e w' => e = .returned (.bool (decide (sku.size ≤ 200 ∧ loc.size ≤ 200 ∧ to.size ≤ 200))) ∧ Below w.heap.size w w' := by
  by_cases h1 : sku.size ≤ 200
  · have i1 : (sku.size : Int) ≤ 200 := by omega
    by_cases h2 : loc.size ≤ 200
    · have i2 : (loc.size : Int) ≤ 200 := by omega
      by_cases h3 : to.size ≤ 200
      · have i3 : (to.size : Int) ≤ 200 := by omega
        have HM : Hid (decide (sku.size ≤ 200 ∧ loc.size ≤ 200 ∧ to.size ≤ 200) = true) := decide_eq_true ⟨h1, h2, h3⟩
        go_enter Try.func8, Try.ntmps8
        go_wp2_with fail
        go_ret
        exact ⟨by rw [HM.out]; rfl, below1 _ _⟩
      · have i3 : decide ((to.size : Int) ≤ 200) = false := decide_eq_false (by omega)
        have HM : Hid (decide (sku.size ≤ 200 ∧ loc.size ≤ 200 ∧ to.size ≤ 200) = false) := decide_eq_false (fun q => h3 q.2.2)
        go_enter Try.func8, Try.ntmps8
        go_wp2_with fail
        go_ret
        exact ⟨by rw [HM.out]; first | rfl | exact congrArg (fun b => Ending.returned (Value.bool b)) i3, below1 _ _⟩
    · have i2 : decide ((loc.size : Int) ≤ 200) = false := decide_eq_false (by omega)
      have HM : Hid (decide (sku.size ≤ 200 ∧ loc.size ≤ 200 ∧ to.size ≤ 200) = false) := decide_eq_false (fun q => h2 q.2.1)
      go_enter Try.func8, Try.ntmps8
      go_wp2_with fail
      go_ret
      exact ⟨by rw [HM.out]; rfl, below1 _ _⟩
  · have i1 : decide ((sku.size : Int) ≤ 200) = false := decide_eq_false (by omega)
    have HM : Hid (decide (sku.size ≤ 200 ∧ loc.size ≤ 200 ∧ to.size ≤ 200) = false) := decide_eq_false (fun q => h1 q.1)
    go_enter Try.func8, Try.ntmps8
    go_wp2_with fail
    go_ret
    exact ⟨by rw [HM.out]; rfl, below1 _ _⟩
set_option maxRecDepth 100000 in
set_option maxHeartbeats 4000000 in
theorem walk (k : Int) (sku loc to : ByteArray) (qty id due : Int) (hk : (-9223372036854775808 ≤ k ∧ k ≤ 9223372036854775807)) (hq : (-9223372036854775808 ≤ qty ∧ qty ≤ 9223372036854775807)) (hi : (-9223372036854775808 ≤ id ∧ id ≤ 9223372036854775807)) (hd : (-9223372036854775808 ≤ due ∧ due ≤ 9223372036854775807)) (w : World) : Calls Try.prog 3 #[oo k sku loc to qty id due] w fun e w' => e = .returned (.bool true) ∧ Below w.heap.size w w' := by
  have HA : Hid _ := fun w => awakeE_is w
  have HL0 := fun w => light_op k sku loc to qty id due w
  have HN : Hid (∀ w' w'' : World, (Below w.heap.size w w' ∧ w'.cell? ⟨w.heap.size, 0, none⟩ = some (.int .i64 k) ∧ w'.cell? ⟨w.heap.size, 1, none⟩ = some (.string sku) ∧ w'.cell? ⟨w.heap.size, 2, none⟩ = some (.string loc) ∧ w'.cell? ⟨w.heap.size, 3, none⟩ = some (.string to) ∧ w'.cell? ⟨w.heap.size, 4, none⟩ = some (.int .i64 qty) ∧ w'.cell? ⟨w.heap.size, 5, none⟩ = some (.int .i64 id) ∧ w'.cell? ⟨w.heap.size, 6, none⟩ = some (.int .i64 due)) → Below w'.heap.size w' w'' → (Below w.heap.size w w'' ∧ w''.cell? ⟨w.heap.size, 0, none⟩ = some (.int .i64 k) ∧ w''.cell? ⟨w.heap.size, 1, none⟩ = some (.string sku) ∧ w''.cell? ⟨w.heap.size, 2, none⟩ = some (.string loc) ∧ w''.cell? ⟨w.heap.size, 3, none⟩ = some (.string to) ∧ w''.cell? ⟨w.heap.size, 4, none⟩ = some (.int .i64 qty) ∧ w''.cell? ⟨w.heap.size, 5, none⟩ = some (.int .i64 id) ∧ w''.cell? ⟨w.heap.size, 6, none⟩ = some (.int .i64 due))) := fun w' w'' h q => by
    have a : OpAt w' w.heap.size k sku loc to qty id due := ⟨h.2.1, h.2.2.1, h.2.2.2.1, h.2.2.2.2.1, h.2.2.2.2.2.1, h.2.2.2.2.2.2.1, h.2.2.2.2.2.2.2⟩
    have b := a.next q
    exact ⟨Below.next h.1 q, b.c0, b.c1, b.c2, b.c3, b.c4, b.c5, b.c6⟩
  have HSD : Hid (∀ w', (Below w.heap.size w w' ∧ w'.cell? ⟨w.heap.size, 0, none⟩ = some (.int .i64 k) ∧ w'.cell? ⟨w.heap.size, 1, none⟩ = some (.string sku) ∧ w'.cell? ⟨w.heap.size, 2, none⟩ = some (.string loc) ∧ w'.cell? ⟨w.heap.size, 3, none⟩ = some (.string to) ∧ w'.cell? ⟨w.heap.size, 4, none⟩ = some (.int .i64 qty) ∧ w'.cell? ⟨w.heap.size, 5, none⟩ = some (.int .i64 id) ∧ w'.cell? ⟨w.heap.size, 6, none⟩ = some (.int .i64 due)) → (Below w.heap.size w w'.drew ∧ w'.drew.cell? ⟨w.heap.size, 0, none⟩ = some (.int .i64 k) ∧ w'.drew.cell? ⟨w.heap.size, 1, none⟩ = some (.string sku) ∧ w'.drew.cell? ⟨w.heap.size, 2, none⟩ = some (.string loc) ∧ w'.drew.cell? ⟨w.heap.size, 3, none⟩ = some (.string to) ∧ w'.drew.cell? ⟨w.heap.size, 4, none⟩ = some (.int .i64 qty) ∧ w'.drew.cell? ⟨w.heap.size, 5, none⟩ = some (.int .i64 id) ∧ w'.drew.cell? ⟨w.heap.size, 6, none⟩ = some (.int .i64 due))) := fun w' h => HN.out w' w'.drew h (Below.refl _ _).drew
  by_cases hl : sku.size ≤ 200 ∧ loc.size ≤ 200 ∧ to.size ≤ 200
  · simp only [decide_eq_true hl] at HL0
    have HL : Hid _ := HL0
    clear HL0
    by_cases hm : mayO k sku loc to qty id due
    ·
      have HP1 : Hid (∀ w, Calls Try.prog 10 #[oo k sku loc to qty id due] w fun e w' => e = .returned (.tuple #[.string ⟨(rowB (opR k sku loc to qty id due)).toArray⟩, .int .i64 0]) ∧ Below w.heap.size w w') := fun w => by
        have hp := put_op k sku loc to qty id due w
        rw [show putO k sku loc to qty id due = _ from if_pos hm] at hp
        exact hp
      have HP2 : Hid (∀ w, Calls Try.prog 11 #[oo k sku loc to qty id due] w fun e w' => e = .returned (.tuple #[.string ⟨(rowB (opR k sku loc to qty id due)).toArray⟩, .int .i64 0]) ∧ Below w.heap.size w w') := fun w => by
        have hp := refPut_op k sku loc to qty id due hk hq hi hd w
        rw [show putO k sku loc to qty id due = _ from if_pos hm] at hp
        exact hp
      have HC1 : Hid (∀ w', (Below w.heap.size w w' ∧ w'.cell? ⟨w.heap.size, 0, none⟩ = some (.int .i64 k) ∧ w'.cell? ⟨w.heap.size, 1, none⟩ = some (.string sku) ∧ w'.cell? ⟨w.heap.size, 2, none⟩ = some (.string loc) ∧ w'.cell? ⟨w.heap.size, 3, none⟩ = some (.string to) ∧ w'.cell? ⟨w.heap.size, 4, none⟩ = some (.int .i64 qty) ∧ w'.cell? ⟨w.heap.size, 5, none⟩ = some (.int .i64 id) ∧ w'.cell? ⟨w.heap.size, 6, none⟩ = some (.int .i64 due)) → Calls Try.prog 12 #[oo k sku loc to qty id due] w' fun e w'' => e = .returned (.int .i64 0) ∧ (Below w.heap.size w w'' ∧ w''.cell? ⟨w.heap.size, 0, none⟩ = some (.int .i64 k) ∧ w''.cell? ⟨w.heap.size, 1, none⟩ = some (.string sku) ∧ w''.cell? ⟨w.heap.size, 2, none⟩ = some (.string loc) ∧ w''.cell? ⟨w.heap.size, 3, none⟩ = some (.string to) ∧ w''.cell? ⟨w.heap.size, 4, none⟩ = some (.int .i64 qty) ∧ w''.cell? ⟨w.heap.size, 5, none⟩ = some (.int .i64 id) ∧ w''.cell? ⟨w.heap.size, 6, none⟩ = some (.int .i64 due))) := fun w' h => (check_op k sku loc to qty id due w').mono (by
        rintro e w'' ⟨rfl, q⟩
        exact ⟨by rw [if_pos hm], HN.out _ _ h q⟩)
      have HC2 : Hid (∀ w', (Below w.heap.size w w' ∧ w'.cell? ⟨w.heap.size, 0, none⟩ = some (.int .i64 k) ∧ w'.cell? ⟨w.heap.size, 1, none⟩ = some (.string sku) ∧ w'.cell? ⟨w.heap.size, 2, none⟩ = some (.string loc) ∧ w'.cell? ⟨w.heap.size, 3, none⟩ = some (.string to) ∧ w'.cell? ⟨w.heap.size, 4, none⟩ = some (.int .i64 qty) ∧ w'.cell? ⟨w.heap.size, 5, none⟩ = some (.int .i64 id) ∧ w'.cell? ⟨w.heap.size, 6, none⟩ = some (.int .i64 due)) → Calls Try.prog 13 #[oo k sku loc to qty id due] w' fun e w'' => e = .returned (.int .i64 0) ∧ (Below w.heap.size w w'' ∧ w''.cell? ⟨w.heap.size, 0, none⟩ = some (.int .i64 k) ∧ w''.cell? ⟨w.heap.size, 1, none⟩ = some (.string sku) ∧ w''.cell? ⟨w.heap.size, 2, none⟩ = some (.string loc) ∧ w''.cell? ⟨w.heap.size, 3, none⟩ = some (.string to) ∧ w''.cell? ⟨w.heap.size, 4, none⟩ = some (.int .i64 qty) ∧ w''.cell? ⟨w.heap.size, 5, none⟩ = some (.int .i64 id) ∧ w''.cell? ⟨w.heap.size, 6, none⟩ = some (.int .i64 due))) := fun w' h => (refCheck_op k sku loc to qty id due w').mono (by
        rintro e w'' ⟨rfl, q⟩
        exact ⟨by rw [if_pos hm], HN.out _ _ h q⟩)
      have HTK : Hid _ := fun w => takeO_back hm hk hq hi hd w
      obtain ⟨L, hL⟩ : ∃ L, (rowB (opR k sku loc to qty id due)).toArray = L := ⟨_, rfl⟩
      rw [hL] at HP1 HP2 HTK
      clear hL
      clear hm hk hq hi hd hl
      go_enter Try.func3, Try.ntmps3
      go_wp2_with fail
      refine Calls.mono (HL.out _) ?_; rintro e w1 ⟨rfl, k1⟩
      have HS1 : Hid (Below w.heap.size w w1 ∧ w1.cell? ⟨w.heap.size, 0, none⟩ = some (.int .i64 k) ∧ w1.cell? ⟨w.heap.size, 1, none⟩ = some (.string sku) ∧ w1.cell? ⟨w.heap.size, 2, none⟩ = some (.string loc) ∧ w1.cell? ⟨w.heap.size, 3, none⟩ = some (.string to) ∧ w1.cell? ⟨w.heap.size, 4, none⟩ = some (.int .i64 qty) ∧ w1.cell? ⟨w.heap.size, 5, none⟩ = some (.int .i64 id) ∧ w1.cell? ⟨w.heap.size, 6, none⟩ = some (.int .i64 due)) := by
        have b := CellsF.new w [.int .i64 k, .string sku, .string loc, .string to, .int .i64 qty, .int .i64 id, .int .i64 due] 23 (by simp)
        exact ⟨Below.next (below1 _ _) k1, b.old k1 0 _ rfl, b.old k1 1 _ rfl, b.old k1 2 _ rfl, b.old k1 3 _ rfl, b.old k1 4 _ rfl, b.old k1 5 _ rfl, b.old k1 6 _ rfl⟩
      obtain ⟨zb, z0, z1, z2, z3, z4, z5, z6⟩ := HS1.out
      clear k1
      go_wp2_with fail
      refine Calls.mono (HP1.out _) ?_; rintro e w2 ⟨rfl, k2⟩
      have HS2 : Hid (Below w.heap.size w w2 ∧ w2.cell? ⟨w.heap.size, 0, none⟩ = some (.int .i64 k) ∧ w2.cell? ⟨w.heap.size, 1, none⟩ = some (.string sku) ∧ w2.cell? ⟨w.heap.size, 2, none⟩ = some (.string loc) ∧ w2.cell? ⟨w.heap.size, 3, none⟩ = some (.string to) ∧ w2.cell? ⟨w.heap.size, 4, none⟩ = some (.int .i64 qty) ∧ w2.cell? ⟨w.heap.size, 5, none⟩ = some (.int .i64 id) ∧ w2.cell? ⟨w.heap.size, 6, none⟩ = some (.int .i64 due)) := HN.out _ _ HS1.out k2
      clear zb z0 z1 z2 z3 z4 z5 z6
      obtain ⟨zb, z0, z1, z2, z3, z4, z5, z6⟩ := HS2.out
      clear k2
      go_wp2_with fail
      refine Calls.mono (HP2.out _) ?_; rintro e w3 ⟨rfl, k3⟩
      have HS3 : Hid (Below w.heap.size w w3 ∧ w3.cell? ⟨w.heap.size, 0, none⟩ = some (.int .i64 k) ∧ w3.cell? ⟨w.heap.size, 1, none⟩ = some (.string sku) ∧ w3.cell? ⟨w.heap.size, 2, none⟩ = some (.string loc) ∧ w3.cell? ⟨w.heap.size, 3, none⟩ = some (.string to) ∧ w3.cell? ⟨w.heap.size, 4, none⟩ = some (.int .i64 qty) ∧ w3.cell? ⟨w.heap.size, 5, none⟩ = some (.int .i64 id) ∧ w3.cell? ⟨w.heap.size, 6, none⟩ = some (.int .i64 due)) := HN.out _ _ HS2.out k3
      clear k3 zb z0 z1 z2 z3 z4 z5 z6
      have hS0 := HS3.out
      go_wp2_with fail
      go_region_held (fun (w' : World) => (Below w.heap.size w w' ∧ w'.cell? ⟨w.heap.size, 0, none⟩ = some (.int .i64 k) ∧ w'.cell? ⟨w.heap.size, 1, none⟩ = some (.string sku) ∧ w'.cell? ⟨w.heap.size, 2, none⟩ = some (.string loc) ∧ w'.cell? ⟨w.heap.size, 3, none⟩ = some (.string to) ∧ w'.cell? ⟨w.heap.size, 4, none⟩ = some (.int .i64 qty) ∧ w'.cell? ⟨w.heap.size, 5, none⟩ = some (.int .i64 id) ∧ w'.cell? ⟨w.heap.size, 6, none⟩ = some (.int .i64 due))) (first | (with_reducible assumption) | (with_reducible exact HSD.out _ (by with_reducible assumption)))
        (first
        | ((with_reducible refine Calls.mono (HC1.out _ (by with_reducible assumption)) ?_); rintro e w4 ⟨rfl, hS4⟩)
        | ((with_reducible refine Calls.mono (HC2.out _ (by with_reducible assumption)) ?_); rintro e w4 ⟨rfl, hS4⟩))
      have hS5 : (Below w.heap.size w w4 ∧ w4.cell? ⟨w.heap.size, 0, none⟩ = some (.int .i64 k) ∧ w4.cell? ⟨w.heap.size, 1, none⟩ = some (.string sku) ∧ w4.cell? ⟨w.heap.size, 2, none⟩ = some (.string loc) ∧ w4.cell? ⟨w.heap.size, 3, none⟩ = some (.string to) ∧ w4.cell? ⟨w.heap.size, 4, none⟩ = some (.int .i64 qty) ∧ w4.cell? ⟨w.heap.size, 5, none⟩ = some (.int .i64 id) ∧ w4.cell? ⟨w.heap.size, 6, none⟩ = some (.int .i64 due)) := by with_reducible assumption
      have HS5 : Hid (Below w.heap.size w w4 ∧ w4.cell? ⟨w.heap.size, 0, none⟩ = some (.int .i64 k) ∧ w4.cell? ⟨w.heap.size, 1, none⟩ = some (.string sku) ∧ w4.cell? ⟨w.heap.size, 2, none⟩ = some (.string loc) ∧ w4.cell? ⟨w.heap.size, 3, none⟩ = some (.string to) ∧ w4.cell? ⟨w.heap.size, 4, none⟩ = some (.int .i64 qty) ∧ w4.cell? ⟨w.heap.size, 5, none⟩ = some (.int .i64 id) ∧ w4.cell? ⟨w.heap.size, 6, none⟩ = some (.int .i64 due)) := hS5
      clear hS5 hS4 hS0
      go_wp2_with fail
      refine Calls.mono (HTK.out _) ?_; rintro e w5 ⟨rfl, k5⟩
      have k6 : Below w4.heap.size w4 (w5.alloc (.cells #[.int .i64 k, .string sku, .string loc, .string to, .int .i64 qty, .int .i64 id, .int .i64 due] 23)) := k5.alloc k5.size _
      have HS6 : Hid (Below w.heap.size w (w5.alloc (.cells #[.int .i64 k, .string sku, .string loc, .string to, .int .i64 qty, .int .i64 id, .int .i64 due] 23)) ∧ (w5.alloc (.cells #[.int .i64 k, .string sku, .string loc, .string to, .int .i64 qty, .int .i64 id, .int .i64 due] 23)).cell? ⟨w.heap.size, 0, none⟩ = some (.int .i64 k) ∧ (w5.alloc (.cells #[.int .i64 k, .string sku, .string loc, .string to, .int .i64 qty, .int .i64 id, .int .i64 due] 23)).cell? ⟨w.heap.size, 1, none⟩ = some (.string sku) ∧ (w5.alloc (.cells #[.int .i64 k, .string sku, .string loc, .string to, .int .i64 qty, .int .i64 id, .int .i64 due] 23)).cell? ⟨w.heap.size, 2, none⟩ = some (.string loc) ∧ (w5.alloc (.cells #[.int .i64 k, .string sku, .string loc, .string to, .int .i64 qty, .int .i64 id, .int .i64 due] 23)).cell? ⟨w.heap.size, 3, none⟩ = some (.string to) ∧ (w5.alloc (.cells #[.int .i64 k, .string sku, .string loc, .string to, .int .i64 qty, .int .i64 id, .int .i64 due] 23)).cell? ⟨w.heap.size, 4, none⟩ = some (.int .i64 qty) ∧ (w5.alloc (.cells #[.int .i64 k, .string sku, .string loc, .string to, .int .i64 qty, .int .i64 id, .int .i64 due] 23)).cell? ⟨w.heap.size, 5, none⟩ = some (.int .i64 id) ∧ (w5.alloc (.cells #[.int .i64 k, .string sku, .string loc, .string to, .int .i64 qty, .int .i64 id, .int .i64 due] 23)).cell? ⟨w.heap.size, 6, none⟩ = some (.int .i64 due)) := HN.out _ _ HS5.out k6
      obtain ⟨zb, z0, z1, z2, z3, z4, z5, z6⟩ := HS6.out
      have HB6 : Hid (Below w.heap.size w (w5.alloc (.cells #[.int .i64 k, .string sku, .string loc, .string to, .int .i64 qty, .int .i64 id, .int .i64 due] 23))) := zb
      clear k5 k6 zb
      go_wp2_with fail
      refine Calls.mono (HA.out _) ?_; rintro e w9 ⟨rfl, k9⟩
      have HB9 : Hid (Below w.heap.size w w9) := Below.next HB6.out k9
      clear k9
      go_wp2_with fail
      go_ret
      exact ⟨rfl, HB9.out⟩
    ·
      have HP1 : Hid (∀ w, Calls Try.prog 10 #[oo k sku loc to qty id due] w fun e w' => e = .returned (.tuple #[.string ⟨#[]⟩, .int .i64 1]) ∧ Below w.heap.size w w') := fun w => by
        have hp := put_op k sku loc to qty id due w
        rw [show putO k sku loc to qty id due = _ from if_neg hm] at hp
        exact hp
      have HP2 : Hid (∀ w, Calls Try.prog 11 #[oo k sku loc to qty id due] w fun e w' => e = .returned (.tuple #[.string ⟨#[]⟩, .int .i64 1]) ∧ Below w.heap.size w w') := fun w => by
        have hp := refPut_op k sku loc to qty id due hk hq hi hd w
        rw [show putO k sku loc to qty id due = _ from if_neg hm] at hp
        exact hp
      have HC1 : Hid (∀ w', (Below w.heap.size w w' ∧ w'.cell? ⟨w.heap.size, 0, none⟩ = some (.int .i64 k) ∧ w'.cell? ⟨w.heap.size, 1, none⟩ = some (.string sku) ∧ w'.cell? ⟨w.heap.size, 2, none⟩ = some (.string loc) ∧ w'.cell? ⟨w.heap.size, 3, none⟩ = some (.string to) ∧ w'.cell? ⟨w.heap.size, 4, none⟩ = some (.int .i64 qty) ∧ w'.cell? ⟨w.heap.size, 5, none⟩ = some (.int .i64 id) ∧ w'.cell? ⟨w.heap.size, 6, none⟩ = some (.int .i64 due)) → Calls Try.prog 12 #[oo k sku loc to qty id due] w' fun e w'' => e = .returned (.int .i64 1) ∧ (Below w.heap.size w w'' ∧ w''.cell? ⟨w.heap.size, 0, none⟩ = some (.int .i64 k) ∧ w''.cell? ⟨w.heap.size, 1, none⟩ = some (.string sku) ∧ w''.cell? ⟨w.heap.size, 2, none⟩ = some (.string loc) ∧ w''.cell? ⟨w.heap.size, 3, none⟩ = some (.string to) ∧ w''.cell? ⟨w.heap.size, 4, none⟩ = some (.int .i64 qty) ∧ w''.cell? ⟨w.heap.size, 5, none⟩ = some (.int .i64 id) ∧ w''.cell? ⟨w.heap.size, 6, none⟩ = some (.int .i64 due))) := fun w' h => (check_op k sku loc to qty id due w').mono (by
        rintro e w'' ⟨rfl, q⟩
        exact ⟨by rw [if_neg hm], HN.out _ _ h q⟩)
      have HC2 : Hid (∀ w', (Below w.heap.size w w' ∧ w'.cell? ⟨w.heap.size, 0, none⟩ = some (.int .i64 k) ∧ w'.cell? ⟨w.heap.size, 1, none⟩ = some (.string sku) ∧ w'.cell? ⟨w.heap.size, 2, none⟩ = some (.string loc) ∧ w'.cell? ⟨w.heap.size, 3, none⟩ = some (.string to) ∧ w'.cell? ⟨w.heap.size, 4, none⟩ = some (.int .i64 qty) ∧ w'.cell? ⟨w.heap.size, 5, none⟩ = some (.int .i64 id) ∧ w'.cell? ⟨w.heap.size, 6, none⟩ = some (.int .i64 due)) → Calls Try.prog 13 #[oo k sku loc to qty id due] w' fun e w'' => e = .returned (.int .i64 1) ∧ (Below w.heap.size w w'' ∧ w''.cell? ⟨w.heap.size, 0, none⟩ = some (.int .i64 k) ∧ w''.cell? ⟨w.heap.size, 1, none⟩ = some (.string sku) ∧ w''.cell? ⟨w.heap.size, 2, none⟩ = some (.string loc) ∧ w''.cell? ⟨w.heap.size, 3, none⟩ = some (.string to) ∧ w''.cell? ⟨w.heap.size, 4, none⟩ = some (.int .i64 qty) ∧ w''.cell? ⟨w.heap.size, 5, none⟩ = some (.int .i64 id) ∧ w''.cell? ⟨w.heap.size, 6, none⟩ = some (.int .i64 due))) := fun w' h => (refCheck_op k sku loc to qty id due w').mono (by
        rintro e w'' ⟨rfl, q⟩
        exact ⟨by rw [if_neg hm], HN.out _ _ h q⟩)
      clear hm hk hq hi hd hl
      go_enter Try.func3, Try.ntmps3
      go_wp2_with fail
      refine Calls.mono (HL.out _) ?_; rintro e w1 ⟨rfl, k1⟩
      have HS1 : Hid (Below w.heap.size w w1 ∧ w1.cell? ⟨w.heap.size, 0, none⟩ = some (.int .i64 k) ∧ w1.cell? ⟨w.heap.size, 1, none⟩ = some (.string sku) ∧ w1.cell? ⟨w.heap.size, 2, none⟩ = some (.string loc) ∧ w1.cell? ⟨w.heap.size, 3, none⟩ = some (.string to) ∧ w1.cell? ⟨w.heap.size, 4, none⟩ = some (.int .i64 qty) ∧ w1.cell? ⟨w.heap.size, 5, none⟩ = some (.int .i64 id) ∧ w1.cell? ⟨w.heap.size, 6, none⟩ = some (.int .i64 due)) := by
        have b := CellsF.new w [.int .i64 k, .string sku, .string loc, .string to, .int .i64 qty, .int .i64 id, .int .i64 due] 23 (by simp)
        exact ⟨Below.next (below1 _ _) k1, b.old k1 0 _ rfl, b.old k1 1 _ rfl, b.old k1 2 _ rfl, b.old k1 3 _ rfl, b.old k1 4 _ rfl, b.old k1 5 _ rfl, b.old k1 6 _ rfl⟩
      obtain ⟨zb, z0, z1, z2, z3, z4, z5, z6⟩ := HS1.out
      clear k1
      go_wp2_with fail
      refine Calls.mono (HP1.out _) ?_; rintro e w2 ⟨rfl, k2⟩
      have HS2 : Hid (Below w.heap.size w w2 ∧ w2.cell? ⟨w.heap.size, 0, none⟩ = some (.int .i64 k) ∧ w2.cell? ⟨w.heap.size, 1, none⟩ = some (.string sku) ∧ w2.cell? ⟨w.heap.size, 2, none⟩ = some (.string loc) ∧ w2.cell? ⟨w.heap.size, 3, none⟩ = some (.string to) ∧ w2.cell? ⟨w.heap.size, 4, none⟩ = some (.int .i64 qty) ∧ w2.cell? ⟨w.heap.size, 5, none⟩ = some (.int .i64 id) ∧ w2.cell? ⟨w.heap.size, 6, none⟩ = some (.int .i64 due)) := HN.out _ _ HS1.out k2
      clear zb z0 z1 z2 z3 z4 z5 z6
      obtain ⟨zb, z0, z1, z2, z3, z4, z5, z6⟩ := HS2.out
      clear k2
      go_wp2_with fail
      refine Calls.mono (HP2.out _) ?_; rintro e w3 ⟨rfl, k3⟩
      have HS3 : Hid (Below w.heap.size w w3 ∧ w3.cell? ⟨w.heap.size, 0, none⟩ = some (.int .i64 k) ∧ w3.cell? ⟨w.heap.size, 1, none⟩ = some (.string sku) ∧ w3.cell? ⟨w.heap.size, 2, none⟩ = some (.string loc) ∧ w3.cell? ⟨w.heap.size, 3, none⟩ = some (.string to) ∧ w3.cell? ⟨w.heap.size, 4, none⟩ = some (.int .i64 qty) ∧ w3.cell? ⟨w.heap.size, 5, none⟩ = some (.int .i64 id) ∧ w3.cell? ⟨w.heap.size, 6, none⟩ = some (.int .i64 due)) := HN.out _ _ HS2.out k3
      clear k3 zb z0 z1 z2 z3 z4 z5 z6
      have hS0 := HS3.out
      go_wp2_with fail
      go_region_held (fun (w' : World) => (Below w.heap.size w w' ∧ w'.cell? ⟨w.heap.size, 0, none⟩ = some (.int .i64 k) ∧ w'.cell? ⟨w.heap.size, 1, none⟩ = some (.string sku) ∧ w'.cell? ⟨w.heap.size, 2, none⟩ = some (.string loc) ∧ w'.cell? ⟨w.heap.size, 3, none⟩ = some (.string to) ∧ w'.cell? ⟨w.heap.size, 4, none⟩ = some (.int .i64 qty) ∧ w'.cell? ⟨w.heap.size, 5, none⟩ = some (.int .i64 id) ∧ w'.cell? ⟨w.heap.size, 6, none⟩ = some (.int .i64 due))) (first | (with_reducible assumption) | (with_reducible exact HSD.out _ (by with_reducible assumption)))
        (first
        | ((with_reducible refine Calls.mono (HC1.out _ (by with_reducible assumption)) ?_); rintro e w4 ⟨rfl, hS4⟩)
        | ((with_reducible refine Calls.mono (HC2.out _ (by with_reducible assumption)) ?_); rintro e w4 ⟨rfl, hS4⟩))
      have hS5 : (Below w.heap.size w w4 ∧ w4.cell? ⟨w.heap.size, 0, none⟩ = some (.int .i64 k) ∧ w4.cell? ⟨w.heap.size, 1, none⟩ = some (.string sku) ∧ w4.cell? ⟨w.heap.size, 2, none⟩ = some (.string loc) ∧ w4.cell? ⟨w.heap.size, 3, none⟩ = some (.string to) ∧ w4.cell? ⟨w.heap.size, 4, none⟩ = some (.int .i64 qty) ∧ w4.cell? ⟨w.heap.size, 5, none⟩ = some (.int .i64 id) ∧ w4.cell? ⟨w.heap.size, 6, none⟩ = some (.int .i64 due)) := by with_reducible assumption
      have HS5 : Hid (Below w.heap.size w w4 ∧ w4.cell? ⟨w.heap.size, 0, none⟩ = some (.int .i64 k) ∧ w4.cell? ⟨w.heap.size, 1, none⟩ = some (.string sku) ∧ w4.cell? ⟨w.heap.size, 2, none⟩ = some (.string loc) ∧ w4.cell? ⟨w.heap.size, 3, none⟩ = some (.string to) ∧ w4.cell? ⟨w.heap.size, 4, none⟩ = some (.int .i64 qty) ∧ w4.cell? ⟨w.heap.size, 5, none⟩ = some (.int .i64 id) ∧ w4.cell? ⟨w.heap.size, 6, none⟩ = some (.int .i64 due)) := hS5
      clear hS5 hS4 hS0
      go_wp2_with fail
      refine Calls.mono (HA.out _) ?_; rintro e w9 ⟨rfl, k9⟩
      have HB9 : Hid (Below w.heap.size w w9) := Below.next HS5.out.1 k9
      clear k9
      go_wp2_with fail
      go_ret
      exact ⟨rfl, HB9.out⟩
  · simp only [decide_eq_false hl] at HL0
    have HL : Hid _ := HL0
    clear HL0
    go_enter Try.func3, Try.ntmps3
    go_wp2_with fail
    refine Calls.mono (HL.out _) ?_; rintro e w1 ⟨rfl, k1⟩
    have HB1 : Hid (Below w.heap.size w w1) := Below.next (below1 _ _) k1
    clear k1
    go_wp2_with fail
    refine Calls.mono (HA.out _) ?_; rintro e w9 ⟨rfl, k9⟩
    have HB9 : Hid (Below w.heap.size w w9) := Below.next HB1.out k9
    clear k9
    go_wp2_with fail
    go_ret
    exact ⟨rfl, HB9.out⟩

set_option maxRecDepth 100000 in
theorem lifted (os : Os) (started : os.Started) (H : Type) (enc : TypeId × Value → H) :
    ReturnsInHanded {} Try.checked os 3 .any (Rows.entryPutsSpec.pre6 enc Try.prog Try.f3 Rows.entryPutsRow.domain false) (Rows.entryPutsSpec.post enc Try.prog Try.f3 false true false false) := by
  refine returnsInHanded_of_change (C := Try.checked) own started (by kernel_rfl) Try.func3
    (ChangeSpec.witness6 (enc := enc) (C := Try.checked) false ⟨#[], #[oo 0 ⟨#[]⟩ ⟨#[]⟩ ⟨#[]⟩ 0 0 0], []⟩ 8 (by kernel_rfl) (by kernel_rfl) (by kernel_rfl) (by kernel_rfl)) ?_
  intro W base args ds gs before hval0 hW hcnd _
  have hval : ∀ (j : Nat) t v, Try.f3.params[j]? = some t → args[j]? = some v → Value.okWide Try.prog W .any base t v := hval0
  have hW' := hW
  obtain ⟨p, q, hA0, hV, rfl, hfz, hnd⟩ := hW
  have hA : DataW.TrodAll enc Try.prog W 0 (fun _ => true) true Try.f3.params.toList args.toList ds p := hA0
  rw [Try.params3] at hA hval
  obtain ⟨v0, vs0, d0, ds0, p0, q0, hargs, rfl, rfl, h0, rr0⟩ := trodAll_cons hA
  obtain ⟨rfl, rfl, rfl⟩ := trodAll_nil rr0
  obtain rfl : args = #[v0] := by cases args; simp_all
  obtain ⟨rfl, rfl⟩ := trodVars_none hV
  have g0 := h0
  have lt0 : ∀ x ∈ p0, x.block < W.heap.size := by obtain ⟨m, hm⟩ := g0; exact DataW.trod_lt m _ _ _ hm
  obtain ⟨x0, x1, x2, x3, x4, x5, x6, rfl, i0, _, _, _, i4, i5, i6⟩ := open_op (hval 0 23 v0 rfl rfl) h0
  simp only [List.append_nil] at hW'
  clear hA0 hval0
  refine (walk x0 x1 x2 x3 x4 x5 x6 i0 i4 i5 i6 W).mono fun e W' ⟨he, bel⟩ => ?_
  subst he
  exact ⟨_, rfl, _, _, _, [], _, [], hW', trodAll_mk1 (shut_bool Try.underlying4 _), (trodAll_cons_mk (Below.trod laidOut (by kernel_rfl) (of_decide_eq_true (by kernel_rfl)) g0 bel lt0) trodAll_mk0), rfl, bel.frame _, fun h => by cases h⟩

theorem over : Rows.entryPutsRow.holds Try.pinned (OpenSpec.ofChange Rows.entryPutsSpec) :=
  OpenClaim.holds_of_wide 3 Try.f3 rfl rfl rfl rfl rfl rfl rfl ⟨rfl, rfl, rfl, rfl, rfl⟩ rfl rfl rfl rfl rfl (by kernel_rfl) Try.func3 (by kernel_rfl)
    (of_decide_eq_true (by kernel_rfl)) (by unfold Func.isWrapper; first | (rw [if_pos (by decide +kernel)]; kernel_rfl) | (rw [if_neg (by decide +kernel)]; exact ⟨rfl, rfl⟩))
    (fun os started H enc _ => lifted os started H enc)

/-- ████ THE STATEMENT ████ -/
theorem proved : Rows.EntryPutsSaid := over
#print axioms proved
end Go.Proofs.Ytaoboleifdgonaa.entryPuts
