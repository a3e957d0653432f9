/- entry: Put and Check, and the document's. -/
import Derived.Test.YtaoboleifdgonaaEEq
import Derived.Test.YtaoboleifdgonaaRMay
import Derived.Test.YtaoboleifdgonaaRPut
namespace Go.Proofs.Ytaoboleifdgonaa
open Go.ChangeShapes Go.WideShapes Go.RowKit
set_option linter.unusedVariables false
set_option maxRecDepth 100000

theorem opR_fits {k : Int} {sku loc to : ByteArray} {qty id due : Int} (h : mayO k sku loc to qty id due) : fits (opR k sku loc to qty id due) := by
  have h1 : sku.size ≤ 64 ∧ loc.size ≤ 64 ∧ to.size ≤ 64 := by unfold mayO name at h; omega
  intro x hx
  simp only [opR, List.mem_cons, List.mem_nil_iff, or_false] at hx
  rcases hx with rfl | rfl | rfl | rfl | rfl | rfl | rfl
  · exact .inr (.inl ⟨rfl, rfl⟩)
  · exact .inr (.inr (.inl ⟨rfl, rfl, h1.1⟩))
  · exact .inr (.inr (.inl ⟨rfl, rfl, h1.2.1⟩))
  · exact .inr (.inr (.inl ⟨rfl, rfl, h1.2.2⟩))
  · exact .inr (.inl ⟨rfl, rfl⟩)
  · exact .inr (.inl ⟨rfl, rfl⟩)
  · exact .inr (.inl ⟨rfl, rfl⟩)
theorem fits_small {r : List V} (h : fits r) : ∀ x, x ∈ r → x.s.size ≤ 9223372036854775807 := fun x hx => by
  have := h x hx
  have hm : mayV x.k x.n x.s := this
  unfold mayV at hm
  omega
theorem opR_range {k : Int} {sku loc to : ByteArray} {qty id due : Int} (hk : -9223372036854775808 ≤ k ∧ k ≤ 9223372036854775807) (hq : -9223372036854775808 ≤ qty ∧ qty ≤ 9223372036854775807) (hi : -9223372036854775808 ≤ id ∧ id ≤ 9223372036854775807) (hd : -9223372036854775808 ≤ due ∧ due ≤ 9223372036854775807) : ∀ x, x ∈ opR k sku loc to qty id due → -9223372036854775808 ≤ x.n ∧ x.n ≤ 9223372036854775807 := by
  intro x hx
  simp only [opR, List.mem_cons, List.mem_nil_iff, or_false] at hx
  rcases hx with rfl | rfl | rfl | rfl | rfl | rfl | rfl
  · exact hk
  · exact (by omega : (-9223372036854775808 : Int) ≤ 0 ∧ (0 : Int) ≤ 9223372036854775807)
  · exact (by omega : (-9223372036854775808 : Int) ≤ 0 ∧ (0 : Int) ≤ 9223372036854775807)
  · exact (by omega : (-9223372036854775808 : Int) ≤ 0 ∧ (0 : Int) ≤ 9223372036854775807)
  · exact hq
  · exact hi
  · exact hd
/-- What Put answers. -/
def putO (k : Int) (sku loc to : ByteArray) (qty id due : Int) : Value := if mayO k sku loc to qty id due then .tuple #[.string ⟨(rowB (opR k sku loc to qty id due)).toArray⟩, .int .i64 0] else .tuple #[.string ⟨#[]⟩, .int .i64 1]
theorem putR_op {k : Int} {sku loc to : ByteArray} {qty id due : Int} (h : mayO k sku loc to qty id due) : putR (opR k sku loc to qty id due) = .tuple #[.string ⟨(rowB (opR k sku loc to qty id due)).toArray⟩, .int .i64 0] := by
  unfold putR
  rw [if_pos ⟨by show 7 ≤ 255; omega, opR_fits h⟩]
theorem check_op (k : Int) (sku loc to : ByteArray) (qty id due : Int) (w : World) : Calls Try.prog 12 #[oo k sku loc to qty id due] w fun e w' => e = .returned (.int .i64 (if mayO k sku loc to qty id due then 0 else 1)) ∧ Below w.heap.size w w' := by
  have HM0 := fun w => mayO_is k sku loc to qty id due w
  by_cases h : mayO k sku loc to qty id due
  · simp only [decide_eq_true h] at HM0
    have HM : Hid _ := HM0
    have HH : Hid ((if mayO k sku loc to qty id due then 0 else 1 : Int) = 0) := if_pos h
    clear HM0
    go_enter Try.func12, Try.ntmps12
    go_wp2_with fail
    refine Calls.mono (HM.out _) ?_; rintro e w1 ⟨rfl, k1⟩
    have HK : Hid (Below w.heap.size w w1) := Below.next (below1 _ _) k1
    clear k1
    go_wp2_with fail
    go_ret
    exact ⟨rfl, HK.out⟩
  · simp only [decide_eq_false h] at HM0
    have HM : Hid _ := HM0
    have HH : Hid ((if mayO k sku loc to qty id due then 0 else 1 : Int) = 1) := if_neg h
    clear HM0
    go_enter Try.func12, Try.ntmps12
    go_wp2_with fail
    refine Calls.mono (HM.out _) ?_; rintro e w1 ⟨rfl, k1⟩
    have HK : Hid (Below w.heap.size w w1) := Below.next (below1 _ _) k1
    clear k1
    go_wp2_with fail
    go_ret
    exact ⟨rfl, HK.out⟩
theorem refCheck_op (k : Int) (sku loc to : ByteArray) (qty id due : Int) (w : World) : Calls Try.prog 13 #[oo k sku loc to qty id due] w fun e w' => e = .returned (.int .i64 (if mayO k sku loc to qty id due then 0 else 1)) ∧ Below w.heap.size w w' := by
  have HM0 := fun w => refMayO_is k sku loc to qty id due w
  by_cases h : mayO k sku loc to qty id due
  · simp only [decide_eq_true h] at HM0
    have HM : Hid _ := HM0
    have HH : Hid ((if mayO k sku loc to qty id due then 0 else 1 : Int) = 0) := if_pos h
    clear HM0
    go_enter Try.func13, Try.ntmps13
    go_wp2_with fail
    refine Calls.mono (HM.out _) ?_; rintro e w1 ⟨rfl, k1⟩
    have HK : Hid (Below w.heap.size w w1) := Below.next (below1 _ _) k1
    clear k1
    go_wp2_with fail
    go_ret
    exact ⟨rfl, HK.out⟩
  · simp only [decide_eq_false h] at HM0
    have HM : Hid _ := HM0
    have HH : Hid ((if mayO k sku loc to qty id due then 0 else 1 : Int) = 1) := if_neg h
    clear HM0
    go_enter Try.func13, Try.ntmps13
    go_wp2_with fail
    refine Calls.mono (HM.out _) ?_; rintro e w1 ⟨rfl, k1⟩
    have HK : Hid (Below w.heap.size w w1) := Below.next (below1 _ _) k1
    clear k1
    go_wp2_with fail
    go_ret
    exact ⟨rfl, HK.out⟩
set_option maxHeartbeats 1000000 in
theorem put_op (k : Int) (sku loc to : ByteArray) (qty id due : Int) (w : World) : Calls Try.prog 10 #[oo k sku loc to qty id due] w fun e w' => e = .returned (putO k sku loc to qty id due) ∧ Below w.heap.size w w' := by
  have HM0 := fun w => mayO_is k sku loc to qty id due w
  by_cases h : mayO k sku loc to qty id due
  · simp only [decide_eq_true h] at HM0
    have HM : Hid _ := HM0
    have HH : Hid (putO k sku loc to qty id due = .tuple #[.string ⟨(rowB (opR k sku loc to qty id due)).toArray⟩, .int .i64 0]) := if_pos h
    have HPR : Hid (∀ (B : Nat) (w : World), Row w (.slice (some ⟨B, 0, none⟩) 7 7) (opR k sku loc to qty id due) → Calls Try.prog 31 #[.slice (some ⟨B, 0, none⟩) 7 7] w fun e w' => e = .returned (.tuple #[.string ⟨(rowB (opR k sku loc to qty id due)).toArray⟩, .int .i64 0]) ∧ Below w.heap.size w w') := fun B w hr => by
      have := put_is (some ⟨B, 0, none⟩) 7 7 (opR k sku loc to qty id due) rfl w hr (fits_small (opR_fits h)) (by omega)
      rw [putR_op h] at this
      exact this
    have HOR : Hid _ := fun w => opRow_is k sku loc to qty id due w
    obtain ⟨L, hL⟩ : ∃ L, (rowB (opR k sku loc to qty id due)).toArray = L := ⟨_, rfl⟩
    rw [hL] at HH HPR
    clear HM0 hL
    go_enter Try.func10, Try.ntmps10
    go_wp2_with fail
    refine Calls.mono (HM.out _) ?_; rintro e w1 ⟨rfl, k1⟩
    have HK : Hid (Below w.heap.size w w1) := Below.next (below1 _ _) k1
    obtain ⟨o0, o1, o2, o3, o4, o5, o6⟩ := (OpAt.new w k sku loc to qty id due).next k1
    clear k1
    go_wp2_with fail
    refine Calls.mono (HOR.out _) ?_; rintro e w2 ⟨B, rfl, r2, k2⟩
    have HK2 : Hid (Below w.heap.size w w2) := Below.next HK.out k2
    have HR2 : Hid _ := HPR.out B w2 r2
    clear k2 r2
    go_wp2_with fail
    refine Calls.mono HR2.out ?_; rintro e w3 ⟨rfl, k3⟩
    have HK3 : Hid (Below w.heap.size w w3) := Below.next HK2.out k3
    clear k3
    go_wp2_with fail
    go_ret2
    exact ⟨by rw [HH.out]; rfl, HK3.out⟩
  · simp only [decide_eq_false h] at HM0
    have HM : Hid _ := HM0
    have HH : Hid (putO k sku loc to qty id due = .tuple #[.string ⟨#[]⟩, .int .i64 1]) := if_neg h
    clear HM0
    go_enter Try.func10, Try.ntmps10
    go_wp2_with fail
    refine Calls.mono (HM.out _) ?_; rintro e w1 ⟨rfl, k1⟩
    have HK : Hid (Below w.heap.size w w1) := Below.next (below1 _ _) k1
    clear k1
    go_wp2_with fail
    go_ret2
    exact ⟨by rw [HH.out]; rfl, HK.out⟩
set_option maxHeartbeats 4000000 in
theorem refPut_op (k : Int) (sku loc to : ByteArray) (qty id due : Int) (hk : -9223372036854775808 ≤ k ∧ k ≤ 9223372036854775807) (hq : -9223372036854775808 ≤ qty ∧ qty ≤ 9223372036854775807) (hi : -9223372036854775808 ≤ id ∧ id ≤ 9223372036854775807) (hd : -9223372036854775808 ≤ due ∧ due ≤ 9223372036854775807) (w : World) : Calls Try.prog 11 #[oo k sku loc to qty id due] w fun e w' => e = .returned (putO k sku loc to qty id due) ∧ Below w.heap.size w w' := by
  have HM0 := fun w => refMayO_is k sku loc to qty id due w
  by_cases h : mayO k sku loc to qty id due
  · simp only [decide_eq_true h] at HM0
    have HM : Hid _ := HM0
    have HH : Hid (putO k sku loc to qty id due = .tuple #[.string ⟨(rowB (opR k sku loc to qty id due)).toArray⟩, .int .i64 0]) := if_pos h
    have HPR0 : ∀ (B : Nat) (w : World), B = w.heap.size → Calls Try.prog 34 #[.slice (some ⟨B, 0, none⟩) 7 7] (w.alloc (.cells #[.int .i64 1, .int .i64 k, .string ⟨#[]⟩, .int .i64 2, .int .i64 0, .string sku, .int .i64 2, .int .i64 0, .string loc, .int .i64 2, .int .i64 0, .string to, .int .i64 1, .int .i64 qty, .string ⟨#[]⟩, .int .i64 1, .int .i64 id, .string ⟨#[]⟩, .int .i64 1, .int .i64 due, .string ⟨#[]⟩] 56)) fun e w' => e = .returned (.tuple #[.string ⟨(rowB (opR k sku loc to qty id due)).toArray⟩, .int .i64 0]) ∧ Below w.heap.size w w' := fun B w hB => by
      have hr : Row (w.alloc (.cells #[.int .i64 1, .int .i64 k, .string ⟨#[]⟩, .int .i64 2, .int .i64 0, .string sku, .int .i64 2, .int .i64 0, .string loc, .int .i64 2, .int .i64 0, .string to, .int .i64 1, .int .i64 qty, .string ⟨#[]⟩, .int .i64 1, .int .i64 id, .string ⟨#[]⟩, .int .i64 1, .int .i64 due, .string ⟨#[]⟩] 56)) (.slice (some ⟨B, 0, none⟩) 7 7) (opR k sku loc to qty id due) := row_new w _ _ rfl B hB 7 7 rfl
      have := refPut_is (some ⟨B, 0, none⟩) 7 7 (opR k sku loc to qty id due) rfl _ hr (fits_small (opR_fits h)) (opR_range hk hq hi hd) (by omega)
      rw [putR_op h] at this
      exact this.mono (by
        rintro e w' ⟨rfl, q⟩
        exact ⟨rfl, Below.next (below1 _ _) q⟩)
    obtain ⟨L, hL⟩ : ∃ L, (rowB (opR k sku loc to qty id due)).toArray = L := ⟨_, rfl⟩
    rw [hL] at HH HPR0
    clear HM0 hL hk hq hi hd
    go_enter Try.func11, Try.ntmps11
    go_wp2_with fail
    refine Calls.mono (HM.out _) ?_; rintro e W ⟨rfl, k1⟩
    have hB : Below w.heap.size w W := Below.next (below1 _ _) k1
    have hO := (OpAt.new w k sku loc to qty id due).next k1
    clear k1
    have HN : Hid (∀ w' w'' : World, (Below w.heap.size w w' ∧ w'.cell? ⟨w.heap.size, 0, none⟩ = some (.int .i64 k) ∧ w'.cell? ⟨w.heap.size, 1, none⟩ = some (.string sku) ∧ w'.cell? ⟨w.heap.size, 2, none⟩ = some (.string loc) ∧ w'.cell? ⟨w.heap.size, 3, none⟩ = some (.string to) ∧ w'.cell? ⟨w.heap.size, 4, none⟩ = some (.int .i64 qty) ∧ w'.cell? ⟨w.heap.size, 5, none⟩ = some (.int .i64 id) ∧ w'.cell? ⟨w.heap.size, 6, none⟩ = some (.int .i64 due)) → Below w'.heap.size w' w'' → (Below w.heap.size w w'' ∧ w''.cell? ⟨w.heap.size, 0, none⟩ = some (.int .i64 k) ∧ w''.cell? ⟨w.heap.size, 1, none⟩ = some (.string sku) ∧ w''.cell? ⟨w.heap.size, 2, none⟩ = some (.string loc) ∧ w''.cell? ⟨w.heap.size, 3, none⟩ = some (.string to) ∧ w''.cell? ⟨w.heap.size, 4, none⟩ = some (.int .i64 qty) ∧ w''.cell? ⟨w.heap.size, 5, none⟩ = some (.int .i64 id) ∧ w''.cell? ⟨w.heap.size, 6, none⟩ = some (.int .i64 due))) := fun w' w'' h q => by
      have a : OpAt w' w.heap.size k sku loc to qty id due := ⟨h.2.1, h.2.2.1, h.2.2.2.1, h.2.2.2.2.1, h.2.2.2.2.2.1, h.2.2.2.2.2.2.1, h.2.2.2.2.2.2.2⟩
      have b := a.next q
      exact ⟨Below.next h.1 q, b.c0, b.c1, b.c2, b.c3, b.c4, b.c5, b.c6⟩
    have HS0 : Hid (Below w.heap.size w W ∧ W.cell? ⟨w.heap.size, 0, none⟩ = some (.int .i64 k) ∧ W.cell? ⟨w.heap.size, 1, none⟩ = some (.string sku) ∧ W.cell? ⟨w.heap.size, 2, none⟩ = some (.string loc) ∧ W.cell? ⟨w.heap.size, 3, none⟩ = some (.string to) ∧ W.cell? ⟨w.heap.size, 4, none⟩ = some (.int .i64 qty) ∧ W.cell? ⟨w.heap.size, 5, none⟩ = some (.int .i64 id) ∧ W.cell? ⟨w.heap.size, 6, none⟩ = some (.int .i64 due)) := ⟨hB, hO.c0, hO.c1, hO.c2, hO.c3, hO.c4, hO.c5, hO.c6⟩
    have HSD : Hid (∀ w', (Below w.heap.size w w' ∧ w'.cell? ⟨w.heap.size, 0, none⟩ = some (.int .i64 k) ∧ w'.cell? ⟨w.heap.size, 1, none⟩ = some (.string sku) ∧ w'.cell? ⟨w.heap.size, 2, none⟩ = some (.string loc) ∧ w'.cell? ⟨w.heap.size, 3, none⟩ = some (.string to) ∧ w'.cell? ⟨w.heap.size, 4, none⟩ = some (.int .i64 qty) ∧ w'.cell? ⟨w.heap.size, 5, none⟩ = some (.int .i64 id) ∧ w'.cell? ⟨w.heap.size, 6, none⟩ = some (.int .i64 due)) → (Below w.heap.size w w'.drew ∧ w'.drew.cell? ⟨w.heap.size, 0, none⟩ = some (.int .i64 k) ∧ w'.drew.cell? ⟨w.heap.size, 1, none⟩ = some (.string sku) ∧ w'.drew.cell? ⟨w.heap.size, 2, none⟩ = some (.string loc) ∧ w'.drew.cell? ⟨w.heap.size, 3, none⟩ = some (.string to) ∧ w'.drew.cell? ⟨w.heap.size, 4, none⟩ = some (.int .i64 qty) ∧ w'.drew.cell? ⟨w.heap.size, 5, none⟩ = some (.int .i64 id) ∧ w'.drew.cell? ⟨w.heap.size, 6, none⟩ = some (.int .i64 due))) := fun w' h => HN.out w' w'.drew h (Below.refl _ _).drew
    have HSA : Hid (∀ (w' : World) (o : Obj), (Below w.heap.size w w' ∧ w'.cell? ⟨w.heap.size, 0, none⟩ = some (.int .i64 k) ∧ w'.cell? ⟨w.heap.size, 1, none⟩ = some (.string sku) ∧ w'.cell? ⟨w.heap.size, 2, none⟩ = some (.string loc) ∧ w'.cell? ⟨w.heap.size, 3, none⟩ = some (.string to) ∧ w'.cell? ⟨w.heap.size, 4, none⟩ = some (.int .i64 qty) ∧ w'.cell? ⟨w.heap.size, 5, none⟩ = some (.int .i64 id) ∧ w'.cell? ⟨w.heap.size, 6, none⟩ = some (.int .i64 due)) → (Below w.heap.size w (w'.alloc o) ∧ (w'.alloc o).cell? ⟨w.heap.size, 0, none⟩ = some (.int .i64 k) ∧ (w'.alloc o).cell? ⟨w.heap.size, 1, none⟩ = some (.string sku) ∧ (w'.alloc o).cell? ⟨w.heap.size, 2, none⟩ = some (.string loc) ∧ (w'.alloc o).cell? ⟨w.heap.size, 3, none⟩ = some (.string to) ∧ (w'.alloc o).cell? ⟨w.heap.size, 4, none⟩ = some (.int .i64 qty) ∧ (w'.alloc o).cell? ⟨w.heap.size, 5, none⟩ = some (.int .i64 id) ∧ (w'.alloc o).cell? ⟨w.heap.size, 6, none⟩ = some (.int .i64 due))) := fun w' o h => HN.out w' (w'.alloc o) h (below1 _ _)
    have HP : Hid (∀ (n : Int) (w' : World), (Below w.heap.size w w' ∧ w'.cell? ⟨w.heap.size, 0, none⟩ = some (.int .i64 k) ∧ w'.cell? ⟨w.heap.size, 1, none⟩ = some (.string sku) ∧ w'.cell? ⟨w.heap.size, 2, none⟩ = some (.string loc) ∧ w'.cell? ⟨w.heap.size, 3, none⟩ = some (.string to) ∧ w'.cell? ⟨w.heap.size, 4, none⟩ = some (.int .i64 qty) ∧ w'.cell? ⟨w.heap.size, 5, none⟩ = some (.int .i64 id) ∧ w'.cell? ⟨w.heap.size, 6, none⟩ = some (.int .i64 due)) → Calls Try.prog 35 #[.int .i64 n] w' fun e w'' => e = .returned (vv 1 n ⟨#[]⟩) ∧ (Below w.heap.size w w'' ∧ w''.cell? ⟨w.heap.size, 0, none⟩ = some (.int .i64 k) ∧ w''.cell? ⟨w.heap.size, 1, none⟩ = some (.string sku) ∧ w''.cell? ⟨w.heap.size, 2, none⟩ = some (.string loc) ∧ w''.cell? ⟨w.heap.size, 3, none⟩ = some (.string to) ∧ w''.cell? ⟨w.heap.size, 4, none⟩ = some (.int .i64 qty) ∧ w''.cell? ⟨w.heap.size, 5, none⟩ = some (.int .i64 id) ∧ w''.cell? ⟨w.heap.size, 6, none⟩ = some (.int .i64 due))) := fun n w' hS => (rnum_is n w').mono (by
      rintro e w'' ⟨rfl, rfl⟩
      exact ⟨rfl, HN.out _ _ hS (below1 _ _)⟩)
    have HQ : Hid (∀ (n : ByteArray) (w' : World), (Below w.heap.size w w' ∧ w'.cell? ⟨w.heap.size, 0, none⟩ = some (.int .i64 k) ∧ w'.cell? ⟨w.heap.size, 1, none⟩ = some (.string sku) ∧ w'.cell? ⟨w.heap.size, 2, none⟩ = some (.string loc) ∧ w'.cell? ⟨w.heap.size, 3, none⟩ = some (.string to) ∧ w'.cell? ⟨w.heap.size, 4, none⟩ = some (.int .i64 qty) ∧ w'.cell? ⟨w.heap.size, 5, none⟩ = some (.int .i64 id) ∧ w'.cell? ⟨w.heap.size, 6, none⟩ = some (.int .i64 due)) → Calls Try.prog 36 #[.string n] w' fun e w'' => e = .returned (vv 2 0 n) ∧ (Below w.heap.size w w'' ∧ w''.cell? ⟨w.heap.size, 0, none⟩ = some (.int .i64 k) ∧ w''.cell? ⟨w.heap.size, 1, none⟩ = some (.string sku) ∧ w''.cell? ⟨w.heap.size, 2, none⟩ = some (.string loc) ∧ w''.cell? ⟨w.heap.size, 3, none⟩ = some (.string to) ∧ w''.cell? ⟨w.heap.size, 4, none⟩ = some (.int .i64 qty) ∧ w''.cell? ⟨w.heap.size, 5, none⟩ = some (.int .i64 id) ∧ w''.cell? ⟨w.heap.size, 6, none⟩ = some (.int .i64 due))) := fun n w' hS => (rtext_is n w').mono (by
      rintro e w'' ⟨rfl, rfl⟩
      exact ⟨rfl, HN.out _ _ hS (below1 _ _)⟩)
    have HPR : Hid (∀ (B : Nat) (w' : World), B = w'.heap.size → (Below w.heap.size w w' ∧ w'.cell? ⟨w.heap.size, 0, none⟩ = some (.int .i64 k) ∧ w'.cell? ⟨w.heap.size, 1, none⟩ = some (.string sku) ∧ w'.cell? ⟨w.heap.size, 2, none⟩ = some (.string loc) ∧ w'.cell? ⟨w.heap.size, 3, none⟩ = some (.string to) ∧ w'.cell? ⟨w.heap.size, 4, none⟩ = some (.int .i64 qty) ∧ w'.cell? ⟨w.heap.size, 5, none⟩ = some (.int .i64 id) ∧ w'.cell? ⟨w.heap.size, 6, none⟩ = some (.int .i64 due)) → Calls Try.prog 34 #[.slice (some ⟨B, 0, none⟩) 7 7] (w'.alloc (.cells #[.int .i64 1, .int .i64 k, .string ⟨#[]⟩, .int .i64 2, .int .i64 0, .string sku, .int .i64 2, .int .i64 0, .string loc, .int .i64 2, .int .i64 0, .string to, .int .i64 1, .int .i64 qty, .string ⟨#[]⟩, .int .i64 1, .int .i64 id, .string ⟨#[]⟩, .int .i64 1, .int .i64 due, .string ⟨#[]⟩] 56)) fun e w'' => e = .returned (.tuple #[.string ⟨L⟩, .int .i64 0]) ∧ (Below w.heap.size w w'' ∧ w''.cell? ⟨w.heap.size, 0, none⟩ = some (.int .i64 k) ∧ w''.cell? ⟨w.heap.size, 1, none⟩ = some (.string sku) ∧ w''.cell? ⟨w.heap.size, 2, none⟩ = some (.string loc) ∧ w''.cell? ⟨w.heap.size, 3, none⟩ = some (.string to) ∧ w''.cell? ⟨w.heap.size, 4, none⟩ = some (.int .i64 qty) ∧ w''.cell? ⟨w.heap.size, 5, none⟩ = some (.int .i64 id) ∧ w''.cell? ⟨w.heap.size, 6, none⟩ = some (.int .i64 due))) := fun B w' hB hS => (HPR0 B w' hB).mono (by
      rintro e w'' ⟨rfl, q⟩
      exact ⟨rfl, HN.out _ _ hS q⟩)
    clear hO hB HPR0
    go_wp2_with fail
    have hS0 := HS0.out
    go_region_held (fun (w' : World) => (Below w.heap.size w w' ∧ w'.cell? ⟨w.heap.size, 0, none⟩ = some (.int .i64 k) ∧ w'.cell? ⟨w.heap.size, 1, none⟩ = some (.string sku) ∧ w'.cell? ⟨w.heap.size, 2, none⟩ = some (.string loc) ∧ w'.cell? ⟨w.heap.size, 3, none⟩ = some (.string to) ∧ w'.cell? ⟨w.heap.size, 4, none⟩ = some (.int .i64 qty) ∧ w'.cell? ⟨w.heap.size, 5, none⟩ = some (.int .i64 id) ∧ w'.cell? ⟨w.heap.size, 6, none⟩ = some (.int .i64 due))) (first | (with_reducible assumption) | (with_reducible exact HSD.out _ (by with_reducible assumption)) | (with_reducible exact HSA.out _ _ (by with_reducible assumption)))
      (first
      | ((with_reducible refine Calls.mono (HP.out _ _ (by with_reducible assumption)) ?_); rintro e w3 ⟨rfl, hS3⟩)
      | ((with_reducible refine Calls.mono (HQ.out _ _ (by with_reducible assumption)) ?_); rintro e w3 ⟨rfl, hS3⟩)
      | ((with_reducible refine Calls.mono (HPR.out _ _ rfl (by with_reducible assumption)) ?_); rintro e w4 ⟨rfl, hS4⟩))
    all_goals (have hB4 : Below w.heap.size w w4 := And.left (by with_reducible assumption))
    all_goals (have HB4 : Hid (Below w.heap.size w w4) := hB4)
    all_goals go_wp2_with fail
    all_goals go_ret2
    all_goals exact ⟨by rw [HH.out]; rfl, HB4.out⟩
  · simp only [decide_eq_false h] at HM0
    have HM : Hid _ := HM0
    have HH : Hid (putO k sku loc to qty id due = .tuple #[.string ⟨#[]⟩, .int .i64 1]) := if_neg h
    clear HM0
    go_enter Try.func11, Try.ntmps11
    go_wp2_with fail
    refine Calls.mono (HM.out _) ?_; rintro e w1 ⟨rfl, k1⟩
    have HK : Hid (Below w.heap.size w w1) := Below.next (below1 _ _) k1
    clear k1
    go_wp2_with fail
    go_ret2
    exact ⟨by rw [HH.out]; rfl, HK.out⟩
end Go.Proofs.Ytaoboleifdgonaa
