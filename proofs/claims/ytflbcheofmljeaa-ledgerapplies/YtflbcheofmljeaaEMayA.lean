/- entry: may, the first kinds. -/
import Derived.Test.YtflbcheofmljeaaEOp
namespace Go.Proofs.Ytflbcheofmljeaa
open Go.ChangeShapes Go.WideShapes Go.RowKit
set_option linter.unusedVariables false
set_option maxRecDepth 100000
set_option maxRecDepth 100000

set_option maxHeartbeats 4000000 in
theorem may_1 (sku loc to : ByteArray) (qty id due : Int) (w : World) : Calls Try.prog 67 #[oo 1 sku loc to qty id due] w fun e w' => e = .returned (.bool (decide (mayO 1 sku loc to qty id due))) ∧ Below w.heap.size w w' := by
  by_cases c0 : to.size = 0
  · obtain rfl := empty_of c0
    by_cases c1 : id = 0
    · subst c1
      by_cases c2 : due = 0
      · subst c2
        have HN0 := fun w B hB => names2_is sku loc w B hB
        by_cases hn : name sku ∧ name loc
        · simp only [decide_eq_true hn] at HN0
          have HN : Hid _ := HN0
          clear HN0
          by_cases q0 : 1 ≤ qty
          · have q0b := q0
            have HM : Hid (decide (mayO 1 sku loc ⟨#[]⟩ qty 0 0) = true) := decide_eq_true (by exact .inl ⟨rfl, hn, rfl, q0, rfl, rfl⟩)
            go_enter Try.func67, Try.ntmps67
            go_wp2_with fail
            refine Calls.mono (HN.out _ _ (by simp)) ?_; rintro e w1 ⟨rfl, k1⟩
            obtain ⟨o0, o1, o2, o3, o4, o5, o6⟩ := (OpAt.new w 1 sku loc ⟨#[]⟩ qty 0 0).next k1
            have HB : Hid (Below w.heap.size w w1) := Below.next (below1 _ _) k1
            clear k1
            go_wp2_with fail
            go_ret
            exact ⟨by rw [HM.out]; rfl, HB.out⟩
          · have q0b : decide (1 ≤ qty) = false := decide_eq_false q0
            have HM : Hid (decide (mayO 1 sku loc ⟨#[]⟩ qty 0 0) = false) := decide_eq_false (fun h => by unfold mayO name at h; omega)
            go_enter Try.func67, Try.ntmps67
            go_wp2_with fail
            refine Calls.mono (HN.out _ _ (by simp)) ?_; rintro e w1 ⟨rfl, k1⟩
            obtain ⟨o0, o1, o2, o3, o4, o5, o6⟩ := (OpAt.new w 1 sku loc ⟨#[]⟩ qty 0 0).next k1
            have HB : Hid (Below w.heap.size w w1) := Below.next (below1 _ _) k1
            clear k1
            go_wp2_with fail
            go_ret
            exact ⟨by rw [HM.out]; rfl, HB.out⟩
        · simp only [decide_eq_false hn] at HN0
          have HN : Hid _ := HN0
          clear HN0
          have HM : Hid (decide (mayO 1 sku loc ⟨#[]⟩ qty 0 0) = false) := decide_eq_false (fun h => hn (by unfold mayO at h; rcases h with ⟨q, r⟩ | ⟨q, r⟩ | ⟨q, r⟩ | ⟨q, r⟩ | ⟨q, r⟩ | ⟨q, r⟩ <;> first | exact absurd q (by omega) | exact r.1 | exact ⟨r.1, r.2.1⟩))
          go_enter Try.func67, Try.ntmps67
          go_wp2_with fail
          refine Calls.mono (HN.out _ _ (by simp)) ?_; rintro e w1 ⟨rfl, k1⟩
          obtain ⟨o0, o1, o2, o3, o4, o5, o6⟩ := (OpAt.new w 1 sku loc ⟨#[]⟩ qty 0 0).next k1
          have HB : Hid (Below w.heap.size w w1) := Below.next (below1 _ _) k1
          clear k1
          go_wp2_with fail
          go_ret
          exact ⟨by rw [HM.out]; rfl, HB.out⟩
      · have l2 : (due == 0) = false := by simpa using c2
        have HM : Hid (decide (mayO 1 sku loc ⟨#[]⟩ qty 0 due) = false) := decide_eq_false (fun h => by unfold mayO name at h; omega)
        go_enter Try.func67, Try.ntmps67
        go_wp2_with fail
        go_ret
        exact ⟨by rw [HM.out]; rfl, below1 _ _⟩
    · have l1 : (id == 0) = false := by simpa using c1
      have HM : Hid (decide (mayO 1 sku loc ⟨#[]⟩ qty id due) = false) := decide_eq_false (fun h => by unfold mayO name at h; omega)
      go_enter Try.func67, Try.ntmps67
      go_wp2_with fail
      go_ret
      exact ⟨by rw [HM.out]; rfl, below1 _ _⟩
  · have l0 := not_nil c0
    have m0 : to.toList.isEmpty = false := by simpa using l0
    have HM : Hid (decide (mayO 1 sku loc to qty id due) = false) := decide_eq_false (fun h => by unfold mayO name at h; omega)
    go_enter Try.func67, Try.ntmps67
    go_wp2_with fail
    go_ret
    exact ⟨by rw [HM.out]; rfl, below1 _ _⟩
set_option maxHeartbeats 4000000 in
theorem may_2 (sku loc to : ByteArray) (qty id due : Int) (w : World) : Calls Try.prog 67 #[oo 2 sku loc to qty id due] w fun e w' => e = .returned (.bool (decide (mayO 2 sku loc to qty id due))) ∧ Below w.heap.size w w' := by
  by_cases c0 : to.size = 0
  · obtain rfl := empty_of c0
    by_cases c1 : id = 0
    · subst c1
      have HN0 := fun w B hB => names2_is sku loc w B hB
      by_cases hn : name sku ∧ name loc
      · simp only [decide_eq_true hn] at HN0
        have HN : Hid _ := HN0
        clear HN0
        by_cases q0 : 1 ≤ qty
        · have q0b := q0
          by_cases q1 : 0 ≤ due
          · have q1b := q1
            have HM : Hid (decide (mayO 2 sku loc ⟨#[]⟩ qty 0 due) = true) := decide_eq_true (by exact .inr (.inl ⟨rfl, hn, rfl, q0, rfl, q1⟩))
            go_enter Try.func67, Try.ntmps67
            go_wp2_with fail
            refine Calls.mono (HN.out _ _ (by simp)) ?_; rintro e w1 ⟨rfl, k1⟩
            obtain ⟨o0, o1, o2, o3, o4, o5, o6⟩ := (OpAt.new w 2 sku loc ⟨#[]⟩ qty 0 due).next k1
            have HB : Hid (Below w.heap.size w w1) := Below.next (below1 _ _) k1
            clear k1
            go_wp2_with fail
            go_ret
            exact ⟨by rw [HM.out]; rfl, HB.out⟩
          · have q1b : decide (0 ≤ due) = false := decide_eq_false q1
            have HM : Hid (decide (mayO 2 sku loc ⟨#[]⟩ qty 0 due) = false) := decide_eq_false (fun h => by unfold mayO name at h; omega)
            go_enter Try.func67, Try.ntmps67
            go_wp2_with fail
            refine Calls.mono (HN.out _ _ (by simp)) ?_; rintro e w1 ⟨rfl, k1⟩
            obtain ⟨o0, o1, o2, o3, o4, o5, o6⟩ := (OpAt.new w 2 sku loc ⟨#[]⟩ qty 0 due).next k1
            have HB : Hid (Below w.heap.size w w1) := Below.next (below1 _ _) k1
            clear k1
            go_wp2_with fail
            go_ret
            exact ⟨by rw [HM.out]; rfl, HB.out⟩
        · have q0b : decide (1 ≤ qty) = false := decide_eq_false q0
          have HM : Hid (decide (mayO 2 sku loc ⟨#[]⟩ qty 0 due) = false) := decide_eq_false (fun h => by unfold mayO name at h; omega)
          go_enter Try.func67, Try.ntmps67
          go_wp2_with fail
          refine Calls.mono (HN.out _ _ (by simp)) ?_; rintro e w1 ⟨rfl, k1⟩
          obtain ⟨o0, o1, o2, o3, o4, o5, o6⟩ := (OpAt.new w 2 sku loc ⟨#[]⟩ qty 0 due).next k1
          have HB : Hid (Below w.heap.size w w1) := Below.next (below1 _ _) k1
          clear k1
          go_wp2_with fail
          go_ret
          exact ⟨by rw [HM.out]; rfl, HB.out⟩
      · simp only [decide_eq_false hn] at HN0
        have HN : Hid _ := HN0
        clear HN0
        have HM : Hid (decide (mayO 2 sku loc ⟨#[]⟩ qty 0 due) = false) := decide_eq_false (fun h => hn (by unfold mayO at h; rcases h with ⟨q, r⟩ | ⟨q, r⟩ | ⟨q, r⟩ | ⟨q, r⟩ | ⟨q, r⟩ | ⟨q, r⟩ <;> first | exact absurd q (by omega) | exact r.1 | exact ⟨r.1, r.2.1⟩))
        go_enter Try.func67, Try.ntmps67
        go_wp2_with fail
        refine Calls.mono (HN.out _ _ (by simp)) ?_; rintro e w1 ⟨rfl, k1⟩
        obtain ⟨o0, o1, o2, o3, o4, o5, o6⟩ := (OpAt.new w 2 sku loc ⟨#[]⟩ qty 0 due).next k1
        have HB : Hid (Below w.heap.size w w1) := Below.next (below1 _ _) k1
        clear k1
        go_wp2_with fail
        go_ret
        exact ⟨by rw [HM.out]; rfl, HB.out⟩
    · have l1 : (id == 0) = false := by simpa using c1
      have HM : Hid (decide (mayO 2 sku loc ⟨#[]⟩ qty id due) = false) := decide_eq_false (fun h => by unfold mayO name at h; omega)
      go_enter Try.func67, Try.ntmps67
      go_wp2_with fail
      go_ret
      exact ⟨by rw [HM.out]; rfl, below1 _ _⟩
  · have l0 := not_nil c0
    have m0 : to.toList.isEmpty = false := by simpa using l0
    have HM : Hid (decide (mayO 2 sku loc to qty id due) = false) := decide_eq_false (fun h => by unfold mayO name at h; omega)
    go_enter Try.func67, Try.ntmps67
    go_wp2_with fail
    go_ret
    exact ⟨by rw [HM.out]; rfl, below1 _ _⟩
set_option maxHeartbeats 4000000 in
theorem may_3 (sku loc to : ByteArray) (qty id due : Int) (w : World) : Calls Try.prog 67 #[oo 3 sku loc to qty id due] w fun e w' => e = .returned (.bool (decide (mayO 3 sku loc to qty id due))) ∧ Below w.heap.size w w' := by
  by_cases c0 : sku.size = 0
  · obtain rfl := empty_of c0
    by_cases c1 : loc.size = 0
    · obtain rfl := empty_of c1
      by_cases c2 : to.size = 0
      · obtain rfl := empty_of c2
        by_cases c3 : qty = 0
        · subst c3
          by_cases c4 : due = 0
          · subst c4
            by_cases q0 : 1 ≤ id
            · have q0b := q0
              have HM : Hid (decide (mayO 3 ⟨#[]⟩ ⟨#[]⟩ ⟨#[]⟩ 0 id 0) = true) := decide_eq_true (by exact .inr (.inr (.inl ⟨.inl rfl, ⟨rfl, rfl⟩, rfl, rfl, q0, rfl⟩)))
              go_enter Try.func67, Try.ntmps67
              go_wp2_with fail
              go_ret
              exact ⟨by rw [HM.out]; rfl, below1 _ _⟩
            · have q0b : decide (1 ≤ id) = false := decide_eq_false q0
              have HM : Hid (decide (mayO 3 ⟨#[]⟩ ⟨#[]⟩ ⟨#[]⟩ 0 id 0) = false) := decide_eq_false (fun h => by unfold mayO name at h; omega)
              go_enter Try.func67, Try.ntmps67
              go_wp2_with fail
              go_ret
              exact ⟨by rw [HM.out]; rfl, below1 _ _⟩
          · have l4 : (due == 0) = false := by simpa using c4
            have HM : Hid (decide (mayO 3 ⟨#[]⟩ ⟨#[]⟩ ⟨#[]⟩ 0 id due) = false) := decide_eq_false (fun h => by unfold mayO name at h; omega)
            go_enter Try.func67, Try.ntmps67
            go_wp2_with fail
            go_ret
            exact ⟨by rw [HM.out]; rfl, below1 _ _⟩
        · have l3 : (qty == 0) = false := by simpa using c3
          have HM : Hid (decide (mayO 3 ⟨#[]⟩ ⟨#[]⟩ ⟨#[]⟩ qty id due) = false) := decide_eq_false (fun h => by unfold mayO name at h; omega)
          go_enter Try.func67, Try.ntmps67
          go_wp2_with fail
          go_ret
          exact ⟨by rw [HM.out]; rfl, below1 _ _⟩
      · have l2 := not_nil c2
        have m2 : to.toList.isEmpty = false := by simpa using l2
        have HM : Hid (decide (mayO 3 ⟨#[]⟩ ⟨#[]⟩ to qty id due) = false) := decide_eq_false (fun h => by unfold mayO name at h; omega)
        go_enter Try.func67, Try.ntmps67
        go_wp2_with fail
        go_ret
        exact ⟨by rw [HM.out]; rfl, below1 _ _⟩
    · have l1 := not_nil c1
      have m1 : loc.toList.isEmpty = false := by simpa using l1
      have HM : Hid (decide (mayO 3 ⟨#[]⟩ loc to qty id due) = false) := decide_eq_false (fun h => by unfold mayO name at h; omega)
      go_enter Try.func67, Try.ntmps67
      go_wp2_with fail
      go_ret
      exact ⟨by rw [HM.out]; rfl, below1 _ _⟩
  · have l0 := not_nil c0
    have m0 : sku.toList.isEmpty = false := by simpa using l0
    have HM : Hid (decide (mayO 3 sku loc to qty id due) = false) := decide_eq_false (fun h => by unfold mayO name at h; omega)
    go_enter Try.func67, Try.ntmps67
    go_wp2_with fail
    go_ret
    exact ⟨by rw [HM.out]; rfl, below1 _ _⟩
end Go.Proofs.Ytflbcheofmljeaa
