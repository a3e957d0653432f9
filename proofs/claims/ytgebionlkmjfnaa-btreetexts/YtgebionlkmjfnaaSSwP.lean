/- swapped. -/
import Derived.Test.YtgebionlkmjfnaaSCatP
namespace Go.Proofs.Ytgebionlkmjfnaa.Sx
open Go.ChangeShapes Go.WideShapes Go.RowKit
set_option linter.unusedVariables false
set_option maxRecDepth 100000

set_option maxHeartbeats 2000000 in
theorem swapped1_is (W : World) (v : Value) (l : List Nat) (hr : Sl ptv 1 W v l) (i j : Nat) (hij : i ≤ j) (hj : j ≤ l.length) (u : Value) (o : List Nat) (ho : Sl ptv 1 W u o) (hs : l.length ≤ 100) (hos : o.length ≤ 100) (L : List Nat) (hL : l.take i ++ o ++ l.drop j = L) :
    Calls Try.prog 51 #[v, .int .i64 i, .int .i64 j, u] W fun e w' => ∃ v, e = .returned v ∧ Fresh 51 1 (L.flatMap ptv) L.length W w' v := by
  have hii : (0 : Int) ≤ (i : Int) := by omega
  have hr' := hr
  obtain ⟨a, c, rfl, h2, h3, h4⟩ := hr
  have hic : (i : Int) ≤ (c : Int) := by omega
  have hjn : (j : Int) ≤ (l.length : Int) := by omega
  have ho' := ho
  obtain ⟨ua, uc, rfl, _, _, _⟩ := ho'
  have HCC : Hid (∀ u3 : Value, Sl ptv 1 W u3 (l.drop j) → Calls Try.prog 64 #[.slice (some ⟨W.heap.size, 0, none⟩) 3 3] (W.alloc (.cells #[.slice a i c, .slice ua o.length uc, u3] 77)).drew fun e w'' => ∃ v, e = .returned v ∧ Fresh 51 1 (L.flatMap ptv) L.length W w'' v) := fun u3 h3' => by
    have hB : Below W.heap.size W (W.alloc (.cells #[.slice a i c, .slice ua o.length uc, u3] 77)).drew := (below1 W _).drew
    have hC : CellsF (W.alloc (.cells #[.slice a i c, .slice ua o.length uc, u3] 77)).drew W.heap.size [.slice a i c, .slice ua o.length uc, u3] := (CellsF.at [.slice a i c, .slice ua o.length uc, u3] 77 (by simp) rfl).next (Below.refl _ _).drew
    have hS1 : Sl ptv 1 W (.slice a i c) (l.take i) := ⟨a, c, by rw [List.length_take, Nat.min_eq_left (by omega)], h2.take i, by rw [List.length_take]; omega, h4⟩
    have := concat1_is W.heap.size 3 [.slice a i c, .slice ua o.length uc, u3] [l.take i, o, l.drop j] rfl rfl (by omega) L (by rw [← hL]; simp) (by rw [← hL, List.length_append, List.length_append, List.length_take, List.length_drop]; omega) _ (fun q v hv => hC.cs q v hv) (fun q v l' hv hl' => by
      match q, hv, hl' with
      | 0, hv, hl' => cases hv; cases hl'; exact hS1.next ptv_ne hB
      | 1, hv, hl' => cases hv; cases hl'; exact ho.next ptv_ne hB
      | 2, hv, hl' => cases hv; cases hl'; exact h3'.next ptv_ne hB)
    exact this.mono fun e w'' ⟨v, r1, r2⟩ => ⟨v, r1, r2.own, Below.next hB r2.bel, fun g hg => ⟨Nat.le_trans hB.size (r2.new g hg).1, (r2.new g hg).2⟩⟩
  clear hr'
  cases a with
  | none =>
    have hc0 := h4 rfl
    subst hc0
    have hl0 : l = [] := List.eq_nil_of_length_eq_zero (by omega)
    subst hl0
    obtain rfl : j = 0 := by simpa using hj
    obtain rfl : i = 0 := by omega
    have HS3 : Hid (Sl ptv 1 W (.slice none 0 0) (([] : List Nat).drop 0)) := Sl.nil _ _ _
    clear hL hj hjn hic hii
    clear h2 h3 h4 ho
    go_enter Try.func51, Try.ntmps51
    go_wp2_with fail
    go_region_held (fun w' => Below W.heap.size W w') (first | exact (Below.refl _ _).drew | exact (below1 W _).drew | exact HB4.out)
      (first | ((with_reducible refine Calls.mono (HCC.out _ HS3.out) ?_); rintro e w4 ⟨v, rfl, hf⟩; have HF4 : Hid _ := hf; have HB4 : Hid (Below W.heap.size W w4) := hf.bel; clear hf))
    all_goals go_wp2_with fail
    all_goals go_ret
    all_goals exact ⟨_, rfl, HF4.out⟩
  | some a =>
    by_cases hcj : c = j
    · subst hcj
      have hlc : l.length = c := by omega
      have HS3 : Hid (Sl ptv 1 W (.slice (some a) 0 0) (l.drop c)) := by
        show Sl _ _ _ _ _
        rw [List.drop_of_length_le (by omega)]
        exact ⟨some a, 0, rfl, Rw.nil _ _ _ _, Nat.le_refl _, fun _ => rfl⟩
      clear hL
      obtain ⟨ab, ao, asp⟩ := a
      clear h2 h3 h4 ho
      go_enter Try.func51, Try.ntmps51
      go_wp2_with fail
      go_region_held (fun w' => Below W.heap.size W w') (first | exact (Below.refl _ _).drew | exact (below1 W _).drew | exact HB4.out)
        (first | ((with_reducible refine Calls.mono (HCC.out _ HS3.out) ?_); rintro e w4 ⟨v, rfl, hf⟩; have HF4 : Hid _ := hf; have HB4 : Hid (Below W.heap.size W w4) := hf.bel; clear hf))
      all_goals go_wp2_with fail
      all_goals go_ret
      all_goals exact ⟨_, rfl, HF4.out⟩
    · have hcj' : ¬ (c : Int) = (j : Int) := by omega
      obtain ⟨ab, ao, asp⟩ := a
      have HS3 : Hid (Sl ptv 1 W (.slice (some ((⟨ab, ao, asp⟩ : Addr).add j)) (l.length - j) (c - j)) (l.drop j)) := by
        refine ⟨_, c - j, by rw [List.length_drop], ?_, by rw [List.length_drop]; omega, fun e => by cases e⟩
        by_cases hne : l = []
        · subst hne; rw [List.drop_nil]; exact Rw.nil _ _ _ _
        · obtain ⟨b, o', e, hc⟩ := h2 hne
          cases e
          rw [Go.WideShapes.add_plain]
          have := h2.drop j; rw [Nat.mul_one] at this; exact this
      clear hL
      clear h2 h3 h4 ho
      go_enter Try.func51, Try.ntmps51
      go_wp2_with fail
      go_region_held (fun w' => Below W.heap.size W w') (first | exact (Below.refl _ _).drew | exact (below1 W _).drew | exact HB4.out)
        (first | ((with_reducible refine Calls.mono (HCC.out _ HS3.out) ?_); rintro e w4 ⟨v, rfl, hf⟩; have HF4 : Hid _ := hf; have HB4 : Hid (Below W.heap.size W w4) := hf.bel; clear hf))
      all_goals go_wp2_with fail
      all_goals go_ret
      all_goals exact ⟨_, rfl, HF4.out⟩
end Go.Proofs.Ytgebionlkmjfnaa.Sx
