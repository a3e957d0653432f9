/- Sorting at most one text; names of none. -/
import Derived.Test.YtkhpmmmildcceaaGreatQAw
namespace Go.Proofs.YtkhpmmmildcceaaGreat
open Go.ChangeShapes Go.WideShapes Go.ChangeAt Go.RowKit
set_option linter.unusedVariables false
set_option maxRecDepth 100000

theorem ins_few (v : Value) (n : Nat) (hn : n ≤ 1) (w : World) : Calls Tryz.prog 92 #[v, .int .i64 0, .int .i64 (n : Int)] w fun e w' => e = .returned (.tuple #[]) ∧ w' = w := by
  have c0 : ¬ (1 : Int) < (n : Int) := by omega
  clear hn
  go_enter Tryz.func92, Tryz.ntmps92
  go_wp2_with fail
  refine wp_loop_rounds 1 ?_
  rw [rounds_succ]
  go_wp2_with fail
  refine bodyPost_end (results_none rfl _ _ _) rfl ?_
  exact ⟨rfl, rfl⟩
theorem pdq_few (v : Value) (n : Nat) (hn : n ≤ 1) (l : Int) (w : World) : Calls Tryz.prog 68 #[v, .int .i64 0, .int .i64 (n : Int), .int .i64 l] w fun e w' => e = .returned (.tuple #[]) ∧ w' = w := by
  have HI : Hid (∀ V, Calls Tryz.prog 92 #[v, .int .i64 0, .int .i64 (n : Int)] V fun e w' => e = .returned (.tuple #[]) ∧ w' = V) := fun V => ins_few v n hn V
  have c0 : (n : Int) ≤ 12 := by omega
  clear hn
  go_enter Tryz.func68, Tryz.ntmps68
  go_wp2_with fail
  refine wp_loop_rounds 1 ?_
  rw [rounds_succ]
  go_wp2_with fail
  refine Calls.mono (HI.out _) ?_; rintro e w1 ⟨rfl, rfl⟩
  go_wp2_with fail
  refine bodyPost_ret (results_none rfl _ _ _) rfl ?_
  exact ⟨rfl, rfl⟩
theorem sort_few (a : Option Addr) (n c : Nat) (hn : n ≤ 1) (w : World) : Calls Tryz.prog 47 #[.slice a n c] w fun e w' => e = .returned (.tuple #[]) ∧ w' = w := by
  have HL : Hid (∀ V, Calls Tryz.prog 69 #[.int .u64 (n : Int)] V fun e w' => ∃ l : Int, e = .returned (.int .i64 l) ∧ w' = V) := fun V => (Tryz.bits_Len (n : Int) V (by omega) (by omega)).mono (fun e w' ⟨q1, q2⟩ => ⟨_, q1, q2⟩)
  have HP : Hid (∀ (V : World) (l : Int), Calls Tryz.prog 68 #[.slice a n c, .int .i64 0, .int .i64 (n : Int), .int .i64 l] V fun e w' => e = .returned (.tuple #[]) ∧ w' = V) := fun V l => pdq_few _ n hn l V
  have c0 : (n : Int) ≤ 1 := by omega
  clear hn
  go_enter Tryz.func47, Tryz.ntmps47
  go_wp2_with fail
  refine Calls.mono (HL.out _) ?_; rintro e w1 ⟨l, rfl, rfl⟩
  go_wp2_with fail
  refine Calls.mono (HP.out _ l) ?_; rintro e w2 ⟨rfl, rfl⟩
  go_wp2_with fail
  refine bodyPost_end (results_none rfl _ _ _) rfl ?_
  exact ⟨rfl, rfl⟩
theorem names_none {B : Nat} {w : World} {p pd : Nat} {v : Sv} (h : SH B w p pd v) (hv : v.nn = []) : Calls Tryz.prog 17 #[.pointer (some ⟨p, 0, none⟩)] w fun e w' => e = .returned (.slice none 0 0) ∧ Kept (fun _ => False) w w' := by
  obtain ⟨F, a, b, hx⟩ := h
  have HO : Hid _ := open_yes hx.sp
  have hc131 : w.cell? ⟨p, 131, none⟩ = some (.map (some b)) := hx.sp.cn
  have HN : Hid (NmAt w b []) := by have := hx.lb; rw [hv] at this; exact this
  have HS : Hid (∀ V, Calls Tryz.prog 47 #[.slice none 0 0] V fun e w' => e = .returned (.tuple #[]) ∧ w' = V) := fun V => sort_few none 0 0 (by omega) V
  clear hx hv
  go_enter Tryz.func17, Tryz.ntmps17
  go_wp2_with fail
  refine Calls.mono HO.out ?_; rintro e w1 ⟨rfl, rfl⟩
  go_wp2_with (first | (at_range; refine range_si rfl _ rfl b [] rfl HN.out ?_; intro w0 hrg0 hg0 hs0) | fail)
  go_frame
  refine wp_loop_rounds 1 ?_
  rw [rounds_succ]
  go_wp2_with (first | (at_next; refine next_si rfl _ rfl b w1.heap.size [] _ _ rfl hrg0 ?_ ?_) | fail)
  · intro hl
    clear hl
    go_wp2_with fail
    refine Calls.mono (HS.out _) ?_; rintro e w2 ⟨rfl, rfl⟩
    go_wp2_with fail
    go_ret
    exact ⟨rfl, hg0⟩
end Go.Proofs.YtkhpmmmildcceaaGreat
