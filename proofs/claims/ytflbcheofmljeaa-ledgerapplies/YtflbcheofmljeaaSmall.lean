/- ledger: the small calls. -/
import Derived.Test.YtflbcheofmljeaaEMay
import Derived.Test.YtflbcheofmljeaaNSum
namespace Go.Proofs.Ytflbcheofmljeaa
open Go.ChangeShapes Go.WideShapes Go.RowKit
set_option linter.unusedVariables false
set_option maxRecDepth 100000

theorem checkO_is (k : Int) (sku loc to : ByteArray) (qty id due : Int) (w : World) : Calls Try.prog 48 #[oo k sku loc to qty id due] w fun e w' => e = .returned (.int .i64 (if mayO k sku loc to qty id due then 0 else 1)) ∧ Below w.heap.size w w' := by
  have HM : Hid _ := mayO_is k sku loc to qty id due (w.alloc (.cells #[.int .i64 k, .string sku, .string loc, .string to, .int .i64 qty, .int .i64 id, .int .i64 due] 28))
  by_cases hm : mayO k sku loc to qty id due
  · have hd : decide (mayO k sku loc to qty id due) = true := decide_eq_true hm
    rw [if_pos hm]
    rw [hd] at HM
    clear hd hm
    go_enter Try.func48, Try.ntmps48
    go_wp2_with fail
    refine Calls.mono HM.out ?_; rintro e w1 ⟨rfl, k1⟩
    have HB : Hid (Below w.heap.size w w1) := Below.next (below1 _ _) k1
    clear k1
    go_wp2_with fail
    go_ret
    exact ⟨rfl, HB.out⟩
  · have hd : decide (mayO k sku loc to qty id due) = false := decide_eq_false hm
    rw [if_neg hm]
    rw [hd] at HM
    clear hd hm
    go_enter Try.func48, Try.ntmps48
    go_wp2_with fail
    refine Calls.mono HM.out ?_; rintro e w1 ⟨rfl, k1⟩
    have HB : Hid (Below w.heap.size w w1) := Below.next (below1 _ _) k1
    clear k1
    go_wp2_with fail
    go_ret
    exact ⟨rfl, HB.out⟩

/-- Is there room? -/
def room (L : Led) (s h m : Int) : Prop := (L.S.length : Int) + s ≤ 4096 ∧ (L.H.length : Int) + h ≤ 4096 ∧ (L.M.length : Int) + m ≤ 4096
instance (L : Led) (s h m : Int) : Decidable (room L s h m) := by unfold room; infer_instance
def room3 (n0 n1 n2 : Nat) (s h m : Int) : Prop := (n0 : Int) + s ≤ 4096 ∧ (n1 : Int) + h ≤ 4096 ∧ (n2 : Int) + m ≤ 4096
instance (n0 n1 n2 : Nat) (s h m : Int) : Decidable (room3 n0 n1 n2 s h m) := by unfold room3; infer_instance
theorem hasRoom_is (a0 : Option Addr) (n0 c0 : Nat) (a1 : Option Addr) (n1 c1 : Nat) (a2 : Option Addr) (n2 c2 : Nat) (ops : Int) (s h m : Int) (h0 : n0 ≤ 4611686018427387904) (h1 : n1 ≤ 4611686018427387904) (h2 : n2 ≤ 4611686018427387904) (hs : 0 ≤ s ∧ s ≤ 2) (hh : 0 ≤ h ∧ h ≤ 2) (hm : 0 ≤ m ∧ m ≤ 2) (w : World) :
    Calls Try.prog 40 #[lval a0 n0 c0 a1 n1 c1 a2 n2 c2 ops, .int .i64 s, .int .i64 h, .int .i64 m] w fun e w' => e = .returned (.bool (decide (room3 n0 n1 n2 s h m))) ∧ Below w.heap.size w w' := by
  have HR : Hid (∀ b, (b = true ↔ room3 n0 n1 n2 s h m) → Ending.returned (.bool b) = Ending.returned (.bool (decide (room3 n0 n1 n2 s h m)))) := fun b q => by
    rw [show b = decide (room3 n0 n1 n2 s h m) from by cases b with | true => exact (decide_eq_true (q.1 rfl)).symm | false => exact (decide_eq_false (fun e => by have := q.2 e; cases this)).symm]
  obtain ⟨z, hz⟩ : ∃ z, decide (room3 n0 n1 n2 s h m) = z := ⟨_, rfl⟩
  rw [hz] at HR ⊢
  by_cases q0 : (n0 : Int) + s ≤ 4096
  · by_cases q1 : (n1 : Int) + h ≤ 4096
    · by_cases q2 : (n2 : Int) + m ≤ 4096
      · have HZ : Hid (z = true) := by rw [← hz]; exact decide_eq_true ⟨q0, q1, q2⟩
        clear hz
        go_enter Try.func40, Try.ntmps40
        go_wp2_with fail
        go_ret
        exact ⟨by rw [HZ.out]; rfl, below1 _ _⟩
      · have HZ : Hid (z = false) := by rw [← hz]; exact decide_eq_false (fun e => q2 e.2.2)
        clear hz
        go_enter Try.func40, Try.ntmps40
        go_wp2_with fail
        go_ret
        exact ⟨by rw [HZ.out]; rfl, below1 _ _⟩
    · have HZ : Hid (z = false) := by rw [← hz]; exact decide_eq_false (fun e => q1 e.2.1)
      clear hz
      go_enter Try.func40, Try.ntmps40
      go_wp2_with fail
      go_ret
      exact ⟨by rw [HZ.out]; rfl, below1 _ _⟩
  · have HZ : Hid (z = false) := by rw [← hz]; exact decide_eq_false (fun e => q0 e.1)
    clear hz
    go_enter Try.func40, Try.ntmps40
    go_wp2_with fail
    go_ret
    exact ⟨by rw [HZ.out]; rfl, below1 _ _⟩

/-- A movement's cause. -/
def cause (kind hold : Int) : Prop := ((kind = 1 ∨ kind = 6 ∨ kind = 7) ∧ hold = 0) ∨ (kind = 3 ∧ 1 ≤ hold)
instance (kind hold : Int) : Decidable (cause kind hold) := by unfold cause; infer_instance
theorem mayCause_is (kind hold : Int) (w : World) : Calls Try.prog 63 #[.int .i64 kind, .int .i64 hold] w fun e w' => e = .returned (.bool (decide (cause kind hold))) ∧ w' = w := by
  obtain ⟨z, hz⟩ : ∃ z, decide (cause kind hold) = z := ⟨_, rfl⟩
  rw [hz]
  by_cases k1 : kind = 1
  · subst k1
    have HZ : Hid (z = (hold == 0)) := by
      show z = _
      rw [← hz]
      by_cases e : hold = 0
      · subst e; rfl
      · rw [decide_eq_false (fun q => by unfold cause at q; omega)]; exact (by simpa using e : (hold == 0) = false).symm
    clear hz
    go_enter Try.func63, Try.ntmps63
    go_wp2_with fail
    go_ret
    exact ⟨by rw [HZ.out]; rfl, rfl⟩
  · have b1 : (kind == 1) = false := by simpa using k1
    by_cases k6 : kind = 6
    · subst k6
      have HZ : Hid (z = (hold == 0)) := by
        show z = _
        rw [← hz]
        by_cases e : hold = 0
        · subst e; rfl
        · rw [decide_eq_false (fun q => by unfold cause at q; omega)]; exact (by simpa using e : (hold == 0) = false).symm
      clear hz
      go_enter Try.func63, Try.ntmps63
      go_wp2_with fail
      go_ret
      exact ⟨by rw [HZ.out]; rfl, rfl⟩
    · have b6 : (kind == 6) = false := by simpa using k6
      by_cases k7 : kind = 7
      · subst k7
        have HZ : Hid (z = (hold == 0)) := by
          show z = _
          rw [← hz]
          by_cases e : hold = 0
          · subst e; rfl
          · rw [decide_eq_false (fun q => by unfold cause at q; omega)]; exact (by simpa using e : (hold == 0) = false).symm
        clear hz
        go_enter Try.func63, Try.ntmps63
        go_wp2_with fail
        go_ret
        exact ⟨by rw [HZ.out]; rfl, rfl⟩
      · have b7 : (kind == 7) = false := by simpa using k7
        by_cases k3 : kind = 3
        · subst k3
          by_cases e : 1 ≤ hold
          · have HZ : Hid (z = true) := by show z = _; rw [← hz]; exact decide_eq_true (.inr ⟨rfl, e⟩)
            clear hz
            go_enter Try.func63, Try.ntmps63
            go_wp2_with fail
            go_ret
            exact ⟨by rw [HZ.out]; rfl, rfl⟩
          · have HZ : Hid (z = false) := by show z = _; rw [← hz]; exact decide_eq_false (fun q => by unfold cause at q; omega)
            clear hz
            go_enter Try.func63, Try.ntmps63
            go_wp2_with fail
            go_ret
            exact ⟨by rw [HZ.out]; rfl, rfl⟩
        · have b3 : (kind == 3) = false := by simpa using k3
          have HZ : Hid (z = false) := by show z = _; rw [← hz]; exact decide_eq_false (fun q => by unfold cause at q; omega)
          clear hz
          go_enter Try.func63, Try.ntmps63
          go_wp2_with fail
          go_ret
          exact ⟨by rw [HZ.out]; rfl, rfl⟩

/-- A difference that is a number, else 0. -/
theorem sub_is (a b : Int) (ha : i64b a) (hb : i64b b) (w : World) : Calls Try.prog 61 #[.int .i64 a, .int .i64 b] w fun e w' => e = .returned (.tuple #[.int .i64 (vl (a - b)), .int .i64 (er (a - b))]) ∧ w' = w := by
  unfold i64b at ha hb
  by_cases h : -9223372036854775808 ≤ a - b ∧ a - b ≤ 9223372036854775807
  · rw [(vl_in h).1, (vl_in h).2]; exact sub_in a b ha hb h.1 h.2 w
  · rw [(vl_out h).1, (vl_out h).2]; exact sub_over a b ha hb (by omega) w
theorem add_is (a b : Int) (ha : i64b a) (hb : i64b b) (w : World) : Calls Try.prog 86 #[.int .i64 a, .int .i64 b] w fun e w' => e = .returned (.tuple #[.int .i64 (vl (a + b)), .int .i64 (er (a + b))]) ∧ w' = w := by
  unfold i64b at ha hb
  by_cases h : -9223372036854775808 ≤ a + b ∧ a + b ≤ 9223372036854775807
  · rw [(vl_in h).1, (vl_in h).2]; exact add_in a b ha hb h.1 h.2 w
  · rw [(vl_out h).1, (vl_out h).2]; exact add_over a b ha hb (by omega) w
theorem free_is (s l : ByteArray) (on held : Int) (h0 : i64b on) (h1 : i64b held) (w : World) : Calls Try.prog 37 #[.agg #[.string s, .string l, .int .i64 on, .int .i64 held]] w fun e w' => e = .returned (.int .i64 (vl (on - held))) ∧ Below w.heap.size w w' := by
  have HS : Hid _ := fun w => sub_is on held h0 h1 w
  clear h0 h1
  obtain ⟨z, hz⟩ : ∃ z, vl (on - held) = z := ⟨_, rfl⟩
  obtain ⟨y, hy⟩ : ∃ y, er (on - held) = y := ⟨_, rfl⟩
  rw [hz]
  rw [hz, hy] at HS
  clear hz hy
  go_enter Try.func37, Try.ntmps37
  go_wp2_with fail
  refine Calls.mono (HS.out _) ?_; rintro e w1 ⟨rfl, rfl⟩
  go_wp2_with fail
  go_ret
  exact ⟨rfl, below1 _ _⟩
end Go.Proofs.Ytflbcheofmljeaa
