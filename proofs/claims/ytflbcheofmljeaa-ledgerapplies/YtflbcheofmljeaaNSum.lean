/- Contract of num.Sum: the sum of the numbers of a slice, whatever is reached on the way. -/
import Derived.Test.YtflbcheofmljeaaNWide
namespace Go.Proofs.Ytflbcheofmljeaa
open Go.ChangeShapes Go.WideShapes Go.ChangeAt Go.RowKit
set_option linter.unusedVariables false
set_option maxRecDepth 100000

theorem wrap64_bd (x : Int) : -9223372036854775808 ≤ wrap64 x ∧ wrap64 x ≤ 9223372036854775807 := by unfold wrap64; omega
def vl (x : Int) : Int := if -9223372036854775808 ≤ x ∧ x ≤ 9223372036854775807 then x else 0
def er (x : Int) : Int := if -9223372036854775808 ≤ x ∧ x ≤ 9223372036854775807 then 0 else 10
theorem vl_in {x : Int} (h : -9223372036854775808 ≤ x ∧ x ≤ 9223372036854775807) : vl x = x ∧ er x = 0 := by unfold vl er; rw [if_pos h, if_pos h]; exact ⟨rfl, rfl⟩
theorem vl_out {x : Int} (h : ¬ (-9223372036854775808 ≤ x ∧ x ≤ 9223372036854775807)) : vl x = 0 ∧ er x = 10 := by unfold vl er; rw [if_neg h, if_neg h]; exact ⟨rfl, rfl⟩

theorem number_any (x : Int) (w : World) :
    Calls Try.prog 60 #[.agg #[.int .i64 (hi x), .int .i64 (lo x)]] w fun e w' => e = .returned (.tuple #[.int .i64 (vl x), .int .i64 (er x)]) ∧ Below w.heap.size w w' := by
  by_cases h : -9223372036854775808 ≤ x ∧ x ≤ 9223372036854775807
  · rw [(vl_in h).1, (vl_in h).2]; exact number_in x h w
  · rw [(vl_out h).1, (vl_out h).2]; exact number_over x (by omega) w

/-- Two cells of block b hold a wide number, and may be written. -/
structure Pair (w : World) (b : Nat) (x : Int) : Prop where
  c0 : w.cell? ⟨b, 0, none⟩ = some (.int .i64 (hi x))
  c1 : w.cell? ⟨b, 1, none⟩ = some (.int .i64 (lo x))
  f0 : w.frozen? ⟨b, 0, none⟩ = false
  f1 : w.frozen? ⟨b, 1, none⟩ = false
  lt : b < w.heap.size

theorem Pair.below {w w' : World} {b : Nat} {x : Int} (h : Pair w b x) (k : Below w.heap.size w w') : Pair w' b x :=
  ⟨(k.cell (p := ⟨b, 0, none⟩) h.lt).trans h.c0, (k.cell (p := ⟨b, 1, none⟩) h.lt).trans h.c1, (k.frozen (p := ⟨b, 0, none⟩) h.lt).trans h.f0, (k.frozen (p := ⟨b, 1, none⟩) h.lt).trans h.f1, Nat.lt_of_lt_of_le h.lt k.size⟩

theorem Pair.put {w : World} {b : Nat} {x : Int} (h : Pair w b x) (y : Int) : Pair ((w.setCell ⟨b, 0, none⟩ (.int .i64 (hi y))).setCell ⟨b, 1, none⟩ (.int .i64 (lo y))) b y := by
  obtain ⟨c0, c1, f0, f1, lt⟩ := h
  refine ⟨?_, ?_, ?_, ?_, ?_⟩ <;> simp [*, go_sem]

theorem Pair.beside {w : World} {b c : Nat} {x : Int} (h : Pair w b x) (ne : b ≠ c) (u v : Value) : Pair ((w.setCell ⟨c, 0, none⟩ u).setCell ⟨c, 1, none⟩ v) b x := by
  obtain ⟨c0, c1, f0, f1, lt⟩ := h
  have ne' : ¬ c = b := fun e => ne e.symm
  refine ⟨?_, ?_, ?_, ?_, ?_⟩ <;> simp [*, go_sem]

theorem Pair.alloc {w : World} {b : Nat} {x : Int} (h : Pair w b x) (o : Obj) : Pair (w.alloc o) b x :=
  h.below ((Below.refl _ _).alloc (Nat.le_refl _) o)

theorem Pair.fresh (w : World) (x : Int) : Pair (w.alloc (.cells #[.int .i64 (hi x), .int .i64 (lo x)] 85)) w.heap.size x := by
  refine ⟨?_, ?_, ?_, ?_, ?_⟩ <;> simp [go_sem]
theorem Pair.fresh_at (w : World) (n : Nat) (x : Int) (hn : w.heap.size = n) : Pair (w.alloc (.cells #[.int .i64 (hi x), .int .i64 (lo x)] 85)) n x := hn ▸ Pair.fresh w x
theorem Pair.zero_at (w : World) (n : Nat) (x : Int) (hx : x = 0) (hn : w.heap.size = n) : Pair (w.alloc (.cells #[.int .i64 0, .int .i64 0] 85)) n x := by
  subst hx
  exact hn ▸ Pair.fresh w 0
theorem turned_any (a b : Int) (ha : -9223372036854775808 ≤ a ∧ a ≤ 9223372036854775807) (hb : -9223372036854775808 ≤ b ∧ b ≤ 9223372036854775807) (w : World) :
    Calls Try.prog 100 #[.int .i64 a, .int .i64 b] w fun e w' => ∃ s t : Int, e = .returned (.tuple #[.int .i64 s, .int .i64 t]) ∧ (-9223372036854775808 ≤ s ∧ s ≤ 9223372036854775807) ∧ (-1 ≤ t ∧ t ≤ 1) ∧ a + b = s + 18446744073709551616 * t ∧ w' = w := by
  by_cases h1 : 9223372036854775807 < a + b
  · exact (turned_hi a b ha hb h1 w).mono fun e w' ⟨he, hw⟩ => ⟨_, _, he, wrap64_bd _, by omega, by unfold wrap64; omega, hw⟩
  by_cases h2 : a + b < -9223372036854775808
  · exact (turned_lo a b ha hb h2 w).mono fun e w' ⟨he, hw⟩ => ⟨_, _, he, wrap64_bd _, by omega, by unfold wrap64; omega, hw⟩
  exact (turned_in a b ha hb (by omega) (by omega) w).mono fun e w' ⟨he, hw⟩ => ⟨_, _, he, by omega, by omega, by omega, hw⟩

/-- The sum of the first k. -/
def upto (zs : List Int) (k : Nat) : Int := (zs.take k).sum
theorem upto_zero (zs : List Int) : upto zs 0 = 0 := rfl
theorem upto_succ (zs : List Int) (k : Nat) (h : k < zs.length) : upto zs (k + 1) = upto zs k + zs[k]?.getD 0 := by
  unfold upto
  rw [List.take_succ_eq_append_getElem h, List.sum_append]
  simp [h]
theorem upto_all (zs : List Int) : upto zs zs.length = zs.sum := by unfold upto; rw [List.take_length]

theorem unturned_any (s t p : Int) (hs : -9223372036854775808 ≤ s ∧ s ≤ 9223372036854775807) (h : p = s + 18446744073709551616 * t) (w : World) :
    Calls Try.prog 101 #[.int .i64 s, .int .i64 t] w fun e w' => e = .returned (.tuple #[.int .i64 (vl p), .int .i64 (er p)]) ∧ w' = w := by
  by_cases c : t = 0
  · subst c
    obtain rfl : p = s := by omega
    rw [(vl_in hs).1, (vl_in hs).2]
    exact unturned_zero p w
  · have o : ¬ (-9223372036854775808 ≤ p ∧ p ≤ 9223372036854775807) := by omega
    rw [(vl_out o).1, (vl_out o).2]
    exact unturned_else s t (by simpa using c) w

theorem sum_none (a : Option Addr) (cap : Nat) (w : World) :
    Calls Try.prog 83 #[.slice a 0 cap] w fun e w' => e = .returned (.tuple #[.int .i64 (vl 0), .int .i64 (er 0)]) ∧ w' = w := by
  go_enter Try.func83, Try.ntmps83
  go_wp2
  refine wp_loop_rounds 1 ?_
  rw [rounds_succ]
  go_wp2_with fail
  refine (unturned_any 0 0 0 (by omega) (by omega) _).mono ?_; rintro e w1 ⟨rfl, rfl⟩
  go_wp2_with fail
  go_ret2
  exact ⟨rfl, rfl⟩

theorem sum_row (b off cap : Nat) (zs : List Int) (w : World) (hl : zs.length ≤ 140737488351232)
    (hc : ∀ k, k < zs.length → w.cell? ⟨b, off + k, none⟩ = some (.int .i64 (zs[k]?.getD 0)))
    (hz : ∀ k, k < zs.length → -9223372036854775808 ≤ zs[k]?.getD 0 ∧ zs[k]?.getD 0 ≤ 9223372036854775807) :
    Calls Try.prog 83 #[.slice (some ⟨b, off, none⟩) zs.length cap] w fun e w' => e = .returned (.tuple #[.int .i64 (vl zs.sum), .int .i64 (er zs.sum)]) ∧ w' = w := by
  have HC : Hid (∀ k, k < zs.length → w.cell? ⟨b, off + k, none⟩ = some (.int .i64 (zs[k]?.getD 0))) := hc
  have HZ : Hid (∀ k, k < zs.length → -9223372036854775808 ≤ zs[k]?.getD 0 ∧ zs[k]?.getD 0 ≤ 9223372036854775807) := hz
  clear hc hz
  obtain ⟨n, hn⟩ : ∃ n, n = zs.length := ⟨_, rfl⟩
  have HN : Hid (n = zs.length) := hn
  rw [← hn] at hl ⊢
  clear hn
  go_enter Try.func83, Try.ntmps83
  go_wp2
  go_loop [4, 5, 12] (fun s t i => ∃ (k : Nat) (x y : Int), k ≤ n ∧ i = .int .i64 k ∧ s = .int .i64 x ∧ t = .int .i64 y ∧ (-9223372036854775808 ≤ x ∧ x ≤ 9223372036854775807) ∧ (-(k : Int) ≤ y ∧ y ≤ k) ∧ Hid (upto zs k = x + 18446744073709551616 * y))
    (fun _ _ i => n - (intOf i).toNat)
  case atStart => exact ⟨0, 0, 0, Nat.zero_le _, rfl, rfl, rfl, by omega, by omega, rfl⟩
  case round =>
    obtain ⟨k, x, y, hk, rfl, rfl, rfl, hx, hy, HU⟩ := hrel
    by_cases c : k < n
    · have hcell := HC.out k (by have := HN.out; omega)
      have hb := HZ.out k (by have := HN.out; omega)
      have HS : Hid (upto zs (k + 1) = upto zs k + zs[k]?.getD 0) := upto_succ zs k (by have := HN.out; omega)
      generalize zs[k]?.getD 0 = z at hcell hb HS
      go_wp2_with fail
      refine (turned_any x z hx hb _).mono ?_; rintro e w1 ⟨s, t, rfl, hs, ht, hst, rfl⟩
      have HT : Hid (x + z = s + 18446744073709551616 * t) := hst
      clear hst
      go_wp2_with fail
      go_round
      case rel => exact ⟨k + 1, s, y + t, by omega, by go_num, rfl, rfl, hs, by omega, by have h1 := HU.out; have h2 := HS.out; have h3 := HT.out; show _ = _; omega⟩
      case measure => simp [intOf]; omega
    · obtain rfl : k = n := by omega
      go_wp2_with fail
      refine (unturned_any x y zs.sum hx (by have h1 := HU.out; have h2 := HN.out; rw [h2, upto_all] at h1; exact h1) _).mono ?_; rintro e w1 ⟨rfl, rfl⟩
      go_wp2_with fail
      go_ret2
      exact ⟨rfl, rfl⟩
end Go.Proofs.Ytflbcheofmljeaa
