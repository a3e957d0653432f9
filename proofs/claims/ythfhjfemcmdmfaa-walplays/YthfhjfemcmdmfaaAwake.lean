/- The statements' own part: same, awake. -/
import Derived.Test.YthfhjfemcmdmfaaAdd
namespace Go.Proofs.Ythfhjfemcmdmfaa
open Go.ChangeShapes Go.WideShapes Go.ChangeAt Go.RowKit
set_option linter.unusedVariables false
set_option maxRecDepth 100000

theorem own_texts {w : World} {base : Nat} {v : Value} {l : List ByteArray} (h : w.ownsRow base 9 1 v l.length (sv l)) : Texts w v l := by
  rcases h.2 with ⟨rfl, hn⟩ | ⟨g, cap, cur, rfl, _⟩
  · exact .inl ⟨_, _, rfl, List.length_eq_zero_iff.1 hn⟩
  · refine .inr ⟨g, 0, cap, rfl, fun k hk => ?_⟩
    rw [Nat.zero_add, h.cellAt k (by omega)]
    simp [sv, hk]

theorem same_is (a b : Option Addr) (c e : Nat) (l m : List ByteArray) (w : World) (hl : Texts w (.slice a l.length c) l) (hm : Texts w (.slice b m.length e) m) (h63 : l.length ≤ 9223372036854775807) (h64 : m.length ≤ 9223372036854775807) :
    Calls Try.prog 13 #[.slice a l.length c, .slice b m.length e] w fun en w' => en = .returned (.bool (decide (l = m))) ∧ ∃ n, w' = w.drewN n := by
  by_cases hlen : l.length = m.length
  · have hli : (l.length : Int) = (m.length : Int) := by omega
    have HA := (show Hid _ from fun k hk => hl.cell k hk)
    have HB := (show Hid _ from fun k hk => hm.cell k hk)
    obtain ⟨r, hr⟩ : ∃ r, decide (l = m) = r := ⟨_, rfl⟩
    have HR := (show Hid _ from hr)
    rw [hr]
    clear hl hm hr
    have HLM := (show Hid _ from hlen)
    obtain ⟨n, hn⟩ : ∃ n, l.length = n := ⟨_, rfl⟩
    have HN := (show Hid _ from hn)
    rw [← hlen, hn]
    rw [hn] at h63
    clear hli hlen hn h64
    go_enter Try.func13, Try.ntmps13
    go_wp2_with fail
    go_loopw [5] (fun i wr => ∃ k : Nat, k ≤ n ∧ i = .int .i64 k ∧ Hid (l.take k = m.take k) ∧ ∃ j, wr = w.drewN j)
      (fun i _ => n - (intOf i).toNat)
    case atStart => exact ⟨0, Nat.zero_le _, rfl, rfl, 0, rfl⟩
    case round =>
      obtain ⟨k, hk, rfl, HE, j, rfl⟩ := hrel
      by_cases hlt : k < n
      · have hlti : (k : Int) < (n : Int) := by omega
        have hkl : k < l.length := by have := HN.out; omega
        have hkm : k < m.length := by have := HN.out; have := HLM.out; omega
        obtain ⟨b1, o1, rfl, c1⟩ := HA.out k hkl
        obtain ⟨b2, o2, rfl, c2⟩ := HB.out k hkm
        have HD : Hid (∃ j', w.drewN (j + 1) = w.drewN j') := ⟨j + 1, rfl⟩
        have T1 : Hid (l.take (k + 1) = l.take k ++ [l[k]]) := List.take_succ_eq_append_getElem hkl
        have T2 : Hid (m.take (k + 1) = m.take k ++ [m[k]]) := List.take_succ_eq_append_getElem hkm
        have T3 : Hid (l[k] ≠ m[k] → l ≠ m) := fun h e => h (by subst e; rfl)
        generalize l[k] = s1 at *
        generalize m[k] = s2 at *
        by_cases hs : s1 = s2
        · subst hs
          have H1 : Hid (l.take (k + 1) = m.take (k + 1)) := by
            show l.take (k + 1) = m.take (k + 1)
            rw [T1.out, T2.out, HE.out]
          go_wp2_with fail
          refine wp_region_still_lit (by kernel_rfl) (by kernel_rfl) ?_
          rw [show ({ (w.drewN j) with drawn := (w.drewN j).drawn + 1 } : World) = w.drewN (j + 1) from rfl]
          iterate 9 still_step
          refine wpStill_nil ?_
          clear c1 c2
          generalize w.drewN (j + 1) = wd at *
          go_wp2_with fail
          go_roundw
          case rel => exact ⟨k + 1, by omega, by go_num, H1.out, HD.out⟩
          case measure => simp [intOf]; omega
        · have hb : (s1.toList == s2.toList) = false := by rw [beq_bytes, decide_eq_false hs]
          have H1 : Hid (r = false) := by
            show r = false
            rw [← HR.out, decide_eq_false (T3.out hs)]
          have hs' : ¬ s1 = s2 := hs
          go_wp2_with fail
          refine wp_region_still_lit (by kernel_rfl) (by kernel_rfl) ?_
          rw [show ({ (w.drewN j) with drawn := (w.drewN j).drawn + 1 } : World) = w.drewN (j + 1) from rfl]
          iterate 9 still_step
          refine wpStill_nil ?_
          clear c1 c2
          generalize w.drewN (j + 1) = wd at *
          go_wp2_with fail
          go_ret
          exact ⟨by rw [H1.out]; rfl, HD.out⟩
      · have hlti : ¬ (k : Int) < (n : Int) := by omega
        have H1 : Hid (r = true) := by
          show r = true
          have h1 := HE.out
          have h2 := HN.out
          have h3 := HLM.out
          rw [List.take_of_length_le (by omega), List.take_of_length_le (by omega)] at h1
          rw [← HR.out, decide_eq_true h1]
        go_wp2_with fail
        go_ret
        exact ⟨by rw [H1.out]; rfl, j, rfl⟩
  · have hli : ((l.length : Int) == (m.length : Int)) = false := by simp; omega
    have hne : decide (l = m) = false := decide_eq_false (fun e => hlen (by rw [e]))
    rw [hne]
    clear hl hm
    go_enter Try.func13, Try.ntmps13
    go_wp2_with fail
    go_ret
    exact ⟨rfl, 0, rfl⟩

/-! The log of awake. -/
def awG : List ByteArray := [⟨#[111, 110, 101]⟩, ⟨#[116, 119, 111]⟩]
def awL : List UInt8 := (leftS (fresh 8) 1 0 ⟨(frames 3 awG).toArray⟩).data.toList
def awD : Dk := (puts (fresh 8) 1 awL 1).flush
theorem aw_none : scanS 3 ⟨(cat (fresh 8) 1 7).toArray⟩ = ([], 0) := by decide +kernel
theorem aw_two : scanS 3 ⟨(cat awD 1 7).toArray⟩ = (awG, 26) := by decide +kernel
theorem aw_four : scanS 4 ⟨(cat awD 1 7).toArray⟩ = ([], 0) := by decide +kernel
theorem aw_size : sizeG awG = 26 := by decide
theorem aw_many : manyS 0 (sizeG awG) = 1 := by decide
theorem aw_on : (puts (fresh 8) 1 awL 1).on = true := rfl
theorem aw_off : awD.off = false := rfl
theorem aw_may : mayG awG := by decide
theorem aw_three : scanS ((3 : Nat) : Int) ⟨(cat (fresh 8) 1 (8 - 1)).toArray⟩ = ([], 0) := aw_none
theorem aw_three2 : scanS ((3 : Nat) : Int) ⟨(cat awD 1 (8 - 1)).toArray⟩ = (awG, 26) := aw_two
theorem aw_four2 : scanS ((4 : Nat) : Int) ⟨(cat awD 1 (8 - 1)).toArray⟩ = ([], 0) := aw_four

/-- Open, as awake calls it. -/
theorem aw_open {w : World} {F : Nat → Prop} {p : Nat} {d : Dk} (hd : Disk w F p d) (hn : d.n = 8) (hoff : d.off = false) (t : Nat) (ht : 1 ≤ t ∧ t ≤ 2147483647) (R : List ByteArray) (u : Nat) (hs : scanS (t : Int) ⟨(cat d 1 (8 - 1)).toArray⟩ = (R, u)) :
    Calls Try.prog 16 #[.pointer (some ⟨p, 0, none⟩), .int .i64 1, .int .i64 8, .int .i64 (t : Int)] w fun e w' => ∃ q v, e = .returned (.tuple #[.pointer (some ⟨q, 0, none⟩), .int .i64 0]) ∧ LogAt w' F q p 1 8 t R u v ∧ Kept (fun _ => False) w w' ∧ w.heap.size ≤ q ∧ ∀ k, v.ownBlock = some k → w.heap.size ≤ k := by
  have := open_on hd hoff 1 8 t (by omega) (by omega) ht
  rw [hs] at this
  exact this

/-- Add, as awake calls it. -/
theorem aw_add {w : World} {F : Nat → Prop} {p q : Nat} {v : Value} (hd : Disk w F p (fresh 8)) (h : LogAt w F q p 1 8 3 [] 0 v) :
    Calls Try.prog 21 #[.pointer (some ⟨q, 0, none⟩), .slice (some ⟨w.heap.size, 0, none⟩) 2 2] (w.alloc (.cells #[.string ⟨#[111, 110, 101]⟩, .string ⟨#[116, 119, 111]⟩] 9)) fun e w' => e = .returned (.int .i64 0) ∧
      ∃ F' v', Kept (fun k => F k ∨ k = q ∨ v.ownBlock = some k) w w' ∧ Grew F F' w ∧ Disk w' F' p (puts (fresh 8) 1 awL 1) ∧ LogAt w' F' q p 1 8 3 awG 26 v' := by
  have k1 : Kept (fun _ => False) w (w.alloc (.cells #[.string ⟨#[111, 110, 101]⟩, .string ⟨#[116, 119, 111]⟩] 9)) := (Kept.refl _ w).alloc _
  refine (add_is (h.step k1) (hd.kept k1 (fun _ _ z => z)) rfl (by omega) (Nat.le_refl 8) (by omega) (by show 0 ≤ _; omega) (some ⟨w.heap.size, 0, none⟩) 2 awG (.inr ⟨w.heap.size, 0, 2, rfl, fun k hk => ?_⟩) (fun x n c e z => ?_) (by decide) aw_may (by decide) (by rw [aw_size]; decide) (by simp)).mono ?_
  · have : k = 0 ∨ k = 1 := by have : k < 2 := hk; omega
    rcases this with rfl | rfl
    · simp [awG]
    · simp [awG]
  · cases e
    have := hd.bound _ z
    simp at this
  · rintro e w' ⟨c, rfl, F', y1, y2, y3, y4⟩
    have hc : c = 0 := by
      by_cases hc : c = 0
      · exact hc
      · obtain ⟨_, ⟨k, hk, _, hof, _⟩, _⟩ := y4 hc
        rw [aw_many] at hk
        obtain rfl : k = 0 := by omega
        cases hof
    subst hc
    obtain ⟨_, z2, v', z3, _⟩ := y3 rfl
    rw [aw_many] at z2
    rw [aw_size] at z3
    exact ⟨rfl, F', v', k1.mono (fun _ z => z.elim) |>.trans y1 (fun _ z => .inl z), fun k hk => (y2 k hk).imp id (fun z => Nat.le_trans k1.size z), z2, z3⟩
end Go.Proofs.Ythfhjfemcmdmfaa
