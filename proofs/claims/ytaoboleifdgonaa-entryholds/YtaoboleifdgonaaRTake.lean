/- The document's Take. -/
import Derived.Test.YtaoboleifdgonaaROneB
namespace Go.Proofs.Ytaoboleifdgonaa
open Go.ChangeShapes Go.WideShapes Go.RowKit
set_option linter.unusedVariables false
set_option maxRecDepth 100000
set_option maxRecDepth 100000

theorem close_short (m : Nat) (L : ByteArray) (acc : List V) : close (takeL m L true acc) = none := by
  cases hT : takeL m L true acc with
  | none => rfl
  | some p =>
    obtain ⟨acc', L', sh⟩ := p
    cases sh with
    | true => rfl
    | false => exact absurd (takeL_fwd m L true acc acc' L' hT).1 (by decide)
theorem take_no (m : Nat) (L : ByteArray) (acc : List V) (h : ¬ Begins L) : close (takeL (m + 1) L false acc) = none := by
  rw [takeL]
  by_cases hm : (cutV L false).v.may
  · rw [if_pos hm]
    have hs : (cutV L false).short = true := by
      cases hs : (cutV L false).short with
      | true => rfl
      | false => exact absurd ⟨hs, hm⟩ h
    rw [hs]
    exact close_short _ _ _
  · rw [if_neg hm]
    rfl
theorem take_yes (m : Nat) (L : ByteArray) (acc : List V) (h : Begins L) : takeL (m + 1) L false acc = takeL m (cutV L false).left false (acc ++ [(cutV L false).v]) := by
  rw [takeL, if_pos h.2, h.1]
theorem rest_rest (s : ByteArray) (a : Nat) (L : ByteArray) (x : List UInt8) (h : (rest s a).data.toList = x ++ L.data.toList) : L = rest s (a + x.length) := by
  apply bytes_ext
  rw [rest_list, ← List.drop_drop, ← rest_list, h, List.drop_append_of_le_length (Nat.le_refl _), List.drop_of_length_le (Nat.le_refl _), List.nil_append]
theorem begins_left (L : ByteArray) (h : Begins L) : L.data.toList = (cutV L false).v.bytes ++ (cutV L false).left.data.toList := (cut_fwd L false h.1 h.2).2.1
theorem begins_some (L : ByteArray) (h : Begins L) : (cutV L false).left.size + (cutV L false).v.bytes.length = L.size ∧ 1 ≤ (cutV L false).v.bytes.length := by
  have := congrArg List.length (begins_left L h)
  rw [len_size, List.length_append, len_size] at this
  exact ⟨by omega, by show 1 ≤ (lowB _ :: _).length; simp⟩
/-- Take at a round's beginning. -/
def MidR (w wr : World) (row : Value) (s : ByteArray) (a : Nat) (m : Nat) (T : Option (List V)) : Prop :=
  ∃ acc, OwnR wr w.heap.size row acc ∧ acc.length + m ≤ 255 ∧ Below w.heap.size w wr ∧ T = close (takeL m (rest s a) false acc)
set_option maxHeartbeats 2000000 in
theorem refTake_is (s : ByteArray) (hs : s.size ≤ 1000000) (w : World) : Calls Try.prog 39 #[.string s] w fun e w' => Took (takeR s) e w' ∧ Below w.heap.size w w' := by
  by_cases h0 : s.size = 0
  · have e0 := empty_of h0
    have HT : Hid (takeR ⟨#[]⟩ = none) := by show takeR ⟨#[]⟩ = none; decide
    subst e0
    go_enter Try.func39, Try.ntmps39
    go_wp2_with fail
    go_ret2
    exact ⟨by rw [HT.out]; rfl, Below.refl _ _⟩
  have h1 : 0 < s.size := by omega
  have hl0 := not_nil h0
  have hl1 : s.toList.isEmpty = false := by simpa using hl0
  have hi : (0 : Int) < (s.size : Int) := by omega
  have f1 : fewer false s 1 = false := by rw [fewer_is, decide_eq_false (by omega)]
  obtain ⟨c, hc⟩ : ∃ c, s[0].toNat = c := ⟨_, rfl⟩
  have hc255 : c ≤ 255 := by have := s[0].toNat_lt; omega
  have hcw : wrap64 (c : Int) = (c : Int) := by unfold wrap64; omega
  have HR : Hid (takeR s = close (takeL c (rest s 1) false [])) := by
    show takeR s = _
    rw [takeR_is, firstN_one s h1, hc, f1]
    rfl
  obtain ⟨T, hT⟩ : ∃ T, takeR s = T := ⟨_, rfl⟩
  rw [hT] at HR ⊢
  clear hT f1
  have HS : Hid (s.size ≤ 1000000) := hs
  go_enter Try.func39, Try.ntmps39
  go_wp2_with fail
  go_loopw [4, 5, 6] (fun row a i wr => ∃ (j m : Nat), j ≤ c ∧ m ≤ s.size ∧ i = .int .i64 j ∧ a = .int .i64 m ∧ Hid (MidR w wr row s m (c - j) T))
    (fun _ _ i _ => c - (intOf i).toNat)
  case atStart => exact ⟨0, 1, Nat.zero_le _, by omega, rfl, rfl, [], World.ownsRow_nil _ _ _ _, by simp; omega, Below.refl _ _, HR.out⟩
  case round =>
    obtain ⟨j, m, hj, hm, rfl, rfl, HI⟩ := hrel
    have hmi : (m : Int) ≤ (s.size : Int) := by omega
    by_cases hlt : j < c
    · have hlti : (j : Int) < (c : Int) := by omega
      have HO : Hid _ := one_is (rest s m) (by rw [rest_size]; omega)
      go_wp2_with fail
      refine Calls.mono (HO.out _) ?_; rintro e w1 ⟨ho, k1⟩
      obtain ⟨acc, i1, i2, i3, i4⟩ := HI.out
      have hcj : c - j = (c - (j + 1)) + 1 := by omega
      rw [hcj] at i4 i2
      have z1 : w.heap.size ≤ wr.heap.size := i3.size
      have HB1 : Hid (Below w.heap.size w w1) := i3.trans (k1.mono z1)
      rcases ho with ⟨hb, rfl⟩ | ⟨hb, ⟨xk, xn, xs⟩, rfl⟩
      · rw [take_yes _ _ _ hb] at i4
        obtain ⟨hb1, hb2⟩ := begins_some _ hb
        have hrr := rest_rest s m _ _ (begins_left _ hb)
        rw [rest_size] at hb1
        obtain ⟨n, hn⟩ : ∃ n, (cutV (rest s m) false).v.bytes.length = n := ⟨_, rfl⟩
        have hl1 : (rest s m).size - (cutV (rest s m) false).left.size = n := by rw [rest_size]; omega
        rw [hn] at hrr hb1 hb2
        rw [hl1]
        rw [hrr] at i4
        have hmn : m + n ≤ s.size := by omega
        clear hrr hl1 hn hb hb1
        generalize (cutV (rest s m) false).v = x at *
        obtain ⟨xk, xn, xs⟩ := x
        have O1 : OwnR w1 w.heap.size u4 acc := i1.next k1
        have O2 : OwnR (w1.alloc (.cells #[.int .i64 xk, .int .i64 xn, .string xs] 56)) w.heap.size u4 acc := World.ownsRow.alloc O1 _
        obtain ⟨v6, w6, ra, o6, b6⟩ := append_val O2 ⟨xk, xn, xs⟩ (by omega) (by have := HB1.out.size; simp; omega)
        rw [show (w1.alloc (.cells #[.int .i64 xk, .int .i64 xn, .string xs] 56)).heap.size = w1.heap.size + 1 by simp] at ra
        have RA : Hid _ := ra
        have HM6 : Hid (MidR w w6 v6 s (m + n) (c - (j + 1)) T) := ⟨acc ++ [⟨xk, xn, xs⟩], o6, by rw [List.length_append]; simp; omega, (HB1.out.alloc HB1.out.size _).trans b6, i4⟩
        have hn0 : ((n : Int) == 0) = false := by simp; omega
        have hn1 : ¬ (n : Int) = 0 := by omega
        have HSS := HS.out
        have hmn2 : (m : Int) + (n : Int) ≤ 1000000 := by omega
        clear ra o6 b6 O1 O2 i1 i2 i3 i4 k1 HO HI
        go_wp2_with (first | ((with_reducible apply st_append (x := .tmp 27)); (case ho => rfl); (case hgd => rfl); (case hr => exact RA.out)))
        go_roundw
        case rel => exact ⟨j + 1, m + n, by omega, by omega, by go_num, by go_num, HM6.out⟩
        case measure => simp [intOf]; omega
      · rw [take_no _ _ _ hb] at i4
        have HT : Hid (T = none) := i4
        clear i1 i2 i3 i4 k1 HO HI hb
        go_wp2_with fail
        go_ret2
        exact ⟨by rw [HT.out]; rfl, HB1.out.alloc HB1.out.size _⟩
    · have hlti : ¬ (j : Int) < (c : Int) := by omega
      obtain ⟨acc, i1, i2, i3, i4⟩ := HI.out
      have hcj : c - j = 0 := by omega
      rw [hcj, takeL] at i4
      have i5 : T = if (rest s m).size ≠ 0 then none else some acc := by rw [i4]; unfold close; simp
      rw [rest_size] at i5
      obtain ⟨ra, rc, rfl, rw1⟩ := i1.row
      have HE : Hid (Row wr (.slice ra acc.length rc) acc ∧ Below w.heap.size w wr) := ⟨rw1, i3⟩
      clear HI i1 i2 i3 i4 rw1
      by_cases hms : m = s.size
      · have HT : Hid (T = some acc) := by show T = _; rw [i5, if_neg (by omega)]
        subst hms
        clear i5
        go_wp2_with fail
        go_ret2
        exact ⟨by rw [HT.out]; exact ⟨ra, rc, rfl, HE.out.1⟩, HE.out.2⟩
      · have HT : Hid (T = none) := by show T = _; rw [i5, if_pos (by omega)]
        have hne : ((m : Int) == (s.size : Int)) = false := by simp; omega
        have hne2 : ¬ (m : Int) = (s.size : Int) := by omega
        clear i5
        go_wp2_with fail
        go_ret2
        exact ⟨by rw [HT.out]; rfl, HE.out.2⟩
end Go.Proofs.Ytaoboleifdgonaa
