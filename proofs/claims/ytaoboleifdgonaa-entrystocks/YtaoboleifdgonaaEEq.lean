/- entry: rows held against each other. -/
import Derived.Test.YtaoboleifdgonaaERow
import Derived.Test.YtaoboleifdgonaaSame
import Derived.BigQuiet
namespace Go.Proofs.Ytaoboleifdgonaa
open Go.ChangeShapes Go.WideShapes Go.RowKit
set_option linter.unusedVariables false
set_option maxRecDepth 100000

/-- An answer that is whether something is so. -/
def Ans (P : Prop) (e : Ending) : Prop := ∃ b : Bool, e = .returned (.bool b) ∧ (b = true ↔ P)
theorem Ans.yes {P : Prop} (h : P) : Ans P (.returned (.bool true)) := ⟨true, rfl, fun _ => h, fun _ => rfl⟩
theorem Ans.no {P : Prop} (h : ¬ P) : Ans P (.returned (.bool false)) := ⟨false, rfl, (fun q => by cases q), (fun q => absurd q h)⟩
/-- Two values differ. -/
theorem V.ne_cases {x y : V} (h : ¬ x = y) : ¬ x.k = y.k ∨ (x.k = y.k ∧ ¬ x.n = y.n) ∨ (x.k = y.k ∧ x.n = y.n ∧ ¬ x.s = y.s) := by
  obtain ⟨a, b, c⟩ := x
  obtain ⟨a', b', c'⟩ := y
  by_cases h1 : a = a'
  · by_cases h2 : b = b'
    · exact .inr (.inr ⟨h1, h2, fun h3 => h (by subst h1 h2; exact congrArg _ h3)⟩)
    · exact .inr (.inl ⟨h1, h2⟩)
  · exact .inl h1
set_option maxHeartbeats 1000000 in
theorem equal_is (a b : Option Addr) (c d n m : Nat) (r q : List V) (hn : r.length = n) (hm : q.length = m) (hl : n ≤ 1000000) (hl' : m ≤ 1000000) (w : World) (h : Row w (.slice a r.length c) r) (h' : Row w (.slice b q.length d) q) :
    Calls Try.prog 62 #[.slice a n c, .slice b m d] w fun e w' => Ans (r = q) e ∧ Below w.heap.size w w' := by
  have HA : Hid (Row w (.slice a r.length c) r) := h
  have HB : Hid (Row w (.slice b q.length d) q) := h'
  have HN : Hid (r.length = n) := hn
  have HM : Hid (q.length = m) := hm
  clear h h' hn hm
  by_cases hnm : n = m
  · subst hnm
    go_enter Try.func62, Try.ntmps62
    go_wp2_with fail
    go_loopw [13] (fun i wr => ∃ k : Nat, k ≤ n ∧ i = .int .i64 k ∧ Hid (Below w.heap.size w wr ∧ r.take k = q.take k))
      (fun i _ => n - (intOf i).toNat)
    case atStart => exact ⟨0, Nat.zero_le _, rfl, Below.refl _ _, by simp⟩
    case round =>
      obtain ⟨k, hk, rfl, HI⟩ := hrel
      by_cases hlt : k < n
      · have hlti : (k : Int) < (n : Int) := by omega
        have hkl : k < r.length := by have := HN.out; omega
        have hkq : k < q.length := by have := HM.out; omega
        obtain ⟨b1, o1, rfl, A1⟩ := HA.out.at k hkl
        obtain ⟨b2, o2, rfl, A2⟩ := HB.out.at k hkq
        obtain ⟨c0, c1, c2⟩ := A1.below HI.out.1 A1.lt
        obtain ⟨e0, e1, e2⟩ := A2.below HI.out.1 A2.lt
        have HT : Hid (r[k] = q[k] → r.take (k + 1) = q.take (k + 1)) := fun e => by rw [List.take_succ_eq_append_getElem hkl, List.take_succ_eq_append_getElem hkq, HI.out.2, e]
        have HF : Hid (¬ r[k] = q[k] → ¬ r = q) := fun e g => e (by subst g; rfl)
        generalize r[k] = x at *
        generalize q[k] = y at *
        clear A1 A2
        by_cases hxy : x = y
        · have HT' : Hid _ := HT.out hxy
          subst hxy
          obtain ⟨xk, xn, xs⟩ := x
          clear HT HF
          go_wp2_with fail
          go_quiet (fail)
          have HE : Hid (Below w.heap.size w (wr.drewN nq)) := ⟨HI.out.1.os, HI.out.1.tape, HI.out.1.output, HI.out.1.size, HI.out.1.block⟩
          generalize wr.drewN nq = wq at *
          clear c0 c1 c2 e0 e1 e2
          go_wp2_with fail
          go_roundw
          case rel => exact ⟨k + 1, by omega, by go_num, HE.out, HT'.out⟩
          case measure => simp [intOf]; omega
        · have HF' : Hid _ := HF.out hxy
          have hcs := V.ne_cases hxy
          obtain ⟨xk, xn, xs⟩ := x
          obtain ⟨yk, yn, ys⟩ := y
          clear HT HF hxy
          have hcs' : (¬ xk = yk) ∨ (xk = yk ∧ ¬ xn = yn) ∨ (xk = yk ∧ xn = yn ∧ ¬ xs = ys) := hcs
          clear hcs
          rcases hcs' with hd | ⟨rfl, hd⟩ | ⟨rfl, rfl, hd⟩
          · have bd : (xk == yk) = false := by simpa using hd
            go_wp2_with fail
            go_quiet (fail)
            have HE : Hid (Below w.heap.size w (wr.drewN nq)) := ⟨HI.out.1.os, HI.out.1.tape, HI.out.1.output, HI.out.1.size, HI.out.1.block⟩
            generalize wr.drewN nq = wq at *
            clear c0 c1 c2 e0 e1 e2
            go_wp2_with fail
            go_ret
            exact ⟨Ans.no HF'.out, HE.out⟩
          · have bd : (xn == yn) = false := by simpa using hd
            go_wp2_with fail
            go_quiet (fail)
            have HE : Hid (Below w.heap.size w (wr.drewN nq)) := ⟨HI.out.1.os, HI.out.1.tape, HI.out.1.output, HI.out.1.size, HI.out.1.block⟩
            generalize wr.drewN nq = wq at *
            clear c0 c1 c2 e0 e1 e2
            go_wp2_with fail
            go_ret
            exact ⟨Ans.no HF'.out, HE.out⟩
          · have bd1 : ¬ xs.toList = ys.toList := fun e => hd (byte_inj e)
            have bd : (xs.toList == ys.toList) = false := by simpa using bd1
            go_wp2_with fail
            go_quiet (fail)
            have HE : Hid (Below w.heap.size w (wr.drewN nq)) := ⟨HI.out.1.os, HI.out.1.tape, HI.out.1.output, HI.out.1.size, HI.out.1.block⟩
            generalize wr.drewN nq = wq at *
            clear c0 c1 c2 e0 e1 e2
            go_wp2_with fail
            go_ret
            exact ⟨Ans.no HF'.out, HE.out⟩
      · have hlti : ¬ (k : Int) < (n : Int) := by omega
        have hall : r = q := by
          have := HI.out.2
          rw [List.take_of_length_le (by have := HN.out; omega), List.take_of_length_le (by have := HM.out; omega)] at this
          exact this
        have HALL : Hid (r = q) := hall
        clear hall
        go_wp2_with fail
        go_ret
        exact ⟨Ans.yes HALL.out, HI.out.1⟩
  · have hne : ((n : Int) == (m : Int)) = false := by simp; omega
    have hni : ¬ (n : Int) = (m : Int) := by omega
    have HF : Hid (¬ r = q) := fun e => hnm (by rw [← HN.out, ← HM.out, e])
    go_enter Try.func62, Try.ntmps62
    go_wp2_with fail
    go_ret
    exact ⟨Ans.no HF.out, Below.refl _ _⟩
set_option maxHeartbeats 1000000 in
theorem isRow_is (a b : Option Addr) (c d n m : Nat) (r q : List V) (hn : r.length = n) (hm : q.length = m) (hl : n ≤ 1000000) (hl' : m ≤ 1000000) (hs : ∀ x, x ∈ r → x.s.size ≤ 9223372036854775807) (w : World) (h : Row w (.slice a r.length c) r) (h' : Row w (.slice b q.length d) q) :
    Calls Try.prog 38 #[.slice a n c, .slice b m d] w fun e w' => Ans (fits r ∧ r = q) e ∧ Below w.heap.size w w' := by
  have HA : Hid (Row w (.slice a r.length c) r) := h
  have HB : Hid (Row w (.slice b q.length d) q) := h'
  have HN : Hid (r.length = n) := hn
  have HM : Hid (q.length = m) := hm
  have HS : Hid _ := hs
  clear h h' hn hm hs
  go_enter Try.func38, Try.ntmps38
  go_wp2_with fail
  go_loopw [9] (fun i wr => ∃ k : Nat, k ≤ n ∧ i = .int .i64 k ∧ Hid (Below w.heap.size w wr ∧ fits (r.take k)))
    (fun i _ => n - (intOf i).toNat)
  case atStart => exact ⟨0, Nat.zero_le _, rfl, Below.refl _ _, fun x hx => by simp at hx⟩
  case round =>
    obtain ⟨k, hk, rfl, HI⟩ := hrel
    by_cases hlt : k < n
    · have hlti : (k : Int) < (n : Int) := by omega
      have hkl : k < r.length := by have := HN.out; omega
      obtain ⟨b1, o1, rfl, A1⟩ := HA.out.at k hkl
      obtain ⟨c0, c1, c2⟩ := A1.below HI.out.1 A1.lt
      have HF := (show Hid _ from fits_snoc hkl)
      have HNF := (show Hid _ from @not_fits r k hkl)
      have hsz := HS.out r[k] (List.getElem_mem hkl)
      have HC := (show Hid _ from check_is r[k].k r[k].n r[k].s hsz)
      generalize r[k] = x at *
      obtain ⟨xk, xn, xs⟩ := x
      clear A1
      have hwr : w.heap.size ≤ wr.heap.size := HI.out.1.size
      by_cases hm : mayV xk xn xs
      · have HC' : Hid (∀ w, Calls Try.prog 61 #[vv xk xn xs] w fun e w' => e = .returned (.int .i64 0) ∧ Below w.heap.size w w') := by
          have := HC.out
          simp only [if_pos hm] at this
          exact this
        clear HC HNF
        go_wp2_with fail
        refine Calls.mono (HC'.out _) ?_; rintro e w1 ⟨rfl, k1⟩
        have HB1 : Hid (Below w.heap.size w w1) := HI.out.1.trans ((Below.next (below1 _ _) k1).mono hwr)
        clear k1 c0 c1 c2
        go_wp2_with fail
        go_roundw
        case rel => exact ⟨k + 1, by omega, by go_num, HB1.out, HF.out.2 ⟨HI.out.2, hm⟩⟩
        case measure => simp [intOf]; omega
      · have HC' : Hid (∀ w, Calls Try.prog 61 #[vv xk xn xs] w fun e w' => e = .returned (.int .i64 1) ∧ Below w.heap.size w w') := by
          have := HC.out
          simp only [if_neg hm] at this
          exact this
        clear HC HF
        go_wp2_with fail
        refine Calls.mono (HC'.out _) ?_; rintro e w1 ⟨rfl, k1⟩
        have HB1 : Hid (Below w.heap.size w w1) := HI.out.1.trans ((Below.next (below1 _ _) k1).mono hwr)
        clear k1 c0 c1 c2
        go_wp2_with fail
        go_ret
        exact ⟨Ans.no (fun g => HNF.out hm g.1), HB1.out⟩
    · have hlti : ¬ (k : Int) < (n : Int) := by omega
      have hall : r.take k = r := List.take_of_length_le (by have := HN.out; omega)
      have HFi : Hid (fits r) := by have := HI.out.2; rw [hall] at this; exact this
      have HE : Hid _ := equal_is a b c d n m r q HN.out HM.out hl hl' wr (HA.out.next HI.out.1) (HB.out.next HI.out.1)
      clear hall
      go_wp2_with fail
      refine Calls.mono HE.out ?_; rintro e w1 ⟨⟨bb, rfl, hbb⟩, k1⟩
      have HB1 : Hid (Below w.heap.size w w1) := HI.out.1.trans (k1.mono HI.out.1.size)
      have HBB : Hid (bb = true ↔ r = q) := hbb
      clear k1 hbb HE
      go_wp2_with fail
      go_ret
      exact ⟨⟨bb, rfl, fun g => ⟨HFi.out, HBB.out.1 g⟩, fun g => HBB.out.2 g.2⟩, HB1.out⟩
end Go.Proofs.Ytaoboleifdgonaa
