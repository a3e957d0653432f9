/- The document's kinds of a row's values. -/
import Derived.Test.YtaoboleifdgonaaEPut
namespace Go.Proofs.Ytaoboleifdgonaa
open Go.ChangeShapes Go.WideShapes Go.RowKit
set_option linter.unusedVariables false
set_option maxRecDepth 100000

/-- Is a value of a kind, by a letter? -/
def kindOK (c : UInt8) (x : V) : Prop := (if c = 109 then (x.k = 0 ∨ (x.k = 1 ∧ ¬ x.n = 0)) else if c = 116 then x.k = 2 else x.k = 1) ∧ x.may
instance (c : UInt8) (x : V) : Decidable (kindOK c x) := by unfold kindOK; infer_instance
/-- Are a row's values of some kinds? -/
def kindsP (r : List V) (s : ByteArray) : Prop := r.length = s.size ∧ ∀ i (h : i < r.length) (h' : i < s.size), kindOK s[i] r[i]
set_option maxHeartbeats 4000000 in
theorem kinds_is (a : Option Addr) (c n : Nat) (r : List V) (hn : r.length = n) (hl : n ≤ 1000000) (s : ByteArray) (hsl : s.size ≤ 1000) (hs : ∀ x, x ∈ r → x.s.size ≤ 9223372036854775807) (w : World) (h : Row w (.slice a r.length c) r) :
    Calls Try.prog 40 #[.slice a n c, .string s] w fun e w' => Ans (kindsP r s) e ∧ Below w.heap.size w w' := by
  have HA : Hid (Row w (.slice a r.length c) r) := h
  have HN : Hid (r.length = n) := hn
  have HS : Hid _ := hs
  clear h hn hs
  by_cases hns : n = s.size
  · have HNS : Hid (n = s.size) := hns
    have hnsi : (n : Int) = (s.size : Int) := by omega
    have hnsb : ((n : Int) == (s.size : Int)) = true := by simpa using hnsi
    clear hns
    go_enter Try.func40, Try.ntmps40
    go_wp2_with fail
    go_loopw [5] (fun i wr => ∃ k : Nat, k ≤ n ∧ i = .int .i64 k ∧ Hid (Below w.heap.size w wr ∧ ∀ i (h : i < r.length) (h' : i < s.size), i < k → kindOK s[i] r[i]))
      (fun i _ => n - (intOf i).toNat)
    case atStart => exact ⟨0, Nat.zero_le _, rfl, Below.refl _ _, fun i _ _ q => absurd q (Nat.not_lt_zero i)⟩
    case round =>
      obtain ⟨k, hk, rfl, HI⟩ := hrel
      by_cases hlt : k < n
      · have hlti : (k : Int) < (n : Int) := by omega
        have hkl : k < r.length := by have := HN.out; omega
        have hks : k < s.size := by have := HNS.out; omega
        have hksi : (k : Int) < (s.size : Int) := by omega
        obtain ⟨b1, o1, rfl, A1⟩ := HA.out.at k hkl
        obtain ⟨c0, c1, c2⟩ := A1.below HI.out.1 A1.lt
        have HF : Hid (¬ kindOK s[k] r[k] → ¬ kindsP r s) := fun e g => e (g.2 k hkl hks)
        have HT : Hid (kindOK s[k] r[k] → ∀ i (h : i < r.length) (h' : i < s.size), i < k + 1 → kindOK s[i] r[i]) := fun e i h h' q => by
          by_cases hik : i = k
          · subst hik; exact e
          · exact HI.out.2 i h h' (by omega)
        have hsz := HS.out r[k] (List.getElem_mem hkl)
        have HM0 := refMay_is r[k].k r[k].n r[k].s hsz
        obtain ⟨ch, hch⟩ : ∃ ch, s[k] = ch := ⟨_, rfl⟩
        rw [hch] at HF HT
        have hchn : s[k].toNat = ch.toNat := by rw [hch]
        clear hch
        generalize r[k] = x at *
        obtain ⟨xk, xn, xs⟩ := x
        clear A1
        have hwr : w.heap.size ≤ wr.heap.size := HI.out.1.size
        have HK : Hid (kindOK ch ⟨xk, xn, xs⟩ ↔ (if ch = 109 then (xk = 0 ∨ (xk = 1 ∧ ¬ xn = 0)) else if ch = 116 then xk = 2 else xk = 1) ∧ mayV xk xn xs) := Iff.rfl
        -- the letter
        by_cases h116 : ch = 116
        · subst h116
          have hc1 : s[k].toNat = 116 := hchn
          have HK2 : Hid (kindOK 116 ⟨xk, xn, xs⟩ ↔ xk = 2 ∧ mayV xk xn xs) := HK.out
          clear hchn HK
          by_cases hx : xk = 2
          · subst hx
            by_cases hm : mayV 2 xn xs
            · have HT' : Hid _ := HT.out (HK2.out.2 ⟨rfl, hm⟩)
              simp only [decide_eq_true hm] at HM0
              have HM : Hid _ := HM0
              clear HM0 HT HF HK2
              go_wp2_with fail
              refine Calls.mono (HM.out _) ?_; rintro e w1 ⟨rfl, k1⟩
              have HB1 : Hid (Below w.heap.size w w1) := HI.out.1.trans ((Below.next (below1 _ _) k1).mono hwr)
              clear k1 c0 c1 c2
              go_wp2_with fail
              go_roundw
              case rel => exact ⟨k + 1, by omega, by go_num, HB1.out, HT'.out⟩
              case measure => simp [intOf]; omega
            · have HF' : Hid (¬ kindsP r s) := HF.out (fun g => hm (HK2.out.1 g).2)
              simp only [decide_eq_false hm] at HM0
              have HM : Hid _ := HM0
              clear HM0 HT HF HK2
              go_wp2_with fail
              refine Calls.mono (HM.out _) ?_; rintro e w1 ⟨rfl, k1⟩
              have HB1 : Hid (Below w.heap.size w w1) := HI.out.1.trans ((Below.next (below1 _ _) k1).mono hwr)
              clear k1 c0 c1 c2
              go_wp2_with fail
              go_ret
              exact ⟨Ans.no HF'.out, HB1.out⟩
          · have hxb : (xk == 2) = false := by simpa using hx
            have HF' : Hid (¬ kindsP r s) := HF.out (fun g => hx (HK2.out.1 g).1)
            clear HM0 HT HF HK2
            go_wp2_with fail
            go_ret
            exact ⟨Ans.no HF'.out, HI.out.1.trans ((below1 _ _).mono hwr)⟩
        · have hc1 : ¬ s[k].toNat = 116 := fun e => h116 (UInt8.toNat_inj.1 (hchn.symm.trans e))
          have hc2 : ((s[k].toNat : Int) == 116) = false := by simp; omega
          have hc3 : ¬ (s[k].toNat : Int) = 116 := by omega
          by_cases h109 : ch = 109
          · subst h109
            have hc4 : s[k].toNat = 109 := hchn
            have HK2 : Hid (kindOK 109 ⟨xk, xn, xs⟩ ↔ (xk = 0 ∨ (xk = 1 ∧ ¬ xn = 0)) ∧ mayV xk xn xs) := HK.out
            clear hchn HK
            by_cases hx0 : xk = 0
            · subst hx0
              by_cases hm : mayV 0 xn xs
              · have HT' : Hid _ := HT.out (HK2.out.2 ⟨.inl rfl, hm⟩)
                simp only [decide_eq_true hm] at HM0
                have HM : Hid _ := HM0
                clear HM0 HT HF HK2
                go_wp2_with fail
                refine Calls.mono (HM.out _) ?_; rintro e w1 ⟨rfl, k1⟩
                have HB1 : Hid (Below w.heap.size w w1) := HI.out.1.trans ((Below.next (below1 _ _) k1).mono hwr)
                clear k1 c0 c1 c2
                go_wp2_with fail
                go_roundw
                case rel => exact ⟨k + 1, by omega, by go_num, HB1.out, HT'.out⟩
                case measure => simp [intOf]; omega
              · have HF' : Hid (¬ kindsP r s) := HF.out (fun g => hm (HK2.out.1 g).2)
                simp only [decide_eq_false hm] at HM0
                have HM : Hid _ := HM0
                clear HM0 HT HF HK2
                go_wp2_with fail
                refine Calls.mono (HM.out _) ?_; rintro e w1 ⟨rfl, k1⟩
                have HB1 : Hid (Below w.heap.size w w1) := HI.out.1.trans ((Below.next (below1 _ _) k1).mono hwr)
                clear k1 c0 c1 c2
                go_wp2_with fail
                go_ret
                exact ⟨Ans.no HF'.out, HB1.out⟩
            · have hx0b : (xk == 0) = false := by simpa using hx0
              by_cases hx1 : xk = 1
              · subst hx1
                by_cases hn0 : xn = 0
                · subst hn0
                  have HF' : Hid (¬ kindsP r s) := HF.out (fun g => by rcases (HK2.out.1 g).1 with q | q; exact hx0 q; exact q.2 rfl)
                  clear HM0 HT HF HK2
                  go_wp2_with fail
                  go_ret
                  exact ⟨Ans.no HF'.out, HI.out.1.trans ((below1 _ _).mono hwr)⟩
                · have hn0b : (xn == 0) = false := by simpa using hn0
                  have hn0c : (xn != 0) = true := by simpa using hn0
                  by_cases hm : mayV 1 xn xs
                  · have HT' : Hid _ := HT.out (HK2.out.2 ⟨.inr ⟨rfl, hn0⟩, hm⟩)
                    simp only [decide_eq_true hm] at HM0
                    have HM : Hid _ := HM0
                    clear HM0 HT HF HK2
                    go_wp2_with fail
                    refine Calls.mono (HM.out _) ?_; rintro e w1 ⟨rfl, k1⟩
                    have HB1 : Hid (Below w.heap.size w w1) := HI.out.1.trans ((Below.next (below1 _ _) k1).mono hwr)
                    clear k1 c0 c1 c2
                    go_wp2_with fail
                    go_roundw
                    case rel => exact ⟨k + 1, by omega, by go_num, HB1.out, HT'.out⟩
                    case measure => simp [intOf]; omega
                  · have HF' : Hid (¬ kindsP r s) := HF.out (fun g => hm (HK2.out.1 g).2)
                    simp only [decide_eq_false hm] at HM0
                    have HM : Hid _ := HM0
                    clear HM0 HT HF HK2
                    go_wp2_with fail
                    refine Calls.mono (HM.out _) ?_; rintro e w1 ⟨rfl, k1⟩
                    have HB1 : Hid (Below w.heap.size w w1) := HI.out.1.trans ((Below.next (below1 _ _) k1).mono hwr)
                    clear k1 c0 c1 c2
                    go_wp2_with fail
                    go_ret
                    exact ⟨Ans.no HF'.out, HB1.out⟩
              · have hx1b : (xk == 1) = false := by simpa using hx1
                have HF' : Hid (¬ kindsP r s) := HF.out (fun g => by rcases (HK2.out.1 g).1 with q | q; exact hx0 q; exact hx1 q.1)
                clear HM0 HT HF HK2
                go_wp2_with fail
                go_ret
                exact ⟨Ans.no HF'.out, HI.out.1.trans ((below1 _ _).mono hwr)⟩
          · have hc4 : ¬ s[k].toNat = 109 := fun e => h109 (UInt8.toNat_inj.1 (hchn.symm.trans e))
            have hc5 : ((s[k].toNat : Int) == 109) = false := by simp; omega
            have hc6 : ¬ (s[k].toNat : Int) = 109 := by omega
            have HK2 : Hid (kindOK ch ⟨xk, xn, xs⟩ ↔ xk = 1 ∧ mayV xk xn xs) := by have := HK.out; rw [if_neg h109, if_neg h116] at this; exact this
            clear hchn HK
            by_cases hx : xk = 1
            · subst hx
              by_cases hm : mayV 1 xn xs
              · have HT' : Hid _ := HT.out (HK2.out.2 ⟨rfl, hm⟩)
                simp only [decide_eq_true hm] at HM0
                have HM : Hid _ := HM0
                clear HM0 HT HF HK2
                go_wp2_with fail
                refine Calls.mono (HM.out _) ?_; rintro e w1 ⟨rfl, k1⟩
                have HB1 : Hid (Below w.heap.size w w1) := HI.out.1.trans ((Below.next (below1 _ _) k1).mono hwr)
                clear k1 c0 c1 c2
                go_wp2_with fail
                go_roundw
                case rel => exact ⟨k + 1, by omega, by go_num, HB1.out, HT'.out⟩
                case measure => simp [intOf]; omega
              · have HF' : Hid (¬ kindsP r s) := HF.out (fun g => hm (HK2.out.1 g).2)
                simp only [decide_eq_false hm] at HM0
                have HM : Hid _ := HM0
                clear HM0 HT HF HK2
                go_wp2_with fail
                refine Calls.mono (HM.out _) ?_; rintro e w1 ⟨rfl, k1⟩
                have HB1 : Hid (Below w.heap.size w w1) := HI.out.1.trans ((Below.next (below1 _ _) k1).mono hwr)
                clear k1 c0 c1 c2
                go_wp2_with fail
                go_ret
                exact ⟨Ans.no HF'.out, HB1.out⟩
            · have hxb : (xk == 1) = false := by simpa using hx
              have HF' : Hid (¬ kindsP r s) := HF.out (fun g => hx (HK2.out.1 g).1)
              clear HM0 HT HF HK2
              go_wp2_with fail
              go_ret
              exact ⟨Ans.no HF'.out, HI.out.1.trans ((below1 _ _).mono hwr)⟩
      · have hlti : ¬ (k : Int) < (n : Int) := by omega
        have HJ : Hid (kindsP r s) := ⟨by rw [HN.out, HNS.out], fun i h h' => HI.out.2 i h h' (by have := HN.out; omega)⟩
        go_wp2_with fail
        go_ret
        exact ⟨Ans.yes HJ.out, HI.out.1⟩
  · have hnb : ((n : Int) == (s.size : Int)) = false := by simp; omega
    have hni : ¬ (n : Int) = (s.size : Int) := by omega
    have HF : Hid (¬ kindsP r s) := fun g => hns (by rw [← HN.out, g.1])
    go_enter Try.func40, Try.ntmps40
    go_wp2_with fail
    go_ret
    exact ⟨Ans.no HF.out, Below.refl _ _⟩
end Go.Proofs.Ytaoboleifdgonaa
