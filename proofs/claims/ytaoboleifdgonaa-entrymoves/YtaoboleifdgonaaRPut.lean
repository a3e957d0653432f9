/- The document's Put. -/
import Derived.Test.YtaoboleifdgonaaRBytB
namespace Go.Proofs.Ytaoboleifdgonaa
open Go.ChangeShapes Go.WideShapes Go.RowKit
set_option linter.unusedVariables false
set_option maxRecDepth 100000
set_option maxRecDepth 100000

theorem refBytes_is (k n : Int) (s : ByteArray) (hn : -9223372036854775808 ≤ n ∧ n ≤ 9223372036854775807) (hm : mayV k n s) (w : World) : Calls Try.prog 57 #[vv k n s] w fun e w' => e = .returned (.string ⟨(valB k n s).toArray⟩) ∧ Below w.heap.size w w' := by
  rcases hm with ⟨rfl, rfl, _⟩ | ⟨rfl, _⟩ | ⟨rfl, rfl, h⟩ | ⟨rfl, _⟩
  · exact refBytes_null s w
  · exact refBytes_int n hn.1 hn.2 s w
  · exact refBytes_text s (by omega) w
  · exact refBytes_bool n s w
theorem refPut_long (a : Option Addr) (c n : Nat) (r : List V) (hn : r.length = n) (w : World) (hl : ¬ n ≤ 255) :
    Calls Try.prog 34 #[.slice a n c] w fun e w' => e = .returned (putR r) ∧ Below w.heap.size w w' := by
  have hli : 255 < (n : Int) := by omega
  have HP : Hid (putR r = .tuple #[.string ⟨#[]⟩, .int .i64 1]) := by show putR r = _; unfold putR; rw [if_neg (fun q => hl (hn ▸ q.1))]
  go_enter Try.func34, Try.ntmps34
  go_wp2_with fail
  go_ret2
  exact ⟨by rw [HP.out]; rfl, Below.refl _ _⟩
set_option maxHeartbeats 1000000 in
theorem refPut_is (a : Option Addr) (c n : Nat) (r : List V) (hn : r.length = n) (w : World) (h : Row w (.slice a r.length c) r) (hs : ∀ x, x ∈ r → x.s.size ≤ 9223372036854775807) (hnr : ∀ x, x ∈ r → -9223372036854775808 ≤ x.n ∧ x.n ≤ 9223372036854775807) (hl : n ≤ 255) :
    Calls Try.prog 34 #[.slice a n c] w fun e w' => e = .returned (putR r) ∧ Below w.heap.size w w' := by
  have hli : ¬ 255 < (n : Int) := by omega
  have HR : Hid (Row w (.slice a r.length c) r) := h
  have HN := (show Hid _ from hn)
  have HS := (show Hid _ from hs)
  have HNR := (show Hid _ from hnr)
  have HO : Hid (Own (w.alloc (.cells #[.int .u8 (n : Int)] 5)) w.heap.size (.slice (some ⟨w.heap.size, 0, none⟩) 1 1) [lowB (r.length : Int)]) := by
    show Own _ _ _ _
    rw [hn]
    exact own_new w _ (lowB_small n hl)
  clear h hn hs hnr
  go_enter Try.func34, Try.ntmps34
  go_wp2_with fail
  go_loopw [4, 5] (fun l i wr => ∃ k : Nat, k ≤ n ∧ i = .int .i64 k ∧ Hid (Own wr w.heap.size l (lowB (r.length : Int) :: valsB (r.take k)) ∧ Below w.heap.size w wr ∧ fits (r.take k)))
    (fun _ i _ => n - (intOf i).toNat)
  case atStart => exact ⟨0, Nat.zero_le _, rfl, HO.out, below1 _ _, fun x hx => by simp at hx⟩
  case round =>
    obtain ⟨k, hk, rfl, HI⟩ := hrel
    by_cases hlt : k < n
    · have hlti : (k : Int) < (n : Int) := by omega
      have hkl : k < r.length := by have := HN.out; omega
      obtain ⟨b, o, rfl, A0⟩ := HR.out.at k hkl
      have A1 := A0.below HI.out.2.1 A0.lt
      obtain ⟨c0, c1, c2⟩ := A1
      have HT : Hid (valsB (r.take (k + 1)) = valsB (r.take k) ++ r[k].bytes) := by show valsB _ = _; rw [List.take_succ_eq_append_getElem hkl, valsB_snoc]
      have HF := (show Hid _ from fits_snoc hkl)
      have HNF := (show Hid _ from @not_fits r k hkl)
      have hsz := HS.out r[k] (List.getElem_mem hkl)
      have hnn := HNR.out r[k] (List.getElem_mem hkl)
      have HM := (show Hid _ from refMay_is r[k].k r[k].n r[k].s hsz)
      have HB : Hid (r[k].bytes = valB r[k].k r[k].n r[k].s) := rfl
      generalize r[k] = x at *
      obtain ⟨xk, xn, xs⟩ := x
      have hwr : w.heap.size ≤ wr.heap.size := HI.out.2.1.size
      by_cases hm : mayV xk xn xs
      · have HM' : Hid (∀ w, Calls Try.prog 56 #[vv xk xn xs] w fun e w' => e = .returned (.bool true) ∧ Below w.heap.size w w') := by
          have := HM.out
          simp only [decide_eq_true hm] at this
          exact this
        have HBy : Hid _ := refBytes_is xk xn xs hnn hm
        clear HM
        go_wp2_with fail
        refine Calls.mono (HM'.out _) ?_; rintro e w1 ⟨rfl, k1⟩
        have HB1 : Hid (Below w.heap.size w w1) := HI.out.2.1.trans (k1.mono hwr)
        obtain ⟨d0, d1, d2⟩ := A0.below HB1.out A0.lt
        have HO1 : Hid (Own w1 w.heap.size u4 (lowB (r.length : Int) :: valsB (r.take k))) := HI.out.1.next k1
        clear k1
        go_wp2_with fail
        refine Calls.mono (HBy.out _) ?_; rintro e w2 ⟨rfl, k2⟩
        have z1 := HB1.out.size
        have hvl : (valB xk xn xs).length ≤ 66 := bytes_len ⟨xk, xn, xs⟩ hm
        have hvs : (⟨(valB xk xn xs).toArray⟩ : ByteArray).size = (valB xk xn xs).length := by show (valB xk xn xs).toArray.size = _; simp
        have hln : (lowB (r.length : Int) :: valsB (r.take k)).length ≤ 90000 := by
          have q := vals_len (r.take k) HI.out.2.2
          have e : (r.take k).length = k := by rw [List.length_take]; omega
          rw [List.length_cons]
          omega
        obtain ⟨v3, w3, ra, o3, g3⟩ := append_text (HO1.out.next k2) ⟨(valB xk xn xs).toArray⟩ (by omega) (Nat.le_trans z1 k2.size)
        have RA := (show Hid _ from ra)
        have HE : Hid (Own w3 w.heap.size v3 (lowB (r.length : Int) :: valsB (r.take (k + 1))) ∧ Below w.heap.size w w3 ∧ fits (r.take (k + 1))) := by
          refine ⟨?_, (HB1.out.trans (k2.mono z1)).grown g3 (Nat.le_trans z1 k2.size) (fun k hk => (World.ownsRow.lt (HO1.out.next k2) k hk).1), HF.out.2 ⟨HI.out.2.2, hm⟩⟩
          rw [HT.out, HB.out]
          exact o3
        clear ra o3 g3 k2 hvl hvs hln d0 d1 d2 c0 c1 c2 A0
        go_wp2_with (first | ((with_reducible apply st_append (x := .tmp 25)); (case ho => rfl); (case hgd => rfl); (case hr => exact RA.out)))
        go_roundw
        case rel => exact ⟨k + 1, by omega, by go_num, HE.out⟩
        case measure => simp [intOf]; omega
      · have HM' : Hid (∀ w, Calls Try.prog 56 #[vv xk xn xs] w fun e w' => e = .returned (.bool false) ∧ Below w.heap.size w w') := by
          have := HM.out
          simp only [decide_eq_false hm] at this
          exact this
        clear HM
        go_wp2_with fail
        refine Calls.mono (HM'.out _) ?_; rintro e w1 ⟨rfl, k1⟩
        have HB1 : Hid (Below w.heap.size w w1) := HI.out.2.1.trans (k1.mono hwr)
        clear k1
        go_wp2_with fail
        go_ret2
        have HP : Hid (putR r = .tuple #[.string ⟨#[]⟩, .int .i64 1]) := by show putR r = _; unfold putR; rw [if_neg (fun q => HNF.out hm q.2)]
        exact ⟨by rw [HP.out]; rfl, HB1.out⟩
    · have hlti : ¬ (k : Int) < (n : Int) := by omega
      obtain rfl : k = n := by omega
      have hall : r.take k = r := List.take_of_length_le (by have := HN.out; omega)
      have HII : Hid (Own wr w.heap.size u4 (rowB r) ∧ Below w.heap.size w wr ∧ fits r) := by have := HI.out; rw [hall] at this; exact this
      obtain ⟨g, m, cc, rfl, hcv⟩ := own_str HII.out.1 (by simp [rowB])
      clear HI hall
      go_wp2_with fail
      go_ret2
      have HP : Hid (putR r = .tuple #[.string ⟨(rowB r).toArray⟩, .int .i64 0]) := by show putR r = _; unfold putR; rw [if_pos ⟨by have := HN.out; omega, HII.out.2.2⟩]
      exact ⟨by rw [HP.out]; rfl, HII.out.2.1⟩
end Go.Proofs.Ytaoboleifdgonaa
