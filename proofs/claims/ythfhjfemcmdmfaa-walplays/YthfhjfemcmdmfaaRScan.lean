/- The document's log: Scan. -/
import Derived.Test.YthfhjfemcmdmfaaRFrame
namespace Go.Proofs.Ythfhjfemcmdmfaa
open Go.ChangeShapes Go.WideShapes Go.ChangeAt Go.RowKit
set_option linter.unusedVariables false
set_option maxRecDepth 100000

/-- recOf, by how long the first record would be. -/
theorem rec_by {t : Int} {x : ByteArray} {n : Nat} (hn : endOf x = 10 + n) : recOf t x = if 10 ≤ x.size ∧ 10 + n ≤ x.size ∧ ((1 ≤ t ∧ t ≤ 2147483647) ∧ (n ≠ 0 ∧ n ≤ 1024)) ∧ frameS t.toNat (x.extract 10 (10 + n)) = x.extract 0 (10 + n) then some (x.extract 10 (10 + n)) else none := by
  unfold recOf
  rw [hn]
  by_cases h : 10 + n ≤ x.size
  · have e : (x.extract 10 (10 + n)).size = n := by simp; omega
    rw [e]
  · rw [if_neg (fun q => h q.2.1), if_neg (fun q => h q.2.1)]

set_option maxHeartbeats 4000000 in
theorem rscan_is (t : Int) (s : ByteArray) (hs : s.size ≤ 131072) (w : World) :
    Calls Try.prog 12 #[.int .i64 t, .string s] w fun e w' => ∃ v, e = .returned (.tuple #[v, .int .i64 ((scanS t s).2 : Nat)]) ∧ w'.ownsRow w.heap.size 9 1 v (scanS t s).1.length (sv (scanS t s).1) ∧ Kept (fun _ => False) w w' := by
  have HNo : Hid (∀ x w, x.size ≤ 131072 → ¬ ((1 ≤ t ∧ t ≤ 2147483647) ∧ (x.size ≠ 0 ∧ x.size ≤ 1024)) → Calls Try.prog 10 #[.int .i64 t, .string x] w fun e w' => e = .returned (.tuple #[.string ⟨#[]⟩, .int .i64 1]) ∧ w' = w) := fun x w h h2 => rframe_no t x (by omega) h2 w
  have HIs : Hid (∀ x w, (1 ≤ t ∧ t ≤ 2147483647) ∧ (x.size ≠ 0 ∧ x.size ≤ 1024) → Calls Try.prog 10 #[.int .i64 t, .string x] w fun e w' => e = .returned (.tuple #[.string (frameS t.toNat x), .int .i64 0]) ∧ Kept (fun _ => False) w w') := fun x w h => by
    have := rframe_is t.toNat x (by omega) h.2 w
    rw [show ((t.toNat : Nat) : Int) = t by omega] at this
    exact this
  go_enter Try.func12, Try.ntmps12
  go_wp2_with fail
  go_loopw [6, 7] (fun rv uv wr => ∃ (R : List ByteArray) (u f : Nat), uv = .int .i64 u ∧ u ≤ s.size ∧ 11 * R.length ≤ u ∧ s.size < f + u ∧ Hid (scanS t s = (R ++ (scanG f t s u).1, (scanG f t s u).2) ∧ wr.ownsRow w.heap.size 9 1 rv R.length (sv R) ∧ Kept (fun _ => False) w wr))
    (fun _ u _ => s.size - (intOf u).toNat)
  case atStart => exact ⟨[], 0, s.size + 1, rfl, Nat.zero_le _, Nat.zero_le _, by omega, rfl, World.ownsRow_nil w _ 9 1, Kept.refl _ w⟩
  case round =>
    obtain ⟨R, u, f, rfl, hu, hR, hf, HR⟩ := hrel
    have hui : (u : Int) ≤ (s.size : Int) := by omega
    obtain ⟨e0, ow, kw⟩ := HR.out
    have HE : Hid (scanS t s = (R ++ (scanG f t s u).1, (scanG f t s u).2)) := e0
    have HK : Hid (Kept (fun _ => False) w wr) := kw
    have HO := (show Hid _ from ow)
    clear HR e0 ow kw
    have HEnd : Hid (recOf t (s.extract u s.size) = none → ∀ wx, Kept (fun _ => False) wr wx → scanS t s = (R, u) ∧ wx.ownsRow w.heap.size 9 1 u6 R.length (sv R) ∧ Kept (fun _ => False) w wx) := fun hn wx kx =>
      ⟨by rw [HE.out, scanG_none f t s u hn, List.append_nil], ownsRow_kept HO.out (fun i hi => kx.block i (World.ownsRow.lt HO.out i hi).2 (fun q => q)), HK.out.trans kx (fun _ q => .inl q)⟩
    obtain ⟨x, hx⟩ : ∃ x, s.extract u s.size = x := ⟨_, rfl⟩
    have hxs : x.size = s.size - u := by rw [← hx]; simp
    rw [hx] at HEnd
    have HXE := (show Hid _ from hx)
    by_cases h10 : 10 < s.size - u
    · have h10i : (10 : Int) < (s.size : Int) - (u : Int) := by omega
      have hx10 : 10 ≤ x.size := by omega
      obtain ⟨e9, hE1, hE2⟩ := len_bytes x hx10
      obtain ⟨n, hn⟩ : ∃ n, endOf x = 10 + n := ⟨endOf x - 10, by omega⟩
      rw [hn, show 10 + n - 10 = n by omega] at e9
      have HRec := (show Hid _ from rec_by (t := t) hn)
      have hn2 : n ≤ 65795 := by omega
      have h4 : (4 : Int) < (x.size : Int) := by omega
      have h5 : (5 : Int) < (x.size : Int) := by omega
      have hxl : x.size ≤ 131072 := by omega
      have HXS := (show Hid _ from hxs)
      clear hE1 hE2 hn hx hxs
      go_wp2_with fail
      rw [HXE.out]
      refine wp_region_still_lit (by kernel_rfl) (by kernel_rfl) ?_
      rw [show ({ wr with drawn := wr.drawn + 1 } : World) = wr.drew from rfl]
      iterate 9 still_step
      refine wpStill_nil ?_
      have HKD : Hid (Kept (fun _ => False) wr wr.drew) := (Kept.refl _ wr).drew
      generalize wr.drew = wd at *
      clear e9
      by_cases c1 : n = 0
      · have HN := (show Hid _ from HEnd.out (by rw [HRec.out, if_neg (fun q => q.2.2.1.2.1 c1)]) wd HKD.out)
        subst c1
        go_wp2_with fail
        go_ret2
        obtain ⟨n1, n2, n3⟩ := HN.out
        rw [n1]
        exact ⟨u6, rfl, n2, n3⟩
      · have c1i : ((n : Int) == 0) = false := by simp; omega
        by_cases c2 : 1024 < n
        · have c2i : 1024 < (n : Int) := by omega
          have HN := (show Hid _ from HEnd.out (by rw [HRec.out, if_neg (fun q => by have := q.2.2.1.2.2; omega)]) wd HKD.out)
          go_wp2_with fail
          go_ret2
          obtain ⟨n1, n2, n3⟩ := HN.out
          rw [n1]
          exact ⟨u6, rfl, n2, n3⟩
        · have c2i : ¬ 1024 < (n : Int) := by omega
          by_cases c3 : x.size < 10 + n
          · have c3i : (x.size : Int) - 10 < (n : Int) := by omega
            have HN := (show Hid _ from HEnd.out (by rw [HRec.out, if_neg (fun q => by have := q.2.1; omega)]) wd HKD.out)
            go_wp2_with fail
            go_ret2
            obtain ⟨n1, n2, n3⟩ := HN.out
            rw [n1]
            exact ⟨u6, rfl, n2, n3⟩
          · have c3i : ¬ (x.size : Int) - 10 < (n : Int) := by omega
            have c4i : (10 : Int) + (n : Int) ≤ (x.size : Int) := by omega
            have c5i : (10 : Int) ≤ 10 + (n : Int) := by omega
            have hrs : (x.extract 10 (10 + n)).size = n := by simp; omega
            by_cases ht : 1 ≤ t ∧ t ≤ 2147483647
            · have HF := (show Hid _ from HIs.out (x.extract 10 (10 + n)) wd ⟨ht, by omega, by omega⟩)
              obtain ⟨fr, hfr⟩ : ∃ fr, frameS t.toNat (x.extract 10 (10 + n)) = fr := ⟨_, rfl⟩
              rw [hfr] at HF HRec
              clear hfr
              go_wp2_with fail
              refine Calls.mono HF.out ?_; rintro e w2 ⟨rfl, k2⟩
              have HK2 : Hid (Kept (fun _ => False) wr w2) := HKD.out.trans k2 (fun _ z => .inl z)
              clear k2 HF
              by_cases hf : fr = x.extract 0 (10 + n)
              · rw [if_pos ⟨by omega, by omega, ⟨ht, by omega, by omega⟩, hf⟩] at HRec
                subst hf
                obtain ⟨f', rfl⟩ : ∃ f', f = f' + 1 := ⟨f - 1, by omega⟩
                have HS : Hid (scanG (f' + 1) t s u = (x.extract 10 (10 + n) :: (scanG f' t s (u + (10 + n))).1, (scanG f' t s (u + (10 + n))).2)) := by
                  show scanG (f' + 1) t s u = _
                  rw [scanG, HXE.out, HRec.out]
                  simp only [hrs]
                have HO2 : Hid (w2.ownsRow w.heap.size 9 1 u6 R.length (sv R) ∧ Kept (fun _ => False) w w2) := ⟨ownsRow_kept HO.out (fun i hi => HK2.out.block i (World.ownsRow.lt HO.out i hi).2 (fun q => q)), HK.out.trans HK2.out (fun _ q => .inl q)⟩
                obtain ⟨v2, W2, ra, oa, ga⟩ := append_one HO2.out.1 (x.extract 10 (10 + n)) (by omega) HO2.out.2.size
                have HA : Hid (W2.ownsRow w.heap.size 9 1 v2 (R ++ [x.extract 10 (10 + n)]).length (sv (R ++ [x.extract 10 (10 + n)])) ∧ Kept (fun _ => False) w W2) := ⟨oa, (HO2.out.2.alloc _).grown ga (fun k hk => .inr (World.ownsRow.lt HO2.out.1 k hk).1)⟩
                have RA := (show Hid _ from ra)
                have hfit : u + (10 + n) ≤ s.size := by have := HXS.out; omega
                clear ra oa ga HO2 HO HEnd HRec hrs
                go_wp2_with (first | ((with_reducible apply st_append (x := .tmp 60)); (case ho => rfl); (case hgd => rfl); (case hr => exact RA.out)))
                go_roundw
                case rel =>
                  refine ⟨R ++ [x.extract 10 (10 + n)], u + (10 + n), f', by go_num, by omega, by simp; omega, by omega, ?_, HA.out⟩
                  rw [HE.out, HS.out, List.append_assoc]
                  rfl
                case measure => simp [intOf]; omega
              · have hfb : (fr.toList == (x.extract 0 (10 + n)).toList) = false := by rw [beq_bytes, decide_eq_false hf]
                have HN := (show Hid _ from HEnd.out (by rw [HRec.out, if_neg (fun q => hf q.2.2.2)]) w2 HK2.out)
                go_wp2_with fail
                go_ret2
                obtain ⟨n1, n2, n3⟩ := HN.out
                rw [n1]
                exact ⟨u6, rfl, n2, n3⟩
            · have HF := (show Hid _ from HNo.out (x.extract 10 (10 + n)) wd (by omega) (fun q => ht q.1))
              have HN := (show Hid _ from HEnd.out (by rw [HRec.out, if_neg (fun q => ht q.2.2.1.1)]) wd HKD.out)
              go_wp2_with fail
              refine Calls.mono HF.out ?_; rintro e w2 ⟨rfl, rfl⟩
              go_wp2_with fail
              go_ret2
              obtain ⟨n1, n2, n3⟩ := HN.out
              rw [n1]
              exact ⟨u6, rfl, n2, n3⟩
    · have h10i : ¬ (10 : Int) < (s.size : Int) - (u : Int) := by omega
      have hnone : recOf t x = none := by
        by_cases h9 : 10 ≤ x.size
        · obtain ⟨_, hE1, _⟩ := len_bytes x h9
          obtain ⟨n, hn⟩ : ∃ n, endOf x = 10 + n := ⟨endOf x - 10, by omega⟩
          rw [rec_by hn, if_neg (fun q => by omega)]
        · exact rec_none (fun q => by omega)
      have HN := (show Hid _ from HEnd.out hnone wr (Kept.refl _ wr))
      clear hnone hx
      go_wp2_with fail
      go_ret2
      obtain ⟨n1, n2, n3⟩ := HN.out
      rw [n1]
      exact ⟨u6, rfl, n2, n3⟩
end Go.Proofs.Ythfhjfemcmdmfaa
