/- BtreePlays. -/
import Derived.Test.YtgebionlkmjfnaaActs
import Derived.Test.YtgebionlkmjfnaaSam
namespace Go.Proofs.Ytgebionlkmjfnaa
open Go.ChangeShapes Go.WideShapes Go.RowKit
set_option linter.unusedVariables false
set_option maxRecDepth 100000

set_option maxHeartbeats 8000000 in
theorem plays_is (aa : Option Addr) (len cc : Nat) (L : List Atn) (hL : L.length = len) (w : World) (hr : Rw acv 3 w aa L) :
    Calls Try.prog 3 #[.slice aa len cc] w fun e w' => e = .returned (.bool true) ∧ Below w.heap.size w w' := by
  have HR : Hid (L.length = len ∧ Rw acv 3 w aa L) := ⟨hL, hr⟩
  have HAW : Hid _ := awake_is
  clear hL hr
  obtain ⟨w0, hw0⟩ : ∃ w0, w.alloc (.cells #[.pointer none, .int .i64 0] 25) = w0 := ⟨_, rfl⟩
  have HI0 : Hid (BoxH w0 w.heap.size none (([] : List Itm).length : Int) ∧ TreeV w0 none (([] : List Itm).length : Int) [] ∧ Sl itv 2 w0 (.slice none ([] : List Itm).length 0) [] ∧ Below w.heap.size w w0 ∧ ([] : List Itm).length ≤ 0) := by
    show _ ∧ _
    rw [← hw0]
    exact ⟨BoxH.at _ _ rfl, TreeV.none _, Sl.nil _ _ _, below1 _ _, Nat.le_refl _⟩
  have HW0 : Hid _ := hw0
  clear hw0
  go_enter Try.func3, Try.ntmps3
  go_wp2_with fail
  rw [HW0.out]
  go_loopw [4, 5] (fun v4 v5 wr => ∃ (j : Nat) (a : Option Addr) (c : Nat) (l : List Itm) (p : Option Addr), j ≤ 150 ∧ v4 = .slice a l.length c ∧ v5 = .int .i64 j ∧ Hid (BoxH wr w.heap.size p (l.length : Int) ∧ TreeV wr p (l.length : Int) l ∧ Sl itv 2 wr (.slice a l.length c) l ∧ Below w.heap.size w wr ∧ l.length ≤ j))
    (fun _ vi _ => 150 - (intOf vi).toNat)
  case atStart => exact ⟨0, none, 0, [], none, by omega, rfl, rfl, HI0.out⟩
  case round =>
    clear HI0 HW0
    obtain ⟨j, a, c, l, p, hj, rfl, rfl, HI⟩ := hrel
    by_cases hlt : j < len
    · have hlti : (j : Int) < (len : Int) := by omega
      by_cases h150 : j < 150
      · have h150i : (j : Int) < 150 := by omega
        obtain ⟨ab, ao, ha, hab, y0, y1, y2⟩ := HR.out.2.act (i := j) (by rw [HR.out.1]; exact hlt)
        subst ha
        have hB := HI.out.2.2.2.1
        have z0 := (hB.cell (p := ⟨ab, ao + j * 3, none⟩) hab).trans y0
        have z1 := (hB.cell (p := ⟨ab, ao + j * 3 + 1, none⟩) hab).trans y1
        have z2 := (hB.cell (p := ⟨ab, ao + j * 3 + 2, none⟩) hab).trans y2
        generalize L[j]'(by rw [HR.out.1]; exact hlt) = x at *
        clear y0 y1 y2 hB
        go_upto_region 7 with fail
        obtain ⟨w6, hw6⟩ : ∃ w6, wr.alloc (.cells #[.int .i64 x.kd, .int .i64 x.k, .string x.s] 28) = w6 := ⟨_, rfl⟩
        obtain ⟨gb, hgb⟩ : ∃ gb, wr.heap.size = gb := ⟨_, rfl⟩
        have HI6 : Hid ((BoxH w6 w.heap.size p (l.length : Int) ∧ TreeV w6 p (l.length : Int) l ∧ Sl itv 2 w6 (.slice a l.length c) l ∧ Below w.heap.size w w6 ∧ l.length ≤ j) ∧ CellsF w6 gb [.int .i64 x.kd, .int .i64 x.k, .string x.s] ∧ gb ≠ w.heap.size) := by
          have hI := HI.out
          show _ ∧ _
          rw [← hw6, ← hgb]
          exact ⟨⟨hI.1.next (below1 _ _), hI.2.1.next (below1 _ _), hI.2.2.1.next itv_ne (below1 _ _), Below.next hI.2.2.2.1 (below1 _ _), hI.2.2.2.2⟩, CellsF.at _ 28 (by simp) rfl, by have := hI.1.cells.lt; omega⟩
        rw [hw6, hgb]
        clear hw6 hgb HI z0 z1 z2
        have x0 := HI6.out.2.1.cs 0 _ rfl
        go_cut [28] (fun s28 wx => s28 = .int .i64 x.kd ∧ w6 = wx)
        case first =>
          go_wp2_with fail
          go_meet
          exact ⟨rfl, rfl⟩
        obtain ⟨rfl, rfl⟩ := hcut
        clear x0
        rename_i hK0
        refine hK0 _ _ ?_
        clear hK0
        go_cut [4, 28] (fun s4 s28 wx => ∃ (a' : Option Addr) (c' : Nat) (l' : List Itm) (p' : Option Addr), s4 = .slice a' l'.length c' ∧ Hid ((BoxH wx w.heap.size p' (l'.length : Int) ∧ TreeV wx p' (l'.length : Int) l' ∧ Sl itv 2 wx (.slice a' l'.length c') l' ∧ Below w.heap.size w wx ∧ l'.length ≤ j + 1) ∧ CellsF wx gb [.int .i64 x.kd, .int .i64 x.k, .string x.s]))
        case first =>
          have x0 := HI6.out.2.1.cs 0 _ rfl
          have x1 := HI6.out.2.1.cs 1 _ rfl
          have x2 := HI6.out.2.1.cs 2 _ rfl
          have b0 := HI6.out.1.1.c0
          have b1 := HI6.out.1.1.c1
          have hlj : l.length ≤ j := HI6.out.1.2.2.2.2
          by_cases hk1 : x.kd = 1
          · have hk1b : (x.kd == 1) = true := by simpa using hk1
            have HC7 : Hid (Calls Try.prog 7 #[.agg #[.pointer p, .int .i64 (l.length : Int)], .int .i64 x.k, .string x.s] w6 fun e w' => ∃ p' n', e = .returned (.agg #[.pointer p', .int .i64 n']) ∧ Below w6.heap.size w6 w' ∧ TreeV w' p' n' (insL l x.k x.s)) := With_is p _ l x.k x.s w6 (by omega) HI6.out.1.2.1
            go_wp2_with fail
            refine Calls.mono HC7.out ?_; rintro e w7 ⟨p7, n7, rfl, k7, t7⟩
            have hn7 : n7 = ((insL l x.k x.s).length : Int) := t7.1
            subst hn7
            obtain ⟨w8, hw8, q1, q2, q3, q4, q5⟩ := box_put (HI6.out.1.1.next k7) p7 ((insL l x.k x.s).length : Int)
            have HI8 : Hid (BoxH w8 w.heap.size p7 ((insL l x.k x.s).length : Int) ∧ TreeV w8 p7 ((insL l x.k x.s).length : Int) (insL l x.k x.s) ∧ Sl itv 2 w8 (.slice a l.length c) l ∧ Below w.heap.size w w8 ∧ CellsF w8 gb [.int .i64 x.kd, .int .i64 x.k, .string x.s]) := ⟨q1, q2 _ _ _ t7, q3 _ _ (HI6.out.1.2.2.1.next itv_ne k7), q5 _ _ (Nat.le_refl _) (Below.next HI6.out.1.2.2.2.1 k7), q4 _ _ HI6.out.2.2 (HI6.out.2.1.next k7)⟩
            have HC8 : Hid (Calls Try.prog 8 #[.slice a l.length c, .agg #[.int .i64 x.k, .string x.s]] w8 fun e w' => ∃ v', e = .returned v' ∧ Below w8.heap.size w8 w' ∧ Sl itv 2 w' v' (insL l x.k x.s)) := lwith_is a c l x.k x.s w8 HI8.out.2.2.1 HI6.out.1.2.1.2.1 (by omega)
            have HW8 : Hid _ := hw8
            have f0 := (HI6.out.1.1.next k7).c0
            have f1 := (HI6.out.1.1.next k7).c1
            have f2 := (HI6.out.1.1.next k7).fz 0
            have f3 := (HI6.out.1.1.next k7).fz 1
            clear hw8 q1 q2 q3 q4 q5 x0 x1 x2 b0 b1 HC7
            go_upto_region 10 with fail
            rw [HW8.out]
            clear f0 f1 f2 f3 HW8
            have x1 := HI8.out.2.2.2.2.cs 1 _ rfl
            have x2 := HI8.out.2.2.2.2.cs 2 _ rfl
            go_wp2_with fail
            refine Calls.mono HC8.out ?_; rintro e w9 ⟨v9, rfl, k9, s9⟩
            obtain ⟨a9, c9, r9⟩ := slices_shape s9
            subst r9
            have HI9 : Hid ((BoxH w9 w.heap.size p7 ((insL l x.k x.s).length : Int) ∧ TreeV w9 p7 ((insL l x.k x.s).length : Int) (insL l x.k x.s) ∧ Sl itv 2 w9 (.slice a9 (insL l x.k x.s).length c9) (insL l x.k x.s) ∧ Below w.heap.size w w9 ∧ (insL l x.k x.s).length ≤ j + 1) ∧ CellsF w9 gb [.int .i64 x.kd, .int .i64 x.k, .string x.s]) := ⟨⟨HI8.out.1.next k9, HI8.out.2.1.next k9, s9, Below.next HI8.out.2.2.2.1 k9, by have := insL_le l x.k x.s; omega⟩, HI8.out.2.2.2.2.next k9⟩
            clear k9 s9 HC8 x1 x2
            go_wp2_with fail
            go_meet
            exact ⟨a9, c9, _, p7, rfl, HI9.out⟩
          · have hk1b : (x.kd == 1) = false := by simpa using hk1
            by_cases hk2 : x.kd = 2
            · have hk2b : (x.kd == 2) = true := by simpa using hk2
              have HC7 : Hid (Calls Try.prog 9 #[.agg #[.pointer p, .int .i64 (l.length : Int)], .int .i64 x.k] w6 fun e w' => ∃ p' n', e = .returned (.agg #[.pointer p', .int .i64 n']) ∧ Below w6.heap.size w6 w' ∧ TreeV w' p' n' (delL l x.k)) := Without_is p _ l x.k w6 (by omega) HI6.out.1.2.1
              go_wp2_with fail
              refine Calls.mono HC7.out ?_; rintro e w7 ⟨p7, n7, rfl, k7, t7⟩
              have hn7 : n7 = ((delL l x.k).length : Int) := t7.1
              subst hn7
              obtain ⟨w8, hw8, q1, q2, q3, q4, q5⟩ := box_put (HI6.out.1.1.next k7) p7 ((delL l x.k).length : Int)
              have HI8 : Hid (BoxH w8 w.heap.size p7 ((delL l x.k).length : Int) ∧ TreeV w8 p7 ((delL l x.k).length : Int) (delL l x.k) ∧ Sl itv 2 w8 (.slice a l.length c) l ∧ Below w.heap.size w w8 ∧ CellsF w8 gb [.int .i64 x.kd, .int .i64 x.k, .string x.s]) := ⟨q1, q2 _ _ _ t7, q3 _ _ (HI6.out.1.2.2.1.next itv_ne k7), q5 _ _ (Nat.le_refl _) (Below.next HI6.out.1.2.2.2.1 k7), q4 _ _ HI6.out.2.2 (HI6.out.2.1.next k7)⟩
              have HC8 : Hid (Calls Try.prog 10 #[.slice a l.length c, .int .i64 x.k] w8 fun e w' => ∃ v', e = .returned v' ∧ Below w8.heap.size w8 w' ∧ Sl itv 2 w' v' (delL l x.k)) := (lwithout_is a c l x.k w8 HI8.out.2.2.1 (by omega)).mono fun e w' ⟨v', r1, r2⟩ => ⟨v', r1, r2.bel, r2.sl⟩
              have HW8 : Hid _ := hw8
              have f0 := (HI6.out.1.1.next k7).c0
              have f1 := (HI6.out.1.1.next k7).c1
              have f2 := (HI6.out.1.1.next k7).fz 0
              have f3 := (HI6.out.1.1.next k7).fz 1
              clear hw8 q1 q2 q3 q4 q5 x0 x1 x2 b0 b1 HC7
              go_upto_region 13 with fail
              rw [HW8.out]
              clear f0 f1 f2 f3 HW8
              have x1 := HI8.out.2.2.2.2.cs 1 _ rfl
              have x2 := HI8.out.2.2.2.2.cs 2 _ rfl
              go_wp2_with fail
              refine Calls.mono HC8.out ?_; rintro e w9 ⟨v9, rfl, k9, s9⟩
              obtain ⟨a9, c9, r9⟩ := slices_shape s9
              subst r9
              have HI9 : Hid ((BoxH w9 w.heap.size p7 ((delL l x.k).length : Int) ∧ TreeV w9 p7 ((delL l x.k).length : Int) (delL l x.k) ∧ Sl itv 2 w9 (.slice a9 (delL l x.k).length c9) (delL l x.k) ∧ Below w.heap.size w w9 ∧ (delL l x.k).length ≤ j + 1) ∧ CellsF w9 gb [.int .i64 x.kd, .int .i64 x.k, .string x.s]) := ⟨⟨HI8.out.1.next k9, HI8.out.2.1.next k9, s9, Below.next HI8.out.2.2.2.1 k9, by have := delL_le l x.k; omega⟩, HI8.out.2.2.2.2.next k9⟩
              clear k9 s9 HC8 x1 x2
              go_wp2_with fail
              go_meet
              exact ⟨a9, c9, _, p7, rfl, HI9.out⟩
            · have hk2b : (x.kd == 2) = false := by simpa using hk2
              have HI9 : Hid ((BoxH w6 w.heap.size p (l.length : Int) ∧ TreeV w6 p (l.length : Int) l ∧ Sl itv 2 w6 (.slice a l.length c) l ∧ Below w.heap.size w w6 ∧ l.length ≤ j + 1) ∧ CellsF w6 gb [.int .i64 x.kd, .int .i64 x.k, .string x.s]) := ⟨⟨HI6.out.1.1, HI6.out.1.2.1, HI6.out.1.2.2.1, HI6.out.1.2.2.2.1, by omega⟩, HI6.out.2.1⟩
              clear x0 x1 x2 b0 b1
              go_wp2_with fail
              go_meet
              exact ⟨a, c, _, p, rfl, HI9.out⟩
        case rest =>
          obtain ⟨a', c', l', p', rfl, HI9⟩ := hcut
          clear HI6
          generalize hwd : wc = wd at *
          clear hwd
          have HSO : Hid (Sorted l' ∧ l'.length ≤ j + 1) := ⟨HI9.out.1.2.1.2.1, HI9.out.1.2.2.2.2⟩
          obtain ⟨S, hS⟩ : ∃ S, gotV (getL l' x.k) = S := ⟨_, rfl⟩
          obtain ⟨f, hf⟩ : ∃ f, (getL l' x.k).isSome = f := ⟨_, rfl⟩
          have HSF : Hid (gotV (getL l' x.k) = S ∧ (getL l' x.k).isSome = f) := ⟨hS, hf⟩
          have HGT : Hid (Calls Try.prog 11 #[.agg #[.pointer p', .int .i64 (l'.length : Int)], .int .i64 x.k] wd fun e w' => e = .returned (.tuple #[.string S, .bool f]) ∧ Below wd.heap.size wd w') := by
            have := get_is p' _ l' x.k wd HI9.out.1.2.1
            rw [hS, hf] at this
            exact this
          clear hS hf
          have x1 := HI9.out.2.cs 1 _ rfl
          have b0 := HI9.out.1.1.c0
          have b1 := HI9.out.1.1.c1
          go_wp2_with fail
          refine Calls.mono HGT.out ?_; rintro e w10 ⟨rfl, k10⟩
          have HI10 : Hid ((BoxH w10 w.heap.size p' (l'.length : Int) ∧ TreeV w10 p' (l'.length : Int) l' ∧ Sl itv 2 w10 (.slice a' l'.length c') l' ∧ Below w.heap.size w w10 ∧ l'.length ≤ j + 1) ∧ CellsF w10 gb [.int .i64 x.kd, .int .i64 x.k, .string x.s]) := ⟨⟨HI9.out.1.1.next k10, HI9.out.1.2.1.next k10, HI9.out.1.2.2.1.next itv_ne k10, Below.next HI9.out.1.2.2.2.1 k10, HI9.out.1.2.2.2.2⟩, HI9.out.2.next k10⟩
          clear HGT x1 b0 b1 k10 HI9
          go_wp2_with fail
          go_loopw [9, 10, 11] (fun v9 v10 v11 wr' => ∃ (q : Nat), q ≤ l'.length ∧ v9 = .string (gotV (getL (l'.take q) x.k)) ∧ v10 = .bool (getL (l'.take q) x.k).isSome ∧ v11 = .int .i64 q ∧ Hid (Below w10.heap.size w10 wr'))
            (fun _ _ vi _ => l'.length - (intOf vi).toNat)
          case atStart => exact ⟨0, Nat.zero_le _, rfl, rfl, rfl, Below.refl _ _⟩
          case round =>
            obtain ⟨q, hq, rfl, rfl, rfl, HQ⟩ := hrel
            have hq151 : l'.length ≤ 151 := by have := HSO.out.2; omega
            by_cases hql : q < l'.length
            · have hqi : (q : Int) < (l'.length : Int) := by omega
              obtain ⟨yb, yo, yc, hsv, hyc, hyb, hyt⟩ := (HI10.out.1.2.2.1.next itv_ne HQ.out).itm (fun e => by rw [e] at hql; simp at hql)
              cases hsv
              obtain ⟨y0, y1⟩ := hyt q hql
              have x1 := (HI10.out.2.next HQ.out).cs 1 _ rfl
              have hst := getL_step HSO.out.1 hql x.k
              generalize l'[q] = y at *
              clear hyt
              by_cases hyk : y.1 = x.k
              · rw [if_pos hyk] at hst
                have hykb : (y.1 == x.k) = true := by simpa using hyk
                have HST : Hid (getL (l'.take (q + 1)) x.k = some y.2) := hst
                clear hst hyk
                go_wp2_with fail
                go_quiet (fail)
                have HQ' : Hid (Below w10.heap.size w10 (wr.drewN nq)) := below_drewN HQ.out nq
                go_wp2_with fail
                go_roundw
                case rel => exact ⟨q + 1, by omega, by rw [HST.out]; rfl, by rw [HST.out]; rfl, by go_num, HQ'.out⟩
                case measure => simp [intOf]; omega
              · rw [if_neg hyk] at hst
                have hykb : (y.1 == x.k) = false := by simpa using hyk
                have HST : Hid (getL (l'.take (q + 1)) x.k = getL (l'.take q) x.k) := hst
                clear hst hyk
                go_wp2_with fail
                go_quiet (fail)
                have HQ' : Hid (Below w10.heap.size w10 (wr.drewN nq)) := below_drewN HQ.out nq
                go_wp2_with fail
                go_roundw
                case rel => exact ⟨q + 1, by omega, by rw [HST.out], by rw [HST.out], by go_num, HQ'.out⟩
                case measure => simp [intOf]; omega
            · have hqi : ¬ (q : Int) < (l'.length : Int) := by omega
              rw [List.take_of_length_le (by omega), HSF.out.1, HSF.out.2]
              generalize hwe : wr = we at *
              clear hwe
              have HI11 : Hid (BoxH we w.heap.size p' (l'.length : Int) ∧ TreeV we p' (l'.length : Int) l' ∧ Sl itv 2 we (.slice a' l'.length c') l' ∧ Below w.heap.size w we ∧ l'.length ≤ j + 1) := ⟨HI10.out.1.1.next HQ.out, HI10.out.1.2.1.next HQ.out, HI10.out.1.2.2.1.next itv_ne HQ.out, Below.next HI10.out.1.2.2.2.1 HQ.out, HI10.out.1.2.2.2.2⟩
              have hss : (S.toList == S.toList) = true := by simp
              have hff : (f == f) = true := by simp
              have b0 := HI11.out.1.c0
              have b1 := HI11.out.1.c1
              have HLN : Hid _ := len_is
              clear HQ HI10
              go_wp2_with fail
              refine Calls.mono (HLN.out _ _ _) ?_; rintro e w12 ⟨rfl, k12⟩
              have HI12 : Hid (BoxH w12 w.heap.size p' (l'.length : Int) ∧ TreeV w12 p' (l'.length : Int) l' ∧ Sl itv 2 w12 (.slice a' l'.length c') l' ∧ Below w.heap.size w w12 ∧ l'.length ≤ j + 1) := ⟨HI11.out.1.next k12, HI11.out.2.1.next k12, HI11.out.2.2.1.next itv_ne k12, Below.next HI11.out.2.2.2.1 k12, HI11.out.2.2.2.2⟩
              have HDP : Hid (Calls Try.prog 13 #[.agg #[.pointer p', .int .i64 (l'.length : Int)]] w12 fun e w' => e = .returned (.bool true) ∧ Below w12.heap.size w12 w') := ldeep_is p' _ l' w12 (by have := HSO.out.2; omega) HI12.out.2.1
              clear b0 b1 k12 HI11 HLN
              have b0 := HI12.out.1.c0
              have b1 := HI12.out.1.c1
              go_wp2_with fail
              refine Calls.mono HDP.out ?_; rintro e w13 ⟨rfl, k13⟩
              have HI13 : Hid (BoxH w13 w.heap.size p' (l'.length : Int) ∧ TreeV w13 p' (l'.length : Int) l' ∧ Sl itv 2 w13 (.slice a' l'.length c') l' ∧ Below w.heap.size w w13 ∧ l'.length ≤ j + 1) := ⟨HI12.out.1.next k13, HI12.out.2.1.next k13, HI12.out.2.2.1.next itv_ne k13, Below.next HI12.out.2.2.2.1 k13, HI12.out.2.2.2.2⟩
              clear b0 b1 k13 HI12 HDP
              go_wp2_with fail
              go_roundw
              case rel => exact ⟨j + 1, a', c', l', p', by omega, rfl, by go_num, HI13.out⟩
              case measure => simp [intOf]; omega
      · have h150i : ¬ (j : Int) < 150 := by omega
        go_wp2_with fail
        refine Calls.mono (HAW.out _) ?_; rintro e w1 ⟨rfl, k1⟩
        have HI1 : Hid (BoxH w1 w.heap.size p (l.length : Int) ∧ TreeV w1 p (l.length : Int) l ∧ Sl itv 2 w1 (.slice a l.length c) l ∧ Below w.heap.size w w1) := ⟨HI.out.1.next k1, HI.out.2.1.next k1, HI.out.2.2.1.next itv_ne k1, Below.next HI.out.2.2.2.1 k1⟩
        have x0 := HI1.out.1.c0
        have x1 := HI1.out.1.c1
        have hll : l.length ≤ 1000000 := by have := HI.out.2.2.2.2; omega
        have HSM : Hid (Calls Try.prog 15 #[.agg #[.pointer p, .int .i64 (l.length : Int)], .slice a l.length c] w1 fun e w' => e = .returned (.bool true) ∧ Below w1.heap.size w1 w') := same_is p _ l a c w1 HI1.out.2.1 HI1.out.2.2.1 hll
        clear k1 HI
        go_wp2_with fail
        refine Calls.mono HSM.out ?_; rintro e w2 ⟨rfl, k2⟩
        have HB2 : Hid (Below w.heap.size w w2) := Below.next HI1.out.2.2.2 k2
        clear k2 HSM HI1
        go_wp2_with fail
        go_ret
        exact ⟨rfl, HB2.out⟩
    · have hlti : ¬ (j : Int) < (len : Int) := by omega
      go_wp2_with fail
      refine Calls.mono (HAW.out _) ?_; rintro e w1 ⟨rfl, k1⟩
      have HI1 : Hid (BoxH w1 w.heap.size p (l.length : Int) ∧ TreeV w1 p (l.length : Int) l ∧ Sl itv 2 w1 (.slice a l.length c) l ∧ Below w.heap.size w w1) := ⟨HI.out.1.next k1, HI.out.2.1.next k1, HI.out.2.2.1.next itv_ne k1, Below.next HI.out.2.2.2.1 k1⟩
      have x0 := HI1.out.1.c0
      have x1 := HI1.out.1.c1
      have hll : l.length ≤ 1000000 := by have := HI.out.2.2.2.2; omega
      have HSM : Hid (Calls Try.prog 15 #[.agg #[.pointer p, .int .i64 (l.length : Int)], .slice a l.length c] w1 fun e w' => e = .returned (.bool true) ∧ Below w1.heap.size w1 w') := same_is p _ l a c w1 HI1.out.2.1 HI1.out.2.2.1 hll
      clear k1 HI
      go_wp2_with fail
      refine Calls.mono HSM.out ?_; rintro e w2 ⟨rfl, k2⟩
      have HB2 : Hid (Below w.heap.size w w2) := Below.next HI1.out.2.2.2 k2
      clear k2 HSM HI1
      go_wp2_with fail
      go_ret
      exact ⟨rfl, HB2.out⟩
end Go.Proofs.Ytgebionlkmjfnaa
