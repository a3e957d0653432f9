/- BtreeFrom. -/
import Derived.Test.YtgebionlkmjfnaaFrm
import Derived.Test.YtgebionlkmjfnaaStay
import Derived.Deep.CutBlock
namespace Go.Proofs.Ytgebionlkmjfnaa
open Go.ChangeShapes Go.WideShapes Go.RowKit
set_option linter.unusedVariables false
set_option maxRecDepth 100000

open Go.Shelf
attribute [local go_sem] Oper.semAt_some

/-- The law's boxes and its tree. -/
structure Fr (w wr : World) (n : Int) (p : Option Addr) (l : List Itm) : Prop where
  b5 : CellsF wr (w.heap.size) [.int .i64 n]
  b6 : CellsF wr (w.heap.size + 1) [.bool false]
  bx : BoxH wr (w.heap.size + 1 + 1) p (l.length : Int)
  tr : TreeV wr p (l.length : Int) l
  bel : Below w.heap.size w wr
theorem wp_only {P : Program} {c : Code} {J K : Act → World → Prop} {Q' : Exit → Act → World → Prop} {a : Act} {w : World} (h : c.wp P (Exit.then J (fun _ _ _ => False)) a w) (hJ : ∀ a' w', J a' w' → K a' w') : c.wp P (Exit.then K Q') a w := (wpIn_wide (n := 7)).1 (wpIn_only (wpIn_wide.2 h) hJ)
theorem wp_normal {P : Program} {c : Code} {Q : Exit → Act → World → Prop} {a : Act} {w : World} (h : c.wp P (Exit.then (fun a w => Q .normal a w) (fun _ _ _ => False)) a w) : c.wp P Q a w := by
  refine (wpIn_wide (n := 7)).1 (wpIn_mono (wpIn_wide.2 h) ?_)
  intro e a' w' hq
  cases e with
  | normal => exact hq
  | exit id => exact (show False from hq).elim
  | goto l => exact (show False from hq).elim
  | ret => exact (show False from hq).elim
  | panic ch => exact (show False from hq).elim
  | outgrown => exact (show False from hq).elim
theorem Fr.next {w wr wr' : World} {n : Int} {p : Option Addr} {l : List Itm} (h : Fr w wr n p l) (q : Below wr.heap.size wr wr') : Fr w wr' n p l :=
  ⟨h.b5.next q, h.b6.next q, h.bx.next q, h.tr.next q, Below.next h.bel q⟩
set_option maxHeartbeats 8000000 in
theorem from_law (aa : Option Addr) (len cc : Nat) (M : List Int) (hM : M.length = len) (key n : Int) (w : World) (hm : Rw inv1 1 w aa M) :
    Calls Try.prog 5 #[.slice aa len cc, .int .i64 key, .int .i64 n] w fun e w' => e = .returned (.bool true) ∧ Below w.heap.size w w' := by
  refine (callsIn_wide (n := 7)).1 ?_
  have HR : Hid (M.length = len ∧ Rw inv1 1 w aa M) := ⟨hM, hm⟩
  have HAW : Hid _ := awake_is
  clear hM hm
  obtain ⟨w0, hw0⟩ : ∃ w0, (((w.alloc (.cells #[.int .i64 n] 3)).alloc (.cells #[.bool false] 4)).alloc (.cells #[.pointer none, .int .i64 0] 25)) = w0 := ⟨_, rfl⟩
  have HI0 : Hid (Fr w w0 n none []) := by
    rw [← hw0]
    exact ⟨((CellsF.at _ 3 (by simp) rfl).next (below1 _ _)).next (below1 _ _), (CellsF.at _ 4 (by simp) (by rw [size_alloc])).next (below1 _ _), BoxH.at _ _ (by rw [size_alloc, size_alloc]), TreeV.none _, below3 _ _ _ _⟩
  have HW0 : Hid _ := hw0
  clear hw0
  refine callsIn_of_wp_marks Try.func5 rfl trivial ?_ rfl
  simp only [Try.ntmps5, List.size_toArray, List.length_cons, List.length_nil, Nat.reduceAdd, Nat.reduceSub, Array.replicate_succ, Array.replicate_zero, List.push_toArray, List.append_toArray, List.nil_append, List.cons_append]
  refine wpIn_wide.2 ?_
  go_upto_region 2 with fail
  rw [HW0.out]
  clear HW0
  go_wp2_with fail
  refine Calls.mono (HAW.out _) ?_; rintro e w1 ⟨rfl, k1⟩
  have HI1 : Hid (Fr w w1 n none []) := HI0.out.next k1
  clear k1 HI0 HAW
  go_upto_block 0 with fail
  go_cut [8] from 16 (fun s8 wx => ∃ (a : Option Addr) (c : Nat) (l : List Itm) (p : Option Addr), s8 = .slice a l.length c ∧ Hid (Fr w wx n p l ∧ Sl itv 2 wx (.slice a l.length c) l ∧ l.length ≤ 100))
  case first =>
    go_wp2_with fail
    go_loopw [8, 9] (fun v8 v9 wr => ∃ (j : Nat) (a : Option Addr) (c : Nat) (l : List Itm) (p : Option Addr), j ≤ 100 ∧ v8 = .slice a l.length c ∧ v9 = .int .i64 j ∧ Hid (Fr w wr n p l ∧ Sl itv 2 wr (.slice a l.length c) l ∧ l.length ≤ j))
      (fun _ vi _ => 100 - (intOf vi).toNat)
    case atStart => exact ⟨0, none, 0, [], none, by omega, rfl, rfl, HI1.out, Sl.nil _ _ _, Nat.le_refl _⟩
    case round =>
      obtain ⟨j, a, c, l, p, hj, rfl, rfl, HI⟩ := hrel
      clear HI1
      have HE : Hid (∃ (a' : Option Addr) (c' : Nat) (l' : List Itm) (p' : Option Addr), Value.slice a l.length c = .slice a' l'.length c' ∧ Hid (Fr w wr n p' l' ∧ Sl itv 2 wr (.slice a' l'.length c') l' ∧ l'.length ≤ 100)) := ⟨a, c, l, p, rfl, HI.out.1, HI.out.2.1, by have := HI.out.2.2; omega⟩
      by_cases hlt : j < len
      · have hlti : (j : Int) < (len : Int) := by omega
        by_cases h100 : j < 100
        · have h100i : (j : Int) < 100 := by omega
          clear HE
          obtain ⟨kb, ko, ha, hkb, y0⟩ := HR.out.2.int1 (i := j) (by rw [HR.out.1]; exact hlt)
          subst ha
          rw [Nat.mul_one] at y0
          generalize M[j]'(by rw [HR.out.1]; exact hlt) = x at *
          have HKB : Hid (∀ w', Below w.heap.size w w' → w'.cell? ⟨kb, ko + j, none⟩ = some (.int .i64 x)) := fun w' kk => (kk.cell (p := ⟨kb, ko + j, none⟩) hkb).trans y0
          have HLJ : Hid (l.length ≤ j ∧ j < 100) := ⟨HI.out.2.2, h100⟩
          have HK7 : Hid (∀ w', Below wr.heap.size wr w' → (w'.cell? ⟨w.heap.size + 1 + 1, 0, none⟩ = some (.pointer p) ∧ w'.cell? ⟨w.heap.size + 1 + 1, 1, none⟩ = some (.int .i64 (l.length : Int)) ∧ w'.cell? ⟨kb, ko + j, none⟩ = some (.int .i64 x))) := fun w' kk => ⟨(HI.out.1.bx.next kk).c0, (HI.out.1.bx.next kk).c1, HKB.out _ (Below.next HI.out.1.bel kk)⟩
          have hS0 := HK7.out wr (Below.refl _ _)
          have HK0 : Hid (wr.drew.cell? ⟨w.heap.size + 1 + 1, 0, none⟩ = some (.pointer p) ∧ wr.drew.cell? ⟨w.heap.size + 1 + 1, 1, none⟩ = some (.int .i64 (l.length : Int)) ∧ wr.drew.cell? ⟨kb, ko + j, none⟩ = some (.int .i64 x)) := HK7.out wr.drew (Below.refl _ _).drew
          have HC7 : Hid (Calls Try.prog 7 #[.agg #[.pointer p, .int .i64 (l.length : Int)], .int .i64 x, .string (⟨#[118]⟩ : ByteArray)] wr.drew fun e w7 => ∃ p7, e = .returned (.agg #[.pointer p7, .int .i64 ((insL l x (⟨#[118]⟩ : ByteArray)).length : Int)]) ∧ Hid (Below wr.heap.size wr w7 ∧ TreeV w7 p7 ((insL l x (⟨#[118]⟩ : ByteArray)).length : Int) (insL l x (⟨#[118]⟩ : ByteArray)))) := by
            refine (With_is p _ l x (⟨#[118]⟩ : ByteArray) wr.drew (by have := HLJ.out; omega) (HI.out.1.tr.next (Below.refl _ _).drew)).mono fun e w7 ⟨p7, n7, r1, r2, r3⟩ => ?_
            have hn7 : n7 = ((insL l x (⟨#[118]⟩ : ByteArray)).length : Int) := r3.1
            subst hn7
            exact ⟨p7, r1, Below.of_drew r2, r3⟩
          have HBX : Hid (∀ w' p7, Below wr.heap.size wr w' → TreeV w' p7 ((insL l x (⟨#[118]⟩ : ByteArray)).length : Int) (insL l x (⟨#[118]⟩ : ByteArray)) → ∃ w8, (w'.setCell ⟨w.heap.size + 1 + 1, 0, none⟩ (.pointer p7)).setCell ⟨w.heap.size + 1 + 1, 1, none⟩ (.int .i64 ((insL l x (⟨#[118]⟩ : ByteArray)).length : Int)) = w8 ∧ Hid (Fr w w8 n p7 (insL l x (⟨#[118]⟩ : ByteArray)) ∧ Sl itv 2 w8 (.slice a l.length c) l)) := fun w' p7 kk tt => by
            obtain ⟨w8, hw8, q1, q2, q3, q4, q5⟩ := box_put (HI.out.1.bx.next kk) p7 ((insL l x (⟨#[118]⟩ : ByteArray)).length : Int)
            exact ⟨w8, hw8, ⟨q4 _ _ (by omega) (HI.out.1.b5.next kk), q4 _ _ (by omega) (HI.out.1.b6.next kk), q1, q2 _ _ _ tt, q5 _ _ (by omega) (Below.next HI.out.1.bel kk)⟩, q3 _ _ (HI.out.2.1.next itv_ne kk)⟩
          have HFZ : Hid (∀ w', Below wr.heap.size wr w' → w'.frozen? ⟨w.heap.size + 1 + 1, 0, none⟩ = false ∧ w'.frozen? ⟨w.heap.size + 1 + 1, 1, none⟩ = false) := fun w' kk => ⟨(HI.out.1.bx.next kk).fz 0, (HI.out.1.bx.next kk).fz 1⟩
          have HSO : Hid (Sorted l) := HI.out.1.tr.2.1
          clear y0 HI h100
          go_upto_region 8 with fail
          go_cut [] from 29 to 34 (fun wx => ∃ p7, Hid (Fr w wx n p7 (insL l x (⟨#[118]⟩ : ByteArray)) ∧ Sl itv 2 wx (.slice a l.length c) l))
          case first =>
            refine wp_only ?_ (fun _ _ h => h)
            obtain ⟨e0, e1, e2⟩ := hS0
            go_region_with (first | ((with_reducible refine Calls.mono HC7.out ?_); rintro e w7 ⟨p7, rfl, HM7⟩; obtain ⟨f2, f3⟩ := HFZ.out _ HM7.out.1; obtain ⟨f0, f1, f4⟩ := HK7.out _ HM7.out.1; clear e0 e1 e2))
            all_goals (try simp only [Exit.then])
            all_goals go_wp2_with fail
            all_goals go_meet
            all_goals (obtain ⟨w8, hw8, HI8⟩ := HBX.out _ _ HM7.out.1 HM7.out.2)
            all_goals rw [hw8]
            all_goals exact ⟨_, HI8.out⟩
          obtain ⟨p7, HI8⟩ := hcut
          generalize hww : wc = w8 at *
          clear hww HBX HFZ HK7 HK0 hS0 HC7
          rename_i hK0
          refine hK0 _ _ ?_
          clear hK0
          have HC8 : Hid (Calls Try.prog 8 #[.slice a l.length c, .agg #[.int .i64 x, .string (⟨#[118]⟩ : ByteArray)]] w8 fun e w9 => ∃ a9 c9, e = .returned (.slice a9 (insL l x (⟨#[118]⟩ : ByteArray)).length c9) ∧ Hid (Fr w w9 n p7 (insL l x (⟨#[118]⟩ : ByteArray)) ∧ Sl itv 2 w9 (.slice a9 (insL l x (⟨#[118]⟩ : ByteArray)).length c9) (insL l x (⟨#[118]⟩ : ByteArray)) ∧ (insL l x (⟨#[118]⟩ : ByteArray)).length ≤ j + 1)) := by
            refine (lwith_is a c l x (⟨#[118]⟩ : ByteArray) w8 HI8.out.2 HSO.out (by have := HLJ.out; omega)).mono fun e w9 ⟨v9, r1, r2, r3⟩ => ?_
            obtain ⟨a9, c9, e9⟩ := slices_shape r3
            subst e9
            exact ⟨a9, c9, r1, HI8.out.1.next r2, r3, by have := insL_le l x (⟨#[118]⟩ : ByteArray); have := HLJ.out; omega⟩
          have y8 := HKB.out _ HI8.out.1.bel
          go_wp2_with fail
          refine Calls.mono HC8.out ?_; rintro e w9 ⟨a9, c9, rfl, HI9⟩
          clear y8 HC8 HI8
          go_wp2_with fail
          go_roundw
          case rel => exact ⟨j + 1, a9, c9, _, p7, by omega, rfl, by go_num, HI9.out⟩
          case measure => simp [intOf]; omega
        · have h100i : ¬ (j : Int) < 100 := by omega
          clear HI
          go_wp2_with fail
          go_meet
          exact HE.out
      · have hlti : ¬ (j : Int) < (len : Int) := by omega
        clear HI
        go_wp2_with fail
        go_meet
        exact HE.out
  case rest =>
    rename_i hK0
    refine hK0 _ _ ?_
    clear hK0
    obtain ⟨a, c, l, p, rfl, HI2⟩ := hcut
    clear HI1
    generalize hww : wc = wb at *
    clear hww
    obtain ⟨bw, hbw⟩ : ∃ bw, wb.heap.size = bw := ⟨_, rfl⟩
    obtain ⟨wd, hwd⟩ : ∃ wd, wb.alloc (.cells #[.slice none 0 0] 26) = wd := ⟨_, rfl⟩
    have HW3 : Hid (Wn bw (geL (l.take 0) key) wb wd (.slice none 0 0)) := by
      rw [← hwd, ← hbw]
      exact Wn.start wb
    have HWD : Hid _ := hwd
    have HBW : Hid _ := hbw
    clear hwd hbw
    go_upto_block 2 with fail
    rw [HWD.out, HBW.out]
    clear HWD
    go_cut [] from 16 (fun wx => ∃ v, Hid (Wn bw (geL l key) wb wx v))
    case first =>
      go_wp2_with fail
      go_loopw [11] (fun v11 wr => ∃ (j : Nat) (v : Value), j ≤ l.length ∧ v11 = .int .i64 j ∧ Hid (Wn bw (geL (l.take j) key) wb wr v))
        (fun vi _ => l.length - (intOf vi).toNat)
      case atStart => exact ⟨0, _, Nat.zero_le _, rfl, HW3.out⟩
      case round =>
        obtain ⟨j, v, hj, rfl, HO⟩ := hrel
        clear HW3
        have HLL : Hid (l.length ≤ 100) := HI2.out.2.2
        by_cases hlt : j < l.length
        · have hlti : (j : Int) < (l.length : Int) := by omega
          have hsl := HI2.out.2.1.next itv_ne HO.out.bel
          obtain ⟨yb, yo, yc, hsv, hyc, hyb, hyt⟩ := hsl.itm (fun e => by rw [e] at hlt; simp at hlt)
          cases hsv
          obtain ⟨y0, y1⟩ := hyt j hlt
          have htk := take_snoc hlt
          have hdl := geL_app (l.take j) [l[j]] key
          rw [← htk] at hdl
          generalize l[j] = x at *
          have HJ : Hid (j + 1 ≤ l.length) := hlt
          have hj100 : j < 100 := by have := HLL.out; omega
          go_upto_block 3 with fail
          go_cut [] from 48 to 61 (fun wx => ∃ v, Hid (Wn bw (geL (l.take (j + 1)) key) wb wx v))
          case first =>
            by_cases hx : key ≤ x.1
            · rw [geL_keep hx] at hdl
              obtain ⟨v', w', r1, r2, r3, r4⟩ := (HO.out.next (Below.refl _ _).drew).push x (by have h1 := geL_le (l.take j) key; rw [List.length_take] at h1; have := HLL.out; omega)
              rw [← hdl] at r4
              obtain ⟨o', c', e'⟩ := own_form r4.own
              subst e'
              generalize (geL (l.take (j + 1)) key) = G at *
              obtain ⟨ng, hng⟩ : ∃ ng, G.length = ng := ⟨_, rfl⟩
              rw [hng] at r1 r4
              clear hng
              have RA : Hid _ := r1
              have HN : Hid (Wn bw G wb (w'.setCell ⟨bw, 0, none⟩ (.slice o' ng c')) (.slice o' ng c')) := r4
              have c0 := HO.out.c0
              have c1 : ((wr.alloc (.cells #[.int .i64 x.1, .string x.2] 32)).drew).cell? ⟨bw, 0, none⟩ = some v := (HO.out.next (below1 _ _)).c0
              have c2 : (wr.alloc (.cells #[.int .i64 x.1, .string x.2] 32)).cell? ⟨bw, 0, none⟩ = some v := (HO.out.next (below1 _ _)).c0
              have c3 : ((wr.drew).alloc (.cells #[.int .i64 x.1, .string x.2] 32)).cell? ⟨bw, 0, none⟩ = some v := (HO.out.next (below1 _ _)).c0
              have HF : Hid (w'.cell? ⟨bw, 0, none⟩ = some v ∧ w'.frozen? ⟨bw, 0, none⟩ = false) := ⟨r2, r3⟩
              clear HO hsl hyt hdl htk r1 r2 r3 r4
              go_upto_region 15 with fail
              refine wp_normal ?_
              obtain ⟨f0, f1⟩ := HF.out
              go_region_law (first | (refine dr_appendD (d := some 61) rfl rfl rfl RA.out ?_))
              all_goals (try simp only [Exit.then, Exit.inBlock])
              all_goals go_wp2_with fail
              all_goals go_meet
              all_goals exact ⟨_, HN.out⟩
            · rw [geL_drop hx, List.append_nil] at hdl
              have HN : Hid (Wn bw (geL (l.take (j + 1)) key) wb wr v) := by show Wn _ _ _ _ _; rw [hdl]; exact HO.out
              have hxi : ¬ key ≤ x.1 := hx
              clear HO hsl hyt hdl htk
              go_wp2_with fail
              go_meet
              exact ⟨_, HN.out⟩
          case rest =>
            obtain ⟨v2, HN2⟩ := hcut
            clear HO hsl hyt hdl htk y0 y1
            rename_i hK0
            refine hK0 _ _ ?_
            clear hK0
            go_wp2_with fail
            go_roundw
            case rel => exact ⟨j + 1, _, HJ.out, by go_num, HN2.out⟩
            case measure => have := HJ.out; simp [intOf]; omega
        · have hlti : ¬ (j : Int) < (l.length : Int) := by omega
          have HE : Hid (Wn bw (geL l key) wb wr v) := by
            have := HO.out
            rw [List.take_of_length_le (by omega)] at this
            exact this
          clear HO
          go_wp2_with fail
          go_meet
          exact ⟨_, HE.out⟩
    case rest =>
      rename_i hK0
      refine hK0 _ _ ?_
      clear hK0
      obtain ⟨v, HWN⟩ := hcut
      generalize hww : wc = wA at *
      clear hww
      obtain ⟨va, vc, hva⟩ := own_form HWN.out.own
      subst hva
      have HFL : Hid ((geL l key).length ≤ 100) := Nat.le_trans (geL_le l key) HI2.out.2.2
      obtain ⟨F, hF⟩ : ∃ F, geL l key = F := ⟨_, rfl⟩
      rw [hF] at HWN HFL
      have HF : Hid (geL l key = F ∧ F.length ≤ 100) := ⟨hF, HFL.out⟩
      clear hF HFL
      have HA : Hid (Fr w wA n p l ∧ Wn bw F wb wA (.slice va F.length vc)) := ⟨HI2.out.1.next HWN.out.bel, HWN.out⟩
      clear HI2 HWN HW3 HBW
      have HFR : Hid (∀ w', Calls Try.prog 16 #[.agg #[.pointer p, .int .i64 (l.length : Int)], .int .i64 key] w' fun e w'' => e = .returned (.func (.func 29) #[] #[.pointer (some ⟨w'.heap.size, 0, none⟩), .pointer (some ⟨w'.heap.size + 1, 0, none⟩)]) ∧ (w'.alloc (.cells #[.pointer p, .int .i64 (l.length : Int)] 25)).alloc (.cells #[.int .i64 key] 3) = w'') := fun w' => (callsIn_wide (n := 7)).1 (from_in 7 p _ key w')
      obtain ⟨nb, hnb⟩ : ∃ nb, wA.heap.size = nb := ⟨_, rfl⟩
      obtain ⟨wn, hwn⟩ : ∃ wn, wA.alloc (.cells #[.int .i64 0] 3) = wn := ⟨_, rfl⟩
      have Hwn : Hid (Below wA.heap.size wA wn ∧ CellsF wn nb [.int .i64 0] ∧ wn.heap.size = nb + 1) := by
        show _ ∧ _
        rw [← hwn, ← hnb]
        exact ⟨below1 _ _, CellsF.at _ 3 (by simp) rfl, size_alloc _ _⟩
      have x0 := (HA.out.1.next Hwn.out.1).bx.c0
      have x1 := (HA.out.1.next Hwn.out.1).bx.c1
      have Ewn : Hid (wA.alloc (.cells #[.int .i64 0] 3) = wn) := hwn
      have Enb : Hid (wA.heap.size = nb) := hnb
      clear hwn hnb
      go_upto_region 17 with fail
      rw [Ewn.out, Enb.out]
      go_wp2_with fail
      refine Calls.mono (HFR.out _) ?_
      rintro e w5 ⟨rfl, rfl⟩
      clear x0 x1
      obtain ⟨wl, hwl⟩ : ∃ wl, (wn.alloc (.cells #[.pointer p, .int .i64 (l.length : Int)] 25)).alloc (.cells #[.int .i64 key] 3) = wl := ⟨_, rfl⟩
      have Hwl : Hid (Below wA.heap.size wA wl ∧ CellsF wl nb [.int .i64 0] ∧ wl.cell? ⟨nb + 1, 0, none⟩ = some (.pointer p) ∧ wl.cell? ⟨nb + 1 + 1, 0, none⟩ = some (.int .i64 key) ∧ wl.heap.size = nb + 1 + 1 + 1 ∧ wA.heap.size = nb) := by
        show _ ∧ _
        rw [← hwl]
        exact ⟨Below.next (Below.next Hwn.out.1 (below1 _ _)) (below1 _ _), (Hwn.out.2.1.next (below1 _ _)).next (below1 _ _), ((CellsF.at (w := wn) [.pointer p, .int .i64 (l.length : Int)] 25 (by simp) Hwn.out.2.2.symm).next (below1 _ _)).cs 0 _ rfl, (CellsF.at (w := wn.alloc (.cells #[.pointer p, .int .i64 (l.length : Int)] 25)) [.int .i64 key] 3 (by simp) (by rw [size_alloc, Hwn.out.2.2])).cs 0 _ rfl, by rw [size_alloc, size_alloc, Hwn.out.2.2], Enb.out⟩
      rw [hwl, Hwn.out.2.2]
      clear hwl Ewn
      have HSTnb : Hid (∀ m, SeqStopsK Fence.wide m Try.prog 29 #[.pointer (some ⟨nb + 1, 0, none⟩), .pointer (some ⟨nb + 1 + 1, 0, none⟩)] (fun x : Itm => #[Value.int .i64 x.1, .string x.2]) (Below wA.heap.size) (fun ys => ys = F) (fun pre => pre <+: F) F.length wl) := fun m => by
        rw [← HF.out.1]
        exact from_stops m _ _ p _ l key wA wl HA.out.1.tr Hwl.out.1 (by have := Hwl.out.2.2.2.2.1; omega) Hwl.out.2.2.1 (by have := Hwl.out.2.2.2.2.1; omega) Hwl.out.2.2.2.1
      clear Hwn
      go_wp2_with fail
      refine (wpIn_wide (n := 7)).1 ?_
      refine wpIn_rangeFunc_ownF rfl (by omega) (gf := 29) (lb := #[.pointer (some ⟨nb + 1, 0, none⟩), .pointer (some ⟨nb + 1 + 1, 0, none⟩)]) rfl trivial (enters_of Try.func29 (by kernel_rfl) rfl)
        (HSTnb.out _) belowK_t (belowK_b Hwl.out.1.size) (Below.refl _ _) (fun _ => rfl)
        (fun pre W => (pre <+: F ∧ W.cell? ⟨nb, 0, none⟩ = some (.int .i64 (pre.length : Int)) ∧ W.frozen? ⟨nb, 0, none⟩ = false) ∧ wl.grownBy W (some nb))
        (fun c pre W => c = .ret ∧ ¬ pre <+: F)
        (OwnFrom.and (Own.from (fun s A B row hs hg hr => ⟨hs.1, cell_kept hs.2.1 hg hr, (frozen_kept hs.2.1 hg hr).trans hs.2.2⟩) _) ownFrom_grown)
        (fun c s A B row hs _ _ => hs)
        ⟨⟨List.nil_prefix, Hwl.out.2.1.cs 0 _ rfl, Hwl.out.2.1.fz 0⟩, grown_refl _ _⟩
        (fun x => { tmps := #[.slice aa len cc, .int .i64 key, .int .i64 n, undef, undef, .pointer (some ⟨w.heap.size, 0, none⟩), .pointer (some ⟨w.heap.size + 1, 0, none⟩), .pointer (some ⟨w.heap.size + 1 + 1, 0, none⟩), .slice a l.length c, u9, .pointer (some ⟨bw, 0, none⟩), u11, .pointer (some ⟨nb, 0, none⟩), .int .i64 x.1, .string x.2, undef, u16, u17, u18, u19, u20, u21, u22, u23, u24, u25, u26, u27, u28, u29, u30, u31, u32, u33, u34, u35, u36, u37, u38, u39, u40, u41, u42, u43, u44, u45, u46, u47, u48, u49, u50, u51, u52, u53, u54, u55, u56, u57, u58, u59, u60, u61, .agg #[.pointer p, .int .i64 (l.length : Int)], .int .i64 key, .func (.func 29) #[] #[.pointer (some ⟨nb + 1, 0, none⟩), .pointer (some ⟨nb + 1 + 1, 0, none⟩)], .int .i64 x.1, .string x.2, u67, u68, u69, u70, u71, u72, u73, u74, u75, u76, u77, u78, u79, u80, u81, u82, u83, u84, u85, u86, u87, u88, u89, u90, u91, u92, u93, u94, u95, u96, u97, u98, u99, u100, u101, u102, u103, u104, u105, u106, u107], defers := [] }) ?assign ?body ?done ?stop
      case assign =>
        intro y x W K hK
        gi_wp2
        exact hK
      case body =>
        rintro y pre x W ⟨⟨hpre, hc, hf⟩, hg⟩ hlen
        have hB : Below wA.heap.size wA W := grown_below Hwl.out.1 hg (by rw [Hwl.out.2.2.2.2.2]; exact Nat.le_refl _)
        have HGR : Hid (wl.grownBy W (some nb) ∧ wA.heap.size = nb) := ⟨hg, Hwl.out.2.2.2.2.2⟩
        have hwn := HA.out.2.next hB
        have hsl := hwn.sl
        have hcl := hwn.c0
        have hne : F ≠ [] := fun e => by rw [e] at hlen; simp at hlen
        obtain ⟨yb, yo, yc, hsv, hyc, hyb, hyt⟩ := hsl.itm hne
        obtain ⟨i, hi⟩ : ∃ i, pre.length = i := ⟨_, rfl⟩
        rw [hi] at hlen hc
        have y0 := (hyt i hlen).1
        have y1 := (hyt i hlen).2
        rw [hsv] at hcl
        have hge : ¬ (F.length : Int) ≤ (i : Int) := by omega
        have hlti : (i : Int) < (F.length : Int) := by omega
        have hi100 : i < 100 := by have := HF.out.2; omega
        have HP : Hid (pre <+: F ∧ pre.length = i) := ⟨hpre, hi⟩
        have HCC : Hid (W.cell? ⟨nb, 0, none⟩ = some (.int .i64 (i : Int)) ∧ W.frozen? ⟨nb, 0, none⟩ = false) := ⟨hc, hf⟩
        by_cases hx : x = F[i]
        · have HPX : Hid (pre ++ [x] <+: F) := (prefix_snoc hpre hi hlen).1 hx
          rw [← hx] at y0 y1
          clear hx hsl hyt hpre hi hB hsv hwn hg
          gi_wp2
          have hnb := HGR.out.2
          refine ⟨KeepsOthers.setCell _ _ _, (Below.refl wA.heap.size W).setCell (p := ⟨nb, 0, none⟩) (by show wA.heap.size ≤ nb; omega) _, ⟨HPX.out, ?_, by rw [World.frozen?_setCell]; exact HCC.out.2⟩, grown_set HGR.out.1 _⟩
          rw [List.length_append, HP.out.2]
          exact World.cell?_setCell_same' _ _ _ (by rw [HCC.out.1]; rfl)
        · have HNX : Hid (¬ pre ++ [x] <+: F) := fun h => hx ((prefix_snoc hpre hi hlen).2 h)
          have hxx : ¬ (F[i].1 = x.1 ∧ F[i].2 = x.2) := fun h => hx (Prod.ext h.1.symm h.2.symm)
          generalize F[i] = z at *
          obtain ⟨z1, z2⟩ := z
          obtain ⟨x1, x2⟩ := x
          dsimp only at y0 y1 hxx
          have g6 := (HA.out.1.next hB).b6.fz 0
          have g7 := (HA.out.1.next hB).b6.cs 0 _ rfl
          clear hx hsl hyt hpre hi hB hsv hwn hg
          by_cases hz : z1 = x1
          · subst hz
            have hz2 : ¬ z2 = x2 := fun e => hxx ⟨rfl, e⟩
            have hz4 : ¬ z2.toList = x2.toList := fun e => hz2 (byte_inj e)
            have hz3 : (z2.toList == x2.toList) = false := by simpa using hz4
            gi_wp2
            exact ⟨KeepsOthers.setCell _ _ _, rfl, HNX.out⟩
          · have hz3 : (z1 == x1) = false := by simpa using hz
            gi_wp2
            exact ⟨KeepsOthers.setCell _ _ _, rfl, HNX.out⟩
      case stop =>
        rintro D c pre W hD hpre ⟨_, h⟩ _
        exact absurd hpre h
      case done =>
        rintro D1 ys W hD rfl ⟨⟨hpre, hc, hf⟩, hg⟩ hK1
        have hB : Below wA.heap.size wA W := grown_below Hwl.out.1 hg (by rw [Hwl.out.2.2.2.2.2]; exact Nat.le_refl _)
        have HB : Hid (Fr w W n p l ∧ Wn bw ys wb W (.slice va ys.length vc) ∧ W.cell? ⟨nb, 0, none⟩ = some (.int .i64 (ys.length : Int)) ∧ W.heap[D1]? = some (.deferred (some [])) ∧ w.heap.size ≤ D1) := ⟨HA.out.1.next hB, HA.out.2.next hB, hc, hK1, by have := HA.out.1.bel.size; have := Hwl.out.1.size; omega⟩
        clear hB hpre hc hf hg hK1 hD HSTnb Hwl HA Enb
        obtain ⟨mb, hmb⟩ : ∃ mb, W.heap.size = mb := ⟨_, rfl⟩
        obtain ⟨wm, hwm⟩ : ∃ wm, W.alloc (.cells #[.int .i64 0] 3) = wm := ⟨_, rfl⟩
        have Hwm : Hid (Below W.heap.size W wm ∧ CellsF wm mb [.int .i64 0] ∧ wm.heap.size = mb + 1) := by
          show _ ∧ _
          rw [← hwm, ← hmb]
          exact ⟨below1 _ _, CellsF.at _ 3 (by simp) rfl, size_alloc _ _⟩
        have x0 := (HB.out.1.next Hwm.out.1).bx.c0
        have x1 := (HB.out.1.next Hwm.out.1).bx.c1
        have Ewm : Hid (W.alloc (.cells #[.int .i64 0] 3) = wm) := hwm
        have Emb : Hid (W.heap.size = mb) := hmb
        clear hwm hmb
        go_upto_region 24 with fail
        rw [Ewm.out, Emb.out]
        go_wp2_with fail
        refine Calls.mono (HFR.out _) ?_
        rintro e w5 ⟨rfl, rfl⟩
        clear x0 x1
        obtain ⟨wk, hwk⟩ : ∃ wk, (wm.alloc (.cells #[.pointer p, .int .i64 (l.length : Int)] 25)).alloc (.cells #[.int .i64 key] 3) = wk := ⟨_, rfl⟩
        have Hwk : Hid (Below W.heap.size W wk ∧ CellsF wk mb [.int .i64 0] ∧ wk.cell? ⟨mb + 1, 0, none⟩ = some (.pointer p) ∧ wk.cell? ⟨mb + 1 + 1, 0, none⟩ = some (.int .i64 key) ∧ wk.heap.size = mb + 1 + 1 + 1 ∧ W.heap.size = mb) := by
          show _ ∧ _
          rw [← hwk]
          exact ⟨Below.next (Below.next Hwm.out.1 (below1 _ _)) (below1 _ _), (Hwm.out.2.1.next (below1 _ _)).next (below1 _ _), ((CellsF.at (w := wm) [.pointer p, .int .i64 (l.length : Int)] 25 (by simp) Hwm.out.2.2.symm).next (below1 _ _)).cs 0 _ rfl, (CellsF.at (w := wm.alloc (.cells #[.pointer p, .int .i64 (l.length : Int)] 25)) [.int .i64 key] 3 (by simp) (by rw [size_alloc, Hwm.out.2.2])).cs 0 _ rfl, by rw [size_alloc, size_alloc, Hwm.out.2.2], Emb.out⟩
        rw [hwk, Hwm.out.2.2]
        clear hwk Ewm
        have HSTmb : Hid (∀ m, SeqStopsK Fence.wide m Try.prog 29 #[.pointer (some ⟨mb + 1, 0, none⟩), .pointer (some ⟨mb + 1 + 1, 0, none⟩)] (fun x : Itm => #[Value.int .i64 x.1, .string x.2]) (Below W.heap.size) (fun zs => zs = ys) (fun pre => pre <+: ys) ys.length wk) := fun m => by
          rw [← HF.out.1]
          exact from_stops m _ _ p _ l key W wk HB.out.1.tr Hwk.out.1 (by have := Hwk.out.2.2.2.2.1; omega) Hwk.out.2.2.1 (by have := Hwk.out.2.2.2.2.1; omega) Hwk.out.2.2.2.1
        clear Hwm
        go_wp2_with fail
        obtain ⟨lv, hlv, hl16⟩ : ∃ lv : Nat, n % 16 = (lv : Int) ∧ lv < 16 := ⟨(n % 16).toNat, by omega, by omega⟩
        have hand : bits .and .i64 n 15 = (lv : Int) := (and_15 n).trans hlv
        clear hlv
        refine (wpIn_wide (n := 7)).1 ?_
        refine wpIn_rangeFunc_ownF rfl (by omega) (gf := 29) (lb := #[.pointer (some ⟨mb + 1, 0, none⟩), .pointer (some ⟨mb + 1 + 1, 0, none⟩)]) rfl trivial (enters_of Try.func29 (by kernel_rfl) rfl)
          (HSTmb.out _) belowK_t (belowK_b Hwk.out.1.size) (Below.refl _ _) (fun _ => rfl)
          (fun pre W2 => (pre.length < lv + 1 ∧ W2.cell? ⟨mb, 0, none⟩ = some (.int .i64 (pre.length : Int)) ∧ W2.frozen? ⟨mb, 0, none⟩ = false) ∧ wk.grownBy W2 (some mb))
          (fun c pre W2 => ((c = .exit 6 ∧ pre.length = lv + 1) ∧ W2.cell? ⟨mb, 0, none⟩ = some (.int .i64 (pre.length : Int))) ∧ wk.grownBy W2 (some mb))
          (OwnFrom.and (Own.from (fun s A B row hs hg hr => ⟨hs.1, cell_kept hs.2.1 hg hr, (frozen_kept hs.2.1 hg hr).trans hs.2.2⟩) _) ownFrom_grown)
          (fun c => OwnFrom.and (Own.from (fun s A B row hs hg hr => ⟨hs.1, cell_kept hs.2 hg hr⟩) _) ownFrom_grown)
          ⟨⟨Nat.zero_lt_succ _, Hwk.out.2.1.cs 0 _ rfl, Hwk.out.2.1.fz 0⟩, grown_refl _ _⟩
          (fun x => { tmps := #[.slice aa len cc, .int .i64 key, .int .i64 n, undef, undef, .pointer (some ⟨w.heap.size, 0, none⟩), .pointer (some ⟨w.heap.size + 1, 0, none⟩), .pointer (some ⟨w.heap.size + 1 + 1, 0, none⟩), .slice a l.length c, u9, .pointer (some ⟨bw, 0, none⟩), u11, .pointer (some ⟨nb, 0, none⟩), undef, undef, .pointer (some ⟨mb, 0, none⟩), u16, u17, u18, u19, u20, u21, u22, u23, u24, u25, u26, u27, u28, u29, u30, u31, u32, u33, u34, u35, u36, u37, u38, u39, u40, u41, u42, u43, u44, u45, u46, u47, u48, u49, u50, u51, u52, u53, u54, u55, u56, u57, u58, u59, u60, u61, .agg #[.pointer p, .int .i64 (l.length : Int)], .int .i64 key, .func (.func 29) #[] #[.pointer (some ⟨nb + 1, 0, none⟩), .pointer (some ⟨nb + 1 + 1, 0, none⟩)], u65, u66, u67, u68, u69, u70, u71, u72, u73, u74, u75, u76, u77, u78, u79, u80, u81, u82, .agg #[.pointer p, .int .i64 (l.length : Int)], .int .i64 key, .func (.func 29) #[] #[.pointer (some ⟨mb + 1, 0, none⟩), .pointer (some ⟨mb + 1 + 1, 0, none⟩)], .int .i64 x.1, .string x.2, u88, u89, u90, u91, u92, u93, u94, u95, u96, u97, u98, u99, u100, u101, u102, u103, u104, u105, u106, u107], defers := [] }) ?assign ?body ?done ?stop
        case assign =>
          intro y x W2 K hK
          gi_wp2
          exact hK
        case body =>
          rintro y pre x W2 ⟨⟨hlt, hc, hf⟩, hg⟩ hlen
          have hB : Below W.heap.size W W2 := grown_below Hwk.out.1 hg (by rw [Hwk.out.2.2.2.2.2]; exact Nat.le_refl _)
          have c5 := (HB.out.1.next hB).b5.cs 0 _ rfl
          have hmb : w.heap.size < mb := by have := HB.out.1.b5.lt; have := Hwk.out.2.2.2.2.2; omega
          have HG : Hid (wk.grownBy W2 (some mb) ∧ W.heap.size = mb) := ⟨hg, Hwk.out.2.2.2.2.2⟩
          obtain ⟨i, hi⟩ : ∃ i, pre.length = i := ⟨_, rfl⟩
          rw [hi] at hlt hc
          have HCC : Hid (W2.cell? ⟨mb, 0, none⟩ = some (.int .i64 (i : Int)) ∧ W2.frozen? ⟨mb, 0, none⟩ = false ∧ pre.length = i) := ⟨hc, hf, hi⟩
          have c6 : (W2.setCell ⟨mb, 0, none⟩ (.int .i64 ((i : Int) + 1))).cell? ⟨w.heap.size, 0, none⟩ = some (.int .i64 n) := (cell_put _ (by omega)).trans c5
          have HX : Hid ((W2.setCell ⟨mb, 0, none⟩ (.int .i64 ((i : Int) + 1))).cell? ⟨mb, 0, none⟩ = some (.int .i64 (((pre ++ [x]).length : Nat) : Int))) := by
            show _ = _
            rw [List.length_append, hi]
            exact World.cell?_setCell_same' _ _ _ (by rw [hc]; rfl)
          clear hg hB hi
          by_cases hil : i = lv
          · subst hil
            have hge : (1 : Int) + (i : Int) ≤ (i : Int) + 1 := by omega
            gi_wp2
            exact ⟨KeepsOthers.setCell _ _ _, ⟨⟨rfl, by rw [List.length_append, HCC.out.2.2]; rfl⟩, HX.out⟩, grown_set HG.out.1 _⟩
          · have hge : ¬ (1 : Int) + (lv : Int) ≤ (i : Int) + 1 := by omega
            have HLT : Hid (i + 1 < lv + 1) := by show _ < _; omega
            gi_wp2
            have hnb := HG.out.2
            refine ⟨KeepsOthers.setCell _ _ _, (Below.refl W.heap.size W2).setCell (p := ⟨mb, 0, none⟩) (by show W.heap.size ≤ mb; omega) _, ⟨by rw [List.length_append, HCC.out.2.2]; exact HLT.out, HX.out, by rw [World.frozen?_setCell]; exact HCC.out.2.1⟩, grown_set HG.out.1 _⟩
        case done =>
          rintro D2 zs W2 hD2 hzs ⟨⟨hlt, hc, hf⟩, hg⟩ hK2
          subst hzs
          have hB : Below W.heap.size W W2 := grown_below Hwk.out.1 hg (by rw [Hwk.out.2.2.2.2.2]; exact Nat.le_refl _)
          have HE : Hid (Fr w W2 n p l ∧ Wn bw zs wb W2 (.slice va zs.length vc) ∧ W2.cell? ⟨nb, 0, none⟩ = some (.int .i64 (zs.length : Int)) ∧ W2.cell? ⟨mb, 0, none⟩ = some (.int .i64 ((zs.length : Int))) ∧ W2.heap[D1]? = some (.deferred (some [])) ∧ W2.heap[D2]? = some (.deferred (some [])) ∧ D1 < D2 ∧ w.heap.size ≤ D1) := ⟨HB.out.1.next hB, HB.out.2.1.next hB, (hB.cell (p := ⟨nb, 0, none⟩) (World.block_lt_of_cell? W _ HB.out.2.2.1)).trans HB.out.2.2.1, hc, (hB.block D1 (Array.getElem?_eq_some_iff.1 HB.out.2.2.2.1).1).trans HB.out.2.2.2.1, hK2, by have := (Array.getElem?_eq_some_iff.1 HB.out.2.2.2.1).1; have := Hwk.out.1.size; omega, HB.out.2.2.2.2⟩
          have hmn : ¬ (1 : Int) + (lv : Int) < (zs.length : Int) := by omega
          have hz100 : zs.length ≤ 100 := HF.out.2
          clear hB hlt hc hf hg hK2 hD2 HSTmb
          have d0 := HE.out.2.2.1
          have d1 := HE.out.2.1.c0
          have d2 := HE.out.2.2.2.1
          have d3 := HE.out.1.b5.cs 0 _ rfl
          have d4 := HE.out.1.b6.cs 0 _ rfl
          have d5 := HE.out.1.b6.fz 0
          clear HB HFR HF Hwk
          go_wp2_with fail
          obtain ⟨q1, q2, q3, q4, q5, q6, q7, q8⟩ := HE.out
          have r2 := (KeepsOthers.setCell W2 ⟨w.heap.size + 1, 0, none⟩ (.bool true)).same D2 _ q6 rfl
          have r1 : ((W2.setCell ⟨w.heap.size + 1, 0, none⟩ (.bool true)).putObj D2 (.deferred none)).heap[D1]? = some (.deferred (some [])) := (World.putObj_heap_other (by omega)).trans ((KeepsOthers.setCell W2 ⟨w.heap.size + 1, 0, none⟩ (.bool true)).same D1 _ q5 rfl)
          refine ⟨by simp, .inl ⟨_, _, rfl, run_takeDeferred r2, ⟨by simp, .inl ⟨_, _, rfl, run_takeDeferred r1, ?_⟩⟩⟩⟩
          have hc5 := cell_kept (World.cell?_setCell_same' W2 ⟨w.heap.size + 1, 0, none⟩ (.bool true) (by rw [d4]; rfl)) (grownBy_putObj' _ D2 (.deferred none)) (fun r e => by cases e; exact ⟨_, r2, rfl⟩)
          have hc6 := cell_kept hc5 (grownBy_putObj' _ D1 (.deferred none)) (fun r e => by cases e; exact ⟨_, r1, rfl⟩)
          refine ⟨.bool true, ?_, rfl, ((q1.bel.setCell (p := ⟨w.heap.size + 1, 0, none⟩) (by show w.heap.size ≤ w.heap.size + 1; omega) _).trans (belowK_b (w := w) (Nat.le_refl _) _ D2 _ _ (by omega) r2 rfl rfl)).trans (belowK_b (w := w) (Nat.le_refl _) _ D1 _ _ q8 r1 rfl rfl)⟩
          simp [results, Try.f5, go_sem, hc6]
        case stop =>
          rintro D2 c pre W2 hD2 hpre ⟨⟨⟨rfl, hpl⟩, hc⟩, hg⟩ hK2
          have hB : Below W.heap.size W W2 := grown_below Hwk.out.1 hg (by rw [Hwk.out.2.2.2.2.2]; exact Nat.le_refl _)
          have hle : pre.length ≤ ys.length := hpre.length_le
          rw [hpl] at hc hle
          have hz100 : ys.length ≤ 100 := HF.out.2
          by_cases hmn : (1 : Int) + (lv : Int) < (ys.length : Int)
          · replace hc : W2.cell? ⟨mb, 0, none⟩ = some (.int .i64 (1 + (lv : Int))) := by rw [hc]; congr 2; omega
            have HE : Hid (Fr w W2 n p l ∧ Wn bw ys wb W2 (.slice va ys.length vc) ∧ W2.cell? ⟨nb, 0, none⟩ = some (.int .i64 (ys.length : Int)) ∧ W2.cell? ⟨mb, 0, none⟩ = some (.int .i64 (1 + (lv : Int))) ∧ W2.heap[D1]? = some (.deferred (some [])) ∧ W2.heap[D2]? = some (.deferred (some [])) ∧ D1 < D2 ∧ w.heap.size ≤ D1) := ⟨HB.out.1.next hB, HB.out.2.1.next hB, (hB.cell (p := ⟨nb, 0, none⟩) (World.block_lt_of_cell? W _ HB.out.2.2.1)).trans HB.out.2.2.1, hc, (hB.block D1 (Array.getElem?_eq_some_iff.1 HB.out.2.2.2.1).1).trans HB.out.2.2.2.1, hK2, by have := (Array.getElem?_eq_some_iff.1 HB.out.2.2.2.1).1; have := Hwk.out.1.size; omega, HB.out.2.2.2.2⟩
            have hbq : ((lv : Int) + 1 == 1 + (lv : Int)) = true := by simp; omega
            clear hB hc hg hK2 hD2 HSTmb hpre hpl hle
            refine wpIn_wide.2 ?_
            have d0 := HE.out.2.2.1
            have d1 := HE.out.2.1.c0
            have d2 := HE.out.2.2.2.1
            have d3 := HE.out.1.b5.cs 0 _ rfl
            have d4 := HE.out.1.b6.cs 0 _ rfl
            have d5 := HE.out.1.b6.fz 0
            clear HB HFR HF Hwk
            go_wp2_with fail
            obtain ⟨q1, q2, q3, q4, q5, q6, q7, q8⟩ := HE.out
            have r2 := (KeepsOthers.setCell W2 ⟨w.heap.size + 1, 0, none⟩ (.bool true)).same D2 _ q6 rfl
            have r1 : ((W2.setCell ⟨w.heap.size + 1, 0, none⟩ (.bool true)).putObj D2 (.deferred none)).heap[D1]? = some (.deferred (some [])) := (World.putObj_heap_other (by omega)).trans ((KeepsOthers.setCell W2 ⟨w.heap.size + 1, 0, none⟩ (.bool true)).same D1 _ q5 rfl)
            refine ⟨by simp, .inl ⟨_, _, rfl, run_takeDeferred r2, ⟨by simp, .inl ⟨_, _, rfl, run_takeDeferred r1, ?_⟩⟩⟩⟩
            have hc5 := cell_kept (World.cell?_setCell_same' W2 ⟨w.heap.size + 1, 0, none⟩ (.bool true) (by rw [d4]; rfl)) (grownBy_putObj' _ D2 (.deferred none)) (fun r e => by cases e; exact ⟨_, r2, rfl⟩)
            have hc6 := cell_kept hc5 (grownBy_putObj' _ D1 (.deferred none)) (fun r e => by cases e; exact ⟨_, r1, rfl⟩)
            refine ⟨.bool true, ?_, rfl, ((q1.bel.setCell (p := ⟨w.heap.size + 1, 0, none⟩) (by show w.heap.size ≤ w.heap.size + 1; omega) _).trans (belowK_b (w := w) (Nat.le_refl _) _ D2 _ _ (by omega) r2 rfl rfl)).trans (belowK_b (w := w) (Nat.le_refl _) _ D1 _ _ q8 r1 rfl rfl)⟩
            simp [results, Try.f5, go_sem, hc6]
          · replace hc : W2.cell? ⟨mb, 0, none⟩ = some (.int .i64 (ys.length : Int)) := by rw [hc]; congr 2; omega
            have HE : Hid (Fr w W2 n p l ∧ Wn bw ys wb W2 (.slice va ys.length vc) ∧ W2.cell? ⟨nb, 0, none⟩ = some (.int .i64 (ys.length : Int)) ∧ W2.cell? ⟨mb, 0, none⟩ = some (.int .i64 ((ys.length : Int))) ∧ W2.heap[D1]? = some (.deferred (some [])) ∧ W2.heap[D2]? = some (.deferred (some [])) ∧ D1 < D2 ∧ w.heap.size ≤ D1) := ⟨HB.out.1.next hB, HB.out.2.1.next hB, (hB.cell (p := ⟨nb, 0, none⟩) (World.block_lt_of_cell? W _ HB.out.2.2.1)).trans HB.out.2.2.1, hc, (hB.block D1 (Array.getElem?_eq_some_iff.1 HB.out.2.2.2.1).1).trans HB.out.2.2.2.1, hK2, by have := (Array.getElem?_eq_some_iff.1 HB.out.2.2.2.1).1; have := Hwk.out.1.size; omega, HB.out.2.2.2.2⟩
            clear hB hc hg hK2 hD2 HSTmb hpre hpl hle
            refine wpIn_wide.2 ?_
            have d0 := HE.out.2.2.1
            have d1 := HE.out.2.1.c0
            have d2 := HE.out.2.2.2.1
            have d3 := HE.out.1.b5.cs 0 _ rfl
            have d4 := HE.out.1.b6.cs 0 _ rfl
            have d5 := HE.out.1.b6.fz 0
            clear HB HFR HF Hwk
            go_wp2_with fail
            obtain ⟨q1, q2, q3, q4, q5, q6, q7, q8⟩ := HE.out
            have r2 := (KeepsOthers.setCell W2 ⟨w.heap.size + 1, 0, none⟩ (.bool true)).same D2 _ q6 rfl
            have r1 : ((W2.setCell ⟨w.heap.size + 1, 0, none⟩ (.bool true)).putObj D2 (.deferred none)).heap[D1]? = some (.deferred (some [])) := (World.putObj_heap_other (by omega)).trans ((KeepsOthers.setCell W2 ⟨w.heap.size + 1, 0, none⟩ (.bool true)).same D1 _ q5 rfl)
            refine ⟨by simp, .inl ⟨_, _, rfl, run_takeDeferred r2, ⟨by simp, .inl ⟨_, _, rfl, run_takeDeferred r1, ?_⟩⟩⟩⟩
            have hc5 := cell_kept (World.cell?_setCell_same' W2 ⟨w.heap.size + 1, 0, none⟩ (.bool true) (by rw [d4]; rfl)) (grownBy_putObj' _ D2 (.deferred none)) (fun r e => by cases e; exact ⟨_, r2, rfl⟩)
            have hc6 := cell_kept hc5 (grownBy_putObj' _ D1 (.deferred none)) (fun r e => by cases e; exact ⟨_, r1, rfl⟩)
            refine ⟨.bool true, ?_, rfl, ((q1.bel.setCell (p := ⟨w.heap.size + 1, 0, none⟩) (by show w.heap.size ≤ w.heap.size + 1; omega) _).trans (belowK_b (w := w) (Nat.le_refl _) _ D2 _ _ (by omega) r2 rfl rfl)).trans (belowK_b (w := w) (Nat.le_refl _) _ D1 _ _ q8 r1 rfl rfl)⟩
            simp [results, Try.f5, go_sem, hc6]
end Go.Proofs.Ytgebionlkmjfnaa
