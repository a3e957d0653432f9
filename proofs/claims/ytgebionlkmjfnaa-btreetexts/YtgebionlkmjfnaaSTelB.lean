/- What a node with kids tells behind an item. -/
import Derived.Test.YtgebionlkmjfnaaSTel
namespace Go.Proofs.Ytgebionlkmjfnaa.Sx
open Go.ChangeShapes Go.WideShapes Go.RowKit
set_option linter.unusedVariables false
set_option maxRecDepth 100000

open Go.Shelf
attribute [local go_sem] Oper.semAt_some

set_option maxHeartbeats 4000000 in
theorem behind_inner (n y N : Nat) (w0 : World) (J Jx : List Itm → World → Prop) (hT : Told y N w0 J Jx) (b : Nat) (xs : List Itm) (bs : List Nat) (fs : List (List Itm)) (hbf : fs.length = bs.length) (hbx : bs.length = xs.length + 1) (hn : NdAt itv w0 b xs bs) (hx : xs.length ≤ 50) (i : Nat) (hi : i ≤ xs.length) (pre : List Itm) (W : World) (hJ : J pre W) (hB : Below w0.heap.size w0 W) (hN : pre.length + (suf (xs.drop i) (fs.drop (i + 1))).length ≤ N) (hkid : ∀ q (hq : q < bs.length) (hq' : q < fs.length) m pre W, J pre W → Below w0.heap.size w0 W → pre.length + fs[q].length ≤ N → CallsIn Fence.wide m Try.prog 35 #[.pointer (some ⟨bs[q], 0, none⟩), .func (.yield y) #[] #[]] W (TellP J Jx w0 fs[q] pre)) :
    CallsIn Fence.wide n Try.prog 56 #[.pointer (some ⟨b, 0, none⟩), .int .i64 i, .func (.yield y) #[] #[]] W (TellP J Jx w0 (suf (xs.drop i) (fs.drop (i + 1))) pre) := by
  have hdd : ∀ k : Nat, (Fence.wide.depth.isSome = true → 1 ≤ k) := fun k h => by cases h
  have hmx : Try.prog.follows .mixedOrders = true := by kernel_rfl
  obtain ⟨F, hF⟩ : ∃ F, suf (xs.drop i) (fs.drop (i + 1)) = F := ⟨_, rfl⟩
  rw [hF]
  have HI : Hid (J pre W ∧ Below w0.heap.size w0 W ∧ ∃ D, F = D ++ suf (xs.drop i) (fs.drop (i + 1)) ∧ J (pre ++ D) W) := ⟨hJ, hB, [], by rw [hF]; rfl, by rw [List.append_nil]; exact hJ⟩
  have HT : Hid (Told y N w0 J Jx ∧ pre.length + F.length ≤ N) := ⟨hT, by rw [← hF]; exact hN⟩
  have HND : Hid (NdAt itv w0 b xs bs) := hn
  have HKD : Hid _ := hkid
  have HNE : Hid (bs ≠ []) := fun e => by rw [e] at hbx; simp at hbx
  have HFL : Hid (fs.length = bs.length ∧ bs.length = xs.length + 1) := ⟨hbf, hbx⟩
  clear hkid hbf hbx
  clear hn hJ hB hN hT hF
  refine callsIn_of_wp Try.func56 rfl trivial ?_ rfl
  simp only [Try.ntmps56, List.size_toArray, List.length_cons, List.length_nil, Nat.reduceAdd, Nat.reduceSub, Array.replicate_succ, Array.replicate_zero, List.push_toArray, List.append_toArray, List.nil_append, List.cons_append]
  gi_wp2
  gi_loopw [1] (fun vi wr => ∃ (j : Nat) (D : List Itm), j ≤ xs.length ∧ vi = .int .i64 j ∧ Hid (Below w0.heap.size w0 wr ∧ F = D ++ suf (xs.drop j) (fs.drop (j + 1)) ∧ J (pre ++ D) wr))
    (fun vi _ => xs.length - (intOf vi).toNat)
  case atStart =>
    obtain ⟨_, h2, D, h3, h4⟩ := HI.out
    exact ⟨i, D, hi, rfl, h2, h3, h4⟩
  case round =>
    obtain ⟨j, D, hj, rfl, HR⟩ := hrel
    clear HI
    have hnd := HND.out.next itv_ne HR.out.1
    by_cases hlt : j < xs.length
    · have hlti : (j : Int) < (xs.length : Int) := by omega
      have HLF : Hid (∀ m W', Below w0.heap.size w0 W' → CallsIn Fence.wide m Try.prog 37 #[.pointer (some ⟨b, 0, none⟩)] W' fun e w'' => e = .returned (.bool false) ∧ W' = w'') := fun m W' kk => by
        have := leaf_is b xs bs W' (HND.out.next itv_ne kk)
        rw [decide_eq_false HNE.out] at this
        exact callsIn_wide.2 (this.mono (fun e w2 q => ⟨q.1, q.2.symm⟩))
      obtain ⟨u, v, c0, c1, hu, hv⟩ := hnd
      obtain ⟨yb, yo, yc, rfl, hyc, hyb, hyt⟩ := hu.itm (fun e => by rw [e] at hlt; simp at hlt)
      have y0 := (hyt j hlt).1
      have y1 := (hyt j hlt).2
      have hj1 : j + 1 < bs.length := by have := HFL.out; omega
      have hj1' : j + 1 < fs.length := by have := HFL.out; omega
      have hdr : suf (xs.drop j) (fs.drop (j + 1)) = xs[j] :: (fs[j + 1] ++ suf (xs.drop (j + 1)) (fs.drop (j + 1 + 1))) := by
        rw [List.drop_eq_getElem_cons hlt, List.drop_eq_getElem_cons hj1', suf]; simp
      have hpl : (pre ++ D).length < N := by
        have h1 := HT.out.2
        have h2 := congrArg List.length HR.out.2.1
        rw [List.length_append, hdr, List.length_cons] at h2
        rw [List.length_append]
        omega
      have HY := HT.out.1.Y (n - 1) (pre ++ D) xs[j] wr.drew (HT.out.1.B _ _ _ HR.out.2.2 (Below.refl _ _).drew) hpl
      have HDX : Hid ((D ++ [xs[j]]) ++ (fs[j + 1] ++ suf (xs.drop (j + 1)) (fs.drop (j + 1 + 1))) = F) := by show _ = _; rw [HR.out.2.1, hdr]; simp
      have HKJ : Hid (∀ m pre W, J pre W → Below w0.heap.size w0 W → pre.length + fs[j + 1].length ≤ N → CallsIn Fence.wide m Try.prog 35 #[.pointer (some ⟨bs[j + 1], 0, none⟩), .func (.yield y) #[] #[]] W (TellP J Jx w0 fs[j + 1] pre)) := fun m pre W => HKD.out (j + 1) hj1 hj1' m pre W
      have HPT : Hid (∀ W', Below w0.heap.size w0 W' → ∃ pb po pc, W'.cell? ⟨b, 1, none⟩ = some (.slice (some ⟨pb, po, none⟩) bs.length pc) ∧ W'.cell? ⟨pb, po + (j + 1), none⟩ = some (.pointer (some ⟨bs[j + 1], 0, none⟩))) := fun W' kk => by
        obtain ⟨u', v', _, e1, _, hv'⟩ := HND.out.next itv_ne kk
        obtain ⟨pb, po, pc, rfl, _, _, hpt⟩ := hv'.ptr HNE.out
        exact ⟨pb, po, pc, e1, by have := hpt (j + 1) hj1; rw [Nat.mul_one] at this; exact this⟩
      generalize bs[j + 1] = kb at *
      generalize fs[j + 1] = fk at *
      generalize xs[j] = x at *
      obtain ⟨x1, x2⟩ := x
      dsimp only at y0 y1 HY
      obtain ⟨fn, tmps, assign, body, hy, hR⟩ := HY
      clear hu hv hyt hdr hpl c1
      gi_upto_region 3 with fail
      gi_cut [34] from 60 (fun s34 wx => ∃ bb : Bool, s34 = .bool (!bb) ∧ Hid ((bb = true ∧ J (pre ++ D ++ [((x1, x2) : Itm)]) wx ∧ Below w0.heap.size wr.drew wx) ∨ (bb = false ∧ Jx (pre ++ D ++ [((x1, x2) : Itm)]) wx)))
      case first =>
        gi_region_with_o (first | (refine ⟨hdd _, ?_⟩; refine hR.mono ?_; rintro e W2 ⟨bb, rfl, hpost⟩))
        all_goals (have HP : Hid _ := hpost)
        all_goals clear hpost
        all_goals gi_wp2
        all_goals gi_meet
        all_goals exact ⟨bb, rfl, HP.out⟩
      case rest =>
        obtain ⟨bb, rfl, HP⟩ := hcut
        clear hy hR y0 y1 c0
        cases bb with
        | false =>
          have HX : Hid (Jx (pre ++ D ++ [((x1, x2) : Itm)]) wc) := by
            rcases HP.out with ⟨h, _⟩ | ⟨_, h⟩
            · cases h
            · exact h
          gi_wp2
          go_ret
          exact ⟨false, rfl, .inr ⟨rfl, D ++ [((x1, x2) : Itm)], ⟨_, HDX.out⟩, by rw [← List.append_assoc]; exact HX.out⟩⟩
        | true =>
          have HX : Hid (J (pre ++ D ++ [((x1, x2) : Itm)]) wc ∧ Below w0.heap.size w0 wc) := by
            rcases HP.out with ⟨_, h1, h2⟩ | ⟨h, _⟩
            · exact ⟨h1, HR.out.1.trans (Below.of_drew h2)⟩
            · cases h
          obtain ⟨pb, po, pc, t1, t2⟩ := HPT.out wc HX.out.2
          have hj1i : (j : Int) + 1 < (bs.length : Int) := by omega
          have wj1 : IntKind.i64.wrap ((j : Int) + 1) = (j : Int) + 1 := by rw [IntKind.wrap_i64]; omega
          have HKC : Hid (CallsIn Fence.wide (n - 1) Try.prog 35 #[.pointer (some ⟨kb, 0, none⟩), .func (.yield y) #[] #[]] wc (TellP J Jx w0 fk (pre ++ D ++ [((x1, x2) : Itm)]))) := HKJ.out _ _ _ HX.out.1 HX.out.2 (by
            have h1 := HT.out.2
            have h2 := congrArg List.length HDX.out
            simp only [List.length_append, List.length_cons, List.length_nil] at h2 ⊢
            omega)
          gi_wp2
          refine ⟨trivial, hdd _, (HLF.out (n - 1) wc HX.out.2).mono ?_⟩
          rintro e w2 ⟨rfl, rfl⟩
          gi_wp2
          refine ⟨trivial, hdd _, HKC.out.mono ?_⟩
          rintro e w4 ⟨bb, rfl, hpo⟩
          have HPO : Hid _ := hpo
          clear hpo t1 t2
          cases bb with
          | false =>
            have HQ : Hid (∃ q, q <+: fk ∧ Jx (pre ++ D ++ [((x1, x2) : Itm)] ++ q) w4) := by
              rcases HPO.out with ⟨h, _⟩ | ⟨_, h⟩
              · cases h
              · exact h
            gi_wp2
            go_ret
            obtain ⟨q, hq1, hq2⟩ := HQ.out
            refine ⟨false, rfl, .inr ⟨rfl, D ++ [((x1, x2) : Itm)] ++ q, ?_, by simp only [← List.append_assoc]; exact hq2⟩⟩
            obtain ⟨r, hr⟩ := hq1
            refine ⟨r ++ suf (xs.drop (j + 1)) (fs.drop (j + 1 + 1)), ?_⟩
            rw [← HDX.out, ← hr]; simp
          | true =>
            have HQ : Hid (J (pre ++ (D ++ [((x1, x2) : Itm)] ++ fk)) w4 ∧ Below w0.heap.size w0 w4) := by
              rcases HPO.out with ⟨_, h1, h2⟩ | ⟨h, _⟩
              · simp only [← List.append_assoc]; exact ⟨h1, h2⟩
              · cases h
            have HDY : Hid (F = (D ++ [((x1, x2) : Itm)] ++ fk) ++ suf (xs.drop (j + 1)) (fs.drop (j + 1 + 1))) := by show _ = _; rw [← HDX.out]; simp
            gi_wp2
            go_roundw
            case rel => exact ⟨j + 1, D ++ [((x1, x2) : Itm)] ++ fk, by omega, by go_num, HQ.out.2, HDY.out, HQ.out.1⟩
            case measure => simp [intOf]; omega
    · have hlti : ¬ (j : Int) < (xs.length : Int) := by omega
      have HE : Hid (F = D) := by
        show _ = _
        have := HR.out.2.1
        rw [List.drop_of_length_le (by omega)] at this
        rw [this]; simp [suf]
      obtain ⟨u, v, c0, c1, hu, hv⟩ := hnd
      obtain ⟨ia, ic, rfl⟩ := slices_shape hu
      clear hu hv c1
      gi_wp2
      go_ret
      exact ⟨true, rfl, .inl ⟨rfl, by rw [HE.out]; exact HR.out.2.2, HR.out.1⟩⟩
end Go.Proofs.Ytgebionlkmjfnaa.Sx
