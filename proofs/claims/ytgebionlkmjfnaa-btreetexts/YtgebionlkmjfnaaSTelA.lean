/- What a leaf tells behind an item. -/
import Derived.Test.YtgebionlkmjfnaaSTel
namespace Go.Proofs.Ytgebionlkmjfnaa.Sx
open Go.ChangeShapes Go.WideShapes Go.RowKit
set_option linter.unusedVariables false
set_option maxRecDepth 100000

open Go.Shelf
attribute [local go_sem] Oper.semAt_some

set_option maxHeartbeats 4000000 in
theorem behind_leaf (n y N : Nat) (w0 : World) (J Jx : List Itm → World → Prop) (hT : Told y N w0 J Jx) (b : Nat) (xs : List Itm) (hn : NdAt itv w0 b xs []) (hx : xs.length ≤ 50) (i : Nat) (hi : i ≤ xs.length) (pre : List Itm) (W : World) (hJ : J pre W) (hB : Below w0.heap.size w0 W) (hN : pre.length + (xs.drop i).length ≤ N) :
    CallsIn Fence.wide n Try.prog 56 #[.pointer (some ⟨b, 0, none⟩), .int .i64 i, .func (.yield y) #[] #[]] W (TellP J Jx w0 (xs.drop i) pre) := by
  have hdd : ∀ k : Nat, (Fence.wide.depth.isSome = true → 1 ≤ k) := fun k h => by cases h
  have hmx : Try.prog.follows .mixedOrders = true := by kernel_rfl
  obtain ⟨F, hF⟩ : ∃ F, xs.drop i = F := ⟨_, rfl⟩
  rw [hF]
  have HI : Hid (J pre W ∧ Below w0.heap.size w0 W ∧ ∃ D, F = D ++ xs.drop i ∧ J (pre ++ D) W) := ⟨hJ, hB, [], by rw [hF]; rfl, by rw [List.append_nil]; exact hJ⟩
  have HT : Hid (Told y N w0 J Jx ∧ pre.length + F.length ≤ N) := ⟨hT, by rw [← hF]; exact hN⟩
  have HND : Hid (NdAt itv w0 b xs []) := hn
  clear hn hJ hB hN hT hF
  refine callsIn_of_wp Try.func56 rfl trivial ?_ rfl
  simp only [Try.ntmps56, List.size_toArray, List.length_cons, List.length_nil, Nat.reduceAdd, Nat.reduceSub, Array.replicate_succ, Array.replicate_zero, List.push_toArray, List.append_toArray, List.nil_append, List.cons_append]
  gi_wp2
  gi_loopw [1] (fun vi wr => ∃ (j : Nat) (D : List Itm), j ≤ xs.length ∧ vi = .int .i64 j ∧ Hid (Below w0.heap.size w0 wr ∧ F = D ++ xs.drop j ∧ J (pre ++ D) wr))
    (fun vi _ => xs.length - (intOf vi).toNat)
  case atStart =>
    obtain ⟨_, h2, D, h3, h4⟩ := HI.out
    exact ⟨i, D, hi, rfl, h2, h3, h4⟩
  case round =>
    obtain ⟨j, D, hj, rfl, HR⟩ := hrel
    clear HI
    have hnd := HND.out.next itv_ne HR.out.1
    by_cases hlt : j < xs.length
    · have hlti : (j : Int) < (xs.length : Int) := by omega
      have HLF : Hid (∀ m W', Below w0.heap.size w0 W' → CallsIn Fence.wide m Try.prog 37 #[.pointer (some ⟨b, 0, none⟩)] W' fun e w'' => e = .returned (.bool true) ∧ W' = w'') := fun m W' kk => by
        have := leaf_is b xs [] W' (HND.out.next itv_ne kk)
        rw [decide_eq_true rfl] at this
        exact callsIn_wide.2 (this.mono (fun e w2 q => ⟨q.1, q.2.symm⟩))
      obtain ⟨u, v, c0, c1, hu, hv⟩ := hnd
      obtain ⟨yb, yo, yc, rfl, hyc, hyb, hyt⟩ := hu.itm (fun e => by rw [e] at hlt; simp at hlt)
      have y0 := (hyt j hlt).1
      have y1 := (hyt j hlt).2
      have hdr : xs.drop j = xs[j] :: xs.drop (j + 1) := List.drop_eq_getElem_cons hlt
      have hpl : (pre ++ D).length < N := by
        have h1 := HT.out.2
        have h2 := congrArg List.length HR.out.2.1
        rw [List.length_append, hdr, List.length_cons] at h2
        rw [List.length_append]
        omega
      have HY := HT.out.1.Y (n - 1) (pre ++ D) xs[j] wr.drew (HT.out.1.B _ _ _ HR.out.2.2 (Below.refl _ _).drew) hpl
      have HDX : Hid ((D ++ [xs[j]]) ++ xs.drop (j + 1) = F) := by show _ = _; rw [HR.out.2.1, hdr]; simp
      generalize xs[j] = x at *
      obtain ⟨x1, x2⟩ := x
      dsimp only at y0 y1 HY
      obtain ⟨fn, tmps, assign, body, hy, hR⟩ := HY
      clear hu hv hyt hdr hpl c1
      gi_upto_region 3 with fail
      gi_cut [34] from 60 (fun s34 wx => ∃ bb : Bool, s34 = .bool (!bb) ∧ Hid ((bb = true ∧ J (pre ++ D ++ [((x1, x2) : Itm)]) wx ∧ Below w0.heap.size wr.drew wx) ∨ (bb = false ∧ Jx (pre ++ D ++ [((x1, x2) : Itm)]) wx)))
      case first =>
        gi_region_with_o (first | (refine ⟨hdd _, ?_⟩; refine hR.mono ?_; rintro e W2 ⟨bb, rfl, hpost⟩))
        all_goals (have HP : Hid _ := hpost)
        all_goals clear hpost
        all_goals gi_wp2
        all_goals gi_meet
        all_goals exact ⟨bb, rfl, HP.out⟩
      case rest =>
        obtain ⟨bb, rfl, HP⟩ := hcut
        clear hy hR y0 y1 c0
        cases bb with
        | false =>
          have HX : Hid (Jx (pre ++ D ++ [((x1, x2) : Itm)]) wc) := by
            rcases HP.out with ⟨h, _⟩ | ⟨_, h⟩
            · cases h
            · exact h
          gi_wp2
          go_ret
          exact ⟨false, rfl, .inr ⟨rfl, D ++ [((x1, x2) : Itm)], ⟨_, HDX.out⟩, by rw [← List.append_assoc]; exact HX.out⟩⟩
        | true =>
          have HX : Hid (J (pre ++ D ++ [((x1, x2) : Itm)]) wc ∧ Below w0.heap.size w0 wc) := by
            rcases HP.out with ⟨_, h1, h2⟩ | ⟨h, _⟩
            · exact ⟨h1, HR.out.1.trans (Below.of_drew h2)⟩
            · cases h
          gi_wp2
          refine ⟨trivial, hdd _, (HLF.out (n - 1) wc HX.out.2).mono ?_⟩
          rintro e w2 ⟨rfl, rfl⟩
          gi_wp2
          first | (refine ⟨trivial, ?_⟩; gi_wp2; go_roundw) | (refine ⟨fun _ _ => trivial, ?_⟩; gi_wp2; go_roundw)
          case rel => exact ⟨j + 1, D ++ [((x1, x2) : Itm)], by omega, by go_num, HX.out.2, HDX.out.symm, by rw [← List.append_assoc]; exact HX.out.1⟩
          case measure => simp [intOf]; omega
    · have hlti : ¬ (j : Int) < (xs.length : Int) := by omega
      have HE : Hid (F = D) := by
        show _ = _
        have := HR.out.2.1
        rw [List.drop_of_length_le (by omega)] at this
        rw [this]; simp
      obtain ⟨u, v, c0, c1, hu, hv⟩ := hnd
      obtain ⟨ia, ic, rfl⟩ := slices_shape hu
      clear hu hv c1
      gi_wp2
      go_ret
      exact ⟨true, rfl, .inl ⟨rfl, by rw [HE.out]; exact HR.out.2.2, HR.out.1⟩⟩
end Go.Proofs.Ytgebionlkmjfnaa.Sx
