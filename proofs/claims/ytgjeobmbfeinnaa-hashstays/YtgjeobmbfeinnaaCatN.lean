/- slices.Grow, slices.Concat, slices.Clone of items. -/
import Derived.Test.YtgjeobmbfeinnaaMm
import Derived.Maps.AppendAt
namespace Go.Proofs.Ytgjeobmbfeinnaa
open Go.ChangeShapes Go.WideShapes Go.RowKit
set_option linter.unusedVariables false
set_option maxRecDepth 100000

set_option maxHeartbeats 2000000 in
theorem growN_is (n : Nat) (hn : n ≤ 1000) (w : World) :
    Calls Try.prog 37 #[.slice none 0 0, .int .i64 n] w fun e w' => ∃ v, e = .returned v ∧ Fresh 3 1 [] 0 w w' v := by
  obtain ⟨inf, hi0, hz0, hzs, hzb⟩ := info_of info3
  by_cases h0 : n = 0
  · subst h0
    go_enter Try.func37, Try.ntmps37
    go_wp2_with fail
    go_ret
    exact ⟨_, rfl, World.ownsRow_nil _ _ _ _, Below.refl _ _, fun g hg => by cases hg⟩
  · obtain ⟨G, hG⟩ : ∃ G, G = grownCap w n 0 3 := ⟨_, rfl⟩
    have hGge : n ≤ G := by rw [hG]; exact grownCap_ge _ _ _ _
    have hGle : G ≤ maxLen := by rw [hG]; exact grownCap_le_maxLen _ _ _ _ (by unfold maxLen; omega)
    obtain ⟨R, hR⟩ : ∃ R : Array Value, R = Builtin.zeroCells (Value.cells (.int .i64 0)) n ++ Builtin.zeroCells (Value.cells (.int .i64 0)) (G - n) := ⟨_, rfl⟩
    have hRs : R.size = G * 1 := by
      rw [hR, Array.size_append, size_zeroCells, size_zeroCells, show (Value.cells (.int .i64 0)).size = 1 by rfl]
      omega
    have RZ : Hid (∀ ty, (Builtin.append_ #[36, 3] ty #[.slice none 0 0, .int .i64 n]).run Try.prog w = .ok (.slice (some ⟨w.heap.size, 0, none⟩) n G) (w.drew.alloc (.cells R 3))) := fun ty => by
      have h := Lib.run_append_grow_zeros (P := Try.prog) w 36 3 ty 3 inf _ .i64 .i64 Try.underlying36 Try.underlying3 hi0 hz0 none 0 0 [] (run_firstCells_none w.drew inf.size 0 0 0) n (by omega) (by omega) (by omega) (by omega) (by rw [hzb]; omega) (by rw [hzb]; exact growslice_fits (by omega) (by omega))
      rw [Nat.zero_add, ← hG] at h
      rw [hR, h]
      simp
    have HF : Hid (Fresh 3 1 [] 0 w (w.drew.alloc (.cells R 3)) (.slice (some ⟨w.heap.size, 0, none⟩) 0 G)) := by
      refine ⟨World.ownsRow_made w.drew R G (Nat.zero_le _) hGle hRs, Below.of_drew (below1 w.drew _), fun g hg => ?_⟩
      cases hg
      exact ⟨Nat.le_refl _, by rw [size_alloc]; exact Nat.lt_succ_self _⟩
    have hgt : (0 : Int) < (n : Int) := by omega
    have hG63 : G ≤ 9223372036854775807 := by unfold maxLen at hGle; omega
    clear hG hR hRs hGle
    go_enter Try.func37, Try.ntmps37
    go_wp2_with (first | ((with_reducible apply st_append (x := .tmp 20)); (case ho => rfl); (case hgd => rfl); (case hr => exact RZ.out _)))
    go_ret
    exact ⟨_, rfl, HF.out⟩
theorem appN_is {w : World} {v : Value} {l l' : List Int} (h : w.ownsRow 0 3 1 v l.length (l.flatMap iv)) (u : Value) (hu : Sl iv 1 w u l') (hs : (l ++ l').length ≤ 1000) :
    ∃ v' w', (Builtin.append_ #[36, 36] 36 #[v, u]).run Try.prog w = .ok v' w' ∧ w'.ownsRow 0 3 1 v' (l ++ l').length ((l ++ l').flatMap iv) ∧ w.grownBy w' v.ownBlock ∧ (v'.ownBlock = v.ownBlock ∨ v'.ownBlock = some w.heap.size) := by
  obtain ⟨inf, hi0, hz0, hzs, hzb⟩ := info_of info3
  obtain ⟨a, c, rfl, hr, hc, hz⟩ := hu
  rw [List.length_append] at hs ⊢
  cases a with
  | none =>
    have hc0 := hz rfl
    have hl0 : l' = [] := List.eq_nil_of_length_eq_zero (by omega)
    subst hl0
    subst hc0
    obtain ⟨o, cc, rfl⟩ := own_form h
    have hr := run_append_owned_none (P := Try.prog) w 0 36 36 3 inf 1 Try.underlying36 hi0 _ _ _ h
    refine ⟨_, w, ?_, by rw [List.append_nil]; exact h, ⟨rfl, rfl, rfl, Nat.le_refl _, fun _ _ _ => rfl⟩, .inl rfl⟩
    exact hr
  | some a =>
    obtain ⟨v', w', r1, r2, r3, r4, r5⟩ := run_append_own_at (P := Try.prog) w 0 36 36 3 inf _ 1 8 Try.underlying36 hi0 hz0 hzs hzb (by simp [Value.cells]) (by omega) v l.length (l.flatMap iv) h a l'.length c (l'.flatMap iv) (flat_len iv_len l') (fun j x hx => by
      have hne : l' ≠ [] := fun e => by rw [e] at hx; simp at hx
      obtain ⟨b, o, e, hcc⟩ := hr hne
      cases e
      rw [Go.WideShapes.add_plain]
      exact rw_cells (f := iv) (k := 1) iv_len hcc j x hx) (iv_one l') (by unfold maxLen; omega) (by omega) (Nat.zero_le _)
    exact ⟨v', w', r1, by rw [List.flatMap_append]; exact r2, r3, r5⟩
theorem take_flatN {ls : List (List Int)} {i : Nat} {l : List Int} (h : ls[i]? = some l) : (ls.take (i + 1)).flatten = (ls.take i).flatten ++ l := by
  rw [List.take_add_one, h]; simp
theorem flat_leN (ls : List (List Int)) (i : Nat) : (ls.take i).flatten.length ≤ ls.flatten.length := by
  have := congrArg List.length (congrArg List.flatten (List.take_append_drop i ls))
  rw [List.flatten_append, List.length_append] at this
  omega
set_option maxHeartbeats 4000000 in
theorem concatN_is (B m : Nat) (vs : List Value) (ls : List (List Int)) (hl : ls.length = m) (hv : vs.length = m) (hm3 : m ≤ 3) (L : List Int) (hL : ls.flatten = L) (htot : L.length ≤ 1000) (w : World) (hc : ∀ (i : Nat) v, vs[i]? = some v → w.cell? ⟨B, i, none⟩ = some v) (hs : ∀ (i : Nat) v l, vs[i]? = some v → ls[i]? = some l → Sl iv 1 w v l) :
    Calls Try.prog 24 #[.slice (some ⟨B, 0, none⟩) m m] w fun e w' => ∃ v, e = .returned v ∧ Fresh 3 1 (L.flatMap iv) L.length w w' v := by
  rw [← hL] at htot
  have HL : Hid (ls.flatten = L) := hL
  have HM : Hid (ls.length = m ∧ vs.length = m ∧ ls.flatten.length ≤ 1000 ∧ (∀ (i : Nat) v, vs[i]? = some v → w.cell? ⟨B, i, none⟩ = some v) ∧ (∀ (i : Nat) v l, vs[i]? = some v → ls[i]? = some l → Sl iv 1 w v l)) := ⟨hl, hv, htot, hc, hs⟩
  have HG : Hid (∀ n : Nat, n ≤ 1000 → ∀ w', Calls Try.prog 37 #[.slice none 0 0, .int .i64 n] w' fun e w'' => ∃ v, e = .returned v ∧ Fresh 3 1 [] 0 w' w'' v) := fun n hn w' => growN_is n hn w'
  clear hl hv htot hc hs hL
  go_enter Try.func24, Try.ntmps24
  go_wp2_with fail
  go_loopw [3, 11] (fun vs vi wr => ∃ j s : Nat, j ≤ m ∧ vi = .int .i64 j ∧ vs = .int .i64 s ∧ w = wr ∧ Hid ((ls.take j).flatten.length = s))
    (fun _ vi _ => m - (intOf vi).toNat)
  case atStart => exact ⟨0, 0, Nat.zero_le _, rfl, rfl, rfl, by simp [Hid]⟩
  case round =>
    obtain ⟨j, s, hj, rfl, rfl, rfl, HS⟩ := hrel
    by_cases hlt : j < m
    · have hlti : (j : Int) < (m : Int) := by omega
      obtain ⟨v, hv⟩ : ∃ v, vs[j]? = some v := ⟨_, List.getElem?_eq_getElem (by rw [HM.out.2.1]; exact hlt)⟩
      obtain ⟨l, hl⟩ : ∃ l, ls[j]? = some l := ⟨_, List.getElem?_eq_getElem (by rw [HM.out.1]; exact hlt)⟩
      obtain ⟨a, c, rfl, _, _, _⟩ := HM.out.2.2.2.2 j v l hv hl
      have x0 := HM.out.2.2.2.1 j _ hv
      have HT : Hid ((ls.take (j + 1)).flatten.length = s + l.length) := by show _ = _; rw [take_flatN hl, List.length_append, HS.out]
      have hb : s + l.length ≤ 1000 := by rw [← HT.out]; exact Nat.le_trans (flat_leN ls _) HM.out.2.2.1
      have hng : ¬ ((s : Int) + (l.length : Int) < 0) := by omega
      go_wp2_with fail
      go_roundw
      case rel => exact ⟨j + 1, s + l.length, by omega, by go_num, by go_num, by first | rfl | trivial, HT.out⟩
      case measure => simp [intOf]; omega
    · have hlti : ¬ (j : Int) < (m : Int) := by omega
      have hs1 : s ≤ 1000 := by rw [← HS.out]; exact Nat.le_trans (flat_leN ls _) HM.out.2.2.1
      clear HS
      go_wp2_with fail
      refine Calls.mono (HG.out s hs1 _) ?_; rintro e w1 ⟨v0, rfl, hf1⟩
      have HF1 : Hid _ := hf1
      clear hf1
      go_wp2_with fail
      go_loopw [6, 27] (fun v6 vi wr => ∃ (j : Nat) (vv : Value), j ≤ m ∧ vi = .int .i64 j ∧ vv = v6 ∧ Hid (wr.ownsRow 0 3 1 vv (ls.take j).flatten.length ((ls.take j).flatten.flatMap iv) ∧ Below w.heap.size w wr ∧ (∀ g, vv.ownBlock = some g → w.heap.size ≤ g)))
        (fun _ vi _ => m - (intOf vi).toNat)
      case atStart => exact ⟨0, _, Nat.zero_le _, rfl, rfl, HF1.out.own, HF1.out.bel, fun g hg => (HF1.out.new g hg).1⟩
      case round =>
        clear HF1 hlt hlti hs1
        obtain ⟨j, vv, hj, rfl, rfl, HI⟩ := hrel
        by_cases hlt : j < m
        · have hlti : (j : Int) < (m : Int) := by omega
          obtain ⟨v, hv⟩ : ∃ v, vs[j]? = some v := ⟨_, List.getElem?_eq_getElem (by rw [HM.out.2.1]; exact hlt)⟩
          obtain ⟨l, hl⟩ : ∃ l, ls[j]? = some l := ⟨_, List.getElem?_eq_getElem (by rw [HM.out.1]; exact hlt)⟩
          have hsl := HM.out.2.2.2.2 j v l hv hl
          have x0 := HM.out.2.2.2.1 j _ hv
          have x1 := (World.cell?_of_block (a := ⟨B, j, none⟩) (HI.out.2.1.block B (World.block_lt_of_cell? w _ x0))).trans x0
          have hfe := take_flatN hl
          have hbb := flat_leN ls (j + 1)
          rw [hfe] at hbb
          obtain ⟨v', w', r1, r2, r3, r5⟩ := appN_is HI.out.1 v (hsl.next iv_ne HI.out.2.1) (Nat.le_trans hbb HM.out.2.2.1)
          have RA : Hid ((Builtin.append_ #[36, 36] 36 #[vv, v]).run Try.prog wr = .ok v' w') := r1
          have HN : Hid (w'.ownsRow 0 3 1 v' (ls.take (j + 1)).flatten.length ((ls.take (j + 1)).flatten.flatMap iv) ∧ Below w.heap.size w w' ∧ (∀ g, v'.ownBlock = some g → w.heap.size ≤ g)) := by
            refine ⟨by rw [hfe]; exact r2, HI.out.2.1.grown r3 HI.out.2.1.size (fun q hq => HI.out.2.2 q hq), fun g hg => ?_⟩
            rcases r5 with e | e
            · rw [e] at hg; exact HI.out.2.2 g hg
            · rw [e] at hg; cases hg; exact HI.out.2.1.size
          obtain ⟨a, c, rfl, _, _, _⟩ := hsl
          clear r1 r2 r3 r5 hfe hbb x0 hv hl HI
          go_wp2_with (first | ((with_reducible apply st_append (x := .tmp 31)); (case ho => rfl); (case hgd => rfl); (case hr => exact RA.out)))
          go_roundw
          case rel => exact ⟨j + 1, _, by omega, by go_num, rfl, HN.out⟩
          case measure => simp [intOf]; omega
        · have hlti : ¬ (j : Int) < (m : Int) := by omega
          have HE : Hid (wr.ownsRow 0 3 1 vv L.length (L.flatMap iv) ∧ Below w.heap.size w wr ∧ (∀ g, vv.ownBlock = some g → w.heap.size ≤ g)) := by
            have := HI.out
            rw [List.take_of_length_le (by rw [HM.out.1]; omega), HL.out] at this
            exact this
          clear HI
          go_wp2_with fail
          go_ret
          exact ⟨vv, rfl, HE.out.1, HE.out.2.1, fun g hg => ⟨HE.out.2.2 g hg, (World.ownsRow.lt HE.out.1 g hg).2⟩⟩
set_option maxHeartbeats 1000000 in
theorem cloneN_is (v : Value) (l : List Int) (hn : l.length ≤ 1000) (w : World) (hs : Sl iv 1 w v l) :
    Calls Try.prog 18 #[v] w fun e w' => ∃ v', e = .returned v' ∧ Fresh 3 1 (l.flatMap iv) l.length w w' v' := by
  have hs' := hs
  obtain ⟨a, c, rfl, hr, hc, hz⟩ := hs
  cases a with
  | none =>
    have hc0 := hz rfl
    have hl0 : l = [] := List.eq_nil_of_length_eq_zero (by omega)
    subst hl0
    subst hc0
    have he : ∀ w : World, (binOp .eql 36 (.slice none 0 0) (.slice none 0 0)).run Try.prog w = .ok (.bool true) w := fun _ => rfl
    go_enter Try.func18, Try.ntmps18
    go_wp2_with fail
    go_ret
    exact ⟨_, rfl, World.ownsRow_nil _ _ _ _, Below.refl _ _, fun g hg => by cases hg⟩
  | some a =>
    obtain ⟨W, hW⟩ : ∃ W, w.alloc (.cells #[] 3) = W := ⟨_, rfl⟩
    have hB : Below w.heap.size w W := hW ▸ below1 _ _
    have hzW : W.heap.size = w.heap.size + 1 := by rw [← hW, size_alloc]
    have hO : W.ownsRow 0 3 1 (.slice (some ⟨w.heap.size, 0, none⟩) 0 0) ([] : List Int).length (([] : List Int).flatMap iv) := by rw [← hW]; exact World.ownsRow_made w #[] 0 (Nat.zero_le _) (Nat.zero_le _) rfl
    obtain ⟨v', w', r1, r2, r3, r5⟩ := appN_is hO _ (hs'.next iv_ne hB) (by simpa using hn)
    rw [List.nil_append] at r2
    have HO : Hid (Fresh 3 1 (l.flatMap iv) l.length w w' v') := by
      refine ⟨r2, hB.grown r3 (by omega) (fun q hq => by cases hq; exact Nat.le_refl _), fun g hg => ⟨?_, (World.ownsRow.lt r2 g hg).2⟩⟩
      rcases r5 with e | e
      · rw [e] at hg; cases hg; exact Nat.le_refl _
      · rw [e] at hg; cases hg; omega
    have RA : Hid _ := r1
    clear r1 r2 r3 r5 hO hr hz hB hzW hs'
    obtain ⟨ab, ao, asp⟩ := a
    have HW : Hid _ := hW
    clear hW
    have he : ∀ w : World, (binOp .eql 36 (.slice (some ⟨ab, ao, asp⟩) l.length c) (.slice none 0 0)).run Try.prog w = .ok (.bool false) w := fun _ => rfl
    go_enter Try.func18, Try.ntmps18
    go_wp2_with (first | ((with_reducible apply st_append (x := .tmp 5)); (case ho => rfl); (case hgd => rfl); (case hr => (rw [HW.out]; exact RA.out))))
    go_ret
    exact ⟨_, rfl, HO.out⟩
end Go.Proofs.Ytgjeobmbfeinnaa
