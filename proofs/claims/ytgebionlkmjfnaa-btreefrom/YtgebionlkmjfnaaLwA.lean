/- The law's own lists. -/
import Derived.Test.YtgebionlkmjfnaaAwk
import Derived.Test.YtgebionlkmjfnaaCatI
namespace Go.Proofs.Ytgebionlkmjfnaa
open Go.ChangeShapes Go.WideShapes Go.RowKit
set_option linter.unusedVariables false
set_option maxRecDepth 100000

theorem info32 : (Try.prog.info? 32).map (fun i => (i.zero, i.size, i.bytes)) = some (some (.agg #[.int .i64 0, .string ⟨#[]⟩]), 2, 24) := by kernel_rfl
theorem app32_is {w : World} {v : Value} {l l' : List Itm} (h : w.ownsRow 0 32 2 v l.length (l.flatMap itv)) (u : Value) (hu : Sl itv 2 w u l') (hs : (l ++ l').length ≤ 1000) :
    ∃ v' w', (Builtin.append_ #[26, 26] 26 #[v, u]).run Try.prog w = .ok v' w' ∧ w'.ownsRow 0 32 2 v' (l ++ l').length ((l ++ l').flatMap itv) ∧ w.grownBy w' v.ownBlock ∧ (v'.ownBlock = v.ownBlock ∨ v'.ownBlock = some w.heap.size) := by
  obtain ⟨inf, hi0, hz0, hzs, hzb⟩ := info_of info32
  obtain ⟨a, c, rfl, hr, hc, hz⟩ := hu
  rw [List.length_append] at hs ⊢
  cases a with
  | none =>
    have hc0 := hz rfl
    have hl0 : l' = [] := List.eq_nil_of_length_eq_zero (by omega)
    subst hl0
    subst hc0
    obtain ⟨o, cc, rfl⟩ := own_form h
    have hr := run_append_owned_none (P := Try.prog) w 0 26 26 32 inf 2 Try.underlying26 hi0 _ _ _ h
    refine ⟨_, w, ?_, by rw [List.append_nil]; exact h, ⟨rfl, rfl, rfl, Nat.le_refl _, fun _ _ _ => rfl⟩, .inl rfl⟩
    exact hr
  | some a =>
    obtain ⟨v', w', r1, r2, r3, r4, r5⟩ := run_append_own_at (P := Try.prog) w 0 26 26 32 inf _ 2 24 Try.underlying26 hi0 hz0 hzs hzb (by simp [Value.cells]) (by omega) v l.length (l.flatMap itv) h a l'.length c (l'.flatMap itv) (flat_len itv_len l') (fun j x hx => by
      have hne : l' ≠ [] := fun e => by rw [e] at hx; simp at hx
      obtain ⟨b, o, e, hcc⟩ := hr hne
      cases e
      rw [Go.WideShapes.add_plain]
      exact rw_cells (f := itv) (k := 2) itv_len hcc j x hx) (itv_one l') (by unfold maxLen; omega) (by omega) (Nat.zero_le _)
    exact ⟨v', w', r1, by rw [List.flatMap_append]; exact r2, r3, r5⟩

theorem below_drewN {B : Nat} {w w' : World} (h : Below B w w') (n : Nat) : Below B w (w'.drewN n) := ⟨h.os, h.tape, h.output, h.size, h.block⟩
/-- A list that the law makes. -/
structure Own (w0 : World) (l : List Itm) (w : World) (v : Value) : Prop where
  own : w.ownsRow 0 32 2 v l.length (l.flatMap itv)
  bel : Below w0.heap.size w0 w
  new : ∀ g, v.ownBlock = some g → w0.heap.size ≤ g
theorem Own.nil (w : World) : Own w [] w (.slice none 0 0) := ⟨World.ownsRow_nil _ _ _ _, Below.refl _ _, fun g hg => by cases hg⟩
theorem Own.draws {w0 : World} {l : List Itm} {w : World} {v : Value} (h : Own w0 l w v) (n : Nat) : Own w0 l (w.drewN n) v := ⟨ownsRow_kept h.own (fun _ _ => rfl), below_drewN h.bel n, h.new⟩
theorem Own.push {w0 : World} {l : List Itm} {w : World} {v : Value} (h : Own w0 l w v) (x : Itm) (hs : l.length < 1000) : ∃ v' w', (Builtin.append_ #[26, 26] 26 #[v, .slice (some ⟨w.heap.size, 0, none⟩) 1 1]).run Try.prog (w.alloc (.cells #[.int .i64 x.1, .string x.2] 32)) = .ok v' w' ∧ Own w0 (l ++ [x]) w' v' := by
  have hB : Below w0.heap.size w0 (w.alloc (.cells #[.int .i64 x.1, .string x.2] 32)) := Below.next h.bel (below1 _ _)
  have ho : (w.alloc (.cells #[.int .i64 x.1, .string x.2] 32)).ownsRow 0 32 2 v l.length (l.flatMap itv) := ownsRow_kept h.own (fun g hg => (below1 w _).block g (World.ownsRow.lt h.own g hg).2)
  have hu : Sl itv 2 (w.alloc (.cells #[.int .i64 x.1, .string x.2] 32)) (.slice (some ⟨w.heap.size, 0, none⟩) 1 1) [x] := ⟨_, 1, rfl, rw_lit itv_len (CellsF.at _ 32 (by simp) rfl), Nat.le_refl _, fun e => by cases e⟩
  obtain ⟨v', w', r1, r2, r3, r5⟩ := app32_is ho _ hu (by simp; omega)
  refine ⟨v', w', r1, r2, hB.grown r3 hB.size (fun q hq => h.new q hq), fun g hg => ?_⟩
  rcases r5 with e | e
  · rw [e] at hg; exact h.new g hg
  · rw [e] at hg; cases hg; exact hB.size
theorem Own.sl {w0 : World} {l : List Itm} {w : World} {v : Value} (h : Own w0 l w v) : Sl itv 2 w v l := own_rw itv_len h.own
theorem take_snoc {l : List Itm} {j : Nat} (h : j < l.length) : l.take (j + 1) = l.take j ++ [l[j]] := by rw [List.take_add_one, List.getElem?_eq_getElem h]; rfl
theorem delL_app (l l' : List Itm) (k : Int) : delL (l ++ l') k = delL l k ++ delL l' k := List.filter_append ..
theorem isK_int (k : Int) (x : Itm) : isK k x = true ↔ x.1 = k := by
  unfold isK
  rw [decide_eq_true_iff]
  exact KOrd.zero _ _
theorem delL_keep {k : Int} {x : Itm} (h : ¬ x.1 = k) : delL [x] k = [x] := by
  unfold delL
  rw [List.filter_cons_of_pos (by cases hb : isK k x with | false => rfl | true => exact absurd ((isK_int k x).1 hb) h)]; rfl
theorem delL_drop {k : Int} {x : Itm} (h : x.1 = k) : delL [x] k = [] := by
  unfold delL
  rw [List.filter_cons_of_neg (by rw [(isK_int k x).2 h]; simp)]; rfl
theorem delL_le (l : List Itm) (k : Int) : (delL l k).length ≤ l.length := List.length_filter_le ..

set_option maxHeartbeats 4000000 in
theorem lwithout_is (a : Option Addr) (c : Nat) (l : List Itm) (k : Int) (w : World) (hs : Sl itv 2 w (.slice a l.length c) l) (hn : l.length ≤ 900) :
    Calls Try.prog 10 #[.slice a l.length c, .int .i64 k] w fun e w' => ∃ v', e = .returned v' ∧ Own w (delL l k) w' v' := by
  have HS : Hid (Sl itv 2 w (.slice a l.length c) l) := hs
  clear hs
  have HO0 : Hid (Own w (delL (l.take 0) k) w (.slice none 0 0)) := Own.nil w
  go_enter Try.func10, Try.ntmps10
  go_wp2_with fail
  go_loopw [5, 6] (fun v5 vi wr => ∃ (j : Nat) (vv : Value), j ≤ l.length ∧ vi = .int .i64 j ∧ vv = v5 ∧ Hid (Own w (delL (l.take j) k) wr vv))
    (fun _ vi _ => l.length - (intOf vi).toNat)
  case atStart => exact ⟨0, _, Nat.zero_le _, rfl, rfl, HO0.out⟩
  case round =>
    clear HO0
    obtain ⟨j, vv, hj, rfl, rfl, HO⟩ := hrel
    by_cases hlt : j < l.length
    · have hlti : (j : Int) < (l.length : Int) := by omega
      have hsl := HS.out.next itv_ne HO.out.bel
      obtain ⟨yb, yo, yc, hsv, hyc, hyb, hyt⟩ := hsl.itm (fun e => by rw [e] at hlt; simp at hlt)
      cases hsv
      obtain ⟨y0, y1⟩ := hyt j hlt
      have htk := take_snoc hlt
      have hdl := delL_app (l.take j) [l[j]] k
      rw [← htk] at hdl
      generalize l[j] = x at *
      by_cases hx : x.1 = k
      · rw [delL_drop hx, List.append_nil] at hdl
        have HN : Hid (Own w (delL (l.take (j + 1)) k) wr vv) := by show Own _ _ _ _; rw [hdl]; exact HO.out
        have hxb : (x.1 == k) = true := by simpa using hx
        clear HO hsl hyt hdl htk
        go_wp2_with fail
        go_roundw
        case rel => exact ⟨j + 1, _, by omega, by go_num, rfl, HN.out⟩
        case measure => simp [intOf]; omega
      · rw [delL_keep hx] at hdl
        have hxb : (x.1 == k) = false := by simpa using hx
        obtain ⟨v', w', r1, r2⟩ := HO.out.push x (by have := delL_le (l.take j) k; rw [List.length_take] at this; omega)
        rw [← hdl] at r2
        have RA : Hid _ := r1
        have HN : Hid (Own w (delL (l.take (j + 1)) k) w' v') := r2
        clear HO hsl hyt hdl htk r1 r2
        go_wp2_with (first | ((with_reducible apply st_append (x := .tmp 20)); (case ho => rfl); (case hgd => rfl); (case hr => exact RA.out)))
        go_roundw
        case rel => exact ⟨j + 1, _, by omega, by go_num, rfl, HN.out⟩
        case measure => simp [intOf]; omega
    · have hlti : ¬ (j : Int) < (l.length : Int) := by omega
      have HE : Hid (Own w (delL l k) wr vv) := by
        have := HO.out
        rw [List.take_of_length_le (by omega)] at this
        exact this
      clear HO
      go_wp2_with fail
      go_ret
      exact ⟨vv, rfl, HE.out⟩
end Go.Proofs.Ytgebionlkmjfnaa
