/- does. -/
import Derived.Test.YtgjeobmbfeinnaaDon
import Derived.Test.YtgjeobmbfeinnaaCatR
namespace Go.Proofs.Ytgjeobmbfeinnaa
open Go.ChangeShapes Go.WideShapes Go.RowKit
set_option linter.unusedVariables false
set_option maxRecDepth 100000

/-- The pairs that are kept. -/
def kept (kd : Int) (p : Pr) (l : List Pr) : List Pr := l.filter (fun q => decide (¬ (q = p ∧ kd = 1)))
theorem kept_take {kd : Int} {p : Pr} {l : List Pr} {i : Nat} {x : Pr} (h : l[i]? = some x) : kept kd p (l.take (i + 1)) = if x = p ∧ kd = 1 then kept kd p (l.take i) else kept kd p (l.take i) ++ [x] := by
  unfold kept
  rw [take_succ h, List.filter_append]
  by_cases c : x = p ∧ kd = 1
  · rw [if_pos c, List.filter_cons_of_neg (p := fun q => decide (¬ (q = p ∧ kd = 1))) (by rw [decide_eq_true_iff]; exact fun q => q c)]; simp
  · rw [if_neg c, List.filter_cons_of_pos (p := fun q => decide (¬ (q = p ∧ kd = 1))) (decide_eq_true c)]; simp
theorem kept_len (kd : Int) (p : Pr) (l : List Pr) (i : Nat) : (kept kd p (l.take i)).length ≤ l.length := Nat.le_trans (List.length_filter_le _ _) (by rw [List.length_take]; omega)
/-- One pair behind others, in a row of the call's own. -/
theorem app_pair {w : World} {v : Value} {l : List Pr} (h : w.ownsRow 0 43 4 v l.length (l.flatMap pv)) (p : Pr) (hs : l.length ≤ 990) :
    ∃ v' w', (Builtin.append_ #[28, 28] 28 #[v, .slice (some ⟨w.heap.size, 0, none⟩) 1 1]).run Try.prog (w.alloc (.cells #[.int .i64 p.v.k, .int .i64 p.v.n, .string p.v.s, .int .i64 p.n] 43)) = .ok v' w' ∧ w'.ownsRow 0 43 4 v' (l ++ [p]).length ((l ++ [p]).flatMap pv) ∧ w.grownBy w' v.ownBlock ∧ (v'.ownBlock = v.ownBlock ∨ ∃ k, v'.ownBlock = some k ∧ w.heap.size ≤ k) := by
  have hb := below1 w (.cells #[.int .i64 p.v.k, .int .i64 p.v.n, .string p.v.s, .int .i64 p.n] 43)
  obtain ⟨v', w', r1, r2, r3, r4⟩ := appR_is (w := w.alloc (.cells #[.int .i64 p.v.k, .int .i64 p.v.n, .string p.v.s, .int .i64 p.n] 43)) (l := l) (l' := [p]) (ownsRow_kept h (fun g hg => hb.block g (World.ownsRow.lt h g hg).2)) (.slice (some ⟨w.heap.size, 0, none⟩) 1 1) ⟨some ⟨w.heap.size, 0, none⟩, 1, rfl, rw_lit pv_len (CellsF.new w [.int .i64 p.v.k, .int .i64 p.v.n, .string p.v.s, .int .i64 p.n] 43 (by simp)), Nat.le_refl _, fun e => by cases e⟩ (by rw [List.length_append]; simp; omega)
  refine ⟨v', w', r1, r2, gb_trans (gb_below (gb_refl w _) hb) r3, ?_⟩
  rcases r4 with e | e
  · exact .inl e
  · exact .inr ⟨_, e, by rw [size_alloc]; omega⟩

/-- Whether two pairs are the same. -/
theorem same_pair (x y : Pr) (w : World) : (binOp .eql 43 (.agg #[.int .i64 x.v.k, .int .i64 x.v.n, .string x.v.s, .int .i64 x.n]) (.agg #[.int .i64 y.v.k, .int .i64 y.v.n, .string y.v.s, .int .i64 y.n])).run Try.prog w = .ok (.bool (decide (x = y))) w := by
  obtain ⟨⟨k, n, s⟩, i⟩ := x
  obtain ⟨⟨k', n', s'⟩, i'⟩ := y
  have hs : s = s' ↔ s.toList = s'.toList := ⟨fun e => by rw [e], byte_inj⟩
  simp [go_sem]
  by_cases h1 : k = k' <;> by_cases h2 : n = n' <;> by_cases h3 : s.toList = s'.toList <;> by_cases h4 : i = i' <;> simp [h1, h2, h3, h4, hs]
set_option maxHeartbeats 8000000 in
theorem does_is (a : Option Addr) (cc : Nat) (l : List Pr) (hl : l.length ≤ 900) (kd n : Int) (x : Val) (hx : x.fit) (w : World) (hu : Sl pv 4 w (.slice a l.length cc) l) :
    Calls Try.prog 9 #[.slice a l.length cc, .agg #[.int .i64 kd, .int .i64 n, .int .i64 x.k, .int .i64 x.n, .string x.s]] w fun e w' => ∃ v', e = .returned v' ∧ Sl pv 4 w' v' (kept kd ⟨x, n⟩ l ++ (if ¬ kd = 1 ∧ (⟨x, n⟩ : Pr) ∉ l ∧ may x then [⟨x, n⟩] else [])) ∧ Below w.heap.size w w' := by
  have HSL : Hid (Sl pv 4 w (.slice a l.length cc) l) := hu
  have HMY : Hid (∀ w, Calls Try.prog 17 #[x.v] w fun e w' => e = .returned (.bool (decide (may x))) ∧ Below w.heap.size w w') := fun w => refMay_is x.k x.n x.s hx w
  obtain ⟨N, hN⟩ : ∃ N, l.length = N := ⟨_, rfl⟩
  have HN : Hid (l.length = N) := hN
  rw [hN] at hl HSL ⊢
  obtain ⟨P, hP⟩ : ∃ P : Pr, (⟨x, n⟩ : Pr) = P := ⟨_, rfl⟩
  rw [hP]
  have HP : Hid ((⟨x, n⟩ : Pr) = P) := hP
  obtain ⟨LR, hLR⟩ : ∃ LR, kept kd P l ++ (if ¬ kd = 1 ∧ P ∉ l ∧ may x then [P] else []) = LR := ⟨_, rfl⟩
  have HLR : Hid (kept kd P l ++ (if ¬ kd = 1 ∧ P ∉ l ∧ may x then [P] else []) = LR) := hLR
  rw [hLR]
  have HA0 : Hid (Blk (w.alloc (.cells #[.int .i64 kd, .int .i64 n, .int .i64 x.k, .int .i64 x.n, .string x.s] 30)) w.heap.size 30 [.int .i64 kd, .int .i64 n, .int .i64 x.k, .int .i64 x.n, .string x.s] ∧ Below w.heap.size w (w.alloc (.cells #[.int .i64 kd, .int .i64 n, .int .i64 x.k, .int .i64 x.n, .string x.s] 30))) := ⟨Blk.new w 30 [.int .i64 kd, .int .i64 n, .int .i64 x.k, .int .i64 x.n, .string x.s], below1 _ _⟩
  clear hN hP hu hx hLR
  go_enter Try.func9, Try.ntmps9
  go_wp2_with fail
  go_loopw [5, 6, 7] (fun v5 v6 v7 wr => ∃ (i : Nat) (vv : Value) (th : Bool), i ≤ N ∧ vv = v5 ∧ v6 = .bool th ∧ v7 = .int .i64 i ∧ Hid (wr.ownsRow 0 43 4 vv (kept kd P (l.take i)).length ((kept kd P (l.take i)).flatMap pv) ∧ Below w.heap.size w wr ∧ Blk wr w.heap.size 30 [.int .i64 kd, .int .i64 n, .int .i64 x.k, .int .i64 x.n, .string x.s] ∧ (∀ g, vv.ownBlock = some g → w.heap.size < g) ∧ th = decide (P ∈ l.take i)))
    (fun _ _ v7 _ => N - (intOf v7).toNat)
  case atStart => exact ⟨0, _, false, Nat.zero_le _, rfl, rfl, rfl, World.ownsRow_nil _ _ _ _, HA0.out.2, HA0.out.1, (fun g hg => by cases hg), (by simp)⟩
  case round =>
    clear HA0
    obtain ⟨i, vv, th, hi, rfl, rfl, rfl, HI⟩ := hrel
    by_cases hlt : i < N
    · have hlti : (i : Int) < (N : Int) := by omega
      have hil : i < l.length := by have := HN.out; omega
      obtain ⟨b, o, c', hv, hc', hb, hcs⟩ := HSL.out.prs (fun e => by rw [e] at hil; simp at hil)
      rw [HN.out] at hv
      cases hv
      obtain ⟨z0, z1, z2, z3⟩ := hcs i hil
      have hblk := HI.out.2.1.block b hb
      have y0 := (World.cell?_of_block (a := ⟨b, o + i * 4, none⟩) hblk).trans z0
      have y1 := (World.cell?_of_block (a := ⟨b, o + i * 4 + 1, none⟩) hblk).trans z1
      have y2 := (World.cell?_of_block (a := ⟨b, o + i * 4 + 2, none⟩) hblk).trans z2
      have y3 := (World.cell?_of_block (a := ⟨b, o + i * 4 + 3, none⟩) hblk).trans z3
      have a0 := HI.out.2.2.1.cell (i := 0) rfl
      have a1 := HI.out.2.2.1.cell (i := 1) rfl
      have a2 := HI.out.2.2.1.cell (i := 2) rfl
      have a3 := HI.out.2.2.1.cell (i := 3) rfl
      have a4 := HI.out.2.2.1.cell (i := 4) rfl
      have HXI : Hid (l[i]? = some l[i]) := List.getElem?_eq_getElem hil
      have hE : ∀ w, (binOp .eql 43 (.agg #[.int .i64 l[i].v.k, .int .i64 l[i].v.n, .string l[i].v.s, .int .i64 l[i].n]) (.agg #[.int .i64 x.k, .int .i64 x.n, .string x.s, .int .i64 n])).run Try.prog w = .ok (.bool (decide (l[i] = P))) w := fun w => by
        have := same_pair l[i] ⟨x, n⟩ w
        rw [show decide (l[i] = ⟨x, n⟩) = decide (l[i] = P) by rw [HP.out]] at this
        exact this
      obtain ⟨sm, hsm⟩ : ∃ sm, decide (l[i] = P) = sm := ⟨_, rfl⟩
      rw [hsm] at hE
      have HSM : Hid (decide (l[i] = P) = sm) := hsm
      have HTH : Hid ((th || sm) = decide (P ∈ l.take (i + 1))) := by
        show _ = _
        rw [← HSM.out, HI.out.2.2.2.2, take_succ HXI.out, ← Bool.decide_or]
        refine decide_eq_decide.2 ?_
        rw [List.mem_append, List.mem_singleton]
        exact ⟨fun q => q.elim .inl (fun e => .inr e.symm), fun q => q.elim .inl (fun e => .inr e.symm)⟩
      have HKT := kept_take (kd := kd) (p := P) HXI.out
      have HKT2 : Hid (kept kd P (l.take (i + 1)) = if l[i] = P ∧ kd = 1 then kept kd P (l.take i) else kept kd P (l.take i) ++ [l[i]]) := HKT
      have HLN : Hid ((kept kd P (l.take i)).length ≤ 900) := Nat.le_trans (kept_len kd P l i) (by have := HN.out; omega)
      have HID : Hid (∀ nq, (wr.drewN nq).ownsRow 0 43 4 vv (kept kd P (l.take i)).length ((kept kd P (l.take i)).flatMap pv) ∧ Below w.heap.size w (wr.drewN nq) ∧ Blk (wr.drewN nq) w.heap.size 30 [.int .i64 kd, .int .i64 n, .int .i64 x.k, .int .i64 x.n, .string x.s] ∧ (∀ k j, (wr.drewN nq).cell? ⟨k, j, none⟩ = wr.cell? ⟨k, j, none⟩)) := fun nq => ⟨HI.out.1, ⟨HI.out.2.1.os, HI.out.2.1.tape, HI.out.2.1.output, HI.out.2.1.size, HI.out.2.1.block⟩, HI.out.2.2.1, fun _ _ => rfl⟩
      have HOB : Hid (∀ g, vv.ownBlock = some g → w.heap.size < g) := HI.out.2.2.2.1
      generalize l[i] = q at *
      clear z0 z1 z2 z3 hcs hb hblk hil hsm HKT HI
      go_wp2_with fail
      go_quiet (fail)
      obtain ⟨wd, hwd⟩ : ∃ wd, wr.drewN nq = wd := ⟨_, rfl⟩
      have HD := HID.out nq
      rw [hwd] at HD ⊢
      have b0 := (HD.2.2.2 b (o + i * 4)).trans y0
      have b1 := (HD.2.2.2 b (o + i * 4 + 1)).trans y1
      have b2 := (HD.2.2.2 b (o + i * 4 + 2)).trans y2
      have b3 := (HD.2.2.2 b (o + i * 4 + 3)).trans y3
      have c0 := HD.2.2.1.cell (i := 0) rfl
      have HDD : Hid (wd.ownsRow 0 43 4 vv (kept kd P (l.take i)).length ((kept kd P (l.take i)).flatMap pv) ∧ Below w.heap.size w wd ∧ Blk wd w.heap.size 30 [.int .i64 kd, .int .i64 n, .int .i64 x.k, .int .i64 x.n, .string x.s]) := ⟨HD.1, HD.2.1, HD.2.2.1⟩
      clear HD y0 y1 y2 y3 a0 a1 a2 a3 a4 hE hwd HID
      by_cases hsk : q = P ∧ kd = 1
      · have hs1 : sm = true := by rw [← HSM.out]; exact decide_eq_true hsk.1
        subst hs1
        have hk1 : kd = 1 := hsk.2
        subst hk1
        have HE : Hid (kept 1 P (l.take (i + 1)) = kept 1 P (l.take i)) := by show _ = _; rw [HKT2.out, if_pos hsk]
        have HR : Hid (wd.ownsRow 0 43 4 vv (kept 1 P (l.take (i + 1))).length ((kept 1 P (l.take (i + 1))).flatMap pv) ∧ Below w.heap.size w wd ∧ Blk wd w.heap.size 30 [.int .i64 1, .int .i64 n, .int .i64 x.k, .int .i64 x.n, .string x.s] ∧ (∀ g, vv.ownBlock = some g → w.heap.size < g) ∧ true = decide (P ∈ l.take (i + 1))) := ⟨by rw [HE.out]; exact HDD.out.1, HDD.out.2.1, HDD.out.2.2, HOB.out, by rw [← HTH.out, Bool.or_true]⟩
        clear hsk HSM HKT2 HTH HDD
        cases th
        all_goals go_wp2_with fail
        all_goals go_roundw
        all_goals first | exact ⟨i + 1, vv, true, by omega, rfl, rfl, by go_num, HR.out⟩ | (simp [intOf]; omega)
      · obtain ⟨v', w', ra, ho, hgr, hob⟩ := app_pair HDD.out.1 q (by have := HLN.out; omega)
        have HE : Hid (kept kd P (l.take (i + 1)) = kept kd P (l.take i) ++ [q]) := by show _ = _; rw [HKT2.out, if_neg hsk]
        have hwx : w.heap.size < wd.heap.size := HDD.out.2.2.lt
        have HR : Hid (w'.ownsRow 0 43 4 v' (kept kd P (l.take (i + 1))).length ((kept kd P (l.take (i + 1))).flatMap pv) ∧ Below w.heap.size w w' ∧ Blk w' w.heap.size 30 [.int .i64 kd, .int .i64 n, .int .i64 x.k, .int .i64 x.n, .string x.s] ∧ (∀ g, v'.ownBlock = some g → w.heap.size < g) ∧ (th || sm) = decide (P ∈ l.take (i + 1))) := by
          refine ⟨by rw [HE.out]; exact ho, HDD.out.2.1.grown hgr HDD.out.2.1.size (fun k hk => by have := HOB.out k hk; omega), HDD.out.2.2.far (hgr.block _ hwx (fun e => by have := HOB.out _ e.symm; omega)), fun g hg => ?_, HTH.out⟩
          rcases hob with e | ⟨k, e, hk⟩
          · rw [e] at hg; exact HOB.out g hg
          · rw [e] at hg; cases hg; omega
        have RA : Hid ((Builtin.append_ #[28, 28] 28 #[vv, .slice (some ⟨wd.heap.size, 0, none⟩) 1 1]).run Try.prog (wd.alloc (.cells #[.int .i64 q.v.k, .int .i64 q.v.n, .string q.v.s, .int .i64 q.n] 43)) = .ok v' w') := ra
        clear ra ho hgr hob HKT2 HE HTH HDD HLN
        cases hsm : sm with
        | false =>
          rw [hsm] at HR
          cases th
          all_goals go_wp2_with (first | ((with_reducible apply st_append (x := .tmp 36)); (case ho => rfl); (case hgd => rfl); (case hr => exact RA.out)))
          all_goals go_roundw
          all_goals first | exact ⟨i + 1, v', _, by omega, rfl, rfl, by go_num, HR.out⟩ | (simp [intOf]; omega)
        | true =>
          rw [hsm] at HR
          have hkd : (kd == 1) = false := by
            have := HSM.out
            rw [hsm] at this
            simp
            exact fun e => hsk ⟨of_decide_eq_true this, e⟩
          clear hsk
          cases th
          all_goals go_wp2_with (first | ((with_reducible apply st_append (x := .tmp 36)); (case ho => rfl); (case hgd => rfl); (case hr => exact RA.out)))
          all_goals go_roundw
          all_goals first | exact ⟨i + 1, v', _, by omega, rfl, rfl, by go_num, HR.out⟩ | (simp [intOf]; omega)
    · have hlti : ¬ (i : Int) < (N : Int) := by omega
      have htk : l.take i = l := List.take_of_length_le (by have := HN.out; omega)
      have HX : Hid (wr.ownsRow 0 43 4 vv (kept kd P l).length ((kept kd P l).flatMap pv) ∧ Below w.heap.size w wr ∧ Blk wr w.heap.size 30 [.int .i64 kd, .int .i64 n, .int .i64 x.k, .int .i64 x.n, .string x.s] ∧ (∀ g, vv.ownBlock = some g → w.heap.size < g) ∧ th = decide (P ∈ l)) := by
        have := HI.out
        rw [htk] at this
        exact this
      have a0 := HX.out.2.2.1.cell (i := 0) rfl
      have a1 := HX.out.2.2.1.cell (i := 1) rfl
      have a2 := HX.out.2.2.1.cell (i := 2) rfl
      have a3 := HX.out.2.2.1.cell (i := 3) rfl
      have a4 := HX.out.2.2.1.cell (i := 4) rfl
      have HKL : Hid ((kept kd P l).length ≤ 900) := by
        have := kept_len kd P l i
        rw [htk] at this
        exact Nat.le_trans this (by have := HN.out; omega)
      obtain ⟨va, vc, hvv⟩ := own_form HX.out.1
      have HNO : Hid (¬ (¬ kd = 1 ∧ P ∉ l ∧ may x) → Sl pv 4 wr vv LR ∧ Below w.heap.size w wr) := fun q => ⟨by rw [← HLR.out, if_neg q, List.append_nil]; exact own_rw pv_len HX.out.1, HX.out.2.1⟩
      clear HI htk hlt
      by_cases hk1 : kd = 1
      · subst hk1
        have HE : Hid (Sl pv 4 wr vv LR ∧ Below w.heap.size w wr) := HNO.out (fun q => q.1 rfl)
        subst hvv
        clear HNO HLR
        go_wp2_with fail
        go_ret
        exact ⟨_, rfl, HE.out⟩
      · have hkb : (kd == 1) = false := by simpa using hk1
        cases th with
        | true =>
          have HE : Hid (Sl pv 4 wr vv LR ∧ Below w.heap.size w wr) := HNO.out (fun q => q.2.1 (of_decide_eq_true HX.out.2.2.2.2.symm))
          subst hvv
          clear HNO HLR
          go_wp2_with fail
          go_ret
          exact ⟨_, rfl, HE.out⟩
        | false =>
          have HPL : Hid (P ∉ l) := of_decide_eq_false HX.out.2.2.2.2.symm
          have HK1 : Hid (¬ kd = 1) := hk1
          by_cases hmy : may x
          · have HM : Hid (∀ w, Calls Try.prog 17 #[x.v] w fun e w' => e = .returned (.bool true) ∧ Below w.heap.size w w') := fun w => by
              have := HMY.out w
              rw [decide_eq_true hmy] at this
              exact this
            have HIF : Hid ((if ¬ kd = 1 ∧ P ∉ l ∧ may x then [P] else []) = [P]) := if_pos ⟨HK1.out, HPL.out, hmy⟩
            clear HMY HNO hmy hvv
            go_wp2_with fail
            refine Calls.mono (HM.out _) ?_; rintro e w2 ⟨rfl, k2⟩
            have ho2 : w2.ownsRow 0 43 4 vv (kept kd P l).length ((kept kd P l).flatMap pv) := ownsRow_kept HX.out.1 (fun g hg => k2.block g (World.ownsRow.lt HX.out.1 g hg).2)
            have hA2 := HX.out.2.2.1.next k2
            have d1 := hA2.cell (i := 1) rfl
            have d2 := hA2.cell (i := 2) rfl
            have d3 := hA2.cell (i := 3) rfl
            have d4 := hA2.cell (i := 4) rfl
            obtain ⟨v', w', ra, ho, hgr, hob⟩ := app_pair ho2 ⟨x, n⟩ (by have := HKL.out; omega)
            rw [HP.out] at ho
            have RA : Hid ((Builtin.append_ #[28, 28] 28 #[vv, .slice (some ⟨w2.heap.size, 0, none⟩) 1 1]).run Try.prog (w2.alloc (.cells #[.int .i64 x.k, .int .i64 x.n, .string x.s, .int .i64 n] 43)) = .ok v' w') := ra
            have HE : Hid (Sl pv 4 w' v' LR ∧ Below w.heap.size w w') := by
              refine ⟨by rw [← HLR.out, HIF.out]; exact own_rw pv_len ho, ?_⟩
              have hb := HX.out.2.1.trans (k2.mono HX.out.2.1.size)
              exact hb.grown hgr hb.size (fun k hk => by have := HX.out.2.2.2.1 k hk; omega)
            obtain ⟨v'a, v'c, hv'⟩ := own_form ho
            obtain ⟨nn, hnn⟩ : ∃ nn, (kept kd P l ++ [P]).length = nn := ⟨_, rfl⟩
            rw [hnn] at hv'
            subst hv'
            clear HLR HIF ra ho hgr hob k2 ho2 hA2 a0 a1 a2 a3 a4 HX hnn
            go_wp2_with (first | ((with_reducible apply st_append (x := .tmp 55)); (case ho => rfl); (case hgd => rfl); (case hr => exact RA.out)))
            go_ret
            exact ⟨_, rfl, HE.out⟩
          · have HM : Hid (∀ w, Calls Try.prog 17 #[x.v] w fun e w' => e = .returned (.bool false) ∧ Below w.heap.size w w') := fun w => by
              have := HMY.out w
              rw [decide_eq_false hmy] at this
              exact this
            have HE0 := HNO.out (fun q => hmy q.2.2)
            have HE : Hid (Sl pv 4 wr vv LR ∧ Below w.heap.size w wr) := HE0
            subst hvv
            clear HMY HNO hmy HE0 HLR
            go_wp2_with fail
            refine Calls.mono (HM.out _) ?_; rintro e w2 ⟨rfl, k2⟩
            have HE2 : Hid (Sl pv 4 w2 (.slice va (kept kd P l).length vc) LR ∧ Below w.heap.size w w2) := ⟨HE.out.1.next pv_ne k2, HE.out.2.trans (k2.mono HE.out.2.size)⟩
            clear k2 HE
            go_wp2_with fail
            go_ret
            exact ⟨_, rfl, HE2.out⟩
end Go.Proofs.Ytgjeobmbfeinnaa
