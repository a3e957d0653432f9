/- HashPlays. -/
import Derived.Test.YtgjeobmbfeinnaaAc
import Derived.Test.YtgjeobmbfeinnaaAwk
import Derived.Deep.RegionHeld
import Derived.Deep.DeepCutAuto
import Derived.ControlIn
import Derived.Deep.CutBlock
namespace Go.Proofs.Ytgjeobmbfeinnaa
open Go.ChangeShapes Go.WideShapes Go.RowKit
set_option linter.unusedVariables false
set_option maxRecDepth 100000

/-- What the law has at the head of a round. -/
structure PS (w wr : World) (v : Val) (p : Option Addr) (F : Val → List Int) (nb : Nat) (m : List Pr) (j : Nat) : Prop where
  bx : Blk wr (w.heap.size + 1) 27 [.pointer p, .int .i64 m.length]
  bv : At wr w.heap.size 0 v.k v.n v.s
  ix : Ix wr p F nb (j + 1)
  st : St F m.length nb
  rel : Rel F m
  lj : m.length ≤ j
  bel : Below w.heap.size w wr
theorem PS.next {w wr w' : World} {v : Val} {p : Option Addr} {F : Val → List Int} {nb : Nat} {m : List Pr} {j : Nat} (h : PS w wr v p F nb m j) (b : Below wr.heap.size wr w') : PS w w' v p F nb m j :=
  ⟨h.bx.next b, h.bv.next b, h.ix.next b, h.st, h.rel, h.lj, Below.next h.bel b⟩
structure PT (w wr : World) (v : Val) (p : Option Addr) (F : Val → List Int) (nb : Nat) (m : List Pr) (j : Nat) (u : Value) : Prop where
  ps : PS w wr v p F nb m j
  sl : Sl pv 4 wr u m
theorem PT.next {w wr w' : World} {v : Val} {p : Option Addr} {F : Val → List Int} {nb : Nat} {m : List Pr} {j : Nat} {u : Value} (h : PT w wr v p F nb m j u) (b : Below wr.heap.size wr w') : PT w w' v p F nb m j u := ⟨h.ps.next b, h.sl.next pv_ne b⟩
/-- The variable is written. -/
theorem PS.put {w wr w7 : World} {v : Val} {p p7 : Option Addr} {F : Val → List Int} {nb : Nat} {m : List Pr} {j : Nat} (h : PS w wr v p F nb m j) (x : Hac) (hx : x.v.fit) (b : Below wr.heap.size wr w7) (hi : Ix w7 p7 (actF F x) (actN F x m.length nb) (j + 2)) :
    PS w ((w7.setCell ⟨w.heap.size + 1, 0, none⟩ (.pointer p7)).setCell ⟨w.heap.size + 1, 1, none⟩ (.int .i64 (actM m x).length)) v p7 (actF F x) (actN F x m.length nb) (actM m x) (j + 1) ∧ ∀ u l, Sl pv 4 wr u l → Sl pv 4 ((w7.setCell ⟨w.heap.size + 1, 0, none⟩ (.pointer p7)).setCell ⟨w.heap.size + 1, 1, none⟩ (.int .i64 (actM m x).length)) u l := by
  have hb := h.bx.next b
  have far : ∀ k, k ≠ w.heap.size + 1 → ((w7.setCell ⟨w.heap.size + 1, 0, none⟩ (.pointer p7)).setCell ⟨w.heap.size + 1, 1, none⟩ (.int .i64 (actM m x).length)).heap[k]? = w7.heap[k]? := fun k hk => (heap_set _ _ _ hk).trans (heap_set _ _ _ hk)
  refine ⟨⟨(hb.set 0 _).set 1 _, (h.bv.next b).far (far _ (by omega)), hi.quiet hb far, h.st.act h.rel x hx, h.rel.act x, Nat.le_trans (actM_len h.rel x) (by have := h.lj; omega), below_set (below_set (Below.next h.bel b) _ _ _ (by omega)) _ _ _ (by omega)⟩, fun u l hl => (hl.next pv_ne b).prq hb far⟩
theorem wp_only {P : Program} {c : Code} {J K : Act → World → Prop} {Q' : Exit → Act → World → Prop} {a : Act} {w : World} (h : c.wp P (Exit.then J (fun _ _ _ => False)) a w) (hJ : ∀ a' w', J a' w' → K a' w') : c.wp P (Exit.then K Q') a w := by
  refine (wpIn_wide (n := 7)).1 (wpIn_mono (wpIn_wide.2 h) ?_)
  intro e a' w' hq
  cases e with
  | normal => exact hJ _ _ hq
  | exit id => exact (show False from hq).elim
  | goto l => exact (show False from hq).elim
  | ret => exact (show False from hq).elim
  | panic ch => exact (show False from hq).elim
  | outgrown => exact (show False from hq).elim
theorem wp_normal {P : Program} {c : Code} {Q : Exit → Act → World → Prop} {a : Act} {w : World} (h : c.wp P (Exit.then (fun a w => Q .normal a w) (fun _ _ _ => False)) a w) : c.wp P Q a w := by
  refine (wpIn_wide (n := 7)).1 (wpIn_mono (wpIn_wide.2 h) ?_)
  intro e a' w' hq
  cases e with
  | normal => exact hq
  | exit id => exact (show False from hq).elim
  | goto l => exact (show False from hq).elim
  | ret => exact (show False from hq).elim
  | panic ch => exact (show False from hq).elim
  | outgrown => exact (show False from hq).elim
set_option maxHeartbeats 16000000 in
theorem plays_is (aa : Option Addr) (len cc : Nat) (L : List Hac) (hL : L.length = len) (hfit : ∀ x ∈ L, x.v.fit) (v : Val) (hv : v.fit) (w : World) (hr : Rw acv 5 w aa L) :
    Calls Try.prog 3 #[.slice aa len cc, v.v] w fun e w' => e = .returned (.bool true) ∧ Below w.heap.size w w' := by
  have HR : Hid (L.length = len ∧ Rw acv 5 w aa L ∧ ∀ x ∈ L, x.v.fit) := ⟨hL, hr, hfit⟩
  have HAW : Hid (∀ w, Calls Try.prog 7 #[] w fun e w' => e = .returned (.bool true) ∧ Below w.heap.size w w') := awake_is
  have HVF : Hid v.fit := hv
  clear hL hr hfit hv
  obtain ⟨w0, hw0⟩ : ∃ w0, (w.alloc (.cells #[.int .i64 v.k, .int .i64 v.n, .string v.s] 24)).alloc (.cells #[.pointer none, .int .i64 0] 27) = w0 := ⟨_, rfl⟩
  have HI0 : Hid (PS w w0 v none (fun _ => []) 0 [] 0 ∧ Sl pv 4 w0 (.slice none 0 0) []) := by
    show _ ∧ _
    rw [← hw0]
    refine ⟨⟨?_, (At.new w v.k v.n v.s).next (below1 _ _), Ix.zero _ _, St.zero, Rel.nil, Nat.le_refl _, below2 _ _ _⟩, Sl.nil _ _ _⟩
    have := Blk.new (w.alloc (.cells #[.int .i64 v.k, .int .i64 v.n, .string v.s] 24)) 27 [.pointer none, .int .i64 0]
    rwa [size_alloc] at this
  have HW0 : Hid ((w.alloc (.cells #[.int .i64 v.k, .int .i64 v.n, .string v.s] 24)).alloc (.cells #[.pointer none, .int .i64 0] 27) = w0) := hw0
  clear hw0
  go_enter Try.func3, Try.ntmps3
  go_wp2_with fail
  rw [HW0.out]
  go_loopw [6, 7, 8, 9] (fun v6 v7 v8 v9 wr => ∃ (j : Nat) (a : Option Addr) (c : Nat) (F : Val → List Int) (nb most : Nat) (m : List Pr) (p : Option Addr), j ≤ 120 ∧ v6 = .slice a m.length c ∧ v7 = .int .i64 (most : Nat) ∧ v8 = .int .i64 (8 * nb : Nat) ∧ v9 = .int .i64 j ∧ Hid (PS w wr v p F nb m j ∧ Sl pv 4 wr (.slice a m.length c) m ∧ Bk most nb m.length ∧ most ≤ j))
    (fun _ _ _ vi _ => 120 - (intOf vi).toNat)
  case atStart => exact ⟨0, none, 0, _, 0, 0, [], none, by omega, rfl, rfl, rfl, rfl, HI0.out.1, HI0.out.2, Bk.zero, Nat.le_refl _⟩
  case round =>
    clear HI0 HW0
    obtain ⟨j, a, c, F, nb, most, m, p, hj, rfl, rfl, rfl, rfl, HI⟩ := hrel
    by_cases hgo : j < len ∧ j < 120
    · obtain ⟨hlt, h120⟩ := hgo
      have hlti : (j : Int) < (len : Int) := by omega
      have h120i : (j : Int) < 120 := by omega
      obtain ⟨ab, ao, ha, hab, y0, y1, y2, y3, y4⟩ := HR.out.2.1.act (i := j) (by rw [HR.out.1]; exact hlt)
      subst ha
      have HXF : Hid ((L[j]'(by rw [HR.out.1]; exact hlt)).v.fit) := HR.out.2.2 _ (List.getElem_mem _)
      generalize L[j]'(by rw [HR.out.1]; exact hlt) = x at *
      have HKB : Hid (∀ w', Below w.heap.size w w' → w'.cell? ⟨ab, ao + j * 5, none⟩ = some (.int .i64 x.kd) ∧ w'.cell? ⟨ab, ao + j * 5 + 1, none⟩ = some (.int .i64 x.n) ∧ w'.cell? ⟨ab, ao + j * 5 + 2, none⟩ = some (.int .i64 x.v.k) ∧ w'.cell? ⟨ab, ao + j * 5 + 3, none⟩ = some (.int .i64 x.v.n) ∧ w'.cell? ⟨ab, ao + j * 5 + 4, none⟩ = some (.string x.v.s)) := fun w' kk => ⟨(kk.cell (p := ⟨ab, ao + j * 5, none⟩) hab).trans y0, (kk.cell (p := ⟨ab, ao + j * 5 + 1, none⟩) hab).trans y1, (kk.cell (p := ⟨ab, ao + j * 5 + 2, none⟩) hab).trans y2, (kk.cell (p := ⟨ab, ao + j * 5 + 3, none⟩) hab).trans y3, (kk.cell (p := ⟨ab, ao + j * 5 + 4, none⟩) hab).trans y4⟩
      clear y0 y1 y2 y3 y4
      obtain ⟨z0, z1, z2, z3, z4⟩ := HKB.out wr HI.out.1.bel
      by_cases hbig : x.v.s.size > 200
      · have hbigi : ((x.v.s.size : Int) > 200) := by omega
        have HB : Hid (Below w.heap.size w wr) := HI.out.1.bel
        clear HI z0 z1 z2 z3
        go_wp2_with fail
        refine Calls.mono (HAW.out _) ?_; rintro e w1 ⟨rfl, k1⟩
        have HB1 : Hid (Below w.heap.size w w1) := Below.next HB.out k1
        clear k1 HB
        go_wp2_with fail
        go_ret
        exact ⟨rfl, HB1.out⟩
      · have hbigi : ¬ ((x.v.s.size : Int) > 200) := by omega
        have HC8 : Hid (Calls Try.prog 8 #[.agg #[.pointer p, .int .i64 m.length], .agg #[.int .i64 x.kd, .int .i64 x.n, .int .i64 x.v.k, .int .i64 x.v.n, .string x.v.s]] wr.drew fun e w' => ∃ p', e = .returned (.agg #[.pointer p', .int .i64 (actM m x).length]) ∧ Hid (Ix w' p' (actF F x) (actN F x m.length nb) (j + 2) ∧ Below wr.heap.size wr w')) := (done_is p F nb (j + 1) m (by omega) (by have := HI.out.2.2.1.nb (by have := HI.out.2.2.2; omega); omega) (by have := HI.out.1.lj; omega) HI.out.1.st HI.out.1.rel x HXF.out wr.drew (HI.out.1.ix.next (Below.refl _ _).drew)).mono fun e w' ⟨p', q1, q2, q3⟩ => ⟨p', q1, q2, Below.of_drew q3⟩
        have HK7 : Hid (∀ w', Below wr.heap.size wr w' → w'.cell? ⟨w.heap.size + 1, 0, none⟩ = some (.pointer p) ∧ w'.cell? ⟨w.heap.size + 1, 1, none⟩ = some (.int .i64 m.length) ∧ w'.cell? ⟨ab, ao + j * 5, none⟩ = some (.int .i64 x.kd) ∧ w'.cell? ⟨ab, ao + j * 5 + 1, none⟩ = some (.int .i64 x.n) ∧ w'.cell? ⟨ab, ao + j * 5 + 2, none⟩ = some (.int .i64 x.v.k) ∧ w'.cell? ⟨ab, ao + j * 5 + 3, none⟩ = some (.int .i64 x.v.n) ∧ w'.cell? ⟨ab, ao + j * 5 + 4, none⟩ = some (.string x.v.s)) := fun w' kk => ⟨(HI.out.1.bx.next kk).cell rfl, (HI.out.1.bx.next kk).cell rfl, HKB.out _ (Below.next HI.out.1.bel kk)⟩
        have hS0 := HK7.out wr (Below.refl _ _)
        have HK0 : Hid _ := HK7.out wr.drew (Below.refl _ _).drew
        have HFZ : Hid (∀ w', Below wr.heap.size wr w' → w'.frozen? ⟨w.heap.size + 1, 0, none⟩ = false ∧ w'.frozen? ⟨w.heap.size + 1, 1, none⟩ = false) := fun w' kk => ⟨(HI.out.1.bx.next kk).fz 0, (HI.out.1.bx.next kk).fz 1⟩
        have HPT : Hid (∀ w7 p7, Ix w7 p7 (actF F x) (actN F x m.length nb) (j + 2) → Below wr.heap.size wr w7 → ∃ w8, (w7.setCell ⟨w.heap.size + 1, 0, none⟩ (.pointer p7)).setCell ⟨w.heap.size + 1, 1, none⟩ (.int .i64 (actM m x).length) = w8 ∧ Hid (PS w w8 v p7 (actF F x) (actN F x m.length nb) (actM m x) (j + 1) ∧ Sl pv 4 w8 (.slice a m.length c) m)) := fun w7 p7 q1 q2 => ⟨_, rfl, (HI.out.1.put x HXF.out q2 q1).1, (HI.out.1.put x HXF.out q2 q1).2 _ _ HI.out.2.1⟩
        have HBK : Hid (Bk most nb m.length ∧ Rel F m ∧ m.length ≤ j ∧ most ≤ j) := ⟨HI.out.2.2.1, HI.out.1.rel, HI.out.1.lj, HI.out.2.2.2⟩
        have HST := HBK.out.1.act HBK.out.2.1 x
        obtain ⟨m7, hm7⟩ : ∃ m7, actM m x = m7 := ⟨_, rfl⟩
        obtain ⟨F7, hF7⟩ : ∃ F7, actF F x = F7 := ⟨_, rfl⟩
        obtain ⟨nb7, hnb7⟩ : ∃ nb7, actN F x m.length nb = nb7 := ⟨_, rfl⟩
        have HCM : Hid (∀ w8, Sl pv 4 w8 (.slice a m.length c) m → Calls Try.prog 9 #[.slice a m.length c, .agg #[.int .i64 x.kd, .int .i64 x.n, .int .i64 x.v.k, .int .i64 x.v.n, .string x.v.s]] w8 fun e w' => ∃ a' c', e = .returned (.slice a' m7.length c') ∧ Sl pv 4 w' (.slice a' m7.length c') m7 ∧ Below w8.heap.size w8 w') := fun w8 h => by
          have := doesA_is a c m (by have := HBK.out.2.2.1; omega) x HXF.out w8 h
          rw [hm7] at this
          exact this
        rw [hm7, hF7, hnb7] at HPT
        rw [hm7, hF7, hnb7] at HC8
        rw [hm7, hnb7] at HST
        have HST2 : Hid _ := HST
        clear HI HST hm7 hF7 hnb7 z0 z1 z2 z3
        go_upto_region 9 with fail
        go_cut [] from 30 to 36 (fun wx => ∃ p7, Hid (PS w wx v p7 F7 nb7 m7 (j + 1) ∧ Sl pv 4 wx (.slice a m.length c) m))
        case first =>
          refine wp_only ?_ (fun _ _ h => h)
          clear z4
          obtain ⟨e0, e1, e2, e3, e4, e5, e6⟩ := hS0
          go_region_with (first | ((with_reducible refine Calls.mono HC8.out ?_); rintro e w7 ⟨p7, rfl, HM7⟩; obtain ⟨f2, f3⟩ := HFZ.out _ HM7.out.2; obtain ⟨f0, f1, f4, f5, f6, f7, f8⟩ := HK7.out _ HM7.out.2; clear e0 e1 e2 e3 e4 e5 e6))
          all_goals (try simp only [Exit.then])
          all_goals go_wp2_with fail
          all_goals go_meet
          all_goals (obtain ⟨w8, hw8, HI8⟩ := HPT.out _ _ HM7.out.1 HM7.out.2)
          all_goals rw [hw8]
          all_goals exact ⟨_, HI8.out⟩
        obtain ⟨p7, HI8⟩ := hcut
        generalize hww : wc = w8 at *
        clear hww HPT HFZ HK7 HK0 hS0 HC8 z4
        rename_i hK0
        refine hK0 _ _ ?_
        clear hK0
        obtain ⟨z0, z1, z2, z3, z4⟩ := HKB.out _ HI8.out.1.bel
        go_wp2_with fail
        refine Calls.mono (HCM.out _ HI8.out.2) ?_; rintro e w9 ⟨a9, c9, rfl, s9, k9⟩
        have HI9 : Hid (PS w w9 v p7 F7 nb7 m7 (j + 1) ∧ Sl pv 4 w9 (.slice a9 m7.length c9) m7) := ⟨HI8.out.1.next k9, s9⟩
        clear s9 k9 HI8 HCM z0 z1 z2 z3 z4
        obtain ⟨N7, hN7⟩ : ∃ N7, m7.length = N7 := ⟨_, rfl⟩
        have HN7 : Hid (m7.length = N7) := hN7
        have hN7j : N7 ≤ j + 1 := by rw [← hN7]; exact HI9.out.1.lj
        rw [hN7] at HST2 ⊢
        clear hN7
        go_upto_if 45 with fail
        go_cut [7, 8, 45] (fun s7 s8 s45 wx => ∃ most7 bk : Nat, s7 = .int .i64 most7 ∧ s8 = .int .i64 bk ∧ w9 = wx ∧ Hid (Bk most7 nb7 N7 ∧ most7 ≤ j + 1 ∧ (bk = 8 * nb7 ∨ (bk = 4 * nb7 ∧ 16 * nb7 < most7))))
        case first =>
          by_cases hgt : N7 > most
          · have hgti : (N7 : Int) > (most : Int) := by omega
            have HQ := HST2.out.1 hgt
            have HQ2 : Hid (Bk N7 nb7 N7 ∧ N7 ≤ j + 1 ∧ (max (8 * nb) 8 = 8 * nb7 ∨ (max (8 * nb) 8 = 4 * nb7 ∧ 16 * nb7 < N7))) := ⟨HQ.1, hN7j, HQ.2⟩
            have HMX : Hid (max ((8 * nb : Nat) : Int) 8 = ((max (8 * nb) 8 : Nat) : Int)) := by show _ = _; omega
            clear HQ hgt
            go_wp2_with fail
            all_goals go_meet
            all_goals exact ⟨N7, max (8 * nb) 8, rfl, by (first | rfl | (congr 1; omega)), rfl, HQ2.out⟩
          · have hgti : ¬ (N7 : Int) > (most : Int) := by omega
            have HQ := HST2.out.2 hgt
            have HQ2 : Hid (Bk most nb7 N7 ∧ most ≤ j + 1 ∧ (8 * nb = 8 * nb7 ∨ (8 * nb = 4 * nb7 ∧ 16 * nb7 < most))) := ⟨HQ.1, by have := HBK.out.2.2.2; omega, .inl (by rw [HQ.2])⟩
            clear HQ hgt
            go_wp2_with fail
            go_meet
            exact ⟨most, 8 * nb, rfl, rfl, rfl, HQ2.out⟩
        case rest =>
          obtain ⟨most7, bk, rfl, rfl, rfl, HB7⟩ := hcut
          clear HST2 HBK
          have hm7 : most7 ≤ j + 1 := HB7.out.2.1
          have hnb7 : nb7 ≤ 20 := HB7.out.1.nb (by omega)
          have HTOP : Hid (most7 ≤ 32 * nb7) := HB7.out.1.2.1
          go_upto_block 2 with fail
          go_cut [8] (fun s8 wx => s8 = .int .i64 (8 * nb7 : Nat) ∧ w9 = wx)
          case first =>
            go_wp2_with fail
            go_loopw [8] (fun v8 wi => ∃ bk : Nat, v8 = .int .i64 bk ∧ w9 = wi ∧ Hid (bk = 8 * nb7 ∨ (bk = 4 * nb7 ∧ 16 * nb7 < most7)))
              (fun v8 _ => 1000 - (intOf v8).toNat)
            case atStart => exact ⟨bk, rfl, rfl, HB7.out.2.2⟩
            case round =>
              obtain ⟨bk, rfl, rfl, HQ⟩ := hrel
              by_cases hb : bk = 8 * nb7
              · by_cases h0 : bk = 0
                · have HE : Hid (bk = 8 * nb7) := hb
                  subst h0
                  clear hb HQ
                  go_wp2_with fail
                  go_meet
                  exact ⟨by rw [← HE.out], rfl⟩
                · have HE : Hid (bk = 8 * nb7) := hb
                  have h1 : (bk : Int) > 0 := by omega
                  have h2 : ¬ (4 * (bk : Int) < (most7 : Int)) := by have := HTOP.out; omega
                  have h3 : bk ≤ 160 := by omega
                  clear hb HQ h0
                  go_wp2_with fail
                  go_meet
                  exact ⟨by rw [← HE.out], rfl⟩
              · have HE : Hid (bk = 4 * nb7 ∧ 16 * nb7 < most7) := HQ.out.resolve_left hb
                have h1 : (bk : Int) > 0 := by have := HE.out; have := HTOP.out; omega
                have h2 : (4 * (bk : Int) < (most7 : Int)) := by have := HE.out; omega
                have h3 : bk ≤ 80 := by have := HE.out; omega
                have HN : Hid (2 * bk = 8 * nb7) := by show _ = _; have := HE.out; omega
                clear hb HQ HE
                go_wp2_with fail
                go_roundw
                case rel => exact ⟨2 * bk, by go_num, by first | rfl | trivial, .inl HN.out⟩
                case measure => simp [intOf]; omega
          case rest =>
            obtain ⟨rfl, rfl⟩ := hcut
            have HPT9 : Hid (PT w w9 v p7 F7 nb7 m7 (j + 1) (.slice a9 N7 c9)) := ⟨HI9.out.1, by have := HI9.out.2; rw [HN7.out] at this; exact this⟩
            have hN7u : N7 ≤ 121 := by omega
            obtain ⟨xk, hxk⟩ : ∃ xk, x.v.k = xk := ⟨_, rfl⟩
            obtain ⟨xn, hxn⟩ : ∃ xn, x.v.n = xn := ⟨_, rfl⟩
            obtain ⟨xs, hxs⟩ : ∃ xs, x.v.s = xs := ⟨_, rfl⟩
            have HXV : Hid (x.v = ⟨xk, xn, xs⟩) := by
              show x.v = _
              rw [← hxk, ← hxn, ← hxs]
            obtain ⟨l1, hl1⟩ : ∃ l1, F7 x.v = l1 := ⟨_, rfl⟩
            have HL1 : Hid (F7 x.v = l1) := hl1
            obtain ⟨K1, hK1⟩ : ∃ K1, l1.length = K1 := ⟨_, rfl⟩
            have HK1 : Hid (l1.length = K1 ∧ l1.length ≤ 1000) := ⟨hK1, by rw [← hl1]; exact Nat.le_trans (HI9.out.1.ix.less _) (by omega)⟩
            have HSN : Hid (∀ W W', (W.cell? ⟨w.heap.size + 1, 0, none⟩ = some (.pointer p7) ∧ W.cell? ⟨w.heap.size + 1, 1, none⟩ = some (.int .i64 (N7 : Nat)) ∧ W.cell? ⟨ab, ao + j * 5 + 2, none⟩ = some (.int .i64 xk) ∧ W.cell? ⟨ab, ao + j * 5 + 3, none⟩ = some (.int .i64 xn) ∧ W.cell? ⟨ab, ao + j * 5 + 4, none⟩ = some (.string xs) ∧ Hid (PT w W v p7 F7 nb7 m7 (j + 1) (.slice a9 N7 c9))) → Below W.heap.size W W' → (W'.cell? ⟨w.heap.size + 1, 0, none⟩ = some (.pointer p7) ∧ W'.cell? ⟨w.heap.size + 1, 1, none⟩ = some (.int .i64 (N7 : Nat)) ∧ W'.cell? ⟨ab, ao + j * 5 + 2, none⟩ = some (.int .i64 xk) ∧ W'.cell? ⟨ab, ao + j * 5 + 3, none⟩ = some (.int .i64 xn) ∧ W'.cell? ⟨ab, ao + j * 5 + 4, none⟩ = some (.string xs) ∧ Hid (PT w W' v p7 F7 nb7 m7 (j + 1) (.slice a9 N7 c9)))) := fun W W' h b => by
              have hp := h.2.2.2.2.2.out.next b
              obtain ⟨k0, k1, k2, k3, k4⟩ := HKB.out _ hp.ps.bel
              rw [hxk] at k2
              rw [hxn] at k3
              rw [hxs] at k4
              exact ⟨hp.ps.bx.cell rfl, by rw [← HN7.out]; exact hp.ps.bx.cell rfl, k2, k3, k4, hp⟩
            have HS9 : Hid ((w9.cell? ⟨w.heap.size + 1, 0, none⟩ = some (.pointer p7) ∧ w9.cell? ⟨w.heap.size + 1, 1, none⟩ = some (.int .i64 (N7 : Nat)) ∧ w9.cell? ⟨ab, ao + j * 5 + 2, none⟩ = some (.int .i64 xk) ∧ w9.cell? ⟨ab, ao + j * 5 + 3, none⟩ = some (.int .i64 xn) ∧ w9.cell? ⟨ab, ao + j * 5 + 4, none⟩ = some (.string xs) ∧ Hid (PT w w9 v p7 F7 nb7 m7 (j + 1) (.slice a9 N7 c9)))) := by
              obtain ⟨k0, k1, k2, k3, k4⟩ := HKB.out _ HPT9.out.ps.bel
              rw [hxk] at k2
              rw [hxn] at k3
              rw [hxs] at k4
              exact ⟨HPT9.out.ps.bx.cell rfl, by rw [← HN7.out]; exact HPT9.out.ps.bx.cell rfl, k2, k3, k4, HPT9.out⟩
            have HS0 : Hid ((w9.drew.cell? ⟨w.heap.size + 1, 0, none⟩ = some (.pointer p7) ∧ w9.drew.cell? ⟨w.heap.size + 1, 1, none⟩ = some (.int .i64 (N7 : Nat)) ∧ w9.drew.cell? ⟨ab, ao + j * 5 + 2, none⟩ = some (.int .i64 xk) ∧ w9.drew.cell? ⟨ab, ao + j * 5 + 3, none⟩ = some (.int .i64 xn) ∧ w9.drew.cell? ⟨ab, ao + j * 5 + 4, none⟩ = some (.string xs) ∧ Hid (PT w w9.drew v p7 F7 nb7 m7 (j + 1) (.slice a9 N7 c9)))) := HSN.out _ _ HS9.out (Below.refl _ _).drew
            have HLE : Hid (∀ w', (w'.cell? ⟨w.heap.size + 1, 0, none⟩ = some (.pointer p7) ∧ w'.cell? ⟨w.heap.size + 1, 1, none⟩ = some (.int .i64 (N7 : Nat)) ∧ w'.cell? ⟨ab, ao + j * 5 + 2, none⟩ = some (.int .i64 xk) ∧ w'.cell? ⟨ab, ao + j * 5 + 3, none⟩ = some (.int .i64 xn) ∧ w'.cell? ⟨ab, ao + j * 5 + 4, none⟩ = some (.string xs) ∧ Hid (PT w w' v p7 F7 nb7 m7 (j + 1) (.slice a9 N7 c9))) → Calls Try.prog 10 #[.agg #[.pointer p7, .int .i64 (N7 : Nat)]] w' fun e w'' => e = .returned (.int .i64 (N7 : Nat)) ∧ (w''.cell? ⟨w.heap.size + 1, 0, none⟩ = some (.pointer p7) ∧ w''.cell? ⟨w.heap.size + 1, 1, none⟩ = some (.int .i64 (N7 : Nat)) ∧ w''.cell? ⟨ab, ao + j * 5 + 2, none⟩ = some (.int .i64 xk) ∧ w''.cell? ⟨ab, ao + j * 5 + 3, none⟩ = some (.int .i64 xn) ∧ w''.cell? ⟨ab, ao + j * 5 + 4, none⟩ = some (.string xs) ∧ Hid (PT w w'' v p7 F7 nb7 m7 (j + 1) (.slice a9 N7 c9)))) := fun w' h => (len_is p7 N7 w').mono fun e w'' ⟨q1, q2⟩ => ⟨q1, HSN.out _ _ h q2⟩
            have HBU : Hid (∀ w', (w'.cell? ⟨w.heap.size + 1, 0, none⟩ = some (.pointer p7) ∧ w'.cell? ⟨w.heap.size + 1, 1, none⟩ = some (.int .i64 (N7 : Nat)) ∧ w'.cell? ⟨ab, ao + j * 5 + 2, none⟩ = some (.int .i64 xk) ∧ w'.cell? ⟨ab, ao + j * 5 + 3, none⟩ = some (.int .i64 xn) ∧ w'.cell? ⟨ab, ao + j * 5 + 4, none⟩ = some (.string xs) ∧ Hid (PT w w' v p7 F7 nb7 m7 (j + 1) (.slice a9 N7 c9))) → Calls Try.prog 11 #[.agg #[.pointer p7, .int .i64 (N7 : Nat)]] w' fun e w'' => e = .returned (.int .i64 (8 * nb7 : Nat)) ∧ (w''.cell? ⟨w.heap.size + 1, 0, none⟩ = some (.pointer p7) ∧ w''.cell? ⟨w.heap.size + 1, 1, none⟩ = some (.int .i64 (N7 : Nat)) ∧ w''.cell? ⟨ab, ao + j * 5 + 2, none⟩ = some (.int .i64 xk) ∧ w''.cell? ⟨ab, ao + j * 5 + 3, none⟩ = some (.int .i64 xn) ∧ w''.cell? ⟨ab, ao + j * 5 + 4, none⟩ = some (.string xs) ∧ Hid (PT w w'' v p7 F7 nb7 m7 (j + 1) (.slice a9 N7 c9)))) := fun w' h => (buckets_is p7 N7 F7 nb7 _ (by omega) w' h.2.2.2.2.2.out.ps.ix).mono fun e w'' ⟨q1, q2⟩ => ⟨q1, HSN.out _ _ h q2⟩
            have HFI : Hid (∀ w', (w'.cell? ⟨w.heap.size + 1, 0, none⟩ = some (.pointer p7) ∧ w'.cell? ⟨w.heap.size + 1, 1, none⟩ = some (.int .i64 (N7 : Nat)) ∧ w'.cell? ⟨ab, ao + j * 5 + 2, none⟩ = some (.int .i64 xk) ∧ w'.cell? ⟨ab, ao + j * 5 + 3, none⟩ = some (.int .i64 xn) ∧ w'.cell? ⟨ab, ao + j * 5 + 4, none⟩ = some (.string xs) ∧ Hid (PT w w' v p7 F7 nb7 m7 (j + 1) (.slice a9 N7 c9))) → Calls Try.prog 13 #[.agg #[.pointer p7, .int .i64 (N7 : Nat)], .agg #[.int .i64 xk, .int .i64 xn, .string xs]] w' fun e w'' => ∃ a1 c1, e = .returned (.slice a1 K1 c1) ∧ Hid (Sl iv 1 w'' (.slice a1 K1 c1) l1 ∧ Below w'.heap.size w' w'') ∧ (w''.cell? ⟨w.heap.size + 1, 0, none⟩ = some (.pointer p7) ∧ w''.cell? ⟨w.heap.size + 1, 1, none⟩ = some (.int .i64 (N7 : Nat)) ∧ w''.cell? ⟨ab, ao + j * 5 + 2, none⟩ = some (.int .i64 xk) ∧ w''.cell? ⟨ab, ao + j * 5 + 3, none⟩ = some (.int .i64 xn) ∧ w''.cell? ⟨ab, ao + j * 5 + 4, none⟩ = some (.string xs) ∧ Hid (PT w w'' v p7 F7 nb7 m7 (j + 1) (.slice a9 N7 c9)))) := fun w' h => by
              have q := find_is p7 N7 F7 nb7 (j + 1 + 1) (by omega) (by omega) x.v HXF.out w' h.2.2.2.2.2.out.ps.ix
              rw [HL1.out] at q
              rw [HXV.out] at q
              refine q.mono fun e w'' ⟨v1, q1, q2, q3⟩ => ?_
              obtain ⟨a1, c1, rfl⟩ := slices_shape q2
              rw [HK1.out.1] at q1 q2
              exact ⟨a1, c1, q1, ⟨q2, q3⟩, HSN.out _ _ h q3⟩
            have HFL : Hid (∀ w', (w'.cell? ⟨w.heap.size + 1, 0, none⟩ = some (.pointer p7) ∧ w'.cell? ⟨w.heap.size + 1, 1, none⟩ = some (.int .i64 (N7 : Nat)) ∧ w'.cell? ⟨ab, ao + j * 5 + 2, none⟩ = some (.int .i64 xk) ∧ w'.cell? ⟨ab, ao + j * 5 + 3, none⟩ = some (.int .i64 xn) ∧ w'.cell? ⟨ab, ao + j * 5 + 4, none⟩ = some (.string xs) ∧ Hid (PT w w' v p7 F7 nb7 m7 (j + 1) (.slice a9 N7 c9))) → Calls Try.prog 14 #[.slice a9 N7 c9, .agg #[.int .i64 xk, .int .i64 xn, .string xs]] w' fun e w'' => ∃ a2 c2, e = .returned (.slice a2 K1 c2) ∧ Hid (Sl iv 1 w'' (.slice a2 K1 c2) l1 ∧ Below w'.heap.size w' w'') ∧ (w''.cell? ⟨w.heap.size + 1, 0, none⟩ = some (.pointer p7) ∧ w''.cell? ⟨w.heap.size + 1, 1, none⟩ = some (.int .i64 (N7 : Nat)) ∧ w''.cell? ⟨ab, ao + j * 5 + 2, none⟩ = some (.int .i64 xk) ∧ w''.cell? ⟨ab, ao + j * 5 + 3, none⟩ = some (.int .i64 xn) ∧ w''.cell? ⟨ab, ao + j * 5 + 4, none⟩ = some (.string xs) ∧ Hid (PT w w'' v p7 F7 nb7 m7 (j + 1) (.slice a9 N7 c9)))) := fun w' h => by
              have hs := h.2.2.2.2.2.out.sl
              rw [← HN7.out] at hs
              have q := fndC_is a9 c9 m7 (by have := HN7.out; omega) x.v w' hs
              rw [h.2.2.2.2.2.out.ps.rel.fnd, HL1.out, HN7.out] at q
              rw [HXV.out] at q
              refine q.mono fun e w'' ⟨v1, q1, q2, q3⟩ => ?_
              obtain ⟨a1, c1, rfl⟩ := slices_shape q2
              rw [HK1.out.1] at q1 q2
              exact ⟨a1, c1, q1, ⟨q2, q3⟩, HSN.out _ _ h q3⟩
            have HSM : Hid (∀ w' u1 u2, Sl iv 1 w' u1 l1 → Sl iv 1 w' u2 l1 → (w'.cell? ⟨w.heap.size + 1, 0, none⟩ = some (.pointer p7) ∧ w'.cell? ⟨w.heap.size + 1, 1, none⟩ = some (.int .i64 (N7 : Nat)) ∧ w'.cell? ⟨ab, ao + j * 5 + 2, none⟩ = some (.int .i64 xk) ∧ w'.cell? ⟨ab, ao + j * 5 + 3, none⟩ = some (.int .i64 xn) ∧ w'.cell? ⟨ab, ao + j * 5 + 4, none⟩ = some (.string xs) ∧ Hid (PT w w' v p7 F7 nb7 m7 (j + 1) (.slice a9 N7 c9))) → Calls Try.prog 12 #[u1, u2] w' fun e w'' => e = .returned (.bool true) ∧ (w''.cell? ⟨w.heap.size + 1, 0, none⟩ = some (.pointer p7) ∧ w''.cell? ⟨w.heap.size + 1, 1, none⟩ = some (.int .i64 (N7 : Nat)) ∧ w''.cell? ⟨ab, ao + j * 5 + 2, none⟩ = some (.int .i64 xk) ∧ w''.cell? ⟨ab, ao + j * 5 + 3, none⟩ = some (.int .i64 xn) ∧ w''.cell? ⟨ab, ao + j * 5 + 4, none⟩ = some (.string xs) ∧ Hid (PT w w'' v p7 F7 nb7 m7 (j + 1) (.slice a9 N7 c9)))) := fun w' u1 u2 h1 h2 h => by
              have q := same_is u1 u2 l1 l1 HK1.out.2 HK1.out.2 w' h1 h2
              rw [decide_eq_true rfl] at q
              exact q.mono fun e w'' ⟨q1, q2⟩ => ⟨q1, HSN.out _ _ h q2⟩
            have hnn : ((N7 : Int) != (N7 : Int)) = false := by simp
            have hbb : (((8 * nb7 : Nat) : Int) != ((8 * nb7 : Nat) : Int)) = false := by simp
            rw [hxk, hxn, hxs] at *
            clear HPT9 HI9 hxk hxn hxs hl1 hK1 HXF HKB
            go_wp2_with fail
            go_region_held (fun (w' : World) => (w'.cell? ⟨w.heap.size + 1, 0, none⟩ = some (.pointer p7) ∧ w'.cell? ⟨w.heap.size + 1, 1, none⟩ = some (.int .i64 (N7 : Nat)) ∧ w'.cell? ⟨ab, ao + j * 5 + 2, none⟩ = some (.int .i64 xk) ∧ w'.cell? ⟨ab, ao + j * 5 + 3, none⟩ = some (.int .i64 xn) ∧ w'.cell? ⟨ab, ao + j * 5 + 4, none⟩ = some (.string xs) ∧ Hid (PT w w' v p7 F7 nb7 m7 (j + 1) (.slice a9 N7 c9)))) (first | (with_reducible assumption) | (with_reducible exact HS0.out))
              (first | ((with_reducible refine Calls.mono (HLE.out _ (by first | with_reducible assumption | exact HS0.out)) ?_); rintro e wA ⟨rfl, hSA⟩) | ((with_reducible refine Calls.mono (HBU.out _ (by with_reducible assumption)) ?_); rintro e wB ⟨rfl, hSB⟩) | ((with_reducible refine Calls.mono (HFI.out _ (by with_reducible assumption)) ?_); rintro e wC ⟨a1, c1, rfl, Hs1, hSC⟩; (try (have Hq := Hs2.out.1.next iv_ne Hs1.out.2; clear Hs2; have Hs2 : Hid (Sl iv 1 wC (.slice a2 K1 c2) l1 ∧ True) := ⟨Hq, trivial⟩; clear Hq))) | ((with_reducible refine Calls.mono (HFL.out _ (by with_reducible assumption)) ?_); rintro e wD ⟨a2, c2, rfl, Hs2, hSD⟩; (try (have Hq := Hs1.out.1.next iv_ne Hs2.out.2; clear Hs1; have Hs1 : Hid (Sl iv 1 wD (.slice a1 K1 c1) l1 ∧ True) := ⟨Hq, trivial⟩; clear Hq))) | ((with_reducible refine Calls.mono (HSM.out _ _ _ Hs1.out.1 Hs2.out.1 (by with_reducible assumption)) ?_); rintro e wE ⟨rfl, hSE⟩))
            all_goals (have HE : Hid (PS w wE v p7 F7 nb7 m7 (j + 1) ∧ Sl pv 4 wE (.slice a9 m7.length c9) m7 ∧ Bk most7 nb7 m7.length ∧ most7 ≤ j + 1) := ⟨hSE.2.2.2.2.2.out.ps, by have := hSE.2.2.2.2.2.out.sl; rw [← HN7.out] at this; exact this, by have := HB7.out.1; rw [← HN7.out] at this; exact this, hm7⟩)
            all_goals (try simp only [Exit.then])
            all_goals go_wp2_with fail
            all_goals go_roundw
            all_goals first | exact ⟨j + 1, a9, c9, F7, nb7, most7, m7, p7, by omega, by rw [HN7.out], rfl, by first | rfl | go_num, by go_num, HE.out⟩ | (simp [intOf]; omega)
    · have HEND : Hid (PS w wr v p F nb m j ∧ Sl pv 4 wr (.slice a m.length c) m) := ⟨HI.out.1, HI.out.2.1⟩
      have HNB : nb ≤ 20 := HI.out.2.2.1.nb (by have := HI.out.2.2.2; omega)
      clear HI
      have hmj : m.length ≤ 120 := by have := HEND.out.1.lj; omega
      obtain ⟨Nm, hNm⟩ : ∃ Nm, m.length = Nm := ⟨_, rfl⟩
      have HNM : Hid (m.length = Nm) := hNm
      have HPT : Hid (PT w wr v p F nb m j (.slice a Nm c)) := ⟨HEND.out.1, by have := HEND.out.2; rw [hNm] at this; exact this⟩
      obtain ⟨vk, hvk⟩ : ∃ vk, v.k = vk := ⟨_, rfl⟩
      obtain ⟨vn, hvn⟩ : ∃ vn, v.n = vn := ⟨_, rfl⟩
      obtain ⟨vs, hvs⟩ : ∃ vs, v.s = vs := ⟨_, rfl⟩
      have HVV : Hid (v = ⟨vk, vn, vs⟩) := by
        show v = _
        rw [← hvk, ← hvn, ← hvs]
      obtain ⟨l1, hl1⟩ : ∃ l1, F v = l1 := ⟨_, rfl⟩
      have HL1 : Hid (F v = l1) := hl1
      obtain ⟨K1, hK1⟩ : ∃ K1, l1.length = K1 := ⟨_, rfl⟩
      have HK1 : Hid (l1.length = K1 ∧ l1.length ≤ 1000) := ⟨hK1, by rw [← hl1]; exact Nat.le_trans (HEND.out.1.ix.less _) (by omega)⟩
      have HSP : Hid (∀ W, PT w W v p F nb m j (.slice a Nm c) → (W.cell? ⟨w.heap.size + 1, 0, none⟩ = some (.pointer p) ∧ W.cell? ⟨w.heap.size + 1, 1, none⟩ = some (.int .i64 (Nm : Nat)) ∧ W.cell? ⟨w.heap.size, 0, none⟩ = some (.int .i64 vk) ∧ W.cell? ⟨w.heap.size, 1, none⟩ = some (.int .i64 vn) ∧ W.cell? ⟨w.heap.size, 2, none⟩ = some (.string vs) ∧ Hid (PT w W v p F nb m j (.slice a Nm c)))) := fun W h => by
        have h0 := h.ps.bv.c0
        have h1 := h.ps.bv.c1
        have h2 := h.ps.bv.c2
        rw [hvk] at h0
        rw [hvn] at h1
        rw [hvs] at h2
        exact ⟨h.ps.bx.cell rfl, by rw [← HNM.out]; exact h.ps.bx.cell rfl, h0, h1, h2, h⟩
      have HSN : Hid (∀ W W', (W.cell? ⟨w.heap.size + 1, 0, none⟩ = some (.pointer p) ∧ W.cell? ⟨w.heap.size + 1, 1, none⟩ = some (.int .i64 (Nm : Nat)) ∧ W.cell? ⟨w.heap.size, 0, none⟩ = some (.int .i64 vk) ∧ W.cell? ⟨w.heap.size, 1, none⟩ = some (.int .i64 vn) ∧ W.cell? ⟨w.heap.size, 2, none⟩ = some (.string vs) ∧ Hid (PT w W v p F nb m j (.slice a Nm c))) → Below W.heap.size W W' → (W'.cell? ⟨w.heap.size + 1, 0, none⟩ = some (.pointer p) ∧ W'.cell? ⟨w.heap.size + 1, 1, none⟩ = some (.int .i64 (Nm : Nat)) ∧ W'.cell? ⟨w.heap.size, 0, none⟩ = some (.int .i64 vk) ∧ W'.cell? ⟨w.heap.size, 1, none⟩ = some (.int .i64 vn) ∧ W'.cell? ⟨w.heap.size, 2, none⟩ = some (.string vs) ∧ Hid (PT w W' v p F nb m j (.slice a Nm c)))) := fun W W' h b => HSP.out _ (h.2.2.2.2.2.out.next b)
      have HS0 : Hid ((wr.drew.cell? ⟨w.heap.size + 1, 0, none⟩ = some (.pointer p) ∧ wr.drew.cell? ⟨w.heap.size + 1, 1, none⟩ = some (.int .i64 (Nm : Nat)) ∧ wr.drew.cell? ⟨w.heap.size, 0, none⟩ = some (.int .i64 vk) ∧ wr.drew.cell? ⟨w.heap.size, 1, none⟩ = some (.int .i64 vn) ∧ wr.drew.cell? ⟨w.heap.size, 2, none⟩ = some (.string vs) ∧ Hid (PT w wr.drew v p F nb m j (.slice a Nm c)))) := HSP.out _ (HPT.out.next (Below.refl _ _).drew)
      have HFI : Hid (∀ w', (w'.cell? ⟨w.heap.size + 1, 0, none⟩ = some (.pointer p) ∧ w'.cell? ⟨w.heap.size + 1, 1, none⟩ = some (.int .i64 (Nm : Nat)) ∧ w'.cell? ⟨w.heap.size, 0, none⟩ = some (.int .i64 vk) ∧ w'.cell? ⟨w.heap.size, 1, none⟩ = some (.int .i64 vn) ∧ w'.cell? ⟨w.heap.size, 2, none⟩ = some (.string vs) ∧ Hid (PT w w' v p F nb m j (.slice a Nm c))) → Calls Try.prog 13 #[.agg #[.pointer p, .int .i64 (Nm : Nat)], .agg #[.int .i64 vk, .int .i64 vn, .string vs]] w' fun e w'' => ∃ a1 c1, e = .returned (.slice a1 K1 c1) ∧ Hid (Sl iv 1 w'' (.slice a1 K1 c1) l1 ∧ Below w'.heap.size w' w'') ∧ (w''.cell? ⟨w.heap.size + 1, 0, none⟩ = some (.pointer p) ∧ w''.cell? ⟨w.heap.size + 1, 1, none⟩ = some (.int .i64 (Nm : Nat)) ∧ w''.cell? ⟨w.heap.size, 0, none⟩ = some (.int .i64 vk) ∧ w''.cell? ⟨w.heap.size, 1, none⟩ = some (.int .i64 vn) ∧ w''.cell? ⟨w.heap.size, 2, none⟩ = some (.string vs) ∧ Hid (PT w w'' v p F nb m j (.slice a Nm c)))) := fun w' h => by
        have q := find_is p Nm F nb (j + 1) (by omega) (by omega) v HVF.out w' h.2.2.2.2.2.out.ps.ix
        rw [HL1.out] at q
        rw [HVV.out] at q
        refine q.mono fun e w'' ⟨v1, q1, q2, q3⟩ => ?_
        obtain ⟨a1, c1, rfl⟩ := slices_shape q2
        rw [HK1.out.1] at q1 q2
        exact ⟨a1, c1, q1, ⟨q2, q3⟩, HSN.out _ _ h q3⟩
      have HFL : Hid (∀ w', (w'.cell? ⟨w.heap.size + 1, 0, none⟩ = some (.pointer p) ∧ w'.cell? ⟨w.heap.size + 1, 1, none⟩ = some (.int .i64 (Nm : Nat)) ∧ w'.cell? ⟨w.heap.size, 0, none⟩ = some (.int .i64 vk) ∧ w'.cell? ⟨w.heap.size, 1, none⟩ = some (.int .i64 vn) ∧ w'.cell? ⟨w.heap.size, 2, none⟩ = some (.string vs) ∧ Hid (PT w w' v p F nb m j (.slice a Nm c))) → Calls Try.prog 14 #[.slice a Nm c, .agg #[.int .i64 vk, .int .i64 vn, .string vs]] w' fun e w'' => ∃ a2 c2, e = .returned (.slice a2 K1 c2) ∧ Hid (Sl iv 1 w'' (.slice a2 K1 c2) l1 ∧ Below w'.heap.size w' w'') ∧ (w''.cell? ⟨w.heap.size + 1, 0, none⟩ = some (.pointer p) ∧ w''.cell? ⟨w.heap.size + 1, 1, none⟩ = some (.int .i64 (Nm : Nat)) ∧ w''.cell? ⟨w.heap.size, 0, none⟩ = some (.int .i64 vk) ∧ w''.cell? ⟨w.heap.size, 1, none⟩ = some (.int .i64 vn) ∧ w''.cell? ⟨w.heap.size, 2, none⟩ = some (.string vs) ∧ Hid (PT w w'' v p F nb m j (.slice a Nm c)))) := fun w' h => by
        have hs := h.2.2.2.2.2.out.sl
        rw [← HNM.out] at hs
        have q := fndC_is a c m (by omega) v w' hs
        rw [h.2.2.2.2.2.out.ps.rel.fnd, HL1.out, HNM.out] at q
        rw [HVV.out] at q
        refine q.mono fun e w'' ⟨v1, q1, q2, q3⟩ => ?_
        obtain ⟨a1, c1, rfl⟩ := slices_shape q2
        rw [HK1.out.1] at q1 q2
        exact ⟨a1, c1, q1, ⟨q2, q3⟩, HSN.out _ _ h q3⟩
      have HSM : Hid (∀ w' u1 u2, Sl iv 1 w' u1 l1 → Sl iv 1 w' u2 l1 → (w'.cell? ⟨w.heap.size + 1, 0, none⟩ = some (.pointer p) ∧ w'.cell? ⟨w.heap.size + 1, 1, none⟩ = some (.int .i64 (Nm : Nat)) ∧ w'.cell? ⟨w.heap.size, 0, none⟩ = some (.int .i64 vk) ∧ w'.cell? ⟨w.heap.size, 1, none⟩ = some (.int .i64 vn) ∧ w'.cell? ⟨w.heap.size, 2, none⟩ = some (.string vs) ∧ Hid (PT w w' v p F nb m j (.slice a Nm c))) → Calls Try.prog 12 #[u1, u2] w' fun e w'' => e = .returned (.bool true) ∧ (w''.cell? ⟨w.heap.size + 1, 0, none⟩ = some (.pointer p) ∧ w''.cell? ⟨w.heap.size + 1, 1, none⟩ = some (.int .i64 (Nm : Nat)) ∧ w''.cell? ⟨w.heap.size, 0, none⟩ = some (.int .i64 vk) ∧ w''.cell? ⟨w.heap.size, 1, none⟩ = some (.int .i64 vn) ∧ w''.cell? ⟨w.heap.size, 2, none⟩ = some (.string vs) ∧ Hid (PT w w'' v p F nb m j (.slice a Nm c)))) := fun w' u1 u2 h1 h2 h => by
        have q := same_is u1 u2 l1 l1 HK1.out.2 HK1.out.2 w' h1 h2
        rw [decide_eq_true rfl] at q
        exact q.mono fun e w'' ⟨q1, q2⟩ => ⟨q1, HSN.out _ _ h q2⟩
      have HAS : Hid (∀ w', (w'.cell? ⟨w.heap.size + 1, 0, none⟩ = some (.pointer p) ∧ w'.cell? ⟨w.heap.size + 1, 1, none⟩ = some (.int .i64 (Nm : Nat)) ∧ w'.cell? ⟨w.heap.size, 0, none⟩ = some (.int .i64 vk) ∧ w'.cell? ⟨w.heap.size, 1, none⟩ = some (.int .i64 vn) ∧ w'.cell? ⟨w.heap.size, 2, none⟩ = some (.string vs) ∧ Hid (PT w w' v p F nb m j (.slice a Nm c))) → Calls Try.prog 7 #[] w' fun e w'' => e = .returned (.bool true) ∧ (w''.cell? ⟨w.heap.size + 1, 0, none⟩ = some (.pointer p) ∧ w''.cell? ⟨w.heap.size + 1, 1, none⟩ = some (.int .i64 (Nm : Nat)) ∧ w''.cell? ⟨w.heap.size, 0, none⟩ = some (.int .i64 vk) ∧ w''.cell? ⟨w.heap.size, 1, none⟩ = some (.int .i64 vn) ∧ w''.cell? ⟨w.heap.size, 2, none⟩ = some (.string vs) ∧ Hid (PT w w'' v p F nb m j (.slice a Nm c)))) := fun w' h => (HAW.out w').mono fun e w'' ⟨q1, q2⟩ => ⟨q1, HSN.out _ _ h q2⟩
      have hcond : ((j : Int) < (len : Int) ∧ ¬ ((j : Int) < 120)) ∨ ¬ ((j : Int) < (len : Int)) := by omega
      rw [hNm]
      clear HEND HPT hvk hvn hvs hl1 hK1 hNm hgo HAW HR
      rcases hcond with ⟨hc1, hc2⟩ | hc1
      · go_wp2_with fail
        go_region_held (fun (w' : World) => (w'.cell? ⟨w.heap.size + 1, 0, none⟩ = some (.pointer p) ∧ w'.cell? ⟨w.heap.size + 1, 1, none⟩ = some (.int .i64 (Nm : Nat)) ∧ w'.cell? ⟨w.heap.size, 0, none⟩ = some (.int .i64 vk) ∧ w'.cell? ⟨w.heap.size, 1, none⟩ = some (.int .i64 vn) ∧ w'.cell? ⟨w.heap.size, 2, none⟩ = some (.string vs) ∧ Hid (PT w w' v p F nb m j (.slice a Nm c)))) (first | (with_reducible assumption) | (with_reducible exact HS0.out))
          (first | ((with_reducible refine Calls.mono (HFI.out _ (by first | with_reducible assumption | exact HS0.out)) ?_); rintro e wC ⟨a1, c1, rfl, Hs1, hSC⟩; (try (have Hq := Hs2.out.1.next iv_ne Hs1.out.2; clear Hs2; have Hs2 : Hid (Sl iv 1 wC (.slice a2 K1 c2) l1 ∧ True) := ⟨Hq, trivial⟩; clear Hq))) | ((with_reducible refine Calls.mono (HFL.out _ (by first | with_reducible assumption | exact HS0.out)) ?_); rintro e wD ⟨a2, c2, rfl, Hs2, hSD⟩; (try (have Hq := Hs1.out.1.next iv_ne Hs2.out.2; clear Hs1; have Hs1 : Hid (Sl iv 1 wD (.slice a1 K1 c1) l1 ∧ True) := ⟨Hq, trivial⟩; clear Hq))) | ((with_reducible refine Calls.mono (HSM.out _ _ _ Hs1.out.1 Hs2.out.1 (by with_reducible assumption)) ?_); rintro e wE ⟨rfl, hSE⟩) | ((with_reducible refine Calls.mono (HAS.out _ (by with_reducible assumption)) ?_); rintro e wF ⟨rfl, hSF⟩))
        all_goals (have HE : Hid (Below w.heap.size w wF) := hSF.2.2.2.2.2.out.ps.bel)
        all_goals (try simp only [Exit.then])
        all_goals go_wp2_with fail
        all_goals go_ret
        all_goals exact ⟨rfl, HE.out⟩
      · go_wp2_with fail
        go_region_held (fun (w' : World) => (w'.cell? ⟨w.heap.size + 1, 0, none⟩ = some (.pointer p) ∧ w'.cell? ⟨w.heap.size + 1, 1, none⟩ = some (.int .i64 (Nm : Nat)) ∧ w'.cell? ⟨w.heap.size, 0, none⟩ = some (.int .i64 vk) ∧ w'.cell? ⟨w.heap.size, 1, none⟩ = some (.int .i64 vn) ∧ w'.cell? ⟨w.heap.size, 2, none⟩ = some (.string vs) ∧ Hid (PT w w' v p F nb m j (.slice a Nm c)))) (first | (with_reducible assumption) | (with_reducible exact HS0.out))
          (first | ((with_reducible refine Calls.mono (HFI.out _ (by first | with_reducible assumption | exact HS0.out)) ?_); rintro e wC ⟨a1, c1, rfl, Hs1, hSC⟩; (try (have Hq := Hs2.out.1.next iv_ne Hs1.out.2; clear Hs2; have Hs2 : Hid (Sl iv 1 wC (.slice a2 K1 c2) l1 ∧ True) := ⟨Hq, trivial⟩; clear Hq))) | ((with_reducible refine Calls.mono (HFL.out _ (by first | with_reducible assumption | exact HS0.out)) ?_); rintro e wD ⟨a2, c2, rfl, Hs2, hSD⟩; (try (have Hq := Hs1.out.1.next iv_ne Hs2.out.2; clear Hs1; have Hs1 : Hid (Sl iv 1 wD (.slice a1 K1 c1) l1 ∧ True) := ⟨Hq, trivial⟩; clear Hq))) | ((with_reducible refine Calls.mono (HSM.out _ _ _ Hs1.out.1 Hs2.out.1 (by with_reducible assumption)) ?_); rintro e wE ⟨rfl, hSE⟩) | ((with_reducible refine Calls.mono (HAS.out _ (by with_reducible assumption)) ?_); rintro e wF ⟨rfl, hSF⟩))
        all_goals (have HE : Hid (Below w.heap.size w wF) := hSF.2.2.2.2.2.out.ps.bel)
        all_goals (try simp only [Exit.then])
        all_goals go_wp2_with fail
        all_goals go_ret
        all_goals exact ⟨rfl, HE.out⟩
end Go.Proofs.Ytgjeobmbfeinnaa
