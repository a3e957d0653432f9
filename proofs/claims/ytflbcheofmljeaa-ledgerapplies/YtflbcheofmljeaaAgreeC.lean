/- ledger.agrees: the call. -/
import Derived.Test.YtflbcheofmljeaaAgreeB
import Derived.Laws.EntriesVeiled
namespace Go.Proofs.Ytflbcheofmljeaa
open Go.ChangeShapes Go.WideShapes Go.RowKit
set_option linter.unusedVariables false
set_option maxRecDepth 100000

set_option maxHeartbeats 8000000 in
theorem agrees_is (a0 : Option Addr) (n0 c0 : Nat) (a1 : Option Addr) (n1 c1 : Nat) (a2 : Option Addr) (n2 c2 : Nat) (ops : Int) (L : Led) (h0 : L.S.length = n0) (h1 : L.H.length = n1) (h2 : L.M.length = n2) (m0 : n0 ≤ 4096) (m1 : n1 ≤ 4096) (m2 : n2 ≤ 4096) (hs : Rises L.S) (hf : L.fit) (w : World) (hr : Lies w a0 a1 a2 L) :
    Calls Try.prog 44 #[lval a0 n0 c0 a1 n1 c1 a2 n2 c2 ops] w fun e w' => e = .returned (.bool (decide (agreeP L))) ∧ Below w.heap.size w w' := by
  obtain ⟨z, hz⟩ : ∃ z, decide (agreeP L) = z := ⟨_, rfl⟩
  rw [hz]
  have HZ : Hid (decide (agreeP L) = z) := hz
  obtain ⟨N, hN⟩ : ∃ N, w.heap.size = N := ⟨_, rfl⟩
  obtain ⟨W0, hW0⟩ : ∃ W0, w.alloc (.cells #[.slice a0 n0 c0, .slice a1 n1 c1, .slice a2 n2 c2, .int .i64 ops] 26) = W0 := ⟨_, rfl⟩
  have hB0 : Below N w W0 := by rw [← hW0, ← hN]; exact below1 _ _
  have hz0 : W0.heap.size = N + 1 := by rw [← hW0, size_alloc, hN]
  have hL0 : CellsF W0 N [.slice a0 n0 c0, .slice a1 n1 c1, .slice a2 n2 c2, .int .i64 ops] := by rw [← hW0]; exact CellsF.at _ 26 (by simp) hN.symm
  obtain ⟨w1, q1, b1, k1, z1⟩ := make_lists W0.drew n0 (by omega) (N + 1) hz0
  obtain ⟨w2, q2, b2, k2, z2⟩ := make_lists w1 n0 (by omega) (N + 1 + 1) z1
  have R1 : Hid ((Instr.makeSlice 91 (.int .i64 (n0 : Int)) (.int .i64 (n0 : Int))).run Try.prog W0.drew = .ok (.slice (some ⟨N + 1, 0, none⟩) n0 n0) w1) := q1
  have R2 : Hid ((Instr.makeSlice 91 (.int .i64 (n0 : Int)) (.int .i64 (n0 : Int))).run Try.prog w1 = .ok (.slice (some ⟨N + 1 + 1, 0, none⟩) n0 n0) w2) := q2
  have k0 : Below W0.heap.size W0 w1 := ⟨k1.os, k1.tape, k1.output, k1.size, k1.block⟩
  have c0w1 := (hL0.next k0).cs 0 _ rfl
  have HL2 : Hid (CellsF w2 N [.slice a0 n0 c0, .slice a1 n1 c1, .slice a2 n2 c2, .int .i64 ops] ∧ Bare w2 (N + 1) n0 ∧ Bare w2 (N + 1 + 1) n0 ∧ Below N w w2 ∧ w2.heap.size = N + 3) := ⟨(hL0.next k0).next k2, b1.next k2, b2, Below.less (Below.less hB0 k0 (by omega)) k2 (by rw [z1]; omega), z2⟩
  have e0 := HL2.out.1.cs 0 _ rfl
  have cW0 := hL0.cs 0 _ rfl
  have cW0d : W0.drew.cell? ⟨N, 0, none⟩ = some (.slice a0 n0 c0) := cW0
  clear q1 q2 b1 b2 k1 k2 z1 z2 k0 hB0 hz0 hL0 hz
  have H0 : Hid (L.S.length = n0 ∧ L.H.length = n1 ∧ L.M.length = n2 ∧ Rises L.S ∧ L.fit) := ⟨h0, h1, h2, hs, hf⟩
  have HR : Hid (Lies w a0 a1 a2 L) := hr
  have HNN : Hid (w.heap.size = N) := hN
  clear h0 h1 h2 hs hf hr
  go_enter Try.func44, Try.ntmps44
  rw [hN]
  go_wp2_with fail
  try rw [hW0]
  have r1 := R1.out
  have r2 := R2.out
  go_region
  all_goals clear r1 r2 R1 R2
  · obtain ⟨q, hq⟩ : ∃ q, N + 1 + 1 = q := ⟨_, rfl⟩
    obtain ⟨p, hp⟩ : ∃ p, N + 1 = p := ⟨_, rfl⟩
    have HPQ : Hid (Bare w2 p n0 ∧ Bare w2 q n0 ∧ p ≠ q ∧ (p = N + 1 ∨ p = N + 2) ∧ (q = N + 1 ∨ q = N + 2)) := ⟨hp ▸ HL2.out.2.1, hq ▸ HL2.out.2.2.1, by omega, by omega, by omega⟩
    rw [hq, hp]
    clear hq hp
    have HZ2 : Hid (w2.heap.size = N + 3) := HL2.out.2.2.2.2
    have HF : Hid _ := finder_is (.slice a0 n0 c0) a0 n0 c0 rfl w2
    go_wp2_with fail
    refine Calls.mono HF.out ?_; rintro e w3 ⟨rfl, rfl⟩
    obtain ⟨W, hW⟩ : ∃ W, (w2.alloc (.cells #[.slice a0 n0 c0] 22)).alloc (.cells #[.func (.func 81) #[] #[.pointer (some ⟨w2.heap.size, 0, none⟩)]] 92) = W := ⟨_, rfl⟩
    have kk : Below w2.heap.size w2 W := hW ▸ below2 _ _ _
    have hEnv : Env w W N p q a0 n0 c0 a1 n1 c1 a2 n2 c2 ops := by
      have hz2 := HZ2.out
      refine ⟨Below.less HL2.out.2.2.2.1 kk (by omega), HL2.out.1.next kk, ⟨N + 3, ?_, ?_, rfl⟩, HPQ.out.1.next kk, HPQ.out.2.1.next kk, HPQ.out.2.2, ?_⟩
      · rw [← hW, ← hz2]; exact (CellsF.at _ 92 (by simp) (by rw [size_alloc, hz2])).cs 0 _ rfl
      · rw [← hW]; exact ((CellsF.at _ 22 (by simp) hz2.symm).next (below1 _ _)).cs 0 _ rfl
      · rw [← hW, size_alloc, size_alloc, hz2]
    have HE : Hid _ := hEnv
    have e1 := hEnv.led.cs 1 _ rfl
    clear kk hEnv HL2 HPQ HF e0 c0w1 cW0 cW0d
    go_wp2_with fail
    try rw [hW]
    rw [HZ2.out]
    clear hW HZ2
    go_wp2_with fail
    go_loopw [28] (fun vi wr => ∃ i : Nat, i ≤ n1 ∧ vi = .int .i64 i ∧ ∃ f, Hid (In1 W wr p n0 i L.S L.H f))
      (fun vi _ => n1 - (intOf vi).toNat)
    case atStart =>
      refine ⟨0, Nat.zero_le _, rfl, fun _ => [], Stay.refl _ _, Lists.fresh (fun q => q.2 rfl) HE.out.pB.lt HE.out.pB.fz HE.out.pB.cs, fun k h => ?_, fun k => Nat.le_refl _, fun j h q => absurd q (Nat.not_lt_zero _)⟩
      rw [List.take_zero]; rfl
    case round =>
      obtain ⟨i, hi, rfl, f, HI⟩ := hrel
      have hst := HE.out.stay HI.out.stay HE.out.ne.2.1
      by_cases hlt : i < n1
      · have hlti : (i : Int) < (n1 : Int) := by omega
        have hil : i < L.H.length := by have := H0.out.2.1; omega
        obtain ⟨b, o, rfl, hb, hc⟩ := HR.out.H.hld (fun e => by rw [e] at hil; simp at hil)
        have hx := (hc i hil).next (hst.1.block b (by have := HNN.out; omega))
        obtain ⟨x, hxk⟩ : ∃ x, L.H[i] = x := ⟨_, rfl⟩
        rw [hxk] at hx
        have HX : Hid (L.H[i] = x) := hxk
        have hxf : x.fit := hxk ▸ H0.out.2.2.2.2.H _ (List.getElem_mem hil)
        clear hc hb hxk
        obtain ⟨xi, xs, xl, xq, xt, xd⟩ := x
        obtain ⟨x0, x1, x2, x3, x4, x5⟩ := hx
        dsimp only at x0 x1 x2 x3 x4 x5
        by_cases h0 : xt = 0
        · subst h0
          obtain ⟨W', hW'⟩ : ∃ W', wr.alloc (.cells #[.int .i64 xi, .string xs, .string xl, .int .i64 xq, .int .i64 0, .int .i64 xd] 44) = W' := ⟨_, rfl⟩
          have kb : Below wr.heap.size wr W' := hW' ▸ below1 _ _
          have HK : Hid (Below wr.heap.size wr W') := kb
          have hN4 : N < wr.heap.size := hst.2.1.lt
          have g1 : W'.cell? ⟨N + 4, 0, none⟩ = some (.func (.func 81) #[] #[.pointer (some ⟨N + 3, 0, none⟩)]) := (kb.cell (p := ⟨N + 4, 0, none⟩) (World.block_lt_of_cell? wr _ hst.2.2.1)).trans hst.2.2.1
          have g2 : W'.cell? ⟨N + 3, 0, none⟩ = some (.slice a0 n0 c0) := (kb.cell (p := ⟨N + 3, 0, none⟩) (World.block_lt_of_cell? wr _ hst.2.2.2)).trans hst.2.2.2
          have hrw : Rw stv 4 W' a0 L.S := HR.out.S.far (fun b o e hl => (kb.block b (by have := HR.out.S.lt stv_ne e hl; have := hst.1.size; omega)).trans (hst.1.block b (by have := HR.out.S.lt stv_ne e hl; have := HNN.out; omega)))
          cases hk : hasK L.S xs xl with
          | false =>
            have HP : Hid _ := put_no a0 c0 n0 L.S H0.out.1 H0.out.2.2.2.1 (by omega) xs xl xq (.slice (some ⟨p, 0, none⟩) n0 n0) p n0 n0 (N + 3) (N + 4) W' rfl g1 g2 hrw hk
            have HF : Hid (z = false) := by
              show z = false
              rw [← HZ.out]
              refine decide_eq_false (fun e => ?_)
              have := e.1 _ (List.getElem_mem hil) (by rw [HX.out])
              rw [HX.out] at this
              dsimp only at this
              rw [hk] at this
              cases this
            have HB : Hid (Below N w W') := Below.less hst.1 kb (by omega)
            have HWW : Hid _ := hW'
            clear hk hrw g1 g2 kb hst hxf hW'
            go_wp2_with fail
            rw [HWW.out]
            refine Calls.mono HP.out ?_; rintro e w4 ⟨rfl, k4⟩
            have HB4 : Hid (Below N w w4) := Below.less HB.out k4 (by have := HK.out.size; omega)
            clear k4
            go_wp2_with fail
            go_ret
            exact ⟨by rw [HF.out]; rfl, HNN.out ▸ HB4.out⟩
          | true =>
            have HP : Hid _ := put_yes a0 c0 n0 L.S H0.out.1 H0.out.2.2.2.1 (by omega) xs xl xq p (N + 3) (N + 4) W' g1 g2 hrw hk (fun k => k < W.heap.size ∧ k ≠ p) f (HI.out.ls.next kb) (fun k q => by have := HI.out.stay.size; have := kb.size; omega) (fun k => by have := HI.out.len k; omega)
            have HM : Hid (∀ w4, Lists w4 (fun k => k < W.heap.size ∧ k ≠ p) p n0 (more1 f (posK L.S xs xl) xq) → Stay (fun k => k < W.heap.size ∧ k ≠ p) W' w4 → In1 W w4 p n0 (i + 1) L.S L.H (more1 f (posK L.S xs xl) xq)) := fun w4 q1 q2 => by
              have := In1.more HI.out H0.out.2.2.2.1 hil (by rw [HX.out]) (by rw [HX.out]; exact hk) (w' := w4) (by rw [HX.out]; exact q1) (((Stay.refl _ _).below HK.out (fun k q => by have := HI.out.stay.size; omega)).trans q2)
              rw [HX.out] at this
              exact this
            have HWW : Hid _ := hW'
            clear hk hrw g1 g2 kb hst hxf hW'
            go_wp2_with fail
            rw [HWW.out]
            refine Calls.mono HP.out ?_; rintro e w4 ⟨rfl, k4, k5⟩
            have HI4 : Hid _ := HM.out w4 k4 k5
            clear k4 k5
            go_wp2_with fail
            go_roundw
            case rel => exact ⟨i + 1, by omega, by go_num, _, HI4.out⟩
            case measure => simp [intOf]; omega
        · have b0 : (xt == 0) = false := by simpa using h0
          have HP : Hid (∀ w4, Below wr.heap.size wr w4 → In1 W w4 p n0 (i + 1) L.S L.H f) := fun w4 q => In1.pass HI.out hil (by rw [HX.out]; exact h0) q
          have HN2 : Hid (¬ xt = 0) := h0
          clear h0 hst hxf
          go_wp2_with fail
          go_roundw
          case rel => exact ⟨i + 1, by omega, by go_num, _, HP.out _ (below1 _ _)⟩
          case measure => simp [intOf]; omega
      · have hlti : ¬ (i : Int) < (n1 : Int) := by omega
        obtain rfl : n1 = i := by omega
        have e2 := hst.2.1.cs 2 _ rfl
        obtain ⟨f1, HI1⟩ : ∃ f1, Hid (In1 W wr p n0 n1 L.S L.H f1) := ⟨f, HI⟩
        have hqB : Bare wr q n0 := HE.out.qB.far HI.out.stay.size (HI.out.stay.block q ⟨HE.out.qB.lt, fun e => HE.out.ne.1 e.symm⟩)
        have HQB : Hid (Bare wr q n0) := hqB
        have HST : Hid _ := hst
        clear hst hqB HI
        generalize wr = W4 at *
        go_wp2_with fail
        go_loopw [51] (fun vi wv => ∃ j : Nat, j ≤ n2 ∧ vi = .int .i64 j ∧ ∃ g, Hid (In2 W4 wv q n0 j L.S L.M g))
          (fun vi _ => n2 - (intOf vi).toNat)
        case atStart =>
          refine ⟨0, Nat.zero_le _, rfl, fun _ => [], Stay.refl _ _, Lists.fresh (fun q => q.2 rfl) HQB.out.lt HQB.out.fz HQB.out.cs, fun k h => ?_, fun k => Nat.le_refl _, fun j h q => absurd q (Nat.not_lt_zero _)⟩
          rw [List.take_zero]; rfl
        case round =>
          obtain ⟨j, hj, rfl, g, HJ⟩ := hrel
          have hst := HST.out
          have hsz := HE.out.sz
          have hszW := HI1.out.stay.size
          have hne := HE.out.ne
          have hst2 : Below N w wr ∧ CellsF wr N [.slice a0 n0 c0, .slice a1 n1 c1, .slice a2 n2 c2, .int .i64 ops] ∧ (wr.cell? ⟨N + 4, 0, none⟩ = some (.func (.func 81) #[] #[.pointer (some ⟨N + 3, 0, none⟩)]) ∧ wr.cell? ⟨N + 3, 0, none⟩ = some (.slice a0 n0 c0)) := by
            have s := HJ.out.stay
            refine ⟨hst.1.trans ⟨s.os, s.tape, s.output, s.size, fun k hk => s.block k ⟨by omega, by omega⟩⟩, hst.2.1.far (s.block N ⟨by omega, by omega⟩), ?_, ?_⟩
            · exact (World.cell?_of_block (a := ⟨N + 4, 0, none⟩) (s.block (N + 4) ⟨by omega, by omega⟩)).trans hst.2.2.1
            · exact (World.cell?_of_block (a := ⟨N + 3, 0, none⟩) (s.block (N + 3) ⟨by omega, by omega⟩)).trans hst.2.2.2
          clear hst hsz hne
          by_cases hlt : j < n2
          · have hltj : (j : Int) < (n2 : Int) := by omega
            have hil : j < L.M.length := by have := H0.out.2.2.1; omega
            obtain ⟨b, o, rfl, hb, hc⟩ := HR.out.M.mov (fun e => by rw [e] at hil; simp at hil)
            have hx := (hc j hil).next (hst2.1.block b (by have := HNN.out; omega))
            obtain ⟨x, hxk⟩ : ∃ x, L.M[j] = x := ⟨_, rfl⟩
            rw [hxk] at hx
            have HX : Hid (L.M[j] = x) := hxk
            clear hc hb hxk
            obtain ⟨xi, xs, xl, xq, xt, xd⟩ := x
            obtain ⟨x0, x1, x2, x3, x4, x5⟩ := hx
            dsimp only at x0 x1 x2 x3 x4 x5
            obtain ⟨W', hW'⟩ : ∃ W', wr.alloc (.cells #[.int .i64 xi, .string xs, .string xl, .int .i64 xq, .int .i64 xt, .int .i64 xd] 42) = W' := ⟨_, rfl⟩
            have kb : Below wr.heap.size wr W' := hW' ▸ below1 _ _
            have HK : Hid (Below wr.heap.size wr W') := kb
            have hN4 : N < wr.heap.size := hst2.2.1.lt
            have g1 : W'.cell? ⟨N + 4, 0, none⟩ = some (.func (.func 81) #[] #[.pointer (some ⟨N + 3, 0, none⟩)]) := (kb.cell (p := ⟨N + 4, 0, none⟩) (World.block_lt_of_cell? wr _ hst2.2.2.1)).trans hst2.2.2.1
            have g2 : W'.cell? ⟨N + 3, 0, none⟩ = some (.slice a0 n0 c0) := (kb.cell (p := ⟨N + 3, 0, none⟩) (World.block_lt_of_cell? wr _ hst2.2.2.2)).trans hst2.2.2.2
            have hrw : Rw stv 4 W' a0 L.S := HR.out.S.far (fun b o e hl => (kb.block b (by have := HR.out.S.lt stv_ne e hl; have := hst2.1.size; omega)).trans (hst2.1.block b (by have := HR.out.S.lt stv_ne e hl; have := HNN.out; omega)))
            cases hk : hasK L.S xs xl with
            | false =>
              have HP : Hid _ := put_no a0 c0 n0 L.S H0.out.1 H0.out.2.2.2.1 (by omega) xs xl xq (.slice (some ⟨q, 0, none⟩) n0 n0) q n0 n0 (N + 3) (N + 4) W' rfl g1 g2 hrw hk
              have HF : Hid (z = false) := by
                show z = false
                rw [← HZ.out]
                refine decide_eq_false (fun e => ?_)
                have := e.2.1 _ (List.getElem_mem hil)
                rw [HX.out] at this
                dsimp only at this
                rw [hk] at this
                cases this
              have HB : Hid (Below N w W') := Below.less hst2.1 kb (by omega)
              have HWW : Hid _ := hW'
              clear hk hrw g1 g2 kb hst2 hW'
              go_wp2_with fail
              rw [HWW.out]
              refine Calls.mono HP.out ?_; rintro e w4 ⟨rfl, k4⟩
              have HB4 : Hid (Below N w w4) := Below.less HB.out k4 (by have := HK.out.size; omega)
              clear k4
              go_wp2_with fail
              go_ret
              exact ⟨by rw [HF.out]; rfl, HNN.out ▸ HB4.out⟩
            | true =>
              have HP : Hid _ := put_yes a0 c0 n0 L.S H0.out.1 H0.out.2.2.2.1 (by omega) xs xl xq q (N + 3) (N + 4) W' g1 g2 hrw hk (fun k => k < W4.heap.size ∧ k ≠ q) g (HJ.out.ls.next kb) (fun k q => by have := HJ.out.stay.size; have := kb.size; omega) (fun k => by have := HJ.out.len k; omega)
              have HM : Hid (∀ w4, Lists w4 (fun k => k < W4.heap.size ∧ k ≠ q) q n0 (more1 g (posK L.S xs xl) xq) → Stay (fun k => k < W4.heap.size ∧ k ≠ q) W' w4 → In2 W4 w4 q n0 (j + 1) L.S L.M (more1 g (posK L.S xs xl) xq)) := fun w4 q1 q2 => by
                have := In2.more HJ.out H0.out.2.2.2.1 hil (by rw [HX.out]; exact hk) (w' := w4) (by rw [HX.out]; exact q1) (((Stay.refl _ _).below HK.out (fun k q => by have := HJ.out.stay.size; omega)).trans q2)
                rw [HX.out] at this
                exact this
              have HWW : Hid _ := hW'
              clear hk hrw g1 g2 kb hst2 hW'
              go_wp2_with fail
              rw [HWW.out]
              refine Calls.mono HP.out ?_; rintro e w4 ⟨rfl, k4, k5⟩
              have HI4 : Hid _ := HM.out w4 k4 k5
              clear k4 k5
              go_wp2_with fail
              go_roundw
              case rel => exact ⟨j + 1, by omega, by go_num, _, HI4.out⟩
              case measure => simp [intOf]; omega
          · have hltj : ¬ (j : Int) < (n2 : Int) := by omega
            obtain rfl : n2 = j := by omega
            have e3 := hst2.2.1.cs 0 _ rfl
            have hsub : ∀ k, k < W4.heap.size → ¬ (k < W.heap.size ∧ k ≠ p) → (k < W4.heap.size ∧ k ≠ q) := fun k hk hn => ⟨hk, fun e => hn ⟨by rw [e]; exact HE.out.qB.lt, fun e' => HE.out.ne.1 (e'.symm.trans e)⟩⟩
            have HLP : Hid (Lists wr (fun k => k < W.heap.size ∧ k ≠ p) p n0 f1) := HI1.out.ls.stay HJ.out.stay hsub
            have HLQ : Hid (Lists wr (fun k => k < W4.heap.size ∧ k ≠ q) q n0 g) := HJ.out.ls
            have HEQ : Hid (∀ k (h : k < L.S.length), f1 k = heldOf L.H L.S[k].sku L.S[k].loc ∧ g k = movedOf L.M L.S[k].sku L.S[k].loc) := fun k h => by
              have q1 := HI1.out.eq k h
              have q2 := HJ.out.eq k h
              rw [List.take_of_length_le (by have := H0.out.2.1; omega)] at q1
              rw [List.take_of_length_le (by have := H0.out.2.2.1; omega)] at q2
              exact ⟨q1, q2⟩
            have HLEN : Hid (∀ k, (f1 k).length ≤ 4096 ∧ (g k).length ≤ 4096) := fun k => ⟨Nat.le_trans (HI1.out.len k) m1, Nat.le_trans (HJ.out.len k) m2⟩
            have HAS : Hid ((∀ h, h ∈ L.H → h.st = 0 → hasK L.S h.sku h.loc = true) ∧ ∀ m, m ∈ L.M → hasK L.S m.sku m.loc = true) := by
              refine ⟨fun h hm h0 => ?_, fun m hm => ?_⟩
              · obtain ⟨k, hk, rfl⟩ := List.getElem_of_mem hm
                exact HI1.out.has k hk (by have := H0.out.2.1; omega) h0
              · obtain ⟨k, hk, rfl⟩ := List.getElem_of_mem hm
                exact HJ.out.has k hk (by have := H0.out.2.2.1; omega)
            have HB5 : Hid (Below N w wr ∧ N < wr.heap.size) := ⟨hst2.1, hst2.2.1.lt⟩
            clear hsub hst2 HJ HI1 HST HQB HE hszW
            generalize wr = W5 at *
            go_wp2_with fail
            go_loopw [69] (fun vi wr => ∃ k : Nat, k ≤ n0 ∧ vi = .int .i64 k ∧ Hid (Below W5.heap.size W5 wr ∧ ∀ i (h : i < L.S.length), i < k → (heldOf L.H L.S[i].sku L.S[i].loc).sum = L.S[i].held ∧ (movedOf L.M L.S[i].sku L.S[i].loc).sum = L.S[i].on))
              (fun vi _ => n0 - (intOf vi).toNat)
            case atStart => exact ⟨0, Nat.zero_le _, rfl, Below.refl _ _, fun i h q => absurd q (Nat.not_lt_zero _)⟩
            case round =>
              obtain ⟨k, hk, rfl, HU⟩ := hrel
              by_cases hlt : k < n0
              · have hltk : (k : Int) < (n0 : Int) := by omega
                have hkl : k < L.S.length := by have := H0.out.1; omega
                obtain ⟨b, o, rfl, hb, hc⟩ := HR.out.S.stk (fun e => by rw [e] at hkl; simp at hkl)
                have hbN : b < N := by have := HNN.out; omega
                have hx := ((hc k hkl).next (HB5.out.1.block b hbN)).next (HU.out.1.block b (by have := HB5.out.2; omega))
                obtain ⟨x, hxk⟩ : ∃ x, L.S[k] = x := ⟨_, rfl⟩
                rw [hxk] at hx
                have HX : Hid (L.S[k] = x) := hxk
                have hxf : x.fit := hxk ▸ H0.out.2.2.2.2.S _ (List.getElem_mem hkl)
                have heq := HEQ.out k hkl
                rw [hxk] at heq
                clear hc hb hxk
                obtain ⟨xs, xl, xo, xh⟩ := x
                obtain ⟨x0, x1, x2, x3⟩ := hx
                dsimp only at x0 x1 x2 x3 heq
                obtain ⟨W', hW'⟩ : ∃ W', wr.alloc (.cells #[.string xs, .string xl, .int .i64 xo, .int .i64 xh] 50) = W' := ⟨_, rfl⟩
                have kb : Below wr.heap.size wr W' := hW' ▸ below1 _ _
                have kv : Below W5.heap.size W5 W' := Below.next HU.out.1 kb
                obtain ⟨V1, v1, _⟩ := (HLP.out.next kv).vs
                obtain ⟨V2, v2, _⟩ := (HLQ.out.next kv).vs
                obtain ⟨d1, d2, _⟩ := v1 k hlt
                obtain ⟨d3, d4, _⟩ := v2 k hlt
                obtain ⟨o1, cc1, hv1⟩ := own_form d2
                obtain ⟨o2, cc2, hv2⟩ := own_form d4
                rw [hv1] at d1 d2
                rw [hv2] at d3 d4
                have HS1 : Hid (∀ m, Calls Try.prog 66 #[.int .i64 xh, .slice o1 (f1 k).length cc1] (W'.drewN m) fun e w' => e = .returned (.bool (decide ((heldOf L.H xs xl).sum = xh))) ∧ w' = W'.drewN m) := fun m => by
                  have := isSum_is xh hxf.held (.slice o1 (f1 k).length cc1) (f1 k) (W'.drewN m) (ownsRow_kept d2 (fun _ _ => rfl)) (by have := HLEN.out k; omega) (fun y hy => by
                    rw [heq.1] at hy
                    obtain ⟨h, hh, rfl⟩ := List.mem_map.1 hy
                    exact (H0.out.2.2.2.2.H h (List.mem_filter.1 hh).1).qty)
                  rw [heq.1] at this ⊢
                  exact this
                have HS2 : Hid (∀ m, Calls Try.prog 66 #[.int .i64 xo, .slice o2 (g k).length cc2] (W'.drewN m) fun e w' => e = .returned (.bool (decide ((movedOf L.M xs xl).sum = xo))) ∧ w' = W'.drewN m) := fun m => by
                  have := isSum_is xo hxf.on (.slice o2 (g k).length cc2) (g k) (W'.drewN m) (ownsRow_kept d4 (fun _ _ => rfl)) (by have := HLEN.out k; omega) (fun y hy => by
                    rw [heq.2] at hy
                    obtain ⟨h, hh, rfl⟩ := List.mem_map.1 hy
                    exact (H0.out.2.2.2.2.M h (List.mem_filter.1 hh).1).delta)
                  rw [heq.2] at this ⊢
                  exact this
                have hCW : CellsF W' wr.heap.size [.string xs, .string xl, .int .i64 xo, .int .i64 xh] := by rw [← hW']; exact CellsF.at _ 50 (by simp) rfl
                have y2 := hCW.cs 2 _ rfl
                have y3 := hCW.cs 3 _ rfl
                have HKV : Hid (Below W5.heap.size W5 W') := kv
                have HNO : Hid (¬ ((heldOf L.H xs xl).sum = xh ∧ (movedOf L.M xs xl).sum = xo) → z = false) := fun q => by
                  rw [← HZ.out]
                  refine decide_eq_false (fun e => q ?_)
                  have := e.2.2 _ (List.getElem_mem hkl)
                  rw [HX.out] at this
                  exact this
                have HYES : Hid ((heldOf L.H xs xl).sum = xh → (movedOf L.M xs xl).sum = xo → ∀ i (h : i < L.S.length), i < k + 1 → (heldOf L.H L.S[i].sku L.S[i].loc).sum = L.S[i].held ∧ (movedOf L.M L.S[i].sku L.S[i].loc).sum = L.S[i].on) := fun q1 q2 i h hi => by
                  by_cases c : i = k
                  · subst c; rw [HX.out]; exact ⟨q1, q2⟩
                  · exact HU.out.2 i h (by omega)
                have HWW : Hid _ := hW'
                generalize (f1 k).length = u1 at *
                generalize (g k).length = u2 at *
                generalize (heldOf L.H xs xl).sum = s1 at *
                generalize (movedOf L.M xs xl).sum = s2 at *
                clear d2 d4 v1 v2 hv1 hv2 kb kv hCW hxf heq hbN HLP HLQ HLEN HEQ
                by_cases c1 : s1 = xh
                · rw [decide_eq_true c1] at HS1
                  by_cases c2 : s2 = xo
                  · rw [decide_eq_true c2] at HS2
                    have HGO : Hid _ := HYES.out c1 c2
                    clear c1 c2 HNO HYES
                    go_wp2_with fail
                    try rw [HWW.out]
                    go_quiet (first | with_reducible exact Calls.quiet_of_same (HS1.out _) | with_reducible exact Calls.quiet_of_same (HS2.out _))
                    have HK3 : Hid (Below W5.heap.size W5 (W'.drewN nq)) := ⟨HKV.out.os, HKV.out.tape, HKV.out.output, HKV.out.size, HKV.out.block⟩
                    go_wp2_with fail
                    go_roundw
                    case rel => exact ⟨k + 1, by omega, by go_num, HK3.out, HGO.out⟩
                    case measure => simp [intOf]; omega
                  · rw [decide_eq_false c2] at HS2
                    have HF : Hid (z = false) := HNO.out (fun q => c2 q.2)
                    clear c1 c2 HNO HYES
                    go_wp2_with fail
                    try rw [HWW.out]
                    go_quiet (first | with_reducible exact Calls.quiet_of_same (HS1.out _) | with_reducible exact Calls.quiet_of_same (HS2.out _))
                    have HK3 : Hid (Below W5.heap.size W5 (W'.drewN nq)) := ⟨HKV.out.os, HKV.out.tape, HKV.out.output, HKV.out.size, HKV.out.block⟩
                    go_wp2_with fail
                    go_ret
                    exact ⟨by rw [HF.out]; rfl, Below.less HB5.out.1 HK3.out (by have := HB5.out.2; omega)⟩
                · rw [decide_eq_false c1] at HS1
                  have HF : Hid (z = false) := HNO.out (fun q => c1 q.1)
                  clear c1 HNO HYES
                  go_wp2_with fail
                  try rw [HWW.out]
                  go_quiet (first | with_reducible exact Calls.quiet_of_same (HS1.out _) | with_reducible exact Calls.quiet_of_same (HS2.out _))
                  have HK3 : Hid (Below W5.heap.size W5 (W'.drewN nq)) := ⟨HKV.out.os, HKV.out.tape, HKV.out.output, HKV.out.size, HKV.out.block⟩
                  go_wp2_with fail
                  go_ret
                  exact ⟨by rw [HF.out]; rfl, Below.less HB5.out.1 HK3.out (by have := HB5.out.2; omega)⟩
              · have hltk : ¬ (k : Int) < (n0 : Int) := by omega
                have HF : Hid (z = true) := by
                  show z = true
                  rw [← HZ.out]
                  refine decide_eq_true ⟨HAS.out.1, HAS.out.2, fun x hx => ?_⟩
                  obtain ⟨i, hi, rfl⟩ := List.getElem_of_mem hx
                  exact HU.out.2 i hi (by have := H0.out.1; omega)
                go_wp2_with fail
                go_ret
                exact ⟨by rw [HF.out]; rfl, Below.less HB5.out.1 HU.out.1 (by have := HB5.out.2; omega)⟩
  · obtain ⟨p, hq⟩ : ∃ p, N + 1 + 1 = p := ⟨_, rfl⟩
    obtain ⟨q, hp⟩ : ∃ q, N + 1 = q := ⟨_, rfl⟩
    have HPQ : Hid (Bare w2 p n0 ∧ Bare w2 q n0 ∧ p ≠ q ∧ (p = N + 1 ∨ p = N + 2) ∧ (q = N + 1 ∨ q = N + 2)) := ⟨hq ▸ HL2.out.2.2.1, hp ▸ HL2.out.2.1, by omega, by omega, by omega⟩
    rw [hq, hp]
    clear hq hp
    have HZ2 : Hid (w2.heap.size = N + 3) := HL2.out.2.2.2.2
    have HF : Hid _ := finder_is (.slice a0 n0 c0) a0 n0 c0 rfl w2
    go_wp2_with fail
    refine Calls.mono HF.out ?_; rintro e w3 ⟨rfl, rfl⟩
    obtain ⟨W, hW⟩ : ∃ W, (w2.alloc (.cells #[.slice a0 n0 c0] 22)).alloc (.cells #[.func (.func 81) #[] #[.pointer (some ⟨w2.heap.size, 0, none⟩)]] 92) = W := ⟨_, rfl⟩
    have kk : Below w2.heap.size w2 W := hW ▸ below2 _ _ _
    have hEnv : Env w W N p q a0 n0 c0 a1 n1 c1 a2 n2 c2 ops := by
      have hz2 := HZ2.out
      refine ⟨Below.less HL2.out.2.2.2.1 kk (by omega), HL2.out.1.next kk, ⟨N + 3, ?_, ?_, rfl⟩, HPQ.out.1.next kk, HPQ.out.2.1.next kk, HPQ.out.2.2, ?_⟩
      · rw [← hW, ← hz2]; exact (CellsF.at _ 92 (by simp) (by rw [size_alloc, hz2])).cs 0 _ rfl
      · rw [← hW]; exact ((CellsF.at _ 22 (by simp) hz2.symm).next (below1 _ _)).cs 0 _ rfl
      · rw [← hW, size_alloc, size_alloc, hz2]
    have HE : Hid _ := hEnv
    have e1 := hEnv.led.cs 1 _ rfl
    clear kk hEnv HL2 HPQ HF e0 c0w1 cW0 cW0d
    go_wp2_with fail
    try rw [hW]
    rw [HZ2.out]
    clear hW HZ2
    go_wp2_with fail
    go_loopw [28] (fun vi wr => ∃ i : Nat, i ≤ n1 ∧ vi = .int .i64 i ∧ ∃ f, Hid (In1 W wr p n0 i L.S L.H f))
      (fun vi _ => n1 - (intOf vi).toNat)
    case atStart =>
      refine ⟨0, Nat.zero_le _, rfl, fun _ => [], Stay.refl _ _, Lists.fresh (fun q => q.2 rfl) HE.out.pB.lt HE.out.pB.fz HE.out.pB.cs, fun k h => ?_, fun k => Nat.le_refl _, fun j h q => absurd q (Nat.not_lt_zero _)⟩
      rw [List.take_zero]; rfl
    case round =>
      obtain ⟨i, hi, rfl, f, HI⟩ := hrel
      have hst := HE.out.stay HI.out.stay HE.out.ne.2.1
      by_cases hlt : i < n1
      · have hlti : (i : Int) < (n1 : Int) := by omega
        have hil : i < L.H.length := by have := H0.out.2.1; omega
        obtain ⟨b, o, rfl, hb, hc⟩ := HR.out.H.hld (fun e => by rw [e] at hil; simp at hil)
        have hx := (hc i hil).next (hst.1.block b (by have := HNN.out; omega))
        obtain ⟨x, hxk⟩ : ∃ x, L.H[i] = x := ⟨_, rfl⟩
        rw [hxk] at hx
        have HX : Hid (L.H[i] = x) := hxk
        have hxf : x.fit := hxk ▸ H0.out.2.2.2.2.H _ (List.getElem_mem hil)
        clear hc hb hxk
        obtain ⟨xi, xs, xl, xq, xt, xd⟩ := x
        obtain ⟨x0, x1, x2, x3, x4, x5⟩ := hx
        dsimp only at x0 x1 x2 x3 x4 x5
        by_cases h0 : xt = 0
        · subst h0
          obtain ⟨W', hW'⟩ : ∃ W', wr.alloc (.cells #[.int .i64 xi, .string xs, .string xl, .int .i64 xq, .int .i64 0, .int .i64 xd] 44) = W' := ⟨_, rfl⟩
          have kb : Below wr.heap.size wr W' := hW' ▸ below1 _ _
          have HK : Hid (Below wr.heap.size wr W') := kb
          have hN4 : N < wr.heap.size := hst.2.1.lt
          have g1 : W'.cell? ⟨N + 4, 0, none⟩ = some (.func (.func 81) #[] #[.pointer (some ⟨N + 3, 0, none⟩)]) := (kb.cell (p := ⟨N + 4, 0, none⟩) (World.block_lt_of_cell? wr _ hst.2.2.1)).trans hst.2.2.1
          have g2 : W'.cell? ⟨N + 3, 0, none⟩ = some (.slice a0 n0 c0) := (kb.cell (p := ⟨N + 3, 0, none⟩) (World.block_lt_of_cell? wr _ hst.2.2.2)).trans hst.2.2.2
          have hrw : Rw stv 4 W' a0 L.S := HR.out.S.far (fun b o e hl => (kb.block b (by have := HR.out.S.lt stv_ne e hl; have := hst.1.size; omega)).trans (hst.1.block b (by have := HR.out.S.lt stv_ne e hl; have := HNN.out; omega)))
          cases hk : hasK L.S xs xl with
          | false =>
            have HP : Hid _ := put_no a0 c0 n0 L.S H0.out.1 H0.out.2.2.2.1 (by omega) xs xl xq (.slice (some ⟨p, 0, none⟩) n0 n0) p n0 n0 (N + 3) (N + 4) W' rfl g1 g2 hrw hk
            have HF : Hid (z = false) := by
              show z = false
              rw [← HZ.out]
              refine decide_eq_false (fun e => ?_)
              have := e.1 _ (List.getElem_mem hil) (by rw [HX.out])
              rw [HX.out] at this
              dsimp only at this
              rw [hk] at this
              cases this
            have HB : Hid (Below N w W') := Below.less hst.1 kb (by omega)
            have HWW : Hid _ := hW'
            clear hk hrw g1 g2 kb hst hxf hW'
            go_wp2_with fail
            rw [HWW.out]
            refine Calls.mono HP.out ?_; rintro e w4 ⟨rfl, k4⟩
            have HB4 : Hid (Below N w w4) := Below.less HB.out k4 (by have := HK.out.size; omega)
            clear k4
            go_wp2_with fail
            go_ret
            exact ⟨by rw [HF.out]; rfl, HNN.out ▸ HB4.out⟩
          | true =>
            have HP : Hid _ := put_yes a0 c0 n0 L.S H0.out.1 H0.out.2.2.2.1 (by omega) xs xl xq p (N + 3) (N + 4) W' g1 g2 hrw hk (fun k => k < W.heap.size ∧ k ≠ p) f (HI.out.ls.next kb) (fun k q => by have := HI.out.stay.size; have := kb.size; omega) (fun k => by have := HI.out.len k; omega)
            have HM : Hid (∀ w4, Lists w4 (fun k => k < W.heap.size ∧ k ≠ p) p n0 (more1 f (posK L.S xs xl) xq) → Stay (fun k => k < W.heap.size ∧ k ≠ p) W' w4 → In1 W w4 p n0 (i + 1) L.S L.H (more1 f (posK L.S xs xl) xq)) := fun w4 q1 q2 => by
              have := In1.more HI.out H0.out.2.2.2.1 hil (by rw [HX.out]) (by rw [HX.out]; exact hk) (w' := w4) (by rw [HX.out]; exact q1) (((Stay.refl _ _).below HK.out (fun k q => by have := HI.out.stay.size; omega)).trans q2)
              rw [HX.out] at this
              exact this
            have HWW : Hid _ := hW'
            clear hk hrw g1 g2 kb hst hxf hW'
            go_wp2_with fail
            rw [HWW.out]
            refine Calls.mono HP.out ?_; rintro e w4 ⟨rfl, k4, k5⟩
            have HI4 : Hid _ := HM.out w4 k4 k5
            clear k4 k5
            go_wp2_with fail
            go_roundw
            case rel => exact ⟨i + 1, by omega, by go_num, _, HI4.out⟩
            case measure => simp [intOf]; omega
        · have b0 : (xt == 0) = false := by simpa using h0
          have HP : Hid (∀ w4, Below wr.heap.size wr w4 → In1 W w4 p n0 (i + 1) L.S L.H f) := fun w4 q => In1.pass HI.out hil (by rw [HX.out]; exact h0) q
          have HN2 : Hid (¬ xt = 0) := h0
          clear h0 hst hxf
          go_wp2_with fail
          go_roundw
          case rel => exact ⟨i + 1, by omega, by go_num, _, HP.out _ (below1 _ _)⟩
          case measure => simp [intOf]; omega
      · have hlti : ¬ (i : Int) < (n1 : Int) := by omega
        obtain rfl : n1 = i := by omega
        have e2 := hst.2.1.cs 2 _ rfl
        obtain ⟨f1, HI1⟩ : ∃ f1, Hid (In1 W wr p n0 n1 L.S L.H f1) := ⟨f, HI⟩
        have hqB : Bare wr q n0 := HE.out.qB.far HI.out.stay.size (HI.out.stay.block q ⟨HE.out.qB.lt, fun e => HE.out.ne.1 e.symm⟩)
        have HQB : Hid (Bare wr q n0) := hqB
        have HST : Hid _ := hst
        clear hst hqB HI
        generalize wr = W4 at *
        go_wp2_with fail
        go_loopw [51] (fun vi wv => ∃ j : Nat, j ≤ n2 ∧ vi = .int .i64 j ∧ ∃ g, Hid (In2 W4 wv q n0 j L.S L.M g))
          (fun vi _ => n2 - (intOf vi).toNat)
        case atStart =>
          refine ⟨0, Nat.zero_le _, rfl, fun _ => [], Stay.refl _ _, Lists.fresh (fun q => q.2 rfl) HQB.out.lt HQB.out.fz HQB.out.cs, fun k h => ?_, fun k => Nat.le_refl _, fun j h q => absurd q (Nat.not_lt_zero _)⟩
          rw [List.take_zero]; rfl
        case round =>
          obtain ⟨j, hj, rfl, g, HJ⟩ := hrel
          have hst := HST.out
          have hsz := HE.out.sz
          have hszW := HI1.out.stay.size
          have hne := HE.out.ne
          have hst2 : Below N w wr ∧ CellsF wr N [.slice a0 n0 c0, .slice a1 n1 c1, .slice a2 n2 c2, .int .i64 ops] ∧ (wr.cell? ⟨N + 4, 0, none⟩ = some (.func (.func 81) #[] #[.pointer (some ⟨N + 3, 0, none⟩)]) ∧ wr.cell? ⟨N + 3, 0, none⟩ = some (.slice a0 n0 c0)) := by
            have s := HJ.out.stay
            refine ⟨hst.1.trans ⟨s.os, s.tape, s.output, s.size, fun k hk => s.block k ⟨by omega, by omega⟩⟩, hst.2.1.far (s.block N ⟨by omega, by omega⟩), ?_, ?_⟩
            · exact (World.cell?_of_block (a := ⟨N + 4, 0, none⟩) (s.block (N + 4) ⟨by omega, by omega⟩)).trans hst.2.2.1
            · exact (World.cell?_of_block (a := ⟨N + 3, 0, none⟩) (s.block (N + 3) ⟨by omega, by omega⟩)).trans hst.2.2.2
          clear hst hsz hne
          by_cases hlt : j < n2
          · have hltj : (j : Int) < (n2 : Int) := by omega
            have hil : j < L.M.length := by have := H0.out.2.2.1; omega
            obtain ⟨b, o, rfl, hb, hc⟩ := HR.out.M.mov (fun e => by rw [e] at hil; simp at hil)
            have hx := (hc j hil).next (hst2.1.block b (by have := HNN.out; omega))
            obtain ⟨x, hxk⟩ : ∃ x, L.M[j] = x := ⟨_, rfl⟩
            rw [hxk] at hx
            have HX : Hid (L.M[j] = x) := hxk
            clear hc hb hxk
            obtain ⟨xi, xs, xl, xq, xt, xd⟩ := x
            obtain ⟨x0, x1, x2, x3, x4, x5⟩ := hx
            dsimp only at x0 x1 x2 x3 x4 x5
            obtain ⟨W', hW'⟩ : ∃ W', wr.alloc (.cells #[.int .i64 xi, .string xs, .string xl, .int .i64 xq, .int .i64 xt, .int .i64 xd] 42) = W' := ⟨_, rfl⟩
            have kb : Below wr.heap.size wr W' := hW' ▸ below1 _ _
            have HK : Hid (Below wr.heap.size wr W') := kb
            have hN4 : N < wr.heap.size := hst2.2.1.lt
            have g1 : W'.cell? ⟨N + 4, 0, none⟩ = some (.func (.func 81) #[] #[.pointer (some ⟨N + 3, 0, none⟩)]) := (kb.cell (p := ⟨N + 4, 0, none⟩) (World.block_lt_of_cell? wr _ hst2.2.2.1)).trans hst2.2.2.1
            have g2 : W'.cell? ⟨N + 3, 0, none⟩ = some (.slice a0 n0 c0) := (kb.cell (p := ⟨N + 3, 0, none⟩) (World.block_lt_of_cell? wr _ hst2.2.2.2)).trans hst2.2.2.2
            have hrw : Rw stv 4 W' a0 L.S := HR.out.S.far (fun b o e hl => (kb.block b (by have := HR.out.S.lt stv_ne e hl; have := hst2.1.size; omega)).trans (hst2.1.block b (by have := HR.out.S.lt stv_ne e hl; have := HNN.out; omega)))
            cases hk : hasK L.S xs xl with
            | false =>
              have HP : Hid _ := put_no a0 c0 n0 L.S H0.out.1 H0.out.2.2.2.1 (by omega) xs xl xq (.slice (some ⟨q, 0, none⟩) n0 n0) q n0 n0 (N + 3) (N + 4) W' rfl g1 g2 hrw hk
              have HF : Hid (z = false) := by
                show z = false
                rw [← HZ.out]
                refine decide_eq_false (fun e => ?_)
                have := e.2.1 _ (List.getElem_mem hil)
                rw [HX.out] at this
                dsimp only at this
                rw [hk] at this
                cases this
              have HB : Hid (Below N w W') := Below.less hst2.1 kb (by omega)
              have HWW : Hid _ := hW'
              clear hk hrw g1 g2 kb hst2 hW'
              go_wp2_with fail
              rw [HWW.out]
              refine Calls.mono HP.out ?_; rintro e w4 ⟨rfl, k4⟩
              have HB4 : Hid (Below N w w4) := Below.less HB.out k4 (by have := HK.out.size; omega)
              clear k4
              go_wp2_with fail
              go_ret
              exact ⟨by rw [HF.out]; rfl, HNN.out ▸ HB4.out⟩
            | true =>
              have HP : Hid _ := put_yes a0 c0 n0 L.S H0.out.1 H0.out.2.2.2.1 (by omega) xs xl xq q (N + 3) (N + 4) W' g1 g2 hrw hk (fun k => k < W4.heap.size ∧ k ≠ q) g (HJ.out.ls.next kb) (fun k q => by have := HJ.out.stay.size; have := kb.size; omega) (fun k => by have := HJ.out.len k; omega)
              have HM : Hid (∀ w4, Lists w4 (fun k => k < W4.heap.size ∧ k ≠ q) q n0 (more1 g (posK L.S xs xl) xq) → Stay (fun k => k < W4.heap.size ∧ k ≠ q) W' w4 → In2 W4 w4 q n0 (j + 1) L.S L.M (more1 g (posK L.S xs xl) xq)) := fun w4 q1 q2 => by
                have := In2.more HJ.out H0.out.2.2.2.1 hil (by rw [HX.out]; exact hk) (w' := w4) (by rw [HX.out]; exact q1) (((Stay.refl _ _).below HK.out (fun k q => by have := HJ.out.stay.size; omega)).trans q2)
                rw [HX.out] at this
                exact this
              have HWW : Hid _ := hW'
              clear hk hrw g1 g2 kb hst2 hW'
              go_wp2_with fail
              rw [HWW.out]
              refine Calls.mono HP.out ?_; rintro e w4 ⟨rfl, k4, k5⟩
              have HI4 : Hid _ := HM.out w4 k4 k5
              clear k4 k5
              go_wp2_with fail
              go_roundw
              case rel => exact ⟨j + 1, by omega, by go_num, _, HI4.out⟩
              case measure => simp [intOf]; omega
          · have hltj : ¬ (j : Int) < (n2 : Int) := by omega
            obtain rfl : n2 = j := by omega
            have e3 := hst2.2.1.cs 0 _ rfl
            have hsub : ∀ k, k < W4.heap.size → ¬ (k < W.heap.size ∧ k ≠ p) → (k < W4.heap.size ∧ k ≠ q) := fun k hk hn => ⟨hk, fun e => hn ⟨by rw [e]; exact HE.out.qB.lt, fun e' => HE.out.ne.1 (e'.symm.trans e)⟩⟩
            have HLP : Hid (Lists wr (fun k => k < W.heap.size ∧ k ≠ p) p n0 f1) := HI1.out.ls.stay HJ.out.stay hsub
            have HLQ : Hid (Lists wr (fun k => k < W4.heap.size ∧ k ≠ q) q n0 g) := HJ.out.ls
            have HEQ : Hid (∀ k (h : k < L.S.length), f1 k = heldOf L.H L.S[k].sku L.S[k].loc ∧ g k = movedOf L.M L.S[k].sku L.S[k].loc) := fun k h => by
              have q1 := HI1.out.eq k h
              have q2 := HJ.out.eq k h
              rw [List.take_of_length_le (by have := H0.out.2.1; omega)] at q1
              rw [List.take_of_length_le (by have := H0.out.2.2.1; omega)] at q2
              exact ⟨q1, q2⟩
            have HLEN : Hid (∀ k, (f1 k).length ≤ 4096 ∧ (g k).length ≤ 4096) := fun k => ⟨Nat.le_trans (HI1.out.len k) m1, Nat.le_trans (HJ.out.len k) m2⟩
            have HAS : Hid ((∀ h, h ∈ L.H → h.st = 0 → hasK L.S h.sku h.loc = true) ∧ ∀ m, m ∈ L.M → hasK L.S m.sku m.loc = true) := by
              refine ⟨fun h hm h0 => ?_, fun m hm => ?_⟩
              · obtain ⟨k, hk, rfl⟩ := List.getElem_of_mem hm
                exact HI1.out.has k hk (by have := H0.out.2.1; omega) h0
              · obtain ⟨k, hk, rfl⟩ := List.getElem_of_mem hm
                exact HJ.out.has k hk (by have := H0.out.2.2.1; omega)
            have HB5 : Hid (Below N w wr ∧ N < wr.heap.size) := ⟨hst2.1, hst2.2.1.lt⟩
            clear hsub hst2 HJ HI1 HST HQB HE hszW
            generalize wr = W5 at *
            go_wp2_with fail
            go_loopw [69] (fun vi wr => ∃ k : Nat, k ≤ n0 ∧ vi = .int .i64 k ∧ Hid (Below W5.heap.size W5 wr ∧ ∀ i (h : i < L.S.length), i < k → (heldOf L.H L.S[i].sku L.S[i].loc).sum = L.S[i].held ∧ (movedOf L.M L.S[i].sku L.S[i].loc).sum = L.S[i].on))
              (fun vi _ => n0 - (intOf vi).toNat)
            case atStart => exact ⟨0, Nat.zero_le _, rfl, Below.refl _ _, fun i h q => absurd q (Nat.not_lt_zero _)⟩
            case round =>
              obtain ⟨k, hk, rfl, HU⟩ := hrel
              by_cases hlt : k < n0
              · have hltk : (k : Int) < (n0 : Int) := by omega
                have hkl : k < L.S.length := by have := H0.out.1; omega
                obtain ⟨b, o, rfl, hb, hc⟩ := HR.out.S.stk (fun e => by rw [e] at hkl; simp at hkl)
                have hbN : b < N := by have := HNN.out; omega
                have hx := ((hc k hkl).next (HB5.out.1.block b hbN)).next (HU.out.1.block b (by have := HB5.out.2; omega))
                obtain ⟨x, hxk⟩ : ∃ x, L.S[k] = x := ⟨_, rfl⟩
                rw [hxk] at hx
                have HX : Hid (L.S[k] = x) := hxk
                have hxf : x.fit := hxk ▸ H0.out.2.2.2.2.S _ (List.getElem_mem hkl)
                have heq := HEQ.out k hkl
                rw [hxk] at heq
                clear hc hb hxk
                obtain ⟨xs, xl, xo, xh⟩ := x
                obtain ⟨x0, x1, x2, x3⟩ := hx
                dsimp only at x0 x1 x2 x3 heq
                obtain ⟨W', hW'⟩ : ∃ W', wr.alloc (.cells #[.string xs, .string xl, .int .i64 xo, .int .i64 xh] 50) = W' := ⟨_, rfl⟩
                have kb : Below wr.heap.size wr W' := hW' ▸ below1 _ _
                have kv : Below W5.heap.size W5 W' := Below.next HU.out.1 kb
                obtain ⟨V1, v1, _⟩ := (HLP.out.next kv).vs
                obtain ⟨V2, v2, _⟩ := (HLQ.out.next kv).vs
                obtain ⟨d1, d2, _⟩ := v1 k hlt
                obtain ⟨d3, d4, _⟩ := v2 k hlt
                obtain ⟨o1, cc1, hv1⟩ := own_form d2
                obtain ⟨o2, cc2, hv2⟩ := own_form d4
                rw [hv1] at d1 d2
                rw [hv2] at d3 d4
                have HS1 : Hid (∀ m, Calls Try.prog 66 #[.int .i64 xh, .slice o1 (f1 k).length cc1] (W'.drewN m) fun e w' => e = .returned (.bool (decide ((heldOf L.H xs xl).sum = xh))) ∧ w' = W'.drewN m) := fun m => by
                  have := isSum_is xh hxf.held (.slice o1 (f1 k).length cc1) (f1 k) (W'.drewN m) (ownsRow_kept d2 (fun _ _ => rfl)) (by have := HLEN.out k; omega) (fun y hy => by
                    rw [heq.1] at hy
                    obtain ⟨h, hh, rfl⟩ := List.mem_map.1 hy
                    exact (H0.out.2.2.2.2.H h (List.mem_filter.1 hh).1).qty)
                  rw [heq.1] at this ⊢
                  exact this
                have HS2 : Hid (∀ m, Calls Try.prog 66 #[.int .i64 xo, .slice o2 (g k).length cc2] (W'.drewN m) fun e w' => e = .returned (.bool (decide ((movedOf L.M xs xl).sum = xo))) ∧ w' = W'.drewN m) := fun m => by
                  have := isSum_is xo hxf.on (.slice o2 (g k).length cc2) (g k) (W'.drewN m) (ownsRow_kept d4 (fun _ _ => rfl)) (by have := HLEN.out k; omega) (fun y hy => by
                    rw [heq.2] at hy
                    obtain ⟨h, hh, rfl⟩ := List.mem_map.1 hy
                    exact (H0.out.2.2.2.2.M h (List.mem_filter.1 hh).1).delta)
                  rw [heq.2] at this ⊢
                  exact this
                have hCW : CellsF W' wr.heap.size [.string xs, .string xl, .int .i64 xo, .int .i64 xh] := by rw [← hW']; exact CellsF.at _ 50 (by simp) rfl
                have y2 := hCW.cs 2 _ rfl
                have y3 := hCW.cs 3 _ rfl
                have HKV : Hid (Below W5.heap.size W5 W') := kv
                have HNO : Hid (¬ ((heldOf L.H xs xl).sum = xh ∧ (movedOf L.M xs xl).sum = xo) → z = false) := fun q => by
                  rw [← HZ.out]
                  refine decide_eq_false (fun e => q ?_)
                  have := e.2.2 _ (List.getElem_mem hkl)
                  rw [HX.out] at this
                  exact this
                have HYES : Hid ((heldOf L.H xs xl).sum = xh → (movedOf L.M xs xl).sum = xo → ∀ i (h : i < L.S.length), i < k + 1 → (heldOf L.H L.S[i].sku L.S[i].loc).sum = L.S[i].held ∧ (movedOf L.M L.S[i].sku L.S[i].loc).sum = L.S[i].on) := fun q1 q2 i h hi => by
                  by_cases c : i = k
                  · subst c; rw [HX.out]; exact ⟨q1, q2⟩
                  · exact HU.out.2 i h (by omega)
                have HWW : Hid _ := hW'
                generalize (f1 k).length = u1 at *
                generalize (g k).length = u2 at *
                generalize (heldOf L.H xs xl).sum = s1 at *
                generalize (movedOf L.M xs xl).sum = s2 at *
                clear d2 d4 v1 v2 hv1 hv2 kb kv hCW hxf heq hbN HLP HLQ HLEN HEQ
                by_cases c1 : s1 = xh
                · rw [decide_eq_true c1] at HS1
                  by_cases c2 : s2 = xo
                  · rw [decide_eq_true c2] at HS2
                    have HGO : Hid _ := HYES.out c1 c2
                    clear c1 c2 HNO HYES
                    go_wp2_with fail
                    try rw [HWW.out]
                    go_quiet (first | with_reducible exact Calls.quiet_of_same (HS1.out _) | with_reducible exact Calls.quiet_of_same (HS2.out _))
                    have HK3 : Hid (Below W5.heap.size W5 (W'.drewN nq)) := ⟨HKV.out.os, HKV.out.tape, HKV.out.output, HKV.out.size, HKV.out.block⟩
                    go_wp2_with fail
                    go_roundw
                    case rel => exact ⟨k + 1, by omega, by go_num, HK3.out, HGO.out⟩
                    case measure => simp [intOf]; omega
                  · rw [decide_eq_false c2] at HS2
                    have HF : Hid (z = false) := HNO.out (fun q => c2 q.2)
                    clear c1 c2 HNO HYES
                    go_wp2_with fail
                    try rw [HWW.out]
                    go_quiet (first | with_reducible exact Calls.quiet_of_same (HS1.out _) | with_reducible exact Calls.quiet_of_same (HS2.out _))
                    have HK3 : Hid (Below W5.heap.size W5 (W'.drewN nq)) := ⟨HKV.out.os, HKV.out.tape, HKV.out.output, HKV.out.size, HKV.out.block⟩
                    go_wp2_with fail
                    go_ret
                    exact ⟨by rw [HF.out]; rfl, Below.less HB5.out.1 HK3.out (by have := HB5.out.2; omega)⟩
                · rw [decide_eq_false c1] at HS1
                  have HF : Hid (z = false) := HNO.out (fun q => c1 q.1)
                  clear c1 HNO HYES
                  go_wp2_with fail
                  try rw [HWW.out]
                  go_quiet (first | with_reducible exact Calls.quiet_of_same (HS1.out _) | with_reducible exact Calls.quiet_of_same (HS2.out _))
                  have HK3 : Hid (Below W5.heap.size W5 (W'.drewN nq)) := ⟨HKV.out.os, HKV.out.tape, HKV.out.output, HKV.out.size, HKV.out.block⟩
                  go_wp2_with fail
                  go_ret
                  exact ⟨by rw [HF.out]; rfl, Below.less HB5.out.1 HK3.out (by have := HB5.out.2; omega)⟩
              · have hltk : ¬ (k : Int) < (n0 : Int) := by omega
                have HF : Hid (z = true) := by
                  show z = true
                  rw [← HZ.out]
                  refine decide_eq_true ⟨HAS.out.1, HAS.out.2, fun x hx => ?_⟩
                  obtain ⟨i, hi, rfl⟩ := List.getElem_of_mem hx
                  exact HU.out.2 i hi (by have := H0.out.1; omega)
                go_wp2_with fail
                go_ret
                exact ⟨by rw [HF.out]; rfl, Below.less HB5.out.1 HU.out.1 (by have := HB5.out.2; omega)⟩
end Go.Proofs.Ytflbcheofmljeaa
