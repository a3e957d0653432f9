/- HashStays. -/
import Derived.Test.YtgjeobmbfeinnaaQt
import Derived.Test.YtgjeobmbfeinnaaAwk
import Derived.Deep.RegionHeld
import Derived.Deep.RegionHeldLaw
import Derived.Deep.DeepCutAuto
import Derived.Deep.CutBlock
namespace Go.Proofs.Ytgjeobmbfeinnaa
open Go.ChangeShapes Go.WideShapes Go.RowKit
set_option linter.unusedVariables false
set_option maxRecDepth 100000

set_option maxHeartbeats 16000000 in
theorem stays_is (aa : Option Addr) (len cc : Nat) (L : List Hac) (hL : L.length = len) (hfit : ∀ x ∈ L, x.v.fit) (ma : Option Addr) (mlen mc : Nat) (M : List Int) (hM : M.length = mlen) (w : World) (hr : Rw acv 5 w aa L) (hm : Rw inv1 1 w ma M) :
    Calls Try.prog 4 #[.slice aa len cc, .slice ma mlen mc] w fun e w' => e = .returned (.bool true) ∧ Below w.heap.size w w' := by
  have HR : Hid (L.length = len ∧ Rw acv 5 w aa L ∧ M.length = mlen ∧ Rw inv1 1 w ma M ∧ ∀ x ∈ L, x.v.fit) := ⟨hL, hr, hM, hm, hfit⟩
  have HAW : Hid (∀ w, Calls Try.prog 7 #[] w fun e w' => e = .returned (.bool true) ∧ Below w.heap.size w w') := awake_is
  clear hL hr hM hm hfit
  obtain ⟨w0, hw0⟩ : ∃ w0, (w.alloc (.cells #[.pointer none, .int .i64 0] 27)).alloc (.cells #[.slice none 0 0] 28) = w0 := ⟨_, rfl⟩
  have HS0 : Hid (Ss w w0 (.slice (some ⟨w.heap.size, 0, none⟩) 1 1) (.slice (some ⟨w.heap.size + 1, 0, none⟩) 1 1) [⟨none, (fun _ => []), 0, none, 0, []⟩] w.heap.size (w.heap.size + 1) 0) := by
    show Ss _ _ _ _ _ _ _ _
    rw [← hw0]
    exact Ss.start w
  have HW0 : Hid ((w.alloc (.cells #[.pointer none, .int .i64 0] 27)).alloc (.cells #[.slice none 0 0] 28) = w0) := hw0
  clear hw0
  go_enter Try.func4, Try.ntmps4
  go_wp2_with fail
  rw [HW0.out]
  go_loopw [5, 6, 7] (fun v5 v6 v7 wr => ∃ (j : Nat) (Es : List Pe) (g5 g6 c5 c6 NE : Nat), j ≤ 50 ∧ NE = j + 1 ∧ v5 = (.slice (some ⟨g5, 0, none⟩) NE c5) ∧ v6 = (.slice (some ⟨g6, 0, none⟩) NE c6) ∧ v7 = .int .i64 j ∧ Hid (Es.length = NE) ∧ Hid (Ss w wr (.slice (some ⟨g5, 0, none⟩) NE c5) (.slice (some ⟨g6, 0, none⟩) NE c6) Es g5 g6 j))
    (fun _ _ vi _ => 50 - (intOf vi).toNat)
  case atStart => exact ⟨0, [⟨none, (fun _ => []), 0, none, 0, []⟩], w.heap.size, w.heap.size + 1, 1, 1, 1, by omega, rfl, rfl, rfl, rfl, rfl, HS0.out⟩
  case round =>
    clear HS0 HW0
    obtain ⟨j, Es, g5, g6, c5, c6, NE, hj, hNE, rfl, rfl, rfl, HEs, HS⟩ := hrel
    have HNE : Hid (NE = j + 1) := hNE
    have hel : 0 < NE ∧ NE ≤ 51 := by omega
    clear hNE
    by_cases hlt : j < len ∧ j < 50
    · obtain ⟨hlt, h50⟩ := hlt
      have hlti : (j : Int) < (len : Int) := by omega
      have h50i : (j : Int) < 50 := by omega
      obtain ⟨ab, ao, ha, hab, y0, y1, y2, y3, y4⟩ := HR.out.2.1.act (i := j) (by rw [HR.out.1]; exact hlt)
      subst ha
      have HXF : Hid ((L[j]'(by rw [HR.out.1]; exact hlt)).v.fit) := HR.out.2.2.2.2 _ (List.getElem_mem _)
      generalize L[j]'(by rw [HR.out.1]; exact hlt) = x at *
      have HKB : Hid (∀ w', Below w.heap.size w w' → w'.cell? ⟨ab, ao + j * 5, none⟩ = some (.int .i64 x.kd) ∧ w'.cell? ⟨ab, ao + j * 5 + 1, none⟩ = some (.int .i64 x.n) ∧ w'.cell? ⟨ab, ao + j * 5 + 2, none⟩ = some (.int .i64 x.v.k) ∧ w'.cell? ⟨ab, ao + j * 5 + 3, none⟩ = some (.int .i64 x.v.n) ∧ w'.cell? ⟨ab, ao + j * 5 + 4, none⟩ = some (.string x.v.s)) := fun w' kk => ⟨(kk.cell (p := ⟨ab, ao + j * 5, none⟩) hab).trans y0, (kk.cell (p := ⟨ab, ao + j * 5 + 1, none⟩) hab).trans y1, (kk.cell (p := ⟨ab, ao + j * 5 + 2, none⟩) hab).trans y2, (kk.cell (p := ⟨ab, ao + j * 5 + 3, none⟩) hab).trans y3, (kk.cell (p := ⟨ab, ao + j * 5 + 4, none⟩) hab).trans y4⟩
      clear y0 y1 y2 y3 y4
      obtain ⟨z0, z1, z2, z3, z4⟩ := HKB.out wr HS.out.bel
      by_cases hbig : x.v.s.size > 200
      · have hbigi : ((x.v.s.size : Int) > 200) := by omega
        have HB : Hid (Below w.heap.size w wr) := HS.out.bel
        clear HS z0 z1 z2 z3
        go_wp2_with fail
        refine Calls.mono (HAW.out _) ?_; rintro e w1 ⟨rfl, k1⟩
        have HB1 : Hid (Below w.heap.size w w1) := Below.next HB.out k1
        clear k1 HB
        go_wp2_with fail
        go_ret
        exact ⟨rfl, HB1.out⟩
      · have hbigi : ¬ ((x.v.s.size : Int) > 200) := by omega
        have hB := HS.out.bel
        obtain ⟨i7, hi7⟩ : ∃ i7 : Nat, i7 + 1 = NE := ⟨NE - 1, by omega⟩
        have hi7w : IntKind.i64.wrap ((NE : Int) - 1) = (i7 : Int) := by rw [IntKind.wrap_i64]; omega
        clear z0 z1 z2 z3
        go_upto_if 39 with fail
        go_cut [8, 39] (fun s8 s39 wx => ∃ i8 : Nat, s8 = .int .i64 i8 ∧ i8 < NE ∧ wr = wx)
        case first =>
          by_cases hm : j < mlen
          · have hmi : (j : Int) < (mlen : Int) := by omega
            obtain ⟨mb, mo, hma, hmb, m0⟩ := HR.out.2.2.2.1.int1 (i := j) (by rw [HR.out.2.2.1]; exact hm)
            subst hma
            have m1 := (hB.cell (p := ⟨mb, mo + j * 1, none⟩) hmb).trans m0
            obtain ⟨i8, hi8, hi9⟩ := pick_in (M[j]'(by rw [HR.out.2.2.1]; exact hm)) NE (by omega)
            generalize M[j]'(by rw [HR.out.2.2.1]; exact hm) = z at *
            have hab' := and_byte z
            rw [Nat.mul_one] at m1
            have hneg : ¬ (NE : Int) = 0 := by omega
            clear m0 hB
            go_wp2_with fail
            go_meet
            exact ⟨i8, rfl, hi8, rfl⟩
          · have hmi : ¬ (j : Int) < (mlen : Int) := by omega
            clear hB
            go_wp2_with fail
            go_meet
            exact ⟨i7, by first | rfl | go_num, by omega, rfl⟩
        case rest =>
          obtain ⟨i8, rfl, hi8, rfl⟩ := hcut
          have hi8i : (i8 : Int) < (NE : Int) := by omega
          clear hi7w hi7 i7 hB z4
          have hi8e : i8 < Es.length := by rw [HEs.out]; exact hi8
          obtain ⟨E, hE⟩ : ∃ E, Es[i8] = E := ⟨_, rfl⟩
          obtain ⟨Ep, EF, Enb, Ea, Ec, Em⟩ := E
          obtain ⟨En, hEn⟩ : ∃ En, Em.length = En := ⟨_, rfl⟩
          have HE : Hid (Es[i8] = ⟨Ep, EF, Enb, Ea, Ec, Em⟩ ∧ (⟨Ep, EF, Enb, Ea, Ec, Em⟩ : Pe) ∈ Es) := ⟨hE, hE ▸ List.getElem_mem hi8e⟩
          have HEN : Hid (Em.length = En) := hEn
          have hEnj : En ≤ j := by rw [← hEn]; exact (HS.out.all _ HE.out.2).1.lj
          clear hE hEn
          obtain ⟨m7, hm7⟩ : ∃ m7, actM Em x = m7 := ⟨_, rfl⟩
          obtain ⟨F7, hF7⟩ : ∃ F7, actF EF x = F7 := ⟨_, rfl⟩
          obtain ⟨nb7, hnb7⟩ : ∃ nb7, actN EF x Em.length Enb = nb7 := ⟨_, rfl⟩
          have HC7 : Hid (Calls Try.prog 8 #[.agg #[.pointer Ep, .int .i64 (En : Nat)], .agg #[.int .i64 x.kd, .int .i64 x.n, .int .i64 x.v.k, .int .i64 x.v.n, .string x.v.s]] wr.drew fun e w7 => ∃ p7, e = .returned (.agg #[.pointer p7, .int .i64 (m7.length : Nat)]) ∧ Hid (Below wr.heap.size wr w7 ∧ Side w7 (j + 1) p7 F7 nb7 m7)) := by
            have hall := (HS.out.all _ HE.out.2).1
            have q := done_is Ep EF Enb (j + 1) Em (by omega) (by have := hall.nb (by omega); simp only at this; omega) (by have := HEN.out; omega) hall.st hall.rel x HXF.out wr.drew (hall.ix.next (Below.refl _ _).drew)
            rw [hm7] at q
            rw [HEN.out] at q
            refine q.mono fun e w7 ⟨p7, q1, q2, q3⟩ => ⟨p7, q1, Below.of_drew q3, ?_⟩
            rw [← hm7, ← hF7, ← hnb7]
            rw [← HEN.out] at q2
            exact hall.act x HXF.out q2
          have HCM : Hid (∀ w8, Sl pv 4 w8 (.slice Ea En Ec) Em → Calls Try.prog 9 #[.slice Ea En Ec, .agg #[.int .i64 x.kd, .int .i64 x.n, .int .i64 x.v.k, .int .i64 x.v.n, .string x.v.s]] w8 fun e w' => ∃ a' c', e = .returned (.slice a' m7.length c') ∧ Sl pv 4 w' (.slice a' m7.length c') m7 ∧ Below w8.heap.size w8 w') := fun w8 h => by
            rw [← HEN.out] at h ⊢
            have q := doesA_is Ea Ec Em (by have := HEN.out; omega) x HXF.out w8 h
            rw [hm7] at q
            exact q
          clear hm7 hF7 hnb7
          have HQ6 : Hid ((wr.cell? ⟨g5, i8 * 2, none⟩ = some (.pointer Ep) ∧ wr.cell? ⟨g5, i8 * 2 + 1, none⟩ = some (.int .i64 (En : Nat)) ∧ wr.cell? ⟨ab, ao + j * 5, none⟩ = some (.int .i64 x.kd) ∧ wr.cell? ⟨ab, ao + j * 5 + 1, none⟩ = some (.int .i64 x.n) ∧ wr.cell? ⟨ab, ao + j * 5 + 2, none⟩ = some (.int .i64 x.v.k) ∧ wr.cell? ⟨ab, ao + j * 5 + 3, none⟩ = some (.int .i64 x.v.n) ∧ wr.cell? ⟨ab, ao + j * 5 + 4, none⟩ = some (.string x.v.s))) := by
            have q := HS.out.cells hi8e
            rw [HE.out.1] at q
            exact ⟨q.1, by rw [← HEN.out]; exact q.2.1, HKB.out _ HS.out.bel⟩
          have HKA : Hid (∀ (w' : World) (z : Obj), (w'.cell? ⟨g5, i8 * 2, none⟩ = some (.pointer Ep) ∧ w'.cell? ⟨g5, i8 * 2 + 1, none⟩ = some (.int .i64 (En : Nat)) ∧ w'.cell? ⟨ab, ao + j * 5, none⟩ = some (.int .i64 x.kd) ∧ w'.cell? ⟨ab, ao + j * 5 + 1, none⟩ = some (.int .i64 x.n) ∧ w'.cell? ⟨ab, ao + j * 5 + 2, none⟩ = some (.int .i64 x.v.k) ∧ w'.cell? ⟨ab, ao + j * 5 + 3, none⟩ = some (.int .i64 x.v.n) ∧ w'.cell? ⟨ab, ao + j * 5 + 4, none⟩ = some (.string x.v.s)) → ((w'.alloc z).cell? ⟨g5, i8 * 2, none⟩ = some (.pointer Ep) ∧ (w'.alloc z).cell? ⟨g5, i8 * 2 + 1, none⟩ = some (.int .i64 (En : Nat)) ∧ (w'.alloc z).cell? ⟨ab, ao + j * 5, none⟩ = some (.int .i64 x.kd) ∧ (w'.alloc z).cell? ⟨ab, ao + j * 5 + 1, none⟩ = some (.int .i64 x.n) ∧ (w'.alloc z).cell? ⟨ab, ao + j * 5 + 2, none⟩ = some (.int .i64 x.v.k) ∧ (w'.alloc z).cell? ⟨ab, ao + j * 5 + 3, none⟩ = some (.int .i64 x.v.n) ∧ (w'.alloc z).cell? ⟨ab, ao + j * 5 + 4, none⟩ = some (.string x.v.s))) := fun w' z h => by
            have f : ∀ {a : Addr} {u : Value}, w'.cell? a = some u → (w'.alloc z).cell? a = some u := fun {a u} q => ((below1 w' z).cell (World.block_lt_of_cell? w' _ q)).trans q
            exact ⟨f h.1, f h.2.1, f h.2.2.1, f h.2.2.2.1, f h.2.2.2.2.1, f h.2.2.2.2.2.1, f h.2.2.2.2.2.2⟩
          have HPU : Hid (∀ (w7 : World) (p7 : Option Addr), Below wr.heap.size wr w7 → Side w7 (j + 1) p7 F7 nb7 m7 → (w7.cell? ⟨g5, i8 * 2, none⟩ = some (.pointer Ep) ∧ w7.cell? ⟨g5, i8 * 2 + 1, none⟩ = some (.int .i64 (En : Nat)) ∧ w7.cell? ⟨ab, ao + j * 5, none⟩ = some (.int .i64 x.kd) ∧ w7.cell? ⟨ab, ao + j * 5 + 1, none⟩ = some (.int .i64 x.n) ∧ w7.cell? ⟨ab, ao + j * 5 + 2, none⟩ = some (.int .i64 x.v.k) ∧ w7.cell? ⟨ab, ao + j * 5 + 3, none⟩ = some (.int .i64 x.v.n) ∧ w7.cell? ⟨ab, ao + j * 5 + 4, none⟩ = some (.string x.v.s)) ∧ ∃ c8 w8 g8, Hid ((Builtin.append_ #[40, 40] 40 #[(.slice (some ⟨g5, 0, none⟩) NE c5), .slice (some ⟨w7.heap.size, 0, none⟩) 1 1]).run Try.prog (w7.alloc (.cells #[.pointer p7, .int .i64 (m7.length : Int)] 27)) = .ok (.slice (some ⟨g8, 0, none⟩) (NE + 1) c8) w8) ∧ Hid (Sm w w8 (.slice (some ⟨g8, 0, none⟩) (NE + 1) c8) (.slice (some ⟨g6, 0, none⟩) NE c6) Es g8 g6 j p7 F7 nb7 m7) ∧ (w8.cell? ⟨g5, i8 * 2, none⟩ = some (.pointer Ep) ∧ w8.cell? ⟨g5, i8 * 2 + 1, none⟩ = some (.int .i64 (En : Nat)) ∧ w8.cell? ⟨ab, ao + j * 5, none⟩ = some (.int .i64 x.kd) ∧ w8.cell? ⟨ab, ao + j * 5 + 1, none⟩ = some (.int .i64 x.n) ∧ w8.cell? ⟨ab, ao + j * 5 + 2, none⟩ = some (.int .i64 x.v.k) ∧ w8.cell? ⟨ab, ao + j * 5 + 3, none⟩ = some (.int .i64 x.v.n) ∧ w8.cell? ⟨ab, ao + j * 5 + 4, none⟩ = some (.string x.v.s))) := fun w7 p7 k7 t7 => by
            have h7 := HS.out.next k7
            have q7 := h7.cells hi8e
            rw [HE.out.1] at q7
            obtain ⟨v8, w8, g8, r1, r2, r4⟩ := h7.push (by rw [HEs.out]; omega) p7 F7 nb7 m7 t7
            obtain ⟨c8, _, e8, _⟩ := r2.r5.ex
            rw [HEs.out] at e8
            subst e8
            refine ⟨⟨q7.1, by rw [← HEN.out]; exact q7.2.1, HKB.out _ h7.bel⟩, c8, w8, g8, r1, r2, ?_, ?_, HKB.out _ r2.bel⟩
            · have := r4 _ _ (flat_get (f := trv) (k := 2) (fun _ => rfl) Es i8 _ (List.getElem?_eq_getElem hi8e) 0 _ rfl)
              rw [HE.out.1] at this
              exact this
            · have := r4 _ _ (flat_get (f := trv) (k := 2) (fun _ => rfl) Es i8 _ (List.getElem?_eq_getElem hi8e) 1 _ rfl)
              rw [HE.out.1] at this
              rw [← HEN.out]
              exact this
          have HK0 : Hid ((wr.drew.cell? ⟨g5, i8 * 2, none⟩ = some (.pointer Ep) ∧ wr.drew.cell? ⟨g5, i8 * 2 + 1, none⟩ = some (.int .i64 (En : Nat)) ∧ wr.drew.cell? ⟨ab, ao + j * 5, none⟩ = some (.int .i64 x.kd) ∧ wr.drew.cell? ⟨ab, ao + j * 5 + 1, none⟩ = some (.int .i64 x.n) ∧ wr.drew.cell? ⟨ab, ao + j * 5 + 2, none⟩ = some (.int .i64 x.v.k) ∧ wr.drew.cell? ⟨ab, ao + j * 5 + 3, none⟩ = some (.int .i64 x.v.n) ∧ wr.drew.cell? ⟨ab, ao + j * 5 + 4, none⟩ = some (.string x.v.s))) := HQ6.out
          have hS0 := HQ6.out
          clear HS
          go_wp2_with fail
          go_region_held_law (fun (w' : World) => (w'.cell? ⟨g5, i8 * 2, none⟩ = some (.pointer Ep) ∧ w'.cell? ⟨g5, i8 * 2 + 1, none⟩ = some (.int .i64 (En : Nat)) ∧ w'.cell? ⟨ab, ao + j * 5, none⟩ = some (.int .i64 x.kd) ∧ w'.cell? ⟨ab, ao + j * 5 + 1, none⟩ = some (.int .i64 x.n) ∧ w'.cell? ⟨ab, ao + j * 5 + 2, none⟩ = some (.int .i64 x.v.k) ∧ w'.cell? ⟨ab, ao + j * 5 + 3, none⟩ = some (.int .i64 x.v.n) ∧ w'.cell? ⟨ab, ao + j * 5 + 4, none⟩ = some (.string x.v.s))) (first | (with_reducible assumption) | (with_reducible exact HK0.out) | (with_reducible exact HKA.out _ _ (by with_reducible assumption)))
            (first | ((with_reducible refine Calls.mono HC7.out ?_); rintro e w7 ⟨p7, rfl, HM7⟩; obtain ⟨hS7, c8, w8, g8, RA, HM8, hS8⟩ := HPU.out _ _ HM7.out.1 HM7.out.2) | (refine dr_appendD (d := some 59) rfl rfl rfl RA.out ?_))
          clear hS0 HQ6 HK0 HKA HPU HC7
          have HC9 : Hid (Calls Try.prog 9 #[.slice Ea En Ec, .agg #[.int .i64 x.kd, .int .i64 x.n, .int .i64 x.v.k, .int .i64 x.v.n, .string x.v.s]] w8.drew fun e w9 => ∃ a9 c9, e = .returned (.slice a9 m7.length c9) ∧ Hid (Below w8.heap.size w8 w9 ∧ Sl pv 4 w9 (.slice a9 m7.length c9) m7)) := by
            have hall := (HM8.out.all _ HE.out.2).2
            simp only [HEN.out] at hall
            refine (HCM.out w8.drew (hall.next pv_ne (Below.refl _ _).drew)).mono fun e w9 ⟨a9, c9, r1, r2, r3⟩ => ⟨a9, c9, r1, Below.of_drew r3, r2⟩
          have HQ8 : Hid ((w8.cell? ⟨g6, i8, none⟩ = some (.slice Ea En Ec) ∧ w8.cell? ⟨ab, ao + j * 5, none⟩ = some (.int .i64 x.kd) ∧ w8.cell? ⟨ab, ao + j * 5 + 1, none⟩ = some (.int .i64 x.n) ∧ w8.cell? ⟨ab, ao + j * 5 + 2, none⟩ = some (.int .i64 x.v.k) ∧ w8.cell? ⟨ab, ao + j * 5 + 3, none⟩ = some (.int .i64 x.v.n) ∧ w8.cell? ⟨ab, ao + j * 5 + 4, none⟩ = some (.string x.v.s))) := by
            have q := HM8.out.cell6 hi8e
            rw [HE.out.1] at q
            exact ⟨by rw [← HEN.out]; exact q, HKB.out _ HM8.out.bel⟩
          have HK0 : Hid ((w8.drew.cell? ⟨g6, i8, none⟩ = some (.slice Ea En Ec) ∧ w8.drew.cell? ⟨ab, ao + j * 5, none⟩ = some (.int .i64 x.kd) ∧ w8.drew.cell? ⟨ab, ao + j * 5 + 1, none⟩ = some (.int .i64 x.n) ∧ w8.drew.cell? ⟨ab, ao + j * 5 + 2, none⟩ = some (.int .i64 x.v.k) ∧ w8.drew.cell? ⟨ab, ao + j * 5 + 3, none⟩ = some (.int .i64 x.v.n) ∧ w8.drew.cell? ⟨ab, ao + j * 5 + 4, none⟩ = some (.string x.v.s))) := HQ8.out
          have HKA : Hid (∀ (w' : World) (z : Obj), (w'.cell? ⟨g6, i8, none⟩ = some (.slice Ea En Ec) ∧ w'.cell? ⟨ab, ao + j * 5, none⟩ = some (.int .i64 x.kd) ∧ w'.cell? ⟨ab, ao + j * 5 + 1, none⟩ = some (.int .i64 x.n) ∧ w'.cell? ⟨ab, ao + j * 5 + 2, none⟩ = some (.int .i64 x.v.k) ∧ w'.cell? ⟨ab, ao + j * 5 + 3, none⟩ = some (.int .i64 x.v.n) ∧ w'.cell? ⟨ab, ao + j * 5 + 4, none⟩ = some (.string x.v.s)) → ((w'.alloc z).cell? ⟨g6, i8, none⟩ = some (.slice Ea En Ec) ∧ (w'.alloc z).cell? ⟨ab, ao + j * 5, none⟩ = some (.int .i64 x.kd) ∧ (w'.alloc z).cell? ⟨ab, ao + j * 5 + 1, none⟩ = some (.int .i64 x.n) ∧ (w'.alloc z).cell? ⟨ab, ao + j * 5 + 2, none⟩ = some (.int .i64 x.v.k) ∧ (w'.alloc z).cell? ⟨ab, ao + j * 5 + 3, none⟩ = some (.int .i64 x.v.n) ∧ (w'.alloc z).cell? ⟨ab, ao + j * 5 + 4, none⟩ = some (.string x.v.s))) := fun w' z h => by
            have f : ∀ {a : Addr} {u : Value}, w'.cell? a = some u → (w'.alloc z).cell? a = some u := fun {a u} q => ((below1 w' z).cell (World.block_lt_of_cell? w' _ q)).trans q
            exact ⟨f h.1, f h.2.1, f h.2.2.1, f h.2.2.2.1, f h.2.2.2.2.1, f h.2.2.2.2.2⟩
          have HPU : Hid (∀ (w9 : World) (a9 : Option Addr) (c9 : Nat), Below w8.heap.size w8 w9 → Sl pv 4 w9 (.slice a9 m7.length c9) m7 → (w9.cell? ⟨g6, i8, none⟩ = some (.slice Ea En Ec) ∧ w9.cell? ⟨ab, ao + j * 5, none⟩ = some (.int .i64 x.kd) ∧ w9.cell? ⟨ab, ao + j * 5 + 1, none⟩ = some (.int .i64 x.n) ∧ w9.cell? ⟨ab, ao + j * 5 + 2, none⟩ = some (.int .i64 x.v.k) ∧ w9.cell? ⟨ab, ao + j * 5 + 3, none⟩ = some (.int .i64 x.v.n) ∧ w9.cell? ⟨ab, ao + j * 5 + 4, none⟩ = some (.string x.v.s)) ∧ ∃ c10 w10 g10, Hid ((Builtin.append_ #[41, 41] 41 #[(.slice (some ⟨g6, 0, none⟩) NE c6), .slice (some ⟨w9.heap.size, 0, none⟩) 1 1]).run Try.prog (w9.alloc (.cells #[.slice a9 m7.length c9] 28)) = .ok (.slice (some ⟨g10, 0, none⟩) (NE + 1) c10) w10) ∧ Hid (Ss w w10 (.slice (some ⟨g8, 0, none⟩) (NE + 1) c8) (.slice (some ⟨g10, 0, none⟩) (NE + 1) c10) (Es ++ [⟨p7, F7, nb7, a9, c9, m7⟩]) g8 g10 (j + 1)) ∧ (w10.cell? ⟨g6, i8, none⟩ = some (.slice Ea En Ec) ∧ w10.cell? ⟨ab, ao + j * 5, none⟩ = some (.int .i64 x.kd) ∧ w10.cell? ⟨ab, ao + j * 5 + 1, none⟩ = some (.int .i64 x.n) ∧ w10.cell? ⟨ab, ao + j * 5 + 2, none⟩ = some (.int .i64 x.v.k) ∧ w10.cell? ⟨ab, ao + j * 5 + 3, none⟩ = some (.int .i64 x.v.n) ∧ w10.cell? ⟨ab, ao + j * 5 + 4, none⟩ = some (.string x.v.s))) := fun w9 a9 c9 k9 s9 => by
            have h9 := HM8.out.next k9
            have q9 := h9.cell6 hi8e
            rw [HE.out.1] at q9
            obtain ⟨v10, w10, g10, r1, r2, r4⟩ := h9.push (by rw [HEs.out]; omega) a9 c9 s9
            obtain ⟨c10, _, e10, _⟩ := r2.r6.ex
            rw [List.length_append, HEs.out] at e10
            subst e10
            refine ⟨⟨by rw [← HEN.out]; exact q9, HKB.out _ h9.bel⟩, c10, w10, g10, r1, r2, ?_, HKB.out _ r2.bel⟩
            have := r4 _ _ (flat_get (f := slv) (k := 1) (fun _ => rfl) Es i8 _ (List.getElem?_eq_getElem hi8e) 0 _ rfl)
            rw [HE.out.1, Nat.mul_one] at this
            rw [← HEN.out]
            exact this
          clear hS7 hS8 RA HM7
          have hS0 := HQ8.out
          go_wp2_with fail
          go_region_held_law (fun (w' : World) => (w'.cell? ⟨g6, i8, none⟩ = some (.slice Ea En Ec) ∧ w'.cell? ⟨ab, ao + j * 5, none⟩ = some (.int .i64 x.kd) ∧ w'.cell? ⟨ab, ao + j * 5 + 1, none⟩ = some (.int .i64 x.n) ∧ w'.cell? ⟨ab, ao + j * 5 + 2, none⟩ = some (.int .i64 x.v.k) ∧ w'.cell? ⟨ab, ao + j * 5 + 3, none⟩ = some (.int .i64 x.v.n) ∧ w'.cell? ⟨ab, ao + j * 5 + 4, none⟩ = some (.string x.v.s))) (first | (with_reducible assumption) | (with_reducible exact HK0.out) | (with_reducible exact HKA.out _ _ (by with_reducible assumption)))
            (first | ((with_reducible refine Calls.mono HC9.out ?_); rintro e w9 ⟨a9, c9, rfl, HM9⟩; obtain ⟨hS9, c10, w10, g10, RA, HM10, hS10⟩ := HPU.out _ _ _ HM9.out.1 HM9.out.2) | (refine dr_appendD (d := some 71) rfl rfl rfl RA.out ?_))
          clear hS0 HQ8 HK0 HKA HPU HC9 hS9 hS10 RA HM9 HM8
          go_wp2_with fail
          have HLE : Hid ((Es ++ [(⟨p7, F7, nb7, a9, c9, m7⟩ : Pe)]).length = NE + 1) := by show _ = _; rw [List.length_append, HEs.out]; rfl
          go_roundw
          case rel => exact ⟨j + 1, Es ++ [⟨p7, F7, nb7, a9, c9, m7⟩], g8, g10, c8, c10, NE + 1, by omega, by rw [HNE.out], rfl, rfl, by go_num, HLE, HM10⟩
          case measure => simp [intOf]; omega
    · have hcond : ((j : Int) < (len : Int) ∧ ¬ ((j : Int) < 50)) ∨ ¬ ((j : Int) < (len : Int)) := by omega
      clear hlt HR
      rcases hcond with ⟨hc1, hc2⟩ | hc1
      · go_wp2_with fail
        go_loopw [9] (fun v9 wr' => ∃ q : Nat, q ≤ NE ∧ v9 = .int .i64 q ∧ Hid (Ss w wr' (.slice (some ⟨g5, 0, none⟩) NE c5) (.slice (some ⟨g6, 0, none⟩) NE c6) Es g5 g6 j))
          (fun vi _ => NE - (intOf vi).toNat)
        case atStart => exact ⟨0, Nat.zero_le _, rfl, HS.out⟩
        case round =>
          clear HS
          obtain ⟨q, hq, rfl, HQ⟩ := hrel
          by_cases hql : q < NE
          · have hqi : (q : Int) < (NE : Int) := by omega
            have hqe : q < Es.length := by rw [HEs.out]; exact hql
            have hc := HQ.out.cells hqe
            have hmem := List.getElem_mem hqe
            generalize Es[q] = E at *
            obtain ⟨Ep, EF, Enb, Ea, Ec, Em⟩ := E
            obtain ⟨En, hEn⟩ : ∃ En, Em.length = En := ⟨_, rfl⟩
            have HMEM : Hid ((⟨Ep, EF, Enb, Ea, Ec, Em⟩ : Pe) ∈ Es) := hmem
            have HEN : Hid (Em.length = En) := hEn
            simp only [hEn] at hc
            have HC : Hid (∀ W, Below wr.heap.size wr W → W.cell? ⟨g5, q * 2, none⟩ = some (.pointer Ep) ∧ W.cell? ⟨g5, q * 2 + 1, none⟩ = some (.int .i64 (En : Nat)) ∧ W.cell? ⟨g6, q, none⟩ = some (.slice Ea En Ec)) := fun W b => ⟨(b.cell (World.block_lt_of_cell? wr _ hc.1)).trans hc.1, (b.cell (World.block_lt_of_cell? wr _ hc.2.1)).trans hc.2.1, (b.cell (World.block_lt_of_cell? wr _ hc.2.2)).trans hc.2.2⟩
            have hSD : Hid ((wr.drew.cell? ⟨g5, q * 2, none⟩ = some (.pointer Ep) ∧ wr.drew.cell? ⟨g5, q * 2 + 1, none⟩ = some (.int .i64 (En : Nat)) ∧ wr.drew.cell? ⟨g6, q, none⟩ = some (.slice Ea En Ec) ∧ Hid (Ss w wr.drew (.slice (some ⟨g5, 0, none⟩) NE c5) (.slice (some ⟨g6, 0, none⟩) NE c6) Es g5 g6 j))) := ⟨(HC.out _ (Below.refl _ _).drew).1, (HC.out _ (Below.refl _ _).drew).2.1, (HC.out _ (Below.refl _ _).drew).2.2, HQ.out.next (Below.refl _ _).drew⟩
            have HLE : Hid (Calls Try.prog 10 #[.agg #[.pointer Ep, .int .i64 (En : Nat)]] wr.drew fun e w'' => e = .returned (.int .i64 (En : Nat)) ∧ Hid (Below wr.heap.size wr w'') ∧ (w''.cell? ⟨g5, q * 2, none⟩ = some (.pointer Ep) ∧ w''.cell? ⟨g5, q * 2 + 1, none⟩ = some (.int .i64 (En : Nat)) ∧ w''.cell? ⟨g6, q, none⟩ = some (.slice Ea En Ec) ∧ Hid (Ss w w'' (.slice (some ⟨g5, 0, none⟩) NE c5) (.slice (some ⟨g6, 0, none⟩) NE c6) Es g5 g6 j))) := (len_is Ep En wr.drew).mono fun e w'' ⟨q1, q2⟩ => ⟨q1, Below.of_drew q2, (HC.out _ (Below.of_drew q2)).1, (HC.out _ (Below.of_drew q2)).2.1, (HC.out _ (Below.of_drew q2)).2.2, HQ.out.next (Below.of_drew q2)⟩
            have hEnj : En ≤ 50 := by rw [← hEn]; have := (HQ.out.all _ hmem).1.lj; simp only at this; omega
            have hnn : ((En : Int) != (En : Int)) = false := by simp
            have hS0 := hSD.out
            clear hc hmem hEn hqe
            go_wp2_with fail
            go_region_held (fun (w' : World) => (w'.cell? ⟨g5, q * 2, none⟩ = some (.pointer Ep) ∧ w'.cell? ⟨g5, q * 2 + 1, none⟩ = some (.int .i64 (En : Nat)) ∧ w'.cell? ⟨g6, q, none⟩ = some (.slice Ea En Ec) ∧ Hid (Ss w w' (.slice (some ⟨g5, 0, none⟩) NE c5) (.slice (some ⟨g6, 0, none⟩) NE c6) Es g5 g6 j))) (first | (with_reducible assumption) | (with_reducible exact hSD.out))
              (first | ((with_reducible refine Calls.mono HLE.out ?_); rintro e w7 ⟨rfl, HB7, hS7⟩))
            have HQ7 : Hid (Ss w w7 (.slice (some ⟨g5, 0, none⟩) NE c5) (.slice (some ⟨g6, 0, none⟩) NE c6) Es g5 g6 j) := hS7.2.2.2.out
            have HC7 : Hid (∀ W, Below w7.heap.size w7 W → W.cell? ⟨g5, q * 2, none⟩ = some (.pointer Ep) ∧ W.cell? ⟨g5, q * 2 + 1, none⟩ = some (.int .i64 (En : Nat)) ∧ W.cell? ⟨g6, q, none⟩ = some (.slice Ea En Ec)) := fun W b => HC.out _ (Below.next HB7.out b)
            clear hS7 hS0 hSD HLE HB7 HQ HC
            go_wp2_with fail
            go_loopw [10] (fun v10 wr' => ∃ k : Nat, k ≤ En ∧ v10 = .int .i64 k ∧ Hid (Below w7.heap.size w7 wr'))
              (fun vi _ => En - (intOf vi).toNat)
            case atStart => exact ⟨0, Nat.zero_le _, rfl, Below.refl _ _⟩
            case round =>
              obtain ⟨k, hk, rfl, HBK⟩ := hrel
              obtain ⟨x0, x1, x2⟩ := HC7.out _ HBK.out
              have HQK : Hid (Ss w wr (.slice (some ⟨g5, 0, none⟩) NE c5) (.slice (some ⟨g6, 0, none⟩) NE c6) Es g5 g6 j) := HQ7.out.next HBK.out
              by_cases hkn : k < En
              · have hki : (k : Int) < (En : Int) := by omega
                have hkm : k < Em.length := by rw [HEN.out]; exact hkn
                have hall := HQK.out.all _ HMEM.out
                obtain ⟨pb, po, pc, hv, hpc, hpb, hcs⟩ := hall.2.prs (fun e => by have e' : Em = [] := e; rw [e'] at hkm; simp at hkm)
                have hcz : wr.cell? ⟨pb, po + k * 4, none⟩ = some (.int .i64 Em[k].v.k) ∧ wr.cell? ⟨pb, po + k * 4 + 1, none⟩ = some (.int .i64 Em[k].v.n) ∧ wr.cell? ⟨pb, po + k * 4 + 2, none⟩ = some (.string Em[k].v.s) ∧ wr.cell? ⟨pb, po + k * 4 + 3, none⟩ = some (.int .i64 Em[k].n) := hcs k hkm
                obtain ⟨hv1, _, hv3⟩ := Value.slice.inj hv
                subst hv1
                subst hv3
                obtain ⟨Y, hY⟩ : ∃ Y, Em[k].v = Y := ⟨_, rfl⟩
                have HYF : Hid (Y.fit) := by
                  refine hall.1.st.fit Y (fun e => ?_)
                  have h1 : (⟨Y, Em[k].n⟩ : Pr) ∈ Em := by rw [← hY]; exact List.getElem_mem hkm
                  have h2 := (hall.1.rel.mem Y Em[k].n).2 h1
                  rw [e] at h2
                  simp at h2
                rw [hY] at hcz
                obtain ⟨yk, yn, ys⟩ := Y
                have HP : Hid (∀ W, Below wr.heap.size wr W → (W.cell? ⟨g5, q * 2, none⟩ = some (.pointer Ep) ∧ W.cell? ⟨g5, q * 2 + 1, none⟩ = some (.int .i64 (En : Nat)) ∧ W.cell? ⟨g6, q, none⟩ = some (.slice (some ⟨pb, po, none⟩) En Ec) ∧ W.cell? ⟨pb, po + k * 4, none⟩ = some (.int .i64 yk) ∧ W.cell? ⟨pb, po + k * 4 + 1, none⟩ = some (.int .i64 yn) ∧ W.cell? ⟨pb, po + k * 4 + 2, none⟩ = some (.string ys) ∧ Hid (Ss w W (.slice (some ⟨g5, 0, none⟩) NE c5) (.slice (some ⟨g6, 0, none⟩) NE c6) Es g5 g6 j))) := fun W b => ⟨(b.cell (World.block_lt_of_cell? wr _ x0)).trans x0, (b.cell (World.block_lt_of_cell? wr _ x1)).trans x1, (b.cell (World.block_lt_of_cell? wr _ x2)).trans x2, (b.cell (World.block_lt_of_cell? wr _ hcz.1)).trans hcz.1, (b.cell (World.block_lt_of_cell? wr _ hcz.2.1)).trans hcz.2.1, (b.cell (World.block_lt_of_cell? wr _ hcz.2.2.1)).trans hcz.2.2.1, HQK.out.next b⟩
                obtain ⟨l1, hl1⟩ : ∃ l1, EF ⟨yk, yn, ys⟩ = l1 := ⟨_, rfl⟩
                obtain ⟨K1, hK1⟩ : ∃ K1, l1.length = K1 := ⟨_, rfl⟩
                have HK1 : Hid (l1.length = K1 ∧ l1.length ≤ 1000) := ⟨hK1, by rw [← hl1]; exact Nat.le_trans (hall.1.ix.less _) (by omega)⟩
                have hSD : Hid ((wr.drew.cell? ⟨g5, q * 2, none⟩ = some (.pointer Ep) ∧ wr.drew.cell? ⟨g5, q * 2 + 1, none⟩ = some (.int .i64 (En : Nat)) ∧ wr.drew.cell? ⟨g6, q, none⟩ = some (.slice (some ⟨pb, po, none⟩) En Ec) ∧ wr.drew.cell? ⟨pb, po + k * 4, none⟩ = some (.int .i64 yk) ∧ wr.drew.cell? ⟨pb, po + k * 4 + 1, none⟩ = some (.int .i64 yn) ∧ wr.drew.cell? ⟨pb, po + k * 4 + 2, none⟩ = some (.string ys) ∧ Hid (Ss w wr.drew (.slice (some ⟨g5, 0, none⟩) NE c5) (.slice (some ⟨g6, 0, none⟩) NE c6) Es g5 g6 j))) := HP.out _ (Below.refl _ _).drew
                have HFI : Hid (Calls Try.prog 13 #[.agg #[.pointer Ep, .int .i64 (En : Nat)], .agg #[.int .i64 yk, .int .i64 yn, .string ys]] wr.drew fun e w'' => ∃ a1 c1, e = .returned (.slice a1 K1 c1) ∧ Hid (Sl iv 1 w'' (.slice a1 K1 c1) l1 ∧ Below wr.heap.size wr w'') ∧ (w''.cell? ⟨g5, q * 2, none⟩ = some (.pointer Ep) ∧ w''.cell? ⟨g5, q * 2 + 1, none⟩ = some (.int .i64 (En : Nat)) ∧ w''.cell? ⟨g6, q, none⟩ = some (.slice (some ⟨pb, po, none⟩) En Ec) ∧ w''.cell? ⟨pb, po + k * 4, none⟩ = some (.int .i64 yk) ∧ w''.cell? ⟨pb, po + k * 4 + 1, none⟩ = some (.int .i64 yn) ∧ w''.cell? ⟨pb, po + k * 4 + 2, none⟩ = some (.string ys) ∧ Hid (Ss w w'' (.slice (some ⟨g5, 0, none⟩) NE c5) (.slice (some ⟨g6, 0, none⟩) NE c6) Es g5 g6 j))) := by
                  have q := find_is Ep En EF Enb (j + 1) (by omega) (by have := hall.1.nb (by omega); simp only at this; omega) ⟨yk, yn, ys⟩ HYF.out wr.drew (hall.1.ix.next (Below.refl _ _).drew)
                  rw [hl1] at q
                  refine q.mono fun e w'' ⟨v1, q1, q2, q3⟩ => ?_
                  obtain ⟨a1, c1, rfl⟩ := slices_shape q2
                  rw [hK1] at q1 q2
                  exact ⟨a1, c1, q1, ⟨q2, Below.of_drew q3⟩, HP.out _ (Below.of_drew q3)⟩
                have HFL : Hid (∀ w', Below wr.heap.size wr w' → Calls Try.prog 14 #[.slice (some ⟨pb, po, none⟩) En Ec, .agg #[.int .i64 yk, .int .i64 yn, .string ys]] w' fun e w'' => ∃ a2 c2, e = .returned (.slice a2 K1 c2) ∧ Hid (Sl iv 1 w'' (.slice a2 K1 c2) l1 ∧ Below w'.heap.size w' w'' ∧ Below wr.heap.size wr w'') ∧ (w''.cell? ⟨g5, q * 2, none⟩ = some (.pointer Ep) ∧ w''.cell? ⟨g5, q * 2 + 1, none⟩ = some (.int .i64 (En : Nat)) ∧ w''.cell? ⟨g6, q, none⟩ = some (.slice (some ⟨pb, po, none⟩) En Ec) ∧ w''.cell? ⟨pb, po + k * 4, none⟩ = some (.int .i64 yk) ∧ w''.cell? ⟨pb, po + k * 4 + 1, none⟩ = some (.int .i64 yn) ∧ w''.cell? ⟨pb, po + k * 4 + 2, none⟩ = some (.string ys) ∧ Hid (Ss w w'' (.slice (some ⟨g5, 0, none⟩) NE c5) (.slice (some ⟨g6, 0, none⟩) NE c6) Es g5 g6 j))) := fun w' b => by
                  have hs := hall.2.next pv_ne b
                  have q := fndC_is _ Ec Em (by rw [HEN.out]; omega) ⟨yk, yn, ys⟩ w' hs
                  have hfn := hall.1.rel.fnd ⟨yk, yn, ys⟩
                  simp only at hfn
                  rw [hfn, hl1, HEN.out] at q
                  refine q.mono fun e w'' ⟨v1, q1, q2, q3⟩ => ?_
                  obtain ⟨a1, c1, rfl⟩ := slices_shape q2
                  rw [hK1] at q1 q2
                  exact ⟨a1, c1, q1, ⟨q2, q3, Below.next b q3⟩, HP.out _ (Below.next b q3)⟩
                have HSM : Hid (∀ w' u1 u2, Below wr.heap.size wr w' → Sl iv 1 w' u1 l1 → Sl iv 1 w' u2 l1 → Calls Try.prog 12 #[u1, u2] w' fun e w'' => e = .returned (.bool true) ∧ Hid (Below wr.heap.size wr w'') ∧ (w''.cell? ⟨g5, q * 2, none⟩ = some (.pointer Ep) ∧ w''.cell? ⟨g5, q * 2 + 1, none⟩ = some (.int .i64 (En : Nat)) ∧ w''.cell? ⟨g6, q, none⟩ = some (.slice (some ⟨pb, po, none⟩) En Ec) ∧ w''.cell? ⟨pb, po + k * 4, none⟩ = some (.int .i64 yk) ∧ w''.cell? ⟨pb, po + k * 4 + 1, none⟩ = some (.int .i64 yn) ∧ w''.cell? ⟨pb, po + k * 4 + 2, none⟩ = some (.string ys) ∧ Hid (Ss w w'' (.slice (some ⟨g5, 0, none⟩) NE c5) (.slice (some ⟨g6, 0, none⟩) NE c6) Es g5 g6 j))) := fun w' u1 u2 b h1 h2 => by
                  have q := same_is u1 u2 l1 l1 HK1.out.2 HK1.out.2 w' h1 h2
                  rw [decide_eq_true rfl] at q
                  exact q.mono fun e w'' ⟨q1, q2⟩ => ⟨q1, Below.next b q2, HP.out _ (Below.next b q2)⟩
                have hS0 := HP.out _ (Below.refl _ _)
                clear hall hcs hcz hpb hpc hY hl1 hK1 x0 x1 x2 hkm HQK
                go_wp2_with fail
                go_region_held (fun (w' : World) => (w'.cell? ⟨g5, q * 2, none⟩ = some (.pointer Ep) ∧ w'.cell? ⟨g5, q * 2 + 1, none⟩ = some (.int .i64 (En : Nat)) ∧ w'.cell? ⟨g6, q, none⟩ = some (.slice (some ⟨pb, po, none⟩) En Ec) ∧ w'.cell? ⟨pb, po + k * 4, none⟩ = some (.int .i64 yk) ∧ w'.cell? ⟨pb, po + k * 4 + 1, none⟩ = some (.int .i64 yn) ∧ w'.cell? ⟨pb, po + k * 4 + 2, none⟩ = some (.string ys) ∧ Hid (Ss w w' (.slice (some ⟨g5, 0, none⟩) NE c5) (.slice (some ⟨g6, 0, none⟩) NE c6) Es g5 g6 j))) (first | (with_reducible assumption) | (with_reducible exact hSD.out))
                  (first | ((with_reducible refine Calls.mono HFI.out ?_); rintro e wC ⟨a1, c1, rfl, Hs1, hSC⟩) | ((with_reducible refine Calls.mono (HFL.out _ Hs1.out.2) ?_); rintro e wD ⟨a2, c2, rfl, Hs2, hSE⟩) | ((with_reducible refine Calls.mono (HSM.out _ _ _ Hs2.out.2.2 (Hs1.out.1.next iv_ne Hs2.out.2.1) Hs2.out.1) ?_); rintro e wE ⟨rfl, HBE, hSF⟩))
                have HE : Hid (Below w7.heap.size w7 wE) := Below.next HBK.out HBE.out
                clear hS0 hSC hSE hSF HFI HFL HSM HP Hs1 Hs2 hSD
                try simp only [Exit.then]
                go_wp2_with fail
                go_roundw
                case rel => exact ⟨k + 1, by omega, by go_num, HE.out⟩
                case measure => simp [intOf]; omega
              · have hki : ¬ (k : Int) < (En : Int) := by omega
                clear HQ7
                go_wp2_with fail
                go_roundw
                case rel => exact ⟨q + 1, by omega, by go_num, HQK.out⟩
                case measure => simp [intOf]; omega
          · have hqi : ¬ (q : Int) < (NE : Int) := by omega
            have HN : Hid (Below w.heap.size w wr) := HQ.out.bel
            clear HQ
            go_wp2_with fail
            refine Calls.mono (HAW.out _) ?_; rintro e w8 ⟨rfl, k8⟩
            have HB8 : Hid (Below w.heap.size w w8) := Below.next HN.out k8
            clear k8 HN
            go_wp2_with fail
            go_ret
            exact ⟨rfl, HB8.out⟩
      · go_wp2_with fail
        go_loopw [9] (fun v9 wr' => ∃ q : Nat, q ≤ NE ∧ v9 = .int .i64 q ∧ Hid (Ss w wr' (.slice (some ⟨g5, 0, none⟩) NE c5) (.slice (some ⟨g6, 0, none⟩) NE c6) Es g5 g6 j))
          (fun vi _ => NE - (intOf vi).toNat)
        case atStart => exact ⟨0, Nat.zero_le _, rfl, HS.out⟩
        case round =>
          clear HS
          obtain ⟨q, hq, rfl, HQ⟩ := hrel
          by_cases hql : q < NE
          · have hqi : (q : Int) < (NE : Int) := by omega
            have hqe : q < Es.length := by rw [HEs.out]; exact hql
            have hc := HQ.out.cells hqe
            have hmem := List.getElem_mem hqe
            generalize Es[q] = E at *
            obtain ⟨Ep, EF, Enb, Ea, Ec, Em⟩ := E
            obtain ⟨En, hEn⟩ : ∃ En, Em.length = En := ⟨_, rfl⟩
            have HMEM : Hid ((⟨Ep, EF, Enb, Ea, Ec, Em⟩ : Pe) ∈ Es) := hmem
            have HEN : Hid (Em.length = En) := hEn
            simp only [hEn] at hc
            have HC : Hid (∀ W, Below wr.heap.size wr W → W.cell? ⟨g5, q * 2, none⟩ = some (.pointer Ep) ∧ W.cell? ⟨g5, q * 2 + 1, none⟩ = some (.int .i64 (En : Nat)) ∧ W.cell? ⟨g6, q, none⟩ = some (.slice Ea En Ec)) := fun W b => ⟨(b.cell (World.block_lt_of_cell? wr _ hc.1)).trans hc.1, (b.cell (World.block_lt_of_cell? wr _ hc.2.1)).trans hc.2.1, (b.cell (World.block_lt_of_cell? wr _ hc.2.2)).trans hc.2.2⟩
            have hSD : Hid ((wr.drew.cell? ⟨g5, q * 2, none⟩ = some (.pointer Ep) ∧ wr.drew.cell? ⟨g5, q * 2 + 1, none⟩ = some (.int .i64 (En : Nat)) ∧ wr.drew.cell? ⟨g6, q, none⟩ = some (.slice Ea En Ec) ∧ Hid (Ss w wr.drew (.slice (some ⟨g5, 0, none⟩) NE c5) (.slice (some ⟨g6, 0, none⟩) NE c6) Es g5 g6 j))) := ⟨(HC.out _ (Below.refl _ _).drew).1, (HC.out _ (Below.refl _ _).drew).2.1, (HC.out _ (Below.refl _ _).drew).2.2, HQ.out.next (Below.refl _ _).drew⟩
            have HLE : Hid (Calls Try.prog 10 #[.agg #[.pointer Ep, .int .i64 (En : Nat)]] wr.drew fun e w'' => e = .returned (.int .i64 (En : Nat)) ∧ Hid (Below wr.heap.size wr w'') ∧ (w''.cell? ⟨g5, q * 2, none⟩ = some (.pointer Ep) ∧ w''.cell? ⟨g5, q * 2 + 1, none⟩ = some (.int .i64 (En : Nat)) ∧ w''.cell? ⟨g6, q, none⟩ = some (.slice Ea En Ec) ∧ Hid (Ss w w'' (.slice (some ⟨g5, 0, none⟩) NE c5) (.slice (some ⟨g6, 0, none⟩) NE c6) Es g5 g6 j))) := (len_is Ep En wr.drew).mono fun e w'' ⟨q1, q2⟩ => ⟨q1, Below.of_drew q2, (HC.out _ (Below.of_drew q2)).1, (HC.out _ (Below.of_drew q2)).2.1, (HC.out _ (Below.of_drew q2)).2.2, HQ.out.next (Below.of_drew q2)⟩
            have hEnj : En ≤ 50 := by rw [← hEn]; have := (HQ.out.all _ hmem).1.lj; simp only at this; omega
            have hnn : ((En : Int) != (En : Int)) = false := by simp
            have hS0 := hSD.out
            clear hc hmem hEn hqe
            go_wp2_with fail
            go_region_held (fun (w' : World) => (w'.cell? ⟨g5, q * 2, none⟩ = some (.pointer Ep) ∧ w'.cell? ⟨g5, q * 2 + 1, none⟩ = some (.int .i64 (En : Nat)) ∧ w'.cell? ⟨g6, q, none⟩ = some (.slice Ea En Ec) ∧ Hid (Ss w w' (.slice (some ⟨g5, 0, none⟩) NE c5) (.slice (some ⟨g6, 0, none⟩) NE c6) Es g5 g6 j))) (first | (with_reducible assumption) | (with_reducible exact hSD.out))
              (first | ((with_reducible refine Calls.mono HLE.out ?_); rintro e w7 ⟨rfl, HB7, hS7⟩))
            have HQ7 : Hid (Ss w w7 (.slice (some ⟨g5, 0, none⟩) NE c5) (.slice (some ⟨g6, 0, none⟩) NE c6) Es g5 g6 j) := hS7.2.2.2.out
            have HC7 : Hid (∀ W, Below w7.heap.size w7 W → W.cell? ⟨g5, q * 2, none⟩ = some (.pointer Ep) ∧ W.cell? ⟨g5, q * 2 + 1, none⟩ = some (.int .i64 (En : Nat)) ∧ W.cell? ⟨g6, q, none⟩ = some (.slice Ea En Ec)) := fun W b => HC.out _ (Below.next HB7.out b)
            clear hS7 hS0 hSD HLE HB7 HQ HC
            go_wp2_with fail
            go_loopw [10] (fun v10 wr' => ∃ k : Nat, k ≤ En ∧ v10 = .int .i64 k ∧ Hid (Below w7.heap.size w7 wr'))
              (fun vi _ => En - (intOf vi).toNat)
            case atStart => exact ⟨0, Nat.zero_le _, rfl, Below.refl _ _⟩
            case round =>
              obtain ⟨k, hk, rfl, HBK⟩ := hrel
              obtain ⟨x0, x1, x2⟩ := HC7.out _ HBK.out
              have HQK : Hid (Ss w wr (.slice (some ⟨g5, 0, none⟩) NE c5) (.slice (some ⟨g6, 0, none⟩) NE c6) Es g5 g6 j) := HQ7.out.next HBK.out
              by_cases hkn : k < En
              · have hki : (k : Int) < (En : Int) := by omega
                have hkm : k < Em.length := by rw [HEN.out]; exact hkn
                have hall := HQK.out.all _ HMEM.out
                obtain ⟨pb, po, pc, hv, hpc, hpb, hcs⟩ := hall.2.prs (fun e => by have e' : Em = [] := e; rw [e'] at hkm; simp at hkm)
                have hcz : wr.cell? ⟨pb, po + k * 4, none⟩ = some (.int .i64 Em[k].v.k) ∧ wr.cell? ⟨pb, po + k * 4 + 1, none⟩ = some (.int .i64 Em[k].v.n) ∧ wr.cell? ⟨pb, po + k * 4 + 2, none⟩ = some (.string Em[k].v.s) ∧ wr.cell? ⟨pb, po + k * 4 + 3, none⟩ = some (.int .i64 Em[k].n) := hcs k hkm
                obtain ⟨hv1, _, hv3⟩ := Value.slice.inj hv
                subst hv1
                subst hv3
                obtain ⟨Y, hY⟩ : ∃ Y, Em[k].v = Y := ⟨_, rfl⟩
                have HYF : Hid (Y.fit) := by
                  refine hall.1.st.fit Y (fun e => ?_)
                  have h1 : (⟨Y, Em[k].n⟩ : Pr) ∈ Em := by rw [← hY]; exact List.getElem_mem hkm
                  have h2 := (hall.1.rel.mem Y Em[k].n).2 h1
                  rw [e] at h2
                  simp at h2
                rw [hY] at hcz
                obtain ⟨yk, yn, ys⟩ := Y
                have HP : Hid (∀ W, Below wr.heap.size wr W → (W.cell? ⟨g5, q * 2, none⟩ = some (.pointer Ep) ∧ W.cell? ⟨g5, q * 2 + 1, none⟩ = some (.int .i64 (En : Nat)) ∧ W.cell? ⟨g6, q, none⟩ = some (.slice (some ⟨pb, po, none⟩) En Ec) ∧ W.cell? ⟨pb, po + k * 4, none⟩ = some (.int .i64 yk) ∧ W.cell? ⟨pb, po + k * 4 + 1, none⟩ = some (.int .i64 yn) ∧ W.cell? ⟨pb, po + k * 4 + 2, none⟩ = some (.string ys) ∧ Hid (Ss w W (.slice (some ⟨g5, 0, none⟩) NE c5) (.slice (some ⟨g6, 0, none⟩) NE c6) Es g5 g6 j))) := fun W b => ⟨(b.cell (World.block_lt_of_cell? wr _ x0)).trans x0, (b.cell (World.block_lt_of_cell? wr _ x1)).trans x1, (b.cell (World.block_lt_of_cell? wr _ x2)).trans x2, (b.cell (World.block_lt_of_cell? wr _ hcz.1)).trans hcz.1, (b.cell (World.block_lt_of_cell? wr _ hcz.2.1)).trans hcz.2.1, (b.cell (World.block_lt_of_cell? wr _ hcz.2.2.1)).trans hcz.2.2.1, HQK.out.next b⟩
                obtain ⟨l1, hl1⟩ : ∃ l1, EF ⟨yk, yn, ys⟩ = l1 := ⟨_, rfl⟩
                obtain ⟨K1, hK1⟩ : ∃ K1, l1.length = K1 := ⟨_, rfl⟩
                have HK1 : Hid (l1.length = K1 ∧ l1.length ≤ 1000) := ⟨hK1, by rw [← hl1]; exact Nat.le_trans (hall.1.ix.less _) (by omega)⟩
                have hSD : Hid ((wr.drew.cell? ⟨g5, q * 2, none⟩ = some (.pointer Ep) ∧ wr.drew.cell? ⟨g5, q * 2 + 1, none⟩ = some (.int .i64 (En : Nat)) ∧ wr.drew.cell? ⟨g6, q, none⟩ = some (.slice (some ⟨pb, po, none⟩) En Ec) ∧ wr.drew.cell? ⟨pb, po + k * 4, none⟩ = some (.int .i64 yk) ∧ wr.drew.cell? ⟨pb, po + k * 4 + 1, none⟩ = some (.int .i64 yn) ∧ wr.drew.cell? ⟨pb, po + k * 4 + 2, none⟩ = some (.string ys) ∧ Hid (Ss w wr.drew (.slice (some ⟨g5, 0, none⟩) NE c5) (.slice (some ⟨g6, 0, none⟩) NE c6) Es g5 g6 j))) := HP.out _ (Below.refl _ _).drew
                have HFI : Hid (Calls Try.prog 13 #[.agg #[.pointer Ep, .int .i64 (En : Nat)], .agg #[.int .i64 yk, .int .i64 yn, .string ys]] wr.drew fun e w'' => ∃ a1 c1, e = .returned (.slice a1 K1 c1) ∧ Hid (Sl iv 1 w'' (.slice a1 K1 c1) l1 ∧ Below wr.heap.size wr w'') ∧ (w''.cell? ⟨g5, q * 2, none⟩ = some (.pointer Ep) ∧ w''.cell? ⟨g5, q * 2 + 1, none⟩ = some (.int .i64 (En : Nat)) ∧ w''.cell? ⟨g6, q, none⟩ = some (.slice (some ⟨pb, po, none⟩) En Ec) ∧ w''.cell? ⟨pb, po + k * 4, none⟩ = some (.int .i64 yk) ∧ w''.cell? ⟨pb, po + k * 4 + 1, none⟩ = some (.int .i64 yn) ∧ w''.cell? ⟨pb, po + k * 4 + 2, none⟩ = some (.string ys) ∧ Hid (Ss w w'' (.slice (some ⟨g5, 0, none⟩) NE c5) (.slice (some ⟨g6, 0, none⟩) NE c6) Es g5 g6 j))) := by
                  have q := find_is Ep En EF Enb (j + 1) (by omega) (by have := hall.1.nb (by omega); simp only at this; omega) ⟨yk, yn, ys⟩ HYF.out wr.drew (hall.1.ix.next (Below.refl _ _).drew)
                  rw [hl1] at q
                  refine q.mono fun e w'' ⟨v1, q1, q2, q3⟩ => ?_
                  obtain ⟨a1, c1, rfl⟩ := slices_shape q2
                  rw [hK1] at q1 q2
                  exact ⟨a1, c1, q1, ⟨q2, Below.of_drew q3⟩, HP.out _ (Below.of_drew q3)⟩
                have HFL : Hid (∀ w', Below wr.heap.size wr w' → Calls Try.prog 14 #[.slice (some ⟨pb, po, none⟩) En Ec, .agg #[.int .i64 yk, .int .i64 yn, .string ys]] w' fun e w'' => ∃ a2 c2, e = .returned (.slice a2 K1 c2) ∧ Hid (Sl iv 1 w'' (.slice a2 K1 c2) l1 ∧ Below w'.heap.size w' w'' ∧ Below wr.heap.size wr w'') ∧ (w''.cell? ⟨g5, q * 2, none⟩ = some (.pointer Ep) ∧ w''.cell? ⟨g5, q * 2 + 1, none⟩ = some (.int .i64 (En : Nat)) ∧ w''.cell? ⟨g6, q, none⟩ = some (.slice (some ⟨pb, po, none⟩) En Ec) ∧ w''.cell? ⟨pb, po + k * 4, none⟩ = some (.int .i64 yk) ∧ w''.cell? ⟨pb, po + k * 4 + 1, none⟩ = some (.int .i64 yn) ∧ w''.cell? ⟨pb, po + k * 4 + 2, none⟩ = some (.string ys) ∧ Hid (Ss w w'' (.slice (some ⟨g5, 0, none⟩) NE c5) (.slice (some ⟨g6, 0, none⟩) NE c6) Es g5 g6 j))) := fun w' b => by
                  have hs := hall.2.next pv_ne b
                  have q := fndC_is _ Ec Em (by rw [HEN.out]; omega) ⟨yk, yn, ys⟩ w' hs
                  have hfn := hall.1.rel.fnd ⟨yk, yn, ys⟩
                  simp only at hfn
                  rw [hfn, hl1, HEN.out] at q
                  refine q.mono fun e w'' ⟨v1, q1, q2, q3⟩ => ?_
                  obtain ⟨a1, c1, rfl⟩ := slices_shape q2
                  rw [hK1] at q1 q2
                  exact ⟨a1, c1, q1, ⟨q2, q3, Below.next b q3⟩, HP.out _ (Below.next b q3)⟩
                have HSM : Hid (∀ w' u1 u2, Below wr.heap.size wr w' → Sl iv 1 w' u1 l1 → Sl iv 1 w' u2 l1 → Calls Try.prog 12 #[u1, u2] w' fun e w'' => e = .returned (.bool true) ∧ Hid (Below wr.heap.size wr w'') ∧ (w''.cell? ⟨g5, q * 2, none⟩ = some (.pointer Ep) ∧ w''.cell? ⟨g5, q * 2 + 1, none⟩ = some (.int .i64 (En : Nat)) ∧ w''.cell? ⟨g6, q, none⟩ = some (.slice (some ⟨pb, po, none⟩) En Ec) ∧ w''.cell? ⟨pb, po + k * 4, none⟩ = some (.int .i64 yk) ∧ w''.cell? ⟨pb, po + k * 4 + 1, none⟩ = some (.int .i64 yn) ∧ w''.cell? ⟨pb, po + k * 4 + 2, none⟩ = some (.string ys) ∧ Hid (Ss w w'' (.slice (some ⟨g5, 0, none⟩) NE c5) (.slice (some ⟨g6, 0, none⟩) NE c6) Es g5 g6 j))) := fun w' u1 u2 b h1 h2 => by
                  have q := same_is u1 u2 l1 l1 HK1.out.2 HK1.out.2 w' h1 h2
                  rw [decide_eq_true rfl] at q
                  exact q.mono fun e w'' ⟨q1, q2⟩ => ⟨q1, Below.next b q2, HP.out _ (Below.next b q2)⟩
                have hS0 := HP.out _ (Below.refl _ _)
                clear hall hcs hcz hpb hpc hY hl1 hK1 x0 x1 x2 hkm HQK
                go_wp2_with fail
                go_region_held (fun (w' : World) => (w'.cell? ⟨g5, q * 2, none⟩ = some (.pointer Ep) ∧ w'.cell? ⟨g5, q * 2 + 1, none⟩ = some (.int .i64 (En : Nat)) ∧ w'.cell? ⟨g6, q, none⟩ = some (.slice (some ⟨pb, po, none⟩) En Ec) ∧ w'.cell? ⟨pb, po + k * 4, none⟩ = some (.int .i64 yk) ∧ w'.cell? ⟨pb, po + k * 4 + 1, none⟩ = some (.int .i64 yn) ∧ w'.cell? ⟨pb, po + k * 4 + 2, none⟩ = some (.string ys) ∧ Hid (Ss w w' (.slice (some ⟨g5, 0, none⟩) NE c5) (.slice (some ⟨g6, 0, none⟩) NE c6) Es g5 g6 j))) (first | (with_reducible assumption) | (with_reducible exact hSD.out))
                  (first | ((with_reducible refine Calls.mono HFI.out ?_); rintro e wC ⟨a1, c1, rfl, Hs1, hSC⟩) | ((with_reducible refine Calls.mono (HFL.out _ Hs1.out.2) ?_); rintro e wD ⟨a2, c2, rfl, Hs2, hSE⟩) | ((with_reducible refine Calls.mono (HSM.out _ _ _ Hs2.out.2.2 (Hs1.out.1.next iv_ne Hs2.out.2.1) Hs2.out.1) ?_); rintro e wE ⟨rfl, HBE, hSF⟩))
                have HE : Hid (Below w7.heap.size w7 wE) := Below.next HBK.out HBE.out
                clear hS0 hSC hSE hSF HFI HFL HSM HP Hs1 Hs2 hSD
                try simp only [Exit.then]
                go_wp2_with fail
                go_roundw
                case rel => exact ⟨k + 1, by omega, by go_num, HE.out⟩
                case measure => simp [intOf]; omega
              · have hki : ¬ (k : Int) < (En : Int) := by omega
                clear HQ7
                go_wp2_with fail
                go_roundw
                case rel => exact ⟨q + 1, by omega, by go_num, HQK.out⟩
                case measure => simp [intOf]; omega
          · have hqi : ¬ (q : Int) < (NE : Int) := by omega
            have HN : Hid (Below w.heap.size w wr) := HQ.out.bel
            clear HQ
            go_wp2_with fail
            refine Calls.mono (HAW.out _) ?_; rintro e w8 ⟨rfl, k8⟩
            have HB8 : Hid (Below w.heap.size w w8) := Below.next HN.out k8
            clear k8 HN
            go_wp2_with fail
            go_ret
            exact ⟨rfl, HB8.out⟩
end Go.Proofs.Ytgjeobmbfeinnaa
