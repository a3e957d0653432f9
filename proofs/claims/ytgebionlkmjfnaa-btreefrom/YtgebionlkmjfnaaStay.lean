/- BtreeStays. -/
import Derived.Test.YtgebionlkmjfnaaStP
import Derived.Test.YtgebionlkmjfnaaSam
import Derived.Deep.RegionHeldLaw
namespace Go.Proofs.Ytgebionlkmjfnaa
open Go.ChangeShapes Go.WideShapes Go.RowKit
set_option linter.unusedVariables false
set_option maxRecDepth 100000

theorem dr_appendD {P : Program} {ops : Array Oper} {o : Oper} {a : Act} {w w' : World} {Q : Exit → Act → World → Prop} {K : Act → World → Prop} {E : Prop} {v : Value} {x y : Operand} {t u : TypeId} {d : Option Tmp} (hd : o.dst = d) (hgd : o.guard = none) (ho : o.op = .call { callee := .builtin .append, args := #[x, y], argTypes := #[t, u] }) (hr : (Builtin.append_ #[t, u] o.type #[a.eval x, a.eval y]).run P w = .ok v w')
    (hK : K (a.put d v) w') : if Region.wanted o (yielded ops a.tmps) = true then Oper.wp P o a w K Q else E := by
  subst hd
  exact dr_append hgd ho hr hK

set_option maxHeartbeats 8000000 in
theorem stays_is (aa : Option Addr) (len cc : Nat) (L : List Atn) (hL : L.length = len) (ma : Option Addr) (mlen mc : Nat) (M : List Int) (hM : M.length = mlen) (w : World) (hr : Rw acv 3 w aa L) (hm : Rw inv1 1 w ma M) :
    Calls Try.prog 4 #[.slice aa len cc, .slice ma mlen mc] w fun e w' => e = .returned (.bool true) ∧ Below w.heap.size w w' := by
  have HR : Hid (L.length = len ∧ Rw acv 3 w aa L ∧ M.length = mlen ∧ Rw inv1 1 w ma M) := ⟨hL, hr, hM, hm⟩
  have HAW : Hid _ := awake_is
  clear hL hr hM hm
  go_enter Try.func4, Try.ntmps4
  go_wp2_with fail
  refine Calls.mono (HAW.out _) ?_; rintro e w1 ⟨rfl, k1⟩
  have HS0 : Hid _ := St.start w w1 k1
  clear k1
  go_wp2_with fail
  obtain ⟨w0, hw0⟩ : ∃ w0, (w1.alloc (.cells #[.pointer none, .int .i64 0] 25)).alloc (.cells #[.slice none 0 0] 26) = w0 := ⟨_, rfl⟩
  rw [hw0] at HS0
  rw [hw0]
  clear hw0
  go_loopw [5, 6, 7] (fun v5 v6 v7 wr => ∃ (j : Nat) (Es : List Ent) (g5 g6 c5 c6 : Nat), j ≤ 60 ∧ v5 = (.slice (some ⟨g5, 0, none⟩) Es.length c5) ∧ v6 = (.slice (some ⟨g6, 0, none⟩) Es.length c6) ∧ v7 = .int .i64 j ∧ Hid (Es.length = j + 1) ∧ Hid (St w wr (.slice (some ⟨g5, 0, none⟩) Es.length c5) (.slice (some ⟨g6, 0, none⟩) Es.length c6) Es g5 g6 j))
    (fun _ _ vi _ => 60 - (intOf vi).toNat)
  case atStart => exact ⟨0, [⟨none, none, 0, []⟩], w1.heap.size, w1.heap.size + 1, 1, 1, by omega, rfl, rfl, rfl, rfl, HS0.out⟩
  case round =>
    clear HS0
    obtain ⟨j, Es, g5, g6, c5, c6, hj, rfl, rfl, rfl, HEs, HS⟩ := hrel
    have hel : 0 < Es.length ∧ Es.length ≤ 61 := by have := HEs.out; omega
    by_cases hlt : j < len ∧ j < 60
    · obtain ⟨hlt, h60⟩ := hlt
      have hlti : (j : Int) < (len : Int) := by omega
      have h60i : (j : Int) < 60 := by omega
      obtain ⟨ab, ao, ha, hab, y0, y1, y2⟩ := HR.out.2.1.act (i := j) (by rw [HR.out.1]; exact hlt)
      subst ha
      have hB := HS.out.bel
      have z0 := (hB.cell (p := ⟨ab, ao + j * 3, none⟩) hab).trans y0
      have z1 := (hB.cell (p := ⟨ab, ao + j * 3 + 1, none⟩) hab).trans y1
      have z2 := (hB.cell (p := ⟨ab, ao + j * 3 + 2, none⟩) hab).trans y2
      generalize L[j]'(by rw [HR.out.1]; exact hlt) = x at *
      clear y0 y1 y2
      obtain ⟨i7, hi7⟩ : ∃ i7 : Nat, i7 + 1 = Es.length := ⟨Es.length - 1, by omega⟩
      have hi7w : IntKind.i64.wrap ((Es.length : Int) - 1) = (i7 : Int) := by rw [IntKind.wrap_i64]; omega
      go_upto_if 32 with fail
      go_cut [8, 32] (fun s8 s32 wx => ∃ i8 : Nat, s8 = .int .i64 i8 ∧ i8 < Es.length ∧ wr = wx)
      case first =>
        by_cases hm : j < mlen
        · have hmi : (j : Int) < (mlen : Int) := by omega
          obtain ⟨mb, mo, hma, hmb, m0⟩ := HR.out.2.2.2.int1 (i := j) (by rw [HR.out.2.2.1]; exact hm)
          subst hma
          have m1 := (hB.cell (p := ⟨mb, mo + j * 1, none⟩) hmb).trans m0
          obtain ⟨i8, hi8, hi9⟩ := pick_in (M[j]'(by rw [HR.out.2.2.1]; exact hm)) Es.length (by omega)
          generalize M[j]'(by rw [HR.out.2.2.1]; exact hm) = z at *
          have hab' := and_byte z
          rw [Nat.mul_one] at m1
          have hneg : ¬ (Es.length : Int) = 0 := by omega
          clear m0 hB
          go_wp2_with fail
          go_meet
          exact ⟨i8, rfl, hi8, rfl⟩
        · have hmi : ¬ (j : Int) < (mlen : Int) := by omega
          clear hB
          go_wp2_with fail
          go_meet
          exact ⟨i7, by first | rfl | go_num, by omega, rfl⟩
      case rest =>
        obtain ⟨i8, rfl, hi8, rfl⟩ := hcut
        have hi8i : (i8 : Int) < (Es.length : Int) := by omega
        clear hi7w hi7 i7 hB
        go_upto_region 12 with fail
        obtain ⟨w6, hw6⟩ : ∃ w6, wr.alloc (.cells #[.int .i64 x.kd, .int .i64 x.k, .string x.s] 28) = w6 := ⟨_, rfl⟩
        obtain ⟨gb, hgb⟩ : ∃ gb, wr.heap.size = gb := ⟨_, rfl⟩
        have HS6 : Hid (St w w6 (.slice (some ⟨g5, 0, none⟩) Es.length c5) (.slice (some ⟨g6, 0, none⟩) Es.length c6) Es g5 g6 j ∧ CellsF w6 gb [.int .i64 x.kd, .int .i64 x.k, .string x.s] ∧ gb ≠ g5 ∧ gb ≠ g6) := by
          have hI := HS.out
          show _ ∧ _
          rw [← hw6, ← hgb]
          exact ⟨hI.next (below1 _ _), CellsF.at _ 28 (by simp) rfl, by have := hI.r5.lt; omega, by have := hI.r6.lt; omega⟩
        rw [hw6, hgb]
        clear hw6 hgb HS z0 z1 z2
        obtain ⟨E, hE⟩ : ∃ E, Es[i8] = E := ⟨_, rfl⟩
        have HE : Hid (Es[i8] = E ∧ E ∈ Es) := ⟨hE, hE ▸ List.getElem_mem hi8⟩
        clear hE
        have HQ6 : Hid (w6.cell? ⟨g5, i8 * 2, none⟩ = some (.pointer E.p) ∧ w6.cell? ⟨g5, i8 * 2 + 1, none⟩ = some (.int .i64 (E.l.length : Int)) ∧ w6.cell? ⟨gb, 1, none⟩ = some (.int .i64 x.k) ∧ w6.cell? ⟨gb, 2, none⟩ = some (.string x.s)) := by
          have q := HS6.out.1.cells hi8
          rw [HE.out.1] at q
          exact ⟨q.1, q.2.1, HS6.out.2.1.cs 1 _ rfl, HS6.out.2.1.cs 2 _ rfl⟩
        have HKA : Hid (∀ (w' : World) (z : Obj), (w'.cell? ⟨g5, i8 * 2, none⟩ = some (.pointer E.p) ∧ w'.cell? ⟨g5, i8 * 2 + 1, none⟩ = some (.int .i64 (E.l.length : Int)) ∧ w'.cell? ⟨gb, 1, none⟩ = some (.int .i64 x.k) ∧ w'.cell? ⟨gb, 2, none⟩ = some (.string x.s)) → ((w'.alloc z).cell? ⟨g5, i8 * 2, none⟩ = some (.pointer E.p) ∧ (w'.alloc z).cell? ⟨g5, i8 * 2 + 1, none⟩ = some (.int .i64 (E.l.length : Int)) ∧ (w'.alloc z).cell? ⟨gb, 1, none⟩ = some (.int .i64 x.k) ∧ (w'.alloc z).cell? ⟨gb, 2, none⟩ = some (.string x.s))) := fun w' z h => ⟨((below1 w' z).cell (World.block_lt_of_cell? w' _ h.1)).trans h.1, ((below1 w' z).cell (World.block_lt_of_cell? w' _ h.2.1)).trans h.2.1, ((below1 w' z).cell (World.block_lt_of_cell? w' _ h.2.2.1)).trans h.2.2.1, ((below1 w' z).cell (World.block_lt_of_cell? w' _ h.2.2.2)).trans h.2.2.2⟩
        have HPU : Hid (∀ (w7 : World) (p7 : Option Addr) (l7 : List Itm), Below w6.heap.size w6 w7 → TreeV w7 p7 (l7.length : Int) l7 → (w7.cell? ⟨g5, i8 * 2, none⟩ = some (.pointer E.p) ∧ w7.cell? ⟨g5, i8 * 2 + 1, none⟩ = some (.int .i64 (E.l.length : Int)) ∧ w7.cell? ⟨gb, 1, none⟩ = some (.int .i64 x.k) ∧ w7.cell? ⟨gb, 2, none⟩ = some (.string x.s)) ∧ ∃ c8 w8 g8, Hid ((Builtin.append_ #[43, 43] 43 #[(.slice (some ⟨g5, 0, none⟩) Es.length c5), .slice (some ⟨w7.heap.size, 0, none⟩) 1 1]).run Try.prog (w7.alloc (.cells #[.pointer p7, .int .i64 (l7.length : Int)] 25)) = .ok (.slice (some ⟨g8, 0, none⟩) (Es.length + 1) c8) w8) ∧ Hid (Mid w w8 (.slice (some ⟨g8, 0, none⟩) (Es.length + 1) c8) (.slice (some ⟨g6, 0, none⟩) Es.length c6) Es g8 g6 j p7 l7 ∧ CellsF w8 gb [.int .i64 x.kd, .int .i64 x.k, .string x.s]) ∧ (w8.cell? ⟨g5, i8 * 2, none⟩ = some (.pointer E.p) ∧ w8.cell? ⟨g5, i8 * 2 + 1, none⟩ = some (.int .i64 (E.l.length : Int)) ∧ w8.cell? ⟨gb, 1, none⟩ = some (.int .i64 x.k) ∧ w8.cell? ⟨gb, 2, none⟩ = some (.string x.s))) := fun w7 p7 l7 k7 t7 => by
          have h7 := HS6.out.1.next k7
          have q7 := h7.cells hi8
          rw [HE.out.1] at q7
          have a7 := HS6.out.2.1.next k7
          obtain ⟨v8, w8, g8, r1, r2, r3, r4⟩ := h7.push (by omega) p7 l7 t7
          obtain ⟨c8, _, e8, _⟩ := r2.r5.ex
          subst e8
          have a8 := r3 _ _ a7 HS6.out.2.2.1
          refine ⟨⟨q7.1, q7.2.1, a7.cs 1 _ rfl, a7.cs 2 _ rfl⟩, c8, w8, g8, r1, ⟨r2, a8⟩, ?_, ?_, a8.cs 1 _ rfl, a8.cs 2 _ rfl⟩
          · have := r4 _ _ (flat_get (f := trv) (k := 2) (fun _ => rfl) Es i8 _ (List.getElem?_eq_getElem hi8) 0 _ rfl)
            rw [HE.out.1] at this
            exact this
          · have := r4 _ _ (flat_get (f := trv) (k := 2) (fun _ => rfl) Es i8 _ (List.getElem?_eq_getElem hi8) 1 _ rfl)
            rw [HE.out.1] at this
            exact this
        have HK0 : Hid (w6.drew.cell? ⟨g5, i8 * 2, none⟩ = some (.pointer E.p) ∧ w6.drew.cell? ⟨g5, i8 * 2 + 1, none⟩ = some (.int .i64 (E.l.length : Int)) ∧ w6.drew.cell? ⟨gb, 1, none⟩ = some (.int .i64 x.k) ∧ w6.drew.cell? ⟨gb, 2, none⟩ = some (.string x.s)) := HQ6.out
        have hS0 := HQ6.out
        have x0 := HS6.out.2.1.cs 0 _ rfl
        have hlj : E.l.length ≤ j := (HS6.out.1.all E HE.out.2).2.2
        by_cases hk2 : x.kd = 2
        · have hk2b : (x.kd == 2) = true := by simpa using hk2
          have HC7 : Hid (Calls Try.prog 9 #[.agg #[.pointer E.p, .int .i64 (E.l.length : Int)], .int .i64 x.k] w6.drew fun e w7 => ∃ p7, e = .returned (.agg #[.pointer p7, .int .i64 ((delL E.l x.k).length : Int)]) ∧ Hid (Below w6.heap.size w6 w7 ∧ TreeV w7 p7 ((delL E.l x.k).length : Int) (delL E.l x.k))) := by
            have hall := HS6.out.1.all E HE.out.2
            refine (Without_is E.p _ E.l x.k w6.drew (by omega) (hall.1.next (Below.refl _ _).drew)).mono fun e w7 ⟨p7, n7, r1, r2, r3⟩ => ?_
            have hn := r3.1
            subst hn
            exact ⟨p7, r1, Below.of_drew r2, r3⟩
          go_wp2_with fail
          clear x0 hk2 hk2b
          go_region_held_law (fun (w' : World) => (w'.cell? ⟨g5, i8 * 2, none⟩ = some (.pointer E.p) ∧ w'.cell? ⟨g5, i8 * 2 + 1, none⟩ = some (.int .i64 (E.l.length : Int)) ∧ w'.cell? ⟨gb, 1, none⟩ = some (.int .i64 x.k) ∧ w'.cell? ⟨gb, 2, none⟩ = some (.string x.s))) (first | (with_reducible assumption) | (with_reducible exact HK0.out) | (with_reducible exact HKA.out _ _ (by with_reducible assumption)))
            (first | ((with_reducible refine Calls.mono HC7.out ?_); rintro e w7 ⟨p7, rfl, HM7⟩; obtain ⟨hS7, c8, w8, g8, RA, HM8, hS8⟩ := HPU.out _ _ _ HM7.out.1 HM7.out.2) | (refine dr_appendD (d := some 57) rfl rfl rfl RA.out ?_))
          clear hS0 HQ6 HK0 HKA HPU HC7
          have HC9 : Hid (Calls Try.prog 10 #[.slice E.a E.l.length E.c, .int .i64 x.k] w8.drew fun e w9 => ∃ a9 c9, e = .returned (.slice a9 (delL E.l x.k).length c9) ∧ Hid (Below w8.heap.size w8 w9 ∧ Sl itv 2 w9 (.slice a9 (delL E.l x.k).length c9) (delL E.l x.k))) := by
            have hall := HM8.out.1.all E HE.out.2
            have := lwithout_is E.a E.c E.l x.k w8.drew (hall.2.1.next itv_ne (Below.refl _ _).drew) (by omega)
            refine this.mono fun e w9 ⟨v9, r1, r4⟩ => ?_
            have r2 := r4.bel
            have r3 := r4.sl
            obtain ⟨a9, c9, e9⟩ := slices_shape r3
            subst e9
            exact ⟨a9, c9, r1, Below.of_drew r2, r3⟩
          have HQ8 : Hid (w8.cell? ⟨g6, i8, none⟩ = some (.slice E.a E.l.length E.c) ∧ w8.cell? ⟨gb, 1, none⟩ = some (.int .i64 x.k) ∧ w8.cell? ⟨gb, 2, none⟩ = some (.string x.s)) := by
            have q := HM8.out.1.r6.cell (flat_get (f := slv) (k := 1) (fun _ => rfl) Es i8 _ (List.getElem?_eq_getElem hi8) 0 _ rfl)
            rw [HE.out.1, Nat.mul_one] at q
            exact ⟨q, HM8.out.2.cs 1 _ rfl, HM8.out.2.cs 2 _ rfl⟩
          have HK0 : Hid (w8.drew.cell? ⟨g6, i8, none⟩ = some (.slice E.a E.l.length E.c) ∧ w8.drew.cell? ⟨gb, 1, none⟩ = some (.int .i64 x.k) ∧ w8.drew.cell? ⟨gb, 2, none⟩ = some (.string x.s)) := HQ8.out
          have HKA : Hid (∀ (w' : World) (z : Obj), (w'.cell? ⟨g6, i8, none⟩ = some (.slice E.a E.l.length E.c) ∧ w'.cell? ⟨gb, 1, none⟩ = some (.int .i64 x.k) ∧ w'.cell? ⟨gb, 2, none⟩ = some (.string x.s)) → ((w'.alloc z).cell? ⟨g6, i8, none⟩ = some (.slice E.a E.l.length E.c) ∧ (w'.alloc z).cell? ⟨gb, 1, none⟩ = some (.int .i64 x.k) ∧ (w'.alloc z).cell? ⟨gb, 2, none⟩ = some (.string x.s))) := fun w' z h => ⟨((below1 w' z).cell (World.block_lt_of_cell? w' _ h.1)).trans h.1, ((below1 w' z).cell (World.block_lt_of_cell? w' _ h.2.1)).trans h.2.1, ((below1 w' z).cell (World.block_lt_of_cell? w' _ h.2.2)).trans h.2.2⟩
          have HPU : Hid (∀ (w9 : World) (a9 : Option Addr) (c9 : Nat), Below w8.heap.size w8 w9 → Sl itv 2 w9 (.slice a9 (delL E.l x.k).length c9) (delL E.l x.k) → (w9.cell? ⟨g6, i8, none⟩ = some (.slice E.a E.l.length E.c) ∧ w9.cell? ⟨gb, 1, none⟩ = some (.int .i64 x.k) ∧ w9.cell? ⟨gb, 2, none⟩ = some (.string x.s)) ∧ ∃ c10 w10 g10, Hid ((Builtin.append_ #[44, 44] 44 #[(.slice (some ⟨g6, 0, none⟩) Es.length c6), .slice (some ⟨w9.heap.size, 0, none⟩) 1 1]).run Try.prog (w9.alloc (.cells #[.slice a9 (delL E.l x.k).length c9] 26)) = .ok (.slice (some ⟨g10, 0, none⟩) (Es.length + 1) c10) w10) ∧ Hid (St w w10 (.slice (some ⟨g8, 0, none⟩) (Es.length + 1) c8) (.slice (some ⟨g10, 0, none⟩) (Es.length + 1) c10) (Es ++ [⟨p7, a9, c9, (delL E.l x.k)⟩]) g8 g10 (j + 1)) ∧ (w10.cell? ⟨g6, i8, none⟩ = some (.slice E.a E.l.length E.c) ∧ w10.cell? ⟨gb, 1, none⟩ = some (.int .i64 x.k) ∧ w10.cell? ⟨gb, 2, none⟩ = some (.string x.s))) := fun w9 a9 c9 k9 s9 => by
            have h9 := HM8.out.1.next k9
            have q9 := h9.r6.cell (flat_get (f := slv) (k := 1) (fun _ => rfl) Es i8 _ (List.getElem?_eq_getElem hi8) 0 _ rfl)
            rw [HE.out.1, Nat.mul_one] at q9
            have t9 := HM8.out.2.next k9
            obtain ⟨v10, w10, g10, r1, r2, r3, r4⟩ := h9.push (by omega) a9 c9 s9 (by have := (h9.all E HE.out.2).2.2; have := delL_le E.l x.k; omega)
            obtain ⟨c10, _, e10, _⟩ := r2.r6.ex
            rw [List.length_append] at e10
            subst e10
            have t10 := r3 _ _ t9 HS6.out.2.2.2
            refine ⟨⟨q9, t9.cs 1 _ rfl, t9.cs 2 _ rfl⟩, c10, w10, g10, r1, r2, ?_, t10.cs 1 _ rfl, t10.cs 2 _ rfl⟩
            have := r4 _ _ (flat_get (f := slv) (k := 1) (fun _ => rfl) Es i8 _ (List.getElem?_eq_getElem hi8) 0 _ rfl)
            rw [HE.out.1, Nat.mul_one] at this
            exact this
          clear hS7 hS8 RA HM7
          have hS0 := HQ8.out
          go_wp2_with fail
          go_region_held_law (fun (w' : World) => (w'.cell? ⟨g6, i8, none⟩ = some (.slice E.a E.l.length E.c) ∧ w'.cell? ⟨gb, 1, none⟩ = some (.int .i64 x.k) ∧ w'.cell? ⟨gb, 2, none⟩ = some (.string x.s))) (first | (with_reducible assumption) | (with_reducible exact HK0.out) | (with_reducible exact HKA.out _ _ (by with_reducible assumption)))
            (first | ((with_reducible refine Calls.mono HC9.out ?_); rintro e w9 ⟨a9, c9, rfl, HM9⟩; obtain ⟨hS9, c10, w10, g10, RA, HM10, hS10⟩ := HPU.out _ _ _ HM9.out.1 HM9.out.2) | (refine dr_appendD (d := some 67) rfl rfl rfl RA.out ?_))
          clear hS0 HQ8 HK0 HKA HPU HC9 hS9 hS10 RA HM9 HM8
          go_wp2_with fail
          have HLE : Hid ((Es ++ [(⟨p7, a9, c9, (delL E.l x.k)⟩ : Ent)]).length = Es.length + 1 ∧ Es.length = j + 1) := ⟨by rw [List.length_append]; rfl, HEs.out⟩
          go_roundw
          case rel =>
            refine ⟨j + 1, Es ++ [⟨p7, a9, c9, (delL E.l x.k)⟩], g8, g10, c8, c10, by omega, by rw [HLE.out.1], by rw [HLE.out.1], by go_num, by show _ = _; rw [HLE.out.1, HLE.out.2], ?_⟩
            show St _ _ _ _ _ _ _ _
            rw [HLE.out.1]
            exact HM10.out
          case measure => simp [intOf]; omega
        · have hk2b : (x.kd == 2) = false := by simpa using hk2
          have HC7 : Hid (Calls Try.prog 7 #[.agg #[.pointer E.p, .int .i64 (E.l.length : Int)], .int .i64 x.k, .string x.s] w6.drew fun e w7 => ∃ p7, e = .returned (.agg #[.pointer p7, .int .i64 ((insL E.l x.k x.s).length : Int)]) ∧ Hid (Below w6.heap.size w6 w7 ∧ TreeV w7 p7 ((insL E.l x.k x.s).length : Int) (insL E.l x.k x.s))) := by
            have hall := HS6.out.1.all E HE.out.2
            refine (With_is E.p _ E.l x.k x.s w6.drew (by omega) (hall.1.next (Below.refl _ _).drew)).mono fun e w7 ⟨p7, n7, r1, r2, r3⟩ => ?_
            have hn := r3.1
            subst hn
            exact ⟨p7, r1, Below.of_drew r2, r3⟩
          go_wp2_with fail
          clear x0 hk2 hk2b
          go_region_held_law (fun (w' : World) => (w'.cell? ⟨g5, i8 * 2, none⟩ = some (.pointer E.p) ∧ w'.cell? ⟨g5, i8 * 2 + 1, none⟩ = some (.int .i64 (E.l.length : Int)) ∧ w'.cell? ⟨gb, 1, none⟩ = some (.int .i64 x.k) ∧ w'.cell? ⟨gb, 2, none⟩ = some (.string x.s))) (first | (with_reducible assumption) | (with_reducible exact HK0.out) | (with_reducible exact HKA.out _ _ (by with_reducible assumption)))
            (first | ((with_reducible refine Calls.mono HC7.out ?_); rintro e w7 ⟨p7, rfl, HM7⟩; obtain ⟨hS7, c8, w8, g8, RA, HM8, hS8⟩ := HPU.out _ _ _ HM7.out.1 HM7.out.2) | (refine dr_appendD (d := some 79) rfl rfl rfl RA.out ?_))
          clear hS0 HQ6 HK0 HKA HPU HC7
          have HC9 : Hid (Calls Try.prog 8 #[.slice E.a E.l.length E.c, .agg #[.int .i64 x.k, .string x.s]] w8.drew fun e w9 => ∃ a9 c9, e = .returned (.slice a9 (insL E.l x.k x.s).length c9) ∧ Hid (Below w8.heap.size w8 w9 ∧ Sl itv 2 w9 (.slice a9 (insL E.l x.k x.s).length c9) (insL E.l x.k x.s))) := by
            have hall := HM8.out.1.all E HE.out.2
            have := lwith_is E.a E.c E.l x.k x.s w8.drew (hall.2.1.next itv_ne (Below.refl _ _).drew) hall.1.2.1 (by omega)
            refine this.mono fun e w9 ⟨v9, r1, r2, r3⟩ => ?_
            obtain ⟨a9, c9, e9⟩ := slices_shape r3
            subst e9
            exact ⟨a9, c9, r1, Below.of_drew r2, r3⟩
          have HQ8 : Hid (w8.cell? ⟨g6, i8, none⟩ = some (.slice E.a E.l.length E.c) ∧ w8.cell? ⟨gb, 1, none⟩ = some (.int .i64 x.k) ∧ w8.cell? ⟨gb, 2, none⟩ = some (.string x.s)) := by
            have q := HM8.out.1.r6.cell (flat_get (f := slv) (k := 1) (fun _ => rfl) Es i8 _ (List.getElem?_eq_getElem hi8) 0 _ rfl)
            rw [HE.out.1, Nat.mul_one] at q
            exact ⟨q, HM8.out.2.cs 1 _ rfl, HM8.out.2.cs 2 _ rfl⟩
          have HK0 : Hid (w8.drew.cell? ⟨g6, i8, none⟩ = some (.slice E.a E.l.length E.c) ∧ w8.drew.cell? ⟨gb, 1, none⟩ = some (.int .i64 x.k) ∧ w8.drew.cell? ⟨gb, 2, none⟩ = some (.string x.s)) := HQ8.out
          have HKA : Hid (∀ (w' : World) (z : Obj), (w'.cell? ⟨g6, i8, none⟩ = some (.slice E.a E.l.length E.c) ∧ w'.cell? ⟨gb, 1, none⟩ = some (.int .i64 x.k) ∧ w'.cell? ⟨gb, 2, none⟩ = some (.string x.s)) → ((w'.alloc z).cell? ⟨g6, i8, none⟩ = some (.slice E.a E.l.length E.c) ∧ (w'.alloc z).cell? ⟨gb, 1, none⟩ = some (.int .i64 x.k) ∧ (w'.alloc z).cell? ⟨gb, 2, none⟩ = some (.string x.s))) := fun w' z h => ⟨((below1 w' z).cell (World.block_lt_of_cell? w' _ h.1)).trans h.1, ((below1 w' z).cell (World.block_lt_of_cell? w' _ h.2.1)).trans h.2.1, ((below1 w' z).cell (World.block_lt_of_cell? w' _ h.2.2)).trans h.2.2⟩
          have HPU : Hid (∀ (w9 : World) (a9 : Option Addr) (c9 : Nat), Below w8.heap.size w8 w9 → Sl itv 2 w9 (.slice a9 (insL E.l x.k x.s).length c9) (insL E.l x.k x.s) → (w9.cell? ⟨g6, i8, none⟩ = some (.slice E.a E.l.length E.c) ∧ w9.cell? ⟨gb, 1, none⟩ = some (.int .i64 x.k) ∧ w9.cell? ⟨gb, 2, none⟩ = some (.string x.s)) ∧ ∃ c10 w10 g10, Hid ((Builtin.append_ #[44, 44] 44 #[(.slice (some ⟨g6, 0, none⟩) Es.length c6), .slice (some ⟨w9.heap.size, 0, none⟩) 1 1]).run Try.prog (w9.alloc (.cells #[.slice a9 (insL E.l x.k x.s).length c9] 26)) = .ok (.slice (some ⟨g10, 0, none⟩) (Es.length + 1) c10) w10) ∧ Hid (St w w10 (.slice (some ⟨g8, 0, none⟩) (Es.length + 1) c8) (.slice (some ⟨g10, 0, none⟩) (Es.length + 1) c10) (Es ++ [⟨p7, a9, c9, (insL E.l x.k x.s)⟩]) g8 g10 (j + 1)) ∧ (w10.cell? ⟨g6, i8, none⟩ = some (.slice E.a E.l.length E.c) ∧ w10.cell? ⟨gb, 1, none⟩ = some (.int .i64 x.k) ∧ w10.cell? ⟨gb, 2, none⟩ = some (.string x.s))) := fun w9 a9 c9 k9 s9 => by
            have h9 := HM8.out.1.next k9
            have q9 := h9.r6.cell (flat_get (f := slv) (k := 1) (fun _ => rfl) Es i8 _ (List.getElem?_eq_getElem hi8) 0 _ rfl)
            rw [HE.out.1, Nat.mul_one] at q9
            have t9 := HM8.out.2.next k9
            obtain ⟨v10, w10, g10, r1, r2, r3, r4⟩ := h9.push (by omega) a9 c9 s9 (by have := (h9.all E HE.out.2).2.2; have := insL_le E.l x.k x.s; omega)
            obtain ⟨c10, _, e10, _⟩ := r2.r6.ex
            rw [List.length_append] at e10
            subst e10
            have t10 := r3 _ _ t9 HS6.out.2.2.2
            refine ⟨⟨q9, t9.cs 1 _ rfl, t9.cs 2 _ rfl⟩, c10, w10, g10, r1, r2, ?_, t10.cs 1 _ rfl, t10.cs 2 _ rfl⟩
            have := r4 _ _ (flat_get (f := slv) (k := 1) (fun _ => rfl) Es i8 _ (List.getElem?_eq_getElem hi8) 0 _ rfl)
            rw [HE.out.1, Nat.mul_one] at this
            exact this
          clear hS7 hS8 RA HM7
          have hS0 := HQ8.out
          go_wp2_with fail
          go_region_held_law (fun (w' : World) => (w'.cell? ⟨g6, i8, none⟩ = some (.slice E.a E.l.length E.c) ∧ w'.cell? ⟨gb, 1, none⟩ = some (.int .i64 x.k) ∧ w'.cell? ⟨gb, 2, none⟩ = some (.string x.s))) (first | (with_reducible assumption) | (with_reducible exact HK0.out) | (with_reducible exact HKA.out _ _ (by with_reducible assumption)))
            (first | ((with_reducible refine Calls.mono HC9.out ?_); rintro e w9 ⟨a9, c9, rfl, HM9⟩; obtain ⟨hS9, c10, w10, g10, RA, HM10, hS10⟩ := HPU.out _ _ _ HM9.out.1 HM9.out.2) | (refine dr_appendD (d := some 92) rfl rfl rfl RA.out ?_))
          clear hS0 HQ8 HK0 HKA HPU HC9 hS9 hS10 RA HM9 HM8
          go_wp2_with fail
          have HLE : Hid ((Es ++ [(⟨p7, a9, c9, (insL E.l x.k x.s)⟩ : Ent)]).length = Es.length + 1 ∧ Es.length = j + 1) := ⟨by rw [List.length_append]; rfl, HEs.out⟩
          go_roundw
          case rel =>
            refine ⟨j + 1, Es ++ [⟨p7, a9, c9, (insL E.l x.k x.s)⟩], g8, g10, c8, c10, by omega, by rw [HLE.out.1], by rw [HLE.out.1], by go_num, by show _ = _; rw [HLE.out.1, HLE.out.2], ?_⟩
            show St _ _ _ _ _ _ _ _
            rw [HLE.out.1]
            exact HM10.out
          case measure => simp [intOf]; omega
    · by_cases hlt2 : j < len
      · have hlti : (j : Int) < (len : Int) := by omega
        have h60i : ¬ (j : Int) < 60 := by omega
        clear hlt
        go_wp2_with fail
        go_loopw [10] (fun v10 wr' => ∃ q : Nat, q ≤ Es.length ∧ v10 = .int .i64 q ∧ Hid (St w wr' (.slice (some ⟨g5, 0, none⟩) Es.length c5) (.slice (some ⟨g6, 0, none⟩) Es.length c6) Es g5 g6 j))
          (fun vi _ => Es.length - (intOf vi).toNat)
        case atStart => exact ⟨0, Nat.zero_le _, rfl, HS.out⟩
        case round =>
          clear HS
          obtain ⟨q, hq, rfl, HQ⟩ := hrel
          by_cases hql : q < Es.length
          · have hqi : (q : Int) < (Es.length : Int) := by omega
            have hc := HQ.out.cells hql
            have hal := HQ.out.all _ (List.getElem_mem hql)
            generalize Es[q] = E at *
            rw [Nat.mul_one] at hc
            have HK7 : Hid (∀ w', Below wr.heap.size wr w' → (w'.cell? ⟨g5, q * 2, none⟩ = some (.pointer E.p) ∧ w'.cell? ⟨g5, q * 2 + 1, none⟩ = some (.int .i64 (E.l.length : Int)) ∧ w'.cell? ⟨g6, q, none⟩ = some (.slice E.a E.l.length E.c))) := fun w' kk => ⟨(kk.cell (World.block_lt_of_cell? wr _ hc.1)).trans hc.1, (kk.cell (World.block_lt_of_cell? wr _ hc.2.1)).trans hc.2.1, (kk.cell (World.block_lt_of_cell? wr _ hc.2.2)).trans hc.2.2⟩
            have HK0 : Hid (wr.drew.cell? ⟨g5, q * 2, none⟩ = some (.pointer E.p) ∧ wr.drew.cell? ⟨g5, q * 2 + 1, none⟩ = some (.int .i64 (E.l.length : Int)) ∧ wr.drew.cell? ⟨g6, q, none⟩ = some (.slice E.a E.l.length E.c)) := hc
            have HSM : Hid (Calls Try.prog 15 #[.agg #[.pointer E.p, .int .i64 (E.l.length : Int)], .slice E.a E.l.length E.c] wr.drew fun e w' => e = .returned (.bool true) ∧ Hid (Below wr.heap.size wr w')) := (same_is E.p _ E.l E.a E.c wr.drew (hal.1.next (Below.refl _ _).drew) (hal.2.1.next itv_ne (Below.refl _ _).drew) (by omega)).mono fun e w' r => ⟨r.1, Below.of_drew r.2⟩
            have hS0 := HK7.out wr (Below.refl _ _)
            clear hc hal
            go_wp2_with fail
            go_region_held (fun (w' : World) => (w'.cell? ⟨g5, q * 2, none⟩ = some (.pointer E.p) ∧ w'.cell? ⟨g5, q * 2 + 1, none⟩ = some (.int .i64 (E.l.length : Int)) ∧ w'.cell? ⟨g6, q, none⟩ = some (.slice E.a E.l.length E.c))) (first | (with_reducible assumption) | (with_reducible exact HK0.out))
              (first | ((with_reducible refine Calls.mono HSM.out ?_); rintro e w7 ⟨rfl, HB7⟩; have hS7 := HK7.out _ HB7.out))
            have HN : Hid (St w w7 (.slice (some ⟨g5, 0, none⟩) Es.length c5) (.slice (some ⟨g6, 0, none⟩) Es.length c6) Es g5 g6 j) := HQ.out.next HB7.out
            clear hS7 hS0 HK0 HK7 HSM HB7 HQ
            go_wp2_with fail
            go_roundw
            case rel => exact ⟨q + 1, by omega, by go_num, HN.out⟩
            case measure => simp [intOf]; omega
          · have hqi : ¬ (q : Int) < (Es.length : Int) := by omega
            have HN : Hid (Below w.heap.size w wr) := HQ.out.bel
            clear HQ
            go_wp2_with fail
            go_ret
            exact ⟨rfl, HN.out⟩
      · have hlti : ¬ (j : Int) < (len : Int) := by omega
        clear hlt
        go_wp2_with fail
        go_loopw [10] (fun v10 wr' => ∃ q : Nat, q ≤ Es.length ∧ v10 = .int .i64 q ∧ Hid (St w wr' (.slice (some ⟨g5, 0, none⟩) Es.length c5) (.slice (some ⟨g6, 0, none⟩) Es.length c6) Es g5 g6 j))
          (fun vi _ => Es.length - (intOf vi).toNat)
        case atStart => exact ⟨0, Nat.zero_le _, rfl, HS.out⟩
        case round =>
          clear HS
          obtain ⟨q, hq, rfl, HQ⟩ := hrel
          by_cases hql : q < Es.length
          · have hqi : (q : Int) < (Es.length : Int) := by omega
            have hc := HQ.out.cells hql
            have hal := HQ.out.all _ (List.getElem_mem hql)
            generalize Es[q] = E at *
            rw [Nat.mul_one] at hc
            have HK7 : Hid (∀ w', Below wr.heap.size wr w' → (w'.cell? ⟨g5, q * 2, none⟩ = some (.pointer E.p) ∧ w'.cell? ⟨g5, q * 2 + 1, none⟩ = some (.int .i64 (E.l.length : Int)) ∧ w'.cell? ⟨g6, q, none⟩ = some (.slice E.a E.l.length E.c))) := fun w' kk => ⟨(kk.cell (World.block_lt_of_cell? wr _ hc.1)).trans hc.1, (kk.cell (World.block_lt_of_cell? wr _ hc.2.1)).trans hc.2.1, (kk.cell (World.block_lt_of_cell? wr _ hc.2.2)).trans hc.2.2⟩
            have HK0 : Hid (wr.drew.cell? ⟨g5, q * 2, none⟩ = some (.pointer E.p) ∧ wr.drew.cell? ⟨g5, q * 2 + 1, none⟩ = some (.int .i64 (E.l.length : Int)) ∧ wr.drew.cell? ⟨g6, q, none⟩ = some (.slice E.a E.l.length E.c)) := hc
            have HSM : Hid (Calls Try.prog 15 #[.agg #[.pointer E.p, .int .i64 (E.l.length : Int)], .slice E.a E.l.length E.c] wr.drew fun e w' => e = .returned (.bool true) ∧ Hid (Below wr.heap.size wr w')) := (same_is E.p _ E.l E.a E.c wr.drew (hal.1.next (Below.refl _ _).drew) (hal.2.1.next itv_ne (Below.refl _ _).drew) (by omega)).mono fun e w' r => ⟨r.1, Below.of_drew r.2⟩
            have hS0 := HK7.out wr (Below.refl _ _)
            clear hc hal
            go_wp2_with fail
            go_region_held (fun (w' : World) => (w'.cell? ⟨g5, q * 2, none⟩ = some (.pointer E.p) ∧ w'.cell? ⟨g5, q * 2 + 1, none⟩ = some (.int .i64 (E.l.length : Int)) ∧ w'.cell? ⟨g6, q, none⟩ = some (.slice E.a E.l.length E.c))) (first | (with_reducible assumption) | (with_reducible exact HK0.out))
              (first | ((with_reducible refine Calls.mono HSM.out ?_); rintro e w7 ⟨rfl, HB7⟩; have hS7 := HK7.out _ HB7.out))
            have HN : Hid (St w w7 (.slice (some ⟨g5, 0, none⟩) Es.length c5) (.slice (some ⟨g6, 0, none⟩) Es.length c6) Es g5 g6 j) := HQ.out.next HB7.out
            clear hS7 hS0 HK0 HK7 HSM HB7 HQ
            go_wp2_with fail
            go_roundw
            case rel => exact ⟨q + 1, by omega, by go_num, HN.out⟩
            case measure => simp [intOf]; omega
          · have hqi : ¬ (q : Int) < (Es.length : Int) := by omega
            have HN : Hid (Below w.heap.size w wr) := HQ.out.bel
            clear HQ
            go_wp2_with fail
            go_ret
            exact ⟨rfl, HN.out⟩
end Go.Proofs.Ytgebionlkmjfnaa
