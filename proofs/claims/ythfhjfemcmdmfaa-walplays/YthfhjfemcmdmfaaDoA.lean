/- does: Add, as a rule. -/
import Derived.Test.YthfhjfemcmdmfaaDoF
namespace Go.Proofs.Ythfhjfemcmdmfaa
open Go.ChangeShapes Go.WideShapes Go.ChangeAt Go.RowKit
set_option linter.unusedVariables false
set_option maxRecDepth 100000

/-- What the document's disk and log are, as values. -/
structure Rs where
  b2 : Option Addr
  n2 : Nat
  c2 : Nat
  b3 : Option Addr
  n3 : Nat
  c3 : Nat
  f4 : Int
  o5 : Bool
  i6 : Int
  i7 : Int
  i8 : Int
  b9 : Option Addr
  n9 : Nat
  c9 : Nat
  y10 : ByteArray
theorem set9_kept (w : World) (N : Nat) (v2 v3 v4 v5 v6 v7 v8 v9 v10 : Value) : Kept (fun i => i = N) w (((((((((w.setCell ⟨N, 2, none⟩ (v2)).setCell ⟨N, 3, none⟩ (v3)).setCell ⟨N, 4, none⟩ (v4)).setCell ⟨N, 5, none⟩ (v5)).setCell ⟨N, 6, none⟩ (v6)).setCell ⟨N, 7, none⟩ (v7)).setCell ⟨N, 8, none⟩ (v8)).setCell ⟨N, 9, none⟩ (v9)).setCell ⟨N, 10, none⟩ (v10)) := by
  have h2 := (Kept.refl (fun i => i = N) w).setCell (p := ⟨N, 2, none⟩) (.inl rfl) v2
  have h3 := h2.setCell (p := ⟨N, 3, none⟩) (.inl rfl) v3
  have h4 := h3.setCell (p := ⟨N, 4, none⟩) (.inl rfl) v4
  have h5 := h4.setCell (p := ⟨N, 5, none⟩) (.inl rfl) v5
  have h6 := h5.setCell (p := ⟨N, 6, none⟩) (.inl rfl) v6
  have h7 := h6.setCell (p := ⟨N, 7, none⟩) (.inl rfl) v7
  have h8 := h7.setCell (p := ⟨N, 8, none⟩) (.inl rfl) v8
  have h9 := h8.setCell (p := ⟨N, 9, none⟩) (.inl rfl) v9
  exact h9.setCell (p := ⟨N, 10, none⟩) (.inl rfl) v10
set_option maxHeartbeats 8000000 in
theorem does_add {w : World} {N p q gl gc kl kc : Nat} {nn e11 e12 cc : Int} {go ko : Option Addr} {mo : Bool} {z : Rs} {Q : World → Prop} {P1 : World → Prop} {P2 : World → Rs → World → Prop} (hN : CellsF w N [.pointer (some ⟨p, 0, none⟩), .pointer (some ⟨q, 0, none⟩), .slice z.b2 z.n2 z.c2, .slice z.b3 z.n3 z.c3, .int .i64 z.f4, .bool z.o5, .int .i64 z.i6, .int .i64 z.i7, .int .i64 z.i8, .slice z.b9 z.n9 z.c9, .string z.y10, .int .i64 e11, .int .i64 e12])
    (h1 : Calls Try.prog 21 #[.pointer (some ⟨q, 0, none⟩), .slice go gl gc] (w.alloc (.cells #[.int .i64 1, .int .i64 nn, .slice go gl gc, .slice ko kl kc, .bool mo] 53)).drew fun e w' => e = .returned (.int .i64 cc) ∧ P1 w')
    (hP1 : ∀ w1, P1 w1 → CellsF w1 N [.pointer (some ⟨p, 0, none⟩), .pointer (some ⟨q, 0, none⟩), .slice z.b2 z.n2 z.c2, .slice z.b3 z.n3 z.c3, .int .i64 z.f4, .bool z.o5, .int .i64 z.i6, .int .i64 z.i7, .int .i64 z.i8, .slice z.b9 z.n9 z.c9, .string z.y10, .int .i64 e11, .int .i64 e12] ∧ CellsF w1 w.heap.size [.int .i64 1, .int .i64 nn, .slice go gl gc, .slice ko kl kc, .bool mo] ∧ Other w1 N)
    (h2 : ∀ w1 W, P1 w1 → Kept (fun _ => False) w1 W → Calls Try.prog 42 #[.agg #[.slice z.b2 z.n2 z.c2, .slice z.b3 z.n3 z.c3, .int .i64 z.f4, .bool z.o5], .agg #[.int .i64 z.i6, .int .i64 z.i7, .int .i64 z.i8, .slice z.b9 z.n9 z.c9, .string z.y10], .slice go gl gc] W fun e w2 => ∃ x : Rs, e = .returned (.tuple #[.agg #[.slice x.b2 x.n2 x.c2, .slice x.b3 x.n3 x.c3, .int .i64 x.f4, .bool x.o5], .agg #[.int .i64 x.i6, .int .i64 x.i7, .int .i64 x.i8, .slice x.b9 x.n9 x.c9, .string x.y10], .int .i64 cc]) ∧ P2 w1 x w2 ∧ Kept (fun _ => False) W w2)
    (hst : ∀ w1 x w2 W (G : Nat → Prop), P2 w1 x w2 → Kept G w2 W → (∀ i, G i → w1.heap.size ≤ i ∧ (i < w2.heap.size → Other w2 i)) → P2 w1 x W)
    (h3 : ∀ w1 x W W', P1 w1 → P2 w1 x W → Kept (fun _ => False) w1 W → Kept (fun i => i = N) W W' → CellsF W' N [.pointer (some ⟨p, 0, none⟩), .pointer (some ⟨q, 0, none⟩), .slice x.b2 x.n2 x.c2, .slice x.b3 x.n3 x.c3, .int .i64 x.f4, .bool x.o5, .int .i64 x.i6, .int .i64 x.i7, .int .i64 x.i8, .slice x.b9 x.n9 x.c9, .string x.y10, .int .i64 e11, .int .i64 e12] → CellsF W' w.heap.size [.int .i64 1, .int .i64 nn, .slice go gl gc, .slice ko kl kc, .bool mo] → Other W' N → (cc = 30 → Calls Try.prog 45 #[.pointer (some ⟨N, 0, none⟩), .slice ko kl kc, .int .i64 x.i8] W' fun e w' => e = .returned (.bool true) ∧ Q w') ∧ (cc ≠ 30 → Calls Try.prog 41 #[.pointer (some ⟨N, 0, none⟩)] W' fun e w' => e = .returned (.bool true) ∧ Q w')) :
    Calls Try.prog 19 #[.pointer (some ⟨N, 0, none⟩), .agg #[.int .i64 1, .int .i64 nn, .slice go gl gc, .slice ko kl kc, .bool mo]] w fun e w' => e = .returned (.bool true) ∧ Q w' := by
  obtain ⟨W1, hW1⟩ : ∃ W1, w.alloc (.cells #[.int .i64 1, .int .i64 nn, .slice go gl gc, .slice ko kl kc, .bool mo] 53) = W1 := ⟨_, rfl⟩
  have k1 : Kept (fun _ => False) w W1 := hW1 ▸ (Kept.refl _ w).alloc _
  have HBX : Hid (CellsF W1 w.heap.size [.int .i64 1, .int .i64 nn, .slice go gl gc, .slice ko kl kc, .bool mo]) := hW1 ▸ CellsF.new w [.int .i64 1, .int .i64 nn, .slice go gl gc, .slice ko kl kc, .bool mo] 53 (by simp)
  have HN1 : Hid (CellsF W1 N [.pointer (some ⟨p, 0, none⟩), .pointer (some ⟨q, 0, none⟩), .slice z.b2 z.n2 z.c2, .slice z.b3 z.n3 z.c3, .int .i64 z.f4, .bool z.o5, .int .i64 z.i6, .int .i64 z.i7, .int .i64 z.i8, .slice z.b9 z.n9 z.c9, .string z.y10, .int .i64 e11, .int .i64 e12]) := hN.step k1
  have HNL : Hid (N < w.heap.size) := hN.lt
  have HW1 : Hid (w.alloc (.cells #[.int .i64 1, .int .i64 nn, .slice go gl gc, .slice ko kl kc, .bool mo] 53) = W1) := hW1
  rw [hW1] at h1
  have HC1 : Hid (Calls Try.prog 21 #[.pointer (some ⟨q, 0, none⟩), .slice go gl gc] W1.drew fun e w' => e = .returned (.int .i64 cc) ∧ Hid (P1 w') ∧ (w'.cell? ⟨N, 1, none⟩ = some (.pointer (some ⟨q, 0, none⟩)) ∧ w'.cell? ⟨w.heap.size, 2, none⟩ = some (.slice go gl gc))) := h1.mono fun e w' ⟨q1, q2⟩ => ⟨q1, q2, (hP1 _ q2).1.cs 1 _ rfl, (hP1 _ q2).2.1.cs 2 _ rfl⟩
  have HP1 : Hid (∀ w1, P1 w1 → CellsF w1 N [.pointer (some ⟨p, 0, none⟩), .pointer (some ⟨q, 0, none⟩), .slice z.b2 z.n2 z.c2, .slice z.b3 z.n3 z.c3, .int .i64 z.f4, .bool z.o5, .int .i64 z.i6, .int .i64 z.i7, .int .i64 z.i8, .slice z.b9 z.n9 z.c9, .string z.y10, .int .i64 e11, .int .i64 e12] ∧ CellsF w1 w.heap.size [.int .i64 1, .int .i64 nn, .slice go gl gc, .slice ko kl kc, .bool mo] ∧ Other w1 N) := hP1
  have H2 : Hid (∀ w1 W, P1 w1 → Kept (fun _ => False) w1 W → Calls Try.prog 42 #[.agg #[.slice z.b2 z.n2 z.c2, .slice z.b3 z.n3 z.c3, .int .i64 z.f4, .bool z.o5], .agg #[.int .i64 z.i6, .int .i64 z.i7, .int .i64 z.i8, .slice z.b9 z.n9 z.c9, .string z.y10], .slice go gl gc] W fun e w2 => ∃ x : Rs, e = .returned (.tuple #[.agg #[.slice x.b2 x.n2 x.c2, .slice x.b3 x.n3 x.c3, .int .i64 x.f4, .bool x.o5], .agg #[.int .i64 x.i6, .int .i64 x.i7, .int .i64 x.i8, .slice x.b9 x.n9 x.c9, .string x.y10], .int .i64 cc]) ∧ P2 w1 x w2 ∧ Kept (fun _ => False) W w2) := h2
  have HST : Hid (∀ w1 x w2 W (G : Nat → Prop), P2 w1 x w2 → Kept G w2 W → (∀ i, G i → w1.heap.size ≤ i ∧ (i < w2.heap.size → Other w2 i)) → P2 w1 x W) := hst
  have H3 : Hid (∀ w1 x W W', P1 w1 → P2 w1 x W → Kept (fun _ => False) w1 W → Kept (fun i => i = N) W W' → CellsF W' N [.pointer (some ⟨p, 0, none⟩), .pointer (some ⟨q, 0, none⟩), .slice x.b2 x.n2 x.c2, .slice x.b3 x.n3 x.c3, .int .i64 x.f4, .bool x.o5, .int .i64 x.i6, .int .i64 x.i7, .int .i64 x.i8, .slice x.b9 x.n9 x.c9, .string x.y10, .int .i64 e11, .int .i64 e12] → CellsF W' w.heap.size [.int .i64 1, .int .i64 nn, .slice go gl gc, .slice ko kl kc, .bool mo] → Other W' N → (cc = 30 → Calls Try.prog 45 #[.pointer (some ⟨N, 0, none⟩), .slice ko kl kc, .int .i64 x.i8] W' fun e w' => e = .returned (.bool true) ∧ Q w') ∧ (cc ≠ 30 → Calls Try.prog 41 #[.pointer (some ⟨N, 0, none⟩)] W' fun e w' => e = .returned (.bool true) ∧ Q w')) := h3
  have x0 := HBX.out.cs 0 _ rfl
  have HS0 : Hid (W1.drew.cell? ⟨N, 1, none⟩ = some (.pointer (some ⟨q, 0, none⟩)) ∧ W1.drew.cell? ⟨w.heap.size, 2, none⟩ = some (.slice go gl gc)) := ⟨HN1.out.cs 1 _ rfl, HBX.out.cs 2 _ rfl⟩
  have hS0 : (W1.cell? ⟨N, 1, none⟩ = some (.pointer (some ⟨q, 0, none⟩)) ∧ W1.cell? ⟨w.heap.size, 2, none⟩ = some (.slice go gl gc)) := HS0.out
  clear hN h1 hP1 h2 hst h3 hW1 k1
  go_enter Try.func19, Try.ntmps19
  go_upto_region 2 with fail
  rw [HW1.out]
  clear HW1
  go_upto_region 8 with fail
  clear x0
  go_region_held (fun (w' : World) => (w'.cell? ⟨N, 1, none⟩ = some (.pointer (some ⟨q, 0, none⟩)) ∧ w'.cell? ⟨w.heap.size, 2, none⟩ = some (.slice go gl gc))) (first | (with_reducible assumption) | (with_reducible exact HS0.out))
    (first | ((with_reducible refine Calls.mono HC1.out ?_); rintro e w1 ⟨rfl, HM1, hS1⟩))
  clear hS0 HS0 hS1 HC1
  try simp only [Exit.then]
  have HNb : Hid (CellsF w1 N [.pointer (some ⟨p, 0, none⟩), .pointer (some ⟨q, 0, none⟩), .slice z.b2 z.n2 z.c2, .slice z.b3 z.n3 z.c3, .int .i64 z.f4, .bool z.o5, .int .i64 z.i6, .int .i64 z.i7, .int .i64 z.i8, .slice z.b9 z.n9 z.c9, .string z.y10, .int .i64 e11, .int .i64 e12] ∧ CellsF w1 w.heap.size [.int .i64 1, .int .i64 nn, .slice go gl gc, .slice ko kl kc, .bool mo] ∧ Other w1 N) := HP1.out _ HM1.out
  clear HBX HN1
  have HSW : Hid (∀ W, Kept (fun _ => False) w1 W → (W.cell? ⟨N, 2, none⟩ = some (.slice z.b2 z.n2 z.c2) ∧ W.cell? ⟨N, 3, none⟩ = some (.slice z.b3 z.n3 z.c3) ∧ W.cell? ⟨N, 4, none⟩ = some (.int .i64 z.f4) ∧ W.cell? ⟨N, 5, none⟩ = some (.bool z.o5) ∧ W.cell? ⟨N, 6, none⟩ = some (.int .i64 z.i6) ∧ W.cell? ⟨N, 7, none⟩ = some (.int .i64 z.i7) ∧ W.cell? ⟨N, 8, none⟩ = some (.int .i64 z.i8) ∧ W.cell? ⟨N, 9, none⟩ = some (.slice z.b9 z.n9 z.c9) ∧ W.cell? ⟨N, 10, none⟩ = some (.string z.y10) ∧ W.cell? ⟨w.heap.size, 2, none⟩ = some (.slice go gl gc))) := fun W kk => by
    have hc := HNb.out.1.step kk
    have hb := HNb.out.2.1.step kk
    exact ⟨hc.cs 2 _ rfl, hc.cs 3 _ rfl, hc.cs 4 _ rfl, hc.cs 5 _ rfl, hc.cs 6 _ rfl, hc.cs 7 _ rfl, hc.cs 8 _ rfl, hc.cs 9 _ rfl, hc.cs 10 _ rfl, hb.cs 2 _ rfl⟩
  have HS0 : Hid (w1.drew.cell? ⟨N, 2, none⟩ = some (.slice z.b2 z.n2 z.c2) ∧ w1.drew.cell? ⟨N, 3, none⟩ = some (.slice z.b3 z.n3 z.c3) ∧ w1.drew.cell? ⟨N, 4, none⟩ = some (.int .i64 z.f4) ∧ w1.drew.cell? ⟨N, 5, none⟩ = some (.bool z.o5) ∧ w1.drew.cell? ⟨N, 6, none⟩ = some (.int .i64 z.i6) ∧ w1.drew.cell? ⟨N, 7, none⟩ = some (.int .i64 z.i7) ∧ w1.drew.cell? ⟨N, 8, none⟩ = some (.int .i64 z.i8) ∧ w1.drew.cell? ⟨N, 9, none⟩ = some (.slice z.b9 z.n9 z.c9) ∧ w1.drew.cell? ⟨N, 10, none⟩ = some (.string z.y10) ∧ w1.drew.cell? ⟨w.heap.size, 2, none⟩ = some (.slice go gl gc)) := HSW.out _ (Kept.refl _ _).drew
  have hS0 := HSW.out w1 (Kept.refl _ _)
  have HK0 : Hid (Kept (fun _ => False) w1 w1.drew) := (Kept.refl _ _).drew
  have HC42 : Hid (∀ W, Kept (fun _ => False) w1 W → Calls Try.prog 42 #[.agg #[.slice z.b2 z.n2 z.c2, .slice z.b3 z.n3 z.c3, .int .i64 z.f4, .bool z.o5], .agg #[.int .i64 z.i6, .int .i64 z.i7, .int .i64 z.i8, .slice z.b9 z.n9 z.c9, .string z.y10], .slice go gl gc] W fun e w2 => ∃ x : Rs, e = .returned (.tuple #[.agg #[.slice x.b2 x.n2 x.c2, .slice x.b3 x.n3 x.c3, .int .i64 x.f4, .bool x.o5], .agg #[.int .i64 x.i6, .int .i64 x.i7, .int .i64 x.i8, .slice x.b9 x.n9 x.c9, .string x.y10], .int .i64 cc]) ∧ Hid (P2 w1 x w2 ∧ Kept (fun _ => False) W w2 ∧ Kept (fun _ => False) w1 w2) ∧ (w2.cell? ⟨N, 2, none⟩ = some (.slice z.b2 z.n2 z.c2) ∧ w2.cell? ⟨N, 3, none⟩ = some (.slice z.b3 z.n3 z.c3) ∧ w2.cell? ⟨N, 4, none⟩ = some (.int .i64 z.f4) ∧ w2.cell? ⟨N, 5, none⟩ = some (.bool z.o5) ∧ w2.cell? ⟨N, 6, none⟩ = some (.int .i64 z.i6) ∧ w2.cell? ⟨N, 7, none⟩ = some (.int .i64 z.i7) ∧ w2.cell? ⟨N, 8, none⟩ = some (.int .i64 z.i8) ∧ w2.cell? ⟨N, 9, none⟩ = some (.slice z.b9 z.n9 z.c9) ∧ w2.cell? ⟨N, 10, none⟩ = some (.string z.y10) ∧ w2.cell? ⟨w.heap.size, 2, none⟩ = some (.slice go gl gc))) := fun W kk => (H2.out w1 W HM1.out kk).mono fun e w2 ⟨x, q1, q2, q3⟩ => ⟨x, q1, ⟨q2, q3, kk.trans q3 (fun _ x => x.elim)⟩, HSW.out _ (kk.trans q3 (fun _ x => x.elim))⟩
  clear H2
  go_wp2_with fail
  clear hS0
  go_cut [7, 8, 9] (fun s7 s8 s9 wx => ∃ X Y x, s7 = .pointer (some ⟨X, 0, none⟩) ∧ s8 = .pointer (some ⟨Y, 0, none⟩) ∧ s9 = .int .i64 cc ∧ Hid (CellsF wx X [.slice x.b2 x.n2 x.c2, .slice x.b3 x.n3 x.c3, .int .i64 x.f4, .bool x.o5] ∧ CellsF wx Y [.int .i64 x.i6, .int .i64 x.i7, .int .i64 x.i8, .slice x.b9 x.n9 x.c9, .string x.y10] ∧ P2 w1 x wx ∧ Kept (fun _ => False) w1 wx ∧ w1.heap.size ≤ X ∧ w1.heap.size ≤ Y))
  case first =>
    rename_i j1 j2 j3 j4
    refine wp_region_held_drew (S := (fun (w' : World) => (w'.cell? ⟨N, 2, none⟩ = some (.slice z.b2 z.n2 z.c2) ∧ w'.cell? ⟨N, 3, none⟩ = some (.slice z.b3 z.n3 z.c3) ∧ w'.cell? ⟨N, 4, none⟩ = some (.int .i64 z.f4) ∧ w'.cell? ⟨N, 5, none⟩ = some (.bool z.o5) ∧ w'.cell? ⟨N, 6, none⟩ = some (.int .i64 z.i6) ∧ w'.cell? ⟨N, 7, none⟩ = some (.int .i64 z.i7) ∧ w'.cell? ⟨N, 8, none⟩ = some (.int .i64 z.i8) ∧ w'.cell? ⟨N, 9, none⟩ = some (.slice z.b9 z.n9 z.c9) ∧ w'.cell? ⟨N, 10, none⟩ = some (.string z.y10) ∧ w'.cell? ⟨w.heap.size, 2, none⟩ = some (.slice go gl gc)))) (by kernel_rfl) HS0.out (fun hHeld => ?_)
    refine wpAnyH_take (i := 0) (oi := { dst := some 42, op := Op.move (Operand.tmp 0), type := 40, pos := "law.go:119", after := #[], guard := none }) (v := .pointer (some ⟨N, 0, none⟩)) rfl (by kernel_rfl) (by kernel_rfl) (by kernel_rfl) (fun _ _ _ h => h) (Or.inl ⟨by rfl, ?_⟩) (by with_reducible assumption) ?_
    · intro wx hSw
      (try dsimp only at hSw)
      first | (go_simp; done) | (go_simp; with_reducible rfl)
    try simp only [Act.put, List.setIfInBounds_toArray, List.set_cons_zero, List.set_cons_succ]
    refine wpAnyH_take (i := 1) (oi := { dst := some 43, op := Op.nilCheck (Operand.tmp 42), type := 0, pos := "law.go:119", after := #[{ on := 0, ground := Ground.data }], guard := none }) (v := .pointer (some ⟨N, 0, none⟩)) rfl (by kernel_rfl) (by kernel_rfl) (by kernel_rfl) (fun _ _ _ h => h) (Or.inl ⟨by rfl, ?_⟩) (by with_reducible assumption) ?_
    · intro wx hSw
      (try dsimp only at hSw)
      first | (go_simp; done) | (go_simp; with_reducible rfl)
    try simp only [Act.put, List.setIfInBounds_toArray, List.set_cons_zero, List.set_cons_succ]
    refine wpAnyH_take (i := 2) (oi := { dst := some 44, op := Op.fieldAddr 46 (Operand.tmp 43) 2, type := 0, pos := "law.go:119", after := #[{ on := 1, ground := Ground.data }], guard := none }) (v := .pointer (some ⟨N, 2, none⟩)) rfl (by kernel_rfl) (by kernel_rfl) (by kernel_rfl) (fun _ _ _ h => h) (Or.inl ⟨by rfl, ?_⟩) (by with_reducible assumption) ?_
    · intro wx hSw
      (try dsimp only at hSw)
      first | (go_simp; done) | (go_simp; with_reducible rfl)
    try simp only [Act.put, List.setIfInBounds_toArray, List.set_cons_zero, List.set_cons_succ]
    refine wpAnyH_take (i := 3) (oi := { dst := some 45, op := Op.load 37 (Operand.tmp 44), type := 37, pos := "law.go:119", after := #[{ on := 2, ground := Ground.data }], guard := none }) (v := .agg #[.slice z.b2 z.n2 z.c2, .slice z.b3 z.n3 z.c3, .int .i64 z.f4, .bool z.o5]) rfl (by kernel_rfl) (by kernel_rfl) (by kernel_rfl) (fun _ _ _ h => h) (Or.inl ⟨by rfl, ?_⟩) (by with_reducible assumption) ?_
    · intro wx hSw
      (try dsimp only at hSw)
      first | (go_simp; done) | (go_simp; with_reducible rfl)
    try simp only [Act.put, List.setIfInBounds_toArray, List.set_cons_zero, List.set_cons_succ]
    refine wpAnyH_take (i := 4) (oi := { dst := some 46, op := Op.move (Operand.tmp 0), type := 40, pos := "law.go:119", after := #[], guard := none }) (v := .pointer (some ⟨N, 0, none⟩)) rfl (by kernel_rfl) (by kernel_rfl) (by kernel_rfl) (fun _ _ _ h => h) (Or.inl ⟨by rfl, ?_⟩) (by with_reducible assumption) ?_
    · intro wx hSw
      (try dsimp only at hSw)
      first | (go_simp; done) | (go_simp; with_reducible rfl)
    try simp only [Act.put, List.setIfInBounds_toArray, List.set_cons_zero, List.set_cons_succ]
    refine wpAnyH_take (i := 5) (oi := { dst := some 47, op := Op.nilCheck (Operand.tmp 46), type := 0, pos := "law.go:119", after := #[{ on := 4, ground := Ground.data }], guard := none }) (v := .pointer (some ⟨N, 0, none⟩)) rfl (by kernel_rfl) (by kernel_rfl) (by kernel_rfl) (fun _ _ _ h => h) (Or.inl ⟨by rfl, ?_⟩) (by with_reducible assumption) ?_
    · intro wx hSw
      (try dsimp only at hSw)
      first | (go_simp; done) | (go_simp; with_reducible rfl)
    try simp only [Act.put, List.setIfInBounds_toArray, List.set_cons_zero, List.set_cons_succ]
    refine wpAnyH_take (i := 6) (oi := { dst := some 48, op := Op.fieldAddr 46 (Operand.tmp 47) 3, type := 0, pos := "law.go:119", after := #[{ on := 5, ground := Ground.data }], guard := none }) (v := .pointer (some ⟨N, 6, none⟩)) rfl (by kernel_rfl) (by kernel_rfl) (by kernel_rfl) (fun _ _ _ h => h) (Or.inl ⟨by rfl, ?_⟩) (by with_reducible assumption) ?_
    · intro wx hSw
      (try dsimp only at hSw)
      first | (go_simp; done) | (go_simp; with_reducible rfl)
    try simp only [Act.put, List.setIfInBounds_toArray, List.set_cons_zero, List.set_cons_succ]
    refine wpAnyH_take (i := 7) (oi := { dst := some 49, op := Op.load 44 (Operand.tmp 48), type := 44, pos := "law.go:119", after := #[{ on := 6, ground := Ground.data }], guard := none }) (v := .agg #[.int .i64 z.i6, .int .i64 z.i7, .int .i64 z.i8, .slice z.b9 z.n9 z.c9, .string z.y10]) rfl (by kernel_rfl) (by kernel_rfl) (by kernel_rfl) (fun _ _ _ h => h) (Or.inl ⟨by rfl, ?_⟩) (by with_reducible assumption) ?_
    · intro wx hSw
      (try dsimp only at hSw)
      first | (go_simp; done) | (go_simp; with_reducible rfl)
    try simp only [Act.put, List.setIfInBounds_toArray, List.set_cons_zero, List.set_cons_succ]
    refine wpAnyH_take (i := 8) (oi := { dst := some 50, op := Op.fieldAddr 53 (Operand.tmp 3) 2, type := 0, pos := "law.go:119", after := #[], guard := none }) (v := .pointer (some ⟨w.heap.size, 2, none⟩)) rfl (by kernel_rfl) (by kernel_rfl) (by kernel_rfl) (fun _ _ _ h => h) (Or.inl ⟨by rfl, ?_⟩) (by with_reducible assumption) ?_
    · intro wx hSw
      (try dsimp only at hSw)
      first | (go_simp; done) | (go_simp; with_reducible rfl)
    try simp only [Act.put, List.setIfInBounds_toArray, List.set_cons_zero, List.set_cons_succ]
    refine wpAnyH_take (i := 9) (oi := { dst := some 51, op := Op.load 26 (Operand.tmp 50), type := 26, pos := "law.go:119", after := #[{ on := 8, ground := Ground.data }], guard := none }) (v := .slice go gl gc) rfl (by kernel_rfl) (by kernel_rfl) (by kernel_rfl) (fun _ _ _ h => h) (Or.inl ⟨by rfl, ?_⟩) (by with_reducible assumption) ?_
    · intro wx hSw
      (try dsimp only at hSw)
      first | (go_simp; done) | (go_simp; with_reducible rfl)
    try simp only [Act.put, List.setIfInBounds_toArray, List.set_cons_zero, List.set_cons_succ]
    refine wpAnyH_ready (rs := [10, 15, 16]) (by kernel_rfl) (by simp) ?_
    refine AllReadyH.cons rfl (fun K hK => ?_) (AllReadyH.cons rfl (fun K hK => ?_) (AllReadyH.cons rfl (fun K hK => ?_) AllReadyH.nil))
    · skip
      go_simp
      refine Calls.mono (HC42.out _ HK0.out) ?_
      rintro e V1 ⟨x, rfl, HM3, hS3⟩
      have HK1 : Hid (Kept (fun _ => False) w1 V1) := HM3.out.2.2
      have HS1 : Hid (V1.cell? ⟨N, 2, none⟩ = some (.slice z.b2 z.n2 z.c2) ∧ V1.cell? ⟨N, 3, none⟩ = some (.slice z.b3 z.n3 z.c3) ∧ V1.cell? ⟨N, 4, none⟩ = some (.int .i64 z.f4) ∧ V1.cell? ⟨N, 5, none⟩ = some (.bool z.o5) ∧ V1.cell? ⟨N, 6, none⟩ = some (.int .i64 z.i6) ∧ V1.cell? ⟨N, 7, none⟩ = some (.int .i64 z.i7) ∧ V1.cell? ⟨N, 8, none⟩ = some (.int .i64 z.i8) ∧ V1.cell? ⟨N, 9, none⟩ = some (.slice z.b9 z.n9 z.c9) ∧ V1.cell? ⟨N, 10, none⟩ = some (.string z.y10) ∧ V1.cell? ⟨w.heap.size, 2, none⟩ = some (.slice go gl gc)) := hS3
      have HP1 : Hid (P2 w1 x V1) := HM3.out.1
      clear HM3 hS3
      refine hK.out _ _ HS1.out (fun hHeld => ?_)
      clear hK K
      try simp only [Act.put, List.setIfInBounds_toArray, List.set_cons_zero, List.set_cons_succ]
      refine wpAnyH_take (i := 11) (oi := { dst := some 41, op := Op.move (Operand.tmp 52), type := 92, pos := "law.go:119", after := #[{ on := 10, ground := Ground.data }], guard := none }) (v := .tuple #[.agg #[.slice x.b2 x.n2 x.c2, .slice x.b3 x.n3 x.c3, .int .i64 x.f4, .bool x.o5], .agg #[.int .i64 x.i6, .int .i64 x.i7, .int .i64 x.i8, .slice x.b9 x.n9 x.c9, .string x.y10], .int .i64 cc]) rfl (by kernel_rfl) (by kernel_rfl) (by kernel_rfl) (fun _ _ _ h => h) (Or.inl ⟨by rfl, ?_⟩) (by with_reducible assumption) ?_
      · intro wx hSw
        (try dsimp only at hSw)
        first | (go_simp; done) | (go_simp; with_reducible rfl)
      try simp only [Act.put, List.setIfInBounds_toArray, List.set_cons_zero, List.set_cons_succ]
      refine wpAnyH_take (i := 12) (oi := { dst := some 53, op := Op.extract (Operand.tmp 41) 0, type := 37, pos := "law.go:119", after := #[{ on := 11, ground := Ground.data }], guard := none }) (v := .agg #[.slice x.b2 x.n2 x.c2, .slice x.b3 x.n3 x.c3, .int .i64 x.f4, .bool x.o5]) rfl (by kernel_rfl) (by kernel_rfl) (by kernel_rfl) (fun _ _ _ h => h) (Or.inl ⟨by rfl, ?_⟩) (by with_reducible assumption) ?_
      · intro wx hSw
        (try dsimp only at hSw)
        first | (go_simp; done) | (go_simp; with_reducible rfl)
      try simp only [Act.put, List.setIfInBounds_toArray, List.set_cons_zero, List.set_cons_succ]
      refine wpAnyH_take (i := 13) (oi := { dst := some 54, op := Op.extract (Operand.tmp 41) 1, type := 44, pos := "law.go:119", after := #[{ on := 11, ground := Ground.data }, { on := 17, ground := Ground.gcOnly Departure.lateStores }], guard := none }) (v := .agg #[.int .i64 x.i6, .int .i64 x.i7, .int .i64 x.i8, .slice x.b9 x.n9 x.c9, .string x.y10]) rfl (by kernel_rfl) (by kernel_rfl) (by kernel_rfl) (fun _ _ _ h => h) (Or.inl ⟨by rfl, ?_⟩) (by with_reducible assumption) ?_
      · intro wx hSw
        (try dsimp only at hSw)
        first | (go_simp; done) | (go_simp; with_reducible rfl)
      try simp only [Act.put, List.setIfInBounds_toArray, List.set_cons_zero, List.set_cons_succ]
      refine wpAnyH_take (i := 14) (oi := { dst := some 55, op := Op.extract (Operand.tmp 41) 2, type := 23, pos := "law.go:119", after := #[{ on := 11, ground := Ground.data }, { on := 18, ground := Ground.gcOnly Departure.lateStores }], guard := none }) (v := .int .i64 cc) rfl (by kernel_rfl) (by kernel_rfl) (by kernel_rfl) (fun _ _ _ h => h) (Or.inl ⟨by rfl, ?_⟩) (by with_reducible assumption) ?_
      · intro wx hSw
        (try dsimp only at hSw)
        first | (go_simp; done) | (go_simp; with_reducible rfl)
      try simp only [Act.put, List.setIfInBounds_toArray, List.set_cons_zero, List.set_cons_succ]
      refine wpAnyH_ready (rs := [15, 16]) (by kernel_rfl) (by simp) ?_
      refine AllReadyH.cons rfl (fun K hK => ?_) (AllReadyH.cons rfl (fun K hK => ?_) AllReadyH.nil)
      · skip
        go_simp
        have kA : Kept (fun _ => False) V1 (V1.alloc (.cells #[.slice none 0 0, .slice none 0 0, .int .i64 0, .bool false] 37)) := (Kept.refl _ _).alloc _
        have cA : CellsF (V1.alloc (.cells #[.slice none 0 0, .slice none 0 0, .int .i64 0, .bool false] 37)) V1.heap.size [.slice none 0 0, .slice none 0 0, .int .i64 0, .bool false] := CellsF.new V1 [.slice none 0 0, .slice none 0 0, .int .i64 0, .bool false] 37 (by simp)
        have oA : Other (V1.alloc (.cells #[.slice none 0 0, .slice none 0 0, .int .i64 0, .bool false] 37)) V1.heap.size := ⟨_, 37, (0, 0), heap_alloc_new V1 _, by decide, by decide⟩
        obtain ⟨V2, hV⟩ : ∃ V, V1.alloc (.cells #[.slice none 0 0, .slice none 0 0, .int .i64 0, .bool false] 37) = V := ⟨_, rfl⟩
        obtain ⟨X, hX⟩ : ∃ X, V1.heap.size = X := ⟨_, rfl⟩
        rw [hV] at kA cA oA ⊢
        have hl : w1.heap.size ≤ V1.heap.size := HK1.out.size
        rw [hX] at cA oA hl ⊢
        have HK2 : Hid (Kept (fun _ => False) w1 V2) := HK1.out.trans kA (fun _ x => x.elim)
        have HS2 : Hid (V2.cell? ⟨N, 2, none⟩ = some (.slice z.b2 z.n2 z.c2) ∧ V2.cell? ⟨N, 3, none⟩ = some (.slice z.b3 z.n3 z.c3) ∧ V2.cell? ⟨N, 4, none⟩ = some (.int .i64 z.f4) ∧ V2.cell? ⟨N, 5, none⟩ = some (.bool z.o5) ∧ V2.cell? ⟨N, 6, none⟩ = some (.int .i64 z.i6) ∧ V2.cell? ⟨N, 7, none⟩ = some (.int .i64 z.i7) ∧ V2.cell? ⟨N, 8, none⟩ = some (.int .i64 z.i8) ∧ V2.cell? ⟨N, 9, none⟩ = some (.slice z.b9 z.n9 z.c9) ∧ V2.cell? ⟨N, 10, none⟩ = some (.string z.y10) ∧ V2.cell? ⟨w.heap.size, 2, none⟩ = some (.slice go gl gc)) := HSW.out _ HK2.out
        have H72 : Hid (CellsF V2 X [.slice none 0 0, .slice none 0 0, .int .i64 0, .bool false] ∧ Other V2 X ∧ w1.heap.size ≤ X) := ⟨cA, oA, hl⟩
        have HP2 : Hid (P2 w1 x V2) := HST.out _ _ _ _ _ HP1.out kA (fun _ x => x.elim)
        clear kA cA oA hl hX hV 
        refine hK.out _ _ HS2.out (fun hHeld => ?_)
        clear hK K
        try simp only [Act.put, List.setIfInBounds_toArray, List.set_cons_zero, List.set_cons_succ]
        refine wpAnyH_ready (rs := [16]) (by kernel_rfl) (by simp) ?_
        refine AllReadyH.cons rfl (fun K hK => ?_) AllReadyH.nil
        go_simp
        have kA : Kept (fun _ => False) V2 (V2.alloc (.cells #[.int .i64 0, .int .i64 0, .int .i64 0, .slice none 0 0, .string ⟨#[]⟩] 44)) := (Kept.refl _ _).alloc _
        have cA : CellsF (V2.alloc (.cells #[.int .i64 0, .int .i64 0, .int .i64 0, .slice none 0 0, .string ⟨#[]⟩] 44)) V2.heap.size [.int .i64 0, .int .i64 0, .int .i64 0, .slice none 0 0, .string ⟨#[]⟩] := CellsF.new V2 [.int .i64 0, .int .i64 0, .int .i64 0, .slice none 0 0, .string ⟨#[]⟩] 44 (by simp)
        have oA : Other (V2.alloc (.cells #[.int .i64 0, .int .i64 0, .int .i64 0, .slice none 0 0, .string ⟨#[]⟩] 44)) V2.heap.size := ⟨_, 44, (0, 0), heap_alloc_new V2 _, by decide, by decide⟩
        obtain ⟨V3, hV⟩ : ∃ V, V2.alloc (.cells #[.int .i64 0, .int .i64 0, .int .i64 0, .slice none 0 0, .string ⟨#[]⟩] 44) = V := ⟨_, rfl⟩
        obtain ⟨Y, hX⟩ : ∃ X, V2.heap.size = X := ⟨_, rfl⟩
        rw [hV] at kA cA oA ⊢
        have hl : w1.heap.size ≤ V2.heap.size := HK2.out.size
        have hne : X < V2.heap.size := H72.out.1.lt
        rw [hX] at cA oA hl hne ⊢
        have HK3 : Hid (Kept (fun _ => False) w1 V3) := HK2.out.trans kA (fun _ x => x.elim)
        have HS3 : Hid (V3.cell? ⟨N, 2, none⟩ = some (.slice z.b2 z.n2 z.c2) ∧ V3.cell? ⟨N, 3, none⟩ = some (.slice z.b3 z.n3 z.c3) ∧ V3.cell? ⟨N, 4, none⟩ = some (.int .i64 z.f4) ∧ V3.cell? ⟨N, 5, none⟩ = some (.bool z.o5) ∧ V3.cell? ⟨N, 6, none⟩ = some (.int .i64 z.i6) ∧ V3.cell? ⟨N, 7, none⟩ = some (.int .i64 z.i7) ∧ V3.cell? ⟨N, 8, none⟩ = some (.int .i64 z.i8) ∧ V3.cell? ⟨N, 9, none⟩ = some (.slice z.b9 z.n9 z.c9) ∧ V3.cell? ⟨N, 10, none⟩ = some (.string z.y10) ∧ V3.cell? ⟨w.heap.size, 2, none⟩ = some (.slice go gl gc)) := HSW.out _ HK3.out
        have H83 : Hid (CellsF V3 Y [.int .i64 0, .int .i64 0, .int .i64 0, .slice none 0 0, .string ⟨#[]⟩] ∧ Other V3 Y ∧ w1.heap.size ≤ Y) := ⟨cA, oA, hl⟩
        have H73 : Hid (CellsF V3 X [.slice none 0 0, .slice none 0 0, .int .i64 0, .bool false] ∧ Other V3 X ∧ w1.heap.size ≤ X) := ⟨H72.out.1.step kA, H72.out.2.1.kept kA, H72.out.2.2⟩
        have HXY : Hid (X ≠ Y) := by intro e; omega
        have HP3 : Hid (P2 w1 x V3) := HST.out _ _ _ _ _ HP2.out kA (fun _ x => x.elim)
        clear kA cA oA hl hX hV hne 
        refine hK.out _ _ HS3.out (fun hHeld => ?_)
        clear hK K
        try simp only [Act.put, List.setIfInBounds_toArray, List.set_cons_zero, List.set_cons_succ]
        refine wpAnyH_ready (rs := [17]) (by kernel_rfl) (by simp) ?_
        refine AllReadyH.cons rfl (fun K hK => ?_) AllReadyH.nil
        have u0 := H73.out.1.cs 0 _ rfl
        have u1 := H73.out.1.cs 1 _ rfl
        have u2 := H73.out.1.cs 2 _ rfl
        have u3 := H73.out.1.cs 3 _ rfl
        have uf := H73.out.1.fz
        go_simp
        have kA : Kept (fun i => i = X) V3 ((((V3.setCell ⟨X, 0, none⟩ (.slice x.b2 x.n2 x.c2)).setCell ⟨X, 1, none⟩ (.slice x.b3 x.n3 x.c3)).setCell ⟨X, 2, none⟩ (.int .i64 x.f4)).setCell ⟨X, 3, none⟩ (.bool x.o5)) := set4_kept V3 X _ _ _ _ 
        have cA : CellsF ((((V3.setCell ⟨X, 0, none⟩ (.slice x.b2 x.n2 x.c2)).setCell ⟨X, 1, none⟩ (.slice x.b3 x.n3 x.c3)).setCell ⟨X, 2, none⟩ (.int .i64 x.f4)).setCell ⟨X, 3, none⟩ (.bool x.o5)) X [.slice x.b2 x.n2 x.c2, .slice x.b3 x.n3 x.c3, .int .i64 x.f4, .bool x.o5] := H73.out.1.four rfl _ _ _ _ 
        obtain ⟨V4, hV⟩ : ∃ V, ((((V3.setCell ⟨X, 0, none⟩ (.slice x.b2 x.n2 x.c2)).setCell ⟨X, 1, none⟩ (.slice x.b3 x.n3 x.c3)).setCell ⟨X, 2, none⟩ (.int .i64 x.f4)).setCell ⟨X, 3, none⟩ (.bool x.o5)) = V := ⟨_, rfl⟩
        rw [hV] at kA cA ⊢
        have HK4 : Hid (Kept (fun _ => False) w1 V4) := HK3.out.trans kA (fun i hi => .inr (by rw [hi]; exact H73.out.2.2))
        have HS4 : Hid (V4.cell? ⟨N, 2, none⟩ = some (.slice z.b2 z.n2 z.c2) ∧ V4.cell? ⟨N, 3, none⟩ = some (.slice z.b3 z.n3 z.c3) ∧ V4.cell? ⟨N, 4, none⟩ = some (.int .i64 z.f4) ∧ V4.cell? ⟨N, 5, none⟩ = some (.bool z.o5) ∧ V4.cell? ⟨N, 6, none⟩ = some (.int .i64 z.i6) ∧ V4.cell? ⟨N, 7, none⟩ = some (.int .i64 z.i7) ∧ V4.cell? ⟨N, 8, none⟩ = some (.int .i64 z.i8) ∧ V4.cell? ⟨N, 9, none⟩ = some (.slice z.b9 z.n9 z.c9) ∧ V4.cell? ⟨N, 10, none⟩ = some (.string z.y10) ∧ V4.cell? ⟨w.heap.size, 2, none⟩ = some (.slice go gl gc)) := HSW.out _ HK4.out
        have H74 : Hid (CellsF V4 X [.slice x.b2 x.n2 x.c2, .slice x.b3 x.n3 x.c3, .int .i64 x.f4, .bool x.o5] ∧ w1.heap.size ≤ X) := ⟨cA, H73.out.2.2⟩
        have HP4 : Hid (P2 w1 x V4) := HST.out _ _ _ _ _ HP3.out kA (fun i hi => ⟨by rw [hi]; exact H73.out.2.2, fun _ => by rw [hi]; exact H73.out.2.1⟩)
        have hob : V4.heap[Y]? = V3.heap[Y]? := kA.block Y H83.out.1.lt (fun e => HXY.out e.symm)
        have H84 : Hid (CellsF V4 Y [.int .i64 0, .int .i64 0, .int .i64 0, .slice none 0 0, .string ⟨#[]⟩] ∧ Other V4 Y ∧ w1.heap.size ≤ Y) := ⟨H83.out.1.far hob, by obtain ⟨cur, t, fz, e, q⟩ := H83.out.2.1; exact ⟨cur, t, fz, hob.trans e, q⟩, H83.out.2.2⟩
        clear hob
        clear kA cA hV uf u0 u1 u2 u3
        refine hK.out _ _ HS4.out (fun hHeld => ?_)
        clear hK K
        try simp only [Act.put, List.setIfInBounds_toArray, List.set_cons_zero, List.set_cons_succ]
        refine wpAnyH_ready (rs := [18]) (by kernel_rfl) (by simp) ?_
        refine AllReadyH.cons rfl (fun K hK => ?_) AllReadyH.nil
        have u0 := H84.out.1.cs 0 _ rfl
        have u1 := H84.out.1.cs 1 _ rfl
        have u2 := H84.out.1.cs 2 _ rfl
        have u3 := H84.out.1.cs 3 _ rfl
        have u4 := H84.out.1.cs 4 _ rfl
        have uf := H84.out.1.fz
        go_simp
        have kA : Kept (fun i => i = Y) V4 (((((V4.setCell ⟨Y, 0, none⟩ (.int .i64 x.i6)).setCell ⟨Y, 1, none⟩ (.int .i64 x.i7)).setCell ⟨Y, 2, none⟩ (.int .i64 x.i8)).setCell ⟨Y, 3, none⟩ (.slice x.b9 x.n9 x.c9)).setCell ⟨Y, 4, none⟩ (.string x.y10)) := set5_kept V4 Y _ _ _ _ _ 
        have cA : CellsF (((((V4.setCell ⟨Y, 0, none⟩ (.int .i64 x.i6)).setCell ⟨Y, 1, none⟩ (.int .i64 x.i7)).setCell ⟨Y, 2, none⟩ (.int .i64 x.i8)).setCell ⟨Y, 3, none⟩ (.slice x.b9 x.n9 x.c9)).setCell ⟨Y, 4, none⟩ (.string x.y10)) Y [.int .i64 x.i6, .int .i64 x.i7, .int .i64 x.i8, .slice x.b9 x.n9 x.c9, .string x.y10] := H84.out.1.five rfl _ _ _ _ _ 
        obtain ⟨V5, hV⟩ : ∃ V, (((((V4.setCell ⟨Y, 0, none⟩ (.int .i64 x.i6)).setCell ⟨Y, 1, none⟩ (.int .i64 x.i7)).setCell ⟨Y, 2, none⟩ (.int .i64 x.i8)).setCell ⟨Y, 3, none⟩ (.slice x.b9 x.n9 x.c9)).setCell ⟨Y, 4, none⟩ (.string x.y10)) = V := ⟨_, rfl⟩
        rw [hV] at kA cA ⊢
        have HK5 : Hid (Kept (fun _ => False) w1 V5) := HK4.out.trans kA (fun i hi => .inr (by rw [hi]; exact H84.out.2.2))
        have HS5 : Hid (V5.cell? ⟨N, 2, none⟩ = some (.slice z.b2 z.n2 z.c2) ∧ V5.cell? ⟨N, 3, none⟩ = some (.slice z.b3 z.n3 z.c3) ∧ V5.cell? ⟨N, 4, none⟩ = some (.int .i64 z.f4) ∧ V5.cell? ⟨N, 5, none⟩ = some (.bool z.o5) ∧ V5.cell? ⟨N, 6, none⟩ = some (.int .i64 z.i6) ∧ V5.cell? ⟨N, 7, none⟩ = some (.int .i64 z.i7) ∧ V5.cell? ⟨N, 8, none⟩ = some (.int .i64 z.i8) ∧ V5.cell? ⟨N, 9, none⟩ = some (.slice z.b9 z.n9 z.c9) ∧ V5.cell? ⟨N, 10, none⟩ = some (.string z.y10) ∧ V5.cell? ⟨w.heap.size, 2, none⟩ = some (.slice go gl gc)) := HSW.out _ HK5.out
        have H85 : Hid (CellsF V5 Y [.int .i64 x.i6, .int .i64 x.i7, .int .i64 x.i8, .slice x.b9 x.n9 x.c9, .string x.y10] ∧ w1.heap.size ≤ Y) := ⟨cA, H84.out.2.2⟩
        have HP5 : Hid (P2 w1 x V5) := HST.out _ _ _ _ _ HP4.out kA (fun i hi => ⟨by rw [hi]; exact H84.out.2.2, fun _ => by rw [hi]; exact H84.out.2.1⟩)
        have H75 : Hid (CellsF V5 X [.slice x.b2 x.n2 x.c2, .slice x.b3 x.n3 x.c3, .int .i64 x.f4, .bool x.o5] ∧ w1.heap.size ≤ X) := ⟨H74.out.1.kept kA (fun e => HXY.out e), H74.out.2⟩
        clear kA cA hV uf u0 u1 u2 u3 u4
        refine hK.out _ _ HS5.out (fun hHeld => ?_)
        clear hK K
        try simp only [Act.put, List.setIfInBounds_toArray, List.set_cons_zero, List.set_cons_succ]
        refine wpAnyH_take (i := 19) (oi := { dst := some 9, op := Op.assign (Operand.tmp 55), type := 23, pos := "law.go:119", after := #[{ on := 14, ground := Ground.data }, { on := 18, ground := Ground.chain }, { on := 0, ground := Ground.phase }, { on := 1, ground := Ground.phase }, { on := 2, ground := Ground.phase }, { on := 3, ground := Ground.phase }, { on := 4, ground := Ground.phase }, { on := 5, ground := Ground.phase }, { on := 6, ground := Ground.phase }, { on := 7, ground := Ground.phase }, { on := 8, ground := Ground.phase }, { on := 9, ground := Ground.phase }, { on := 10, ground := Ground.phase }, { on := 11, ground := Ground.phase }, { on := 12, ground := Ground.phase }, { on := 13, ground := Ground.phase }, { on := 14, ground := Ground.phase }, { on := 15, ground := Ground.phase }, { on := 16, ground := Ground.phase }, { on := 17, ground := Ground.phase }, { on := 18, ground := Ground.phase }], guard := none }) (v := .int .i64 cc) rfl (by kernel_rfl) (by kernel_rfl) (by kernel_rfl) (fun _ _ _ h => h) (Or.inl ⟨by rfl, ?_⟩) (by with_reducible assumption) ?_
        · intro wx hSw
          (try dsimp only at hSw)
          first | (go_simp; done) | (go_simp; with_reducible rfl)
        try simp only [Act.put, List.setIfInBounds_toArray, List.set_cons_zero, List.set_cons_succ]
        refine wpAnyH_done (by kernel_rfl) ?_ _
        try simp only [Exit.then]
        refine j4 _ _ ?_
        refine j3 _ _ ?_
        (repeat apply Exists.intro)
        refine ⟨?_, rfl⟩
        exact ⟨X, Y, x, rfl, rfl, rfl, H75.out.1, H85.out.1, HP5.out, HK5.out, H75.out.2, H85.out.2⟩
      · skip
        go_simp
        have kA : Kept (fun _ => False) V1 (V1.alloc (.cells #[.int .i64 0, .int .i64 0, .int .i64 0, .slice none 0 0, .string ⟨#[]⟩] 44)) := (Kept.refl _ _).alloc _
        have cA : CellsF (V1.alloc (.cells #[.int .i64 0, .int .i64 0, .int .i64 0, .slice none 0 0, .string ⟨#[]⟩] 44)) V1.heap.size [.int .i64 0, .int .i64 0, .int .i64 0, .slice none 0 0, .string ⟨#[]⟩] := CellsF.new V1 [.int .i64 0, .int .i64 0, .int .i64 0, .slice none 0 0, .string ⟨#[]⟩] 44 (by simp)
        have oA : Other (V1.alloc (.cells #[.int .i64 0, .int .i64 0, .int .i64 0, .slice none 0 0, .string ⟨#[]⟩] 44)) V1.heap.size := ⟨_, 44, (0, 0), heap_alloc_new V1 _, by decide, by decide⟩
        obtain ⟨V2, hV⟩ : ∃ V, V1.alloc (.cells #[.int .i64 0, .int .i64 0, .int .i64 0, .slice none 0 0, .string ⟨#[]⟩] 44) = V := ⟨_, rfl⟩
        obtain ⟨Y, hX⟩ : ∃ X, V1.heap.size = X := ⟨_, rfl⟩
        rw [hV] at kA cA oA ⊢
        have hl : w1.heap.size ≤ V1.heap.size := HK1.out.size
        rw [hX] at cA oA hl ⊢
        have HK2 : Hid (Kept (fun _ => False) w1 V2) := HK1.out.trans kA (fun _ x => x.elim)
        have HS2 : Hid (V2.cell? ⟨N, 2, none⟩ = some (.slice z.b2 z.n2 z.c2) ∧ V2.cell? ⟨N, 3, none⟩ = some (.slice z.b3 z.n3 z.c3) ∧ V2.cell? ⟨N, 4, none⟩ = some (.int .i64 z.f4) ∧ V2.cell? ⟨N, 5, none⟩ = some (.bool z.o5) ∧ V2.cell? ⟨N, 6, none⟩ = some (.int .i64 z.i6) ∧ V2.cell? ⟨N, 7, none⟩ = some (.int .i64 z.i7) ∧ V2.cell? ⟨N, 8, none⟩ = some (.int .i64 z.i8) ∧ V2.cell? ⟨N, 9, none⟩ = some (.slice z.b9 z.n9 z.c9) ∧ V2.cell? ⟨N, 10, none⟩ = some (.string z.y10) ∧ V2.cell? ⟨w.heap.size, 2, none⟩ = some (.slice go gl gc)) := HSW.out _ HK2.out
        have H82 : Hid (CellsF V2 Y [.int .i64 0, .int .i64 0, .int .i64 0, .slice none 0 0, .string ⟨#[]⟩] ∧ Other V2 Y ∧ w1.heap.size ≤ Y) := ⟨cA, oA, hl⟩
        have HP2 : Hid (P2 w1 x V2) := HST.out _ _ _ _ _ HP1.out kA (fun _ x => x.elim)
        clear kA cA oA hl hX hV 
        refine hK.out _ _ HS2.out (fun hHeld => ?_)
        clear hK K
        try simp only [Act.put, List.setIfInBounds_toArray, List.set_cons_zero, List.set_cons_succ]
        refine wpAnyH_ready (rs := [15]) (by kernel_rfl) (by simp) ?_
        refine AllReadyH.cons rfl (fun K hK => ?_) AllReadyH.nil
        go_simp
        have kA : Kept (fun _ => False) V2 (V2.alloc (.cells #[.slice none 0 0, .slice none 0 0, .int .i64 0, .bool false] 37)) := (Kept.refl _ _).alloc _
        have cA : CellsF (V2.alloc (.cells #[.slice none 0 0, .slice none 0 0, .int .i64 0, .bool false] 37)) V2.heap.size [.slice none 0 0, .slice none 0 0, .int .i64 0, .bool false] := CellsF.new V2 [.slice none 0 0, .slice none 0 0, .int .i64 0, .bool false] 37 (by simp)
        have oA : Other (V2.alloc (.cells #[.slice none 0 0, .slice none 0 0, .int .i64 0, .bool false] 37)) V2.heap.size := ⟨_, 37, (0, 0), heap_alloc_new V2 _, by decide, by decide⟩
        obtain ⟨V3, hV⟩ : ∃ V, V2.alloc (.cells #[.slice none 0 0, .slice none 0 0, .int .i64 0, .bool false] 37) = V := ⟨_, rfl⟩
        obtain ⟨X, hX⟩ : ∃ X, V2.heap.size = X := ⟨_, rfl⟩
        rw [hV] at kA cA oA ⊢
        have hl : w1.heap.size ≤ V2.heap.size := HK2.out.size
        have hne : Y < V2.heap.size := H82.out.1.lt
        rw [hX] at cA oA hl hne ⊢
        have HK3 : Hid (Kept (fun _ => False) w1 V3) := HK2.out.trans kA (fun _ x => x.elim)
        have HS3 : Hid (V3.cell? ⟨N, 2, none⟩ = some (.slice z.b2 z.n2 z.c2) ∧ V3.cell? ⟨N, 3, none⟩ = some (.slice z.b3 z.n3 z.c3) ∧ V3.cell? ⟨N, 4, none⟩ = some (.int .i64 z.f4) ∧ V3.cell? ⟨N, 5, none⟩ = some (.bool z.o5) ∧ V3.cell? ⟨N, 6, none⟩ = some (.int .i64 z.i6) ∧ V3.cell? ⟨N, 7, none⟩ = some (.int .i64 z.i7) ∧ V3.cell? ⟨N, 8, none⟩ = some (.int .i64 z.i8) ∧ V3.cell? ⟨N, 9, none⟩ = some (.slice z.b9 z.n9 z.c9) ∧ V3.cell? ⟨N, 10, none⟩ = some (.string z.y10) ∧ V3.cell? ⟨w.heap.size, 2, none⟩ = some (.slice go gl gc)) := HSW.out _ HK3.out
        have H73 : Hid (CellsF V3 X [.slice none 0 0, .slice none 0 0, .int .i64 0, .bool false] ∧ Other V3 X ∧ w1.heap.size ≤ X) := ⟨cA, oA, hl⟩
        have H83 : Hid (CellsF V3 Y [.int .i64 0, .int .i64 0, .int .i64 0, .slice none 0 0, .string ⟨#[]⟩] ∧ Other V3 Y ∧ w1.heap.size ≤ Y) := ⟨H82.out.1.step kA, H82.out.2.1.kept kA, H82.out.2.2⟩
        have HXY : Hid (X ≠ Y) := by intro e; omega
        have HP3 : Hid (P2 w1 x V3) := HST.out _ _ _ _ _ HP2.out kA (fun _ x => x.elim)
        clear kA cA oA hl hX hV hne 
        refine hK.out _ _ HS3.out (fun hHeld => ?_)
        clear hK K
        try simp only [Act.put, List.setIfInBounds_toArray, List.set_cons_zero, List.set_cons_succ]
        refine wpAnyH_ready (rs := [17]) (by kernel_rfl) (by simp) ?_
        refine AllReadyH.cons rfl (fun K hK => ?_) AllReadyH.nil
        have u0 := H73.out.1.cs 0 _ rfl
        have u1 := H73.out.1.cs 1 _ rfl
        have u2 := H73.out.1.cs 2 _ rfl
        have u3 := H73.out.1.cs 3 _ rfl
        have uf := H73.out.1.fz
        go_simp
        have kA : Kept (fun i => i = X) V3 ((((V3.setCell ⟨X, 0, none⟩ (.slice x.b2 x.n2 x.c2)).setCell ⟨X, 1, none⟩ (.slice x.b3 x.n3 x.c3)).setCell ⟨X, 2, none⟩ (.int .i64 x.f4)).setCell ⟨X, 3, none⟩ (.bool x.o5)) := set4_kept V3 X _ _ _ _ 
        have cA : CellsF ((((V3.setCell ⟨X, 0, none⟩ (.slice x.b2 x.n2 x.c2)).setCell ⟨X, 1, none⟩ (.slice x.b3 x.n3 x.c3)).setCell ⟨X, 2, none⟩ (.int .i64 x.f4)).setCell ⟨X, 3, none⟩ (.bool x.o5)) X [.slice x.b2 x.n2 x.c2, .slice x.b3 x.n3 x.c3, .int .i64 x.f4, .bool x.o5] := H73.out.1.four rfl _ _ _ _ 
        obtain ⟨V4, hV⟩ : ∃ V, ((((V3.setCell ⟨X, 0, none⟩ (.slice x.b2 x.n2 x.c2)).setCell ⟨X, 1, none⟩ (.slice x.b3 x.n3 x.c3)).setCell ⟨X, 2, none⟩ (.int .i64 x.f4)).setCell ⟨X, 3, none⟩ (.bool x.o5)) = V := ⟨_, rfl⟩
        rw [hV] at kA cA ⊢
        have HK4 : Hid (Kept (fun _ => False) w1 V4) := HK3.out.trans kA (fun i hi => .inr (by rw [hi]; exact H73.out.2.2))
        have HS4 : Hid (V4.cell? ⟨N, 2, none⟩ = some (.slice z.b2 z.n2 z.c2) ∧ V4.cell? ⟨N, 3, none⟩ = some (.slice z.b3 z.n3 z.c3) ∧ V4.cell? ⟨N, 4, none⟩ = some (.int .i64 z.f4) ∧ V4.cell? ⟨N, 5, none⟩ = some (.bool z.o5) ∧ V4.cell? ⟨N, 6, none⟩ = some (.int .i64 z.i6) ∧ V4.cell? ⟨N, 7, none⟩ = some (.int .i64 z.i7) ∧ V4.cell? ⟨N, 8, none⟩ = some (.int .i64 z.i8) ∧ V4.cell? ⟨N, 9, none⟩ = some (.slice z.b9 z.n9 z.c9) ∧ V4.cell? ⟨N, 10, none⟩ = some (.string z.y10) ∧ V4.cell? ⟨w.heap.size, 2, none⟩ = some (.slice go gl gc)) := HSW.out _ HK4.out
        have H74 : Hid (CellsF V4 X [.slice x.b2 x.n2 x.c2, .slice x.b3 x.n3 x.c3, .int .i64 x.f4, .bool x.o5] ∧ w1.heap.size ≤ X) := ⟨cA, H73.out.2.2⟩
        have HP4 : Hid (P2 w1 x V4) := HST.out _ _ _ _ _ HP3.out kA (fun i hi => ⟨by rw [hi]; exact H73.out.2.2, fun _ => by rw [hi]; exact H73.out.2.1⟩)
        have hob : V4.heap[Y]? = V3.heap[Y]? := kA.block Y H83.out.1.lt (fun e => HXY.out e.symm)
        have H84 : Hid (CellsF V4 Y [.int .i64 0, .int .i64 0, .int .i64 0, .slice none 0 0, .string ⟨#[]⟩] ∧ Other V4 Y ∧ w1.heap.size ≤ Y) := ⟨H83.out.1.far hob, by obtain ⟨cur, t, fz, e, q⟩ := H83.out.2.1; exact ⟨cur, t, fz, hob.trans e, q⟩, H83.out.2.2⟩
        clear hob
        clear kA cA hV uf u0 u1 u2 u3
        refine hK.out _ _ HS4.out (fun hHeld => ?_)
        clear hK K
        try simp only [Act.put, List.setIfInBounds_toArray, List.set_cons_zero, List.set_cons_succ]
        refine wpAnyH_ready (rs := [18]) (by kernel_rfl) (by simp) ?_
        refine AllReadyH.cons rfl (fun K hK => ?_) AllReadyH.nil
        have u0 := H84.out.1.cs 0 _ rfl
        have u1 := H84.out.1.cs 1 _ rfl
        have u2 := H84.out.1.cs 2 _ rfl
        have u3 := H84.out.1.cs 3 _ rfl
        have u4 := H84.out.1.cs 4 _ rfl
        have uf := H84.out.1.fz
        go_simp
        have kA : Kept (fun i => i = Y) V4 (((((V4.setCell ⟨Y, 0, none⟩ (.int .i64 x.i6)).setCell ⟨Y, 1, none⟩ (.int .i64 x.i7)).setCell ⟨Y, 2, none⟩ (.int .i64 x.i8)).setCell ⟨Y, 3, none⟩ (.slice x.b9 x.n9 x.c9)).setCell ⟨Y, 4, none⟩ (.string x.y10)) := set5_kept V4 Y _ _ _ _ _ 
        have cA : CellsF (((((V4.setCell ⟨Y, 0, none⟩ (.int .i64 x.i6)).setCell ⟨Y, 1, none⟩ (.int .i64 x.i7)).setCell ⟨Y, 2, none⟩ (.int .i64 x.i8)).setCell ⟨Y, 3, none⟩ (.slice x.b9 x.n9 x.c9)).setCell ⟨Y, 4, none⟩ (.string x.y10)) Y [.int .i64 x.i6, .int .i64 x.i7, .int .i64 x.i8, .slice x.b9 x.n9 x.c9, .string x.y10] := H84.out.1.five rfl _ _ _ _ _ 
        obtain ⟨V5, hV⟩ : ∃ V, (((((V4.setCell ⟨Y, 0, none⟩ (.int .i64 x.i6)).setCell ⟨Y, 1, none⟩ (.int .i64 x.i7)).setCell ⟨Y, 2, none⟩ (.int .i64 x.i8)).setCell ⟨Y, 3, none⟩ (.slice x.b9 x.n9 x.c9)).setCell ⟨Y, 4, none⟩ (.string x.y10)) = V := ⟨_, rfl⟩
        rw [hV] at kA cA ⊢
        have HK5 : Hid (Kept (fun _ => False) w1 V5) := HK4.out.trans kA (fun i hi => .inr (by rw [hi]; exact H84.out.2.2))
        have HS5 : Hid (V5.cell? ⟨N, 2, none⟩ = some (.slice z.b2 z.n2 z.c2) ∧ V5.cell? ⟨N, 3, none⟩ = some (.slice z.b3 z.n3 z.c3) ∧ V5.cell? ⟨N, 4, none⟩ = some (.int .i64 z.f4) ∧ V5.cell? ⟨N, 5, none⟩ = some (.bool z.o5) ∧ V5.cell? ⟨N, 6, none⟩ = some (.int .i64 z.i6) ∧ V5.cell? ⟨N, 7, none⟩ = some (.int .i64 z.i7) ∧ V5.cell? ⟨N, 8, none⟩ = some (.int .i64 z.i8) ∧ V5.cell? ⟨N, 9, none⟩ = some (.slice z.b9 z.n9 z.c9) ∧ V5.cell? ⟨N, 10, none⟩ = some (.string z.y10) ∧ V5.cell? ⟨w.heap.size, 2, none⟩ = some (.slice go gl gc)) := HSW.out _ HK5.out
        have H85 : Hid (CellsF V5 Y [.int .i64 x.i6, .int .i64 x.i7, .int .i64 x.i8, .slice x.b9 x.n9 x.c9, .string x.y10] ∧ w1.heap.size ≤ Y) := ⟨cA, H84.out.2.2⟩
        have HP5 : Hid (P2 w1 x V5) := HST.out _ _ _ _ _ HP4.out kA (fun i hi => ⟨by rw [hi]; exact H84.out.2.2, fun _ => by rw [hi]; exact H84.out.2.1⟩)
        have H75 : Hid (CellsF V5 X [.slice x.b2 x.n2 x.c2, .slice x.b3 x.n3 x.c3, .int .i64 x.f4, .bool x.o5] ∧ w1.heap.size ≤ X) := ⟨H74.out.1.kept kA (fun e => HXY.out e), H74.out.2⟩
        clear kA cA hV uf u0 u1 u2 u3 u4
        refine hK.out _ _ HS5.out (fun hHeld => ?_)
        clear hK K
        try simp only [Act.put, List.setIfInBounds_toArray, List.set_cons_zero, List.set_cons_succ]
        refine wpAnyH_take (i := 19) (oi := { dst := some 9, op := Op.assign (Operand.tmp 55), type := 23, pos := "law.go:119", after := #[{ on := 14, ground := Ground.data }, { on := 18, ground := Ground.chain }, { on := 0, ground := Ground.phase }, { on := 1, ground := Ground.phase }, { on := 2, ground := Ground.phase }, { on := 3, ground := Ground.phase }, { on := 4, ground := Ground.phase }, { on := 5, ground := Ground.phase }, { on := 6, ground := Ground.phase }, { on := 7, ground := Ground.phase }, { on := 8, ground := Ground.phase }, { on := 9, ground := Ground.phase }, { on := 10, ground := Ground.phase }, { on := 11, ground := Ground.phase }, { on := 12, ground := Ground.phase }, { on := 13, ground := Ground.phase }, { on := 14, ground := Ground.phase }, { on := 15, ground := Ground.phase }, { on := 16, ground := Ground.phase }, { on := 17, ground := Ground.phase }, { on := 18, ground := Ground.phase }], guard := none }) (v := .int .i64 cc) rfl (by kernel_rfl) (by kernel_rfl) (by kernel_rfl) (fun _ _ _ h => h) (Or.inl ⟨by rfl, ?_⟩) (by with_reducible assumption) ?_
        · intro wx hSw
          (try dsimp only at hSw)
          first | (go_simp; done) | (go_simp; with_reducible rfl)
        try simp only [Act.put, List.setIfInBounds_toArray, List.set_cons_zero, List.set_cons_succ]
        refine wpAnyH_done (by kernel_rfl) ?_ _
        try simp only [Exit.then]
        refine j4 _ _ ?_
        refine j3 _ _ ?_
        (repeat apply Exists.intro)
        refine ⟨?_, rfl⟩
        exact ⟨X, Y, x, rfl, rfl, rfl, H75.out.1, H85.out.1, HP5.out, HK5.out, H75.out.2, H85.out.2⟩
    · skip
      go_simp
      have kA : Kept (fun _ => False) w1.drew (w1.drew.alloc (.cells #[.slice none 0 0, .slice none 0 0, .int .i64 0, .bool false] 37)) := (Kept.refl _ _).alloc _
      have cA : CellsF (w1.drew.alloc (.cells #[.slice none 0 0, .slice none 0 0, .int .i64 0, .bool false] 37)) w1.drew.heap.size [.slice none 0 0, .slice none 0 0, .int .i64 0, .bool false] := CellsF.new w1.drew [.slice none 0 0, .slice none 0 0, .int .i64 0, .bool false] 37 (by simp)
      have oA : Other (w1.drew.alloc (.cells #[.slice none 0 0, .slice none 0 0, .int .i64 0, .bool false] 37)) w1.drew.heap.size := ⟨_, 37, (0, 0), heap_alloc_new w1.drew _, by decide, by decide⟩
      have eA : (w1.alloc (.cells #[.slice none 0 0, .slice none 0 0, .int .i64 0, .bool false] 37)).drew = w1.drew.alloc (.cells #[.slice none 0 0, .slice none 0 0, .int .i64 0, .bool false] 37) := rfl
      try rw [eA]
      clear eA
      have eB : w1.heap.size = w1.drew.heap.size := rfl
      try rw [eB]
      clear eB
      obtain ⟨V1, hV⟩ : ∃ V, w1.drew.alloc (.cells #[.slice none 0 0, .slice none 0 0, .int .i64 0, .bool false] 37) = V := ⟨_, rfl⟩
      obtain ⟨X, hX⟩ : ∃ X, w1.drew.heap.size = X := ⟨_, rfl⟩
      rw [hV] at kA cA oA ⊢
      have hl : w1.heap.size ≤ w1.drew.heap.size := HK0.out.size
      rw [hX] at cA oA hl ⊢
      have HK1 : Hid (Kept (fun _ => False) w1 V1) := HK0.out.trans kA (fun _ x => x.elim)
      have HS1 : Hid (V1.cell? ⟨N, 2, none⟩ = some (.slice z.b2 z.n2 z.c2) ∧ V1.cell? ⟨N, 3, none⟩ = some (.slice z.b3 z.n3 z.c3) ∧ V1.cell? ⟨N, 4, none⟩ = some (.int .i64 z.f4) ∧ V1.cell? ⟨N, 5, none⟩ = some (.bool z.o5) ∧ V1.cell? ⟨N, 6, none⟩ = some (.int .i64 z.i6) ∧ V1.cell? ⟨N, 7, none⟩ = some (.int .i64 z.i7) ∧ V1.cell? ⟨N, 8, none⟩ = some (.int .i64 z.i8) ∧ V1.cell? ⟨N, 9, none⟩ = some (.slice z.b9 z.n9 z.c9) ∧ V1.cell? ⟨N, 10, none⟩ = some (.string z.y10) ∧ V1.cell? ⟨w.heap.size, 2, none⟩ = some (.slice go gl gc)) := HSW.out _ HK1.out
      have H71 : Hid (CellsF V1 X [.slice none 0 0, .slice none 0 0, .int .i64 0, .bool false] ∧ Other V1 X ∧ w1.heap.size ≤ X) := ⟨cA, oA, hl⟩
      clear kA cA oA hl hX hV 
      refine hK.out _ _ HS1.out (fun hHeld => ?_)
      clear hK K
      try simp only [Act.put, List.setIfInBounds_toArray, List.set_cons_zero, List.set_cons_succ]
      refine wpAnyH_ready (rs := [10, 16]) (by kernel_rfl) (by simp) ?_
      refine AllReadyH.cons rfl (fun K hK => ?_) (AllReadyH.cons rfl (fun K hK => ?_) AllReadyH.nil)
      · skip
        go_simp
        refine Calls.mono (HC42.out _ HK1.out) ?_
        rintro e V2 ⟨x, rfl, HM3, hS3⟩
        have HK2 : Hid (Kept (fun _ => False) w1 V2) := HM3.out.2.2
        have HS2 : Hid (V2.cell? ⟨N, 2, none⟩ = some (.slice z.b2 z.n2 z.c2) ∧ V2.cell? ⟨N, 3, none⟩ = some (.slice z.b3 z.n3 z.c3) ∧ V2.cell? ⟨N, 4, none⟩ = some (.int .i64 z.f4) ∧ V2.cell? ⟨N, 5, none⟩ = some (.bool z.o5) ∧ V2.cell? ⟨N, 6, none⟩ = some (.int .i64 z.i6) ∧ V2.cell? ⟨N, 7, none⟩ = some (.int .i64 z.i7) ∧ V2.cell? ⟨N, 8, none⟩ = some (.int .i64 z.i8) ∧ V2.cell? ⟨N, 9, none⟩ = some (.slice z.b9 z.n9 z.c9) ∧ V2.cell? ⟨N, 10, none⟩ = some (.string z.y10) ∧ V2.cell? ⟨w.heap.size, 2, none⟩ = some (.slice go gl gc)) := hS3
        have HP2 : Hid (P2 w1 x V2) := HM3.out.1
        have H72 : Hid (CellsF V2 X [.slice none 0 0, .slice none 0 0, .int .i64 0, .bool false] ∧ Other V2 X ∧ w1.heap.size ≤ X) := ⟨H71.out.1.step HM3.out.2.1, H71.out.2.1.kept HM3.out.2.1, H71.out.2.2⟩
        clear HM3 hS3
        refine hK.out _ _ HS2.out (fun hHeld => ?_)
        clear hK K
        try simp only [Act.put, List.setIfInBounds_toArray, List.set_cons_zero, List.set_cons_succ]
        refine wpAnyH_take (i := 11) (oi := { dst := some 41, op := Op.move (Operand.tmp 52), type := 92, pos := "law.go:119", after := #[{ on := 10, ground := Ground.data }], guard := none }) (v := .tuple #[.agg #[.slice x.b2 x.n2 x.c2, .slice x.b3 x.n3 x.c3, .int .i64 x.f4, .bool x.o5], .agg #[.int .i64 x.i6, .int .i64 x.i7, .int .i64 x.i8, .slice x.b9 x.n9 x.c9, .string x.y10], .int .i64 cc]) rfl (by kernel_rfl) (by kernel_rfl) (by kernel_rfl) (fun _ _ _ h => h) (Or.inl ⟨by rfl, ?_⟩) (by with_reducible assumption) ?_
        · intro wx hSw
          (try dsimp only at hSw)
          first | (go_simp; done) | (go_simp; with_reducible rfl)
        try simp only [Act.put, List.setIfInBounds_toArray, List.set_cons_zero, List.set_cons_succ]
        refine wpAnyH_take (i := 12) (oi := { dst := some 53, op := Op.extract (Operand.tmp 41) 0, type := 37, pos := "law.go:119", after := #[{ on := 11, ground := Ground.data }], guard := none }) (v := .agg #[.slice x.b2 x.n2 x.c2, .slice x.b3 x.n3 x.c3, .int .i64 x.f4, .bool x.o5]) rfl (by kernel_rfl) (by kernel_rfl) (by kernel_rfl) (fun _ _ _ h => h) (Or.inl ⟨by rfl, ?_⟩) (by with_reducible assumption) ?_
        · intro wx hSw
          (try dsimp only at hSw)
          first | (go_simp; done) | (go_simp; with_reducible rfl)
        try simp only [Act.put, List.setIfInBounds_toArray, List.set_cons_zero, List.set_cons_succ]
        refine wpAnyH_take (i := 13) (oi := { dst := some 54, op := Op.extract (Operand.tmp 41) 1, type := 44, pos := "law.go:119", after := #[{ on := 11, ground := Ground.data }, { on := 17, ground := Ground.gcOnly Departure.lateStores }], guard := none }) (v := .agg #[.int .i64 x.i6, .int .i64 x.i7, .int .i64 x.i8, .slice x.b9 x.n9 x.c9, .string x.y10]) rfl (by kernel_rfl) (by kernel_rfl) (by kernel_rfl) (fun _ _ _ h => h) (Or.inl ⟨by rfl, ?_⟩) (by with_reducible assumption) ?_
        · intro wx hSw
          (try dsimp only at hSw)
          first | (go_simp; done) | (go_simp; with_reducible rfl)
        try simp only [Act.put, List.setIfInBounds_toArray, List.set_cons_zero, List.set_cons_succ]
        refine wpAnyH_take (i := 14) (oi := { dst := some 55, op := Op.extract (Operand.tmp 41) 2, type := 23, pos := "law.go:119", after := #[{ on := 11, ground := Ground.data }, { on := 18, ground := Ground.gcOnly Departure.lateStores }], guard := none }) (v := .int .i64 cc) rfl (by kernel_rfl) (by kernel_rfl) (by kernel_rfl) (fun _ _ _ h => h) (Or.inl ⟨by rfl, ?_⟩) (by with_reducible assumption) ?_
        · intro wx hSw
          (try dsimp only at hSw)
          first | (go_simp; done) | (go_simp; with_reducible rfl)
        try simp only [Act.put, List.setIfInBounds_toArray, List.set_cons_zero, List.set_cons_succ]
        refine wpAnyH_ready (rs := [16]) (by kernel_rfl) (by simp) ?_
        refine AllReadyH.cons rfl (fun K hK => ?_) AllReadyH.nil
        go_simp
        have kA : Kept (fun _ => False) V2 (V2.alloc (.cells #[.int .i64 0, .int .i64 0, .int .i64 0, .slice none 0 0, .string ⟨#[]⟩] 44)) := (Kept.refl _ _).alloc _
        have cA : CellsF (V2.alloc (.cells #[.int .i64 0, .int .i64 0, .int .i64 0, .slice none 0 0, .string ⟨#[]⟩] 44)) V2.heap.size [.int .i64 0, .int .i64 0, .int .i64 0, .slice none 0 0, .string ⟨#[]⟩] := CellsF.new V2 [.int .i64 0, .int .i64 0, .int .i64 0, .slice none 0 0, .string ⟨#[]⟩] 44 (by simp)
        have oA : Other (V2.alloc (.cells #[.int .i64 0, .int .i64 0, .int .i64 0, .slice none 0 0, .string ⟨#[]⟩] 44)) V2.heap.size := ⟨_, 44, (0, 0), heap_alloc_new V2 _, by decide, by decide⟩
        obtain ⟨V3, hV⟩ : ∃ V, V2.alloc (.cells #[.int .i64 0, .int .i64 0, .int .i64 0, .slice none 0 0, .string ⟨#[]⟩] 44) = V := ⟨_, rfl⟩
        obtain ⟨Y, hX⟩ : ∃ X, V2.heap.size = X := ⟨_, rfl⟩
        rw [hV] at kA cA oA ⊢
        have hl : w1.heap.size ≤ V2.heap.size := HK2.out.size
        have hne : X < V2.heap.size := H72.out.1.lt
        rw [hX] at cA oA hl hne ⊢
        have HK3 : Hid (Kept (fun _ => False) w1 V3) := HK2.out.trans kA (fun _ x => x.elim)
        have HS3 : Hid (V3.cell? ⟨N, 2, none⟩ = some (.slice z.b2 z.n2 z.c2) ∧ V3.cell? ⟨N, 3, none⟩ = some (.slice z.b3 z.n3 z.c3) ∧ V3.cell? ⟨N, 4, none⟩ = some (.int .i64 z.f4) ∧ V3.cell? ⟨N, 5, none⟩ = some (.bool z.o5) ∧ V3.cell? ⟨N, 6, none⟩ = some (.int .i64 z.i6) ∧ V3.cell? ⟨N, 7, none⟩ = some (.int .i64 z.i7) ∧ V3.cell? ⟨N, 8, none⟩ = some (.int .i64 z.i8) ∧ V3.cell? ⟨N, 9, none⟩ = some (.slice z.b9 z.n9 z.c9) ∧ V3.cell? ⟨N, 10, none⟩ = some (.string z.y10) ∧ V3.cell? ⟨w.heap.size, 2, none⟩ = some (.slice go gl gc)) := HSW.out _ HK3.out
        have H83 : Hid (CellsF V3 Y [.int .i64 0, .int .i64 0, .int .i64 0, .slice none 0 0, .string ⟨#[]⟩] ∧ Other V3 Y ∧ w1.heap.size ≤ Y) := ⟨cA, oA, hl⟩
        have H73 : Hid (CellsF V3 X [.slice none 0 0, .slice none 0 0, .int .i64 0, .bool false] ∧ Other V3 X ∧ w1.heap.size ≤ X) := ⟨H72.out.1.step kA, H72.out.2.1.kept kA, H72.out.2.2⟩
        have HXY : Hid (X ≠ Y) := by intro e; omega
        have HP3 : Hid (P2 w1 x V3) := HST.out _ _ _ _ _ HP2.out kA (fun _ x => x.elim)
        clear kA cA oA hl hX hV hne 
        refine hK.out _ _ HS3.out (fun hHeld => ?_)
        clear hK K
        try simp only [Act.put, List.setIfInBounds_toArray, List.set_cons_zero, List.set_cons_succ]
        refine wpAnyH_ready (rs := [17]) (by kernel_rfl) (by simp) ?_
        refine AllReadyH.cons rfl (fun K hK => ?_) AllReadyH.nil
        have u0 := H73.out.1.cs 0 _ rfl
        have u1 := H73.out.1.cs 1 _ rfl
        have u2 := H73.out.1.cs 2 _ rfl
        have u3 := H73.out.1.cs 3 _ rfl
        have uf := H73.out.1.fz
        go_simp
        have kA : Kept (fun i => i = X) V3 ((((V3.setCell ⟨X, 0, none⟩ (.slice x.b2 x.n2 x.c2)).setCell ⟨X, 1, none⟩ (.slice x.b3 x.n3 x.c3)).setCell ⟨X, 2, none⟩ (.int .i64 x.f4)).setCell ⟨X, 3, none⟩ (.bool x.o5)) := set4_kept V3 X _ _ _ _ 
        have cA : CellsF ((((V3.setCell ⟨X, 0, none⟩ (.slice x.b2 x.n2 x.c2)).setCell ⟨X, 1, none⟩ (.slice x.b3 x.n3 x.c3)).setCell ⟨X, 2, none⟩ (.int .i64 x.f4)).setCell ⟨X, 3, none⟩ (.bool x.o5)) X [.slice x.b2 x.n2 x.c2, .slice x.b3 x.n3 x.c3, .int .i64 x.f4, .bool x.o5] := H73.out.1.four rfl _ _ _ _ 
        obtain ⟨V4, hV⟩ : ∃ V, ((((V3.setCell ⟨X, 0, none⟩ (.slice x.b2 x.n2 x.c2)).setCell ⟨X, 1, none⟩ (.slice x.b3 x.n3 x.c3)).setCell ⟨X, 2, none⟩ (.int .i64 x.f4)).setCell ⟨X, 3, none⟩ (.bool x.o5)) = V := ⟨_, rfl⟩
        rw [hV] at kA cA ⊢
        have HK4 : Hid (Kept (fun _ => False) w1 V4) := HK3.out.trans kA (fun i hi => .inr (by rw [hi]; exact H73.out.2.2))
        have HS4 : Hid (V4.cell? ⟨N, 2, none⟩ = some (.slice z.b2 z.n2 z.c2) ∧ V4.cell? ⟨N, 3, none⟩ = some (.slice z.b3 z.n3 z.c3) ∧ V4.cell? ⟨N, 4, none⟩ = some (.int .i64 z.f4) ∧ V4.cell? ⟨N, 5, none⟩ = some (.bool z.o5) ∧ V4.cell? ⟨N, 6, none⟩ = some (.int .i64 z.i6) ∧ V4.cell? ⟨N, 7, none⟩ = some (.int .i64 z.i7) ∧ V4.cell? ⟨N, 8, none⟩ = some (.int .i64 z.i8) ∧ V4.cell? ⟨N, 9, none⟩ = some (.slice z.b9 z.n9 z.c9) ∧ V4.cell? ⟨N, 10, none⟩ = some (.string z.y10) ∧ V4.cell? ⟨w.heap.size, 2, none⟩ = some (.slice go gl gc)) := HSW.out _ HK4.out
        have H74 : Hid (CellsF V4 X [.slice x.b2 x.n2 x.c2, .slice x.b3 x.n3 x.c3, .int .i64 x.f4, .bool x.o5] ∧ w1.heap.size ≤ X) := ⟨cA, H73.out.2.2⟩
        have HP4 : Hid (P2 w1 x V4) := HST.out _ _ _ _ _ HP3.out kA (fun i hi => ⟨by rw [hi]; exact H73.out.2.2, fun _ => by rw [hi]; exact H73.out.2.1⟩)
        have hob : V4.heap[Y]? = V3.heap[Y]? := kA.block Y H83.out.1.lt (fun e => HXY.out e.symm)
        have H84 : Hid (CellsF V4 Y [.int .i64 0, .int .i64 0, .int .i64 0, .slice none 0 0, .string ⟨#[]⟩] ∧ Other V4 Y ∧ w1.heap.size ≤ Y) := ⟨H83.out.1.far hob, by obtain ⟨cur, t, fz, e, q⟩ := H83.out.2.1; exact ⟨cur, t, fz, hob.trans e, q⟩, H83.out.2.2⟩
        clear hob
        clear kA cA hV uf u0 u1 u2 u3
        refine hK.out _ _ HS4.out (fun hHeld => ?_)
        clear hK K
        try simp only [Act.put, List.setIfInBounds_toArray, List.set_cons_zero, List.set_cons_succ]
        refine wpAnyH_ready (rs := [18]) (by kernel_rfl) (by simp) ?_
        refine AllReadyH.cons rfl (fun K hK => ?_) AllReadyH.nil
        have u0 := H84.out.1.cs 0 _ rfl
        have u1 := H84.out.1.cs 1 _ rfl
        have u2 := H84.out.1.cs 2 _ rfl
        have u3 := H84.out.1.cs 3 _ rfl
        have u4 := H84.out.1.cs 4 _ rfl
        have uf := H84.out.1.fz
        go_simp
        have kA : Kept (fun i => i = Y) V4 (((((V4.setCell ⟨Y, 0, none⟩ (.int .i64 x.i6)).setCell ⟨Y, 1, none⟩ (.int .i64 x.i7)).setCell ⟨Y, 2, none⟩ (.int .i64 x.i8)).setCell ⟨Y, 3, none⟩ (.slice x.b9 x.n9 x.c9)).setCell ⟨Y, 4, none⟩ (.string x.y10)) := set5_kept V4 Y _ _ _ _ _ 
        have cA : CellsF (((((V4.setCell ⟨Y, 0, none⟩ (.int .i64 x.i6)).setCell ⟨Y, 1, none⟩ (.int .i64 x.i7)).setCell ⟨Y, 2, none⟩ (.int .i64 x.i8)).setCell ⟨Y, 3, none⟩ (.slice x.b9 x.n9 x.c9)).setCell ⟨Y, 4, none⟩ (.string x.y10)) Y [.int .i64 x.i6, .int .i64 x.i7, .int .i64 x.i8, .slice x.b9 x.n9 x.c9, .string x.y10] := H84.out.1.five rfl _ _ _ _ _ 
        obtain ⟨V5, hV⟩ : ∃ V, (((((V4.setCell ⟨Y, 0, none⟩ (.int .i64 x.i6)).setCell ⟨Y, 1, none⟩ (.int .i64 x.i7)).setCell ⟨Y, 2, none⟩ (.int .i64 x.i8)).setCell ⟨Y, 3, none⟩ (.slice x.b9 x.n9 x.c9)).setCell ⟨Y, 4, none⟩ (.string x.y10)) = V := ⟨_, rfl⟩
        rw [hV] at kA cA ⊢
        have HK5 : Hid (Kept (fun _ => False) w1 V5) := HK4.out.trans kA (fun i hi => .inr (by rw [hi]; exact H84.out.2.2))
        have HS5 : Hid (V5.cell? ⟨N, 2, none⟩ = some (.slice z.b2 z.n2 z.c2) ∧ V5.cell? ⟨N, 3, none⟩ = some (.slice z.b3 z.n3 z.c3) ∧ V5.cell? ⟨N, 4, none⟩ = some (.int .i64 z.f4) ∧ V5.cell? ⟨N, 5, none⟩ = some (.bool z.o5) ∧ V5.cell? ⟨N, 6, none⟩ = some (.int .i64 z.i6) ∧ V5.cell? ⟨N, 7, none⟩ = some (.int .i64 z.i7) ∧ V5.cell? ⟨N, 8, none⟩ = some (.int .i64 z.i8) ∧ V5.cell? ⟨N, 9, none⟩ = some (.slice z.b9 z.n9 z.c9) ∧ V5.cell? ⟨N, 10, none⟩ = some (.string z.y10) ∧ V5.cell? ⟨w.heap.size, 2, none⟩ = some (.slice go gl gc)) := HSW.out _ HK5.out
        have H85 : Hid (CellsF V5 Y [.int .i64 x.i6, .int .i64 x.i7, .int .i64 x.i8, .slice x.b9 x.n9 x.c9, .string x.y10] ∧ w1.heap.size ≤ Y) := ⟨cA, H84.out.2.2⟩
        have HP5 : Hid (P2 w1 x V5) := HST.out _ _ _ _ _ HP4.out kA (fun i hi => ⟨by rw [hi]; exact H84.out.2.2, fun _ => by rw [hi]; exact H84.out.2.1⟩)
        have H75 : Hid (CellsF V5 X [.slice x.b2 x.n2 x.c2, .slice x.b3 x.n3 x.c3, .int .i64 x.f4, .bool x.o5] ∧ w1.heap.size ≤ X) := ⟨H74.out.1.kept kA (fun e => HXY.out e), H74.out.2⟩
        clear kA cA hV uf u0 u1 u2 u3 u4
        refine hK.out _ _ HS5.out (fun hHeld => ?_)
        clear hK K
        try simp only [Act.put, List.setIfInBounds_toArray, List.set_cons_zero, List.set_cons_succ]
        refine wpAnyH_take (i := 19) (oi := { dst := some 9, op := Op.assign (Operand.tmp 55), type := 23, pos := "law.go:119", after := #[{ on := 14, ground := Ground.data }, { on := 18, ground := Ground.chain }, { on := 0, ground := Ground.phase }, { on := 1, ground := Ground.phase }, { on := 2, ground := Ground.phase }, { on := 3, ground := Ground.phase }, { on := 4, ground := Ground.phase }, { on := 5, ground := Ground.phase }, { on := 6, ground := Ground.phase }, { on := 7, ground := Ground.phase }, { on := 8, ground := Ground.phase }, { on := 9, ground := Ground.phase }, { on := 10, ground := Ground.phase }, { on := 11, ground := Ground.phase }, { on := 12, ground := Ground.phase }, { on := 13, ground := Ground.phase }, { on := 14, ground := Ground.phase }, { on := 15, ground := Ground.phase }, { on := 16, ground := Ground.phase }, { on := 17, ground := Ground.phase }, { on := 18, ground := Ground.phase }], guard := none }) (v := .int .i64 cc) rfl (by kernel_rfl) (by kernel_rfl) (by kernel_rfl) (fun _ _ _ h => h) (Or.inl ⟨by rfl, ?_⟩) (by with_reducible assumption) ?_
        · intro wx hSw
          (try dsimp only at hSw)
          first | (go_simp; done) | (go_simp; with_reducible rfl)
        try simp only [Act.put, List.setIfInBounds_toArray, List.set_cons_zero, List.set_cons_succ]
        refine wpAnyH_done (by kernel_rfl) ?_ _
        try simp only [Exit.then]
        refine j4 _ _ ?_
        refine j3 _ _ ?_
        (repeat apply Exists.intro)
        refine ⟨?_, rfl⟩
        exact ⟨X, Y, x, rfl, rfl, rfl, H75.out.1, H85.out.1, HP5.out, HK5.out, H75.out.2, H85.out.2⟩
      · skip
        go_simp
        have kA : Kept (fun _ => False) V1 (V1.alloc (.cells #[.int .i64 0, .int .i64 0, .int .i64 0, .slice none 0 0, .string ⟨#[]⟩] 44)) := (Kept.refl _ _).alloc _
        have cA : CellsF (V1.alloc (.cells #[.int .i64 0, .int .i64 0, .int .i64 0, .slice none 0 0, .string ⟨#[]⟩] 44)) V1.heap.size [.int .i64 0, .int .i64 0, .int .i64 0, .slice none 0 0, .string ⟨#[]⟩] := CellsF.new V1 [.int .i64 0, .int .i64 0, .int .i64 0, .slice none 0 0, .string ⟨#[]⟩] 44 (by simp)
        have oA : Other (V1.alloc (.cells #[.int .i64 0, .int .i64 0, .int .i64 0, .slice none 0 0, .string ⟨#[]⟩] 44)) V1.heap.size := ⟨_, 44, (0, 0), heap_alloc_new V1 _, by decide, by decide⟩
        obtain ⟨V2, hV⟩ : ∃ V, V1.alloc (.cells #[.int .i64 0, .int .i64 0, .int .i64 0, .slice none 0 0, .string ⟨#[]⟩] 44) = V := ⟨_, rfl⟩
        obtain ⟨Y, hX⟩ : ∃ X, V1.heap.size = X := ⟨_, rfl⟩
        rw [hV] at kA cA oA ⊢
        have hl : w1.heap.size ≤ V1.heap.size := HK1.out.size
        have hne : X < V1.heap.size := H71.out.1.lt
        rw [hX] at cA oA hl hne ⊢
        have HK2 : Hid (Kept (fun _ => False) w1 V2) := HK1.out.trans kA (fun _ x => x.elim)
        have HS2 : Hid (V2.cell? ⟨N, 2, none⟩ = some (.slice z.b2 z.n2 z.c2) ∧ V2.cell? ⟨N, 3, none⟩ = some (.slice z.b3 z.n3 z.c3) ∧ V2.cell? ⟨N, 4, none⟩ = some (.int .i64 z.f4) ∧ V2.cell? ⟨N, 5, none⟩ = some (.bool z.o5) ∧ V2.cell? ⟨N, 6, none⟩ = some (.int .i64 z.i6) ∧ V2.cell? ⟨N, 7, none⟩ = some (.int .i64 z.i7) ∧ V2.cell? ⟨N, 8, none⟩ = some (.int .i64 z.i8) ∧ V2.cell? ⟨N, 9, none⟩ = some (.slice z.b9 z.n9 z.c9) ∧ V2.cell? ⟨N, 10, none⟩ = some (.string z.y10) ∧ V2.cell? ⟨w.heap.size, 2, none⟩ = some (.slice go gl gc)) := HSW.out _ HK2.out
        have H82 : Hid (CellsF V2 Y [.int .i64 0, .int .i64 0, .int .i64 0, .slice none 0 0, .string ⟨#[]⟩] ∧ Other V2 Y ∧ w1.heap.size ≤ Y) := ⟨cA, oA, hl⟩
        have H72 : Hid (CellsF V2 X [.slice none 0 0, .slice none 0 0, .int .i64 0, .bool false] ∧ Other V2 X ∧ w1.heap.size ≤ X) := ⟨H71.out.1.step kA, H71.out.2.1.kept kA, H71.out.2.2⟩
        have HXY : Hid (X ≠ Y) := by intro e; omega
        clear kA cA oA hl hX hV hne 
        refine hK.out _ _ HS2.out (fun hHeld => ?_)
        clear hK K
        try simp only [Act.put, List.setIfInBounds_toArray, List.set_cons_zero, List.set_cons_succ]
        refine wpAnyH_ready (rs := [10]) (by kernel_rfl) (by simp) ?_
        refine AllReadyH.cons rfl (fun K hK => ?_) AllReadyH.nil
        go_simp
        refine Calls.mono (HC42.out _ HK2.out) ?_
        rintro e V3 ⟨x, rfl, HM3, hS3⟩
        have HK3 : Hid (Kept (fun _ => False) w1 V3) := HM3.out.2.2
        have HS3 : Hid (V3.cell? ⟨N, 2, none⟩ = some (.slice z.b2 z.n2 z.c2) ∧ V3.cell? ⟨N, 3, none⟩ = some (.slice z.b3 z.n3 z.c3) ∧ V3.cell? ⟨N, 4, none⟩ = some (.int .i64 z.f4) ∧ V3.cell? ⟨N, 5, none⟩ = some (.bool z.o5) ∧ V3.cell? ⟨N, 6, none⟩ = some (.int .i64 z.i6) ∧ V3.cell? ⟨N, 7, none⟩ = some (.int .i64 z.i7) ∧ V3.cell? ⟨N, 8, none⟩ = some (.int .i64 z.i8) ∧ V3.cell? ⟨N, 9, none⟩ = some (.slice z.b9 z.n9 z.c9) ∧ V3.cell? ⟨N, 10, none⟩ = some (.string z.y10) ∧ V3.cell? ⟨w.heap.size, 2, none⟩ = some (.slice go gl gc)) := hS3
        have HP3 : Hid (P2 w1 x V3) := HM3.out.1
        have H73 : Hid (CellsF V3 X [.slice none 0 0, .slice none 0 0, .int .i64 0, .bool false] ∧ Other V3 X ∧ w1.heap.size ≤ X) := ⟨H72.out.1.step HM3.out.2.1, H72.out.2.1.kept HM3.out.2.1, H72.out.2.2⟩
        have H83 : Hid (CellsF V3 Y [.int .i64 0, .int .i64 0, .int .i64 0, .slice none 0 0, .string ⟨#[]⟩] ∧ Other V3 Y ∧ w1.heap.size ≤ Y) := ⟨H82.out.1.step HM3.out.2.1, H82.out.2.1.kept HM3.out.2.1, H82.out.2.2⟩
        clear HM3 hS3
        refine hK.out _ _ HS3.out (fun hHeld => ?_)
        clear hK K
        try simp only [Act.put, List.setIfInBounds_toArray, List.set_cons_zero, List.set_cons_succ]
        refine wpAnyH_take (i := 11) (oi := { dst := some 41, op := Op.move (Operand.tmp 52), type := 92, pos := "law.go:119", after := #[{ on := 10, ground := Ground.data }], guard := none }) (v := .tuple #[.agg #[.slice x.b2 x.n2 x.c2, .slice x.b3 x.n3 x.c3, .int .i64 x.f4, .bool x.o5], .agg #[.int .i64 x.i6, .int .i64 x.i7, .int .i64 x.i8, .slice x.b9 x.n9 x.c9, .string x.y10], .int .i64 cc]) rfl (by kernel_rfl) (by kernel_rfl) (by kernel_rfl) (fun _ _ _ h => h) (Or.inl ⟨by rfl, ?_⟩) (by with_reducible assumption) ?_
        · intro wx hSw
          (try dsimp only at hSw)
          first | (go_simp; done) | (go_simp; with_reducible rfl)
        try simp only [Act.put, List.setIfInBounds_toArray, List.set_cons_zero, List.set_cons_succ]
        refine wpAnyH_take (i := 12) (oi := { dst := some 53, op := Op.extract (Operand.tmp 41) 0, type := 37, pos := "law.go:119", after := #[{ on := 11, ground := Ground.data }], guard := none }) (v := .agg #[.slice x.b2 x.n2 x.c2, .slice x.b3 x.n3 x.c3, .int .i64 x.f4, .bool x.o5]) rfl (by kernel_rfl) (by kernel_rfl) (by kernel_rfl) (fun _ _ _ h => h) (Or.inl ⟨by rfl, ?_⟩) (by with_reducible assumption) ?_
        · intro wx hSw
          (try dsimp only at hSw)
          first | (go_simp; done) | (go_simp; with_reducible rfl)
        try simp only [Act.put, List.setIfInBounds_toArray, List.set_cons_zero, List.set_cons_succ]
        refine wpAnyH_take (i := 13) (oi := { dst := some 54, op := Op.extract (Operand.tmp 41) 1, type := 44, pos := "law.go:119", after := #[{ on := 11, ground := Ground.data }, { on := 17, ground := Ground.gcOnly Departure.lateStores }], guard := none }) (v := .agg #[.int .i64 x.i6, .int .i64 x.i7, .int .i64 x.i8, .slice x.b9 x.n9 x.c9, .string x.y10]) rfl (by kernel_rfl) (by kernel_rfl) (by kernel_rfl) (fun _ _ _ h => h) (Or.inl ⟨by rfl, ?_⟩) (by with_reducible assumption) ?_
        · intro wx hSw
          (try dsimp only at hSw)
          first | (go_simp; done) | (go_simp; with_reducible rfl)
        try simp only [Act.put, List.setIfInBounds_toArray, List.set_cons_zero, List.set_cons_succ]
        refine wpAnyH_take (i := 14) (oi := { dst := some 55, op := Op.extract (Operand.tmp 41) 2, type := 23, pos := "law.go:119", after := #[{ on := 11, ground := Ground.data }, { on := 18, ground := Ground.gcOnly Departure.lateStores }], guard := none }) (v := .int .i64 cc) rfl (by kernel_rfl) (by kernel_rfl) (by kernel_rfl) (fun _ _ _ h => h) (Or.inl ⟨by rfl, ?_⟩) (by with_reducible assumption) ?_
        · intro wx hSw
          (try dsimp only at hSw)
          first | (go_simp; done) | (go_simp; with_reducible rfl)
        try simp only [Act.put, List.setIfInBounds_toArray, List.set_cons_zero, List.set_cons_succ]
        refine wpAnyH_ready (rs := [17]) (by kernel_rfl) (by simp) ?_
        refine AllReadyH.cons rfl (fun K hK => ?_) AllReadyH.nil
        have u0 := H73.out.1.cs 0 _ rfl
        have u1 := H73.out.1.cs 1 _ rfl
        have u2 := H73.out.1.cs 2 _ rfl
        have u3 := H73.out.1.cs 3 _ rfl
        have uf := H73.out.1.fz
        go_simp
        have kA : Kept (fun i => i = X) V3 ((((V3.setCell ⟨X, 0, none⟩ (.slice x.b2 x.n2 x.c2)).setCell ⟨X, 1, none⟩ (.slice x.b3 x.n3 x.c3)).setCell ⟨X, 2, none⟩ (.int .i64 x.f4)).setCell ⟨X, 3, none⟩ (.bool x.o5)) := set4_kept V3 X _ _ _ _ 
        have cA : CellsF ((((V3.setCell ⟨X, 0, none⟩ (.slice x.b2 x.n2 x.c2)).setCell ⟨X, 1, none⟩ (.slice x.b3 x.n3 x.c3)).setCell ⟨X, 2, none⟩ (.int .i64 x.f4)).setCell ⟨X, 3, none⟩ (.bool x.o5)) X [.slice x.b2 x.n2 x.c2, .slice x.b3 x.n3 x.c3, .int .i64 x.f4, .bool x.o5] := H73.out.1.four rfl _ _ _ _ 
        obtain ⟨V4, hV⟩ : ∃ V, ((((V3.setCell ⟨X, 0, none⟩ (.slice x.b2 x.n2 x.c2)).setCell ⟨X, 1, none⟩ (.slice x.b3 x.n3 x.c3)).setCell ⟨X, 2, none⟩ (.int .i64 x.f4)).setCell ⟨X, 3, none⟩ (.bool x.o5)) = V := ⟨_, rfl⟩
        rw [hV] at kA cA ⊢
        have HK4 : Hid (Kept (fun _ => False) w1 V4) := HK3.out.trans kA (fun i hi => .inr (by rw [hi]; exact H73.out.2.2))
        have HS4 : Hid (V4.cell? ⟨N, 2, none⟩ = some (.slice z.b2 z.n2 z.c2) ∧ V4.cell? ⟨N, 3, none⟩ = some (.slice z.b3 z.n3 z.c3) ∧ V4.cell? ⟨N, 4, none⟩ = some (.int .i64 z.f4) ∧ V4.cell? ⟨N, 5, none⟩ = some (.bool z.o5) ∧ V4.cell? ⟨N, 6, none⟩ = some (.int .i64 z.i6) ∧ V4.cell? ⟨N, 7, none⟩ = some (.int .i64 z.i7) ∧ V4.cell? ⟨N, 8, none⟩ = some (.int .i64 z.i8) ∧ V4.cell? ⟨N, 9, none⟩ = some (.slice z.b9 z.n9 z.c9) ∧ V4.cell? ⟨N, 10, none⟩ = some (.string z.y10) ∧ V4.cell? ⟨w.heap.size, 2, none⟩ = some (.slice go gl gc)) := HSW.out _ HK4.out
        have H74 : Hid (CellsF V4 X [.slice x.b2 x.n2 x.c2, .slice x.b3 x.n3 x.c3, .int .i64 x.f4, .bool x.o5] ∧ w1.heap.size ≤ X) := ⟨cA, H73.out.2.2⟩
        have HP4 : Hid (P2 w1 x V4) := HST.out _ _ _ _ _ HP3.out kA (fun i hi => ⟨by rw [hi]; exact H73.out.2.2, fun _ => by rw [hi]; exact H73.out.2.1⟩)
        have hob : V4.heap[Y]? = V3.heap[Y]? := kA.block Y H83.out.1.lt (fun e => HXY.out e.symm)
        have H84 : Hid (CellsF V4 Y [.int .i64 0, .int .i64 0, .int .i64 0, .slice none 0 0, .string ⟨#[]⟩] ∧ Other V4 Y ∧ w1.heap.size ≤ Y) := ⟨H83.out.1.far hob, by obtain ⟨cur, t, fz, e, q⟩ := H83.out.2.1; exact ⟨cur, t, fz, hob.trans e, q⟩, H83.out.2.2⟩
        clear hob
        clear kA cA hV uf u0 u1 u2 u3
        refine hK.out _ _ HS4.out (fun hHeld => ?_)
        clear hK K
        try simp only [Act.put, List.setIfInBounds_toArray, List.set_cons_zero, List.set_cons_succ]
        refine wpAnyH_ready (rs := [18]) (by kernel_rfl) (by simp) ?_
        refine AllReadyH.cons rfl (fun K hK => ?_) AllReadyH.nil
        have u0 := H84.out.1.cs 0 _ rfl
        have u1 := H84.out.1.cs 1 _ rfl
        have u2 := H84.out.1.cs 2 _ rfl
        have u3 := H84.out.1.cs 3 _ rfl
        have u4 := H84.out.1.cs 4 _ rfl
        have uf := H84.out.1.fz
        go_simp
        have kA : Kept (fun i => i = Y) V4 (((((V4.setCell ⟨Y, 0, none⟩ (.int .i64 x.i6)).setCell ⟨Y, 1, none⟩ (.int .i64 x.i7)).setCell ⟨Y, 2, none⟩ (.int .i64 x.i8)).setCell ⟨Y, 3, none⟩ (.slice x.b9 x.n9 x.c9)).setCell ⟨Y, 4, none⟩ (.string x.y10)) := set5_kept V4 Y _ _ _ _ _ 
        have cA : CellsF (((((V4.setCell ⟨Y, 0, none⟩ (.int .i64 x.i6)).setCell ⟨Y, 1, none⟩ (.int .i64 x.i7)).setCell ⟨Y, 2, none⟩ (.int .i64 x.i8)).setCell ⟨Y, 3, none⟩ (.slice x.b9 x.n9 x.c9)).setCell ⟨Y, 4, none⟩ (.string x.y10)) Y [.int .i64 x.i6, .int .i64 x.i7, .int .i64 x.i8, .slice x.b9 x.n9 x.c9, .string x.y10] := H84.out.1.five rfl _ _ _ _ _ 
        obtain ⟨V5, hV⟩ : ∃ V, (((((V4.setCell ⟨Y, 0, none⟩ (.int .i64 x.i6)).setCell ⟨Y, 1, none⟩ (.int .i64 x.i7)).setCell ⟨Y, 2, none⟩ (.int .i64 x.i8)).setCell ⟨Y, 3, none⟩ (.slice x.b9 x.n9 x.c9)).setCell ⟨Y, 4, none⟩ (.string x.y10)) = V := ⟨_, rfl⟩
        rw [hV] at kA cA ⊢
        have HK5 : Hid (Kept (fun _ => False) w1 V5) := HK4.out.trans kA (fun i hi => .inr (by rw [hi]; exact H84.out.2.2))
        have HS5 : Hid (V5.cell? ⟨N, 2, none⟩ = some (.slice z.b2 z.n2 z.c2) ∧ V5.cell? ⟨N, 3, none⟩ = some (.slice z.b3 z.n3 z.c3) ∧ V5.cell? ⟨N, 4, none⟩ = some (.int .i64 z.f4) ∧ V5.cell? ⟨N, 5, none⟩ = some (.bool z.o5) ∧ V5.cell? ⟨N, 6, none⟩ = some (.int .i64 z.i6) ∧ V5.cell? ⟨N, 7, none⟩ = some (.int .i64 z.i7) ∧ V5.cell? ⟨N, 8, none⟩ = some (.int .i64 z.i8) ∧ V5.cell? ⟨N, 9, none⟩ = some (.slice z.b9 z.n9 z.c9) ∧ V5.cell? ⟨N, 10, none⟩ = some (.string z.y10) ∧ V5.cell? ⟨w.heap.size, 2, none⟩ = some (.slice go gl gc)) := HSW.out _ HK5.out
        have H85 : Hid (CellsF V5 Y [.int .i64 x.i6, .int .i64 x.i7, .int .i64 x.i8, .slice x.b9 x.n9 x.c9, .string x.y10] ∧ w1.heap.size ≤ Y) := ⟨cA, H84.out.2.2⟩
        have HP5 : Hid (P2 w1 x V5) := HST.out _ _ _ _ _ HP4.out kA (fun i hi => ⟨by rw [hi]; exact H84.out.2.2, fun _ => by rw [hi]; exact H84.out.2.1⟩)
        have H75 : Hid (CellsF V5 X [.slice x.b2 x.n2 x.c2, .slice x.b3 x.n3 x.c3, .int .i64 x.f4, .bool x.o5] ∧ w1.heap.size ≤ X) := ⟨H74.out.1.kept kA (fun e => HXY.out e), H74.out.2⟩
        clear kA cA hV uf u0 u1 u2 u3 u4
        refine hK.out _ _ HS5.out (fun hHeld => ?_)
        clear hK K
        try simp only [Act.put, List.setIfInBounds_toArray, List.set_cons_zero, List.set_cons_succ]
        refine wpAnyH_take (i := 19) (oi := { dst := some 9, op := Op.assign (Operand.tmp 55), type := 23, pos := "law.go:119", after := #[{ on := 14, ground := Ground.data }, { on := 18, ground := Ground.chain }, { on := 0, ground := Ground.phase }, { on := 1, ground := Ground.phase }, { on := 2, ground := Ground.phase }, { on := 3, ground := Ground.phase }, { on := 4, ground := Ground.phase }, { on := 5, ground := Ground.phase }, { on := 6, ground := Ground.phase }, { on := 7, ground := Ground.phase }, { on := 8, ground := Ground.phase }, { on := 9, ground := Ground.phase }, { on := 10, ground := Ground.phase }, { on := 11, ground := Ground.phase }, { on := 12, ground := Ground.phase }, { on := 13, ground := Ground.phase }, { on := 14, ground := Ground.phase }, { on := 15, ground := Ground.phase }, { on := 16, ground := Ground.phase }, { on := 17, ground := Ground.phase }, { on := 18, ground := Ground.phase }], guard := none }) (v := .int .i64 cc) rfl (by kernel_rfl) (by kernel_rfl) (by kernel_rfl) (fun _ _ _ h => h) (Or.inl ⟨by rfl, ?_⟩) (by with_reducible assumption) ?_
        · intro wx hSw
          (try dsimp only at hSw)
          first | (go_simp; done) | (go_simp; with_reducible rfl)
        try simp only [Act.put, List.setIfInBounds_toArray, List.set_cons_zero, List.set_cons_succ]
        refine wpAnyH_done (by kernel_rfl) ?_ _
        try simp only [Exit.then]
        refine j4 _ _ ?_
        refine j3 _ _ ?_
        (repeat apply Exists.intro)
        refine ⟨?_, rfl⟩
        exact ⟨X, Y, x, rfl, rfl, rfl, H75.out.1, H85.out.1, HP5.out, HK5.out, H75.out.2, H85.out.2⟩
    · skip
      go_simp
      have kA : Kept (fun _ => False) w1.drew (w1.drew.alloc (.cells #[.int .i64 0, .int .i64 0, .int .i64 0, .slice none 0 0, .string ⟨#[]⟩] 44)) := (Kept.refl _ _).alloc _
      have cA : CellsF (w1.drew.alloc (.cells #[.int .i64 0, .int .i64 0, .int .i64 0, .slice none 0 0, .string ⟨#[]⟩] 44)) w1.drew.heap.size [.int .i64 0, .int .i64 0, .int .i64 0, .slice none 0 0, .string ⟨#[]⟩] := CellsF.new w1.drew [.int .i64 0, .int .i64 0, .int .i64 0, .slice none 0 0, .string ⟨#[]⟩] 44 (by simp)
      have oA : Other (w1.drew.alloc (.cells #[.int .i64 0, .int .i64 0, .int .i64 0, .slice none 0 0, .string ⟨#[]⟩] 44)) w1.drew.heap.size := ⟨_, 44, (0, 0), heap_alloc_new w1.drew _, by decide, by decide⟩
      have eA : (w1.alloc (.cells #[.int .i64 0, .int .i64 0, .int .i64 0, .slice none 0 0, .string ⟨#[]⟩] 44)).drew = w1.drew.alloc (.cells #[.int .i64 0, .int .i64 0, .int .i64 0, .slice none 0 0, .string ⟨#[]⟩] 44) := rfl
      try rw [eA]
      clear eA
      have eB : w1.heap.size = w1.drew.heap.size := rfl
      try rw [eB]
      clear eB
      obtain ⟨V1, hV⟩ : ∃ V, w1.drew.alloc (.cells #[.int .i64 0, .int .i64 0, .int .i64 0, .slice none 0 0, .string ⟨#[]⟩] 44) = V := ⟨_, rfl⟩
      obtain ⟨Y, hX⟩ : ∃ X, w1.drew.heap.size = X := ⟨_, rfl⟩
      rw [hV] at kA cA oA ⊢
      have hl : w1.heap.size ≤ w1.drew.heap.size := HK0.out.size
      rw [hX] at cA oA hl ⊢
      have HK1 : Hid (Kept (fun _ => False) w1 V1) := HK0.out.trans kA (fun _ x => x.elim)
      have HS1 : Hid (V1.cell? ⟨N, 2, none⟩ = some (.slice z.b2 z.n2 z.c2) ∧ V1.cell? ⟨N, 3, none⟩ = some (.slice z.b3 z.n3 z.c3) ∧ V1.cell? ⟨N, 4, none⟩ = some (.int .i64 z.f4) ∧ V1.cell? ⟨N, 5, none⟩ = some (.bool z.o5) ∧ V1.cell? ⟨N, 6, none⟩ = some (.int .i64 z.i6) ∧ V1.cell? ⟨N, 7, none⟩ = some (.int .i64 z.i7) ∧ V1.cell? ⟨N, 8, none⟩ = some (.int .i64 z.i8) ∧ V1.cell? ⟨N, 9, none⟩ = some (.slice z.b9 z.n9 z.c9) ∧ V1.cell? ⟨N, 10, none⟩ = some (.string z.y10) ∧ V1.cell? ⟨w.heap.size, 2, none⟩ = some (.slice go gl gc)) := HSW.out _ HK1.out
      have H81 : Hid (CellsF V1 Y [.int .i64 0, .int .i64 0, .int .i64 0, .slice none 0 0, .string ⟨#[]⟩] ∧ Other V1 Y ∧ w1.heap.size ≤ Y) := ⟨cA, oA, hl⟩
      clear kA cA oA hl hX hV 
      refine hK.out _ _ HS1.out (fun hHeld => ?_)
      clear hK K
      try simp only [Act.put, List.setIfInBounds_toArray, List.set_cons_zero, List.set_cons_succ]
      refine wpAnyH_ready (rs := [10, 15]) (by kernel_rfl) (by simp) ?_
      refine AllReadyH.cons rfl (fun K hK => ?_) (AllReadyH.cons rfl (fun K hK => ?_) AllReadyH.nil)
      · skip
        go_simp
        refine Calls.mono (HC42.out _ HK1.out) ?_
        rintro e V2 ⟨x, rfl, HM3, hS3⟩
        have HK2 : Hid (Kept (fun _ => False) w1 V2) := HM3.out.2.2
        have HS2 : Hid (V2.cell? ⟨N, 2, none⟩ = some (.slice z.b2 z.n2 z.c2) ∧ V2.cell? ⟨N, 3, none⟩ = some (.slice z.b3 z.n3 z.c3) ∧ V2.cell? ⟨N, 4, none⟩ = some (.int .i64 z.f4) ∧ V2.cell? ⟨N, 5, none⟩ = some (.bool z.o5) ∧ V2.cell? ⟨N, 6, none⟩ = some (.int .i64 z.i6) ∧ V2.cell? ⟨N, 7, none⟩ = some (.int .i64 z.i7) ∧ V2.cell? ⟨N, 8, none⟩ = some (.int .i64 z.i8) ∧ V2.cell? ⟨N, 9, none⟩ = some (.slice z.b9 z.n9 z.c9) ∧ V2.cell? ⟨N, 10, none⟩ = some (.string z.y10) ∧ V2.cell? ⟨w.heap.size, 2, none⟩ = some (.slice go gl gc)) := hS3
        have HP2 : Hid (P2 w1 x V2) := HM3.out.1
        have H82 : Hid (CellsF V2 Y [.int .i64 0, .int .i64 0, .int .i64 0, .slice none 0 0, .string ⟨#[]⟩] ∧ Other V2 Y ∧ w1.heap.size ≤ Y) := ⟨H81.out.1.step HM3.out.2.1, H81.out.2.1.kept HM3.out.2.1, H81.out.2.2⟩
        clear HM3 hS3
        refine hK.out _ _ HS2.out (fun hHeld => ?_)
        clear hK K
        try simp only [Act.put, List.setIfInBounds_toArray, List.set_cons_zero, List.set_cons_succ]
        refine wpAnyH_take (i := 11) (oi := { dst := some 41, op := Op.move (Operand.tmp 52), type := 92, pos := "law.go:119", after := #[{ on := 10, ground := Ground.data }], guard := none }) (v := .tuple #[.agg #[.slice x.b2 x.n2 x.c2, .slice x.b3 x.n3 x.c3, .int .i64 x.f4, .bool x.o5], .agg #[.int .i64 x.i6, .int .i64 x.i7, .int .i64 x.i8, .slice x.b9 x.n9 x.c9, .string x.y10], .int .i64 cc]) rfl (by kernel_rfl) (by kernel_rfl) (by kernel_rfl) (fun _ _ _ h => h) (Or.inl ⟨by rfl, ?_⟩) (by with_reducible assumption) ?_
        · intro wx hSw
          (try dsimp only at hSw)
          first | (go_simp; done) | (go_simp; with_reducible rfl)
        try simp only [Act.put, List.setIfInBounds_toArray, List.set_cons_zero, List.set_cons_succ]
        refine wpAnyH_take (i := 12) (oi := { dst := some 53, op := Op.extract (Operand.tmp 41) 0, type := 37, pos := "law.go:119", after := #[{ on := 11, ground := Ground.data }], guard := none }) (v := .agg #[.slice x.b2 x.n2 x.c2, .slice x.b3 x.n3 x.c3, .int .i64 x.f4, .bool x.o5]) rfl (by kernel_rfl) (by kernel_rfl) (by kernel_rfl) (fun _ _ _ h => h) (Or.inl ⟨by rfl, ?_⟩) (by with_reducible assumption) ?_
        · intro wx hSw
          (try dsimp only at hSw)
          first | (go_simp; done) | (go_simp; with_reducible rfl)
        try simp only [Act.put, List.setIfInBounds_toArray, List.set_cons_zero, List.set_cons_succ]
        refine wpAnyH_take (i := 13) (oi := { dst := some 54, op := Op.extract (Operand.tmp 41) 1, type := 44, pos := "law.go:119", after := #[{ on := 11, ground := Ground.data }, { on := 17, ground := Ground.gcOnly Departure.lateStores }], guard := none }) (v := .agg #[.int .i64 x.i6, .int .i64 x.i7, .int .i64 x.i8, .slice x.b9 x.n9 x.c9, .string x.y10]) rfl (by kernel_rfl) (by kernel_rfl) (by kernel_rfl) (fun _ _ _ h => h) (Or.inl ⟨by rfl, ?_⟩) (by with_reducible assumption) ?_
        · intro wx hSw
          (try dsimp only at hSw)
          first | (go_simp; done) | (go_simp; with_reducible rfl)
        try simp only [Act.put, List.setIfInBounds_toArray, List.set_cons_zero, List.set_cons_succ]
        refine wpAnyH_take (i := 14) (oi := { dst := some 55, op := Op.extract (Operand.tmp 41) 2, type := 23, pos := "law.go:119", after := #[{ on := 11, ground := Ground.data }, { on := 18, ground := Ground.gcOnly Departure.lateStores }], guard := none }) (v := .int .i64 cc) rfl (by kernel_rfl) (by kernel_rfl) (by kernel_rfl) (fun _ _ _ h => h) (Or.inl ⟨by rfl, ?_⟩) (by with_reducible assumption) ?_
        · intro wx hSw
          (try dsimp only at hSw)
          first | (go_simp; done) | (go_simp; with_reducible rfl)
        try simp only [Act.put, List.setIfInBounds_toArray, List.set_cons_zero, List.set_cons_succ]
        refine wpAnyH_ready (rs := [15]) (by kernel_rfl) (by simp) ?_
        refine AllReadyH.cons rfl (fun K hK => ?_) AllReadyH.nil
        go_simp
        have kA : Kept (fun _ => False) V2 (V2.alloc (.cells #[.slice none 0 0, .slice none 0 0, .int .i64 0, .bool false] 37)) := (Kept.refl _ _).alloc _
        have cA : CellsF (V2.alloc (.cells #[.slice none 0 0, .slice none 0 0, .int .i64 0, .bool false] 37)) V2.heap.size [.slice none 0 0, .slice none 0 0, .int .i64 0, .bool false] := CellsF.new V2 [.slice none 0 0, .slice none 0 0, .int .i64 0, .bool false] 37 (by simp)
        have oA : Other (V2.alloc (.cells #[.slice none 0 0, .slice none 0 0, .int .i64 0, .bool false] 37)) V2.heap.size := ⟨_, 37, (0, 0), heap_alloc_new V2 _, by decide, by decide⟩
        obtain ⟨V3, hV⟩ : ∃ V, V2.alloc (.cells #[.slice none 0 0, .slice none 0 0, .int .i64 0, .bool false] 37) = V := ⟨_, rfl⟩
        obtain ⟨X, hX⟩ : ∃ X, V2.heap.size = X := ⟨_, rfl⟩
        rw [hV] at kA cA oA ⊢
        have hl : w1.heap.size ≤ V2.heap.size := HK2.out.size
        have hne : Y < V2.heap.size := H82.out.1.lt
        rw [hX] at cA oA hl hne ⊢
        have HK3 : Hid (Kept (fun _ => False) w1 V3) := HK2.out.trans kA (fun _ x => x.elim)
        have HS3 : Hid (V3.cell? ⟨N, 2, none⟩ = some (.slice z.b2 z.n2 z.c2) ∧ V3.cell? ⟨N, 3, none⟩ = some (.slice z.b3 z.n3 z.c3) ∧ V3.cell? ⟨N, 4, none⟩ = some (.int .i64 z.f4) ∧ V3.cell? ⟨N, 5, none⟩ = some (.bool z.o5) ∧ V3.cell? ⟨N, 6, none⟩ = some (.int .i64 z.i6) ∧ V3.cell? ⟨N, 7, none⟩ = some (.int .i64 z.i7) ∧ V3.cell? ⟨N, 8, none⟩ = some (.int .i64 z.i8) ∧ V3.cell? ⟨N, 9, none⟩ = some (.slice z.b9 z.n9 z.c9) ∧ V3.cell? ⟨N, 10, none⟩ = some (.string z.y10) ∧ V3.cell? ⟨w.heap.size, 2, none⟩ = some (.slice go gl gc)) := HSW.out _ HK3.out
        have H73 : Hid (CellsF V3 X [.slice none 0 0, .slice none 0 0, .int .i64 0, .bool false] ∧ Other V3 X ∧ w1.heap.size ≤ X) := ⟨cA, oA, hl⟩
        have H83 : Hid (CellsF V3 Y [.int .i64 0, .int .i64 0, .int .i64 0, .slice none 0 0, .string ⟨#[]⟩] ∧ Other V3 Y ∧ w1.heap.size ≤ Y) := ⟨H82.out.1.step kA, H82.out.2.1.kept kA, H82.out.2.2⟩
        have HXY : Hid (X ≠ Y) := by intro e; omega
        have HP3 : Hid (P2 w1 x V3) := HST.out _ _ _ _ _ HP2.out kA (fun _ x => x.elim)
        clear kA cA oA hl hX hV hne 
        refine hK.out _ _ HS3.out (fun hHeld => ?_)
        clear hK K
        try simp only [Act.put, List.setIfInBounds_toArray, List.set_cons_zero, List.set_cons_succ]
        refine wpAnyH_ready (rs := [17]) (by kernel_rfl) (by simp) ?_
        refine AllReadyH.cons rfl (fun K hK => ?_) AllReadyH.nil
        have u0 := H73.out.1.cs 0 _ rfl
        have u1 := H73.out.1.cs 1 _ rfl
        have u2 := H73.out.1.cs 2 _ rfl
        have u3 := H73.out.1.cs 3 _ rfl
        have uf := H73.out.1.fz
        go_simp
        have kA : Kept (fun i => i = X) V3 ((((V3.setCell ⟨X, 0, none⟩ (.slice x.b2 x.n2 x.c2)).setCell ⟨X, 1, none⟩ (.slice x.b3 x.n3 x.c3)).setCell ⟨X, 2, none⟩ (.int .i64 x.f4)).setCell ⟨X, 3, none⟩ (.bool x.o5)) := set4_kept V3 X _ _ _ _ 
        have cA : CellsF ((((V3.setCell ⟨X, 0, none⟩ (.slice x.b2 x.n2 x.c2)).setCell ⟨X, 1, none⟩ (.slice x.b3 x.n3 x.c3)).setCell ⟨X, 2, none⟩ (.int .i64 x.f4)).setCell ⟨X, 3, none⟩ (.bool x.o5)) X [.slice x.b2 x.n2 x.c2, .slice x.b3 x.n3 x.c3, .int .i64 x.f4, .bool x.o5] := H73.out.1.four rfl _ _ _ _ 
        obtain ⟨V4, hV⟩ : ∃ V, ((((V3.setCell ⟨X, 0, none⟩ (.slice x.b2 x.n2 x.c2)).setCell ⟨X, 1, none⟩ (.slice x.b3 x.n3 x.c3)).setCell ⟨X, 2, none⟩ (.int .i64 x.f4)).setCell ⟨X, 3, none⟩ (.bool x.o5)) = V := ⟨_, rfl⟩
        rw [hV] at kA cA ⊢
        have HK4 : Hid (Kept (fun _ => False) w1 V4) := HK3.out.trans kA (fun i hi => .inr (by rw [hi]; exact H73.out.2.2))
        have HS4 : Hid (V4.cell? ⟨N, 2, none⟩ = some (.slice z.b2 z.n2 z.c2) ∧ V4.cell? ⟨N, 3, none⟩ = some (.slice z.b3 z.n3 z.c3) ∧ V4.cell? ⟨N, 4, none⟩ = some (.int .i64 z.f4) ∧ V4.cell? ⟨N, 5, none⟩ = some (.bool z.o5) ∧ V4.cell? ⟨N, 6, none⟩ = some (.int .i64 z.i6) ∧ V4.cell? ⟨N, 7, none⟩ = some (.int .i64 z.i7) ∧ V4.cell? ⟨N, 8, none⟩ = some (.int .i64 z.i8) ∧ V4.cell? ⟨N, 9, none⟩ = some (.slice z.b9 z.n9 z.c9) ∧ V4.cell? ⟨N, 10, none⟩ = some (.string z.y10) ∧ V4.cell? ⟨w.heap.size, 2, none⟩ = some (.slice go gl gc)) := HSW.out _ HK4.out
        have H74 : Hid (CellsF V4 X [.slice x.b2 x.n2 x.c2, .slice x.b3 x.n3 x.c3, .int .i64 x.f4, .bool x.o5] ∧ w1.heap.size ≤ X) := ⟨cA, H73.out.2.2⟩
        have HP4 : Hid (P2 w1 x V4) := HST.out _ _ _ _ _ HP3.out kA (fun i hi => ⟨by rw [hi]; exact H73.out.2.2, fun _ => by rw [hi]; exact H73.out.2.1⟩)
        have hob : V4.heap[Y]? = V3.heap[Y]? := kA.block Y H83.out.1.lt (fun e => HXY.out e.symm)
        have H84 : Hid (CellsF V4 Y [.int .i64 0, .int .i64 0, .int .i64 0, .slice none 0 0, .string ⟨#[]⟩] ∧ Other V4 Y ∧ w1.heap.size ≤ Y) := ⟨H83.out.1.far hob, by obtain ⟨cur, t, fz, e, q⟩ := H83.out.2.1; exact ⟨cur, t, fz, hob.trans e, q⟩, H83.out.2.2⟩
        clear hob
        clear kA cA hV uf u0 u1 u2 u3
        refine hK.out _ _ HS4.out (fun hHeld => ?_)
        clear hK K
        try simp only [Act.put, List.setIfInBounds_toArray, List.set_cons_zero, List.set_cons_succ]
        refine wpAnyH_ready (rs := [18]) (by kernel_rfl) (by simp) ?_
        refine AllReadyH.cons rfl (fun K hK => ?_) AllReadyH.nil
        have u0 := H84.out.1.cs 0 _ rfl
        have u1 := H84.out.1.cs 1 _ rfl
        have u2 := H84.out.1.cs 2 _ rfl
        have u3 := H84.out.1.cs 3 _ rfl
        have u4 := H84.out.1.cs 4 _ rfl
        have uf := H84.out.1.fz
        go_simp
        have kA : Kept (fun i => i = Y) V4 (((((V4.setCell ⟨Y, 0, none⟩ (.int .i64 x.i6)).setCell ⟨Y, 1, none⟩ (.int .i64 x.i7)).setCell ⟨Y, 2, none⟩ (.int .i64 x.i8)).setCell ⟨Y, 3, none⟩ (.slice x.b9 x.n9 x.c9)).setCell ⟨Y, 4, none⟩ (.string x.y10)) := set5_kept V4 Y _ _ _ _ _ 
        have cA : CellsF (((((V4.setCell ⟨Y, 0, none⟩ (.int .i64 x.i6)).setCell ⟨Y, 1, none⟩ (.int .i64 x.i7)).setCell ⟨Y, 2, none⟩ (.int .i64 x.i8)).setCell ⟨Y, 3, none⟩ (.slice x.b9 x.n9 x.c9)).setCell ⟨Y, 4, none⟩ (.string x.y10)) Y [.int .i64 x.i6, .int .i64 x.i7, .int .i64 x.i8, .slice x.b9 x.n9 x.c9, .string x.y10] := H84.out.1.five rfl _ _ _ _ _ 
        obtain ⟨V5, hV⟩ : ∃ V, (((((V4.setCell ⟨Y, 0, none⟩ (.int .i64 x.i6)).setCell ⟨Y, 1, none⟩ (.int .i64 x.i7)).setCell ⟨Y, 2, none⟩ (.int .i64 x.i8)).setCell ⟨Y, 3, none⟩ (.slice x.b9 x.n9 x.c9)).setCell ⟨Y, 4, none⟩ (.string x.y10)) = V := ⟨_, rfl⟩
        rw [hV] at kA cA ⊢
        have HK5 : Hid (Kept (fun _ => False) w1 V5) := HK4.out.trans kA (fun i hi => .inr (by rw [hi]; exact H84.out.2.2))
        have HS5 : Hid (V5.cell? ⟨N, 2, none⟩ = some (.slice z.b2 z.n2 z.c2) ∧ V5.cell? ⟨N, 3, none⟩ = some (.slice z.b3 z.n3 z.c3) ∧ V5.cell? ⟨N, 4, none⟩ = some (.int .i64 z.f4) ∧ V5.cell? ⟨N, 5, none⟩ = some (.bool z.o5) ∧ V5.cell? ⟨N, 6, none⟩ = some (.int .i64 z.i6) ∧ V5.cell? ⟨N, 7, none⟩ = some (.int .i64 z.i7) ∧ V5.cell? ⟨N, 8, none⟩ = some (.int .i64 z.i8) ∧ V5.cell? ⟨N, 9, none⟩ = some (.slice z.b9 z.n9 z.c9) ∧ V5.cell? ⟨N, 10, none⟩ = some (.string z.y10) ∧ V5.cell? ⟨w.heap.size, 2, none⟩ = some (.slice go gl gc)) := HSW.out _ HK5.out
        have H85 : Hid (CellsF V5 Y [.int .i64 x.i6, .int .i64 x.i7, .int .i64 x.i8, .slice x.b9 x.n9 x.c9, .string x.y10] ∧ w1.heap.size ≤ Y) := ⟨cA, H84.out.2.2⟩
        have HP5 : Hid (P2 w1 x V5) := HST.out _ _ _ _ _ HP4.out kA (fun i hi => ⟨by rw [hi]; exact H84.out.2.2, fun _ => by rw [hi]; exact H84.out.2.1⟩)
        have H75 : Hid (CellsF V5 X [.slice x.b2 x.n2 x.c2, .slice x.b3 x.n3 x.c3, .int .i64 x.f4, .bool x.o5] ∧ w1.heap.size ≤ X) := ⟨H74.out.1.kept kA (fun e => HXY.out e), H74.out.2⟩
        clear kA cA hV uf u0 u1 u2 u3 u4
        refine hK.out _ _ HS5.out (fun hHeld => ?_)
        clear hK K
        try simp only [Act.put, List.setIfInBounds_toArray, List.set_cons_zero, List.set_cons_succ]
        refine wpAnyH_take (i := 19) (oi := { dst := some 9, op := Op.assign (Operand.tmp 55), type := 23, pos := "law.go:119", after := #[{ on := 14, ground := Ground.data }, { on := 18, ground := Ground.chain }, { on := 0, ground := Ground.phase }, { on := 1, ground := Ground.phase }, { on := 2, ground := Ground.phase }, { on := 3, ground := Ground.phase }, { on := 4, ground := Ground.phase }, { on := 5, ground := Ground.phase }, { on := 6, ground := Ground.phase }, { on := 7, ground := Ground.phase }, { on := 8, ground := Ground.phase }, { on := 9, ground := Ground.phase }, { on := 10, ground := Ground.phase }, { on := 11, ground := Ground.phase }, { on := 12, ground := Ground.phase }, { on := 13, ground := Ground.phase }, { on := 14, ground := Ground.phase }, { on := 15, ground := Ground.phase }, { on := 16, ground := Ground.phase }, { on := 17, ground := Ground.phase }, { on := 18, ground := Ground.phase }], guard := none }) (v := .int .i64 cc) rfl (by kernel_rfl) (by kernel_rfl) (by kernel_rfl) (fun _ _ _ h => h) (Or.inl ⟨by rfl, ?_⟩) (by with_reducible assumption) ?_
        · intro wx hSw
          (try dsimp only at hSw)
          first | (go_simp; done) | (go_simp; with_reducible rfl)
        try simp only [Act.put, List.setIfInBounds_toArray, List.set_cons_zero, List.set_cons_succ]
        refine wpAnyH_done (by kernel_rfl) ?_ _
        try simp only [Exit.then]
        refine j4 _ _ ?_
        refine j3 _ _ ?_
        (repeat apply Exists.intro)
        refine ⟨?_, rfl⟩
        exact ⟨X, Y, x, rfl, rfl, rfl, H75.out.1, H85.out.1, HP5.out, HK5.out, H75.out.2, H85.out.2⟩
      · skip
        go_simp
        have kA : Kept (fun _ => False) V1 (V1.alloc (.cells #[.slice none 0 0, .slice none 0 0, .int .i64 0, .bool false] 37)) := (Kept.refl _ _).alloc _
        have cA : CellsF (V1.alloc (.cells #[.slice none 0 0, .slice none 0 0, .int .i64 0, .bool false] 37)) V1.heap.size [.slice none 0 0, .slice none 0 0, .int .i64 0, .bool false] := CellsF.new V1 [.slice none 0 0, .slice none 0 0, .int .i64 0, .bool false] 37 (by simp)
        have oA : Other (V1.alloc (.cells #[.slice none 0 0, .slice none 0 0, .int .i64 0, .bool false] 37)) V1.heap.size := ⟨_, 37, (0, 0), heap_alloc_new V1 _, by decide, by decide⟩
        obtain ⟨V2, hV⟩ : ∃ V, V1.alloc (.cells #[.slice none 0 0, .slice none 0 0, .int .i64 0, .bool false] 37) = V := ⟨_, rfl⟩
        obtain ⟨X, hX⟩ : ∃ X, V1.heap.size = X := ⟨_, rfl⟩
        rw [hV] at kA cA oA ⊢
        have hl : w1.heap.size ≤ V1.heap.size := HK1.out.size
        have hne : Y < V1.heap.size := H81.out.1.lt
        rw [hX] at cA oA hl hne ⊢
        have HK2 : Hid (Kept (fun _ => False) w1 V2) := HK1.out.trans kA (fun _ x => x.elim)
        have HS2 : Hid (V2.cell? ⟨N, 2, none⟩ = some (.slice z.b2 z.n2 z.c2) ∧ V2.cell? ⟨N, 3, none⟩ = some (.slice z.b3 z.n3 z.c3) ∧ V2.cell? ⟨N, 4, none⟩ = some (.int .i64 z.f4) ∧ V2.cell? ⟨N, 5, none⟩ = some (.bool z.o5) ∧ V2.cell? ⟨N, 6, none⟩ = some (.int .i64 z.i6) ∧ V2.cell? ⟨N, 7, none⟩ = some (.int .i64 z.i7) ∧ V2.cell? ⟨N, 8, none⟩ = some (.int .i64 z.i8) ∧ V2.cell? ⟨N, 9, none⟩ = some (.slice z.b9 z.n9 z.c9) ∧ V2.cell? ⟨N, 10, none⟩ = some (.string z.y10) ∧ V2.cell? ⟨w.heap.size, 2, none⟩ = some (.slice go gl gc)) := HSW.out _ HK2.out
        have H72 : Hid (CellsF V2 X [.slice none 0 0, .slice none 0 0, .int .i64 0, .bool false] ∧ Other V2 X ∧ w1.heap.size ≤ X) := ⟨cA, oA, hl⟩
        have H82 : Hid (CellsF V2 Y [.int .i64 0, .int .i64 0, .int .i64 0, .slice none 0 0, .string ⟨#[]⟩] ∧ Other V2 Y ∧ w1.heap.size ≤ Y) := ⟨H81.out.1.step kA, H81.out.2.1.kept kA, H81.out.2.2⟩
        have HXY : Hid (X ≠ Y) := by intro e; omega
        clear kA cA oA hl hX hV hne 
        refine hK.out _ _ HS2.out (fun hHeld => ?_)
        clear hK K
        try simp only [Act.put, List.setIfInBounds_toArray, List.set_cons_zero, List.set_cons_succ]
        refine wpAnyH_ready (rs := [10]) (by kernel_rfl) (by simp) ?_
        refine AllReadyH.cons rfl (fun K hK => ?_) AllReadyH.nil
        go_simp
        refine Calls.mono (HC42.out _ HK2.out) ?_
        rintro e V3 ⟨x, rfl, HM3, hS3⟩
        have HK3 : Hid (Kept (fun _ => False) w1 V3) := HM3.out.2.2
        have HS3 : Hid (V3.cell? ⟨N, 2, none⟩ = some (.slice z.b2 z.n2 z.c2) ∧ V3.cell? ⟨N, 3, none⟩ = some (.slice z.b3 z.n3 z.c3) ∧ V3.cell? ⟨N, 4, none⟩ = some (.int .i64 z.f4) ∧ V3.cell? ⟨N, 5, none⟩ = some (.bool z.o5) ∧ V3.cell? ⟨N, 6, none⟩ = some (.int .i64 z.i6) ∧ V3.cell? ⟨N, 7, none⟩ = some (.int .i64 z.i7) ∧ V3.cell? ⟨N, 8, none⟩ = some (.int .i64 z.i8) ∧ V3.cell? ⟨N, 9, none⟩ = some (.slice z.b9 z.n9 z.c9) ∧ V3.cell? ⟨N, 10, none⟩ = some (.string z.y10) ∧ V3.cell? ⟨w.heap.size, 2, none⟩ = some (.slice go gl gc)) := hS3
        have HP3 : Hid (P2 w1 x V3) := HM3.out.1
        have H83 : Hid (CellsF V3 Y [.int .i64 0, .int .i64 0, .int .i64 0, .slice none 0 0, .string ⟨#[]⟩] ∧ Other V3 Y ∧ w1.heap.size ≤ Y) := ⟨H82.out.1.step HM3.out.2.1, H82.out.2.1.kept HM3.out.2.1, H82.out.2.2⟩
        have H73 : Hid (CellsF V3 X [.slice none 0 0, .slice none 0 0, .int .i64 0, .bool false] ∧ Other V3 X ∧ w1.heap.size ≤ X) := ⟨H72.out.1.step HM3.out.2.1, H72.out.2.1.kept HM3.out.2.1, H72.out.2.2⟩
        clear HM3 hS3
        refine hK.out _ _ HS3.out (fun hHeld => ?_)
        clear hK K
        try simp only [Act.put, List.setIfInBounds_toArray, List.set_cons_zero, List.set_cons_succ]
        refine wpAnyH_take (i := 11) (oi := { dst := some 41, op := Op.move (Operand.tmp 52), type := 92, pos := "law.go:119", after := #[{ on := 10, ground := Ground.data }], guard := none }) (v := .tuple #[.agg #[.slice x.b2 x.n2 x.c2, .slice x.b3 x.n3 x.c3, .int .i64 x.f4, .bool x.o5], .agg #[.int .i64 x.i6, .int .i64 x.i7, .int .i64 x.i8, .slice x.b9 x.n9 x.c9, .string x.y10], .int .i64 cc]) rfl (by kernel_rfl) (by kernel_rfl) (by kernel_rfl) (fun _ _ _ h => h) (Or.inl ⟨by rfl, ?_⟩) (by with_reducible assumption) ?_
        · intro wx hSw
          (try dsimp only at hSw)
          first | (go_simp; done) | (go_simp; with_reducible rfl)
        try simp only [Act.put, List.setIfInBounds_toArray, List.set_cons_zero, List.set_cons_succ]
        refine wpAnyH_take (i := 12) (oi := { dst := some 53, op := Op.extract (Operand.tmp 41) 0, type := 37, pos := "law.go:119", after := #[{ on := 11, ground := Ground.data }], guard := none }) (v := .agg #[.slice x.b2 x.n2 x.c2, .slice x.b3 x.n3 x.c3, .int .i64 x.f4, .bool x.o5]) rfl (by kernel_rfl) (by kernel_rfl) (by kernel_rfl) (fun _ _ _ h => h) (Or.inl ⟨by rfl, ?_⟩) (by with_reducible assumption) ?_
        · intro wx hSw
          (try dsimp only at hSw)
          first | (go_simp; done) | (go_simp; with_reducible rfl)
        try simp only [Act.put, List.setIfInBounds_toArray, List.set_cons_zero, List.set_cons_succ]
        refine wpAnyH_take (i := 13) (oi := { dst := some 54, op := Op.extract (Operand.tmp 41) 1, type := 44, pos := "law.go:119", after := #[{ on := 11, ground := Ground.data }, { on := 17, ground := Ground.gcOnly Departure.lateStores }], guard := none }) (v := .agg #[.int .i64 x.i6, .int .i64 x.i7, .int .i64 x.i8, .slice x.b9 x.n9 x.c9, .string x.y10]) rfl (by kernel_rfl) (by kernel_rfl) (by kernel_rfl) (fun _ _ _ h => h) (Or.inl ⟨by rfl, ?_⟩) (by with_reducible assumption) ?_
        · intro wx hSw
          (try dsimp only at hSw)
          first | (go_simp; done) | (go_simp; with_reducible rfl)
        try simp only [Act.put, List.setIfInBounds_toArray, List.set_cons_zero, List.set_cons_succ]
        refine wpAnyH_take (i := 14) (oi := { dst := some 55, op := Op.extract (Operand.tmp 41) 2, type := 23, pos := "law.go:119", after := #[{ on := 11, ground := Ground.data }, { on := 18, ground := Ground.gcOnly Departure.lateStores }], guard := none }) (v := .int .i64 cc) rfl (by kernel_rfl) (by kernel_rfl) (by kernel_rfl) (fun _ _ _ h => h) (Or.inl ⟨by rfl, ?_⟩) (by with_reducible assumption) ?_
        · intro wx hSw
          (try dsimp only at hSw)
          first | (go_simp; done) | (go_simp; with_reducible rfl)
        try simp only [Act.put, List.setIfInBounds_toArray, List.set_cons_zero, List.set_cons_succ]
        refine wpAnyH_ready (rs := [17]) (by kernel_rfl) (by simp) ?_
        refine AllReadyH.cons rfl (fun K hK => ?_) AllReadyH.nil
        have u0 := H73.out.1.cs 0 _ rfl
        have u1 := H73.out.1.cs 1 _ rfl
        have u2 := H73.out.1.cs 2 _ rfl
        have u3 := H73.out.1.cs 3 _ rfl
        have uf := H73.out.1.fz
        go_simp
        have kA : Kept (fun i => i = X) V3 ((((V3.setCell ⟨X, 0, none⟩ (.slice x.b2 x.n2 x.c2)).setCell ⟨X, 1, none⟩ (.slice x.b3 x.n3 x.c3)).setCell ⟨X, 2, none⟩ (.int .i64 x.f4)).setCell ⟨X, 3, none⟩ (.bool x.o5)) := set4_kept V3 X _ _ _ _ 
        have cA : CellsF ((((V3.setCell ⟨X, 0, none⟩ (.slice x.b2 x.n2 x.c2)).setCell ⟨X, 1, none⟩ (.slice x.b3 x.n3 x.c3)).setCell ⟨X, 2, none⟩ (.int .i64 x.f4)).setCell ⟨X, 3, none⟩ (.bool x.o5)) X [.slice x.b2 x.n2 x.c2, .slice x.b3 x.n3 x.c3, .int .i64 x.f4, .bool x.o5] := H73.out.1.four rfl _ _ _ _ 
        obtain ⟨V4, hV⟩ : ∃ V, ((((V3.setCell ⟨X, 0, none⟩ (.slice x.b2 x.n2 x.c2)).setCell ⟨X, 1, none⟩ (.slice x.b3 x.n3 x.c3)).setCell ⟨X, 2, none⟩ (.int .i64 x.f4)).setCell ⟨X, 3, none⟩ (.bool x.o5)) = V := ⟨_, rfl⟩
        rw [hV] at kA cA ⊢
        have HK4 : Hid (Kept (fun _ => False) w1 V4) := HK3.out.trans kA (fun i hi => .inr (by rw [hi]; exact H73.out.2.2))
        have HS4 : Hid (V4.cell? ⟨N, 2, none⟩ = some (.slice z.b2 z.n2 z.c2) ∧ V4.cell? ⟨N, 3, none⟩ = some (.slice z.b3 z.n3 z.c3) ∧ V4.cell? ⟨N, 4, none⟩ = some (.int .i64 z.f4) ∧ V4.cell? ⟨N, 5, none⟩ = some (.bool z.o5) ∧ V4.cell? ⟨N, 6, none⟩ = some (.int .i64 z.i6) ∧ V4.cell? ⟨N, 7, none⟩ = some (.int .i64 z.i7) ∧ V4.cell? ⟨N, 8, none⟩ = some (.int .i64 z.i8) ∧ V4.cell? ⟨N, 9, none⟩ = some (.slice z.b9 z.n9 z.c9) ∧ V4.cell? ⟨N, 10, none⟩ = some (.string z.y10) ∧ V4.cell? ⟨w.heap.size, 2, none⟩ = some (.slice go gl gc)) := HSW.out _ HK4.out
        have H74 : Hid (CellsF V4 X [.slice x.b2 x.n2 x.c2, .slice x.b3 x.n3 x.c3, .int .i64 x.f4, .bool x.o5] ∧ w1.heap.size ≤ X) := ⟨cA, H73.out.2.2⟩
        have HP4 : Hid (P2 w1 x V4) := HST.out _ _ _ _ _ HP3.out kA (fun i hi => ⟨by rw [hi]; exact H73.out.2.2, fun _ => by rw [hi]; exact H73.out.2.1⟩)
        have hob : V4.heap[Y]? = V3.heap[Y]? := kA.block Y H83.out.1.lt (fun e => HXY.out e.symm)
        have H84 : Hid (CellsF V4 Y [.int .i64 0, .int .i64 0, .int .i64 0, .slice none 0 0, .string ⟨#[]⟩] ∧ Other V4 Y ∧ w1.heap.size ≤ Y) := ⟨H83.out.1.far hob, by obtain ⟨cur, t, fz, e, q⟩ := H83.out.2.1; exact ⟨cur, t, fz, hob.trans e, q⟩, H83.out.2.2⟩
        clear hob
        clear kA cA hV uf u0 u1 u2 u3
        refine hK.out _ _ HS4.out (fun hHeld => ?_)
        clear hK K
        try simp only [Act.put, List.setIfInBounds_toArray, List.set_cons_zero, List.set_cons_succ]
        refine wpAnyH_ready (rs := [18]) (by kernel_rfl) (by simp) ?_
        refine AllReadyH.cons rfl (fun K hK => ?_) AllReadyH.nil
        have u0 := H84.out.1.cs 0 _ rfl
        have u1 := H84.out.1.cs 1 _ rfl
        have u2 := H84.out.1.cs 2 _ rfl
        have u3 := H84.out.1.cs 3 _ rfl
        have u4 := H84.out.1.cs 4 _ rfl
        have uf := H84.out.1.fz
        go_simp
        have kA : Kept (fun i => i = Y) V4 (((((V4.setCell ⟨Y, 0, none⟩ (.int .i64 x.i6)).setCell ⟨Y, 1, none⟩ (.int .i64 x.i7)).setCell ⟨Y, 2, none⟩ (.int .i64 x.i8)).setCell ⟨Y, 3, none⟩ (.slice x.b9 x.n9 x.c9)).setCell ⟨Y, 4, none⟩ (.string x.y10)) := set5_kept V4 Y _ _ _ _ _ 
        have cA : CellsF (((((V4.setCell ⟨Y, 0, none⟩ (.int .i64 x.i6)).setCell ⟨Y, 1, none⟩ (.int .i64 x.i7)).setCell ⟨Y, 2, none⟩ (.int .i64 x.i8)).setCell ⟨Y, 3, none⟩ (.slice x.b9 x.n9 x.c9)).setCell ⟨Y, 4, none⟩ (.string x.y10)) Y [.int .i64 x.i6, .int .i64 x.i7, .int .i64 x.i8, .slice x.b9 x.n9 x.c9, .string x.y10] := H84.out.1.five rfl _ _ _ _ _ 
        obtain ⟨V5, hV⟩ : ∃ V, (((((V4.setCell ⟨Y, 0, none⟩ (.int .i64 x.i6)).setCell ⟨Y, 1, none⟩ (.int .i64 x.i7)).setCell ⟨Y, 2, none⟩ (.int .i64 x.i8)).setCell ⟨Y, 3, none⟩ (.slice x.b9 x.n9 x.c9)).setCell ⟨Y, 4, none⟩ (.string x.y10)) = V := ⟨_, rfl⟩
        rw [hV] at kA cA ⊢
        have HK5 : Hid (Kept (fun _ => False) w1 V5) := HK4.out.trans kA (fun i hi => .inr (by rw [hi]; exact H84.out.2.2))
        have HS5 : Hid (V5.cell? ⟨N, 2, none⟩ = some (.slice z.b2 z.n2 z.c2) ∧ V5.cell? ⟨N, 3, none⟩ = some (.slice z.b3 z.n3 z.c3) ∧ V5.cell? ⟨N, 4, none⟩ = some (.int .i64 z.f4) ∧ V5.cell? ⟨N, 5, none⟩ = some (.bool z.o5) ∧ V5.cell? ⟨N, 6, none⟩ = some (.int .i64 z.i6) ∧ V5.cell? ⟨N, 7, none⟩ = some (.int .i64 z.i7) ∧ V5.cell? ⟨N, 8, none⟩ = some (.int .i64 z.i8) ∧ V5.cell? ⟨N, 9, none⟩ = some (.slice z.b9 z.n9 z.c9) ∧ V5.cell? ⟨N, 10, none⟩ = some (.string z.y10) ∧ V5.cell? ⟨w.heap.size, 2, none⟩ = some (.slice go gl gc)) := HSW.out _ HK5.out
        have H85 : Hid (CellsF V5 Y [.int .i64 x.i6, .int .i64 x.i7, .int .i64 x.i8, .slice x.b9 x.n9 x.c9, .string x.y10] ∧ w1.heap.size ≤ Y) := ⟨cA, H84.out.2.2⟩
        have HP5 : Hid (P2 w1 x V5) := HST.out _ _ _ _ _ HP4.out kA (fun i hi => ⟨by rw [hi]; exact H84.out.2.2, fun _ => by rw [hi]; exact H84.out.2.1⟩)
        have H75 : Hid (CellsF V5 X [.slice x.b2 x.n2 x.c2, .slice x.b3 x.n3 x.c3, .int .i64 x.f4, .bool x.o5] ∧ w1.heap.size ≤ X) := ⟨H74.out.1.kept kA (fun e => HXY.out e), H74.out.2⟩
        clear kA cA hV uf u0 u1 u2 u3 u4
        refine hK.out _ _ HS5.out (fun hHeld => ?_)
        clear hK K
        try simp only [Act.put, List.setIfInBounds_toArray, List.set_cons_zero, List.set_cons_succ]
        refine wpAnyH_take (i := 19) (oi := { dst := some 9, op := Op.assign (Operand.tmp 55), type := 23, pos := "law.go:119", after := #[{ on := 14, ground := Ground.data }, { on := 18, ground := Ground.chain }, { on := 0, ground := Ground.phase }, { on := 1, ground := Ground.phase }, { on := 2, ground := Ground.phase }, { on := 3, ground := Ground.phase }, { on := 4, ground := Ground.phase }, { on := 5, ground := Ground.phase }, { on := 6, ground := Ground.phase }, { on := 7, ground := Ground.phase }, { on := 8, ground := Ground.phase }, { on := 9, ground := Ground.phase }, { on := 10, ground := Ground.phase }, { on := 11, ground := Ground.phase }, { on := 12, ground := Ground.phase }, { on := 13, ground := Ground.phase }, { on := 14, ground := Ground.phase }, { on := 15, ground := Ground.phase }, { on := 16, ground := Ground.phase }, { on := 17, ground := Ground.phase }, { on := 18, ground := Ground.phase }], guard := none }) (v := .int .i64 cc) rfl (by kernel_rfl) (by kernel_rfl) (by kernel_rfl) (fun _ _ _ h => h) (Or.inl ⟨by rfl, ?_⟩) (by with_reducible assumption) ?_
        · intro wx hSw
          (try dsimp only at hSw)
          first | (go_simp; done) | (go_simp; with_reducible rfl)
        try simp only [Act.put, List.setIfInBounds_toArray, List.set_cons_zero, List.set_cons_succ]
        refine wpAnyH_done (by kernel_rfl) ?_ _
        try simp only [Exit.then]
        refine j4 _ _ ?_
        refine j3 _ _ ?_
        (repeat apply Exists.intro)
        refine ⟨?_, rfl⟩
        exact ⟨X, Y, x, rfl, rfl, rfl, H75.out.1, H85.out.1, HP5.out, HK5.out, H75.out.2, H85.out.2⟩
  obtain ⟨X, Y, x, rfl, rfl, rfl, HX⟩ := hcut
  rename_i hK0
  refine hK0 _ _ ?_
  clear hK0
  have HNC : Hid (CellsF wc N [.pointer (some ⟨p, 0, none⟩), .pointer (some ⟨q, 0, none⟩), .slice z.b2 z.n2 z.c2, .slice z.b3 z.n3 z.c3, .int .i64 z.f4, .bool z.o5, .int .i64 z.i6, .int .i64 z.i7, .int .i64 z.i8, .slice z.b9 z.n9 z.c9, .string z.y10, .int .i64 e11, .int .i64 e12] ∧ CellsF wc w.heap.size [.int .i64 1, .int .i64 nn, .slice go gl gc, .slice ko kl kc, .bool mo]) := ⟨HNb.out.1.step HX.out.2.2.2.1, HNb.out.2.1.step HX.out.2.2.2.1⟩
  have kk := set9_kept wc N (.slice x.b2 x.n2 x.c2) (.slice x.b3 x.n3 x.c3) (.int .i64 x.f4) (.bool x.o5) (.int .i64 x.i6) (.int .i64 x.i7) (.int .i64 x.i8) (.slice x.b9 x.n9 x.c9) (.string x.y10)
  have hC9 : CellsF (((((((((wc.setCell ⟨N, 2, none⟩ (.slice x.b2 x.n2 x.c2)).setCell ⟨N, 3, none⟩ (.slice x.b3 x.n3 x.c3)).setCell ⟨N, 4, none⟩ (.int .i64 x.f4)).setCell ⟨N, 5, none⟩ (.bool x.o5)).setCell ⟨N, 6, none⟩ (.int .i64 x.i6)).setCell ⟨N, 7, none⟩ (.int .i64 x.i7)).setCell ⟨N, 8, none⟩ (.int .i64 x.i8)).setCell ⟨N, 9, none⟩ (.slice x.b9 x.n9 x.c9)).setCell ⟨N, 10, none⟩ (.string x.y10)) N [.pointer (some ⟨p, 0, none⟩), .pointer (some ⟨q, 0, none⟩), .slice x.b2 x.n2 x.c2, .slice x.b3 x.n3 x.c3, .int .i64 x.f4, .bool x.o5, .int .i64 x.i6, .int .i64 x.i7, .int .i64 x.i8, .slice x.b9 x.n9 x.c9, .string x.y10, .int .i64 e11, .int .i64 e12] := ((((((((HNC.out.1.set 2 _ (by simp)).set 3 _ (by simp)).set 4 _ (by simp)).set 5 _ (by simp)).set 6 _ (by simp)).set 7 _ (by simp)).set 8 _ (by simp)).set 9 _ (by simp)).set 10 _ (by simp)
  have hO9 : Other (((((((((wc.setCell ⟨N, 2, none⟩ (.slice x.b2 x.n2 x.c2)).setCell ⟨N, 3, none⟩ (.slice x.b3 x.n3 x.c3)).setCell ⟨N, 4, none⟩ (.int .i64 x.f4)).setCell ⟨N, 5, none⟩ (.bool x.o5)).setCell ⟨N, 6, none⟩ (.int .i64 x.i6)).setCell ⟨N, 7, none⟩ (.int .i64 x.i7)).setCell ⟨N, 8, none⟩ (.int .i64 x.i8)).setCell ⟨N, 9, none⟩ (.slice x.b9 x.n9 x.c9)).setCell ⟨N, 10, none⟩ (.string x.y10)) N := (((((((((HNb.out.2.2.kept HX.out.2.2.2.1).set 2 _).set 3 _).set 4 _).set 5 _).set 6 _).set 7 _).set 8 _).set 9 _).set 10 _
  obtain ⟨W3, hW3⟩ : ∃ W3, (((((((((wc.setCell ⟨N, 2, none⟩ (.slice x.b2 x.n2 x.c2)).setCell ⟨N, 3, none⟩ (.slice x.b3 x.n3 x.c3)).setCell ⟨N, 4, none⟩ (.int .i64 x.f4)).setCell ⟨N, 5, none⟩ (.bool x.o5)).setCell ⟨N, 6, none⟩ (.int .i64 x.i6)).setCell ⟨N, 7, none⟩ (.int .i64 x.i7)).setCell ⟨N, 8, none⟩ (.int .i64 x.i8)).setCell ⟨N, 9, none⟩ (.slice x.b9 x.n9 x.c9)).setCell ⟨N, 10, none⟩ (.string x.y10)) = W3 := ⟨_, rfl⟩
  have HW3 : Hid ((((((((((wc.setCell ⟨N, 2, none⟩ (.slice x.b2 x.n2 x.c2)).setCell ⟨N, 3, none⟩ (.slice x.b3 x.n3 x.c3)).setCell ⟨N, 4, none⟩ (.int .i64 x.f4)).setCell ⟨N, 5, none⟩ (.bool x.o5)).setCell ⟨N, 6, none⟩ (.int .i64 x.i6)).setCell ⟨N, 7, none⟩ (.int .i64 x.i7)).setCell ⟨N, 8, none⟩ (.int .i64 x.i8)).setCell ⟨N, 9, none⟩ (.slice x.b9 x.n9 x.c9)).setCell ⟨N, 10, none⟩ (.string x.y10)) = W3) := hW3
  rw [hW3] at kk hC9 hO9
  have hNX : ¬ X = N := fun e => by have h1 := HX.out.2.2.2.2.1; have h2 := HNb.out.1.lt; omega
  have hNY : ¬ Y = N := fun e => by have h1 := HX.out.2.2.2.2.2; have h2 := HNb.out.1.lt; omega
  have hXN : ¬ N = X := fun e => hNX e.symm
  have hYN : ¬ N = Y := fun e => hNY e.symm
  have HN3 : Hid (CellsF W3 N [.pointer (some ⟨p, 0, none⟩), .pointer (some ⟨q, 0, none⟩), .slice x.b2 x.n2 x.c2, .slice x.b3 x.n3 x.c3, .int .i64 x.f4, .bool x.o5, .int .i64 x.i6, .int .i64 x.i7, .int .i64 x.i8, .slice x.b9 x.n9 x.c9, .string x.y10, .int .i64 e11, .int .i64 e12] ∧ CellsF W3 w.heap.size [.int .i64 1, .int .i64 nn, .slice go gl gc, .slice ko kl kc, .bool mo] ∧ Other W3 N) := ⟨hC9, HNC.out.2.kept kk (fun e => by have := HNL.out; omega), hO9⟩
  have HT1 : Hid (cc = 30 → Calls Try.prog 45 #[.pointer (some ⟨N, 0, none⟩), .slice ko kl kc, .int .i64 x.i8] W3.drew fun e w' => e = .returned (.bool true) ∧ Hid (Q w')) := (H3.out w1 x wc W3.drew HM1.out HX.out.2.2.1 HX.out.2.2.2.1 kk.drew (hC9.far rfl) (HN3.out.2.1.far rfl) hO9).1
  have HT2 : Hid (cc ≠ 30 → Calls Try.prog 41 #[.pointer (some ⟨N, 0, none⟩)] W3 fun e w' => e = .returned (.bool true) ∧ Hid (Q w')) := (H3.out w1 x wc W3 HM1.out HX.out.2.2.1 HX.out.2.2.2.1 kk HN3.out.1 HN3.out.2.1 HN3.out.2.2).2
  have x0 := HX.out.1.cs 0 _ rfl
  have x1 := HX.out.1.cs 1 _ rfl
  have x2 := HX.out.1.cs 2 _ rfl
  have x3 := HX.out.1.cs 3 _ rfl
  have z0 := HX.out.2.1.cs 0 _ rfl
  have z1 := HX.out.2.1.cs 1 _ rfl
  have z2 := HX.out.2.1.cs 2 _ rfl
  have z3 := HX.out.2.1.cs 3 _ rfl
  have z4 := HX.out.2.1.cs 4 _ rfl
  have y2 := HNC.out.1.cs 2 _ rfl
  have y3 := HNC.out.1.cs 3 _ rfl
  have y4 := HNC.out.1.cs 4 _ rfl
  have y5 := HNC.out.1.cs 5 _ rfl
  have y6 := HNC.out.1.cs 6 _ rfl
  have y7 := HNC.out.1.cs 7 _ rfl
  have y8 := HNC.out.1.cs 8 _ rfl
  have y9 := HNC.out.1.cs 9 _ rfl
  have y10 := HNC.out.1.cs 10 _ rfl
  have yf := HNC.out.1.fz
  clear kk hC9 hO9 hW3 H3 HM1 HX HNC HNb HSW HC42 HS0 HK0 HST HP1
  go_upto_region 21 with fail
  rw [HW3.out]
  clear HW3 x0 x1 x2 x3 z0 z1 z2 z3 z4 yf hNX hNY hXN hYN y2 y3 y4 y5 y6 y7 y8 y9 y10
  by_cases h30 : cc = 30
  · have HTA : Hid (Calls Try.prog 45 #[.pointer (some ⟨N, 0, none⟩), .slice ko kl kc, .int .i64 x.i8] W3.drew fun e w' => e = .returned (.bool true) ∧ Hid (Q w')) := HT1.out h30
    subst h30
    have z3 := HN3.out.2.1.cs 3 _ rfl
    have z8 := HN3.out.1.cs 8 _ rfl
    clear HT1 HT2 HN3
    go_wp2_with fail
    go_region_with (first | ((with_reducible refine Calls.mono HTA.out ?_); rintro e w9 ⟨rfl, HQ⟩; clear z3 z8 HTA))
    all_goals (try simp only [Exit.then])
    all_goals go_wp2_with fail
    all_goals go_ret
    all_goals exact ⟨rfl, HQ.out⟩
  · have b30 : (cc == 30) = false := by simpa using h30
    have HTB : Hid (Calls Try.prog 41 #[.pointer (some ⟨N, 0, none⟩)] W3 fun e w' => e = .returned (.bool true) ∧ Hid (Q w')) := HT2.out h30
    clear HT1 HT2 HN3
    go_wp2_with fail
    refine Calls.mono HTB.out ?_; rintro e w9 ⟨rfl, HQ⟩
    go_wp2_with fail
    go_ret
    exact ⟨rfl, HQ.out⟩
end Go.Proofs.Ythfhjfemcmdmfaa
