/- does: Sync, as a rule. -/
import Derived.Test.YthfhjfemcmdmfaaDoA
namespace Go.Proofs.Ythfhjfemcmdmfaa
open Go.ChangeShapes Go.WideShapes Go.ChangeAt Go.RowKit
set_option linter.unusedVariables false
set_option maxRecDepth 100000

set_option maxHeartbeats 4000000 in
theorem does_sync {w : World} {N p q gl gc kl kc : Nat} {nn e11 e12 cc : Int} {go ko : Option Addr} {mo : Bool} {z : Rs} {Q : World → Prop} {P1 : World → Prop} {P2 : World → Rs → World → Prop} (hN : CellsF w N [.pointer (some ⟨p, 0, none⟩), .pointer (some ⟨q, 0, none⟩), .slice z.b2 z.n2 z.c2, .slice z.b3 z.n3 z.c3, .int .i64 z.f4, .bool z.o5, .int .i64 z.i6, .int .i64 z.i7, .int .i64 z.i8, .slice z.b9 z.n9 z.c9, .string z.y10, .int .i64 e11, .int .i64 e12])
    (h1 : Calls Try.prog 22 #[.pointer (some ⟨q, 0, none⟩)] (w.alloc (.cells #[.int .i64 2, .int .i64 nn, .slice go gl gc, .slice ko kl kc, .bool mo] 53)) fun e w' => e = .returned (.int .i64 cc) ∧ P1 w')
    (hP1 : ∀ w1, P1 w1 → CellsF w1 N [.pointer (some ⟨p, 0, none⟩), .pointer (some ⟨q, 0, none⟩), .slice z.b2 z.n2 z.c2, .slice z.b3 z.n3 z.c3, .int .i64 z.f4, .bool z.o5, .int .i64 z.i6, .int .i64 z.i7, .int .i64 z.i8, .slice z.b9 z.n9 z.c9, .string z.y10, .int .i64 e11, .int .i64 e12] ∧ CellsF w1 w.heap.size [.int .i64 2, .int .i64 nn, .slice go gl gc, .slice ko kl kc, .bool mo] ∧ Other w1 N)
    (h2 : ∀ w1, P1 w1 → Calls Try.prog 43 #[.agg #[.slice z.b2 z.n2 z.c2, .slice z.b3 z.n3 z.c3, .int .i64 z.f4, .bool z.o5]] w1 fun e w2 => ∃ x : Rs, e = .returned (.tuple #[.agg #[.slice x.b2 x.n2 x.c2, .slice x.b3 x.n3 x.c3, .int .i64 x.f4, .bool x.o5], .int .i64 cc]) ∧ P2 w1 x w2 ∧ Kept (fun _ => False) w1 w2)
    (h3 : ∀ w1 x w2 W', P1 w1 → P2 w1 x w2 → Kept (fun _ => False) w1 w2 → Kept (fun i => i = N) w2 W' → CellsF W' N [.pointer (some ⟨p, 0, none⟩), .pointer (some ⟨q, 0, none⟩), .slice x.b2 x.n2 x.c2, .slice x.b3 x.n3 x.c3, .int .i64 x.f4, .bool x.o5, .int .i64 z.i6, .int .i64 z.i7, .int .i64 z.i8, .slice z.b9 z.n9 z.c9, .string z.y10, .int .i64 e11, .int .i64 e12] → CellsF W' w.heap.size [.int .i64 2, .int .i64 nn, .slice go gl gc, .slice ko kl kc, .bool mo] → Other W' N → (cc = 30 → Calls Try.prog 45 #[.pointer (some ⟨N, 0, none⟩), .slice ko kl kc, .int .i64 z.i8] W' fun e w' => e = .returned (.bool true) ∧ Q w') ∧ (cc ≠ 30 → Calls Try.prog 41 #[.pointer (some ⟨N, 0, none⟩)] W' fun e w' => e = .returned (.bool true) ∧ Q w')) :
    Calls Try.prog 19 #[.pointer (some ⟨N, 0, none⟩), .agg #[.int .i64 2, .int .i64 nn, .slice go gl gc, .slice ko kl kc, .bool mo]] w fun e w' => e = .returned (.bool true) ∧ Q w' := by
  obtain ⟨W1, hW1⟩ : ∃ W1, w.alloc (.cells #[.int .i64 2, .int .i64 nn, .slice go gl gc, .slice ko kl kc, .bool mo] 53) = W1 := ⟨_, rfl⟩
  have k1 : Kept (fun _ => False) w W1 := hW1 ▸ (Kept.refl _ w).alloc _
  have HBX : Hid (CellsF W1 w.heap.size [.int .i64 2, .int .i64 nn, .slice go gl gc, .slice ko kl kc, .bool mo]) := hW1 ▸ CellsF.new w [.int .i64 2, .int .i64 nn, .slice go gl gc, .slice ko kl kc, .bool mo] 53 (by simp)
  have HN1 : Hid (CellsF W1 N [.pointer (some ⟨p, 0, none⟩), .pointer (some ⟨q, 0, none⟩), .slice z.b2 z.n2 z.c2, .slice z.b3 z.n3 z.c3, .int .i64 z.f4, .bool z.o5, .int .i64 z.i6, .int .i64 z.i7, .int .i64 z.i8, .slice z.b9 z.n9 z.c9, .string z.y10, .int .i64 e11, .int .i64 e12]) := hN.step k1
  have HNL : Hid (N < w.heap.size) := hN.lt
  have HW1 : Hid (w.alloc (.cells #[.int .i64 2, .int .i64 nn, .slice go gl gc, .slice ko kl kc, .bool mo] 53) = W1) := hW1
  rw [hW1] at h1
  have HC1 : Hid (Calls Try.prog 22 #[.pointer (some ⟨q, 0, none⟩)] W1 fun e w' => e = .returned (.int .i64 cc) ∧ P1 w') := h1
  have HP1 : Hid (∀ w1, P1 w1 → CellsF w1 N [.pointer (some ⟨p, 0, none⟩), .pointer (some ⟨q, 0, none⟩), .slice z.b2 z.n2 z.c2, .slice z.b3 z.n3 z.c3, .int .i64 z.f4, .bool z.o5, .int .i64 z.i6, .int .i64 z.i7, .int .i64 z.i8, .slice z.b9 z.n9 z.c9, .string z.y10, .int .i64 e11, .int .i64 e12] ∧ CellsF w1 w.heap.size [.int .i64 2, .int .i64 nn, .slice go gl gc, .slice ko kl kc, .bool mo] ∧ Other w1 N) := hP1
  have H2 : Hid (∀ w1, P1 w1 → Calls Try.prog 43 #[.agg #[.slice z.b2 z.n2 z.c2, .slice z.b3 z.n3 z.c3, .int .i64 z.f4, .bool z.o5]] w1 fun e w2 => ∃ x : Rs, e = .returned (.tuple #[.agg #[.slice x.b2 x.n2 x.c2, .slice x.b3 x.n3 x.c3, .int .i64 x.f4, .bool x.o5], .int .i64 cc]) ∧ P2 w1 x w2 ∧ Kept (fun _ => False) w1 w2) := h2
  have H3 : Hid (∀ w1 x w2 W', P1 w1 → P2 w1 x w2 → Kept (fun _ => False) w1 w2 → Kept (fun i => i = N) w2 W' → CellsF W' N [.pointer (some ⟨p, 0, none⟩), .pointer (some ⟨q, 0, none⟩), .slice x.b2 x.n2 x.c2, .slice x.b3 x.n3 x.c3, .int .i64 x.f4, .bool x.o5, .int .i64 z.i6, .int .i64 z.i7, .int .i64 z.i8, .slice z.b9 z.n9 z.c9, .string z.y10, .int .i64 e11, .int .i64 e12] → CellsF W' w.heap.size [.int .i64 2, .int .i64 nn, .slice go gl gc, .slice ko kl kc, .bool mo] → Other W' N → (cc = 30 → Calls Try.prog 45 #[.pointer (some ⟨N, 0, none⟩), .slice ko kl kc, .int .i64 z.i8] W' fun e w' => e = .returned (.bool true) ∧ Q w') ∧ (cc ≠ 30 → Calls Try.prog 41 #[.pointer (some ⟨N, 0, none⟩)] W' fun e w' => e = .returned (.bool true) ∧ Q w')) := h3
  have x0 := HBX.out.cs 0 _ rfl
  have hq := HN1.out.cs 1 _ rfl
  clear hN h1 hP1 h2 h3 hW1 k1
  go_enter Try.func19, Try.ntmps19
  go_upto_region 2 with fail
  rw [HW1.out]
  clear HW1
  go_wp2_with fail
  refine Calls.mono HC1.out ?_; rintro e w1 ⟨rfl, hp1⟩
  have HM1 : Hid (P1 w1) := hp1
  have HNb : Hid (CellsF w1 N [.pointer (some ⟨p, 0, none⟩), .pointer (some ⟨q, 0, none⟩), .slice z.b2 z.n2 z.c2, .slice z.b3 z.n3 z.c3, .int .i64 z.f4, .bool z.o5, .int .i64 z.i6, .int .i64 z.i7, .int .i64 z.i8, .slice z.b9 z.n9 z.c9, .string z.y10, .int .i64 e11, .int .i64 e12] ∧ CellsF w1 w.heap.size [.int .i64 2, .int .i64 nn, .slice go gl gc, .slice ko kl kc, .bool mo] ∧ Other w1 N) := HP1.out _ hp1
  have y2 := HNb.out.1.cs 2 _ rfl
  have y3 := HNb.out.1.cs 3 _ rfl
  have y4 := HNb.out.1.cs 4 _ rfl
  have y5 := HNb.out.1.cs 5 _ rfl
  clear hp1 HC1 HP1 HBX HN1 x0 hq
  go_wp2_with fail
  refine Calls.mono (H2.out _ HM1.out) ?_; rintro e w2 ⟨x, rfl, hp2, hk2⟩
  have HM2 : Hid (P2 w1 x w2 ∧ Kept (fun _ => False) w1 w2) := ⟨hp2, hk2⟩
  obtain ⟨W2, hW2⟩ : ∃ W2, w2.alloc (.cells #[.slice x.b2 x.n2 x.c2, .slice x.b3 x.n3 x.c3, .int .i64 x.f4, .bool x.o5] 37) = W2 := ⟨_, rfl⟩
  have HW2 : Hid (w2.alloc (.cells #[.slice x.b2 x.n2 x.c2, .slice x.b3 x.n3 x.c3, .int .i64 x.f4, .bool x.o5] 37) = W2) := hW2
  have kW : Kept (fun _ => False) w2 W2 := hW2 ▸ (Kept.refl _ w2).alloc _
  have HX : Hid (CellsF W2 w2.heap.size [.slice x.b2 x.n2 x.c2, .slice x.b3 x.n3 x.c3, .int .i64 x.f4, .bool x.o5]) := hW2 ▸ CellsF.new w2 [.slice x.b2 x.n2 x.c2, .slice x.b3 x.n3 x.c3, .int .i64 x.f4, .bool x.o5] 37 (by simp)
  have HN2 : Hid (CellsF W2 N [.pointer (some ⟨p, 0, none⟩), .pointer (some ⟨q, 0, none⟩), .slice z.b2 z.n2 z.c2, .slice z.b3 z.n3 z.c3, .int .i64 z.f4, .bool z.o5, .int .i64 z.i6, .int .i64 z.i7, .int .i64 z.i8, .slice z.b9 z.n9 z.c9, .string z.y10, .int .i64 e11, .int .i64 e12] ∧ CellsF W2 w.heap.size [.int .i64 2, .int .i64 nn, .slice go gl gc, .slice ko kl kc, .bool mo] ∧ Kept (fun _ => False) w2 W2 ∧ Other W2 N) := ⟨HNb.out.1.step (hk2.trans kW (fun _ x => x.elim)), HNb.out.2.1.step (hk2.trans kW (fun _ x => x.elim)), kW, HNb.out.2.2.kept (hk2.trans kW (fun _ x => x.elim))⟩
  have hlt : N < w2.heap.size := Nat.lt_of_lt_of_le HNb.out.1.lt hk2.size
  have hne : ¬ N = w2.heap.size := by omega
  have hne2 : ¬ w2.heap.size = N := by omega
  clear hp2 hk2 hlt kW hW2 H2 y2 y3 y4 y5 HNb
  go_upto_region 16 with fail
  rw [HW2.out]
  clear HW2
  have x0 := HX.out.cs 0 _ rfl
  have x1 := HX.out.cs 1 _ rfl
  have x2 := HX.out.cs 2 _ rfl
  have x3 := HX.out.cs 3 _ rfl
  have y2 := HN2.out.1.cs 2 _ rfl
  have y3 := HN2.out.1.cs 3 _ rfl
  have y4 := HN2.out.1.cs 4 _ rfl
  have y5 := HN2.out.1.cs 5 _ rfl
  have yf := HN2.out.1.fz
  have kk : Kept (fun i => i = N) W2 ((((W2.setCell ⟨N, 2, none⟩ (.slice x.b2 x.n2 x.c2)).setCell ⟨N, 3, none⟩ (.slice x.b3 x.n3 x.c3)).setCell ⟨N, 4, none⟩ (.int .i64 x.f4)).setCell ⟨N, 5, none⟩ (.bool x.o5)) := setq_kept W2 N _ _ _ _
  have hC2 : CellsF ((((W2.setCell ⟨N, 2, none⟩ (.slice x.b2 x.n2 x.c2)).setCell ⟨N, 3, none⟩ (.slice x.b3 x.n3 x.c3)).setCell ⟨N, 4, none⟩ (.int .i64 x.f4)).setCell ⟨N, 5, none⟩ (.bool x.o5)) N [.pointer (some ⟨p, 0, none⟩), .pointer (some ⟨q, 0, none⟩), .slice x.b2 x.n2 x.c2, .slice x.b3 x.n3 x.c3, .int .i64 x.f4, .bool x.o5, .int .i64 z.i6, .int .i64 z.i7, .int .i64 z.i8, .slice z.b9 z.n9 z.c9, .string z.y10, .int .i64 e11, .int .i64 e12] := (((HN2.out.1.set 2 _ (by simp)).set 3 _ (by simp)).set 4 _ (by simp)).set 5 _ (by simp)
  have hO9 : Other ((((W2.setCell ⟨N, 2, none⟩ (.slice x.b2 x.n2 x.c2)).setCell ⟨N, 3, none⟩ (.slice x.b3 x.n3 x.c3)).setCell ⟨N, 4, none⟩ (.int .i64 x.f4)).setCell ⟨N, 5, none⟩ (.bool x.o5)) N := (((HN2.out.2.2.2.set 2 _).set 3 _).set 4 _).set 5 _
  obtain ⟨W3, hW3⟩ : ∃ W3, ((((W2.setCell ⟨N, 2, none⟩ (.slice x.b2 x.n2 x.c2)).setCell ⟨N, 3, none⟩ (.slice x.b3 x.n3 x.c3)).setCell ⟨N, 4, none⟩ (.int .i64 x.f4)).setCell ⟨N, 5, none⟩ (.bool x.o5)) = W3 := ⟨_, rfl⟩
  have HW3 : Hid (((((W2.setCell ⟨N, 2, none⟩ (.slice x.b2 x.n2 x.c2)).setCell ⟨N, 3, none⟩ (.slice x.b3 x.n3 x.c3)).setCell ⟨N, 4, none⟩ (.int .i64 x.f4)).setCell ⟨N, 5, none⟩ (.bool x.o5)) = W3) := hW3
  rw [hW3] at kk hC2 hO9
  have HN3 : Hid (CellsF W3 N [.pointer (some ⟨p, 0, none⟩), .pointer (some ⟨q, 0, none⟩), .slice x.b2 x.n2 x.c2, .slice x.b3 x.n3 x.c3, .int .i64 x.f4, .bool x.o5, .int .i64 z.i6, .int .i64 z.i7, .int .i64 z.i8, .slice z.b9 z.n9 z.c9, .string z.y10, .int .i64 e11, .int .i64 e12] ∧ CellsF W3 w.heap.size [.int .i64 2, .int .i64 nn, .slice go gl gc, .slice ko kl kc, .bool mo] ∧ Kept (fun i => i = N) w2 W3) := ⟨hC2, HN2.out.2.1.kept kk (fun e => by have := HNL.out; omega), (HN2.out.2.2.1.mono (fun _ x => x.elim)).trans kk (fun i hi => .inl hi)⟩
  have HN3d : Hid (CellsF W3.drew N [.pointer (some ⟨p, 0, none⟩), .pointer (some ⟨q, 0, none⟩), .slice x.b2 x.n2 x.c2, .slice x.b3 x.n3 x.c3, .int .i64 x.f4, .bool x.o5, .int .i64 z.i6, .int .i64 z.i7, .int .i64 z.i8, .slice z.b9 z.n9 z.c9, .string z.y10, .int .i64 e11, .int .i64 e12] ∧ CellsF W3.drew w.heap.size [.int .i64 2, .int .i64 nn, .slice go gl gc, .slice ko kl kc, .bool mo] ∧ Kept (fun i => i = N) w2 W3.drew) := ⟨HN3.out.1.far rfl, HN3.out.2.1.far rfl, HN3.out.2.2.drew⟩
  have HT1 : Hid (cc = 30 → Calls Try.prog 45 #[.pointer (some ⟨N, 0, none⟩), .slice ko kl kc, .int .i64 z.i8] W3.drew fun e w' => e = .returned (.bool true) ∧ Hid (Q w')) := (H3.out w1 x w2 W3.drew HM1.out HM2.out.1 HM2.out.2 HN3d.out.2.2 HN3d.out.1 HN3d.out.2.1 hO9).1
  have HT2 : Hid (cc ≠ 30 → Calls Try.prog 41 #[.pointer (some ⟨N, 0, none⟩)] W3 fun e w' => e = .returned (.bool true) ∧ Hid (Q w')) := (H3.out w1 x w2 W3 HM1.out HM2.out.1 HM2.out.2 HN3.out.2.2 HN3.out.1 HN3.out.2.1 hO9).2
  clear kk hC2 hO9 hW3 H3 HM1 HM2 HN2 HX HN3d
  go_upto_region 21 with fail
  rw [HW3.out]
  clear HW3 x0 x1 x2 x3 y2 y3 y4 y5 yf hne hne2
  by_cases h30 : cc = 30
  · have HTA : Hid (Calls Try.prog 45 #[.pointer (some ⟨N, 0, none⟩), .slice ko kl kc, .int .i64 z.i8] W3.drew fun e w' => e = .returned (.bool true) ∧ Hid (Q w')) := HT1.out h30
    subst h30
    have z3 := HN3.out.2.1.cs 3 _ rfl
    have z8 := HN3.out.1.cs 8 _ rfl
    clear HT1 HT2 HN3
    go_wp2_with fail
    go_region_with (first | ((with_reducible refine Calls.mono HTA.out ?_); rintro e w9 ⟨rfl, HQ⟩; clear z3 z8 HTA))
    all_goals (try simp only [Exit.then])
    all_goals go_wp2_with fail
    all_goals go_ret
    all_goals exact ⟨rfl, HQ.out⟩
  · have b30 : (cc == 30) = false := by simpa using h30
    have HTB : Hid (Calls Try.prog 41 #[.pointer (some ⟨N, 0, none⟩)] W3 fun e w' => e = .returned (.bool true) ∧ Hid (Q w')) := HT2.out h30
    clear HT1 HT2 HN3
    go_wp2_with fail
    refine Calls.mono HTB.out ?_; rintro e w9 ⟨rfl, HQ⟩
    go_wp2_with fail
    go_ret
    exact ⟨rfl, HQ.out⟩
end Go.Proofs.Ythfhjfemcmdmfaa
