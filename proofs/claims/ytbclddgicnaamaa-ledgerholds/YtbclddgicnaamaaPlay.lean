/- play: a ledger behind operations, of which those that are refused are passed over. -/
import Derived.Test.YtbclddgicnaamaaLate
import Derived.Test.YtbclddgicnaamaaRIdx
import Derived.Deep.DeepCutAuto
namespace Go.Proofs.Ytbclddgicnaamaa
open Go.ChangeShapes Go.WideShapes Go.RowKit
set_option linter.unusedVariables false
set_option maxRecDepth 100000

set_option maxHeartbeats 8000000 in
theorem play_is (ap : Option Addr) (n cp : Nat) (l : List Opn) (hl : l.length = n) (hn : n ≤ 9223372036854775807) (hlf : ∀ o, o ∈ l → o.fit) (w : World) (hro : Rw opv 7 w ap l) :
    Calls Try.prog 19 #[.slice ap n cp, .int .i64 20] w fun e w' => ∃ a0 an0 ac0 a1 an1 ac1 a2 an2 ac2 L, e = .returned (.tuple #[.agg #[.slice a0 an0 ac0, .slice a1 an1 ac1, .slice a2 an2 ac2, .int .i64 L.ops], .bool true]) ∧ Have w' a0 an0 ac0 a1 an1 ac1 a2 an2 ac2 L ∧ Below w.heap.size w w' ∧ mayL L ∧ L.fit ∧ Few 20 L := by
  have HM : Hid (l.length = n ∧ (∀ o, o ∈ l → o.fit) ∧ Rw opv 7 w ap l) := ⟨hl, hlf, hro⟩
  have HI0 : Hid (∀ t s, Below w.heap.size w ((w.alloc (.cells #[.slice none 0 0, .slice none 0 0, .slice none 0 0, .int .i64 0] t)).alloc (.cells #[.slice none 0 0, .slice none 0 0, .slice none 0 0, .int .i64 0] s)) ∧ CellsF ((w.alloc (.cells #[.slice none 0 0, .slice none 0 0, .slice none 0 0, .int .i64 0] t)).alloc (.cells #[.slice none 0 0, .slice none 0 0, .slice none 0 0, .int .i64 0] s)) w.heap.size [.slice none 0 0, .slice none 0 0, .slice none 0 0, .int .i64 0] ∧ CellsF ((w.alloc (.cells #[.slice none 0 0, .slice none 0 0, .slice none 0 0, .int .i64 0] t)).alloc (.cells #[.slice none 0 0, .slice none 0 0, .slice none 0 0, .int .i64 0] s)) (w.heap.size + 1) [.slice none 0 0, .slice none 0 0, .slice none 0 0, .int .i64 0]) := fun t s => ⟨below2 _ _ _, (CellsF.at _ t (by simp) rfl).next (below1 _ _), CellsF.at _ s (by simp) (by rw [size_alloc])⟩
  clear hl hlf hro
  go_enter Try.func19, Try.ntmps19
  go_wp2_with fail
  go_loopw [7] (fun vi wr => ∃ (k A E : Nat) (a0 : Option Addr) (an0 ac0 : Nat) (a1 : Option Addr) (an1 ac1 : Nat) (a2 : Option Addr) (an2 ac2 : Nat) (L : Led), k ≤ n ∧ k ≤ 20 ∧ vi = .int .i64 k ∧ Hid (Below w.heap.size w wr) ∧ Hid (CellsF wr (w.heap.size + 1) [.slice a0 an0 ac0, .slice a1 an1 ac1, .slice a2 an2 ac2, .int .i64 L.ops]) ∧ Hid (CellsF wr w.heap.size [.slice none 0 0, .slice none 0 0, .slice none 0 0, .int .i64 0] ∧ Near A E wr a0 an0 ac0 a1 an1 ac1 a2 an2 ac2 L ∧ (w.heap.size + 1) < A ∧ E ≤ wr.heap.size) ∧ Hid (mayL L ∧ L.fit) ∧ Hid (Few k L))
    (fun vi _ => 20 - (intOf vi).toNat)
  case atStart => exact ⟨0, w.heap.size + 2, 0, none, 0, 0, none, 0, 0, none, 0, 0, noL, Nat.zero_le _, Nat.zero_le _, rfl, (HI0.out _ _).1, (HI0.out _ _).2.2, ⟨(HI0.out _ _).2.1, fun w5 _ => Have.none _, Nat.lt_succ_self _, Nat.zero_le _⟩, ⟨no_may, no_fit⟩, few_no⟩
  case round =>
    obtain ⟨k, A0, E0, a0, an0, ac0, a1, an1, ac1, a2, an2, ac2, L, hk, hk20, rfl, HB, HCL, HNA, HMY, HFW⟩ := hrel
    have HVL : Hid (Have wr a0 an0 ac0 a1 an1 ac1 a2 an2 ac2 L) := HNA.out.2.1.here
    by_cases hlt : k < n
    · have hlti : (k : Int) < (n : Int) := by omega
      by_cases hlt3 : k < 20
      · have hlt3i : (k : Int) < 20 := by omega
        have hkl : k < l.length := by have := HM.out.1; omega
        obtain ⟨b, o, hap, hb, hc⟩ := HM.out.2.2.opn (fun e => by rw [e] at hkl; simp at hkl)
        have hx := (hc k hkl).next (HB.out.block b hb)
        obtain ⟨x, hxk⟩ : ∃ x, l[k] = x := ⟨_, rfl⟩
        rw [hxk] at hx
        have HOF : Hid (x.fit) := by show x.fit; rw [← hxk]; exact HM.out.2.1 _ (List.getElem_mem hkl)
        have HOP : Hid (b < wr.heap.size ∧ OpnAt wr b (o + k * 7) x) := ⟨Nat.lt_of_lt_of_le hb HB.out.size, hx⟩
        subst hap
        clear hc hb hxk hx
        obtain ⟨xk, xs, xl, xt, xq, xi, xd⟩ := x
        obtain ⟨err, herr⟩ : ∃ err, doE L ⟨xk, xs, xl, xt, xq, xi, xd⟩ = err := ⟨_, rfl⟩
        obtain ⟨N, hN⟩ : ∃ N, apL L ⟨xk, xs, xl, xt, xq, xi, xd⟩ = N := ⟨_, rfl⟩
        have HER : Hid (doE L ⟨xk, xs, xl, xt, xq, xi, xd⟩ = err) := herr
        have HNL : Hid (apL L ⟨xk, xs, xl, xt, xq, xi, xd⟩ = N) := hN
        clear herr hN
        have HS : Hid (∀ w' : World, Below wr.heap.size wr w' → (Below wr.heap.size wr w' ∧ w'.cell? ⟨(w.heap.size + 1), 0, none⟩ = some (.slice a0 an0 ac0) ∧ w'.cell? ⟨(w.heap.size + 1), 1, none⟩ = some (.slice a1 an1 ac1) ∧ w'.cell? ⟨(w.heap.size + 1), 2, none⟩ = some (.slice a2 an2 ac2) ∧ w'.cell? ⟨(w.heap.size + 1), 3, none⟩ = some (.int .i64 L.ops) ∧ w'.cell? ⟨b, o + k * 7, none⟩ = some (.int .i64 xk) ∧ w'.cell? ⟨b, o + k * 7 + 1, none⟩ = some (.string xs) ∧ w'.cell? ⟨b, o + k * 7 + 2, none⟩ = some (.string xl) ∧ w'.cell? ⟨b, o + k * 7 + 3, none⟩ = some (.string xt) ∧ w'.cell? ⟨b, o + k * 7 + 4, none⟩ = some (.int .i64 xq) ∧ w'.cell? ⟨b, o + k * 7 + 5, none⟩ = some (.int .i64 xi) ∧ w'.cell? ⟨b, o + k * 7 + 6, none⟩ = some (.int .i64 xd))) := fun w' kk => by
          have q := HCL.out.next kk
          have p := HOP.out.2.next (kk.block b HOP.out.1)
          exact ⟨kk, q.cs 0 _ rfl, q.cs 1 _ rfl, q.cs 2 _ rfl, q.cs 3 _ rfl, p.c0, p.c1, p.c2, p.c3, p.c4, p.c5, p.c6⟩
        have HSN : Hid (∀ w' w'' : World, (Below wr.heap.size wr w' ∧ w'.cell? ⟨(w.heap.size + 1), 0, none⟩ = some (.slice a0 an0 ac0) ∧ w'.cell? ⟨(w.heap.size + 1), 1, none⟩ = some (.slice a1 an1 ac1) ∧ w'.cell? ⟨(w.heap.size + 1), 2, none⟩ = some (.slice a2 an2 ac2) ∧ w'.cell? ⟨(w.heap.size + 1), 3, none⟩ = some (.int .i64 L.ops) ∧ w'.cell? ⟨b, o + k * 7, none⟩ = some (.int .i64 xk) ∧ w'.cell? ⟨b, o + k * 7 + 1, none⟩ = some (.string xs) ∧ w'.cell? ⟨b, o + k * 7 + 2, none⟩ = some (.string xl) ∧ w'.cell? ⟨b, o + k * 7 + 3, none⟩ = some (.string xt) ∧ w'.cell? ⟨b, o + k * 7 + 4, none⟩ = some (.int .i64 xq) ∧ w'.cell? ⟨b, o + k * 7 + 5, none⟩ = some (.int .i64 xi) ∧ w'.cell? ⟨b, o + k * 7 + 6, none⟩ = some (.int .i64 xd)) → Below w'.heap.size w' w'' → (Below wr.heap.size wr w'' ∧ w''.cell? ⟨(w.heap.size + 1), 0, none⟩ = some (.slice a0 an0 ac0) ∧ w''.cell? ⟨(w.heap.size + 1), 1, none⟩ = some (.slice a1 an1 ac1) ∧ w''.cell? ⟨(w.heap.size + 1), 2, none⟩ = some (.slice a2 an2 ac2) ∧ w''.cell? ⟨(w.heap.size + 1), 3, none⟩ = some (.int .i64 L.ops) ∧ w''.cell? ⟨b, o + k * 7, none⟩ = some (.int .i64 xk) ∧ w''.cell? ⟨b, o + k * 7 + 1, none⟩ = some (.string xs) ∧ w''.cell? ⟨b, o + k * 7 + 2, none⟩ = some (.string xl) ∧ w''.cell? ⟨b, o + k * 7 + 3, none⟩ = some (.string xt) ∧ w''.cell? ⟨b, o + k * 7 + 4, none⟩ = some (.int .i64 xq) ∧ w''.cell? ⟨b, o + k * 7 + 5, none⟩ = some (.int .i64 xi) ∧ w''.cell? ⟨b, o + k * 7 + 6, none⟩ = some (.int .i64 xd))) := fun w' w'' h kk => HS.out w'' (Below.next h.1 kk)
        have HSD : Hid (∀ w' : World, (Below wr.heap.size wr w' ∧ w'.cell? ⟨(w.heap.size + 1), 0, none⟩ = some (.slice a0 an0 ac0) ∧ w'.cell? ⟨(w.heap.size + 1), 1, none⟩ = some (.slice a1 an1 ac1) ∧ w'.cell? ⟨(w.heap.size + 1), 2, none⟩ = some (.slice a2 an2 ac2) ∧ w'.cell? ⟨(w.heap.size + 1), 3, none⟩ = some (.int .i64 L.ops) ∧ w'.cell? ⟨b, o + k * 7, none⟩ = some (.int .i64 xk) ∧ w'.cell? ⟨b, o + k * 7 + 1, none⟩ = some (.string xs) ∧ w'.cell? ⟨b, o + k * 7 + 2, none⟩ = some (.string xl) ∧ w'.cell? ⟨b, o + k * 7 + 3, none⟩ = some (.string xt) ∧ w'.cell? ⟨b, o + k * 7 + 4, none⟩ = some (.int .i64 xq) ∧ w'.cell? ⟨b, o + k * 7 + 5, none⟩ = some (.int .i64 xi) ∧ w'.cell? ⟨b, o + k * 7 + 6, none⟩ = some (.int .i64 xd)) → (Below wr.heap.size wr w'.drew ∧ w'.drew.cell? ⟨(w.heap.size + 1), 0, none⟩ = some (.slice a0 an0 ac0) ∧ w'.drew.cell? ⟨(w.heap.size + 1), 1, none⟩ = some (.slice a1 an1 ac1) ∧ w'.drew.cell? ⟨(w.heap.size + 1), 2, none⟩ = some (.slice a2 an2 ac2) ∧ w'.drew.cell? ⟨(w.heap.size + 1), 3, none⟩ = some (.int .i64 L.ops) ∧ w'.drew.cell? ⟨b, o + k * 7, none⟩ = some (.int .i64 xk) ∧ w'.drew.cell? ⟨b, o + k * 7 + 1, none⟩ = some (.string xs) ∧ w'.drew.cell? ⟨b, o + k * 7 + 2, none⟩ = some (.string xl) ∧ w'.drew.cell? ⟨b, o + k * 7 + 3, none⟩ = some (.string xt) ∧ w'.drew.cell? ⟨b, o + k * 7 + 4, none⟩ = some (.int .i64 xq) ∧ w'.drew.cell? ⟨b, o + k * 7 + 5, none⟩ = some (.int .i64 xi) ∧ w'.drew.cell? ⟨b, o + k * 7 + 6, none⟩ = some (.int .i64 xd))) := fun w' h => HSN.out w' _ h (Below.refl _ _).drew
        have HSA : Hid (∀ (w' : World) (z : Obj), (Below wr.heap.size wr w' ∧ w'.cell? ⟨(w.heap.size + 1), 0, none⟩ = some (.slice a0 an0 ac0) ∧ w'.cell? ⟨(w.heap.size + 1), 1, none⟩ = some (.slice a1 an1 ac1) ∧ w'.cell? ⟨(w.heap.size + 1), 2, none⟩ = some (.slice a2 an2 ac2) ∧ w'.cell? ⟨(w.heap.size + 1), 3, none⟩ = some (.int .i64 L.ops) ∧ w'.cell? ⟨b, o + k * 7, none⟩ = some (.int .i64 xk) ∧ w'.cell? ⟨b, o + k * 7 + 1, none⟩ = some (.string xs) ∧ w'.cell? ⟨b, o + k * 7 + 2, none⟩ = some (.string xl) ∧ w'.cell? ⟨b, o + k * 7 + 3, none⟩ = some (.string xt) ∧ w'.cell? ⟨b, o + k * 7 + 4, none⟩ = some (.int .i64 xq) ∧ w'.cell? ⟨b, o + k * 7 + 5, none⟩ = some (.int .i64 xi) ∧ w'.cell? ⟨b, o + k * 7 + 6, none⟩ = some (.int .i64 xd)) → (Below wr.heap.size wr (w'.alloc z) ∧ (w'.alloc z).cell? ⟨(w.heap.size + 1), 0, none⟩ = some (.slice a0 an0 ac0) ∧ (w'.alloc z).cell? ⟨(w.heap.size + 1), 1, none⟩ = some (.slice a1 an1 ac1) ∧ (w'.alloc z).cell? ⟨(w.heap.size + 1), 2, none⟩ = some (.slice a2 an2 ac2) ∧ (w'.alloc z).cell? ⟨(w.heap.size + 1), 3, none⟩ = some (.int .i64 L.ops) ∧ (w'.alloc z).cell? ⟨b, o + k * 7, none⟩ = some (.int .i64 xk) ∧ (w'.alloc z).cell? ⟨b, o + k * 7 + 1, none⟩ = some (.string xs) ∧ (w'.alloc z).cell? ⟨b, o + k * 7 + 2, none⟩ = some (.string xl) ∧ (w'.alloc z).cell? ⟨b, o + k * 7 + 3, none⟩ = some (.string xt) ∧ (w'.alloc z).cell? ⟨b, o + k * 7 + 4, none⟩ = some (.int .i64 xq) ∧ (w'.alloc z).cell? ⟨b, o + k * 7 + 5, none⟩ = some (.int .i64 xi) ∧ (w'.alloc z).cell? ⟨b, o + k * 7 + 6, none⟩ = some (.int .i64 xd))) := fun w' z h => HSN.out w' _ h (below1 _ _)
        have HSAD : Hid (∀ (w' : World) (z : Obj), (Below wr.heap.size wr w' ∧ w'.cell? ⟨(w.heap.size + 1), 0, none⟩ = some (.slice a0 an0 ac0) ∧ w'.cell? ⟨(w.heap.size + 1), 1, none⟩ = some (.slice a1 an1 ac1) ∧ w'.cell? ⟨(w.heap.size + 1), 2, none⟩ = some (.slice a2 an2 ac2) ∧ w'.cell? ⟨(w.heap.size + 1), 3, none⟩ = some (.int .i64 L.ops) ∧ w'.cell? ⟨b, o + k * 7, none⟩ = some (.int .i64 xk) ∧ w'.cell? ⟨b, o + k * 7 + 1, none⟩ = some (.string xs) ∧ w'.cell? ⟨b, o + k * 7 + 2, none⟩ = some (.string xl) ∧ w'.cell? ⟨b, o + k * 7 + 3, none⟩ = some (.string xt) ∧ w'.cell? ⟨b, o + k * 7 + 4, none⟩ = some (.int .i64 xq) ∧ w'.cell? ⟨b, o + k * 7 + 5, none⟩ = some (.int .i64 xi) ∧ w'.cell? ⟨b, o + k * 7 + 6, none⟩ = some (.int .i64 xd)) → (Below wr.heap.size wr (w'.alloc z).drew ∧ (w'.alloc z).drew.cell? ⟨(w.heap.size + 1), 0, none⟩ = some (.slice a0 an0 ac0) ∧ (w'.alloc z).drew.cell? ⟨(w.heap.size + 1), 1, none⟩ = some (.slice a1 an1 ac1) ∧ (w'.alloc z).drew.cell? ⟨(w.heap.size + 1), 2, none⟩ = some (.slice a2 an2 ac2) ∧ (w'.alloc z).drew.cell? ⟨(w.heap.size + 1), 3, none⟩ = some (.int .i64 L.ops) ∧ (w'.alloc z).drew.cell? ⟨b, o + k * 7, none⟩ = some (.int .i64 xk) ∧ (w'.alloc z).drew.cell? ⟨b, o + k * 7 + 1, none⟩ = some (.string xs) ∧ (w'.alloc z).drew.cell? ⟨b, o + k * 7 + 2, none⟩ = some (.string xl) ∧ (w'.alloc z).drew.cell? ⟨b, o + k * 7 + 3, none⟩ = some (.string xt) ∧ (w'.alloc z).drew.cell? ⟨b, o + k * 7 + 4, none⟩ = some (.int .i64 xq) ∧ (w'.alloc z).drew.cell? ⟨b, o + k * 7 + 5, none⟩ = some (.int .i64 xi) ∧ (w'.alloc z).drew.cell? ⟨b, o + k * 7 + 6, none⟩ = some (.int .i64 xd))) := fun w' z h => HSN.out w' _ h (below1 _ _).drew
        have HLAST : Hid (∀ (w' : World) (B : Nat) (u0 u1 u2 u3 : Value), wr.heap.size ≤ B → (Below wr.heap.size wr w' ∧ w'.cell? ⟨(w.heap.size + 1), 0, none⟩ = some (.slice a0 an0 ac0) ∧ w'.cell? ⟨(w.heap.size + 1), 1, none⟩ = some (.slice a1 an1 ac1) ∧ w'.cell? ⟨(w.heap.size + 1), 2, none⟩ = some (.slice a2 an2 ac2) ∧ w'.cell? ⟨(w.heap.size + 1), 3, none⟩ = some (.int .i64 L.ops) ∧ w'.cell? ⟨b, o + k * 7, none⟩ = some (.int .i64 xk) ∧ w'.cell? ⟨b, o + k * 7 + 1, none⟩ = some (.string xs) ∧ w'.cell? ⟨b, o + k * 7 + 2, none⟩ = some (.string xl) ∧ w'.cell? ⟨b, o + k * 7 + 3, none⟩ = some (.string xt) ∧ w'.cell? ⟨b, o + k * 7 + 4, none⟩ = some (.int .i64 xq) ∧ w'.cell? ⟨b, o + k * 7 + 5, none⟩ = some (.int .i64 xi) ∧ w'.cell? ⟨b, o + k * 7 + 6, none⟩ = some (.int .i64 xd)) → (Below wr.heap.size wr ((((w'.setCell ⟨B, 0, none⟩ u0).setCell ⟨B, 1, none⟩ u1).setCell ⟨B, 2, none⟩ u2).setCell ⟨B, 3, none⟩ u3) ∧ ((((w'.setCell ⟨B, 0, none⟩ u0).setCell ⟨B, 1, none⟩ u1).setCell ⟨B, 2, none⟩ u2).setCell ⟨B, 3, none⟩ u3).cell? ⟨(w.heap.size + 1), 0, none⟩ = some (.slice a0 an0 ac0) ∧ ((((w'.setCell ⟨B, 0, none⟩ u0).setCell ⟨B, 1, none⟩ u1).setCell ⟨B, 2, none⟩ u2).setCell ⟨B, 3, none⟩ u3).cell? ⟨(w.heap.size + 1), 1, none⟩ = some (.slice a1 an1 ac1) ∧ ((((w'.setCell ⟨B, 0, none⟩ u0).setCell ⟨B, 1, none⟩ u1).setCell ⟨B, 2, none⟩ u2).setCell ⟨B, 3, none⟩ u3).cell? ⟨(w.heap.size + 1), 2, none⟩ = some (.slice a2 an2 ac2) ∧ ((((w'.setCell ⟨B, 0, none⟩ u0).setCell ⟨B, 1, none⟩ u1).setCell ⟨B, 2, none⟩ u2).setCell ⟨B, 3, none⟩ u3).cell? ⟨(w.heap.size + 1), 3, none⟩ = some (.int .i64 L.ops) ∧ ((((w'.setCell ⟨B, 0, none⟩ u0).setCell ⟨B, 1, none⟩ u1).setCell ⟨B, 2, none⟩ u2).setCell ⟨B, 3, none⟩ u3).cell? ⟨b, o + k * 7, none⟩ = some (.int .i64 xk) ∧ ((((w'.setCell ⟨B, 0, none⟩ u0).setCell ⟨B, 1, none⟩ u1).setCell ⟨B, 2, none⟩ u2).setCell ⟨B, 3, none⟩ u3).cell? ⟨b, o + k * 7 + 1, none⟩ = some (.string xs) ∧ ((((w'.setCell ⟨B, 0, none⟩ u0).setCell ⟨B, 1, none⟩ u1).setCell ⟨B, 2, none⟩ u2).setCell ⟨B, 3, none⟩ u3).cell? ⟨b, o + k * 7 + 2, none⟩ = some (.string xl) ∧ ((((w'.setCell ⟨B, 0, none⟩ u0).setCell ⟨B, 1, none⟩ u1).setCell ⟨B, 2, none⟩ u2).setCell ⟨B, 3, none⟩ u3).cell? ⟨b, o + k * 7 + 3, none⟩ = some (.string xt) ∧ ((((w'.setCell ⟨B, 0, none⟩ u0).setCell ⟨B, 1, none⟩ u1).setCell ⟨B, 2, none⟩ u2).setCell ⟨B, 3, none⟩ u3).cell? ⟨b, o + k * 7 + 4, none⟩ = some (.int .i64 xq) ∧ ((((w'.setCell ⟨B, 0, none⟩ u0).setCell ⟨B, 1, none⟩ u1).setCell ⟨B, 2, none⟩ u2).setCell ⟨B, 3, none⟩ u3).cell? ⟨b, o + k * 7 + 5, none⟩ = some (.int .i64 xi) ∧ ((((w'.setCell ⟨B, 0, none⟩ u0).setCell ⟨B, 1, none⟩ u1).setCell ⟨B, 2, none⟩ u2).setCell ⟨B, 3, none⟩ u3).cell? ⟨b, o + k * 7 + 6, none⟩ = some (.int .i64 xd))) := fun w' B u0 u1 u2 u3 hB h => HS.out _ (below_four h.1 B hB u0 u1 u2 u3)
        have HAP : Hid (∀ w' : World, (Below wr.heap.size wr w' ∧ w'.cell? ⟨(w.heap.size + 1), 0, none⟩ = some (.slice a0 an0 ac0) ∧ w'.cell? ⟨(w.heap.size + 1), 1, none⟩ = some (.slice a1 an1 ac1) ∧ w'.cell? ⟨(w.heap.size + 1), 2, none⟩ = some (.slice a2 an2 ac2) ∧ w'.cell? ⟨(w.heap.size + 1), 3, none⟩ = some (.int .i64 L.ops) ∧ w'.cell? ⟨b, o + k * 7, none⟩ = some (.int .i64 xk) ∧ w'.cell? ⟨b, o + k * 7 + 1, none⟩ = some (.string xs) ∧ w'.cell? ⟨b, o + k * 7 + 2, none⟩ = some (.string xl) ∧ w'.cell? ⟨b, o + k * 7 + 3, none⟩ = some (.string xt) ∧ w'.cell? ⟨b, o + k * 7 + 4, none⟩ = some (.int .i64 xq) ∧ w'.cell? ⟨b, o + k * 7 + 5, none⟩ = some (.int .i64 xi) ∧ w'.cell? ⟨b, o + k * 7 + 6, none⟩ = some (.int .i64 xd)) → Calls Try.prog 11 #[.agg #[.slice a0 an0 ac0, .slice a1 an1 ac1, .slice a2 an2 ac2, .int .i64 L.ops], .agg #[.int .i64 xk, .string xs, .string xl, .string xt, .int .i64 xq, .int .i64 xi, .int .i64 xd]] w' fun e w'' => ∃ d0 dn0 dc0 d1 dn1 dc1 d2 dn2 dc2, e = .returned (.tuple #[.agg #[.slice d0 dn0 dc0, .slice d1 dn1 dc1, .slice d2 dn2 dc2, .int .i64 N.ops], .int .i64 err]) ∧ (Below wr.heap.size wr w'' ∧ w''.cell? ⟨(w.heap.size + 1), 0, none⟩ = some (.slice a0 an0 ac0) ∧ w''.cell? ⟨(w.heap.size + 1), 1, none⟩ = some (.slice a1 an1 ac1) ∧ w''.cell? ⟨(w.heap.size + 1), 2, none⟩ = some (.slice a2 an2 ac2) ∧ w''.cell? ⟨(w.heap.size + 1), 3, none⟩ = some (.int .i64 L.ops) ∧ w''.cell? ⟨b, o + k * 7, none⟩ = some (.int .i64 xk) ∧ w''.cell? ⟨b, o + k * 7 + 1, none⟩ = some (.string xs) ∧ w''.cell? ⟨b, o + k * 7 + 2, none⟩ = some (.string xl) ∧ w''.cell? ⟨b, o + k * 7 + 3, none⟩ = some (.string xt) ∧ w''.cell? ⟨b, o + k * 7 + 4, none⟩ = some (.int .i64 xq) ∧ w''.cell? ⟨b, o + k * 7 + 5, none⟩ = some (.int .i64 xi) ∧ w''.cell? ⟨b, o + k * 7 + 6, none⟩ = some (.int .i64 xd)) ∧ Hid (Near w'.heap.size w''.heap.size w'' d0 dn0 dc0 d1 dn1 dc1 d2 dn2 dc2 N) ∧ Hid (Below w'.heap.size w' w'')) := fun w' q => by
          have := (HVL.out.next q.1).applied2 HMY.out.1 HMY.out.2 ⟨xk, xs, xl, xt, xq, xi, xd⟩ HOF.out
          rw [HNL.out, HER.out] at this
          exact this.mono fun e w'' ⟨d0, dn0, dc0, d1, dn1, dc1, d2, dn2, dc2, r1, r2, r3⟩ => ⟨d0, dn0, dc0, d1, dn1, dc1, d2, dn2, dc2, r1, HSN.out _ _ q r3, r2, r3⟩
        have HWB : Hid ((w.heap.size + 1) < wr.heap.size) := HCL.out.lt
        have hS0 := HS.out wr (Below.refl _ _)
        go_upto_region 5 with fail
        go_cut [8, 9] (fun sa sb wx => ∃ (B A E : Nat) (d0 : Option Addr) (dn0 dc0 : Nat) (d1 : Option Addr) (dn1 dc1 : Nat) (d2 : Option Addr) (dn2 dc2 : Nat), sa = .pointer (some ⟨B, 0, none⟩) ∧ sb = .int .i64 err ∧ Hid (Below wr.heap.size wr wx ∧ CellsF wx B [.slice d0 dn0 dc0, .slice d1 dn1 dc1, .slice d2 dn2 dc2, .int .i64 N.ops] ∧ Near A E wx d0 dn0 dc0 d1 dn1 dc1 d2 dn2 dc2 N ∧ wr.heap.size ≤ B ∧ wr.heap.size ≤ A ∧ E ≤ wx.heap.size))
        case first =>
          go_region_held (fun (w' : World) => (Below wr.heap.size wr w' ∧ w'.cell? ⟨(w.heap.size + 1), 0, none⟩ = some (.slice a0 an0 ac0) ∧ w'.cell? ⟨(w.heap.size + 1), 1, none⟩ = some (.slice a1 an1 ac1) ∧ w'.cell? ⟨(w.heap.size + 1), 2, none⟩ = some (.slice a2 an2 ac2) ∧ w'.cell? ⟨(w.heap.size + 1), 3, none⟩ = some (.int .i64 L.ops) ∧ w'.cell? ⟨b, o + k * 7, none⟩ = some (.int .i64 xk) ∧ w'.cell? ⟨b, o + k * 7 + 1, none⟩ = some (.string xs) ∧ w'.cell? ⟨b, o + k * 7 + 2, none⟩ = some (.string xl) ∧ w'.cell? ⟨b, o + k * 7 + 3, none⟩ = some (.string xt) ∧ w'.cell? ⟨b, o + k * 7 + 4, none⟩ = some (.int .i64 xq) ∧ w'.cell? ⟨b, o + k * 7 + 5, none⟩ = some (.int .i64 xi) ∧ w'.cell? ⟨b, o + k * 7 + 6, none⟩ = some (.int .i64 xd))) (first | (with_reducible assumption) | (with_reducible exact HSD.out _ (by with_reducible assumption)) | (with_reducible exact HSA.out _ _ (by with_reducible assumption)) | (with_reducible exact HSAD.out _ _ (by with_reducible assumption)) | (with_reducible exact HLAST.out _ _ _ _ _ _ (Nat.le_refl _) (by with_reducible assumption)))
            (first | ((with_reducible refine Calls.mono (HAP.out _ (by with_reducible assumption)) ?_); rintro e w4 ⟨d0, dn0, dc0, d1, dn1, dc1, d2, dn2, dc2, rfl, hS4, HV4, HB4⟩; have HBW4 : Hid (Below wr.heap.size wr w4) := hS4.1; (first | (have hz4 := (CellsF.at (w := wr) [.slice none 0 0, .slice none 0 0, .slice none 0 0, .int .i64 0] 26 (by simp) rfl).next HB4.out; have HLT4 : Hid _ := (CellsF.at (w := wr) [.slice none 0 0, .slice none 0 0, .slice none 0 0, .int .i64 0] 26 (by simp) rfl).lt; have z0 := hz4.cs 0 _ rfl; have z1 := hz4.cs 1 _ rfl; have z2 := hz4.cs 2 _ rfl; have z3 := hz4.cs 3 _ rfl; have g0 := hz4.fz 0; have g1 := hz4.fz 1; have g2 := hz4.fz 2; have g3 := hz4.fz 3; have HZ4 : Hid _ := hz4; clear hz4) | (have hz4 := ((CellsF.at (w := wr) [.slice none 0 0, .slice none 0 0, .slice none 0 0, .int .i64 0] 26 (by simp) rfl).next (Below.refl _ _).drew).next HB4.out; have HLT4 : Hid _ := ((CellsF.at (w := wr) [.slice none 0 0, .slice none 0 0, .slice none 0 0, .int .i64 0] 26 (by simp) rfl).next (Below.refl _ _).drew).lt; have z0 := hz4.cs 0 _ rfl; have z1 := hz4.cs 1 _ rfl; have z2 := hz4.cs 2 _ rfl; have z3 := hz4.cs 3 _ rfl; have g0 := hz4.fz 0; have g1 := hz4.fz 1; have g2 := hz4.fz 2; have g3 := hz4.fz 3; have HZ4 : Hid _ := hz4; clear hz4) | (have hz4 := (CellsF.at (w := wr.drew) [.slice none 0 0, .slice none 0 0, .slice none 0 0, .int .i64 0] 26 (by simp) rfl).next HB4.out; have HLT4 : Hid _ := (CellsF.at (w := wr.drew) [.slice none 0 0, .slice none 0 0, .slice none 0 0, .int .i64 0] 26 (by simp) rfl).lt; have z0 := hz4.cs 0 _ rfl; have z1 := hz4.cs 1 _ rfl; have z2 := hz4.cs 2 _ rfl; have z3 := hz4.cs 3 _ rfl; have g0 := hz4.fz 0; have g1 := hz4.fz 1; have g2 := hz4.fz 2; have g3 := hz4.fz 3; have HZ4 : Hid _ := hz4; clear hz4) | (have hz4 := ((CellsF.at (w := wr.drew) [.slice none 0 0, .slice none 0 0, .slice none 0 0, .int .i64 0] 26 (by simp) rfl).next (Below.refl _ _).drew).next HB4.out; have HLT4 : Hid _ := ((CellsF.at (w := wr.drew) [.slice none 0 0, .slice none 0 0, .slice none 0 0, .int .i64 0] 26 (by simp) rfl).next (Below.refl _ _).drew).lt; have z0 := hz4.cs 0 _ rfl; have z1 := hz4.cs 1 _ rfl; have z2 := hz4.cs 2 _ rfl; have z3 := hz4.cs 3 _ rfl; have g0 := hz4.fz 0; have g1 := hz4.fz 1; have g2 := hz4.fz 2; have g3 := hz4.fz 3; have HZ4 : Hid _ := hz4; clear hz4)  | skip)))
          all_goals go_wp2_with fail
          all_goals go_meet
          all_goals first | exact ⟨_, _, _, _, _, _, _, _, _, _, _, _, rfl, rfl, below_four HBW4.out _ (Nat.le_refl _) _ _ _ _, HZ4.out.four rfl _ _ _ _, HV4.out.four HLT4.out _ _ _ _, Nat.le_refl _, Nat.le_of_lt HLT4.out, Nat.le_of_eq (size_four _ _ _ _ _ _).symm⟩ | exact ⟨_, _, _, _, _, _, _, _, _, _, _, _, rfl, rfl, Below.next HBW4.out (below1 _ _), CellsF.at _ 26 (by simp) rfl, HV4.out.next (Nat.le_refl _) (below1 _ _), HBW4.out.size, Nat.le_refl _, by rw [size_alloc]; exact Nat.le_succ _⟩
        case rest =>
          obtain ⟨B, A, E, d0, dn0, dc0, d1, dn1, dc1, d2, dn2, dc2, rfl, rfl, HCU⟩ := hcut
          have hcb := HCL.out.next HCU.out.1
          have HCB : Hid (CellsF wc (w.heap.size + 1) [.slice a0 an0 ac0, .slice a1 an1 ac1, .slice a2 an2 ac2, .int .i64 L.ops] ∧ CellsF wc w.heap.size [.slice none 0 0, .slice none 0 0, .slice none 0 0, .int .i64 0]) := ⟨hcb, HNA.out.1.next HCU.out.1⟩
          have y0 := HCU.out.2.1.cs 0 _ rfl
          have y1 := HCU.out.2.1.cs 1 _ rfl
          have y2 := HCU.out.2.1.cs 2 _ rfl
          have y3 := HCU.out.2.1.cs 3 _ rfl
          clear hS0
          by_cases he : err = 0
          · subst he
            have hnn : N = doL L ⟨xk, xs, xl, xt, xq, xi, xd⟩ := by rw [← HNL.out]; unfold apL; rw [HER.out, if_pos rfl]
            have hnm := do_may HMY.out.1 HMY.out.2 HOF.out HER.out
            have hfe := few_do HFW.out HER.out
            rw [← hnn] at hnm hfe
            have HNM : Hid (mayL N ∧ N.fit) := hnm
            have HFE : Hid (Few (k + 1) N) := hfe
            have x0 := hcb.cs 0 _ rfl
            have x1 := hcb.cs 1 _ rfl
            have x2 := hcb.cs 2 _ rfl
            have x3 := hcb.cs 3 _ rfl
            have g0 := hcb.fz 0
            have g1 := hcb.fz 1
            have g2 := hcb.fz 2
            have g3 := hcb.fz 3
            have HFIN : Hid (∀ u0 u1 u2 u3, Below w.heap.size w ((((wc.setCell ⟨(w.heap.size + 1), 0, none⟩ u0).setCell ⟨(w.heap.size + 1), 1, none⟩ u1).setCell ⟨(w.heap.size + 1), 2, none⟩ u2).setCell ⟨(w.heap.size + 1), 3, none⟩ u3) ∧ CellsF ((((wc.setCell ⟨(w.heap.size + 1), 0, none⟩ u0).setCell ⟨(w.heap.size + 1), 1, none⟩ u1).setCell ⟨(w.heap.size + 1), 2, none⟩ u2).setCell ⟨(w.heap.size + 1), 3, none⟩ u3) (w.heap.size + 1) [u0, u1, u2, u3] ∧ CellsF ((((wc.setCell ⟨(w.heap.size + 1), 0, none⟩ u0).setCell ⟨(w.heap.size + 1), 1, none⟩ u1).setCell ⟨(w.heap.size + 1), 2, none⟩ u2).setCell ⟨(w.heap.size + 1), 3, none⟩ u3) w.heap.size [.slice none 0 0, .slice none 0 0, .slice none 0 0, .int .i64 0] ∧ Near A E ((((wc.setCell ⟨(w.heap.size + 1), 0, none⟩ u0).setCell ⟨(w.heap.size + 1), 1, none⟩ u1).setCell ⟨(w.heap.size + 1), 2, none⟩ u2).setCell ⟨(w.heap.size + 1), 3, none⟩ u3) d0 dn0 dc0 d1 dn1 dc1 d2 dn2 dc2 N ∧ (w.heap.size + 1) < A ∧ E ≤ ((((wc.setCell ⟨(w.heap.size + 1), 0, none⟩ u0).setCell ⟨(w.heap.size + 1), 1, none⟩ u1).setCell ⟨(w.heap.size + 1), 2, none⟩ u2).setCell ⟨(w.heap.size + 1), 3, none⟩ u3).heap.size) := fun u0 u1 u2 u3 => ⟨below_four (Below.next HB.out HCU.out.1) _ (Nat.le_succ _) _ _ _ _, HCB.out.1.four rfl _ _ _ _, HCB.out.2.far (four_far _ _ _ _ _ _ (by omega)), HCU.out.2.2.1.four (Nat.lt_of_lt_of_le HWB.out HCU.out.2.2.2.2.1) _ _ _ _, Nat.lt_of_lt_of_le HWB.out HCU.out.2.2.2.2.1, by rw [size_four]; exact HCU.out.2.2.2.2.2⟩
            clear hnn hnm hfe hcb HS HSN HSD HSA HSAD HLAST HAP HOP HCU HVL HCL HNA HCB
            go_wp2_with fail
            go_roundw
            case rel => exact ⟨k + 1, A, E, d0, dn0, dc0, d1, dn1, dc1, d2, dn2, dc2, N, by omega, by omega, by go_num, (HFIN.out _ _ _ _).1, (HFIN.out _ _ _ _).2.1, (HFIN.out _ _ _ _).2.2, HNM.out, HFE.out⟩
            case measure => simp [intOf]; omega
          · have hnn : N = noL := by rw [← HNL.out]; unfold apL; rw [HER.out, if_neg he]
            subst hnn
            have heb : (err == 0) = false := by simpa using he
            obtain rfl : 0 = dn0 := HCU.out.2.2.1.here.h0
            obtain rfl : 0 = dn1 := HCU.out.2.2.1.here.h1
            obtain rfl : 0 = dn2 := HCU.out.2.2.1.here.h2
            have HSM : Hid _ := refSame_none d0 dc0 d1 dc1 d2 dc2 none 0 none 0 none 0 wc
            have HNX : Hid (∀ w', Below wc.heap.size wc w' → Below w.heap.size w w' ∧ CellsF w' (w.heap.size + 1) [.slice a0 an0 ac0, .slice a1 an1 ac1, .slice a2 an2 ac2, .int .i64 L.ops] ∧ (CellsF w' w.heap.size [.slice none 0 0, .slice none 0 0, .slice none 0 0, .int .i64 0] ∧ Near A0 E0 w' a0 an0 ac0 a1 an1 ac1 a2 an2 ac2 L ∧ (w.heap.size + 1) < A0 ∧ E0 ≤ w'.heap.size) ∧ Few (k + 1) L) := fun w' q => ⟨Below.next (Below.next HB.out HCU.out.1) q, HCB.out.1.next q, ⟨HCB.out.2.next q, HNA.out.2.1.next HNA.out.2.2.2 (Below.next HCU.out.1 q), HNA.out.2.2.1, Nat.le_trans HNA.out.2.2.2 (Below.next HCU.out.1 q).size⟩, HFW.out.mono (Nat.le_succ _)⟩
            have y3' : wc.cell? ⟨B, 3, none⟩ = some (.int .i64 0) := y3
            clear hcb HS HSN HSD HSA HSAD HLAST HAP HOP HCU HVL HCL HB HCB HER HNL he HNA HFW
            go_wp2_with fail
            refine Calls.mono HSM.out ?_; rintro e w5 ⟨rfl, k5⟩
            have HN5 : Hid _ := HNX.out _ k5
            clear k5
            go_wp2_with fail
            go_roundw
            case rel => exact ⟨k + 1, A0, E0, a0, an0, ac0, a1, an1, ac1, a2, an2, ac2, L, by omega, by omega, by go_num, HN5.out.1, HN5.out.2.1, HN5.out.2.2.1, HMY.out, HN5.out.2.2.2⟩
            case measure => simp [intOf]; omega
      · have hlt3i : ¬ (k : Int) < 20 := by omega
        have x0 := HCL.out.cs 0 _ rfl
        have x1 := HCL.out.cs 1 _ rfl
        have x2 := HCL.out.cs 2 _ rfl
        have x3 := HCL.out.cs 3 _ rfl
        have y0 := HNA.out.1.cs 0 _ rfl
        have y1 := HNA.out.1.cs 1 _ rfl
        have y2 := HNA.out.1.cs 2 _ rfl
        have y3 := HNA.out.1.cs 3 _ rfl
        have g0 := HNA.out.1.fz 0
        have g1 := HNA.out.1.fz 1
        have g2 := HNA.out.1.fz 2
        have g3 := HNA.out.1.fz 3
        have HFIN : Hid (∀ u0 u1 u2 u3, Have ((((wr.setCell ⟨w.heap.size, 0, none⟩ u0).setCell ⟨w.heap.size, 1, none⟩ u1).setCell ⟨w.heap.size, 2, none⟩ u2).setCell ⟨w.heap.size, 3, none⟩ u3) a0 an0 ac0 a1 an1 ac1 a2 an2 ac2 L ∧ Below w.heap.size w ((((wr.setCell ⟨w.heap.size, 0, none⟩ u0).setCell ⟨w.heap.size, 1, none⟩ u1).setCell ⟨w.heap.size, 2, none⟩ u2).setCell ⟨w.heap.size, 3, none⟩ u3)) := fun u0 u1 u2 u3 => ⟨(HNA.out.2.1.four (Nat.lt_of_succ_lt HNA.out.2.2.1) _ _ _ _).here, below_four HB.out _ (Nat.le_refl _) _ _ _ _⟩
        have HCF : Hid (CellsF wr w.heap.size [.slice none 0 0, .slice none 0 0, .slice none 0 0, .int .i64 0]) := HNA.out.1
        go_wp2_with fail
        try simp only [Exit.inBlock, Exit.then]
        refine bodyPost_ret (end_cell_tmp rfl rfl (loadLed _ (HCF.out.four rfl _ _ _ _) rfl)) rfl ?_
        exact ⟨_, _, _, _, _, _, _, _, _, L, rfl, (HFIN.out _ _ _ _).1, (HFIN.out _ _ _ _).2, HMY.out.1, HMY.out.2, HFW.out.mono (by omega)⟩
    · have hlti : ¬ (k : Int) < (n : Int) := by omega
      have x0 := HCL.out.cs 0 _ rfl
      have x1 := HCL.out.cs 1 _ rfl
      have x2 := HCL.out.cs 2 _ rfl
      have x3 := HCL.out.cs 3 _ rfl
      have y0 := HNA.out.1.cs 0 _ rfl
      have y1 := HNA.out.1.cs 1 _ rfl
      have y2 := HNA.out.1.cs 2 _ rfl
      have y3 := HNA.out.1.cs 3 _ rfl
      have g0 := HNA.out.1.fz 0
      have g1 := HNA.out.1.fz 1
      have g2 := HNA.out.1.fz 2
      have g3 := HNA.out.1.fz 3
      have HFIN : Hid (∀ u0 u1 u2 u3, Have ((((wr.setCell ⟨w.heap.size, 0, none⟩ u0).setCell ⟨w.heap.size, 1, none⟩ u1).setCell ⟨w.heap.size, 2, none⟩ u2).setCell ⟨w.heap.size, 3, none⟩ u3) a0 an0 ac0 a1 an1 ac1 a2 an2 ac2 L ∧ Below w.heap.size w ((((wr.setCell ⟨w.heap.size, 0, none⟩ u0).setCell ⟨w.heap.size, 1, none⟩ u1).setCell ⟨w.heap.size, 2, none⟩ u2).setCell ⟨w.heap.size, 3, none⟩ u3)) := fun u0 u1 u2 u3 => ⟨(HNA.out.2.1.four (Nat.lt_of_succ_lt HNA.out.2.2.1) _ _ _ _).here, below_four HB.out _ (Nat.le_refl _) _ _ _ _⟩
      have HCF : Hid (CellsF wr w.heap.size [.slice none 0 0, .slice none 0 0, .slice none 0 0, .int .i64 0]) := HNA.out.1
      go_wp2_with fail
      try simp only [Exit.inBlock, Exit.then]
      refine bodyPost_ret (end_cell_tmp rfl rfl (loadLed _ (HCF.out.four rfl _ _ _ _) rfl)) rfl ?_
      exact ⟨_, _, _, _, _, _, _, _, _, L, rfl, (HFIN.out _ _ _ _).1, (HFIN.out _ _ _ _).2, HMY.out.1, HMY.out.2, HFW.out.mono (by omega)⟩
end Go.Proofs.Ytbclddgicnaamaa
