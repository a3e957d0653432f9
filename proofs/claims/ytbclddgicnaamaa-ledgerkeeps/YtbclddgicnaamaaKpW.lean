/- LedgerKeeps' walk. -/
import Derived.Test.YtbclddgicnaamaaLate
import Derived.Test.YtbclddgicnaamaaRMay
import Derived.Deep.DeepCutAuto
namespace Go.Proofs.Ytbclddgicnaamaa
open Go.ChangeShapes Go.WideShapes Go.RowKit
set_option linter.unusedVariables false
set_option maxRecDepth 100000

set_option maxHeartbeats 8000000 in
theorem keeps_is (ap : Option Addr) (n cp : Nat) (l : List Opn) (hl : l.length = n) (hn : n ≤ 9223372036854775807) (hlf : ∀ o, o ∈ l → o.fit) (w : World) (hro : Rw opv 7 w ap l) :
    Calls Try.prog 5 #[.slice ap n cp] w fun e w' => e = .returned (.bool true) ∧ Below w.heap.size w w' := by
  have HM : Hid (l.length = n ∧ (∀ o, o ∈ l → o.fit) ∧ Rw opv 7 w ap l) := ⟨hl, hlf, hro⟩
  have HAW : Hid (∀ w, Calls Try.prog 10 #[] w fun e w' => e = .returned (.bool true) ∧ Below w.heap.size w w') := awake_is
  have HI0 : Hid (∀ t, Below w.heap.size w (w.alloc (.cells #[.slice none 0 0, .slice none 0 0, .slice none 0 0, .int .i64 0] t)) ∧ CellsF (w.alloc (.cells #[.slice none 0 0, .slice none 0 0, .slice none 0 0, .int .i64 0] t)) w.heap.size [.slice none 0 0, .slice none 0 0, .slice none 0 0, .int .i64 0]) := fun t => ⟨below1 _ _, CellsF.at _ t (by simp) rfl⟩
  clear hl hlf hro
  go_enter Try.func5, Try.ntmps5
  go_wp2_with fail
  go_loopw [4] (fun vi wr => ∃ (k : Nat) (a0 : Option Addr) (an0 ac0 : Nat) (a1 : Option Addr) (an1 ac1 : Nat) (a2 : Option Addr) (an2 ac2 : Nat) (L : Led), k ≤ n ∧ k ≤ 30 ∧ vi = .int .i64 k ∧ Hid (Below w.heap.size w wr) ∧ Hid (CellsF wr w.heap.size [.slice a0 an0 ac0, .slice a1 an1 ac1, .slice a2 an2 ac2, .int .i64 L.ops]) ∧ Hid (Have wr a0 an0 ac0 a1 an1 ac1 a2 an2 ac2 L) ∧ Hid (mayL L ∧ L.fit))
    (fun vi _ => 30 - (intOf vi).toNat)
  case atStart => exact ⟨0, none, 0, 0, none, 0, 0, none, 0, 0, noL, Nat.zero_le _, Nat.zero_le _, rfl, (HI0.out _).1, (HI0.out _).2, Have.none _, no_may, no_fit⟩
  case round =>
    obtain ⟨k, a0, an0, ac0, a1, an1, ac1, a2, an2, ac2, L, hk, hk30, rfl, HB, HCL, HVL, HMY⟩ := hrel
    by_cases hlt : k < n
    · have hlti : (k : Int) < (n : Int) := by omega
      by_cases hlt3 : k < 30
      · have hlt3i : (k : Int) < 30 := by omega
        have hkl : k < l.length := by have := HM.out.1; omega
        obtain ⟨b, o, hap, hb, hc⟩ := HM.out.2.2.opn (fun e => by rw [e] at hkl; simp at hkl)
        have hx := (hc k hkl).next (HB.out.block b hb)
        obtain ⟨x, hxk⟩ : ∃ x, l[k] = x := ⟨_, rfl⟩
        rw [hxk] at hx
        have HOF : Hid (x.fit) := by show x.fit; rw [← hxk]; exact HM.out.2.1 _ (List.getElem_mem hkl)
        have HOP : Hid (b < wr.heap.size ∧ OpnAt wr b (o + k * 7) x) := ⟨Nat.lt_of_lt_of_le hb HB.out.size, hx⟩
        subst hap
        clear hc hb hxk hx
        obtain ⟨xk, xs, xl, xt, xq, xi, xd⟩ := x
        obtain ⟨err, herr⟩ : ∃ err, doE L ⟨xk, xs, xl, xt, xq, xi, xd⟩ = err := ⟨_, rfl⟩
        obtain ⟨N, hN⟩ : ∃ N, apL L ⟨xk, xs, xl, xt, xq, xi, xd⟩ = N := ⟨_, rfl⟩
        have HER : Hid (doE L ⟨xk, xs, xl, xt, xq, xi, xd⟩ = err) := herr
        have HNL : Hid (apL L ⟨xk, xs, xl, xt, xq, xi, xd⟩ = N) := hN
        clear herr hN
        have HS : Hid (∀ w' : World, Below wr.heap.size wr w' → (Below wr.heap.size wr w' ∧ w'.cell? ⟨w.heap.size, 0, none⟩ = some (.slice a0 an0 ac0) ∧ w'.cell? ⟨w.heap.size, 1, none⟩ = some (.slice a1 an1 ac1) ∧ w'.cell? ⟨w.heap.size, 2, none⟩ = some (.slice a2 an2 ac2) ∧ w'.cell? ⟨w.heap.size, 3, none⟩ = some (.int .i64 L.ops) ∧ w'.cell? ⟨b, o + k * 7, none⟩ = some (.int .i64 xk) ∧ w'.cell? ⟨b, o + k * 7 + 1, none⟩ = some (.string xs) ∧ w'.cell? ⟨b, o + k * 7 + 2, none⟩ = some (.string xl) ∧ w'.cell? ⟨b, o + k * 7 + 3, none⟩ = some (.string xt) ∧ w'.cell? ⟨b, o + k * 7 + 4, none⟩ = some (.int .i64 xq) ∧ w'.cell? ⟨b, o + k * 7 + 5, none⟩ = some (.int .i64 xi) ∧ w'.cell? ⟨b, o + k * 7 + 6, none⟩ = some (.int .i64 xd))) := fun w' kk => by
          have q := HCL.out.next kk
          have p := HOP.out.2.next (kk.block b HOP.out.1)
          exact ⟨kk, q.cs 0 _ rfl, q.cs 1 _ rfl, q.cs 2 _ rfl, q.cs 3 _ rfl, p.c0, p.c1, p.c2, p.c3, p.c4, p.c5, p.c6⟩
        have HSN : Hid (∀ w' w'' : World, (Below wr.heap.size wr w' ∧ w'.cell? ⟨w.heap.size, 0, none⟩ = some (.slice a0 an0 ac0) ∧ w'.cell? ⟨w.heap.size, 1, none⟩ = some (.slice a1 an1 ac1) ∧ w'.cell? ⟨w.heap.size, 2, none⟩ = some (.slice a2 an2 ac2) ∧ w'.cell? ⟨w.heap.size, 3, none⟩ = some (.int .i64 L.ops) ∧ w'.cell? ⟨b, o + k * 7, none⟩ = some (.int .i64 xk) ∧ w'.cell? ⟨b, o + k * 7 + 1, none⟩ = some (.string xs) ∧ w'.cell? ⟨b, o + k * 7 + 2, none⟩ = some (.string xl) ∧ w'.cell? ⟨b, o + k * 7 + 3, none⟩ = some (.string xt) ∧ w'.cell? ⟨b, o + k * 7 + 4, none⟩ = some (.int .i64 xq) ∧ w'.cell? ⟨b, o + k * 7 + 5, none⟩ = some (.int .i64 xi) ∧ w'.cell? ⟨b, o + k * 7 + 6, none⟩ = some (.int .i64 xd)) → Below w'.heap.size w' w'' → (Below wr.heap.size wr w'' ∧ w''.cell? ⟨w.heap.size, 0, none⟩ = some (.slice a0 an0 ac0) ∧ w''.cell? ⟨w.heap.size, 1, none⟩ = some (.slice a1 an1 ac1) ∧ w''.cell? ⟨w.heap.size, 2, none⟩ = some (.slice a2 an2 ac2) ∧ w''.cell? ⟨w.heap.size, 3, none⟩ = some (.int .i64 L.ops) ∧ w''.cell? ⟨b, o + k * 7, none⟩ = some (.int .i64 xk) ∧ w''.cell? ⟨b, o + k * 7 + 1, none⟩ = some (.string xs) ∧ w''.cell? ⟨b, o + k * 7 + 2, none⟩ = some (.string xl) ∧ w''.cell? ⟨b, o + k * 7 + 3, none⟩ = some (.string xt) ∧ w''.cell? ⟨b, o + k * 7 + 4, none⟩ = some (.int .i64 xq) ∧ w''.cell? ⟨b, o + k * 7 + 5, none⟩ = some (.int .i64 xi) ∧ w''.cell? ⟨b, o + k * 7 + 6, none⟩ = some (.int .i64 xd))) := fun w' w'' h kk => HS.out w'' (Below.next h.1 kk)
        have HSD : Hid (∀ w' : World, (Below wr.heap.size wr w' ∧ w'.cell? ⟨w.heap.size, 0, none⟩ = some (.slice a0 an0 ac0) ∧ w'.cell? ⟨w.heap.size, 1, none⟩ = some (.slice a1 an1 ac1) ∧ w'.cell? ⟨w.heap.size, 2, none⟩ = some (.slice a2 an2 ac2) ∧ w'.cell? ⟨w.heap.size, 3, none⟩ = some (.int .i64 L.ops) ∧ w'.cell? ⟨b, o + k * 7, none⟩ = some (.int .i64 xk) ∧ w'.cell? ⟨b, o + k * 7 + 1, none⟩ = some (.string xs) ∧ w'.cell? ⟨b, o + k * 7 + 2, none⟩ = some (.string xl) ∧ w'.cell? ⟨b, o + k * 7 + 3, none⟩ = some (.string xt) ∧ w'.cell? ⟨b, o + k * 7 + 4, none⟩ = some (.int .i64 xq) ∧ w'.cell? ⟨b, o + k * 7 + 5, none⟩ = some (.int .i64 xi) ∧ w'.cell? ⟨b, o + k * 7 + 6, none⟩ = some (.int .i64 xd)) → (Below wr.heap.size wr w'.drew ∧ w'.drew.cell? ⟨w.heap.size, 0, none⟩ = some (.slice a0 an0 ac0) ∧ w'.drew.cell? ⟨w.heap.size, 1, none⟩ = some (.slice a1 an1 ac1) ∧ w'.drew.cell? ⟨w.heap.size, 2, none⟩ = some (.slice a2 an2 ac2) ∧ w'.drew.cell? ⟨w.heap.size, 3, none⟩ = some (.int .i64 L.ops) ∧ w'.drew.cell? ⟨b, o + k * 7, none⟩ = some (.int .i64 xk) ∧ w'.drew.cell? ⟨b, o + k * 7 + 1, none⟩ = some (.string xs) ∧ w'.drew.cell? ⟨b, o + k * 7 + 2, none⟩ = some (.string xl) ∧ w'.drew.cell? ⟨b, o + k * 7 + 3, none⟩ = some (.string xt) ∧ w'.drew.cell? ⟨b, o + k * 7 + 4, none⟩ = some (.int .i64 xq) ∧ w'.drew.cell? ⟨b, o + k * 7 + 5, none⟩ = some (.int .i64 xi) ∧ w'.drew.cell? ⟨b, o + k * 7 + 6, none⟩ = some (.int .i64 xd))) := fun w' h => HSN.out w' _ h (Below.refl _ _).drew
        have HSA : Hid (∀ (w' : World) (z : Obj), (Below wr.heap.size wr w' ∧ w'.cell? ⟨w.heap.size, 0, none⟩ = some (.slice a0 an0 ac0) ∧ w'.cell? ⟨w.heap.size, 1, none⟩ = some (.slice a1 an1 ac1) ∧ w'.cell? ⟨w.heap.size, 2, none⟩ = some (.slice a2 an2 ac2) ∧ w'.cell? ⟨w.heap.size, 3, none⟩ = some (.int .i64 L.ops) ∧ w'.cell? ⟨b, o + k * 7, none⟩ = some (.int .i64 xk) ∧ w'.cell? ⟨b, o + k * 7 + 1, none⟩ = some (.string xs) ∧ w'.cell? ⟨b, o + k * 7 + 2, none⟩ = some (.string xl) ∧ w'.cell? ⟨b, o + k * 7 + 3, none⟩ = some (.string xt) ∧ w'.cell? ⟨b, o + k * 7 + 4, none⟩ = some (.int .i64 xq) ∧ w'.cell? ⟨b, o + k * 7 + 5, none⟩ = some (.int .i64 xi) ∧ w'.cell? ⟨b, o + k * 7 + 6, none⟩ = some (.int .i64 xd)) → (Below wr.heap.size wr (w'.alloc z) ∧ (w'.alloc z).cell? ⟨w.heap.size, 0, none⟩ = some (.slice a0 an0 ac0) ∧ (w'.alloc z).cell? ⟨w.heap.size, 1, none⟩ = some (.slice a1 an1 ac1) ∧ (w'.alloc z).cell? ⟨w.heap.size, 2, none⟩ = some (.slice a2 an2 ac2) ∧ (w'.alloc z).cell? ⟨w.heap.size, 3, none⟩ = some (.int .i64 L.ops) ∧ (w'.alloc z).cell? ⟨b, o + k * 7, none⟩ = some (.int .i64 xk) ∧ (w'.alloc z).cell? ⟨b, o + k * 7 + 1, none⟩ = some (.string xs) ∧ (w'.alloc z).cell? ⟨b, o + k * 7 + 2, none⟩ = some (.string xl) ∧ (w'.alloc z).cell? ⟨b, o + k * 7 + 3, none⟩ = some (.string xt) ∧ (w'.alloc z).cell? ⟨b, o + k * 7 + 4, none⟩ = some (.int .i64 xq) ∧ (w'.alloc z).cell? ⟨b, o + k * 7 + 5, none⟩ = some (.int .i64 xi) ∧ (w'.alloc z).cell? ⟨b, o + k * 7 + 6, none⟩ = some (.int .i64 xd))) := fun w' z h => HSN.out w' _ h (below1 _ _)
        have HSAD : Hid (∀ (w' : World) (z : Obj), (Below wr.heap.size wr w' ∧ w'.cell? ⟨w.heap.size, 0, none⟩ = some (.slice a0 an0 ac0) ∧ w'.cell? ⟨w.heap.size, 1, none⟩ = some (.slice a1 an1 ac1) ∧ w'.cell? ⟨w.heap.size, 2, none⟩ = some (.slice a2 an2 ac2) ∧ w'.cell? ⟨w.heap.size, 3, none⟩ = some (.int .i64 L.ops) ∧ w'.cell? ⟨b, o + k * 7, none⟩ = some (.int .i64 xk) ∧ w'.cell? ⟨b, o + k * 7 + 1, none⟩ = some (.string xs) ∧ w'.cell? ⟨b, o + k * 7 + 2, none⟩ = some (.string xl) ∧ w'.cell? ⟨b, o + k * 7 + 3, none⟩ = some (.string xt) ∧ w'.cell? ⟨b, o + k * 7 + 4, none⟩ = some (.int .i64 xq) ∧ w'.cell? ⟨b, o + k * 7 + 5, none⟩ = some (.int .i64 xi) ∧ w'.cell? ⟨b, o + k * 7 + 6, none⟩ = some (.int .i64 xd)) → (Below wr.heap.size wr (w'.alloc z).drew ∧ (w'.alloc z).drew.cell? ⟨w.heap.size, 0, none⟩ = some (.slice a0 an0 ac0) ∧ (w'.alloc z).drew.cell? ⟨w.heap.size, 1, none⟩ = some (.slice a1 an1 ac1) ∧ (w'.alloc z).drew.cell? ⟨w.heap.size, 2, none⟩ = some (.slice a2 an2 ac2) ∧ (w'.alloc z).drew.cell? ⟨w.heap.size, 3, none⟩ = some (.int .i64 L.ops) ∧ (w'.alloc z).drew.cell? ⟨b, o + k * 7, none⟩ = some (.int .i64 xk) ∧ (w'.alloc z).drew.cell? ⟨b, o + k * 7 + 1, none⟩ = some (.string xs) ∧ (w'.alloc z).drew.cell? ⟨b, o + k * 7 + 2, none⟩ = some (.string xl) ∧ (w'.alloc z).drew.cell? ⟨b, o + k * 7 + 3, none⟩ = some (.string xt) ∧ (w'.alloc z).drew.cell? ⟨b, o + k * 7 + 4, none⟩ = some (.int .i64 xq) ∧ (w'.alloc z).drew.cell? ⟨b, o + k * 7 + 5, none⟩ = some (.int .i64 xi) ∧ (w'.alloc z).drew.cell? ⟨b, o + k * 7 + 6, none⟩ = some (.int .i64 xd))) := fun w' z h => HSN.out w' _ h (below1 _ _).drew
        have HLAST : Hid (∀ (w' : World) (B : Nat) (u0 u1 u2 u3 : Value), wr.heap.size ≤ B → (Below wr.heap.size wr w' ∧ w'.cell? ⟨w.heap.size, 0, none⟩ = some (.slice a0 an0 ac0) ∧ w'.cell? ⟨w.heap.size, 1, none⟩ = some (.slice a1 an1 ac1) ∧ w'.cell? ⟨w.heap.size, 2, none⟩ = some (.slice a2 an2 ac2) ∧ w'.cell? ⟨w.heap.size, 3, none⟩ = some (.int .i64 L.ops) ∧ w'.cell? ⟨b, o + k * 7, none⟩ = some (.int .i64 xk) ∧ w'.cell? ⟨b, o + k * 7 + 1, none⟩ = some (.string xs) ∧ w'.cell? ⟨b, o + k * 7 + 2, none⟩ = some (.string xl) ∧ w'.cell? ⟨b, o + k * 7 + 3, none⟩ = some (.string xt) ∧ w'.cell? ⟨b, o + k * 7 + 4, none⟩ = some (.int .i64 xq) ∧ w'.cell? ⟨b, o + k * 7 + 5, none⟩ = some (.int .i64 xi) ∧ w'.cell? ⟨b, o + k * 7 + 6, none⟩ = some (.int .i64 xd)) → (Below wr.heap.size wr ((((w'.setCell ⟨B, 0, none⟩ u0).setCell ⟨B, 1, none⟩ u1).setCell ⟨B, 2, none⟩ u2).setCell ⟨B, 3, none⟩ u3) ∧ ((((w'.setCell ⟨B, 0, none⟩ u0).setCell ⟨B, 1, none⟩ u1).setCell ⟨B, 2, none⟩ u2).setCell ⟨B, 3, none⟩ u3).cell? ⟨w.heap.size, 0, none⟩ = some (.slice a0 an0 ac0) ∧ ((((w'.setCell ⟨B, 0, none⟩ u0).setCell ⟨B, 1, none⟩ u1).setCell ⟨B, 2, none⟩ u2).setCell ⟨B, 3, none⟩ u3).cell? ⟨w.heap.size, 1, none⟩ = some (.slice a1 an1 ac1) ∧ ((((w'.setCell ⟨B, 0, none⟩ u0).setCell ⟨B, 1, none⟩ u1).setCell ⟨B, 2, none⟩ u2).setCell ⟨B, 3, none⟩ u3).cell? ⟨w.heap.size, 2, none⟩ = some (.slice a2 an2 ac2) ∧ ((((w'.setCell ⟨B, 0, none⟩ u0).setCell ⟨B, 1, none⟩ u1).setCell ⟨B, 2, none⟩ u2).setCell ⟨B, 3, none⟩ u3).cell? ⟨w.heap.size, 3, none⟩ = some (.int .i64 L.ops) ∧ ((((w'.setCell ⟨B, 0, none⟩ u0).setCell ⟨B, 1, none⟩ u1).setCell ⟨B, 2, none⟩ u2).setCell ⟨B, 3, none⟩ u3).cell? ⟨b, o + k * 7, none⟩ = some (.int .i64 xk) ∧ ((((w'.setCell ⟨B, 0, none⟩ u0).setCell ⟨B, 1, none⟩ u1).setCell ⟨B, 2, none⟩ u2).setCell ⟨B, 3, none⟩ u3).cell? ⟨b, o + k * 7 + 1, none⟩ = some (.string xs) ∧ ((((w'.setCell ⟨B, 0, none⟩ u0).setCell ⟨B, 1, none⟩ u1).setCell ⟨B, 2, none⟩ u2).setCell ⟨B, 3, none⟩ u3).cell? ⟨b, o + k * 7 + 2, none⟩ = some (.string xl) ∧ ((((w'.setCell ⟨B, 0, none⟩ u0).setCell ⟨B, 1, none⟩ u1).setCell ⟨B, 2, none⟩ u2).setCell ⟨B, 3, none⟩ u3).cell? ⟨b, o + k * 7 + 3, none⟩ = some (.string xt) ∧ ((((w'.setCell ⟨B, 0, none⟩ u0).setCell ⟨B, 1, none⟩ u1).setCell ⟨B, 2, none⟩ u2).setCell ⟨B, 3, none⟩ u3).cell? ⟨b, o + k * 7 + 4, none⟩ = some (.int .i64 xq) ∧ ((((w'.setCell ⟨B, 0, none⟩ u0).setCell ⟨B, 1, none⟩ u1).setCell ⟨B, 2, none⟩ u2).setCell ⟨B, 3, none⟩ u3).cell? ⟨b, o + k * 7 + 5, none⟩ = some (.int .i64 xi) ∧ ((((w'.setCell ⟨B, 0, none⟩ u0).setCell ⟨B, 1, none⟩ u1).setCell ⟨B, 2, none⟩ u2).setCell ⟨B, 3, none⟩ u3).cell? ⟨b, o + k * 7 + 6, none⟩ = some (.int .i64 xd))) := fun w' B u0 u1 u2 u3 hB h => HS.out _ (below_four h.1 B hB u0 u1 u2 u3)
        have HAP : Hid (∀ w' : World, (Below wr.heap.size wr w' ∧ w'.cell? ⟨w.heap.size, 0, none⟩ = some (.slice a0 an0 ac0) ∧ w'.cell? ⟨w.heap.size, 1, none⟩ = some (.slice a1 an1 ac1) ∧ w'.cell? ⟨w.heap.size, 2, none⟩ = some (.slice a2 an2 ac2) ∧ w'.cell? ⟨w.heap.size, 3, none⟩ = some (.int .i64 L.ops) ∧ w'.cell? ⟨b, o + k * 7, none⟩ = some (.int .i64 xk) ∧ w'.cell? ⟨b, o + k * 7 + 1, none⟩ = some (.string xs) ∧ w'.cell? ⟨b, o + k * 7 + 2, none⟩ = some (.string xl) ∧ w'.cell? ⟨b, o + k * 7 + 3, none⟩ = some (.string xt) ∧ w'.cell? ⟨b, o + k * 7 + 4, none⟩ = some (.int .i64 xq) ∧ w'.cell? ⟨b, o + k * 7 + 5, none⟩ = some (.int .i64 xi) ∧ w'.cell? ⟨b, o + k * 7 + 6, none⟩ = some (.int .i64 xd)) → Calls Try.prog 11 #[.agg #[.slice a0 an0 ac0, .slice a1 an1 ac1, .slice a2 an2 ac2, .int .i64 L.ops], .agg #[.int .i64 xk, .string xs, .string xl, .string xt, .int .i64 xq, .int .i64 xi, .int .i64 xd]] w' fun e w'' => ∃ d0 dn0 dc0 d1 dn1 dc1 d2 dn2 dc2, e = .returned (.tuple #[.agg #[.slice d0 dn0 dc0, .slice d1 dn1 dc1, .slice d2 dn2 dc2, .int .i64 N.ops], .int .i64 err]) ∧ (Below wr.heap.size wr w'' ∧ w''.cell? ⟨w.heap.size, 0, none⟩ = some (.slice a0 an0 ac0) ∧ w''.cell? ⟨w.heap.size, 1, none⟩ = some (.slice a1 an1 ac1) ∧ w''.cell? ⟨w.heap.size, 2, none⟩ = some (.slice a2 an2 ac2) ∧ w''.cell? ⟨w.heap.size, 3, none⟩ = some (.int .i64 L.ops) ∧ w''.cell? ⟨b, o + k * 7, none⟩ = some (.int .i64 xk) ∧ w''.cell? ⟨b, o + k * 7 + 1, none⟩ = some (.string xs) ∧ w''.cell? ⟨b, o + k * 7 + 2, none⟩ = some (.string xl) ∧ w''.cell? ⟨b, o + k * 7 + 3, none⟩ = some (.string xt) ∧ w''.cell? ⟨b, o + k * 7 + 4, none⟩ = some (.int .i64 xq) ∧ w''.cell? ⟨b, o + k * 7 + 5, none⟩ = some (.int .i64 xi) ∧ w''.cell? ⟨b, o + k * 7 + 6, none⟩ = some (.int .i64 xd)) ∧ Hid (Near w'.heap.size w''.heap.size w'' d0 dn0 dc0 d1 dn1 dc1 d2 dn2 dc2 N) ∧ Hid (Below w'.heap.size w' w'')) := fun w' q => by
          have := (HVL.out.next q.1).applied2 HMY.out.1 HMY.out.2 ⟨xk, xs, xl, xt, xq, xi, xd⟩ HOF.out
          rw [HNL.out, HER.out] at this
          exact this.mono fun e w'' ⟨d0, dn0, dc0, d1, dn1, dc1, d2, dn2, dc2, r1, r2, r3⟩ => ⟨d0, dn0, dc0, d1, dn1, dc1, d2, dn2, dc2, r1, HSN.out _ _ q r3, r2, r3⟩
        have HWB : Hid (w.heap.size < wr.heap.size) := HCL.out.lt
        have hS0 := HS.out wr (Below.refl _ _)
        go_upto_region 5 with fail
        go_cut [5, 6] (fun sa sb wx => ∃ (B A E : Nat) (d0 : Option Addr) (dn0 dc0 : Nat) (d1 : Option Addr) (dn1 dc1 : Nat) (d2 : Option Addr) (dn2 dc2 : Nat), sa = .pointer (some ⟨B, 0, none⟩) ∧ sb = .int .i64 err ∧ Hid (Below wr.heap.size wr wx ∧ CellsF wx B [.slice d0 dn0 dc0, .slice d1 dn1 dc1, .slice d2 dn2 dc2, .int .i64 N.ops] ∧ Near A E wx d0 dn0 dc0 d1 dn1 dc1 d2 dn2 dc2 N ∧ wr.heap.size ≤ B ∧ wr.heap.size ≤ A ∧ E ≤ wx.heap.size))
        case first =>
          go_region_held (fun (w' : World) => (Below wr.heap.size wr w' ∧ w'.cell? ⟨w.heap.size, 0, none⟩ = some (.slice a0 an0 ac0) ∧ w'.cell? ⟨w.heap.size, 1, none⟩ = some (.slice a1 an1 ac1) ∧ w'.cell? ⟨w.heap.size, 2, none⟩ = some (.slice a2 an2 ac2) ∧ w'.cell? ⟨w.heap.size, 3, none⟩ = some (.int .i64 L.ops) ∧ w'.cell? ⟨b, o + k * 7, none⟩ = some (.int .i64 xk) ∧ w'.cell? ⟨b, o + k * 7 + 1, none⟩ = some (.string xs) ∧ w'.cell? ⟨b, o + k * 7 + 2, none⟩ = some (.string xl) ∧ w'.cell? ⟨b, o + k * 7 + 3, none⟩ = some (.string xt) ∧ w'.cell? ⟨b, o + k * 7 + 4, none⟩ = some (.int .i64 xq) ∧ w'.cell? ⟨b, o + k * 7 + 5, none⟩ = some (.int .i64 xi) ∧ w'.cell? ⟨b, o + k * 7 + 6, none⟩ = some (.int .i64 xd))) (first | (with_reducible assumption) | (with_reducible exact HSD.out _ (by with_reducible assumption)) | (with_reducible exact HSA.out _ _ (by with_reducible assumption)) | (with_reducible exact HSAD.out _ _ (by with_reducible assumption)) | (with_reducible exact HLAST.out _ _ _ _ _ _ (Nat.le_refl _) (by with_reducible assumption)))
            (first | ((with_reducible refine Calls.mono (HAP.out _ (by with_reducible assumption)) ?_); rintro e w4 ⟨d0, dn0, dc0, d1, dn1, dc1, d2, dn2, dc2, rfl, hS4, HV4, HB4⟩; have HBW4 : Hid (Below wr.heap.size wr w4) := hS4.1; (first | (have hz4 := (CellsF.at (w := wr) [.slice none 0 0, .slice none 0 0, .slice none 0 0, .int .i64 0] 26 (by simp) rfl).next HB4.out; have HLT4 : Hid _ := (CellsF.at (w := wr) [.slice none 0 0, .slice none 0 0, .slice none 0 0, .int .i64 0] 26 (by simp) rfl).lt; have z0 := hz4.cs 0 _ rfl; have z1 := hz4.cs 1 _ rfl; have z2 := hz4.cs 2 _ rfl; have z3 := hz4.cs 3 _ rfl; have g0 := hz4.fz 0; have g1 := hz4.fz 1; have g2 := hz4.fz 2; have g3 := hz4.fz 3; have HZ4 : Hid _ := hz4; clear hz4) | (have hz4 := ((CellsF.at (w := wr) [.slice none 0 0, .slice none 0 0, .slice none 0 0, .int .i64 0] 26 (by simp) rfl).next (Below.refl _ _).drew).next HB4.out; have HLT4 : Hid _ := ((CellsF.at (w := wr) [.slice none 0 0, .slice none 0 0, .slice none 0 0, .int .i64 0] 26 (by simp) rfl).next (Below.refl _ _).drew).lt; have z0 := hz4.cs 0 _ rfl; have z1 := hz4.cs 1 _ rfl; have z2 := hz4.cs 2 _ rfl; have z3 := hz4.cs 3 _ rfl; have g0 := hz4.fz 0; have g1 := hz4.fz 1; have g2 := hz4.fz 2; have g3 := hz4.fz 3; have HZ4 : Hid _ := hz4; clear hz4) | (have hz4 := (CellsF.at (w := wr.drew) [.slice none 0 0, .slice none 0 0, .slice none 0 0, .int .i64 0] 26 (by simp) rfl).next HB4.out; have HLT4 : Hid _ := (CellsF.at (w := wr.drew) [.slice none 0 0, .slice none 0 0, .slice none 0 0, .int .i64 0] 26 (by simp) rfl).lt; have z0 := hz4.cs 0 _ rfl; have z1 := hz4.cs 1 _ rfl; have z2 := hz4.cs 2 _ rfl; have z3 := hz4.cs 3 _ rfl; have g0 := hz4.fz 0; have g1 := hz4.fz 1; have g2 := hz4.fz 2; have g3 := hz4.fz 3; have HZ4 : Hid _ := hz4; clear hz4) | (have hz4 := ((CellsF.at (w := wr.drew) [.slice none 0 0, .slice none 0 0, .slice none 0 0, .int .i64 0] 26 (by simp) rfl).next (Below.refl _ _).drew).next HB4.out; have HLT4 : Hid _ := ((CellsF.at (w := wr.drew) [.slice none 0 0, .slice none 0 0, .slice none 0 0, .int .i64 0] 26 (by simp) rfl).next (Below.refl _ _).drew).lt; have z0 := hz4.cs 0 _ rfl; have z1 := hz4.cs 1 _ rfl; have z2 := hz4.cs 2 _ rfl; have z3 := hz4.cs 3 _ rfl; have g0 := hz4.fz 0; have g1 := hz4.fz 1; have g2 := hz4.fz 2; have g3 := hz4.fz 3; have HZ4 : Hid _ := hz4; clear hz4)  | skip)))
          all_goals go_wp2_with fail
          all_goals go_meet
          all_goals first | exact ⟨_, _, _, _, _, _, _, _, _, _, _, _, rfl, rfl, below_four HBW4.out _ (Nat.le_refl _) _ _ _ _, HZ4.out.four rfl _ _ _ _, HV4.out.four HLT4.out _ _ _ _, Nat.le_refl _, Nat.le_of_lt HLT4.out, Nat.le_of_eq (size_four _ _ _ _ _ _).symm⟩ | exact ⟨_, _, _, _, _, _, _, _, _, _, _, _, rfl, rfl, Below.next HBW4.out (below1 _ _), CellsF.at _ 26 (by simp) rfl, HV4.out.next (Nat.le_refl _) (below1 _ _), HBW4.out.size, Nat.le_refl _, by rw [size_alloc]; exact Nat.le_succ _⟩
        case rest =>
          obtain ⟨B, A, E, d0, dn0, dc0, d1, dn1, dc1, d2, dn2, dc2, rfl, rfl, HCU⟩ := hcut
          have hcb := HCL.out.next HCU.out.1
          have HCB : Hid (CellsF wc w.heap.size [.slice a0 an0 ac0, .slice a1 an1 ac1, .slice a2 an2 ac2, .int .i64 L.ops]) := hcb
          have y0 := HCU.out.2.1.cs 0 _ rfl
          have y1 := HCU.out.2.1.cs 1 _ rfl
          have y2 := HCU.out.2.1.cs 2 _ rfl
          have y3 := HCU.out.2.1.cs 3 _ rfl
          clear hS0 hcb
          by_cases he : err = 0
          · subst he
            have hnn : N = doL L ⟨xk, xs, xl, xt, xq, xi, xd⟩ := by rw [← HNL.out]; unfold apL; rw [HER.out, if_pos rfl]
            have hnm := do_may HMY.out.1 HMY.out.2 HOF.out HER.out
            rw [← hnn] at hnm
            have hkp := doL_kept HER.out
            rw [← hnn] at hkp
            have HNM : Hid (mayL N ∧ N.fit) := hnm
            have HKP : Hid (KeptH L.H N.H ∧ (∃ m, N.M = L.M ++ m) ∧ N.ops = L.ops + 1) := hkp
            have HLN : Hid (L.S.length = an0 ∧ L.H.length = an1 ∧ L.M.length = an2 ∧ N.S.length = dn0 ∧ N.H.length = dn1 ∧ N.M.length = dn2) := ⟨HVL.out.h0, HVL.out.h1, HVL.out.h2, HCU.out.2.2.1.here.h0, HCU.out.2.2.1.here.h1, HCU.out.2.2.1.here.h2⟩
            have hll := lens HMY.out.1
            have hln := lens hnm.1
            have b1 : ¬ ((dn1 : Int) < (an1 : Int)) := by have h1 := hkp.1.1; have := HLN.out; omega
            have b2 : ¬ ((dn2 : Int) < (an2 : Int)) := by obtain ⟨m, h1⟩ := hkp.2.1; have h2 := congrArg List.length h1; rw [List.length_append] at h2; have := HLN.out; omega
            have bn : an1 ≤ 4096 ∧ an2 ≤ 4096 ∧ dn1 ≤ 4096 ∧ dn2 ≤ 4096 := by have := HLN.out; omega
            have bw : an1 ≤ dn1 ∧ an2 ≤ dn2 := by omega
            have ho := hnm.2.ops
            rw [hkp.2.2] at ho
            have ho1 : wrap64 (L.ops + 1) = L.ops + 1 := by unfold i64b at ho; unfold wrap64; omega
            have ho2 : IntKind.i64.wrap (L.ops + 1) = L.ops + 1 := by rw [IntKind.wrap_i64]; unfold i64b at ho; omega
            have HRM : Hid (Calls Try.prog 18 #[.agg #[.slice d0 dn0 dc0, .slice d1 dn1 dc1, .slice d2 dn2 dc2, .int .i64 (L.ops + 1)]] wc fun e w' => e = .returned (.bool true) ∧ Below wc.heap.size wc w') := by
              have := refMay_yes d0 dn0 dc0 d1 dn1 dc1 d2 dn2 dc2 N HLN.out.2.2.2.1 HLN.out.2.2.2.2.1 HLN.out.2.2.2.2.2 (by have := HLN.out; omega) (by have := HLN.out; omega) (by have := HLN.out; omega) hnm.2 hnm.1 wc HCU.out.2.2.1.here.li
              rw [hkp.2.2] at this
              exact this
            rw [hkp.2.2] at y3
            have HCN : Hid (CellsF wc B [.slice d0 dn0 dc0, .slice d1 dn1 dc1, .slice d2 dn2 dc2, .int .i64 (L.ops + 1)]) := by have := HCU.out.2.1; rw [hkp.2.2] at this; exact this
            have HNR : Hid (Near A E wc d0 dn0 dc0 d1 dn1 dc1 d2 dn2 dc2 N ∧ w.heap.size < A ∧ E ≤ wc.heap.size ∧ w.heap.size < B) := ⟨HCU.out.2.2.1, Nat.lt_of_lt_of_le HWB.out HCU.out.2.2.2.2.1, HCU.out.2.2.2.2.2, Nat.lt_of_lt_of_le HWB.out HCU.out.2.2.2.1⟩
            have HVW : Hid (Have wc a0 an0 ac0 a1 an1 ac1 a2 an2 ac2 L ∧ Below w.heap.size w wc) := ⟨HVL.out.next HCU.out.1, Below.next HB.out HCU.out.1⟩
            clear hnn hnm hkp hll hln ho HS HSN HSD HSA HSAD HLAST HAP HOP HCU HVL HCL
            go_wp2_with fail
            refine Calls.mono HRM.out ?_; rintro e w5 ⟨rfl, k5⟩
            have hca := HCB.out.next k5
            have hcn := HCN.out.next k5
            have HF : Hid (CellsF w5 w.heap.size [.slice a0 an0 ac0, .slice a1 an1 ac1, .slice a2 an2 ac2, .int .i64 L.ops] ∧ CellsF w5 B [.slice d0 dn0 dc0, .slice d1 dn1 dc1, .slice d2 dn2 dc2, .int .i64 (L.ops + 1)] ∧ Have w5 a0 an0 ac0 a1 an1 ac1 a2 an2 ac2 L ∧ Near A E w5 d0 dn0 dc0 d1 dn1 dc1 d2 dn2 dc2 N ∧ Below w.heap.size w w5 ∧ E ≤ w5.heap.size) := ⟨hca, hcn, HVW.out.1.next k5, HNR.out.1.next HNR.out.2.2.1 k5, Below.next HVW.out.2 k5, Nat.le_trans HNR.out.2.2.1 k5.size⟩
            have r1 := hca.cs 1 _ rfl
            have r2 := hca.cs 2 _ rfl
            have r3 := hca.cs 3 _ rfl
            have s1 := hcn.cs 1 _ rfl
            have s2 := hcn.cs 2 _ rfl
            have s3 := hcn.cs 3 _ rfl
            clear k5 hca hcn y0 y1 y2 y3 HVW HCB HCN HRM
            go_wp2_with fail
            clear r1 r2 r3 s1 s2 s3
            go_loopw [7] (fun vj wr => ∃ j : Nat, j ≤ an2 ∧ vj = .int .i64 j ∧ Hid (Below w5.heap.size w5 wr))
              (fun vj _ => an2 - (intOf vj).toNat)
            case atStart => exact ⟨0, Nat.zero_le _, rfl, Below.refl _ _⟩
            case round =>
              obtain ⟨j, hj, rfl, HJ⟩ := hrel
              have r2 := (HF.out.1.next HJ.out).cs 2 _ rfl
              have s2 := (HF.out.2.1.next HJ.out).cs 2 _ rfl
              by_cases hjl : j < an2
              · have hji : (j : Int) < (an2 : Int) := by omega
                have hjd : j < dn2 := by omega
                have hjdi : (j : Int) < (dn2 : Int) := by omega
                have q1 : j < L.M.length := by have := HLN.out; omega
                have q2 : j < N.M.length := by have := HLN.out; omega
                have hse : N.M[j] = L.M[j] := by
                  obtain ⟨m, hm⟩ := HKP.out.2.1
                  have : N.M[j]? = L.M[j]? := by rw [hm, List.getElem?_append_left q1]
                  rw [List.getElem?_eq_getElem q1, List.getElem?_eq_getElem q2] at this
                  exact Option.some.inj this
                obtain ⟨b1', o1, ha, hb1, hc1⟩ := HF.out.2.2.1.li.M.mov (fun e => by rw [e] at q1; simp at q1)
                obtain ⟨b2', o2, hd, hb2, hc2⟩ := HF.out.2.2.2.1.here.li.M.mov (fun e => by rw [e] at q2; simp at q2)
                have hx1 := (hc1 j q1).next (HJ.out.block b1' hb1)
                have hx2 := (hc2 j q2).next (HJ.out.block b2' hb2)
                rw [hse] at hx2
                rw [ha] at r2
                rw [hd] at s2
                generalize L.M[j] = x at hx1 hx2
                obtain ⟨mi, ms, ml, mq, mt, md⟩ := x
                obtain ⟨c0, c1, c2, c3, c4, c5⟩ := hx1
                obtain ⟨e0, e1, e2, e3, e4, e5⟩ := hx2
                dsimp only at c0 c1 c2 c3 c4 c5 e0 e1 e2 e3 e4 e5
                clear hc1 hc2 hse hb1 hb2 ha hd
                have HJD : Hid (∀ n, Below w5.heap.size w5 (wr.drewN n)) := fun n => ⟨HJ.out.os, HJ.out.tape, HJ.out.output, HJ.out.size, HJ.out.block⟩
                go_wp2_with fail
                go_quiet (fail)
                go_wp2_with fail
                go_roundw
                case rel => exact ⟨j + 1, by omega, by go_num, HJD.out _⟩
                case measure => simp [intOf]; omega
              · have hji : ¬ (j : Int) < (an2 : Int) := by omega
                have HF2 : Hid (CellsF wr w.heap.size [.slice a0 an0 ac0, .slice a1 an1 ac1, .slice a2 an2 ac2, .int .i64 L.ops] ∧ CellsF wr B [.slice d0 dn0 dc0, .slice d1 dn1 dc1, .slice d2 dn2 dc2, .int .i64 (L.ops + 1)] ∧ Have wr a0 an0 ac0 a1 an1 ac1 a2 an2 ac2 L ∧ Near A E wr d0 dn0 dc0 d1 dn1 dc1 d2 dn2 dc2 N ∧ Below w.heap.size w wr ∧ E ≤ wr.heap.size) := ⟨HF.out.1.next HJ.out, HF.out.2.1.next HJ.out, HF.out.2.2.1.next HJ.out, HF.out.2.2.2.1.next HF.out.2.2.2.2.2 HJ.out, Below.next HF.out.2.2.2.2.1 HJ.out, Nat.le_trans HF.out.2.2.2.2.2 HJ.out.size⟩
                clear HJ HF s2
                go_wp2_with fail
                clear r2
                rename World => w6
                go_loopw [8] (fun vj wr => ∃ j : Nat, j ≤ an1 ∧ vj = .int .i64 j ∧ Hid (Below w6.heap.size w6 wr))
                  (fun vj _ => an1 - (intOf vj).toNat)
                case atStart => exact ⟨0, Nat.zero_le _, rfl, Below.refl _ _⟩
                case round =>
                  obtain ⟨i, hi, rfl, HJ⟩ := hrel
                  have r1 := (HF2.out.1.next HJ.out).cs 1 _ rfl
                  have s1 := (HF2.out.2.1.next HJ.out).cs 1 _ rfl
                  by_cases hil : i < an1
                  · have hii : (i : Int) < (an1 : Int) := by omega
                    have hid : i < dn1 := by omega
                    have hidi : (i : Int) < (dn1 : Int) := by omega
                    have q1 : i < L.H.length := by have := HLN.out; omega
                    have q2 : i < N.H.length := by have := HLN.out; omega
                    obtain ⟨y, hy, hye, hys⟩ := HKP.out.1.2 i _ (List.getElem?_eq_getElem q1)
                    rw [List.getElem?_eq_getElem q2] at hy
                    have hy' := Option.some.inj hy
                    obtain ⟨b1', o1, ha, hb1, hc1⟩ := HF2.out.2.2.1.li.H.hld (fun e => by rw [e] at q1; simp at q1)
                    obtain ⟨b2', o2, hd, hb2, hc2⟩ := HF2.out.2.2.2.1.here.li.H.hld (fun e => by rw [e] at q2; simp at q2)
                    have hJA : ∀ z, Below w6.heap.size w6 (wr.alloc z) := fun z => Below.next HJ.out (below1 _ _)
                    have hx1 := fun z => (hc1 i q1).next ((hJA z).block b1' hb1)
                    have hx2 := fun z => (hc2 i q2).next ((hJA z).block b2' hb2)
                    have hx3 := (hc2 i q2).next (HJ.out.block b2' hb2)
                    rw [hy'] at hx3
                    have hrA := fun z => (HF2.out.1.next (hJA z)).cs 1 _ rfl
                    have hsA := fun z => (HF2.out.2.1.next (hJA z)).cs 1 _ rfl
                    simp only [hy'] at hx2
                    rw [ha] at r1
                    rw [hd] at s1
                    simp only [ha] at hrA
                    simp only [hd] at hsA
                    generalize L.H[i] = x at hx1 hye hys
                    obtain ⟨xi', xs', xl', xq', xt', xd'⟩ := x
                    obtain ⟨yi', ys', yl', yq', yt', yd'⟩ := y
                    have hy1 := congrArg Hld.id hye
                    have hy2 := congrArg Hld.sku hye
                    have hy3 := congrArg Hld.loc hye
                    have hy4 := congrArg Hld.qty hye
                    have hy5 := congrArg Hld.due hye
                    dsimp only at hy1 hy2 hy3 hy4 hy5 hys
                    subst hy1 hy2 hy3 hy4 hy5
                    have c0 := fun z => (hx1 z).c0
                    have c1 := fun z => (hx1 z).c1
                    have c2 := fun z => (hx1 z).c2
                    have c3 := fun z => (hx1 z).c3
                    have c4 := fun z => (hx1 z).c4
                    have c5 := fun z => (hx1 z).c5
                    have e4 := fun z => (hx2 z).c4
                    obtain ⟨f0, f1, f2, f3, f4, f5⟩ := hx3
                    dsimp only at c0 c1 c2 c3 c4 c5 e4 f0 f1 f2 f3 f4 f5
                    have HJD : Hid (∀ z n, Below w6.heap.size w6 ((wr.alloc z).drewN n)) := fun z n => ⟨(hJA z).os, (hJA z).tape, (hJA z).output, (hJA z).size, (hJA z).block⟩
                    clear hx1 hx2 hc1 hc2 hb1 hb2 ha hd hy hy' hye hJA
                    by_cases hz : xt' = 0
                    · have hzz : (xt' != 0) = false := by simpa using hz
                      have HZ : Hid (xt' = 0) := hz
                      clear hz hys
                      go_wp2_with fail
                      go_quiet (fail)
                      go_wp2_with fail
                      go_roundw
                      case rel => exact ⟨i + 1, by omega, by go_num, HJD.out _ _⟩
                      case measure => simp [intOf]; omega
                    · have hzz : (xt' != 0) = true := by simpa using hz
                      have hyt := hys hz
                      subst hyt
                      clear hys
                      go_wp2_with fail
                      go_quiet (fail)
                      go_wp2_with fail
                      go_roundw
                      case rel => exact ⟨i + 1, by omega, by go_num, HJD.out _ _⟩
                      case measure => simp [intOf]; omega
                  · have hii : ¬ (i : Int) < (an1 : Int) := by omega
                    have ha' := HF2.out.1.next HJ.out
                    have hn' := HF2.out.2.1.next HJ.out
                    have HFIN : Hid (∀ u0 u1 u2 u3, Below w.heap.size w ((((wr.setCell ⟨w.heap.size, 0, none⟩ u0).setCell ⟨w.heap.size, 1, none⟩ u1).setCell ⟨w.heap.size, 2, none⟩ u2).setCell ⟨w.heap.size, 3, none⟩ u3) ∧ CellsF ((((wr.setCell ⟨w.heap.size, 0, none⟩ u0).setCell ⟨w.heap.size, 1, none⟩ u1).setCell ⟨w.heap.size, 2, none⟩ u2).setCell ⟨w.heap.size, 3, none⟩ u3) w.heap.size [u0, u1, u2, u3] ∧ Have ((((wr.setCell ⟨w.heap.size, 0, none⟩ u0).setCell ⟨w.heap.size, 1, none⟩ u1).setCell ⟨w.heap.size, 2, none⟩ u2).setCell ⟨w.heap.size, 3, none⟩ u3) d0 dn0 dc0 d1 dn1 dc1 d2 dn2 dc2 N) := fun u0 u1 u2 u3 => ⟨below_four (Below.next HF2.out.2.2.2.2.1 HJ.out) _ (Nat.le_refl _) _ _ _ _, (HF2.out.1.next HJ.out).four rfl _ _ _ _, ((HF2.out.2.2.2.1.next HF2.out.2.2.2.2.2 HJ.out).four HNR.out.2.1 _ _ _ _).here⟩
                    have HOPS : Hid (N.ops = L.ops + 1) := HKP.out.2.2
                    have r0 := ha'.cs 0 _ rfl
                    have r2 := ha'.cs 2 _ rfl
                    have r3 := ha'.cs 3 _ rfl
                    have g0 := ha'.fz 0
                    have g1 := ha'.fz 1
                    have g2 := ha'.fz 2
                    have g3 := ha'.fz 3
                    have t0 := hn'.cs 0 _ rfl
                    have t2 := hn'.cs 2 _ rfl
                    have t3 := hn'.cs 3 _ rfl
                    clear ha' hn' HJ HF2
                    go_wp2_with fail
                    go_roundw
                    case rel => exact ⟨k + 1, d0, dn0, dc0, d1, dn1, dc1, d2, dn2, dc2, N, by omega, by omega, by go_num, (HFIN.out _ _ _ _).1, (by rw [HOPS.out]; exact (HFIN.out _ _ _ _).2.1), (HFIN.out _ _ _ _).2.2, HNM.out⟩
                    case measure => simp [intOf]; omega
          · have hnn : N = noL := by rw [← HNL.out]; unfold apL; rw [HER.out, if_neg he]
            subst hnn
            have heb : (err != 0) = true := by simpa using he
            obtain rfl : 0 = dn0 := HCU.out.2.2.1.here.h0
            obtain rfl : 0 = dn1 := HCU.out.2.2.1.here.h1
            obtain rfl : 0 = dn2 := HCU.out.2.2.1.here.h2
            have HSM : Hid _ := refSame_none d0 dc0 d1 dc1 d2 dc2 none 0 none 0 none 0 wc
            have HNX : Hid (∀ w', Below wc.heap.size wc w' → Below w.heap.size w w' ∧ CellsF w' w.heap.size [.slice a0 an0 ac0, .slice a1 an1 ac1, .slice a2 an2 ac2, .int .i64 L.ops] ∧ Have w' a0 an0 ac0 a1 an1 ac1 a2 an2 ac2 L) := fun w' q => ⟨Below.next (Below.next HB.out HCU.out.1) q, HCB.out.next q, (HVL.out.next HCU.out.1).next q⟩
            have y3' : wc.cell? ⟨B, 3, none⟩ = some (.int .i64 0) := y3
            clear HS HSN HSD HSA HSAD HLAST HAP HOP HCU HVL HCL HB HCB HER HNL he
            go_wp2_with fail
            refine Calls.mono HSM.out ?_; rintro e w5 ⟨rfl, k5⟩
            have HN5 : Hid _ := HNX.out _ k5
            clear k5
            go_wp2_with fail
            go_roundw
            case rel => exact ⟨k + 1, a0, an0, ac0, a1, an1, ac1, a2, an2, ac2, L, by omega, by omega, by go_num, HN5.out.1, HN5.out.2.1, HN5.out.2.2, HMY.out⟩
            case measure => simp [intOf]; omega
      · have hlt3i : ¬ (k : Int) < 30 := by omega
        go_wp2_with fail
        refine Calls.mono (HAW.out _) ?_; rintro e w5 ⟨rfl, k5⟩
        have HF : Hid (Below w.heap.size w w5) := Below.next HB.out k5
        clear k5
        go_wp2_with fail
        go_ret
        exact ⟨rfl, HF.out⟩
    · have hlti : ¬ (k : Int) < (n : Int) := by omega
      go_wp2_with fail
      refine Calls.mono (HAW.out _) ?_; rintro e w5 ⟨rfl, k5⟩
      have HF : Hid (Below w.heap.size w w5) := Below.next HB.out k5
      clear k5
      go_wp2_with fail
      go_ret
      exact ⟨rfl, HF.out⟩
end Go.Proofs.Ytbclddgicnaamaa
