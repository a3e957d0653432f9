/- ledger.receive. -/
import Derived.Test.YtflbcheofmljeaaCap
import Derived.Deep.DeepCutAuto
namespace Go.Proofs.Ytflbcheofmljeaa
open Go.ChangeShapes Go.WideShapes Go.RowKit
set_option linter.unusedVariables false
set_option maxRecDepth 100000

/-- Why more can not come. -/
def errR (L : Led) (o : Opn) : Int := if ¬ er ((findK L.S o.sku o.loc).on + o.qty) = 0 then er ((findK L.S o.sku o.loc).on + o.qty) else if room L (if hasK L.S o.sku o.loc then 0 else 1) 0 1 then 0 else 2
set_option maxHeartbeats 4000000 in
theorem receive_is {w : World} {E : Nat → Prop} {b : Nat} {v0 v1 v2 : Value} {L : Led} (h : LedO w E b v0 v1 v2 L) (hm : mayL L) (hf : L.fit) (o : Opn) (ho : o.fit) :
    Calls Try.prog 68 #[.pointer (some ⟨b, 0, none⟩), oval o] w fun e w' => KindP w w' b o 87 (errR L o) e := by
  obtain ⟨a0, c0, a1, c1, a2, c2, rfl, rfl, rfl, hlies⟩ := h.forms
  obtain ⟨ok, os, ol, ot, oq, oi, od⟩ := o
  show Calls Try.prog 68 #[.pointer (some ⟨b, 0, none⟩), .agg #[.int .i64 ok, .string os, .string ol, .string ot, .int .i64 oq, .int .i64 oi, .int .i64 od]] w _
  obtain ⟨n0, hn0⟩ : ∃ n0, L.S.length = n0 := ⟨_, rfl⟩
  obtain ⟨n1, hn1⟩ : ∃ n1, L.H.length = n1 := ⟨_, rfl⟩
  obtain ⟨n2, hn2⟩ : ∃ n2, L.M.length = n2 := ⟨_, rfl⟩
  rw [hn0, hn1, hn2] at h
  have hroom : n0 ≤ 4096 ∧ n1 ≤ 4096 ∧ n2 ≤ 4096 := by have := hm.room; unfold room at this; omega
  obtain ⟨W, hW⟩ : ∃ W, (w.alloc (.cells #[.pointer (some ⟨b, 0, none⟩)] 59)).alloc (.cells #[.int .i64 ok, .string os, .string ol, .string ot, .int .i64 oq, .int .i64 oi, .int .i64 od] 28) = W := ⟨_, rfl⟩
  have hBX : Box2 w W b ⟨ok, os, ol, ot, oq, oi, od⟩ := Box2.of w b ⟨ok, os, ol, ot, oq, oi, od⟩ hW
  have HBX : Hid _ := hBX
  have hlc := h.c.next hBX.bel
  have HLC : Hid (CellsF W b [.slice a0 n0 c0, .slice a1 n1 c1, .slice a2 n2 c2, .int .i64 L.ops]) := hlc
  have HLI : Hid (Lies W a0 a1 a2 L) := hlies.next hBX.bel
  have HM : Hid (mayL L ∧ L.fit) := ⟨hm, hf⟩
  have HNN : Hid (L.S.length = n0 ∧ L.H.length = n1 ∧ L.M.length = n2) := ⟨hn0, hn1, hn2⟩
  obtain ⟨err, herr⟩ : ∃ err, errR L ⟨ok, os, ol, ot, oq, oi, od⟩ = err := ⟨_, rfl⟩
  rw [herr]
  have HER : Hid (errR L ⟨ok, os, ol, ot, oq, oi, od⟩ = err) := herr
  have HNO : Hid (∀ w' x, Below W.heap.size W w' → err = x → ¬ x = 0 → KindP w w' b ⟨ok, os, ol, ot, oq, oi, od⟩ 87 err (.returned (.tuple #[.nilFunc, .int .i64 x]))) := fun w' x k e hx => by subst e; exact KindP.no (Below.next HBX.out.bel k) hx
  have HYES : Hid (∀ w', Below W.heap.size W w' → err = 0 → KindP w w' b ⟨ok, os, ol, ot, oq, oi, od⟩ 87 err (.returned (.tuple #[.func (.func 87) #[] #[.pointer (some ⟨w.heap.size, 0, none⟩), .pointer (some ⟨w.heap.size + 1, 0, none⟩)], .int .i64 0]))) := fun w' k e => by rw [e]; exact KindP.yes HBX.out k
  have HS : Hid (∀ w', Below W.heap.size W w' → (Below W.heap.size W w' ∧ w'.cell? ⟨w.heap.size, 0, none⟩ = some (.pointer (some ⟨b, 0, none⟩)) ∧ w'.cell? ⟨b, 0, none⟩ = some (.slice a0 n0 c0) ∧ w'.cell? ⟨b, 1, none⟩ = some (.slice a1 n1 c1) ∧ w'.cell? ⟨b, 2, none⟩ = some (.slice a2 n2 c2) ∧ w'.cell? ⟨b, 3, none⟩ = some (.int .i64 L.ops) ∧ w'.cell? ⟨w.heap.size + 1, 0, none⟩ = some (.int .i64 ok) ∧ w'.cell? ⟨w.heap.size + 1, 1, none⟩ = some (.string os) ∧ w'.cell? ⟨w.heap.size + 1, 2, none⟩ = some (.string ol) ∧ w'.cell? ⟨w.heap.size + 1, 3, none⟩ = some (.string ot) ∧ w'.cell? ⟨w.heap.size + 1, 4, none⟩ = some (.int .i64 oq) ∧ w'.cell? ⟨w.heap.size + 1, 5, none⟩ = some (.int .i64 oi) ∧ w'.cell? ⟨w.heap.size + 1, 6, none⟩ = some (.int .i64 od))) := fun w' k => by
    have q1 := HBX.out.p.next k
    have q2 := HLC.out.next k
    have q3 := HBX.out.o.next k
    exact ⟨k, q1.cs 0 _ rfl, q2.cs 0 _ rfl, q2.cs 1 _ rfl, q2.cs 2 _ rfl, q2.cs 3 _ rfl, q3.cs 0 _ rfl, q3.cs 1 _ rfl, q3.cs 2 _ rfl, q3.cs 3 _ rfl, q3.cs 4 _ rfl, q3.cs 5 _ rfl, q3.cs 6 _ rfl⟩
  have HSN : Hid (∀ w' w'', (Below W.heap.size W w' ∧ w'.cell? ⟨w.heap.size, 0, none⟩ = some (.pointer (some ⟨b, 0, none⟩)) ∧ w'.cell? ⟨b, 0, none⟩ = some (.slice a0 n0 c0) ∧ w'.cell? ⟨b, 1, none⟩ = some (.slice a1 n1 c1) ∧ w'.cell? ⟨b, 2, none⟩ = some (.slice a2 n2 c2) ∧ w'.cell? ⟨b, 3, none⟩ = some (.int .i64 L.ops) ∧ w'.cell? ⟨w.heap.size + 1, 0, none⟩ = some (.int .i64 ok) ∧ w'.cell? ⟨w.heap.size + 1, 1, none⟩ = some (.string os) ∧ w'.cell? ⟨w.heap.size + 1, 2, none⟩ = some (.string ol) ∧ w'.cell? ⟨w.heap.size + 1, 3, none⟩ = some (.string ot) ∧ w'.cell? ⟨w.heap.size + 1, 4, none⟩ = some (.int .i64 oq) ∧ w'.cell? ⟨w.heap.size + 1, 5, none⟩ = some (.int .i64 oi) ∧ w'.cell? ⟨w.heap.size + 1, 6, none⟩ = some (.int .i64 od)) → Below w'.heap.size w' w'' → (Below W.heap.size W w'' ∧ w''.cell? ⟨w.heap.size, 0, none⟩ = some (.pointer (some ⟨b, 0, none⟩)) ∧ w''.cell? ⟨b, 0, none⟩ = some (.slice a0 n0 c0) ∧ w''.cell? ⟨b, 1, none⟩ = some (.slice a1 n1 c1) ∧ w''.cell? ⟨b, 2, none⟩ = some (.slice a2 n2 c2) ∧ w''.cell? ⟨b, 3, none⟩ = some (.int .i64 L.ops) ∧ w''.cell? ⟨w.heap.size + 1, 0, none⟩ = some (.int .i64 ok) ∧ w''.cell? ⟨w.heap.size + 1, 1, none⟩ = some (.string os) ∧ w''.cell? ⟨w.heap.size + 1, 2, none⟩ = some (.string ol) ∧ w''.cell? ⟨w.heap.size + 1, 3, none⟩ = some (.string ot) ∧ w''.cell? ⟨w.heap.size + 1, 4, none⟩ = some (.int .i64 oq) ∧ w''.cell? ⟨w.heap.size + 1, 5, none⟩ = some (.int .i64 oi) ∧ w''.cell? ⟨w.heap.size + 1, 6, none⟩ = some (.int .i64 od))) := fun w' w'' h k => HS.out w'' (Below.next h.1 k)
  have HSD : Hid (∀ w', (Below W.heap.size W w' ∧ w'.cell? ⟨w.heap.size, 0, none⟩ = some (.pointer (some ⟨b, 0, none⟩)) ∧ w'.cell? ⟨b, 0, none⟩ = some (.slice a0 n0 c0) ∧ w'.cell? ⟨b, 1, none⟩ = some (.slice a1 n1 c1) ∧ w'.cell? ⟨b, 2, none⟩ = some (.slice a2 n2 c2) ∧ w'.cell? ⟨b, 3, none⟩ = some (.int .i64 L.ops) ∧ w'.cell? ⟨w.heap.size + 1, 0, none⟩ = some (.int .i64 ok) ∧ w'.cell? ⟨w.heap.size + 1, 1, none⟩ = some (.string os) ∧ w'.cell? ⟨w.heap.size + 1, 2, none⟩ = some (.string ol) ∧ w'.cell? ⟨w.heap.size + 1, 3, none⟩ = some (.string ot) ∧ w'.cell? ⟨w.heap.size + 1, 4, none⟩ = some (.int .i64 oq) ∧ w'.cell? ⟨w.heap.size + 1, 5, none⟩ = some (.int .i64 oi) ∧ w'.cell? ⟨w.heap.size + 1, 6, none⟩ = some (.int .i64 od)) → (Below W.heap.size W w'.drew ∧ w'.drew.cell? ⟨w.heap.size, 0, none⟩ = some (.pointer (some ⟨b, 0, none⟩)) ∧ w'.drew.cell? ⟨b, 0, none⟩ = some (.slice a0 n0 c0) ∧ w'.drew.cell? ⟨b, 1, none⟩ = some (.slice a1 n1 c1) ∧ w'.drew.cell? ⟨b, 2, none⟩ = some (.slice a2 n2 c2) ∧ w'.drew.cell? ⟨b, 3, none⟩ = some (.int .i64 L.ops) ∧ w'.drew.cell? ⟨w.heap.size + 1, 0, none⟩ = some (.int .i64 ok) ∧ w'.drew.cell? ⟨w.heap.size + 1, 1, none⟩ = some (.string os) ∧ w'.drew.cell? ⟨w.heap.size + 1, 2, none⟩ = some (.string ol) ∧ w'.drew.cell? ⟨w.heap.size + 1, 3, none⟩ = some (.string ot) ∧ w'.drew.cell? ⟨w.heap.size + 1, 4, none⟩ = some (.int .i64 oq) ∧ w'.drew.cell? ⟨w.heap.size + 1, 5, none⟩ = some (.int .i64 oi) ∧ w'.drew.cell? ⟨w.heap.size + 1, 6, none⟩ = some (.int .i64 od))) := fun w' h => HSN.out w' _ h (Below.refl _ _).drew
  have HSA : Hid (∀ (w' : World) (x : Obj), (Below W.heap.size W w' ∧ w'.cell? ⟨w.heap.size, 0, none⟩ = some (.pointer (some ⟨b, 0, none⟩)) ∧ w'.cell? ⟨b, 0, none⟩ = some (.slice a0 n0 c0) ∧ w'.cell? ⟨b, 1, none⟩ = some (.slice a1 n1 c1) ∧ w'.cell? ⟨b, 2, none⟩ = some (.slice a2 n2 c2) ∧ w'.cell? ⟨b, 3, none⟩ = some (.int .i64 L.ops) ∧ w'.cell? ⟨w.heap.size + 1, 0, none⟩ = some (.int .i64 ok) ∧ w'.cell? ⟨w.heap.size + 1, 1, none⟩ = some (.string os) ∧ w'.cell? ⟨w.heap.size + 1, 2, none⟩ = some (.string ol) ∧ w'.cell? ⟨w.heap.size + 1, 3, none⟩ = some (.string ot) ∧ w'.cell? ⟨w.heap.size + 1, 4, none⟩ = some (.int .i64 oq) ∧ w'.cell? ⟨w.heap.size + 1, 5, none⟩ = some (.int .i64 oi) ∧ w'.cell? ⟨w.heap.size + 1, 6, none⟩ = some (.int .i64 od)) → (Below W.heap.size W (w'.alloc x) ∧ (w'.alloc x).cell? ⟨w.heap.size, 0, none⟩ = some (.pointer (some ⟨b, 0, none⟩)) ∧ (w'.alloc x).cell? ⟨b, 0, none⟩ = some (.slice a0 n0 c0) ∧ (w'.alloc x).cell? ⟨b, 1, none⟩ = some (.slice a1 n1 c1) ∧ (w'.alloc x).cell? ⟨b, 2, none⟩ = some (.slice a2 n2 c2) ∧ (w'.alloc x).cell? ⟨b, 3, none⟩ = some (.int .i64 L.ops) ∧ (w'.alloc x).cell? ⟨w.heap.size + 1, 0, none⟩ = some (.int .i64 ok) ∧ (w'.alloc x).cell? ⟨w.heap.size + 1, 1, none⟩ = some (.string os) ∧ (w'.alloc x).cell? ⟨w.heap.size + 1, 2, none⟩ = some (.string ol) ∧ (w'.alloc x).cell? ⟨w.heap.size + 1, 3, none⟩ = some (.string ot) ∧ (w'.alloc x).cell? ⟨w.heap.size + 1, 4, none⟩ = some (.int .i64 oq) ∧ (w'.alloc x).cell? ⟨w.heap.size + 1, 5, none⟩ = some (.int .i64 oi) ∧ (w'.alloc x).cell? ⟨w.heap.size + 1, 6, none⟩ = some (.int .i64 od))) := fun w' x h => HSN.out w' _ h (below1 _ _)
  have HSAD : Hid (∀ (w' : World) (x : Obj), (Below W.heap.size W w' ∧ w'.cell? ⟨w.heap.size, 0, none⟩ = some (.pointer (some ⟨b, 0, none⟩)) ∧ w'.cell? ⟨b, 0, none⟩ = some (.slice a0 n0 c0) ∧ w'.cell? ⟨b, 1, none⟩ = some (.slice a1 n1 c1) ∧ w'.cell? ⟨b, 2, none⟩ = some (.slice a2 n2 c2) ∧ w'.cell? ⟨b, 3, none⟩ = some (.int .i64 L.ops) ∧ w'.cell? ⟨w.heap.size + 1, 0, none⟩ = some (.int .i64 ok) ∧ w'.cell? ⟨w.heap.size + 1, 1, none⟩ = some (.string os) ∧ w'.cell? ⟨w.heap.size + 1, 2, none⟩ = some (.string ol) ∧ w'.cell? ⟨w.heap.size + 1, 3, none⟩ = some (.string ot) ∧ w'.cell? ⟨w.heap.size + 1, 4, none⟩ = some (.int .i64 oq) ∧ w'.cell? ⟨w.heap.size + 1, 5, none⟩ = some (.int .i64 oi) ∧ w'.cell? ⟨w.heap.size + 1, 6, none⟩ = some (.int .i64 od)) → (Below W.heap.size W (w'.alloc x).drew ∧ (w'.alloc x).drew.cell? ⟨w.heap.size, 0, none⟩ = some (.pointer (some ⟨b, 0, none⟩)) ∧ (w'.alloc x).drew.cell? ⟨b, 0, none⟩ = some (.slice a0 n0 c0) ∧ (w'.alloc x).drew.cell? ⟨b, 1, none⟩ = some (.slice a1 n1 c1) ∧ (w'.alloc x).drew.cell? ⟨b, 2, none⟩ = some (.slice a2 n2 c2) ∧ (w'.alloc x).drew.cell? ⟨b, 3, none⟩ = some (.int .i64 L.ops) ∧ (w'.alloc x).drew.cell? ⟨w.heap.size + 1, 0, none⟩ = some (.int .i64 ok) ∧ (w'.alloc x).drew.cell? ⟨w.heap.size + 1, 1, none⟩ = some (.string os) ∧ (w'.alloc x).drew.cell? ⟨w.heap.size + 1, 2, none⟩ = some (.string ol) ∧ (w'.alloc x).drew.cell? ⟨w.heap.size + 1, 3, none⟩ = some (.string ot) ∧ (w'.alloc x).drew.cell? ⟨w.heap.size + 1, 4, none⟩ = some (.int .i64 oq) ∧ (w'.alloc x).drew.cell? ⟨w.heap.size + 1, 5, none⟩ = some (.int .i64 oi) ∧ (w'.alloc x).drew.cell? ⟨w.heap.size + 1, 6, none⟩ = some (.int .i64 od))) := fun w' x h => HSN.out w' _ h (below1 _ _).drew
  have HLAST : Hid (∀ (w' : World) (B : Nat) (u0 u1 u2 u3 : Value), W.heap.size ≤ B → (Below W.heap.size W w' ∧ w'.cell? ⟨w.heap.size, 0, none⟩ = some (.pointer (some ⟨b, 0, none⟩)) ∧ w'.cell? ⟨b, 0, none⟩ = some (.slice a0 n0 c0) ∧ w'.cell? ⟨b, 1, none⟩ = some (.slice a1 n1 c1) ∧ w'.cell? ⟨b, 2, none⟩ = some (.slice a2 n2 c2) ∧ w'.cell? ⟨b, 3, none⟩ = some (.int .i64 L.ops) ∧ w'.cell? ⟨w.heap.size + 1, 0, none⟩ = some (.int .i64 ok) ∧ w'.cell? ⟨w.heap.size + 1, 1, none⟩ = some (.string os) ∧ w'.cell? ⟨w.heap.size + 1, 2, none⟩ = some (.string ol) ∧ w'.cell? ⟨w.heap.size + 1, 3, none⟩ = some (.string ot) ∧ w'.cell? ⟨w.heap.size + 1, 4, none⟩ = some (.int .i64 oq) ∧ w'.cell? ⟨w.heap.size + 1, 5, none⟩ = some (.int .i64 oi) ∧ w'.cell? ⟨w.heap.size + 1, 6, none⟩ = some (.int .i64 od)) → (Below W.heap.size W ((((w'.setCell ⟨B, 0, none⟩ u0).setCell ⟨B, 1, none⟩ u1).setCell ⟨B, 2, none⟩ u2).setCell ⟨B, 3, none⟩ u3) ∧ ((((w'.setCell ⟨B, 0, none⟩ u0).setCell ⟨B, 1, none⟩ u1).setCell ⟨B, 2, none⟩ u2).setCell ⟨B, 3, none⟩ u3).cell? ⟨w.heap.size, 0, none⟩ = some (.pointer (some ⟨b, 0, none⟩)) ∧ ((((w'.setCell ⟨B, 0, none⟩ u0).setCell ⟨B, 1, none⟩ u1).setCell ⟨B, 2, none⟩ u2).setCell ⟨B, 3, none⟩ u3).cell? ⟨b, 0, none⟩ = some (.slice a0 n0 c0) ∧ ((((w'.setCell ⟨B, 0, none⟩ u0).setCell ⟨B, 1, none⟩ u1).setCell ⟨B, 2, none⟩ u2).setCell ⟨B, 3, none⟩ u3).cell? ⟨b, 1, none⟩ = some (.slice a1 n1 c1) ∧ ((((w'.setCell ⟨B, 0, none⟩ u0).setCell ⟨B, 1, none⟩ u1).setCell ⟨B, 2, none⟩ u2).setCell ⟨B, 3, none⟩ u3).cell? ⟨b, 2, none⟩ = some (.slice a2 n2 c2) ∧ ((((w'.setCell ⟨B, 0, none⟩ u0).setCell ⟨B, 1, none⟩ u1).setCell ⟨B, 2, none⟩ u2).setCell ⟨B, 3, none⟩ u3).cell? ⟨b, 3, none⟩ = some (.int .i64 L.ops) ∧ ((((w'.setCell ⟨B, 0, none⟩ u0).setCell ⟨B, 1, none⟩ u1).setCell ⟨B, 2, none⟩ u2).setCell ⟨B, 3, none⟩ u3).cell? ⟨w.heap.size + 1, 0, none⟩ = some (.int .i64 ok) ∧ ((((w'.setCell ⟨B, 0, none⟩ u0).setCell ⟨B, 1, none⟩ u1).setCell ⟨B, 2, none⟩ u2).setCell ⟨B, 3, none⟩ u3).cell? ⟨w.heap.size + 1, 1, none⟩ = some (.string os) ∧ ((((w'.setCell ⟨B, 0, none⟩ u0).setCell ⟨B, 1, none⟩ u1).setCell ⟨B, 2, none⟩ u2).setCell ⟨B, 3, none⟩ u3).cell? ⟨w.heap.size + 1, 2, none⟩ = some (.string ol) ∧ ((((w'.setCell ⟨B, 0, none⟩ u0).setCell ⟨B, 1, none⟩ u1).setCell ⟨B, 2, none⟩ u2).setCell ⟨B, 3, none⟩ u3).cell? ⟨w.heap.size + 1, 3, none⟩ = some (.string ot) ∧ ((((w'.setCell ⟨B, 0, none⟩ u0).setCell ⟨B, 1, none⟩ u1).setCell ⟨B, 2, none⟩ u2).setCell ⟨B, 3, none⟩ u3).cell? ⟨w.heap.size + 1, 4, none⟩ = some (.int .i64 oq) ∧ ((((w'.setCell ⟨B, 0, none⟩ u0).setCell ⟨B, 1, none⟩ u1).setCell ⟨B, 2, none⟩ u2).setCell ⟨B, 3, none⟩ u3).cell? ⟨w.heap.size + 1, 5, none⟩ = some (.int .i64 oi) ∧ ((((w'.setCell ⟨B, 0, none⟩ u0).setCell ⟨B, 1, none⟩ u1).setCell ⟨B, 2, none⟩ u2).setCell ⟨B, 3, none⟩ u3).cell? ⟨w.heap.size + 1, 6, none⟩ = some (.int .i64 od))) := fun w' B u0 u1 u2 u3 hB h => HS.out _ (below_four h.1 B hB u0 u1 u2 u3)
  have HADD : Hid (∀ x, i64b x → ∀ w, Calls Try.prog 86 #[.int .i64 x, .int .i64 oq] w fun e w' => e = .returned (.tuple #[.int .i64 (vl (x + oq)), .int .i64 (er (x + oq))]) ∧ w' = w) := fun x hx w => add_is x oq hx ho.qty w
  have HFK : Hid (∀ s t, (findK L.S s t).fit) := fun s t => findK_fit hf.S s t
  have hS0 := HS.out W (Below.refl _ _)
  clear hm hf ho h hlies hBX hlc hn0 hn1 hn2 herr
  obtain ⟨f, hf⟩ : ∃ f, findK L.S os ol = f := ⟨_, rfl⟩
  obtain ⟨fm, hfm⟩ : ∃ fm : Int, (if hasK L.S os ol then (0 : Int) else 1) = fm := ⟨_, rfl⟩
  have Hf : Hid (findK L.S os ol = f ∧ (if hasK L.S os ol then (0 : Int) else 1) = fm) := ⟨hf, hfm⟩
  have hfb : 0 ≤ fm ∧ fm ≤ 1 := by rw [← hfm]; split <;> omega
  have hff : i64b f.on ∧ i64b f.held := by have := HFK.out os ol; rw [hf] at this; exact ⟨this.on, this.held⟩
  have HPf : Hid (∀ w', (Below W.heap.size W w' ∧ w'.cell? ⟨w.heap.size, 0, none⟩ = some (.pointer (some ⟨b, 0, none⟩)) ∧ w'.cell? ⟨b, 0, none⟩ = some (.slice a0 n0 c0) ∧ w'.cell? ⟨b, 1, none⟩ = some (.slice a1 n1 c1) ∧ w'.cell? ⟨b, 2, none⟩ = some (.slice a2 n2 c2) ∧ w'.cell? ⟨b, 3, none⟩ = some (.int .i64 L.ops) ∧ w'.cell? ⟨w.heap.size + 1, 0, none⟩ = some (.int .i64 ok) ∧ w'.cell? ⟨w.heap.size + 1, 1, none⟩ = some (.string os) ∧ w'.cell? ⟨w.heap.size + 1, 2, none⟩ = some (.string ol) ∧ w'.cell? ⟨w.heap.size + 1, 3, none⟩ = some (.string ot) ∧ w'.cell? ⟨w.heap.size + 1, 4, none⟩ = some (.int .i64 oq) ∧ w'.cell? ⟨w.heap.size + 1, 5, none⟩ = some (.int .i64 oi) ∧ w'.cell? ⟨w.heap.size + 1, 6, none⟩ = some (.int .i64 od)) → Calls Try.prog 85 #[.agg #[.slice a0 n0 c0, .slice a1 n1 c1, .slice a2 n2 c2, .int .i64 L.ops], .string os, .string ol] w' fun e w'' => e = .returned (.tuple #[.agg #[.string f.sku, .string f.loc, .int .i64 f.on, .int .i64 f.held], .int .i64 fm]) ∧ (Below W.heap.size W w'' ∧ w''.cell? ⟨w.heap.size, 0, none⟩ = some (.pointer (some ⟨b, 0, none⟩)) ∧ w''.cell? ⟨b, 0, none⟩ = some (.slice a0 n0 c0) ∧ w''.cell? ⟨b, 1, none⟩ = some (.slice a1 n1 c1) ∧ w''.cell? ⟨b, 2, none⟩ = some (.slice a2 n2 c2) ∧ w''.cell? ⟨b, 3, none⟩ = some (.int .i64 L.ops) ∧ w''.cell? ⟨w.heap.size + 1, 0, none⟩ = some (.int .i64 ok) ∧ w''.cell? ⟨w.heap.size + 1, 1, none⟩ = some (.string os) ∧ w''.cell? ⟨w.heap.size + 1, 2, none⟩ = some (.string ol) ∧ w''.cell? ⟨w.heap.size + 1, 3, none⟩ = some (.string ot) ∧ w''.cell? ⟨w.heap.size + 1, 4, none⟩ = some (.int .i64 oq) ∧ w''.cell? ⟨w.heap.size + 1, 5, none⟩ = some (.int .i64 oi) ∧ w''.cell? ⟨w.heap.size + 1, 6, none⟩ = some (.int .i64 od)) ∧ Hid (Below w'.heap.size w' w'')) := fun w' q => (seen_is a0 n0 c0 a1 n1 c1 a2 n2 c2 L.ops L.S HNN.out.1 HM.out.1.S.2 (by omega) os ol w' (HLI.out.S.next stv_ne q.1)).mono (by
    rintro e w'' ⟨he, hb⟩
    refine ⟨?_, HSN.out _ _ q hb, hb⟩
    rw [he, hf, hfm])
  clear hf hfm
  go_enter Try.func68, Try.ntmps68
  go_upto_region 1 with fail
  try rw [hW]
  go_cut [6, 7] (fun sa sb wx => ∃ B : Nat, sa = .pointer (some ⟨B, 0, none⟩) ∧ sb = .int .i64 fm ∧ Hid (Below W.heap.size W wx ∧ CellsF wx B [.string f.sku, .string f.loc, .int .i64 f.on, .int .i64 f.held] ∧ W.heap.size ≤ B))
  case first =>
    go_region_held (fun (w' : World) => (Below W.heap.size W w' ∧ w'.cell? ⟨w.heap.size, 0, none⟩ = some (.pointer (some ⟨b, 0, none⟩)) ∧ w'.cell? ⟨b, 0, none⟩ = some (.slice a0 n0 c0) ∧ w'.cell? ⟨b, 1, none⟩ = some (.slice a1 n1 c1) ∧ w'.cell? ⟨b, 2, none⟩ = some (.slice a2 n2 c2) ∧ w'.cell? ⟨b, 3, none⟩ = some (.int .i64 L.ops) ∧ w'.cell? ⟨w.heap.size + 1, 0, none⟩ = some (.int .i64 ok) ∧ w'.cell? ⟨w.heap.size + 1, 1, none⟩ = some (.string os) ∧ w'.cell? ⟨w.heap.size + 1, 2, none⟩ = some (.string ol) ∧ w'.cell? ⟨w.heap.size + 1, 3, none⟩ = some (.string ot) ∧ w'.cell? ⟨w.heap.size + 1, 4, none⟩ = some (.int .i64 oq) ∧ w'.cell? ⟨w.heap.size + 1, 5, none⟩ = some (.int .i64 oi) ∧ w'.cell? ⟨w.heap.size + 1, 6, none⟩ = some (.int .i64 od))) (first | (with_reducible assumption) | (with_reducible exact HSD.out _ (by with_reducible assumption)) | (with_reducible exact HSA.out _ _ (by with_reducible assumption)) | (with_reducible exact HSAD.out _ _ (by with_reducible assumption)) | (with_reducible exact HLAST.out _ _ _ _ _ _ (by omega) (by with_reducible assumption)))
      (first
      | ((with_reducible refine Calls.mono (HPf.out _ (by with_reducible assumption)) ?_); rintro e w3 ⟨rfl, hS3, HB3⟩; have HBW : Hid (Below W.heap.size W w3) := hS3.1; (first | (have hz := ((CellsF.at (w := W) [.string ⟨#[]⟩, .string ⟨#[]⟩, .int .i64 0, .int .i64 0] 50 (by simp) rfl).next (Below.refl _ _).drew).next HB3.out; have z0 := hz.cs 0 _ rfl; have z1 := hz.cs 1 _ rfl; have z2 := hz.cs 2 _ rfl; have z3 := hz.cs 3 _ rfl; have zf0 := hz.fz 0; have zf1 := hz.fz 1; have zf2 := hz.fz 2; have zf3 := hz.fz 3; have HZZ : Hid _ := hz; clear hz) | skip)))
    all_goals go_wp2_with fail
    all_goals go_meet
    all_goals first | exact ⟨_, rfl, rfl, Below.next HBW.out (below1 _ _), CellsF.at _ 50 (by simp) rfl, HBW.out.size⟩ | exact ⟨_, rfl, rfl, below_four HBW.out _ (Nat.le_refl _) _ _ _ _, HZZ.out.four rfl _ _ _ _, (Nat.le_refl _)⟩
  case rest =>
  obtain ⟨Bf, rfl, rfl, HCf⟩ := hcut
  have hSf := HS.out wc HCf.out.1
  have yf2 := HCf.out.2.1.cs 2 _ rfl
  have yf3 := HCf.out.2.1.cs 3 _ rfl
  have yf0 := HCf.out.2.1.cs 0 _ rfl
  have yf1 := HCf.out.2.1.cs 1 _ rfl
  obtain ⟨hb, c00, c01, c02, c03, c04, d0, d1, d2, d3, d4, d5, d6⟩ := hSf
  have HB : Hid (Below W.heap.size W wc) := hb
  have HA : Hid _ := HADD.out f.on hff.1
  have HER2 : Hid (err = if ¬ er (f.on + oq) = 0 then er (f.on + oq) else if room L fm 0 1 then 0 else 2) := by
    show err = _
    have e := HER.out
    unfold errR at e
    dsimp only at e
    rw [Hf.out.1, Hf.out.2] at e
    exact e.symm
  have HRM : Hid (room3 n0 n1 n2 fm 0 1 ↔ room L fm 0 1) := by show _ ↔ _; unfold room3 room; rw [HNN.out.1, HNN.out.2.1, HNN.out.2.2]
  clear hb hS0 HER hff
  by_cases hin : -9223372036854775808 ≤ f.on + oq ∧ f.on + oq ≤ 9223372036854775807
  · rw [(vl_in hin).1, (vl_in hin).2] at HA
    rw [(vl_in hin).2, if_neg (fun q => q rfl)] at HER2
    have HR : Hid _ := fun w => hasRoom_is a0 n0 c0 a1 n1 c1 a2 n2 c2 L.ops fm 0 1 (by omega) (by omega) (by omega) (by omega) (by omega) (by omega) w
    by_cases hr : room3 n0 n1 n2 fm 0 1
    · rw [decide_eq_true hr] at HR
      rw [if_pos (HRM.out.1 hr)] at HER2
      clear hr hin
      go_wp2_with fail
      refine Calls.mono (HA.out _) ?_; rintro e w4 ⟨rfl, rfl⟩
      go_wp2_with fail
      refine Calls.mono (HR.out _) ?_; rintro e w5 ⟨rfl, k5⟩
      have HB5 : Hid (Below W.heap.size W w5) := Below.next HB.out k5
      clear k5
      go_wp2_with fail
      go_ret2
      exact HYES.out _ HB5.out HER2.out
    · rw [decide_eq_false hr] at HR
      rw [if_neg (fun q => hr (HRM.out.2 q))] at HER2
      clear hr hin
      go_wp2_with fail
      refine Calls.mono (HA.out _) ?_; rintro e w4 ⟨rfl, rfl⟩
      go_wp2_with fail
      refine Calls.mono (HR.out _) ?_; rintro e w5 ⟨rfl, k5⟩
      have HB5 : Hid (Below W.heap.size W w5) := Below.next HB.out k5
      clear k5
      go_wp2_with fail
      go_ret2
      exact HNO.out _ 2 HB5.out HER2.out (by omega)
  · rw [(vl_out hin).1, (vl_out hin).2] at HA
    rw [(vl_out hin).2, if_pos (by omega)] at HER2
    clear hin
    go_wp2_with fail
    refine Calls.mono (HA.out _) ?_; rintro e w4 ⟨rfl, rfl⟩
    go_wp2_with fail
    go_ret2
    exact HNO.out _ 10 HB.out HER2.out (by omega)
end Go.Proofs.Ytflbcheofmljeaa
