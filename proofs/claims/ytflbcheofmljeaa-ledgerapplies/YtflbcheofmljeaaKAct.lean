/- ledger.commit, release. -/
import Derived.Test.YtflbcheofmljeaaCap
import Derived.Deep.DeepCutAuto
namespace Go.Proofs.Ytflbcheofmljeaa
open Go.ChangeShapes Go.WideShapes Go.RowKit
set_option linter.unusedVariables false
set_option maxRecDepth 100000

/-- Is there such a hold, that is active? -/
def actL (H : List Hld) (id : Int) : Bool := match H[(id - 1).toNat]? with
  | some x => decide (x.st = 0)
  | none => false
set_option maxHeartbeats 1000000 in
theorem isActive_is (a0 : Option Addr) (n0 c0 : Nat) (a1 : Option Addr) (n1 c1 : Nat) (a2 : Option Addr) (n2 c2 : Nat) (ops : Int) (H : List Hld) (hn : H.length = n1) (hm : n1 ≤ 4096) (id : Int) (hid : 1 ≤ id) (hb : id ≤ 9223372036854775807) (w : World) (hr : Rw hlv 6 w a1 H) :
    Calls Try.prog 91 #[lval a0 n0 c0 a1 n1 c1 a2 n2 c2 ops, .int .i64 id] w fun e w' => e = .returned (.bool (actL H id)) ∧ Below w.heap.size w w' := by
  obtain ⟨i, rfl⟩ : ∃ i : Nat, id = (i : Int) + 1 := ⟨(id - 1).toNat, by omega⟩
  have hti : ((i : Int) + 1 - 1).toNat = i := by omega
  unfold actL
  rw [hti]
  obtain ⟨W, hW⟩ : ∃ W, w.alloc (.cells #[.slice a0 n0 c0, .slice a1 n1 c1, .slice a2 n2 c2, .int .i64 ops] 26) = W := ⟨_, rfl⟩
  have hB : Below w.heap.size w W := hW ▸ below1 _ _
  have hL : CellsF W w.heap.size [.slice a0 n0 c0, .slice a1 n1 c1, .slice a2 n2 c2, .int .i64 ops] := by rw [← hW]; exact CellsF.at _ 26 (by simp) rfl
  have l1 := hL.cs 1 _ rfl
  have HB : Hid (Below w.heap.size w W) := hB
  by_cases hi : i < n1
  · have hil : i < H.length := by omega
    rw [List.getElem?_eq_getElem hil]
    obtain ⟨g, o, rfl, hb', hc⟩ := (hr.next hlv_ne hB).hld (fun e => by rw [e] at hil; simp at hil)
    have hx := (hc i hil).c4
    obtain ⟨st, hst⟩ : ∃ st, H[i].st = st := ⟨_, rfl⟩
    rw [hst] at hx
    obtain ⟨z, hz⟩ : ∃ z, decide (H[i].st = 0) = z := ⟨_, rfl⟩
    show Calls Try.prog 91 _ w fun e w' => e = .returned (.bool (decide (H[i].st = 0))) ∧ _
    rw [hz]
    have HZ : Hid (z = (st == 0)) := by
      show z = _
      rw [← hz, hst]
      by_cases e : st = 0 <;> simp [e]
    have hle : (i : Int) + 1 ≤ (n1 : Int) := by omega
    have hlt : (i : Int) < (n1 : Int) := by omega
    have hiw : IntKind.i64.wrap ((i : Int) + 1 - 1) = (i : Int) := by rw [IntKind.wrap_i64]; omega
    have hiw2 : IntKind.i64.wrap (i : Int) = (i : Int) := by rw [IntKind.wrap_i64]; omega
    clear hc hb' hr hB hL hst hz hn hti hil
    go_enter Try.func91, Try.ntmps91
    go_wp2_with fail
    try rw [hW]
    go_ret
    exact ⟨by rw [HZ.out]; rfl, HB.out⟩
  · rw [List.getElem?_eq_none (by omega)]
    have hle : ¬ (i : Int) + 1 ≤ (n1 : Int) := by omega
    clear hr hB hL hn hti
    go_enter Try.func91, Try.ntmps91
    go_wp2_with fail
    try rw [hW]
    go_ret
    exact ⟨rfl, HB.out⟩
/-- Why a hold can not go out; be given up. -/
def errC (L : Led) (o : Opn) : Int := if actL L.H o.id then (if room L 0 0 1 then 0 else 2) else 71
def errU (L : Led) (o : Opn) : Int := if actL L.H o.id then 0 else 71
set_option maxHeartbeats 4000000 in
theorem commit_is {w : World} {E : Nat → Prop} {b : Nat} {v0 v1 v2 : Value} {L : Led} (h : LedO w E b v0 v1 v2 L) (hm : mayL L) (hf : L.fit) (o : Opn) (ho : o.fit) (hid : 1 ≤ o.id) :
    Calls Try.prog 70 #[.pointer (some ⟨b, 0, none⟩), oval o] w fun e w' => KindP w w' b o 92 (errC L o) e := by
  obtain ⟨a0, c0, a1, c1, a2, c2, rfl, rfl, rfl, hlies⟩ := h.forms
  have hio : o.id ≤ 9223372036854775807 := ho.id.2
  obtain ⟨ok, os, ol, ot, oq, oi, od⟩ := o
  dsimp only at hid hio
  show Calls Try.prog 70 #[.pointer (some ⟨b, 0, none⟩), .agg #[.int .i64 ok, .string os, .string ol, .string ot, .int .i64 oq, .int .i64 oi, .int .i64 od]] w _
  obtain ⟨n0, hn0⟩ : ∃ n0, L.S.length = n0 := ⟨_, rfl⟩
  obtain ⟨n1, hn1⟩ : ∃ n1, L.H.length = n1 := ⟨_, rfl⟩
  obtain ⟨n2, hn2⟩ : ∃ n2, L.M.length = n2 := ⟨_, rfl⟩
  rw [hn0, hn1, hn2] at h
  have hroom : n0 ≤ 4096 ∧ n1 ≤ 4096 ∧ n2 ≤ 4096 := by have := hm.room; unfold room at this; omega
  obtain ⟨W, hW⟩ : ∃ W, (w.alloc (.cells #[.pointer (some ⟨b, 0, none⟩)] 59)).alloc (.cells #[.int .i64 ok, .string os, .string ol, .string ot, .int .i64 oq, .int .i64 oi, .int .i64 od] 28) = W := ⟨_, rfl⟩
  have hBX : Box2 w W b ⟨ok, os, ol, ot, oq, oi, od⟩ := Box2.of w b ⟨ok, os, ol, ot, oq, oi, od⟩ hW
  have HBX : Hid _ := hBX
  have hlc := h.c.next hBX.bel
  have HLC : Hid (CellsF W b [.slice a0 n0 c0, .slice a1 n1 c1, .slice a2 n2 c2, .int .i64 L.ops]) := hlc
  have HLI : Hid (Lies W a0 a1 a2 L) := hlies.next hBX.bel
  have HM : Hid (mayL L ∧ L.fit) := ⟨hm, hf⟩
  have HNN : Hid (L.S.length = n0 ∧ L.H.length = n1 ∧ L.M.length = n2) := ⟨hn0, hn1, hn2⟩
  obtain ⟨err, herr⟩ : ∃ err, errC L ⟨ok, os, ol, ot, oq, oi, od⟩ = err := ⟨_, rfl⟩
  rw [herr]
  have HER : Hid (errC L ⟨ok, os, ol, ot, oq, oi, od⟩ = err) := herr
  have HNO : Hid (∀ w' x, Below W.heap.size W w' → err = x → ¬ x = 0 → KindP w w' b ⟨ok, os, ol, ot, oq, oi, od⟩ 92 err (.returned (.tuple #[.nilFunc, .int .i64 x]))) := fun w' x k e hx => by subst e; exact KindP.no (Below.next HBX.out.bel k) hx
  have HYES : Hid (∀ w', Below W.heap.size W w' → err = 0 → KindP w w' b ⟨ok, os, ol, ot, oq, oi, od⟩ 92 err (.returned (.tuple #[.func (.func 92) #[] #[.pointer (some ⟨w.heap.size, 0, none⟩), .pointer (some ⟨w.heap.size + 1, 0, none⟩)], .int .i64 0]))) := fun w' k e => by rw [e]; exact KindP.yes HBX.out k
  have HS : Hid (∀ w', Below W.heap.size W w' → (Below W.heap.size W w' ∧ w'.cell? ⟨w.heap.size, 0, none⟩ = some (.pointer (some ⟨b, 0, none⟩)) ∧ w'.cell? ⟨b, 0, none⟩ = some (.slice a0 n0 c0) ∧ w'.cell? ⟨b, 1, none⟩ = some (.slice a1 n1 c1) ∧ w'.cell? ⟨b, 2, none⟩ = some (.slice a2 n2 c2) ∧ w'.cell? ⟨b, 3, none⟩ = some (.int .i64 L.ops) ∧ w'.cell? ⟨w.heap.size + 1, 0, none⟩ = some (.int .i64 ok) ∧ w'.cell? ⟨w.heap.size + 1, 1, none⟩ = some (.string os) ∧ w'.cell? ⟨w.heap.size + 1, 2, none⟩ = some (.string ol) ∧ w'.cell? ⟨w.heap.size + 1, 3, none⟩ = some (.string ot) ∧ w'.cell? ⟨w.heap.size + 1, 4, none⟩ = some (.int .i64 oq) ∧ w'.cell? ⟨w.heap.size + 1, 5, none⟩ = some (.int .i64 oi) ∧ w'.cell? ⟨w.heap.size + 1, 6, none⟩ = some (.int .i64 od))) := fun w' k => by
    have q1 := HBX.out.p.next k
    have q2 := HLC.out.next k
    have q3 := HBX.out.o.next k
    exact ⟨k, q1.cs 0 _ rfl, q2.cs 0 _ rfl, q2.cs 1 _ rfl, q2.cs 2 _ rfl, q2.cs 3 _ rfl, q3.cs 0 _ rfl, q3.cs 1 _ rfl, q3.cs 2 _ rfl, q3.cs 3 _ rfl, q3.cs 4 _ rfl, q3.cs 5 _ rfl, q3.cs 6 _ rfl⟩
  have HSN : Hid (∀ w' w'', (Below W.heap.size W w' ∧ w'.cell? ⟨w.heap.size, 0, none⟩ = some (.pointer (some ⟨b, 0, none⟩)) ∧ w'.cell? ⟨b, 0, none⟩ = some (.slice a0 n0 c0) ∧ w'.cell? ⟨b, 1, none⟩ = some (.slice a1 n1 c1) ∧ w'.cell? ⟨b, 2, none⟩ = some (.slice a2 n2 c2) ∧ w'.cell? ⟨b, 3, none⟩ = some (.int .i64 L.ops) ∧ w'.cell? ⟨w.heap.size + 1, 0, none⟩ = some (.int .i64 ok) ∧ w'.cell? ⟨w.heap.size + 1, 1, none⟩ = some (.string os) ∧ w'.cell? ⟨w.heap.size + 1, 2, none⟩ = some (.string ol) ∧ w'.cell? ⟨w.heap.size + 1, 3, none⟩ = some (.string ot) ∧ w'.cell? ⟨w.heap.size + 1, 4, none⟩ = some (.int .i64 oq) ∧ w'.cell? ⟨w.heap.size + 1, 5, none⟩ = some (.int .i64 oi) ∧ w'.cell? ⟨w.heap.size + 1, 6, none⟩ = some (.int .i64 od)) → Below w'.heap.size w' w'' → (Below W.heap.size W w'' ∧ w''.cell? ⟨w.heap.size, 0, none⟩ = some (.pointer (some ⟨b, 0, none⟩)) ∧ w''.cell? ⟨b, 0, none⟩ = some (.slice a0 n0 c0) ∧ w''.cell? ⟨b, 1, none⟩ = some (.slice a1 n1 c1) ∧ w''.cell? ⟨b, 2, none⟩ = some (.slice a2 n2 c2) ∧ w''.cell? ⟨b, 3, none⟩ = some (.int .i64 L.ops) ∧ w''.cell? ⟨w.heap.size + 1, 0, none⟩ = some (.int .i64 ok) ∧ w''.cell? ⟨w.heap.size + 1, 1, none⟩ = some (.string os) ∧ w''.cell? ⟨w.heap.size + 1, 2, none⟩ = some (.string ol) ∧ w''.cell? ⟨w.heap.size + 1, 3, none⟩ = some (.string ot) ∧ w''.cell? ⟨w.heap.size + 1, 4, none⟩ = some (.int .i64 oq) ∧ w''.cell? ⟨w.heap.size + 1, 5, none⟩ = some (.int .i64 oi) ∧ w''.cell? ⟨w.heap.size + 1, 6, none⟩ = some (.int .i64 od))) := fun w' w'' h k => HS.out w'' (Below.next h.1 k)
  have HSD : Hid (∀ w', (Below W.heap.size W w' ∧ w'.cell? ⟨w.heap.size, 0, none⟩ = some (.pointer (some ⟨b, 0, none⟩)) ∧ w'.cell? ⟨b, 0, none⟩ = some (.slice a0 n0 c0) ∧ w'.cell? ⟨b, 1, none⟩ = some (.slice a1 n1 c1) ∧ w'.cell? ⟨b, 2, none⟩ = some (.slice a2 n2 c2) ∧ w'.cell? ⟨b, 3, none⟩ = some (.int .i64 L.ops) ∧ w'.cell? ⟨w.heap.size + 1, 0, none⟩ = some (.int .i64 ok) ∧ w'.cell? ⟨w.heap.size + 1, 1, none⟩ = some (.string os) ∧ w'.cell? ⟨w.heap.size + 1, 2, none⟩ = some (.string ol) ∧ w'.cell? ⟨w.heap.size + 1, 3, none⟩ = some (.string ot) ∧ w'.cell? ⟨w.heap.size + 1, 4, none⟩ = some (.int .i64 oq) ∧ w'.cell? ⟨w.heap.size + 1, 5, none⟩ = some (.int .i64 oi) ∧ w'.cell? ⟨w.heap.size + 1, 6, none⟩ = some (.int .i64 od)) → (Below W.heap.size W w'.drew ∧ w'.drew.cell? ⟨w.heap.size, 0, none⟩ = some (.pointer (some ⟨b, 0, none⟩)) ∧ w'.drew.cell? ⟨b, 0, none⟩ = some (.slice a0 n0 c0) ∧ w'.drew.cell? ⟨b, 1, none⟩ = some (.slice a1 n1 c1) ∧ w'.drew.cell? ⟨b, 2, none⟩ = some (.slice a2 n2 c2) ∧ w'.drew.cell? ⟨b, 3, none⟩ = some (.int .i64 L.ops) ∧ w'.drew.cell? ⟨w.heap.size + 1, 0, none⟩ = some (.int .i64 ok) ∧ w'.drew.cell? ⟨w.heap.size + 1, 1, none⟩ = some (.string os) ∧ w'.drew.cell? ⟨w.heap.size + 1, 2, none⟩ = some (.string ol) ∧ w'.drew.cell? ⟨w.heap.size + 1, 3, none⟩ = some (.string ot) ∧ w'.drew.cell? ⟨w.heap.size + 1, 4, none⟩ = some (.int .i64 oq) ∧ w'.drew.cell? ⟨w.heap.size + 1, 5, none⟩ = some (.int .i64 oi) ∧ w'.drew.cell? ⟨w.heap.size + 1, 6, none⟩ = some (.int .i64 od))) := fun w' h => HSN.out w' _ h (Below.refl _ _).drew
  have HSA : Hid (∀ (w' : World) (x : Obj), (Below W.heap.size W w' ∧ w'.cell? ⟨w.heap.size, 0, none⟩ = some (.pointer (some ⟨b, 0, none⟩)) ∧ w'.cell? ⟨b, 0, none⟩ = some (.slice a0 n0 c0) ∧ w'.cell? ⟨b, 1, none⟩ = some (.slice a1 n1 c1) ∧ w'.cell? ⟨b, 2, none⟩ = some (.slice a2 n2 c2) ∧ w'.cell? ⟨b, 3, none⟩ = some (.int .i64 L.ops) ∧ w'.cell? ⟨w.heap.size + 1, 0, none⟩ = some (.int .i64 ok) ∧ w'.cell? ⟨w.heap.size + 1, 1, none⟩ = some (.string os) ∧ w'.cell? ⟨w.heap.size + 1, 2, none⟩ = some (.string ol) ∧ w'.cell? ⟨w.heap.size + 1, 3, none⟩ = some (.string ot) ∧ w'.cell? ⟨w.heap.size + 1, 4, none⟩ = some (.int .i64 oq) ∧ w'.cell? ⟨w.heap.size + 1, 5, none⟩ = some (.int .i64 oi) ∧ w'.cell? ⟨w.heap.size + 1, 6, none⟩ = some (.int .i64 od)) → (Below W.heap.size W (w'.alloc x) ∧ (w'.alloc x).cell? ⟨w.heap.size, 0, none⟩ = some (.pointer (some ⟨b, 0, none⟩)) ∧ (w'.alloc x).cell? ⟨b, 0, none⟩ = some (.slice a0 n0 c0) ∧ (w'.alloc x).cell? ⟨b, 1, none⟩ = some (.slice a1 n1 c1) ∧ (w'.alloc x).cell? ⟨b, 2, none⟩ = some (.slice a2 n2 c2) ∧ (w'.alloc x).cell? ⟨b, 3, none⟩ = some (.int .i64 L.ops) ∧ (w'.alloc x).cell? ⟨w.heap.size + 1, 0, none⟩ = some (.int .i64 ok) ∧ (w'.alloc x).cell? ⟨w.heap.size + 1, 1, none⟩ = some (.string os) ∧ (w'.alloc x).cell? ⟨w.heap.size + 1, 2, none⟩ = some (.string ol) ∧ (w'.alloc x).cell? ⟨w.heap.size + 1, 3, none⟩ = some (.string ot) ∧ (w'.alloc x).cell? ⟨w.heap.size + 1, 4, none⟩ = some (.int .i64 oq) ∧ (w'.alloc x).cell? ⟨w.heap.size + 1, 5, none⟩ = some (.int .i64 oi) ∧ (w'.alloc x).cell? ⟨w.heap.size + 1, 6, none⟩ = some (.int .i64 od))) := fun w' x h => HSN.out w' _ h (below1 _ _)
  have HSAD : Hid (∀ (w' : World) (x : Obj), (Below W.heap.size W w' ∧ w'.cell? ⟨w.heap.size, 0, none⟩ = some (.pointer (some ⟨b, 0, none⟩)) ∧ w'.cell? ⟨b, 0, none⟩ = some (.slice a0 n0 c0) ∧ w'.cell? ⟨b, 1, none⟩ = some (.slice a1 n1 c1) ∧ w'.cell? ⟨b, 2, none⟩ = some (.slice a2 n2 c2) ∧ w'.cell? ⟨b, 3, none⟩ = some (.int .i64 L.ops) ∧ w'.cell? ⟨w.heap.size + 1, 0, none⟩ = some (.int .i64 ok) ∧ w'.cell? ⟨w.heap.size + 1, 1, none⟩ = some (.string os) ∧ w'.cell? ⟨w.heap.size + 1, 2, none⟩ = some (.string ol) ∧ w'.cell? ⟨w.heap.size + 1, 3, none⟩ = some (.string ot) ∧ w'.cell? ⟨w.heap.size + 1, 4, none⟩ = some (.int .i64 oq) ∧ w'.cell? ⟨w.heap.size + 1, 5, none⟩ = some (.int .i64 oi) ∧ w'.cell? ⟨w.heap.size + 1, 6, none⟩ = some (.int .i64 od)) → (Below W.heap.size W (w'.alloc x).drew ∧ (w'.alloc x).drew.cell? ⟨w.heap.size, 0, none⟩ = some (.pointer (some ⟨b, 0, none⟩)) ∧ (w'.alloc x).drew.cell? ⟨b, 0, none⟩ = some (.slice a0 n0 c0) ∧ (w'.alloc x).drew.cell? ⟨b, 1, none⟩ = some (.slice a1 n1 c1) ∧ (w'.alloc x).drew.cell? ⟨b, 2, none⟩ = some (.slice a2 n2 c2) ∧ (w'.alloc x).drew.cell? ⟨b, 3, none⟩ = some (.int .i64 L.ops) ∧ (w'.alloc x).drew.cell? ⟨w.heap.size + 1, 0, none⟩ = some (.int .i64 ok) ∧ (w'.alloc x).drew.cell? ⟨w.heap.size + 1, 1, none⟩ = some (.string os) ∧ (w'.alloc x).drew.cell? ⟨w.heap.size + 1, 2, none⟩ = some (.string ol) ∧ (w'.alloc x).drew.cell? ⟨w.heap.size + 1, 3, none⟩ = some (.string ot) ∧ (w'.alloc x).drew.cell? ⟨w.heap.size + 1, 4, none⟩ = some (.int .i64 oq) ∧ (w'.alloc x).drew.cell? ⟨w.heap.size + 1, 5, none⟩ = some (.int .i64 oi) ∧ (w'.alloc x).drew.cell? ⟨w.heap.size + 1, 6, none⟩ = some (.int .i64 od))) := fun w' x h => HSN.out w' _ h (below1 _ _).drew
  have HLAST : Hid (∀ (w' : World) (B : Nat) (u0 u1 u2 u3 : Value), W.heap.size ≤ B → (Below W.heap.size W w' ∧ w'.cell? ⟨w.heap.size, 0, none⟩ = some (.pointer (some ⟨b, 0, none⟩)) ∧ w'.cell? ⟨b, 0, none⟩ = some (.slice a0 n0 c0) ∧ w'.cell? ⟨b, 1, none⟩ = some (.slice a1 n1 c1) ∧ w'.cell? ⟨b, 2, none⟩ = some (.slice a2 n2 c2) ∧ w'.cell? ⟨b, 3, none⟩ = some (.int .i64 L.ops) ∧ w'.cell? ⟨w.heap.size + 1, 0, none⟩ = some (.int .i64 ok) ∧ w'.cell? ⟨w.heap.size + 1, 1, none⟩ = some (.string os) ∧ w'.cell? ⟨w.heap.size + 1, 2, none⟩ = some (.string ol) ∧ w'.cell? ⟨w.heap.size + 1, 3, none⟩ = some (.string ot) ∧ w'.cell? ⟨w.heap.size + 1, 4, none⟩ = some (.int .i64 oq) ∧ w'.cell? ⟨w.heap.size + 1, 5, none⟩ = some (.int .i64 oi) ∧ w'.cell? ⟨w.heap.size + 1, 6, none⟩ = some (.int .i64 od)) → (Below W.heap.size W ((((w'.setCell ⟨B, 0, none⟩ u0).setCell ⟨B, 1, none⟩ u1).setCell ⟨B, 2, none⟩ u2).setCell ⟨B, 3, none⟩ u3) ∧ ((((w'.setCell ⟨B, 0, none⟩ u0).setCell ⟨B, 1, none⟩ u1).setCell ⟨B, 2, none⟩ u2).setCell ⟨B, 3, none⟩ u3).cell? ⟨w.heap.size, 0, none⟩ = some (.pointer (some ⟨b, 0, none⟩)) ∧ ((((w'.setCell ⟨B, 0, none⟩ u0).setCell ⟨B, 1, none⟩ u1).setCell ⟨B, 2, none⟩ u2).setCell ⟨B, 3, none⟩ u3).cell? ⟨b, 0, none⟩ = some (.slice a0 n0 c0) ∧ ((((w'.setCell ⟨B, 0, none⟩ u0).setCell ⟨B, 1, none⟩ u1).setCell ⟨B, 2, none⟩ u2).setCell ⟨B, 3, none⟩ u3).cell? ⟨b, 1, none⟩ = some (.slice a1 n1 c1) ∧ ((((w'.setCell ⟨B, 0, none⟩ u0).setCell ⟨B, 1, none⟩ u1).setCell ⟨B, 2, none⟩ u2).setCell ⟨B, 3, none⟩ u3).cell? ⟨b, 2, none⟩ = some (.slice a2 n2 c2) ∧ ((((w'.setCell ⟨B, 0, none⟩ u0).setCell ⟨B, 1, none⟩ u1).setCell ⟨B, 2, none⟩ u2).setCell ⟨B, 3, none⟩ u3).cell? ⟨b, 3, none⟩ = some (.int .i64 L.ops) ∧ ((((w'.setCell ⟨B, 0, none⟩ u0).setCell ⟨B, 1, none⟩ u1).setCell ⟨B, 2, none⟩ u2).setCell ⟨B, 3, none⟩ u3).cell? ⟨w.heap.size + 1, 0, none⟩ = some (.int .i64 ok) ∧ ((((w'.setCell ⟨B, 0, none⟩ u0).setCell ⟨B, 1, none⟩ u1).setCell ⟨B, 2, none⟩ u2).setCell ⟨B, 3, none⟩ u3).cell? ⟨w.heap.size + 1, 1, none⟩ = some (.string os) ∧ ((((w'.setCell ⟨B, 0, none⟩ u0).setCell ⟨B, 1, none⟩ u1).setCell ⟨B, 2, none⟩ u2).setCell ⟨B, 3, none⟩ u3).cell? ⟨w.heap.size + 1, 2, none⟩ = some (.string ol) ∧ ((((w'.setCell ⟨B, 0, none⟩ u0).setCell ⟨B, 1, none⟩ u1).setCell ⟨B, 2, none⟩ u2).setCell ⟨B, 3, none⟩ u3).cell? ⟨w.heap.size + 1, 3, none⟩ = some (.string ot) ∧ ((((w'.setCell ⟨B, 0, none⟩ u0).setCell ⟨B, 1, none⟩ u1).setCell ⟨B, 2, none⟩ u2).setCell ⟨B, 3, none⟩ u3).cell? ⟨w.heap.size + 1, 4, none⟩ = some (.int .i64 oq) ∧ ((((w'.setCell ⟨B, 0, none⟩ u0).setCell ⟨B, 1, none⟩ u1).setCell ⟨B, 2, none⟩ u2).setCell ⟨B, 3, none⟩ u3).cell? ⟨w.heap.size + 1, 5, none⟩ = some (.int .i64 oi) ∧ ((((w'.setCell ⟨B, 0, none⟩ u0).setCell ⟨B, 1, none⟩ u1).setCell ⟨B, 2, none⟩ u2).setCell ⟨B, 3, none⟩ u3).cell? ⟨w.heap.size + 1, 6, none⟩ = some (.int .i64 od))) := fun w' B u0 u1 u2 u3 hB h => HS.out _ (below_four h.1 B hB u0 u1 u2 u3)
  have HADD : Hid (∀ x, i64b x → ∀ w, Calls Try.prog 86 #[.int .i64 x, .int .i64 oq] w fun e w' => e = .returned (.tuple #[.int .i64 (vl (x + oq)), .int .i64 (er (x + oq))]) ∧ w' = w) := fun x hx w => add_is x oq hx ho.qty w
  have HFK : Hid (∀ s t, (findK L.S s t).fit) := fun s t => findK_fit hf.S s t
  have hS0 := HS.out W (Below.refl _ _)
  clear hm hf ho h hlies hBX hlc hn0 hn1 hn2 herr
  obtain ⟨ac, hac⟩ : ∃ ac, actL L.H oi = ac := ⟨_, rfl⟩
  have HER2 : Hid (err = if ac then (if room L 0 0 1 then 0 else 2) else 71) := by
    show err = _
    have e := HER.out
    unfold errC at e
    dsimp only at e
    rw [hac] at e
    exact e.symm
  have HRM : Hid (room3 n0 n1 n2 0 0 1 ↔ room L 0 0 1) := by show _ ↔ _; unfold room3 room; rw [HNN.out.1, HNN.out.2.1, HNN.out.2.2]
  clear HER
  go_enter Try.func70, Try.ntmps70
  have HPA : Hid (∀ w', (Below W.heap.size W w' ∧ w'.cell? ⟨w.heap.size, 0, none⟩ = some (.pointer (some ⟨b, 0, none⟩)) ∧ w'.cell? ⟨b, 0, none⟩ = some (.slice a0 n0 c0) ∧ w'.cell? ⟨b, 1, none⟩ = some (.slice a1 n1 c1) ∧ w'.cell? ⟨b, 2, none⟩ = some (.slice a2 n2 c2) ∧ w'.cell? ⟨b, 3, none⟩ = some (.int .i64 L.ops) ∧ w'.cell? ⟨w.heap.size + 1, 0, none⟩ = some (.int .i64 ok) ∧ w'.cell? ⟨w.heap.size + 1, 1, none⟩ = some (.string os) ∧ w'.cell? ⟨w.heap.size + 1, 2, none⟩ = some (.string ol) ∧ w'.cell? ⟨w.heap.size + 1, 3, none⟩ = some (.string ot) ∧ w'.cell? ⟨w.heap.size + 1, 4, none⟩ = some (.int .i64 oq) ∧ w'.cell? ⟨w.heap.size + 1, 5, none⟩ = some (.int .i64 oi) ∧ w'.cell? ⟨w.heap.size + 1, 6, none⟩ = some (.int .i64 od)) → Calls Try.prog 91 #[.agg #[.slice a0 n0 c0, .slice a1 n1 c1, .slice a2 n2 c2, .int .i64 L.ops], .int .i64 oi] w' fun e w'' => e = .returned (.bool ac) ∧ (Below W.heap.size W w'' ∧ w''.cell? ⟨w.heap.size, 0, none⟩ = some (.pointer (some ⟨b, 0, none⟩)) ∧ w''.cell? ⟨b, 0, none⟩ = some (.slice a0 n0 c0) ∧ w''.cell? ⟨b, 1, none⟩ = some (.slice a1 n1 c1) ∧ w''.cell? ⟨b, 2, none⟩ = some (.slice a2 n2 c2) ∧ w''.cell? ⟨b, 3, none⟩ = some (.int .i64 L.ops) ∧ w''.cell? ⟨w.heap.size + 1, 0, none⟩ = some (.int .i64 ok) ∧ w''.cell? ⟨w.heap.size + 1, 1, none⟩ = some (.string os) ∧ w''.cell? ⟨w.heap.size + 1, 2, none⟩ = some (.string ol) ∧ w''.cell? ⟨w.heap.size + 1, 3, none⟩ = some (.string ot) ∧ w''.cell? ⟨w.heap.size + 1, 4, none⟩ = some (.int .i64 oq) ∧ w''.cell? ⟨w.heap.size + 1, 5, none⟩ = some (.int .i64 oi) ∧ w''.cell? ⟨w.heap.size + 1, 6, none⟩ = some (.int .i64 od))) := fun w' q => (isActive_is a0 n0 c0 a1 n1 c1 a2 n2 c2 L.ops L.H HNN.out.2.1 (by omega) oi hid hio w' (HLI.out.H.next hlv_ne q.1)).mono (by
    rintro e w'' ⟨he, hb⟩
    exact ⟨by rw [he, hac], HSN.out _ _ q hb⟩)
  clear hac
  go_upto_region 1 with fail
  try rw [hW]
  go_cut [12] (fun sc wx => sc = .bool (!ac) ∧ Hid (Below W.heap.size W wx))
  case first =>
    go_region_held (fun (w' : World) => (Below W.heap.size W w' ∧ w'.cell? ⟨w.heap.size, 0, none⟩ = some (.pointer (some ⟨b, 0, none⟩)) ∧ w'.cell? ⟨b, 0, none⟩ = some (.slice a0 n0 c0) ∧ w'.cell? ⟨b, 1, none⟩ = some (.slice a1 n1 c1) ∧ w'.cell? ⟨b, 2, none⟩ = some (.slice a2 n2 c2) ∧ w'.cell? ⟨b, 3, none⟩ = some (.int .i64 L.ops) ∧ w'.cell? ⟨w.heap.size + 1, 0, none⟩ = some (.int .i64 ok) ∧ w'.cell? ⟨w.heap.size + 1, 1, none⟩ = some (.string os) ∧ w'.cell? ⟨w.heap.size + 1, 2, none⟩ = some (.string ol) ∧ w'.cell? ⟨w.heap.size + 1, 3, none⟩ = some (.string ot) ∧ w'.cell? ⟨w.heap.size + 1, 4, none⟩ = some (.int .i64 oq) ∧ w'.cell? ⟨w.heap.size + 1, 5, none⟩ = some (.int .i64 oi) ∧ w'.cell? ⟨w.heap.size + 1, 6, none⟩ = some (.int .i64 od))) (first | (with_reducible assumption) | (with_reducible exact HSD.out _ (by with_reducible assumption)) | (with_reducible exact HSA.out _ _ (by with_reducible assumption)))
      (first | ((with_reducible refine Calls.mono (HPA.out _ (by with_reducible assumption)) ?_); rintro e w3 ⟨rfl, hS3⟩; have HBW : Hid (Below W.heap.size W w3) := hS3.1))
    all_goals go_wp2_with fail
    all_goals go_meet
    all_goals exact ⟨rfl, HBW.out⟩
  case rest =>
  obtain ⟨rfl, HBc⟩ := hcut
  obtain ⟨hb', c00', c01', c02', c03', c04', d0', d1', d2', d3', d4', d5', d6'⟩ := HS.out wc HBc.out
  clear hb' hS0
  cases ac with
  | true =>
    rw [if_pos rfl] at HER2
    have HR : Hid _ := fun w => hasRoom_is a0 n0 c0 a1 n1 c1 a2 n2 c2 L.ops 0 0 1 (by omega) (by omega) (by omega) (by omega) (by omega) (by omega) w
    by_cases hr : room3 n0 n1 n2 0 0 1
    · rw [decide_eq_true hr] at HR
      rw [if_pos (HRM.out.1 hr)] at HER2
      clear hr
      go_wp2_with fail
      refine Calls.mono (HR.out _) ?_; rintro e w5 ⟨rfl, k5⟩
      have HB5 : Hid (Below W.heap.size W w5) := Below.next HBc.out k5
      clear k5
      go_wp2_with fail
      go_ret2
      exact HYES.out _ HB5.out HER2.out
    · rw [decide_eq_false hr] at HR
      rw [if_neg (fun q => hr (HRM.out.2 q))] at HER2
      clear hr
      go_wp2_with fail
      refine Calls.mono (HR.out _) ?_; rintro e w5 ⟨rfl, k5⟩
      have HB5 : Hid (Below W.heap.size W w5) := Below.next HBc.out k5
      clear k5
      go_wp2_with fail
      go_ret2
      exact HNO.out _ 2 HB5.out HER2.out (by omega)
  | false =>
    rw [if_neg (by simp)] at HER2
    go_wp2_with fail
    go_ret2
    exact HNO.out _ 71 HBc.out HER2.out (by omega)
set_option maxHeartbeats 4000000 in
theorem release_is {w : World} {E : Nat → Prop} {b : Nat} {v0 v1 v2 : Value} {L : Led} (h : LedO w E b v0 v1 v2 L) (hm : mayL L) (hf : L.fit) (o : Opn) (ho : o.fit) (hid : 1 ≤ o.id) :
    Calls Try.prog 71 #[.pointer (some ⟨b, 0, none⟩), oval o] w fun e w' => KindP w w' b o 94 (errU L o) e := by
  obtain ⟨a0, c0, a1, c1, a2, c2, rfl, rfl, rfl, hlies⟩ := h.forms
  have hio : o.id ≤ 9223372036854775807 := ho.id.2
  obtain ⟨ok, os, ol, ot, oq, oi, od⟩ := o
  dsimp only at hid hio
  show Calls Try.prog 71 #[.pointer (some ⟨b, 0, none⟩), .agg #[.int .i64 ok, .string os, .string ol, .string ot, .int .i64 oq, .int .i64 oi, .int .i64 od]] w _
  obtain ⟨n0, hn0⟩ : ∃ n0, L.S.length = n0 := ⟨_, rfl⟩
  obtain ⟨n1, hn1⟩ : ∃ n1, L.H.length = n1 := ⟨_, rfl⟩
  obtain ⟨n2, hn2⟩ : ∃ n2, L.M.length = n2 := ⟨_, rfl⟩
  rw [hn0, hn1, hn2] at h
  have hroom : n0 ≤ 4096 ∧ n1 ≤ 4096 ∧ n2 ≤ 4096 := by have := hm.room; unfold room at this; omega
  obtain ⟨W, hW⟩ : ∃ W, (w.alloc (.cells #[.pointer (some ⟨b, 0, none⟩)] 59)).alloc (.cells #[.int .i64 ok, .string os, .string ol, .string ot, .int .i64 oq, .int .i64 oi, .int .i64 od] 28) = W := ⟨_, rfl⟩
  have hBX : Box2 w W b ⟨ok, os, ol, ot, oq, oi, od⟩ := Box2.of w b ⟨ok, os, ol, ot, oq, oi, od⟩ hW
  have HBX : Hid _ := hBX
  have hlc := h.c.next hBX.bel
  have HLC : Hid (CellsF W b [.slice a0 n0 c0, .slice a1 n1 c1, .slice a2 n2 c2, .int .i64 L.ops]) := hlc
  have HLI : Hid (Lies W a0 a1 a2 L) := hlies.next hBX.bel
  have HM : Hid (mayL L ∧ L.fit) := ⟨hm, hf⟩
  have HNN : Hid (L.S.length = n0 ∧ L.H.length = n1 ∧ L.M.length = n2) := ⟨hn0, hn1, hn2⟩
  obtain ⟨err, herr⟩ : ∃ err, errU L ⟨ok, os, ol, ot, oq, oi, od⟩ = err := ⟨_, rfl⟩
  rw [herr]
  have HER : Hid (errU L ⟨ok, os, ol, ot, oq, oi, od⟩ = err) := herr
  have HNO : Hid (∀ w' x, Below W.heap.size W w' → err = x → ¬ x = 0 → KindP w w' b ⟨ok, os, ol, ot, oq, oi, od⟩ 94 err (.returned (.tuple #[.nilFunc, .int .i64 x]))) := fun w' x k e hx => by subst e; exact KindP.no (Below.next HBX.out.bel k) hx
  have HYES : Hid (∀ w', Below W.heap.size W w' → err = 0 → KindP w w' b ⟨ok, os, ol, ot, oq, oi, od⟩ 94 err (.returned (.tuple #[.func (.func 94) #[] #[.pointer (some ⟨w.heap.size, 0, none⟩), .pointer (some ⟨w.heap.size + 1, 0, none⟩)], .int .i64 0]))) := fun w' k e => by rw [e]; exact KindP.yes HBX.out k
  have HS : Hid (∀ w', Below W.heap.size W w' → (Below W.heap.size W w' ∧ w'.cell? ⟨w.heap.size, 0, none⟩ = some (.pointer (some ⟨b, 0, none⟩)) ∧ w'.cell? ⟨b, 0, none⟩ = some (.slice a0 n0 c0) ∧ w'.cell? ⟨b, 1, none⟩ = some (.slice a1 n1 c1) ∧ w'.cell? ⟨b, 2, none⟩ = some (.slice a2 n2 c2) ∧ w'.cell? ⟨b, 3, none⟩ = some (.int .i64 L.ops) ∧ w'.cell? ⟨w.heap.size + 1, 0, none⟩ = some (.int .i64 ok) ∧ w'.cell? ⟨w.heap.size + 1, 1, none⟩ = some (.string os) ∧ w'.cell? ⟨w.heap.size + 1, 2, none⟩ = some (.string ol) ∧ w'.cell? ⟨w.heap.size + 1, 3, none⟩ = some (.string ot) ∧ w'.cell? ⟨w.heap.size + 1, 4, none⟩ = some (.int .i64 oq) ∧ w'.cell? ⟨w.heap.size + 1, 5, none⟩ = some (.int .i64 oi) ∧ w'.cell? ⟨w.heap.size + 1, 6, none⟩ = some (.int .i64 od))) := fun w' k => by
    have q1 := HBX.out.p.next k
    have q2 := HLC.out.next k
    have q3 := HBX.out.o.next k
    exact ⟨k, q1.cs 0 _ rfl, q2.cs 0 _ rfl, q2.cs 1 _ rfl, q2.cs 2 _ rfl, q2.cs 3 _ rfl, q3.cs 0 _ rfl, q3.cs 1 _ rfl, q3.cs 2 _ rfl, q3.cs 3 _ rfl, q3.cs 4 _ rfl, q3.cs 5 _ rfl, q3.cs 6 _ rfl⟩
  have HSN : Hid (∀ w' w'', (Below W.heap.size W w' ∧ w'.cell? ⟨w.heap.size, 0, none⟩ = some (.pointer (some ⟨b, 0, none⟩)) ∧ w'.cell? ⟨b, 0, none⟩ = some (.slice a0 n0 c0) ∧ w'.cell? ⟨b, 1, none⟩ = some (.slice a1 n1 c1) ∧ w'.cell? ⟨b, 2, none⟩ = some (.slice a2 n2 c2) ∧ w'.cell? ⟨b, 3, none⟩ = some (.int .i64 L.ops) ∧ w'.cell? ⟨w.heap.size + 1, 0, none⟩ = some (.int .i64 ok) ∧ w'.cell? ⟨w.heap.size + 1, 1, none⟩ = some (.string os) ∧ w'.cell? ⟨w.heap.size + 1, 2, none⟩ = some (.string ol) ∧ w'.cell? ⟨w.heap.size + 1, 3, none⟩ = some (.string ot) ∧ w'.cell? ⟨w.heap.size + 1, 4, none⟩ = some (.int .i64 oq) ∧ w'.cell? ⟨w.heap.size + 1, 5, none⟩ = some (.int .i64 oi) ∧ w'.cell? ⟨w.heap.size + 1, 6, none⟩ = some (.int .i64 od)) → Below w'.heap.size w' w'' → (Below W.heap.size W w'' ∧ w''.cell? ⟨w.heap.size, 0, none⟩ = some (.pointer (some ⟨b, 0, none⟩)) ∧ w''.cell? ⟨b, 0, none⟩ = some (.slice a0 n0 c0) ∧ w''.cell? ⟨b, 1, none⟩ = some (.slice a1 n1 c1) ∧ w''.cell? ⟨b, 2, none⟩ = some (.slice a2 n2 c2) ∧ w''.cell? ⟨b, 3, none⟩ = some (.int .i64 L.ops) ∧ w''.cell? ⟨w.heap.size + 1, 0, none⟩ = some (.int .i64 ok) ∧ w''.cell? ⟨w.heap.size + 1, 1, none⟩ = some (.string os) ∧ w''.cell? ⟨w.heap.size + 1, 2, none⟩ = some (.string ol) ∧ w''.cell? ⟨w.heap.size + 1, 3, none⟩ = some (.string ot) ∧ w''.cell? ⟨w.heap.size + 1, 4, none⟩ = some (.int .i64 oq) ∧ w''.cell? ⟨w.heap.size + 1, 5, none⟩ = some (.int .i64 oi) ∧ w''.cell? ⟨w.heap.size + 1, 6, none⟩ = some (.int .i64 od))) := fun w' w'' h k => HS.out w'' (Below.next h.1 k)
  have HSD : Hid (∀ w', (Below W.heap.size W w' ∧ w'.cell? ⟨w.heap.size, 0, none⟩ = some (.pointer (some ⟨b, 0, none⟩)) ∧ w'.cell? ⟨b, 0, none⟩ = some (.slice a0 n0 c0) ∧ w'.cell? ⟨b, 1, none⟩ = some (.slice a1 n1 c1) ∧ w'.cell? ⟨b, 2, none⟩ = some (.slice a2 n2 c2) ∧ w'.cell? ⟨b, 3, none⟩ = some (.int .i64 L.ops) ∧ w'.cell? ⟨w.heap.size + 1, 0, none⟩ = some (.int .i64 ok) ∧ w'.cell? ⟨w.heap.size + 1, 1, none⟩ = some (.string os) ∧ w'.cell? ⟨w.heap.size + 1, 2, none⟩ = some (.string ol) ∧ w'.cell? ⟨w.heap.size + 1, 3, none⟩ = some (.string ot) ∧ w'.cell? ⟨w.heap.size + 1, 4, none⟩ = some (.int .i64 oq) ∧ w'.cell? ⟨w.heap.size + 1, 5, none⟩ = some (.int .i64 oi) ∧ w'.cell? ⟨w.heap.size + 1, 6, none⟩ = some (.int .i64 od)) → (Below W.heap.size W w'.drew ∧ w'.drew.cell? ⟨w.heap.size, 0, none⟩ = some (.pointer (some ⟨b, 0, none⟩)) ∧ w'.drew.cell? ⟨b, 0, none⟩ = some (.slice a0 n0 c0) ∧ w'.drew.cell? ⟨b, 1, none⟩ = some (.slice a1 n1 c1) ∧ w'.drew.cell? ⟨b, 2, none⟩ = some (.slice a2 n2 c2) ∧ w'.drew.cell? ⟨b, 3, none⟩ = some (.int .i64 L.ops) ∧ w'.drew.cell? ⟨w.heap.size + 1, 0, none⟩ = some (.int .i64 ok) ∧ w'.drew.cell? ⟨w.heap.size + 1, 1, none⟩ = some (.string os) ∧ w'.drew.cell? ⟨w.heap.size + 1, 2, none⟩ = some (.string ol) ∧ w'.drew.cell? ⟨w.heap.size + 1, 3, none⟩ = some (.string ot) ∧ w'.drew.cell? ⟨w.heap.size + 1, 4, none⟩ = some (.int .i64 oq) ∧ w'.drew.cell? ⟨w.heap.size + 1, 5, none⟩ = some (.int .i64 oi) ∧ w'.drew.cell? ⟨w.heap.size + 1, 6, none⟩ = some (.int .i64 od))) := fun w' h => HSN.out w' _ h (Below.refl _ _).drew
  have HSA : Hid (∀ (w' : World) (x : Obj), (Below W.heap.size W w' ∧ w'.cell? ⟨w.heap.size, 0, none⟩ = some (.pointer (some ⟨b, 0, none⟩)) ∧ w'.cell? ⟨b, 0, none⟩ = some (.slice a0 n0 c0) ∧ w'.cell? ⟨b, 1, none⟩ = some (.slice a1 n1 c1) ∧ w'.cell? ⟨b, 2, none⟩ = some (.slice a2 n2 c2) ∧ w'.cell? ⟨b, 3, none⟩ = some (.int .i64 L.ops) ∧ w'.cell? ⟨w.heap.size + 1, 0, none⟩ = some (.int .i64 ok) ∧ w'.cell? ⟨w.heap.size + 1, 1, none⟩ = some (.string os) ∧ w'.cell? ⟨w.heap.size + 1, 2, none⟩ = some (.string ol) ∧ w'.cell? ⟨w.heap.size + 1, 3, none⟩ = some (.string ot) ∧ w'.cell? ⟨w.heap.size + 1, 4, none⟩ = some (.int .i64 oq) ∧ w'.cell? ⟨w.heap.size + 1, 5, none⟩ = some (.int .i64 oi) ∧ w'.cell? ⟨w.heap.size + 1, 6, none⟩ = some (.int .i64 od)) → (Below W.heap.size W (w'.alloc x) ∧ (w'.alloc x).cell? ⟨w.heap.size, 0, none⟩ = some (.pointer (some ⟨b, 0, none⟩)) ∧ (w'.alloc x).cell? ⟨b, 0, none⟩ = some (.slice a0 n0 c0) ∧ (w'.alloc x).cell? ⟨b, 1, none⟩ = some (.slice a1 n1 c1) ∧ (w'.alloc x).cell? ⟨b, 2, none⟩ = some (.slice a2 n2 c2) ∧ (w'.alloc x).cell? ⟨b, 3, none⟩ = some (.int .i64 L.ops) ∧ (w'.alloc x).cell? ⟨w.heap.size + 1, 0, none⟩ = some (.int .i64 ok) ∧ (w'.alloc x).cell? ⟨w.heap.size + 1, 1, none⟩ = some (.string os) ∧ (w'.alloc x).cell? ⟨w.heap.size + 1, 2, none⟩ = some (.string ol) ∧ (w'.alloc x).cell? ⟨w.heap.size + 1, 3, none⟩ = some (.string ot) ∧ (w'.alloc x).cell? ⟨w.heap.size + 1, 4, none⟩ = some (.int .i64 oq) ∧ (w'.alloc x).cell? ⟨w.heap.size + 1, 5, none⟩ = some (.int .i64 oi) ∧ (w'.alloc x).cell? ⟨w.heap.size + 1, 6, none⟩ = some (.int .i64 od))) := fun w' x h => HSN.out w' _ h (below1 _ _)
  have HSAD : Hid (∀ (w' : World) (x : Obj), (Below W.heap.size W w' ∧ w'.cell? ⟨w.heap.size, 0, none⟩ = some (.pointer (some ⟨b, 0, none⟩)) ∧ w'.cell? ⟨b, 0, none⟩ = some (.slice a0 n0 c0) ∧ w'.cell? ⟨b, 1, none⟩ = some (.slice a1 n1 c1) ∧ w'.cell? ⟨b, 2, none⟩ = some (.slice a2 n2 c2) ∧ w'.cell? ⟨b, 3, none⟩ = some (.int .i64 L.ops) ∧ w'.cell? ⟨w.heap.size + 1, 0, none⟩ = some (.int .i64 ok) ∧ w'.cell? ⟨w.heap.size + 1, 1, none⟩ = some (.string os) ∧ w'.cell? ⟨w.heap.size + 1, 2, none⟩ = some (.string ol) ∧ w'.cell? ⟨w.heap.size + 1, 3, none⟩ = some (.string ot) ∧ w'.cell? ⟨w.heap.size + 1, 4, none⟩ = some (.int .i64 oq) ∧ w'.cell? ⟨w.heap.size + 1, 5, none⟩ = some (.int .i64 oi) ∧ w'.cell? ⟨w.heap.size + 1, 6, none⟩ = some (.int .i64 od)) → (Below W.heap.size W (w'.alloc x).drew ∧ (w'.alloc x).drew.cell? ⟨w.heap.size, 0, none⟩ = some (.pointer (some ⟨b, 0, none⟩)) ∧ (w'.alloc x).drew.cell? ⟨b, 0, none⟩ = some (.slice a0 n0 c0) ∧ (w'.alloc x).drew.cell? ⟨b, 1, none⟩ = some (.slice a1 n1 c1) ∧ (w'.alloc x).drew.cell? ⟨b, 2, none⟩ = some (.slice a2 n2 c2) ∧ (w'.alloc x).drew.cell? ⟨b, 3, none⟩ = some (.int .i64 L.ops) ∧ (w'.alloc x).drew.cell? ⟨w.heap.size + 1, 0, none⟩ = some (.int .i64 ok) ∧ (w'.alloc x).drew.cell? ⟨w.heap.size + 1, 1, none⟩ = some (.string os) ∧ (w'.alloc x).drew.cell? ⟨w.heap.size + 1, 2, none⟩ = some (.string ol) ∧ (w'.alloc x).drew.cell? ⟨w.heap.size + 1, 3, none⟩ = some (.string ot) ∧ (w'.alloc x).drew.cell? ⟨w.heap.size + 1, 4, none⟩ = some (.int .i64 oq) ∧ (w'.alloc x).drew.cell? ⟨w.heap.size + 1, 5, none⟩ = some (.int .i64 oi) ∧ (w'.alloc x).drew.cell? ⟨w.heap.size + 1, 6, none⟩ = some (.int .i64 od))) := fun w' x h => HSN.out w' _ h (below1 _ _).drew
  have HLAST : Hid (∀ (w' : World) (B : Nat) (u0 u1 u2 u3 : Value), W.heap.size ≤ B → (Below W.heap.size W w' ∧ w'.cell? ⟨w.heap.size, 0, none⟩ = some (.pointer (some ⟨b, 0, none⟩)) ∧ w'.cell? ⟨b, 0, none⟩ = some (.slice a0 n0 c0) ∧ w'.cell? ⟨b, 1, none⟩ = some (.slice a1 n1 c1) ∧ w'.cell? ⟨b, 2, none⟩ = some (.slice a2 n2 c2) ∧ w'.cell? ⟨b, 3, none⟩ = some (.int .i64 L.ops) ∧ w'.cell? ⟨w.heap.size + 1, 0, none⟩ = some (.int .i64 ok) ∧ w'.cell? ⟨w.heap.size + 1, 1, none⟩ = some (.string os) ∧ w'.cell? ⟨w.heap.size + 1, 2, none⟩ = some (.string ol) ∧ w'.cell? ⟨w.heap.size + 1, 3, none⟩ = some (.string ot) ∧ w'.cell? ⟨w.heap.size + 1, 4, none⟩ = some (.int .i64 oq) ∧ w'.cell? ⟨w.heap.size + 1, 5, none⟩ = some (.int .i64 oi) ∧ w'.cell? ⟨w.heap.size + 1, 6, none⟩ = some (.int .i64 od)) → (Below W.heap.size W ((((w'.setCell ⟨B, 0, none⟩ u0).setCell ⟨B, 1, none⟩ u1).setCell ⟨B, 2, none⟩ u2).setCell ⟨B, 3, none⟩ u3) ∧ ((((w'.setCell ⟨B, 0, none⟩ u0).setCell ⟨B, 1, none⟩ u1).setCell ⟨B, 2, none⟩ u2).setCell ⟨B, 3, none⟩ u3).cell? ⟨w.heap.size, 0, none⟩ = some (.pointer (some ⟨b, 0, none⟩)) ∧ ((((w'.setCell ⟨B, 0, none⟩ u0).setCell ⟨B, 1, none⟩ u1).setCell ⟨B, 2, none⟩ u2).setCell ⟨B, 3, none⟩ u3).cell? ⟨b, 0, none⟩ = some (.slice a0 n0 c0) ∧ ((((w'.setCell ⟨B, 0, none⟩ u0).setCell ⟨B, 1, none⟩ u1).setCell ⟨B, 2, none⟩ u2).setCell ⟨B, 3, none⟩ u3).cell? ⟨b, 1, none⟩ = some (.slice a1 n1 c1) ∧ ((((w'.setCell ⟨B, 0, none⟩ u0).setCell ⟨B, 1, none⟩ u1).setCell ⟨B, 2, none⟩ u2).setCell ⟨B, 3, none⟩ u3).cell? ⟨b, 2, none⟩ = some (.slice a2 n2 c2) ∧ ((((w'.setCell ⟨B, 0, none⟩ u0).setCell ⟨B, 1, none⟩ u1).setCell ⟨B, 2, none⟩ u2).setCell ⟨B, 3, none⟩ u3).cell? ⟨b, 3, none⟩ = some (.int .i64 L.ops) ∧ ((((w'.setCell ⟨B, 0, none⟩ u0).setCell ⟨B, 1, none⟩ u1).setCell ⟨B, 2, none⟩ u2).setCell ⟨B, 3, none⟩ u3).cell? ⟨w.heap.size + 1, 0, none⟩ = some (.int .i64 ok) ∧ ((((w'.setCell ⟨B, 0, none⟩ u0).setCell ⟨B, 1, none⟩ u1).setCell ⟨B, 2, none⟩ u2).setCell ⟨B, 3, none⟩ u3).cell? ⟨w.heap.size + 1, 1, none⟩ = some (.string os) ∧ ((((w'.setCell ⟨B, 0, none⟩ u0).setCell ⟨B, 1, none⟩ u1).setCell ⟨B, 2, none⟩ u2).setCell ⟨B, 3, none⟩ u3).cell? ⟨w.heap.size + 1, 2, none⟩ = some (.string ol) ∧ ((((w'.setCell ⟨B, 0, none⟩ u0).setCell ⟨B, 1, none⟩ u1).setCell ⟨B, 2, none⟩ u2).setCell ⟨B, 3, none⟩ u3).cell? ⟨w.heap.size + 1, 3, none⟩ = some (.string ot) ∧ ((((w'.setCell ⟨B, 0, none⟩ u0).setCell ⟨B, 1, none⟩ u1).setCell ⟨B, 2, none⟩ u2).setCell ⟨B, 3, none⟩ u3).cell? ⟨w.heap.size + 1, 4, none⟩ = some (.int .i64 oq) ∧ ((((w'.setCell ⟨B, 0, none⟩ u0).setCell ⟨B, 1, none⟩ u1).setCell ⟨B, 2, none⟩ u2).setCell ⟨B, 3, none⟩ u3).cell? ⟨w.heap.size + 1, 5, none⟩ = some (.int .i64 oi) ∧ ((((w'.setCell ⟨B, 0, none⟩ u0).setCell ⟨B, 1, none⟩ u1).setCell ⟨B, 2, none⟩ u2).setCell ⟨B, 3, none⟩ u3).cell? ⟨w.heap.size + 1, 6, none⟩ = some (.int .i64 od))) := fun w' B u0 u1 u2 u3 hB h => HS.out _ (below_four h.1 B hB u0 u1 u2 u3)
  have HADD : Hid (∀ x, i64b x → ∀ w, Calls Try.prog 86 #[.int .i64 x, .int .i64 oq] w fun e w' => e = .returned (.tuple #[.int .i64 (vl (x + oq)), .int .i64 (er (x + oq))]) ∧ w' = w) := fun x hx w => add_is x oq hx ho.qty w
  have HFK : Hid (∀ s t, (findK L.S s t).fit) := fun s t => findK_fit hf.S s t
  have hS0 := HS.out W (Below.refl _ _)
  clear hm hf ho h hlies hBX hlc hn0 hn1 hn2 herr
  obtain ⟨ac, hac⟩ : ∃ ac, actL L.H oi = ac := ⟨_, rfl⟩
  have HER2 : Hid (err = if ac then 0 else 71) := by
    show err = _
    have e := HER.out
    unfold errU at e
    dsimp only at e
    rw [hac] at e
    exact e.symm
  clear HER
  go_enter Try.func71, Try.ntmps71
  have HPA : Hid (∀ w', (Below W.heap.size W w' ∧ w'.cell? ⟨w.heap.size, 0, none⟩ = some (.pointer (some ⟨b, 0, none⟩)) ∧ w'.cell? ⟨b, 0, none⟩ = some (.slice a0 n0 c0) ∧ w'.cell? ⟨b, 1, none⟩ = some (.slice a1 n1 c1) ∧ w'.cell? ⟨b, 2, none⟩ = some (.slice a2 n2 c2) ∧ w'.cell? ⟨b, 3, none⟩ = some (.int .i64 L.ops) ∧ w'.cell? ⟨w.heap.size + 1, 0, none⟩ = some (.int .i64 ok) ∧ w'.cell? ⟨w.heap.size + 1, 1, none⟩ = some (.string os) ∧ w'.cell? ⟨w.heap.size + 1, 2, none⟩ = some (.string ol) ∧ w'.cell? ⟨w.heap.size + 1, 3, none⟩ = some (.string ot) ∧ w'.cell? ⟨w.heap.size + 1, 4, none⟩ = some (.int .i64 oq) ∧ w'.cell? ⟨w.heap.size + 1, 5, none⟩ = some (.int .i64 oi) ∧ w'.cell? ⟨w.heap.size + 1, 6, none⟩ = some (.int .i64 od)) → Calls Try.prog 91 #[.agg #[.slice a0 n0 c0, .slice a1 n1 c1, .slice a2 n2 c2, .int .i64 L.ops], .int .i64 oi] w' fun e w'' => e = .returned (.bool ac) ∧ (Below W.heap.size W w'' ∧ w''.cell? ⟨w.heap.size, 0, none⟩ = some (.pointer (some ⟨b, 0, none⟩)) ∧ w''.cell? ⟨b, 0, none⟩ = some (.slice a0 n0 c0) ∧ w''.cell? ⟨b, 1, none⟩ = some (.slice a1 n1 c1) ∧ w''.cell? ⟨b, 2, none⟩ = some (.slice a2 n2 c2) ∧ w''.cell? ⟨b, 3, none⟩ = some (.int .i64 L.ops) ∧ w''.cell? ⟨w.heap.size + 1, 0, none⟩ = some (.int .i64 ok) ∧ w''.cell? ⟨w.heap.size + 1, 1, none⟩ = some (.string os) ∧ w''.cell? ⟨w.heap.size + 1, 2, none⟩ = some (.string ol) ∧ w''.cell? ⟨w.heap.size + 1, 3, none⟩ = some (.string ot) ∧ w''.cell? ⟨w.heap.size + 1, 4, none⟩ = some (.int .i64 oq) ∧ w''.cell? ⟨w.heap.size + 1, 5, none⟩ = some (.int .i64 oi) ∧ w''.cell? ⟨w.heap.size + 1, 6, none⟩ = some (.int .i64 od))) := fun w' q => (isActive_is a0 n0 c0 a1 n1 c1 a2 n2 c2 L.ops L.H HNN.out.2.1 (by omega) oi hid hio w' (HLI.out.H.next hlv_ne q.1)).mono (by
    rintro e w'' ⟨he, hb⟩
    exact ⟨by rw [he, hac], HSN.out _ _ q hb⟩)
  clear hac
  go_upto_region 1 with fail
  try rw [hW]
  go_cut [12] (fun sc wx => sc = .bool (!ac) ∧ Hid (Below W.heap.size W wx))
  case first =>
    go_region_held (fun (w' : World) => (Below W.heap.size W w' ∧ w'.cell? ⟨w.heap.size, 0, none⟩ = some (.pointer (some ⟨b, 0, none⟩)) ∧ w'.cell? ⟨b, 0, none⟩ = some (.slice a0 n0 c0) ∧ w'.cell? ⟨b, 1, none⟩ = some (.slice a1 n1 c1) ∧ w'.cell? ⟨b, 2, none⟩ = some (.slice a2 n2 c2) ∧ w'.cell? ⟨b, 3, none⟩ = some (.int .i64 L.ops) ∧ w'.cell? ⟨w.heap.size + 1, 0, none⟩ = some (.int .i64 ok) ∧ w'.cell? ⟨w.heap.size + 1, 1, none⟩ = some (.string os) ∧ w'.cell? ⟨w.heap.size + 1, 2, none⟩ = some (.string ol) ∧ w'.cell? ⟨w.heap.size + 1, 3, none⟩ = some (.string ot) ∧ w'.cell? ⟨w.heap.size + 1, 4, none⟩ = some (.int .i64 oq) ∧ w'.cell? ⟨w.heap.size + 1, 5, none⟩ = some (.int .i64 oi) ∧ w'.cell? ⟨w.heap.size + 1, 6, none⟩ = some (.int .i64 od))) (first | (with_reducible assumption) | (with_reducible exact HSD.out _ (by with_reducible assumption)) | (with_reducible exact HSA.out _ _ (by with_reducible assumption)))
      (first | ((with_reducible refine Calls.mono (HPA.out _ (by with_reducible assumption)) ?_); rintro e w3 ⟨rfl, hS3⟩; have HBW : Hid (Below W.heap.size W w3) := hS3.1))
    all_goals go_wp2_with fail
    all_goals go_meet
    all_goals exact ⟨rfl, HBW.out⟩
  case rest =>
  obtain ⟨rfl, HBc⟩ := hcut
  obtain ⟨hb', c00', c01', c02', c03', c04', d0', d1', d2', d3', d4', d5', d6'⟩ := HS.out wc HBc.out
  clear hb' hS0
  cases ac with
  | true =>
    rw [if_pos rfl] at HER2
    go_wp2_with fail
    go_ret2
    exact HYES.out _ HBc.out HER2.out
  | false =>
    rw [if_neg (by simp)] at HER2
    go_wp2_with fail
    go_ret2
    exact HNO.out _ 71 HBc.out HER2.out (by omega)
end Go.Proofs.Ytflbcheofmljeaa
