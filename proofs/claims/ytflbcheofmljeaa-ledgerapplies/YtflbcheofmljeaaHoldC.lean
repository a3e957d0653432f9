/- ledger.hold's closure. -/
import Derived.Test.YtflbcheofmljeaaCap
import Derived.Deep.DeepCutAuto
import Derived.StillTail
namespace Go.Proofs.Ytflbcheofmljeaa
open Go.ChangeShapes Go.WideShapes Go.RowKit
set_option linter.unusedVariables false
set_option linter.unusedSimpArgs false
set_option maxRecDepth 100000

set_option maxHeartbeats 20000000 in
theorem holdC_is {w : World} {E : Nat → Prop} {b : Nat} {v0 v1 v2 : Value} {L : Led} (h : LedO w E b v0 v1 v2 L) (hs : Rises L.S) (hm : L.S.length ≤ 10000) (hm1 : L.H.length ≤ 10000) (pb ob : Nat) (o : Opn) (hc : Cap w pb ob b o) (hpE : E pb) (hoE : E ob) (hin : i64b ((findK L.S o.sku o.loc).held + o.qty)) :
    Calls Try.prog 89 #[.pointer (some ⟨pb, 0, none⟩), .pointer (some ⟨ob, 0, none⟩)] w fun e w' => e = .returned (.tuple #[]) ∧ ∃ v0' v1', LedO w' E b v0' v1' v2 (holdL L o.sku o.loc o.qty o.due) ∧ Stay E w w' := by
  obtain ⟨ok, os, ol, ot, oq, oi, od⟩ := o
  dsimp only at *
  have HS : Hid _ := stockOf_is (h.next (Below.refl _ _).drew) hs (by omega) os ol
  obtain ⟨hk, he⟩ := ens_at hs os ol
  have HA : Hid (∃ h : posK L.S os ol < (ens L.S os ol).length, (ens L.S os ol)[posK L.S os ol] = findK L.S os ol) := ⟨hk, he⟩
  have hw : IntKind.i64.wrap ((findK L.S os ol).held + oq) = (findK L.S os ol).held + oq := by rw [IntKind.wrap_i64]; unfold i64b at hin; omega
  have HAH : Hid (addHeld L.S os ol oq = (ens L.S os ol).set (posK L.S os ol) { findK L.S os ol with held := (findK L.S os ol).held + oq }) := rfl
  have HHL : Hid (holdL L os ol oq od = { L with S := addHeld L.S os ol oq, H := L.H ++ [⟨(L.H.length : Int) + 1, os, ol, oq, 0, od⟩] }) := rfl
  generalize holdL L os ol oq od = L9 at *
  generalize addHeld L.S os ol oq = S9 at *
  obtain ⟨f, hf⟩ : ∃ f, findK L.S os ol = f := ⟨_, rfl⟩
  obtain ⟨k, hkk⟩ : ∃ k, posK L.S os ol = k := ⟨_, rfl⟩
  rw [hf] at HA HAH hw hin
  rw [hkk] at HAH HS
  have HA' : Hid (∃ h : k < (ens L.S os ol).length, (ens L.S os ol)[k] = f) := by subst hkk; exact HA.out
  have HC : Hid (Cap w pb ob b ⟨ok, os, ol, ot, oq, oi, od⟩ ∧ E pb ∧ E ob) := ⟨hc, hpE, hoE⟩
  obtain ⟨n1, hn1⟩ : ∃ n1, L.H.length = n1 := ⟨_, rfl⟩
  rw [hn1] at HHL hm1
  have HN1 : Hid (L.H.length = n1) := hn1
  obtain ⟨hp, o0, o1, o2, o3, o4, o5, o6⟩ := hc
  dsimp only at o0 o1 o2 o3 o4 o5 o6
  have HQ : Hid (∀ g m cap (w2 : World), LedO w2 E b (.slice (some ⟨g, 0, none⟩) m cap) v1 v2 { L with S := ens L.S os ol } → Stay E w.drew w2 →
      w2.cell? ⟨g, k * 4 + 3, none⟩ = some (.int .i64 f.held) ∧ w2.frozen? ⟨g, k * 4 + 3, none⟩ = false ∧ w2.cell? ⟨ob, 4, none⟩ = some (.int .i64 oq)) := fun g m cap w2 q1 q2 => by
    have hk1 : k < ({ L with S := ens L.S os ol } : Led).S.length := HA'.out.1
    obtain ⟨a0, c0, e0, hr0⟩ := own_rowS q1.S
    cases e0
    obtain ⟨g', o, eg, hgl, hc⟩ := hr0.stk (fun e => by rw [e] at hk1; simp at hk1)
    cases eg
    have hxx := hc k hk1
    have hfk : ({ L with S := ens L.S os ol } : Led).S[k] = f := HA'.out.2
    rw [hfk] at hxx
    have z3 := hxx.c3
    rw [Nat.zero_add] at z3
    exact ⟨z3, World.ownsRow.frozenAt q1.S _, (HC.out.1.stay (w' := w2) ⟨q2.os, q2.tape, q2.output, q2.size, q2.block⟩ HC.out.2.1 HC.out.2.2).o.c4⟩
  have HT : Hid (∀ g m cap (w2 : World), LedO w2 E b (.slice (some ⟨g, 0, none⟩) m cap) v1 v2 { L with S := ens L.S os ol } → Stay E w.drew w2 →
      ∃ g m cap, Hid (LedO (w2.setCell ⟨g, k * 4 + 3, none⟩ (.int .i64 (f.held + oq))) E b (.slice (some ⟨g, 0, none⟩) m cap) v1 v2 { L with S := S9 } ∧ Stay E w (w2.setCell ⟨g, k * 4 + 3, none⟩ (.int .i64 (f.held + oq))))) := fun g m cap w2 q1 q2 => by
    obtain ⟨A1, A2⟩ := LedO.setS q1 k 3 HA'.out.1 (by omega) { f with held := f.held + oq } (.int .i64 (f.held + oq)) (by
      have : ({ L with S := ens L.S os ol } : Led).S[k]'HA'.out.1 = f := HA'.out.2
      rw [this]; rfl)
    have s := q2.trans A2
    exact ⟨g, m, cap, by rw [HAH.out]; exact A1, ⟨s.os, s.tape, s.output, s.size, s.block⟩⟩
  have HT2 : Hid (∀ g m cap (w2 : World), LedO w2 E b (.slice (some ⟨g, 0, none⟩) m cap) v1 v2 { L with S := ens L.S os ol } → Stay E w.drew w2 →
      LedO (w2.setCell ⟨g, k * 4 + 3, none⟩ (.int .i64 (f.held + oq))) E b (.slice (some ⟨g, 0, none⟩) m cap) v1 v2 { L with S := S9 } ∧ Stay E w (w2.setCell ⟨g, k * 4 + 3, none⟩ (.int .i64 (f.held + oq)))) := fun g m cap w2 q1 q2 => by
    obtain ⟨A1, A2⟩ := LedO.setS q1 k 3 HA'.out.1 (by omega) { f with held := f.held + oq } (.int .i64 (f.held + oq)) (by
      have : ({ L with S := ens L.S os ol } : Led).S[k]'HA'.out.1 = f := HA'.out.2
      rw [this]; rfl)
    have s := q2.trans A2
    exact ⟨by rw [HAH.out]; exact A1, ⟨s.os, s.tape, s.output, s.size, s.block⟩⟩
  clear HT
  have hw2 : IntKind.i64.wrap ((n1 : Int) + 1) = (n1 : Int) + 1 := by rw [IntKind.wrap_i64]; omega
  clear hf hkk hk he hs h hm HA hn1 hpE hoE
  go_enter Try.func89, Try.ntmps89
  go_upto_region 0 with fail
  go_cut [] (fun wx => ∃ v0', Hid (LedO wx E b v0' v1 v2 { L with S := S9 } ∧ Stay E w wx))
  case first =>
    go_region_with (go_at_call 90; refine Calls.mono HS.out ?_; rintro e w2 ⟨g, m, cap, rfl, q1, q2⟩; have HL2 : Hid (LedO w2 E b (.slice (some ⟨g, 0, none⟩) m cap) v1 v2 { L with S := ens L.S os ol } ∧ Stay E w.drew w2) := ⟨q1, q2⟩; obtain ⟨z3, zf, zq⟩ := HQ.out g m cap w2 q1 q2; clear q1 q2)
    all_goals go_wp2_with fail
    all_goals go_meet
    all_goals exact ⟨_, HT2.out _ _ _ _ HL2.out.1 HL2.out.2⟩
  case rest =>
  obtain ⟨v0', HL⟩ := hcut
  obtain ⟨a1, c1, rfl, _⟩ := own_rowH HL.out.1.H
  have hM : ({ L with S := S9 } : Led).H.length = n1 := HN1.out
  rw [hM] at HL
  obtain ⟨hp', p0, p1, p2, p3, p4, p5, p6⟩ := HC.out.1.stay HL.out.2 HC.out.2.1 HC.out.2.2
  dsimp only at p0 p1 p2 p3 p4 p5 p6
  have l1 : wc.cell? ⟨b, 1, none⟩ = some (.slice a1 n1 c1) := HL.out.1.c.cs 1 _ rfl
  have l1f := HL.out.1.c.fz 1
  have hd : LedO wc.drew E b v0' (.slice a1 n1 c1) v2 { L with S := S9 } := HL.out.1.next (Below.refl _ _).drew
  obtain ⟨g2, cap2, w3, r1, r2, r3, r4⟩ := append_H hd.H ⟨(n1 : Int) + 1, os, ol, oq, 0, od⟩ (by rw [hM]; omega)
  obtain ⟨N1, N2, N3, N4⟩ := LedO.newH hd (L.H ++ [⟨(n1 : Int) + 1, os, ol, oq, 0, od⟩]) g2 (n1 + 1) cap2 (by rw [List.length_append, HN1.out]; rfl) (by rw [hM] at r2; exact r2) r3 r4
  rw [hM] at r1
  have RA : Hid ((Builtin.append_ #[23, 23] 23 #[.slice a1 n1 c1, .slice (some ⟨wc.heap.size, 0, none⟩) 1 1]).run Try.prog (wc.drew.alloc (.cells #[.int .i64 ((n1 : Int) + 1), .string os, .string ol, .int .i64 oq, .int .i64 0, .int .i64 od] 44)) = .ok (.slice (some ⟨g2, 0, none⟩) (n1 + 1) cap2) w3) := r1
  have HFIN : Hid (LedO (w3.setCell ⟨b, 1, none⟩ (.slice (some ⟨g2, 0, none⟩) (n1 + 1) cap2)) E b v0' (.slice (some ⟨g2, 0, none⟩) (n1 + 1) cap2) v2 L9 ∧ Stay E w (w3.setCell ⟨b, 1, none⟩ (.slice (some ⟨g2, 0, none⟩) (n1 + 1) cap2))) := ⟨by rw [HHL.out]; exact N1, HL.out.2.trans ⟨N2.os, N2.tape, N2.output, N2.size, N2.block⟩⟩
  obtain ⟨u, hu⟩ : ∃ u, w3.cell? ⟨b, 1, none⟩ = some u := Option.isSome_iff_exists.1 N3
  have HS3 : Hid ((w3.cell? ⟨pb, 0, none⟩ = some (.pointer (some ⟨b, 0, none⟩)) ∧ w3.cell? ⟨ob, 1, none⟩ = some (.string os) ∧ w3.cell? ⟨ob, 2, none⟩ = some (.string ol) ∧ w3.cell? ⟨ob, 4, none⟩ = some (.int .i64 oq) ∧ w3.cell? ⟨ob, 6, none⟩ = some (.int .i64 od))) := by
    have hb : ∀ q, E q → w3.heap[q]? = wc.heap[q]? := fun q hq => r3.block q (HL.out.1.lt q hq) (fun e => (HL.out.1.e1 q e.symm).1 hq)
    have kp := hb pb HC.out.2.1
    have ko := hb ob HC.out.2.2
    exact ⟨(World.cell?_of_block (a := ⟨pb, 0, none⟩) kp).trans hp', (World.cell?_of_block (a := ⟨ob, 1, none⟩) ko).trans p1, (World.cell?_of_block (a := ⟨ob, 2, none⟩) ko).trans p2, (World.cell?_of_block (a := ⟨ob, 4, none⟩) ko).trans p4, (World.cell?_of_block (a := ⟨ob, 6, none⟩) ko).trans p6⟩
  have HS4 : Hid (((w3.setCell ⟨b, 1, none⟩ (.slice (some ⟨g2, 0, none⟩) (n1 + 1) cap2)).cell? ⟨pb, 0, none⟩ = some (.pointer (some ⟨b, 0, none⟩)) ∧ (w3.setCell ⟨b, 1, none⟩ (.slice (some ⟨g2, 0, none⟩) (n1 + 1) cap2)).cell? ⟨ob, 1, none⟩ = some (.string os) ∧ (w3.setCell ⟨b, 1, none⟩ (.slice (some ⟨g2, 0, none⟩) (n1 + 1) cap2)).cell? ⟨ob, 2, none⟩ = some (.string ol) ∧ (w3.setCell ⟨b, 1, none⟩ (.slice (some ⟨g2, 0, none⟩) (n1 + 1) cap2)).cell? ⟨ob, 4, none⟩ = some (.int .i64 oq) ∧ (w3.setCell ⟨b, 1, none⟩ (.slice (some ⟨g2, 0, none⟩) (n1 + 1) cap2)).cell? ⟨ob, 6, none⟩ = some (.int .i64 od))) := by
    have nb : ∀ q, E q → b ≠ q := fun q hq e => HL.out.1.e (e ▸ hq)
    have np := nb pb HC.out.2.1
    have no := nb ob HC.out.2.2
    exact ⟨(cell_put _ (fun q => np q.1)).trans HS3.out.1, (cell_put _ (fun q => no q.1)).trans HS3.out.2.1, (cell_put _ (fun q => no q.1)).trans HS3.out.2.2.1, (cell_put _ (fun q => no q.1)).trans HS3.out.2.2.2.1, (cell_put _ (fun q => no q.1)).trans HS3.out.2.2.2.2⟩
  clear r1 r2 r3 r4 N1 N2 N3 hd hM
  go_wp2_with fail
  have hbl : b < wc.heap.size := HL.out.1.c.lt
  have l1a : ∀ o, (wc.alloc o).cell? ⟨b, 1, none⟩ = some (.slice a1 n1 c1) := fun o => ((below1 wc o).cell (p := ⟨b, 1, none⟩) hbl).trans l1
  have l1d : ∀ o, (wc.drew.alloc o).cell? ⟨b, 1, none⟩ = some (.slice a1 n1 c1) := fun o => ((below1 wc.drew o).cell (p := ⟨b, 1, none⟩) hbl).trans l1
  have HS0 : Hid ((wc.drew.cell? ⟨pb, 0, none⟩ = some (.pointer (some ⟨b, 0, none⟩)) ∧ wc.drew.cell? ⟨ob, 1, none⟩ = some (.string os) ∧ wc.drew.cell? ⟨ob, 2, none⟩ = some (.string ol) ∧ wc.drew.cell? ⟨ob, 4, none⟩ = some (.int .i64 oq) ∧ wc.drew.cell? ⟨ob, 6, none⟩ = some (.int .i64 od))) := ⟨hp', p1, p2, p4, p6⟩
  have HSA : Hid (∀ o, ((wc.drew.alloc o).cell? ⟨pb, 0, none⟩ = some (.pointer (some ⟨b, 0, none⟩)) ∧ (wc.drew.alloc o).cell? ⟨ob, 1, none⟩ = some (.string os) ∧ (wc.drew.alloc o).cell? ⟨ob, 2, none⟩ = some (.string ol) ∧ (wc.drew.alloc o).cell? ⟨ob, 4, none⟩ = some (.int .i64 oq) ∧ (wc.drew.alloc o).cell? ⟨ob, 6, none⟩ = some (.int .i64 od))) := fun o => by
    have k := below1 wc.drew o
    exact ⟨(k.cell (p := ⟨pb, 0, none⟩) (World.block_lt_of_cell? wc _ hp')).trans hp', (k.cell (p := ⟨ob, 1, none⟩) (World.block_lt_of_cell? wc _ p1)).trans p1, (k.cell (p := ⟨ob, 2, none⟩) (World.block_lt_of_cell? wc _ p2)).trans p2, (k.cell (p := ⟨ob, 4, none⟩) (World.block_lt_of_cell? wc _ p4)).trans p4, (k.cell (p := ⟨ob, 6, none⟩) (World.block_lt_of_cell? wc _ p6)).trans p6⟩
  refine wp_region_held_drew (S := fun (w' : World) => (w'.cell? ⟨pb, 0, none⟩ = some (.pointer (some ⟨b, 0, none⟩)) ∧ w'.cell? ⟨ob, 1, none⟩ = some (.string os) ∧ w'.cell? ⟨ob, 2, none⟩ = some (.string ol) ∧ w'.cell? ⟨ob, 4, none⟩ = some (.int .i64 oq) ∧ w'.cell? ⟨ob, 6, none⟩ = some (.int .i64 od))) (by kernel_rfl) HS0.out (fun hHeld => ?_)
  refine wpAnyH_take (i := 0) (oi := { dst := some 16, op := Op.load 59 (Operand.tmp 0), type := 59, pos := "ledger.go:250", after := #[], guard := none }) (v := .pointer (some ⟨b, 0, none⟩)) rfl (by kernel_rfl) (by kernel_rfl) (by kernel_rfl) (fun _ _ _ h => h) (Or.inl ⟨by rfl, ?_⟩) (by with_reducible assumption) ?_
  · intro wx hSw
    (try dsimp only at hSw)
    first | (go_simp; done) | (go_simp; with_reducible rfl)
  try simp only [Act.put, List.setIfInBounds_toArray, List.set_cons_zero, List.set_cons_succ]
  refine wpAnyH_take (i := 1) (oi := { dst := some 17, op := Op.load 59 (Operand.tmp 0), type := 59, pos := "ledger.go:250", after := #[], guard := none }) (v := .pointer (some ⟨b, 0, none⟩)) rfl (by kernel_rfl) (by kernel_rfl) (by kernel_rfl) (fun _ _ _ h => h) (Or.inl ⟨by rfl, ?_⟩) (by with_reducible assumption) ?_
  · intro wx hSw
    (try dsimp only at hSw)
    first | (go_simp; done) | (go_simp; with_reducible rfl)
  try simp only [Act.put, List.setIfInBounds_toArray, List.set_cons_zero, List.set_cons_succ]
  refine wpAnyH_take (i := 2) (oi := { dst := some 18, op := Op.nilCheck (Operand.tmp 17), type := 0, pos := "ledger.go:250", after := #[{ on := 1, ground := Ground.data }], guard := none }) (v := .pointer (some ⟨b, 0, none⟩)) rfl (by kernel_rfl) (by kernel_rfl) (by kernel_rfl) (fun _ _ _ h => h) (Or.inl ⟨by rfl, ?_⟩) (by with_reducible assumption) ?_
  · intro wx hSw
    (try dsimp only at hSw)
    first | (go_simp; done) | (go_simp; with_reducible rfl)
  try simp only [Act.put, List.setIfInBounds_toArray, List.set_cons_zero, List.set_cons_succ]
  refine wpAnyH_take (i := 3) (oi := { dst := some 19, op := Op.fieldAddr 26 (Operand.tmp 18) 1, type := 0, pos := "ledger.go:250", after := #[{ on := 2, ground := Ground.data }], guard := none }) (v := .pointer (some ⟨b, 1, none⟩)) rfl (by kernel_rfl) (by kernel_rfl) (by kernel_rfl) (fun _ _ _ h => h) (Or.inl ⟨by rfl, ?_⟩) (by with_reducible assumption) ?_
  · intro wx hSw
    (try dsimp only at hSw)
    first | (go_simp; done) | (go_simp; with_reducible rfl)
  try simp only [Act.put, List.setIfInBounds_toArray, List.set_cons_zero, List.set_cons_succ]
  refine wpAnyH_take (i := 5) (oi := { dst := some 21, op := Op.load 59 (Operand.tmp 0), type := 59, pos := "ledger.go:250", after := #[], guard := none }) (v := .pointer (some ⟨b, 0, none⟩)) rfl (by kernel_rfl) (by kernel_rfl) (by kernel_rfl) (fun _ _ _ h => h) (Or.inl ⟨by rfl, ?_⟩) (by with_reducible assumption) ?_
  · intro wx hSw
    (try dsimp only at hSw)
    first | (go_simp; done) | (go_simp; with_reducible rfl)
  try simp only [Act.put, List.setIfInBounds_toArray, List.set_cons_zero, List.set_cons_succ]
  refine wpAnyH_take (i := 6) (oi := { dst := some 22, op := Op.nilCheck (Operand.tmp 21), type := 0, pos := "ledger.go:250", after := #[{ on := 5, ground := Ground.data }], guard := none }) (v := .pointer (some ⟨b, 0, none⟩)) rfl (by kernel_rfl) (by kernel_rfl) (by kernel_rfl) (fun _ _ _ h => h) (Or.inl ⟨by rfl, ?_⟩) (by with_reducible assumption) ?_
  · intro wx hSw
    (try dsimp only at hSw)
    first | (go_simp; done) | (go_simp; with_reducible rfl)
  try simp only [Act.put, List.setIfInBounds_toArray, List.set_cons_zero, List.set_cons_succ]
  refine wpAnyH_take (i := 7) (oi := { dst := some 23, op := Op.fieldAddr 26 (Operand.tmp 22) 1, type := 0, pos := "ledger.go:250", after := #[{ on := 6, ground := Ground.data }], guard := none }) (v := .pointer (some ⟨b, 1, none⟩)) rfl (by kernel_rfl) (by kernel_rfl) (by kernel_rfl) (fun _ _ _ h => h) (Or.inl ⟨by rfl, ?_⟩) (by with_reducible assumption) ?_
  · intro wx hSw
    (try dsimp only at hSw)
    first | (go_simp; done) | (go_simp; with_reducible rfl)
  try simp only [Act.put, List.setIfInBounds_toArray, List.set_cons_zero, List.set_cons_succ]
  refine wpAnyH_take (i := 11) (oi := { dst := some 27, op := Op.fieldAddr 28 (Operand.tmp 1) 1, type := 0, pos := "ledger.go:250", after := #[], guard := none }) (v := .pointer (some ⟨ob, 1, none⟩)) rfl (by kernel_rfl) (by kernel_rfl) (by kernel_rfl) (fun _ _ _ h => h) (Or.inl ⟨by rfl, ?_⟩) (by with_reducible assumption) ?_
  · intro wx hSw
    (try dsimp only at hSw)
    first | (go_simp; done) | (go_simp; with_reducible rfl)
  try simp only [Act.put, List.setIfInBounds_toArray, List.set_cons_zero, List.set_cons_succ]
  refine wpAnyH_take (i := 12) (oi := { dst := some 28, op := Op.load 9 (Operand.tmp 27), type := 9, pos := "ledger.go:250", after := #[{ on := 11, ground := Ground.data }], guard := none }) (v := .string os) rfl (by kernel_rfl) (by kernel_rfl) (by kernel_rfl) (fun _ _ _ h => h) (Or.inl ⟨by rfl, ?_⟩) (by with_reducible assumption) ?_
  · intro wx hSw
    (try dsimp only at hSw)
    first | (go_simp; done) | (go_simp; with_reducible rfl)
  try simp only [Act.put, List.setIfInBounds_toArray, List.set_cons_zero, List.set_cons_succ]
  refine wpAnyH_take (i := 13) (oi := { dst := some 29, op := Op.fieldAddr 28 (Operand.tmp 1) 2, type := 0, pos := "ledger.go:250", after := #[], guard := none }) (v := .pointer (some ⟨ob, 2, none⟩)) rfl (by kernel_rfl) (by kernel_rfl) (by kernel_rfl) (fun _ _ _ h => h) (Or.inl ⟨by rfl, ?_⟩) (by with_reducible assumption) ?_
  · intro wx hSw
    (try dsimp only at hSw)
    first | (go_simp; done) | (go_simp; with_reducible rfl)
  try simp only [Act.put, List.setIfInBounds_toArray, List.set_cons_zero, List.set_cons_succ]
  refine wpAnyH_take (i := 14) (oi := { dst := some 30, op := Op.load 9 (Operand.tmp 29), type := 9, pos := "ledger.go:250", after := #[{ on := 13, ground := Ground.data }], guard := none }) (v := .string ol) rfl (by kernel_rfl) (by kernel_rfl) (by kernel_rfl) (fun _ _ _ h => h) (Or.inl ⟨by rfl, ?_⟩) (by with_reducible assumption) ?_
  · intro wx hSw
    (try dsimp only at hSw)
    first | (go_simp; done) | (go_simp; with_reducible rfl)
  try simp only [Act.put, List.setIfInBounds_toArray, List.set_cons_zero, List.set_cons_succ]
  refine wpAnyH_take (i := 15) (oi := { dst := some 31, op := Op.fieldAddr 28 (Operand.tmp 1) 4, type := 0, pos := "ledger.go:250", after := #[], guard := none }) (v := .pointer (some ⟨ob, 4, none⟩)) rfl (by kernel_rfl) (by kernel_rfl) (by kernel_rfl) (fun _ _ _ h => h) (Or.inl ⟨by rfl, ?_⟩) (by with_reducible assumption) ?_
  · intro wx hSw
    (try dsimp only at hSw)
    first | (go_simp; done) | (go_simp; with_reducible rfl)
  try simp only [Act.put, List.setIfInBounds_toArray, List.set_cons_zero, List.set_cons_succ]
  refine wpAnyH_take (i := 16) (oi := { dst := some 32, op := Op.load 3 (Operand.tmp 31), type := 3, pos := "ledger.go:250", after := #[{ on := 15, ground := Ground.data }], guard := none }) (v := .int .i64 oq) rfl (by kernel_rfl) (by kernel_rfl) (by kernel_rfl) (fun _ _ _ h => h) (Or.inl ⟨by rfl, ?_⟩) (by with_reducible assumption) ?_
  · intro wx hSw
    (try dsimp only at hSw)
    first | (go_simp; done) | (go_simp; with_reducible rfl)
  try simp only [Act.put, List.setIfInBounds_toArray, List.set_cons_zero, List.set_cons_succ]
  refine wpAnyH_take (i := 17) (oi := { dst := some 33, op := Op.fieldAddr 28 (Operand.tmp 1) 6, type := 0, pos := "ledger.go:250", after := #[], guard := none }) (v := .pointer (some ⟨ob, 6, none⟩)) rfl (by kernel_rfl) (by kernel_rfl) (by kernel_rfl) (fun _ _ _ h => h) (Or.inl ⟨by rfl, ?_⟩) (by with_reducible assumption) ?_
  · intro wx hSw
    (try dsimp only at hSw)
    first | (go_simp; done) | (go_simp; with_reducible rfl)
  try simp only [Act.put, List.setIfInBounds_toArray, List.set_cons_zero, List.set_cons_succ]
  refine wpAnyH_take (i := 18) (oi := { dst := some 34, op := Op.load 3 (Operand.tmp 33), type := 3, pos := "ledger.go:250", after := #[{ on := 17, ground := Ground.data }], guard := none }) (v := .int .i64 od) rfl (by kernel_rfl) (by kernel_rfl) (by kernel_rfl) (fun _ _ _ h => h) (Or.inl ⟨by rfl, ?_⟩) (by with_reducible assumption) ?_
  · intro wx hSw
    (try dsimp only at hSw)
    first | (go_simp; done) | (go_simp; with_reducible rfl)
  try simp only [Act.put, List.setIfInBounds_toArray, List.set_cons_zero, List.set_cons_succ]
  refine wpAnyH_ready (rs := [4, 8]) (by kernel_rfl) (by simp) ?_
  refine AllReadyH.cons rfl (fun K hK => ?_) (AllReadyH.cons rfl (fun K hK => ?_) AllReadyH.nil)
  · skip
    go_simp
    refine hK.out _ _ (HS0.out) (fun hHeld1 => ?_)
    clear hK K
    try simp only [Act.put, List.setIfInBounds_toArray, List.set_cons_zero, List.set_cons_succ]
    refine wpAnyH_ready (rs := [8]) (by kernel_rfl) (by simp) ?_
    refine AllReadyH.cons rfl (fun K hK => ?_) AllReadyH.nil
    go_simp
    refine hK.out _ _ (HS0.out) (fun hHeld2 => ?_)
    clear hK K
    try simp only [Act.put, List.setIfInBounds_toArray, List.set_cons_zero, List.set_cons_succ]
    refine wpAnyH_take (i := 9) (oi := { dst := some 25, op := Op.call { callee := Callee.builtin Builtin.len, args := #[Operand.tmp 24], argTypes := #[23] }, type := 3, pos := "ledger.go:250", after := #[{ on := 8, ground := Ground.data }], guard := none }) (v := .int .i64 (n1 : Int)) rfl (by kernel_rfl) (by kernel_rfl) (by kernel_rfl) (fun _ _ _ h => h) (Or.inl ⟨by rfl, ?_⟩) (by with_reducible assumption) ?_
    · intro wx hSw
      (try dsimp only at hSw)
      first | (go_simp; done) | (go_simp; with_reducible rfl)
    try simp only [Act.put, List.setIfInBounds_toArray, List.set_cons_zero, List.set_cons_succ]
    refine wpAnyH_take (i := 10) (oi := { dst := some 26, op := Op.binOp BinOp.add 3 (Operand.tmp 25) (Operand.const (Value.int IntKind.i64 1)) 3, type := 3, pos := "ledger.go:250", after := #[{ on := 9, ground := Ground.data }], guard := none }) (v := .int .i64 ((n1 : Int) + 1)) rfl (by kernel_rfl) (by kernel_rfl) (by kernel_rfl) (fun _ _ _ h => h) (Or.inl ⟨by rfl, ?_⟩) (by with_reducible assumption) ?_
    · intro wx hSw
      (try dsimp only at hSw)
      first | (go_simp; done) | (go_simp; with_reducible rfl)
    try simp only [Act.put, List.setIfInBounds_toArray, List.set_cons_zero, List.set_cons_succ]
    refine wpAnyH_take (i := 19) (oi := { dst := some 35, op := Op.build 44 #[(0, Operand.tmp 26), (1, Operand.tmp 28), (2, Operand.tmp 30), (3, Operand.tmp 32), (4, Operand.const (Value.int IntKind.i64 0)), (5, Operand.tmp 34)], type := 44, pos := "ledger.go:250", after := #[{ on := 10, ground := Ground.data }, { on := 12, ground := Ground.data }, { on := 14, ground := Ground.data }, { on := 16, ground := Ground.data }, { on := 18, ground := Ground.data }], guard := none }) (v := .agg #[.int .i64 ((n1 : Int) + 1), .string os, .string ol, .int .i64 oq, .int .i64 0, .int .i64 od]) rfl (by kernel_rfl) (by kernel_rfl) (by kernel_rfl) (fun _ _ _ h => h) (Or.inl ⟨by rfl, ?_⟩) (by with_reducible assumption) ?_
    · intro wx hSw
      (try dsimp only at hSw)
      first | (go_simp; done) | (go_simp; with_reducible rfl)
    try simp only [Act.put, List.setIfInBounds_toArray, List.set_cons_zero, List.set_cons_succ]
    refine wpAnyH_ready (rs := [20]) (by kernel_rfl) (by simp) ?_
    refine AllReadyH.cons rfl (fun K hK => ?_) AllReadyH.nil
    go_simp
    refine hK.out _ _ (HSA.out _) (fun hHeld3 => ?_)
    clear hK K
    try simp only [Act.put, List.setIfInBounds_toArray, List.set_cons_zero, List.set_cons_succ]
    refine wpAnyH_ready (rs := [21]) (by kernel_rfl) (by simp) ?_
    refine AllReadyH.cons rfl (fun K hK => ?_) AllReadyH.nil
    refine dr_append rfl rfl RA.out ?_
    refine hK.out _ _ (HS3.out) (fun hHeld4 => ?_)
    clear hK K
    try simp only [Act.put, List.setIfInBounds_toArray, List.set_cons_zero, List.set_cons_succ]
    refine wpAnyH_take (i := 22) (oi := { dst := some 38, op := Op.nilCheck (Operand.tmp 16), type := 0, pos := "ledger.go:250", after := #[{ on := 0, ground := Ground.data }, { on := 0, ground := Ground.phase }, { on := 1, ground := Ground.phase }, { on := 2, ground := Ground.phase }, { on := 3, ground := Ground.phase }, { on := 4, ground := Ground.phase }, { on := 5, ground := Ground.phase }, { on := 6, ground := Ground.phase }, { on := 7, ground := Ground.phase }, { on := 8, ground := Ground.phase }, { on := 9, ground := Ground.phase }, { on := 10, ground := Ground.phase }, { on := 11, ground := Ground.phase }, { on := 12, ground := Ground.phase }, { on := 13, ground := Ground.phase }, { on := 14, ground := Ground.phase }, { on := 15, ground := Ground.phase }, { on := 16, ground := Ground.phase }, { on := 17, ground := Ground.phase }, { on := 18, ground := Ground.phase }, { on := 19, ground := Ground.phase }, { on := 20, ground := Ground.phase }, { on := 21, ground := Ground.phase }], guard := none }) (v := .pointer (some ⟨b, 0, none⟩)) rfl (by kernel_rfl) (by kernel_rfl) (by kernel_rfl) (fun _ _ _ h => h) (Or.inl ⟨by rfl, ?_⟩) (by with_reducible assumption) ?_
    · intro wx hSw
      (try dsimp only at hSw)
      first | (go_simp; done) | (go_simp; with_reducible rfl)
    try simp only [Act.put, List.setIfInBounds_toArray, List.set_cons_zero, List.set_cons_succ]
    refine wpAnyH_take (i := 23) (oi := { dst := some 39, op := Op.fieldAddr 26 (Operand.tmp 38) 1, type := 0, pos := "ledger.go:250", after := #[{ on := 22, ground := Ground.data }, { on := 0, ground := Ground.phase }, { on := 1, ground := Ground.phase }, { on := 2, ground := Ground.phase }, { on := 3, ground := Ground.phase }, { on := 4, ground := Ground.phase }, { on := 5, ground := Ground.phase }, { on := 6, ground := Ground.phase }, { on := 7, ground := Ground.phase }, { on := 8, ground := Ground.phase }, { on := 9, ground := Ground.phase }, { on := 10, ground := Ground.phase }, { on := 11, ground := Ground.phase }, { on := 12, ground := Ground.phase }, { on := 13, ground := Ground.phase }, { on := 14, ground := Ground.phase }, { on := 15, ground := Ground.phase }, { on := 16, ground := Ground.phase }, { on := 17, ground := Ground.phase }, { on := 18, ground := Ground.phase }, { on := 19, ground := Ground.phase }, { on := 20, ground := Ground.phase }, { on := 21, ground := Ground.phase }], guard := none }) (v := .pointer (some ⟨b, 1, none⟩)) rfl (by kernel_rfl) (by kernel_rfl) (by kernel_rfl) (fun _ _ _ h => h) (Or.inl ⟨by rfl, ?_⟩) (by with_reducible assumption) ?_
    · intro wx hSw
      (try dsimp only at hSw)
      first | (go_simp; done) | (go_simp; with_reducible rfl)
    try simp only [Act.put, List.setIfInBounds_toArray, List.set_cons_zero, List.set_cons_succ]
    refine wpAnyH_ready (rs := [24]) (by kernel_rfl) (by simp) ?_
    refine AllReadyH.cons rfl (fun K hK => ?_) AllReadyH.nil
    go_simp
    refine hK.out _ _ (HS4.out) (fun hHeld5 => ?_)
    clear hK K
    try simp only [Act.put, List.setIfInBounds_toArray, List.set_cons_zero, List.set_cons_succ]
    refine wpAnyH_done (by kernel_rfl) ?_ _
    go_wp2_with fail
    go_end0
    first | exact ⟨rfl, _, _, HFIN.out⟩ | exact ⟨rfl, ⟨_, _, HFIN.out.1⟩, HFIN.out.2⟩
  · skip
    go_simp
    refine hK.out _ _ (HS0.out) (fun hHeld6 => ?_)
    clear hK K
    try simp only [Act.put, List.setIfInBounds_toArray, List.set_cons_zero, List.set_cons_succ]
    refine wpAnyH_take (i := 9) (oi := { dst := some 25, op := Op.call { callee := Callee.builtin Builtin.len, args := #[Operand.tmp 24], argTypes := #[23] }, type := 3, pos := "ledger.go:250", after := #[{ on := 8, ground := Ground.data }], guard := none }) (v := .int .i64 (n1 : Int)) rfl (by kernel_rfl) (by kernel_rfl) (by kernel_rfl) (fun _ _ _ h => h) (Or.inl ⟨by rfl, ?_⟩) (by with_reducible assumption) ?_
    · intro wx hSw
      (try dsimp only at hSw)
      first | (go_simp; done) | (go_simp; with_reducible rfl)
    try simp only [Act.put, List.setIfInBounds_toArray, List.set_cons_zero, List.set_cons_succ]
    refine wpAnyH_take (i := 10) (oi := { dst := some 26, op := Op.binOp BinOp.add 3 (Operand.tmp 25) (Operand.const (Value.int IntKind.i64 1)) 3, type := 3, pos := "ledger.go:250", after := #[{ on := 9, ground := Ground.data }], guard := none }) (v := .int .i64 ((n1 : Int) + 1)) rfl (by kernel_rfl) (by kernel_rfl) (by kernel_rfl) (fun _ _ _ h => h) (Or.inl ⟨by rfl, ?_⟩) (by with_reducible assumption) ?_
    · intro wx hSw
      (try dsimp only at hSw)
      first | (go_simp; done) | (go_simp; with_reducible rfl)
    try simp only [Act.put, List.setIfInBounds_toArray, List.set_cons_zero, List.set_cons_succ]
    refine wpAnyH_take (i := 19) (oi := { dst := some 35, op := Op.build 44 #[(0, Operand.tmp 26), (1, Operand.tmp 28), (2, Operand.tmp 30), (3, Operand.tmp 32), (4, Operand.const (Value.int IntKind.i64 0)), (5, Operand.tmp 34)], type := 44, pos := "ledger.go:250", after := #[{ on := 10, ground := Ground.data }, { on := 12, ground := Ground.data }, { on := 14, ground := Ground.data }, { on := 16, ground := Ground.data }, { on := 18, ground := Ground.data }], guard := none }) (v := .agg #[.int .i64 ((n1 : Int) + 1), .string os, .string ol, .int .i64 oq, .int .i64 0, .int .i64 od]) rfl (by kernel_rfl) (by kernel_rfl) (by kernel_rfl) (fun _ _ _ h => h) (Or.inl ⟨by rfl, ?_⟩) (by with_reducible assumption) ?_
    · intro wx hSw
      (try dsimp only at hSw)
      first | (go_simp; done) | (go_simp; with_reducible rfl)
    try simp only [Act.put, List.setIfInBounds_toArray, List.set_cons_zero, List.set_cons_succ]
    refine wpAnyH_ready (rs := [4, 20]) (by kernel_rfl) (by simp) ?_
    refine AllReadyH.cons rfl (fun K hK => ?_) (AllReadyH.cons rfl (fun K hK => ?_) AllReadyH.nil)
    · skip
      go_simp
      refine hK.out _ _ (HS0.out) (fun hHeld7 => ?_)
      clear hK K
      try simp only [Act.put, List.setIfInBounds_toArray, List.set_cons_zero, List.set_cons_succ]
      refine wpAnyH_ready (rs := [20]) (by kernel_rfl) (by simp) ?_
      refine AllReadyH.cons rfl (fun K hK => ?_) AllReadyH.nil
      go_simp
      refine hK.out _ _ (HSA.out _) (fun hHeld8 => ?_)
      clear hK K
      try simp only [Act.put, List.setIfInBounds_toArray, List.set_cons_zero, List.set_cons_succ]
      refine wpAnyH_ready (rs := [21]) (by kernel_rfl) (by simp) ?_
      refine AllReadyH.cons rfl (fun K hK => ?_) AllReadyH.nil
      refine dr_append rfl rfl RA.out ?_
      refine hK.out _ _ (HS3.out) (fun hHeld9 => ?_)
      clear hK K
      try simp only [Act.put, List.setIfInBounds_toArray, List.set_cons_zero, List.set_cons_succ]
      refine wpAnyH_take (i := 22) (oi := { dst := some 38, op := Op.nilCheck (Operand.tmp 16), type := 0, pos := "ledger.go:250", after := #[{ on := 0, ground := Ground.data }, { on := 0, ground := Ground.phase }, { on := 1, ground := Ground.phase }, { on := 2, ground := Ground.phase }, { on := 3, ground := Ground.phase }, { on := 4, ground := Ground.phase }, { on := 5, ground := Ground.phase }, { on := 6, ground := Ground.phase }, { on := 7, ground := Ground.phase }, { on := 8, ground := Ground.phase }, { on := 9, ground := Ground.phase }, { on := 10, ground := Ground.phase }, { on := 11, ground := Ground.phase }, { on := 12, ground := Ground.phase }, { on := 13, ground := Ground.phase }, { on := 14, ground := Ground.phase }, { on := 15, ground := Ground.phase }, { on := 16, ground := Ground.phase }, { on := 17, ground := Ground.phase }, { on := 18, ground := Ground.phase }, { on := 19, ground := Ground.phase }, { on := 20, ground := Ground.phase }, { on := 21, ground := Ground.phase }], guard := none }) (v := .pointer (some ⟨b, 0, none⟩)) rfl (by kernel_rfl) (by kernel_rfl) (by kernel_rfl) (fun _ _ _ h => h) (Or.inl ⟨by rfl, ?_⟩) (by with_reducible assumption) ?_
      · intro wx hSw
        (try dsimp only at hSw)
        first | (go_simp; done) | (go_simp; with_reducible rfl)
      try simp only [Act.put, List.setIfInBounds_toArray, List.set_cons_zero, List.set_cons_succ]
      refine wpAnyH_take (i := 23) (oi := { dst := some 39, op := Op.fieldAddr 26 (Operand.tmp 38) 1, type := 0, pos := "ledger.go:250", after := #[{ on := 22, ground := Ground.data }, { on := 0, ground := Ground.phase }, { on := 1, ground := Ground.phase }, { on := 2, ground := Ground.phase }, { on := 3, ground := Ground.phase }, { on := 4, ground := Ground.phase }, { on := 5, ground := Ground.phase }, { on := 6, ground := Ground.phase }, { on := 7, ground := Ground.phase }, { on := 8, ground := Ground.phase }, { on := 9, ground := Ground.phase }, { on := 10, ground := Ground.phase }, { on := 11, ground := Ground.phase }, { on := 12, ground := Ground.phase }, { on := 13, ground := Ground.phase }, { on := 14, ground := Ground.phase }, { on := 15, ground := Ground.phase }, { on := 16, ground := Ground.phase }, { on := 17, ground := Ground.phase }, { on := 18, ground := Ground.phase }, { on := 19, ground := Ground.phase }, { on := 20, ground := Ground.phase }, { on := 21, ground := Ground.phase }], guard := none }) (v := .pointer (some ⟨b, 1, none⟩)) rfl (by kernel_rfl) (by kernel_rfl) (by kernel_rfl) (fun _ _ _ h => h) (Or.inl ⟨by rfl, ?_⟩) (by with_reducible assumption) ?_
      · intro wx hSw
        (try dsimp only at hSw)
        first | (go_simp; done) | (go_simp; with_reducible rfl)
      try simp only [Act.put, List.setIfInBounds_toArray, List.set_cons_zero, List.set_cons_succ]
      refine wpAnyH_ready (rs := [24]) (by kernel_rfl) (by simp) ?_
      refine AllReadyH.cons rfl (fun K hK => ?_) AllReadyH.nil
      go_simp
      refine hK.out _ _ (HS4.out) (fun hHeld10 => ?_)
      clear hK K
      try simp only [Act.put, List.setIfInBounds_toArray, List.set_cons_zero, List.set_cons_succ]
      refine wpAnyH_done (by kernel_rfl) ?_ _
      go_wp2_with fail
      go_end0
      first | exact ⟨rfl, _, _, HFIN.out⟩ | exact ⟨rfl, ⟨_, _, HFIN.out.1⟩, HFIN.out.2⟩
    · skip
      go_simp
      refine hK.out _ _ (HSA.out _) (fun hHeld11 => ?_)
      clear hK K
      try simp only [Act.put, List.setIfInBounds_toArray, List.set_cons_zero, List.set_cons_succ]
      refine wpAnyH_ready (rs := [4]) (by kernel_rfl) (by simp) ?_
      refine AllReadyH.cons rfl (fun K hK => ?_) AllReadyH.nil
      go_simp
      refine hK.out _ _ (HSA.out _) (fun hHeld12 => ?_)
      clear hK K
      try simp only [Act.put, List.setIfInBounds_toArray, List.set_cons_zero, List.set_cons_succ]
      refine wpAnyH_ready (rs := [21]) (by kernel_rfl) (by simp) ?_
      refine AllReadyH.cons rfl (fun K hK => ?_) AllReadyH.nil
      refine dr_append rfl rfl RA.out ?_
      refine hK.out _ _ (HS3.out) (fun hHeld13 => ?_)
      clear hK K
      try simp only [Act.put, List.setIfInBounds_toArray, List.set_cons_zero, List.set_cons_succ]
      refine wpAnyH_take (i := 22) (oi := { dst := some 38, op := Op.nilCheck (Operand.tmp 16), type := 0, pos := "ledger.go:250", after := #[{ on := 0, ground := Ground.data }, { on := 0, ground := Ground.phase }, { on := 1, ground := Ground.phase }, { on := 2, ground := Ground.phase }, { on := 3, ground := Ground.phase }, { on := 4, ground := Ground.phase }, { on := 5, ground := Ground.phase }, { on := 6, ground := Ground.phase }, { on := 7, ground := Ground.phase }, { on := 8, ground := Ground.phase }, { on := 9, ground := Ground.phase }, { on := 10, ground := Ground.phase }, { on := 11, ground := Ground.phase }, { on := 12, ground := Ground.phase }, { on := 13, ground := Ground.phase }, { on := 14, ground := Ground.phase }, { on := 15, ground := Ground.phase }, { on := 16, ground := Ground.phase }, { on := 17, ground := Ground.phase }, { on := 18, ground := Ground.phase }, { on := 19, ground := Ground.phase }, { on := 20, ground := Ground.phase }, { on := 21, ground := Ground.phase }], guard := none }) (v := .pointer (some ⟨b, 0, none⟩)) rfl (by kernel_rfl) (by kernel_rfl) (by kernel_rfl) (fun _ _ _ h => h) (Or.inl ⟨by rfl, ?_⟩) (by with_reducible assumption) ?_
      · intro wx hSw
        (try dsimp only at hSw)
        first | (go_simp; done) | (go_simp; with_reducible rfl)
      try simp only [Act.put, List.setIfInBounds_toArray, List.set_cons_zero, List.set_cons_succ]
      refine wpAnyH_take (i := 23) (oi := { dst := some 39, op := Op.fieldAddr 26 (Operand.tmp 38) 1, type := 0, pos := "ledger.go:250", after := #[{ on := 22, ground := Ground.data }, { on := 0, ground := Ground.phase }, { on := 1, ground := Ground.phase }, { on := 2, ground := Ground.phase }, { on := 3, ground := Ground.phase }, { on := 4, ground := Ground.phase }, { on := 5, ground := Ground.phase }, { on := 6, ground := Ground.phase }, { on := 7, ground := Ground.phase }, { on := 8, ground := Ground.phase }, { on := 9, ground := Ground.phase }, { on := 10, ground := Ground.phase }, { on := 11, ground := Ground.phase }, { on := 12, ground := Ground.phase }, { on := 13, ground := Ground.phase }, { on := 14, ground := Ground.phase }, { on := 15, ground := Ground.phase }, { on := 16, ground := Ground.phase }, { on := 17, ground := Ground.phase }, { on := 18, ground := Ground.phase }, { on := 19, ground := Ground.phase }, { on := 20, ground := Ground.phase }, { on := 21, ground := Ground.phase }], guard := none }) (v := .pointer (some ⟨b, 1, none⟩)) rfl (by kernel_rfl) (by kernel_rfl) (by kernel_rfl) (fun _ _ _ h => h) (Or.inl ⟨by rfl, ?_⟩) (by with_reducible assumption) ?_
      · intro wx hSw
        (try dsimp only at hSw)
        first | (go_simp; done) | (go_simp; with_reducible rfl)
      try simp only [Act.put, List.setIfInBounds_toArray, List.set_cons_zero, List.set_cons_succ]
      refine wpAnyH_ready (rs := [24]) (by kernel_rfl) (by simp) ?_
      refine AllReadyH.cons rfl (fun K hK => ?_) AllReadyH.nil
      go_simp
      refine hK.out _ _ (HS4.out) (fun hHeld14 => ?_)
      clear hK K
      try simp only [Act.put, List.setIfInBounds_toArray, List.set_cons_zero, List.set_cons_succ]
      refine wpAnyH_done (by kernel_rfl) ?_ _
      go_wp2_with fail
      go_end0
      first | exact ⟨rfl, _, _, HFIN.out⟩ | exact ⟨rfl, ⟨_, _, HFIN.out.1⟩, HFIN.out.2⟩
end Go.Proofs.Ytflbcheofmljeaa
