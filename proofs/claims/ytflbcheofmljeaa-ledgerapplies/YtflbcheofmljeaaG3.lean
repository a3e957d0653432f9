/- The document's ledger: does, of holds that are over and of those that are due. The document's ledger: does, of what comes and is set right. The document's ledger: does, of transfers: what is refused. The document's ledger: does, of a transfer that is done. The document's ledger: does, of a hold that is made. The document's ledger: does. -/
import Derived.Test.YtflbcheofmljeaaG2
namespace Go.Proofs.Ytflbcheofmljeaa
open Go.ChangeShapes Go.WideShapes Go.RowKit
set_option linter.unusedVariables false
set_option maxRecDepth 100000

theorem Lies.four {w' : World} {b0 b1 b2 : Option Addr} {L : Led} (h : Lies w' b0 b1 b2 L) {N : Nat} (hn : NotAt N b0 b1 b2 L) (u0 u1 u2 u3 : Value) : Lies ((((w'.setCell ⟨N, 0, none⟩ u0).setCell ⟨N, 1, none⟩ u1).setCell ⟨N, 2, none⟩ u2).setCell ⟨N, 3, none⟩ u3) b0 b1 b2 L :=
  ⟨h.S.far (fun b' o' e hne => four_far _ _ _ _ _ _ (hn.S hne b' o' e)), h.H.far (fun b' o' e hne => four_far _ _ _ _ _ _ (hn.H hne b' o' e)), h.M.far (fun b' o' e hne => four_far _ _ _ _ _ _ (hn.M hne b' o' e))⟩
theorem notAt_of {w : World} {a0 a1 a2 : Option Addr} {L : Led} (h : Lies w a0 a1 a2 L) {N : Nat} (hN : w.heap.size ≤ N) : NotAt N a0 a1 a2 L :=
  ⟨fun hne b' o' e => by have := h.S.lt stv_ne e hne; omega, fun hne b' o' e => by have := h.H.lt hlv_ne e hne; omega, fun hne b' o' e => by have := h.M.lt mvv_ne e hne; omega⟩
theorem SrcL.mono {w w' : World} {a0 a1 a2 : Option Addr} {La : Led} {b0 b1 b2 : Option Addr} {L : Led} (h : SrcL w' a0 a1 a2 La b0 b1 b2 L) (hs : w.heap.size ≤ w'.heap.size) : SrcL w a0 a1 a2 La b0 b1 b2 L :=
  ⟨fun hne b' o' e => (h.S hne b' o' e).imp (fun q => Nat.le_trans hs q) id, fun hne b' o' e => (h.H hne b' o' e).imp (fun q => Nat.le_trans hs q) id, fun hne b' o' e => (h.M hne b' o' e).imp (fun q => Nat.le_trans hs q) id⟩
set_option maxHeartbeats 4000000 in
theorem rdoes_5 (a0 : Option Addr) (n0 c0 : Nat) (a1 : Option Addr) (n1 c1 : Nat) (a2 : Option Addr) (n2 c2 : Nat) (ops : Int) (L : Led) (osk ol ot : ByteArray) (oq id od : Int) (w : World) (L1 : Led) (hc : ∀ w', Below w.heap.size w w' → Calls Try.prog 55 #[.agg #[.slice a0 n0 c0, .slice a1 n1 c1, .slice a2 n2 c2, .int .i64 ops], .int .i64 od] w' fun e w'' => LdP a0 a1 a2 L w' w'' L1 e) (hr : Lies w a0 a1 a2 L) :
    Calls Try.prog 28 #[.agg #[.slice a0 n0 c0, .slice a1 n1 c1, .slice a2 n2 c2, .int .i64 ops], .agg #[.int .i64 5, .string osk, .string ol, .string ot, .int .i64 oq, .int .i64 id, .int .i64 od]] w fun e w' => LeP a0 a1 a2 L w w' L1 0 e := by
  have HX : Hid (∀ w', Below w.heap.size w w' → Calls Try.prog 55 #[.agg #[.slice a0 n0 c0, .slice a1 n1 c1, .slice a2 n2 c2, .int .i64 ops], .int .i64 od] w' fun e w'' => LdP a0 a1 a2 L w' w'' L1 e) := hc
  obtain ⟨W, hW⟩ : ∃ W, ((w.alloc (.cells #[.slice a0 n0 c0, .slice a1 n1 c1, .slice a2 n2 c2, .int .i64 ops] 26)).alloc (.cells #[.int .i64 5, .string osk, .string ol, .string ot, .int .i64 oq, .int .i64 id, .int .i64 od] 28)).alloc (.cells #[.slice none 0 0, .slice none 0 0, .slice none 0 0, .int .i64 0] 26) = W := ⟨_, rfl⟩
  have HC : Hid (CellsF W w.heap.size [.slice a0 n0 c0, .slice a1 n1 c1, .slice a2 n2 c2, .int .i64 ops] ∧ CellsF W (w.heap.size + 1) [.int .i64 5, .string osk, .string ol, .string ot, .int .i64 oq, .int .i64 id, .int .i64 od] ∧ CellsF W (w.heap.size + 1 + 1) [.slice none 0 0, .slice none 0 0, .slice none 0 0, .int .i64 0] ∧ Below w.heap.size w W) := by
    show _ ∧ _
    rw [← hW]
    exact ⟨((CellsF.at _ 26 (by simp) rfl).next (below1 _ _)).next (below1 _ _), (CellsF.at _ 28 (by simp) (by rw [size_alloc])).next (below1 _ _), CellsF.at _ 26 (by simp) (by rw [size_alloc, size_alloc]), below3 _ _ _ _⟩
  obtain ⟨W3, hW3⟩ : ∃ W3, W.alloc (.cells #[.string osk, .string ol, .int .i64 0, .int .i64 0] 50) = W3 := ⟨_, rfl⟩
  have HC3 : Hid (CellsF W3 w.heap.size [.slice a0 n0 c0, .slice a1 n1 c1, .slice a2 n2 c2, .int .i64 ops] ∧ CellsF W3 (w.heap.size + 1) [.int .i64 5, .string osk, .string ol, .string ot, .int .i64 oq, .int .i64 id, .int .i64 od] ∧ CellsF W3 (w.heap.size + 1 + 1) [.slice none 0 0, .slice none 0 0, .slice none 0 0, .int .i64 0] ∧ Below w.heap.size w W3 ∧ CellsF W3 W.heap.size [.string osk, .string ol, .int .i64 0, .int .i64 0]) := by
    show _ ∧ _
    rw [← hW3]
    exact ⟨HC.out.1.next (below1 _ _), HC.out.2.1.next (below1 _ _), HC.out.2.2.1.next (below1 _ _), Below.next HC.out.2.2.2 (below1 _ _), CellsF.at _ 50 (by simp) rfl⟩
  have HW3 : Hid (W.alloc (.cells #[.string osk, .string ol, .int .i64 0, .int .i64 0] 50) = W3) := hW3
  have HNA : Hid (NotAt (w.heap.size + 1 + 1) a0 a1 a2 L) := notAt_of hr (by omega)
  have HR : Hid (Lies w a0 a1 a2 L) := hr
  clear hW3
  have o0 := (HC.out.2.1).cs 0 _ rfl
  have o1 := (HC.out.2.1).cs 1 _ rfl
  have o2 := (HC.out.2.1).cs 2 _ rfl
  have o3 := (HC.out.2.1).cs 3 _ rfl
  have o4 := (HC.out.2.1).cs 4 _ rfl
  have o5 := (HC.out.2.1).cs 5 _ rfl
  have o6 := (HC.out.2.1).cs 6 _ rfl
  have p0 := fun z => (HC.out.1.next (below1 W z)).cs 0 _ rfl
  have p1 := fun z => (HC.out.1.next (below1 W z)).cs 1 _ rfl
  have p2 := fun z => (HC.out.1.next (below1 W z)).cs 2 _ rfl
  have p3 := fun z => (HC.out.1.next (below1 W z)).cs 3 _ rfl
  have v0 := fun z => (HC.out.2.1.next (below1 W z)).cs 0 _ rfl
  have v1 := fun z => (HC.out.2.1.next (below1 W z)).cs 1 _ rfl
  have v2 := fun z => (HC.out.2.1.next (below1 W z)).cs 2 _ rfl
  have v3 := fun z => (HC.out.2.1.next (below1 W z)).cs 3 _ rfl
  have v4 := fun z => (HC.out.2.1.next (below1 W z)).cs 4 _ rfl
  have v5 := fun z => (HC.out.2.1.next (below1 W z)).cs 5 _ rfl
  have v6 := fun z => (HC.out.2.1.next (below1 W z)).cs 6 _ rfl
  clear hr hc
  go_enter Try.func28, Try.ntmps28
  go_wp2_with fail
  rw [HW3.out]
  refine Calls.mono (HX.out _ HC3.out.2.2.2.1) ?_; rintro e w4 ⟨b0, m0, d0, b1, m1, d1, b2, m2, d2, rfl, hl0, hl1, hl2, hli, hcp, k4, hsr⟩
  have hz4 := HC3.out.2.2.1.next k4
  have HCZ : Hid (CellsF w4 (w.heap.size + 1 + 1) [.slice none 0 0, .slice none 0 0, .slice none 0 0, .int .i64 0]) := hz4
  have HFIN : Hid (∀ u0 u1 u2 u3, Lies ((((w4.setCell ⟨(w.heap.size + 1 + 1), 0, none⟩ u0).setCell ⟨(w.heap.size + 1 + 1), 1, none⟩ u1).setCell ⟨(w.heap.size + 1 + 1), 2, none⟩ u2).setCell ⟨(w.heap.size + 1 + 1), 3, none⟩ u3) b0 b1 b2 L1 ∧ Below w.heap.size w ((((w4.setCell ⟨(w.heap.size + 1 + 1), 0, none⟩ u0).setCell ⟨(w.heap.size + 1 + 1), 1, none⟩ u1).setCell ⟨(w.heap.size + 1 + 1), 2, none⟩ u2).setCell ⟨(w.heap.size + 1 + 1), 3, none⟩ u3)) := fun u0 u1 u2 u3 => ⟨hli.four (hsr.not HC3.out.2.2.1.lt HNA.out) _ _ _ _, below_four (Below.next HC3.out.2.2.2.1 k4) _ (by omega) _ _ _ _⟩
  have HLN : Hid (L1.S.length = m0 ∧ L1.H.length = m1 ∧ L1.M.length = m2 ∧ m1 ≤ d1 ∧ SrcL w a0 a1 a2 L b0 b1 b2 L1) := ⟨hl0, hl1, hl2, hcp, hsr.mono HC3.out.2.2.2.1.size⟩
  have z0 := (hz4).cs 0 _ rfl
  have z1 := (hz4).cs 1 _ rfl
  have z2 := (hz4).cs 2 _ rfl
  have z3 := (hz4).cs 3 _ rfl
  have g0 := (hz4).fz 0
  have g1 := (hz4).fz 1
  have g2 := (hz4).fz 2
  have g3 := (hz4).fz 3
  clear hl0 hl1 hl2 hli hcp k4 hsr hz4
  go_wp2_with fail
  try simp only [Exit.inBlock, Exit.then]
  refine bodyPost_ret (end_cell_tmp rfl rfl (loadLed _ (HCZ.out.four rfl _ _ _ _) rfl)) rfl ?_
  exact ⟨_, _, _, _, _, _, _, _, _, rfl, HLN.out.1, HLN.out.2.1, HLN.out.2.2.1, (HFIN.out _ _ _ _).1, HLN.out.2.2.2.1, (HFIN.out _ _ _ _).2, HLN.out.2.2.2.2⟩
set_option maxHeartbeats 4000000 in
theorem rdoes_3 (a0 : Option Addr) (n0 c0 : Nat) (a1 : Option Addr) (n1 c1 : Nat) (a2 : Option Addr) (n2 c2 : Nat) (ops : Int) (L : Led) (osk ol ot : ByteArray) (oq id od : Int) (w : World) (L1 : Led) (err : Int) (hc : ∀ w', Below w.heap.size w w' → Calls Try.prog 54 #[.agg #[.slice a0 n0 c0, .slice a1 n1 c1, .slice a2 n2 c2, .int .i64 ops], .agg #[.int .i64 3, .string osk, .string ol, .string ot, .int .i64 oq, .int .i64 id, .int .i64 od]] w' fun e w'' => LeP a0 a1 a2 L w' w'' L1 err e) (hr : Lies w a0 a1 a2 L) :
    Calls Try.prog 28 #[.agg #[.slice a0 n0 c0, .slice a1 n1 c1, .slice a2 n2 c2, .int .i64 ops], .agg #[.int .i64 3, .string osk, .string ol, .string ot, .int .i64 oq, .int .i64 id, .int .i64 od]] w fun e w' => LeP a0 a1 a2 L w w' L1 err e := by
  have HX : Hid (∀ w', Below w.heap.size w w' → Calls Try.prog 54 #[.agg #[.slice a0 n0 c0, .slice a1 n1 c1, .slice a2 n2 c2, .int .i64 ops], .agg #[.int .i64 3, .string osk, .string ol, .string ot, .int .i64 oq, .int .i64 id, .int .i64 od]] w' fun e w'' => LeP a0 a1 a2 L w' w'' L1 err e) := hc
  obtain ⟨W, hW⟩ : ∃ W, ((w.alloc (.cells #[.slice a0 n0 c0, .slice a1 n1 c1, .slice a2 n2 c2, .int .i64 ops] 26)).alloc (.cells #[.int .i64 3, .string osk, .string ol, .string ot, .int .i64 oq, .int .i64 id, .int .i64 od] 28)).alloc (.cells #[.slice none 0 0, .slice none 0 0, .slice none 0 0, .int .i64 0] 26) = W := ⟨_, rfl⟩
  have HC : Hid (CellsF W w.heap.size [.slice a0 n0 c0, .slice a1 n1 c1, .slice a2 n2 c2, .int .i64 ops] ∧ CellsF W (w.heap.size + 1) [.int .i64 3, .string osk, .string ol, .string ot, .int .i64 oq, .int .i64 id, .int .i64 od] ∧ CellsF W (w.heap.size + 1 + 1) [.slice none 0 0, .slice none 0 0, .slice none 0 0, .int .i64 0] ∧ Below w.heap.size w W) := by
    show _ ∧ _
    rw [← hW]
    exact ⟨((CellsF.at _ 26 (by simp) rfl).next (below1 _ _)).next (below1 _ _), (CellsF.at _ 28 (by simp) (by rw [size_alloc])).next (below1 _ _), CellsF.at _ 26 (by simp) (by rw [size_alloc, size_alloc]), below3 _ _ _ _⟩
  obtain ⟨W3, hW3⟩ : ∃ W3, W.alloc (.cells #[.string osk, .string ol, .int .i64 0, .int .i64 0] 50) = W3 := ⟨_, rfl⟩
  have HC3 : Hid (CellsF W3 w.heap.size [.slice a0 n0 c0, .slice a1 n1 c1, .slice a2 n2 c2, .int .i64 ops] ∧ CellsF W3 (w.heap.size + 1) [.int .i64 3, .string osk, .string ol, .string ot, .int .i64 oq, .int .i64 id, .int .i64 od] ∧ CellsF W3 (w.heap.size + 1 + 1) [.slice none 0 0, .slice none 0 0, .slice none 0 0, .int .i64 0] ∧ Below w.heap.size w W3 ∧ CellsF W3 W.heap.size [.string osk, .string ol, .int .i64 0, .int .i64 0]) := by
    show _ ∧ _
    rw [← hW3]
    exact ⟨HC.out.1.next (below1 _ _), HC.out.2.1.next (below1 _ _), HC.out.2.2.1.next (below1 _ _), Below.next HC.out.2.2.2 (below1 _ _), CellsF.at _ 50 (by simp) rfl⟩
  have HW3 : Hid (W.alloc (.cells #[.string osk, .string ol, .int .i64 0, .int .i64 0] 50) = W3) := hW3
  have HNA : Hid (NotAt (w.heap.size + 1 + 1) a0 a1 a2 L) := notAt_of hr (by omega)
  have HR : Hid (Lies w a0 a1 a2 L) := hr
  clear hW3
  have o0 := (HC.out.2.1).cs 0 _ rfl
  have o1 := (HC.out.2.1).cs 1 _ rfl
  have o2 := (HC.out.2.1).cs 2 _ rfl
  have o3 := (HC.out.2.1).cs 3 _ rfl
  have o4 := (HC.out.2.1).cs 4 _ rfl
  have o5 := (HC.out.2.1).cs 5 _ rfl
  have o6 := (HC.out.2.1).cs 6 _ rfl
  have p0 := fun z => (HC.out.1.next (below1 W z)).cs 0 _ rfl
  have p1 := fun z => (HC.out.1.next (below1 W z)).cs 1 _ rfl
  have p2 := fun z => (HC.out.1.next (below1 W z)).cs 2 _ rfl
  have p3 := fun z => (HC.out.1.next (below1 W z)).cs 3 _ rfl
  have v0 := fun z => (HC.out.2.1.next (below1 W z)).cs 0 _ rfl
  have v1 := fun z => (HC.out.2.1.next (below1 W z)).cs 1 _ rfl
  have v2 := fun z => (HC.out.2.1.next (below1 W z)).cs 2 _ rfl
  have v3 := fun z => (HC.out.2.1.next (below1 W z)).cs 3 _ rfl
  have v4 := fun z => (HC.out.2.1.next (below1 W z)).cs 4 _ rfl
  have v5 := fun z => (HC.out.2.1.next (below1 W z)).cs 5 _ rfl
  have v6 := fun z => (HC.out.2.1.next (below1 W z)).cs 6 _ rfl
  clear hr hc
  go_enter Try.func28, Try.ntmps28
  go_wp2_with fail
  rw [HW3.out]
  refine Calls.mono (HX.out _ HC3.out.2.2.2.1) ?_; rintro e w4 ⟨b0, m0, d0, b1, m1, d1, b2, m2, d2, rfl, hl0, hl1, hl2, hli, hcp, k4, hsr⟩
  have hz4 := HC3.out.2.2.1.next k4
  have HCZ : Hid (CellsF w4 (w.heap.size + 1 + 1) [.slice none 0 0, .slice none 0 0, .slice none 0 0, .int .i64 0]) := hz4
  have HFIN : Hid (∀ u0 u1 u2 u3, Lies ((((w4.setCell ⟨(w.heap.size + 1 + 1), 0, none⟩ u0).setCell ⟨(w.heap.size + 1 + 1), 1, none⟩ u1).setCell ⟨(w.heap.size + 1 + 1), 2, none⟩ u2).setCell ⟨(w.heap.size + 1 + 1), 3, none⟩ u3) b0 b1 b2 L1 ∧ Below w.heap.size w ((((w4.setCell ⟨(w.heap.size + 1 + 1), 0, none⟩ u0).setCell ⟨(w.heap.size + 1 + 1), 1, none⟩ u1).setCell ⟨(w.heap.size + 1 + 1), 2, none⟩ u2).setCell ⟨(w.heap.size + 1 + 1), 3, none⟩ u3)) := fun u0 u1 u2 u3 => ⟨hli.four (hsr.not HC3.out.2.2.1.lt HNA.out) _ _ _ _, below_four (Below.next HC3.out.2.2.2.1 k4) _ (by omega) _ _ _ _⟩
  have HLN : Hid (L1.S.length = m0 ∧ L1.H.length = m1 ∧ L1.M.length = m2 ∧ m1 ≤ d1 ∧ SrcL w a0 a1 a2 L b0 b1 b2 L1) := ⟨hl0, hl1, hl2, hcp, hsr.mono HC3.out.2.2.2.1.size⟩
  have z0 := (hz4).cs 0 _ rfl
  have z1 := (hz4).cs 1 _ rfl
  have z2 := (hz4).cs 2 _ rfl
  have z3 := (hz4).cs 3 _ rfl
  have g0 := (hz4).fz 0
  have g1 := (hz4).fz 1
  have g2 := (hz4).fz 2
  have g3 := (hz4).fz 3
  clear hl0 hl1 hl2 hli hcp k4 hsr hz4
  go_wp2_with fail
  try simp only [Exit.inBlock, Exit.then]
  refine bodyPost_ret (end_cell_tmp rfl rfl (loadLed _ (HCZ.out.four rfl _ _ _ _) rfl)) rfl ?_
  exact ⟨_, _, _, _, _, _, _, _, _, rfl, HLN.out.1, HLN.out.2.1, HLN.out.2.2.1, (HFIN.out _ _ _ _).1, HLN.out.2.2.2.1, (HFIN.out _ _ _ _).2, HLN.out.2.2.2.2⟩
set_option maxHeartbeats 4000000 in
theorem rdoes_4 (a0 : Option Addr) (n0 c0 : Nat) (a1 : Option Addr) (n1 c1 : Nat) (a2 : Option Addr) (n2 c2 : Nat) (ops : Int) (L : Led) (osk ol ot : ByteArray) (oq id od : Int) (w : World) (L1 : Led) (err : Int) (hc : ∀ w', Below w.heap.size w w' → Calls Try.prog 54 #[.agg #[.slice a0 n0 c0, .slice a1 n1 c1, .slice a2 n2 c2, .int .i64 ops], .agg #[.int .i64 4, .string osk, .string ol, .string ot, .int .i64 oq, .int .i64 id, .int .i64 od]] w' fun e w'' => LeP a0 a1 a2 L w' w'' L1 err e) (hr : Lies w a0 a1 a2 L) :
    Calls Try.prog 28 #[.agg #[.slice a0 n0 c0, .slice a1 n1 c1, .slice a2 n2 c2, .int .i64 ops], .agg #[.int .i64 4, .string osk, .string ol, .string ot, .int .i64 oq, .int .i64 id, .int .i64 od]] w fun e w' => LeP a0 a1 a2 L w w' L1 err e := by
  have HX : Hid (∀ w', Below w.heap.size w w' → Calls Try.prog 54 #[.agg #[.slice a0 n0 c0, .slice a1 n1 c1, .slice a2 n2 c2, .int .i64 ops], .agg #[.int .i64 4, .string osk, .string ol, .string ot, .int .i64 oq, .int .i64 id, .int .i64 od]] w' fun e w'' => LeP a0 a1 a2 L w' w'' L1 err e) := hc
  obtain ⟨W, hW⟩ : ∃ W, ((w.alloc (.cells #[.slice a0 n0 c0, .slice a1 n1 c1, .slice a2 n2 c2, .int .i64 ops] 26)).alloc (.cells #[.int .i64 4, .string osk, .string ol, .string ot, .int .i64 oq, .int .i64 id, .int .i64 od] 28)).alloc (.cells #[.slice none 0 0, .slice none 0 0, .slice none 0 0, .int .i64 0] 26) = W := ⟨_, rfl⟩
  have HC : Hid (CellsF W w.heap.size [.slice a0 n0 c0, .slice a1 n1 c1, .slice a2 n2 c2, .int .i64 ops] ∧ CellsF W (w.heap.size + 1) [.int .i64 4, .string osk, .string ol, .string ot, .int .i64 oq, .int .i64 id, .int .i64 od] ∧ CellsF W (w.heap.size + 1 + 1) [.slice none 0 0, .slice none 0 0, .slice none 0 0, .int .i64 0] ∧ Below w.heap.size w W) := by
    show _ ∧ _
    rw [← hW]
    exact ⟨((CellsF.at _ 26 (by simp) rfl).next (below1 _ _)).next (below1 _ _), (CellsF.at _ 28 (by simp) (by rw [size_alloc])).next (below1 _ _), CellsF.at _ 26 (by simp) (by rw [size_alloc, size_alloc]), below3 _ _ _ _⟩
  obtain ⟨W3, hW3⟩ : ∃ W3, W.alloc (.cells #[.string osk, .string ol, .int .i64 0, .int .i64 0] 50) = W3 := ⟨_, rfl⟩
  have HC3 : Hid (CellsF W3 w.heap.size [.slice a0 n0 c0, .slice a1 n1 c1, .slice a2 n2 c2, .int .i64 ops] ∧ CellsF W3 (w.heap.size + 1) [.int .i64 4, .string osk, .string ol, .string ot, .int .i64 oq, .int .i64 id, .int .i64 od] ∧ CellsF W3 (w.heap.size + 1 + 1) [.slice none 0 0, .slice none 0 0, .slice none 0 0, .int .i64 0] ∧ Below w.heap.size w W3 ∧ CellsF W3 W.heap.size [.string osk, .string ol, .int .i64 0, .int .i64 0]) := by
    show _ ∧ _
    rw [← hW3]
    exact ⟨HC.out.1.next (below1 _ _), HC.out.2.1.next (below1 _ _), HC.out.2.2.1.next (below1 _ _), Below.next HC.out.2.2.2 (below1 _ _), CellsF.at _ 50 (by simp) rfl⟩
  have HW3 : Hid (W.alloc (.cells #[.string osk, .string ol, .int .i64 0, .int .i64 0] 50) = W3) := hW3
  have HNA : Hid (NotAt (w.heap.size + 1 + 1) a0 a1 a2 L) := notAt_of hr (by omega)
  have HR : Hid (Lies w a0 a1 a2 L) := hr
  clear hW3
  have o0 := (HC.out.2.1).cs 0 _ rfl
  have o1 := (HC.out.2.1).cs 1 _ rfl
  have o2 := (HC.out.2.1).cs 2 _ rfl
  have o3 := (HC.out.2.1).cs 3 _ rfl
  have o4 := (HC.out.2.1).cs 4 _ rfl
  have o5 := (HC.out.2.1).cs 5 _ rfl
  have o6 := (HC.out.2.1).cs 6 _ rfl
  have p0 := fun z => (HC.out.1.next (below1 W z)).cs 0 _ rfl
  have p1 := fun z => (HC.out.1.next (below1 W z)).cs 1 _ rfl
  have p2 := fun z => (HC.out.1.next (below1 W z)).cs 2 _ rfl
  have p3 := fun z => (HC.out.1.next (below1 W z)).cs 3 _ rfl
  have v0 := fun z => (HC.out.2.1.next (below1 W z)).cs 0 _ rfl
  have v1 := fun z => (HC.out.2.1.next (below1 W z)).cs 1 _ rfl
  have v2 := fun z => (HC.out.2.1.next (below1 W z)).cs 2 _ rfl
  have v3 := fun z => (HC.out.2.1.next (below1 W z)).cs 3 _ rfl
  have v4 := fun z => (HC.out.2.1.next (below1 W z)).cs 4 _ rfl
  have v5 := fun z => (HC.out.2.1.next (below1 W z)).cs 5 _ rfl
  have v6 := fun z => (HC.out.2.1.next (below1 W z)).cs 6 _ rfl
  clear hr hc
  go_enter Try.func28, Try.ntmps28
  go_wp2_with fail
  rw [HW3.out]
  refine Calls.mono (HX.out _ HC3.out.2.2.2.1) ?_; rintro e w4 ⟨b0, m0, d0, b1, m1, d1, b2, m2, d2, rfl, hl0, hl1, hl2, hli, hcp, k4, hsr⟩
  have hz4 := HC3.out.2.2.1.next k4
  have HCZ : Hid (CellsF w4 (w.heap.size + 1 + 1) [.slice none 0 0, .slice none 0 0, .slice none 0 0, .int .i64 0]) := hz4
  have HFIN : Hid (∀ u0 u1 u2 u3, Lies ((((w4.setCell ⟨(w.heap.size + 1 + 1), 0, none⟩ u0).setCell ⟨(w.heap.size + 1 + 1), 1, none⟩ u1).setCell ⟨(w.heap.size + 1 + 1), 2, none⟩ u2).setCell ⟨(w.heap.size + 1 + 1), 3, none⟩ u3) b0 b1 b2 L1 ∧ Below w.heap.size w ((((w4.setCell ⟨(w.heap.size + 1 + 1), 0, none⟩ u0).setCell ⟨(w.heap.size + 1 + 1), 1, none⟩ u1).setCell ⟨(w.heap.size + 1 + 1), 2, none⟩ u2).setCell ⟨(w.heap.size + 1 + 1), 3, none⟩ u3)) := fun u0 u1 u2 u3 => ⟨hli.four (hsr.not HC3.out.2.2.1.lt HNA.out) _ _ _ _, below_four (Below.next HC3.out.2.2.2.1 k4) _ (by omega) _ _ _ _⟩
  have HLN : Hid (L1.S.length = m0 ∧ L1.H.length = m1 ∧ L1.M.length = m2 ∧ m1 ≤ d1 ∧ SrcL w a0 a1 a2 L b0 b1 b2 L1) := ⟨hl0, hl1, hl2, hcp, hsr.mono HC3.out.2.2.2.1.size⟩
  have z0 := (hz4).cs 0 _ rfl
  have z1 := (hz4).cs 1 _ rfl
  have z2 := (hz4).cs 2 _ rfl
  have z3 := (hz4).cs 3 _ rfl
  have g0 := (hz4).fz 0
  have g1 := (hz4).fz 1
  have g2 := (hz4).fz 2
  have g3 := (hz4).fz 3
  clear hl0 hl1 hl2 hli hcp k4 hsr hz4
  go_wp2_with fail
  try simp only [Exit.inBlock, Exit.then]
  refine bodyPost_ret (end_cell_tmp rfl rfl (loadLed _ (HCZ.out.four rfl _ _ _ _) rfl)) rfl ?_
  exact ⟨_, _, _, _, _, _, _, _, _, rfl, HLN.out.1, HLN.out.2.1, HLN.out.2.2.1, (HFIN.out _ _ _ _).1, HLN.out.2.2.2.1, (HFIN.out _ _ _ _).2, HLN.out.2.2.2.2⟩
end Go.Proofs.Ytflbcheofmljeaa

namespace Go.Proofs.Ytflbcheofmljeaa
open Go.ChangeShapes Go.WideShapes Go.RowKit
set_option linter.unusedVariables false
set_option maxRecDepth 100000

set_option maxHeartbeats 4000000 in
theorem rdoes_1_no (a0 : Option Addr) (n0 c0 : Nat) (a1 : Option Addr) (n1 c1 : Nat) (a2 : Option Addr) (n2 c2 : Nat) (ops : Int) (L : Led) (osk ol ot : ByteArray) (oq id od : Int) (w : World) (v err : Int) (herr : ¬ err = 0) (hmo : ∀ w', Below w.heap.size w w' → Calls Try.prog 50 #[.agg #[.slice a0 n0 c0, .slice a1 n1 c1, .slice a2 n2 c2, .int .i64 ops], .string osk, .string ol, .int .i64 oq] w' fun e w'' => e = .returned (.tuple #[.int .i64 v, .int .i64 err]) ∧ Below w'.heap.size w' w'') (hr : Lies w a0 a1 a2 L) (hops : L.ops = ops) (h0 : L.S.length = n0) (h1 : L.H.length = n1) (h2 : L.M.length = n2) (hcap : n1 ≤ c1) :
    Calls Try.prog 28 #[.agg #[.slice a0 n0 c0, .slice a1 n1 c1, .slice a2 n2 c2, .int .i64 ops], .agg #[.int .i64 1, .string osk, .string ol, .string ot, .int .i64 oq, .int .i64 id, .int .i64 od]] w fun e w' => LeP a0 a1 a2 L w w' L err e := by
  obtain ⟨W, hW⟩ : ∃ W, ((w.alloc (.cells #[.slice a0 n0 c0, .slice a1 n1 c1, .slice a2 n2 c2, .int .i64 ops] 26)).alloc (.cells #[.int .i64 1, .string osk, .string ol, .string ot, .int .i64 oq, .int .i64 id, .int .i64 od] 28)).alloc (.cells #[.slice none 0 0, .slice none 0 0, .slice none 0 0, .int .i64 0] 26) = W := ⟨_, rfl⟩
  have HC : Hid (CellsF W w.heap.size [.slice a0 n0 c0, .slice a1 n1 c1, .slice a2 n2 c2, .int .i64 ops] ∧ CellsF W (w.heap.size + 1) [.int .i64 1, .string osk, .string ol, .string ot, .int .i64 oq, .int .i64 id, .int .i64 od] ∧ CellsF W (w.heap.size + 1 + 1) [.slice none 0 0, .slice none 0 0, .slice none 0 0, .int .i64 0] ∧ Below w.heap.size w W) := by
    show _ ∧ _
    rw [← hW]
    exact ⟨((CellsF.at _ 26 (by simp) rfl).next (below1 _ _)).next (below1 _ _), (CellsF.at _ 28 (by simp) (by rw [size_alloc])).next (below1 _ _), CellsF.at _ 26 (by simp) (by rw [size_alloc, size_alloc]), below3 _ _ _ _⟩
  obtain ⟨W3, hW3⟩ : ∃ W3, W.alloc (.cells #[.string osk, .string ol, .int .i64 0, .int .i64 0] 50) = W3 := ⟨_, rfl⟩
  have HC3 : Hid (CellsF W3 w.heap.size [.slice a0 n0 c0, .slice a1 n1 c1, .slice a2 n2 c2, .int .i64 ops] ∧ CellsF W3 (w.heap.size + 1) [.int .i64 1, .string osk, .string ol, .string ot, .int .i64 oq, .int .i64 id, .int .i64 od] ∧ CellsF W3 (w.heap.size + 1 + 1) [.slice none 0 0, .slice none 0 0, .slice none 0 0, .int .i64 0] ∧ Below w.heap.size w W3 ∧ CellsF W3 W.heap.size [.string osk, .string ol, .int .i64 0, .int .i64 0]) := by
    show _ ∧ _
    rw [← hW3]
    exact ⟨HC.out.1.next (below1 _ _), HC.out.2.1.next (below1 _ _), HC.out.2.2.1.next (below1 _ _), Below.next HC.out.2.2.2 (below1 _ _), CellsF.at _ 50 (by simp) rfl⟩
  have HW3 : Hid (W.alloc (.cells #[.string osk, .string ol, .int .i64 0, .int .i64 0] 50) = W3) := hW3
  have HNA : Hid (NotAt (w.heap.size + 1 + 1) a0 a1 a2 L) := notAt_of hr (by omega)
  have HR : Hid (Lies w a0 a1 a2 L) := hr
  clear hW3
  have o0 := (HC.out.2.1).cs 0 _ rfl
  have o1 := (HC.out.2.1).cs 1 _ rfl
  have o2 := (HC.out.2.1).cs 2 _ rfl
  have o3 := (HC.out.2.1).cs 3 _ rfl
  have o4 := (HC.out.2.1).cs 4 _ rfl
  have o5 := (HC.out.2.1).cs 5 _ rfl
  have o6 := (HC.out.2.1).cs 6 _ rfl
  have p0 := fun z => (HC.out.1.next (below1 W z)).cs 0 _ rfl
  have p1 := fun z => (HC.out.1.next (below1 W z)).cs 1 _ rfl
  have p2 := fun z => (HC.out.1.next (below1 W z)).cs 2 _ rfl
  have p3 := fun z => (HC.out.1.next (below1 W z)).cs 3 _ rfl
  have v0 := fun z => (HC.out.2.1.next (below1 W z)).cs 0 _ rfl
  have v1 := fun z => (HC.out.2.1.next (below1 W z)).cs 1 _ rfl
  have v2 := fun z => (HC.out.2.1.next (below1 W z)).cs 2 _ rfl
  have v3 := fun z => (HC.out.2.1.next (below1 W z)).cs 3 _ rfl
  have v4 := fun z => (HC.out.2.1.next (below1 W z)).cs 4 _ rfl
  have v5 := fun z => (HC.out.2.1.next (below1 W z)).cs 5 _ rfl
  have v6 := fun z => (HC.out.2.1.next (below1 W z)).cs 6 _ rfl
  have HL : Hid (L.ops = ops ∧ L.S.length = n0 ∧ L.H.length = n1 ∧ L.M.length = n2 ∧ n1 ≤ c1) := ⟨hops, h0, h1, h2, hcap⟩
  have HMO : Hid _ := hmo
  have heb : (err != 0) = true := by simpa using herr
  clear hr hmo hops h0 h1 h2 hcap herr
  go_enter Try.func28, Try.ntmps28
  go_wp2_with fail
  rw [HW3.out]
  refine Calls.mono (HMO.out _ HC3.out.2.2.2.1) ?_; rintro e w4 ⟨rfl, k4⟩
  have HK4 : Hid (Below W3.heap.size W3 w4) := k4
  clear o0 o1 o2 o3 o4 o5 o6 p0 p1 p2 p3 v0 v1 v2 v3 v4 v5 v6
  have hq1 := HC3.out.1.next HK4.out
  have hq2 := HC3.out.2.1.next HK4.out
  have hq5 := HC3.out.2.2.2.2.next HK4.out
  have l0 := (hq1).cs 0 _ rfl
  have l1 := (hq1).cs 1 _ rfl
  have l2 := (hq1).cs 2 _ rfl
  have l3 := (hq1).cs 3 _ rfl
  have x0 := (hq2).cs 0 _ rfl
  have x1 := (hq2).cs 1 _ rfl
  have x2 := (hq2).cs 2 _ rfl
  have x3 := (hq2).cs 3 _ rfl
  have x4 := (hq2).cs 4 _ rfl
  have x5 := (hq2).cs 5 _ rfl
  have x6 := (hq2).cs 6 _ rfl
  have t0 := (hq5).cs 0 _ rfl
  have t1 := (hq5).cs 1 _ rfl
  have t2 := (hq5).cs 2 _ rfl
  have t3 := (hq5).cs 3 _ rfl
  clear hq1 hq2 hq5
  clear k4
  have hz4 := HC3.out.2.2.1.next HK4.out
  have HCZ : Hid (CellsF w4 (w.heap.size + 1 + 1) [.slice none 0 0, .slice none 0 0, .slice none 0 0, .int .i64 0]) := hz4
  have HFIN : Hid (∀ u0 u1 u2 u3, Lies ((((w4.setCell ⟨(w.heap.size + 1 + 1), 0, none⟩ u0).setCell ⟨(w.heap.size + 1 + 1), 1, none⟩ u1).setCell ⟨(w.heap.size + 1 + 1), 2, none⟩ u2).setCell ⟨(w.heap.size + 1 + 1), 3, none⟩ u3) a0 a1 a2 L ∧ Below w.heap.size w ((((w4.setCell ⟨(w.heap.size + 1 + 1), 0, none⟩ u0).setCell ⟨(w.heap.size + 1 + 1), 1, none⟩ u1).setCell ⟨(w.heap.size + 1 + 1), 2, none⟩ u2).setCell ⟨(w.heap.size + 1 + 1), 3, none⟩ u3)) := fun u0 u1 u2 u3 => ⟨(HR.out.next (Below.next HC3.out.2.2.2.1 HK4.out)).four HNA.out _ _ _ _, below_four (Below.next HC3.out.2.2.2.1 HK4.out) _ (by omega) _ _ _ _⟩
  have z0 := (hz4).cs 0 _ rfl
  have z1 := (hz4).cs 1 _ rfl
  have z2 := (hz4).cs 2 _ rfl
  have z3 := (hz4).cs 3 _ rfl
  have g0 := (hz4).fz 0
  have g1 := (hz4).fz 1
  have g2 := (hz4).fz 2
  have g3 := (hz4).fz 3
  clear hz4
  go_wp2_with fail
  try simp only [Exit.inBlock, Exit.then]
  refine bodyPost_ret (end_cell_tmp rfl rfl (loadLed _ (HCZ.out.four rfl _ _ _ _) rfl)) rfl ?_
  exact ⟨_, _, _, _, _, _, _, _, _, by rw [HL.out.1]; rfl, HL.out.2.1, HL.out.2.2.1, HL.out.2.2.2.1, (HFIN.out _ _ _ _).1, HL.out.2.2.2.2, (HFIN.out _ _ _ _).2, SrcL.refl _ _ _ _ _⟩
set_option maxHeartbeats 4000000 in
theorem rdoes_7_no (a0 : Option Addr) (n0 c0 : Nat) (a1 : Option Addr) (n1 c1 : Nat) (a2 : Option Addr) (n2 c2 : Nat) (ops : Int) (L : Led) (osk ol ot : ByteArray) (oq id od : Int) (w : World) (v err : Int) (herr : ¬ err = 0) (hmo : ∀ w', Below w.heap.size w w' → Calls Try.prog 50 #[.agg #[.slice a0 n0 c0, .slice a1 n1 c1, .slice a2 n2 c2, .int .i64 ops], .string osk, .string ol, .int .i64 oq] w' fun e w'' => e = .returned (.tuple #[.int .i64 v, .int .i64 err]) ∧ Below w'.heap.size w' w'') (hr : Lies w a0 a1 a2 L) (hops : L.ops = ops) (h0 : L.S.length = n0) (h1 : L.H.length = n1) (h2 : L.M.length = n2) (hcap : n1 ≤ c1) :
    Calls Try.prog 28 #[.agg #[.slice a0 n0 c0, .slice a1 n1 c1, .slice a2 n2 c2, .int .i64 ops], .agg #[.int .i64 7, .string osk, .string ol, .string ot, .int .i64 oq, .int .i64 id, .int .i64 od]] w fun e w' => LeP a0 a1 a2 L w w' L err e := by
  obtain ⟨W, hW⟩ : ∃ W, ((w.alloc (.cells #[.slice a0 n0 c0, .slice a1 n1 c1, .slice a2 n2 c2, .int .i64 ops] 26)).alloc (.cells #[.int .i64 7, .string osk, .string ol, .string ot, .int .i64 oq, .int .i64 id, .int .i64 od] 28)).alloc (.cells #[.slice none 0 0, .slice none 0 0, .slice none 0 0, .int .i64 0] 26) = W := ⟨_, rfl⟩
  have HC : Hid (CellsF W w.heap.size [.slice a0 n0 c0, .slice a1 n1 c1, .slice a2 n2 c2, .int .i64 ops] ∧ CellsF W (w.heap.size + 1) [.int .i64 7, .string osk, .string ol, .string ot, .int .i64 oq, .int .i64 id, .int .i64 od] ∧ CellsF W (w.heap.size + 1 + 1) [.slice none 0 0, .slice none 0 0, .slice none 0 0, .int .i64 0] ∧ Below w.heap.size w W) := by
    show _ ∧ _
    rw [← hW]
    exact ⟨((CellsF.at _ 26 (by simp) rfl).next (below1 _ _)).next (below1 _ _), (CellsF.at _ 28 (by simp) (by rw [size_alloc])).next (below1 _ _), CellsF.at _ 26 (by simp) (by rw [size_alloc, size_alloc]), below3 _ _ _ _⟩
  obtain ⟨W3, hW3⟩ : ∃ W3, W.alloc (.cells #[.string osk, .string ol, .int .i64 0, .int .i64 0] 50) = W3 := ⟨_, rfl⟩
  have HC3 : Hid (CellsF W3 w.heap.size [.slice a0 n0 c0, .slice a1 n1 c1, .slice a2 n2 c2, .int .i64 ops] ∧ CellsF W3 (w.heap.size + 1) [.int .i64 7, .string osk, .string ol, .string ot, .int .i64 oq, .int .i64 id, .int .i64 od] ∧ CellsF W3 (w.heap.size + 1 + 1) [.slice none 0 0, .slice none 0 0, .slice none 0 0, .int .i64 0] ∧ Below w.heap.size w W3 ∧ CellsF W3 W.heap.size [.string osk, .string ol, .int .i64 0, .int .i64 0]) := by
    show _ ∧ _
    rw [← hW3]
    exact ⟨HC.out.1.next (below1 _ _), HC.out.2.1.next (below1 _ _), HC.out.2.2.1.next (below1 _ _), Below.next HC.out.2.2.2 (below1 _ _), CellsF.at _ 50 (by simp) rfl⟩
  have HW3 : Hid (W.alloc (.cells #[.string osk, .string ol, .int .i64 0, .int .i64 0] 50) = W3) := hW3
  have HNA : Hid (NotAt (w.heap.size + 1 + 1) a0 a1 a2 L) := notAt_of hr (by omega)
  have HR : Hid (Lies w a0 a1 a2 L) := hr
  clear hW3
  have o0 := (HC.out.2.1).cs 0 _ rfl
  have o1 := (HC.out.2.1).cs 1 _ rfl
  have o2 := (HC.out.2.1).cs 2 _ rfl
  have o3 := (HC.out.2.1).cs 3 _ rfl
  have o4 := (HC.out.2.1).cs 4 _ rfl
  have o5 := (HC.out.2.1).cs 5 _ rfl
  have o6 := (HC.out.2.1).cs 6 _ rfl
  have p0 := fun z => (HC.out.1.next (below1 W z)).cs 0 _ rfl
  have p1 := fun z => (HC.out.1.next (below1 W z)).cs 1 _ rfl
  have p2 := fun z => (HC.out.1.next (below1 W z)).cs 2 _ rfl
  have p3 := fun z => (HC.out.1.next (below1 W z)).cs 3 _ rfl
  have v0 := fun z => (HC.out.2.1.next (below1 W z)).cs 0 _ rfl
  have v1 := fun z => (HC.out.2.1.next (below1 W z)).cs 1 _ rfl
  have v2 := fun z => (HC.out.2.1.next (below1 W z)).cs 2 _ rfl
  have v3 := fun z => (HC.out.2.1.next (below1 W z)).cs 3 _ rfl
  have v4 := fun z => (HC.out.2.1.next (below1 W z)).cs 4 _ rfl
  have v5 := fun z => (HC.out.2.1.next (below1 W z)).cs 5 _ rfl
  have v6 := fun z => (HC.out.2.1.next (below1 W z)).cs 6 _ rfl
  have HL : Hid (L.ops = ops ∧ L.S.length = n0 ∧ L.H.length = n1 ∧ L.M.length = n2 ∧ n1 ≤ c1) := ⟨hops, h0, h1, h2, hcap⟩
  have HMO : Hid _ := hmo
  have heb : (err != 0) = true := by simpa using herr
  clear hr hmo hops h0 h1 h2 hcap herr
  go_enter Try.func28, Try.ntmps28
  go_wp2_with fail
  rw [HW3.out]
  refine Calls.mono (HMO.out _ HC3.out.2.2.2.1) ?_; rintro e w4 ⟨rfl, k4⟩
  have HK4 : Hid (Below W3.heap.size W3 w4) := k4
  clear o0 o1 o2 o3 o4 o5 o6 p0 p1 p2 p3 v0 v1 v2 v3 v4 v5 v6
  have hq1 := HC3.out.1.next HK4.out
  have hq2 := HC3.out.2.1.next HK4.out
  have hq5 := HC3.out.2.2.2.2.next HK4.out
  have l0 := (hq1).cs 0 _ rfl
  have l1 := (hq1).cs 1 _ rfl
  have l2 := (hq1).cs 2 _ rfl
  have l3 := (hq1).cs 3 _ rfl
  have x0 := (hq2).cs 0 _ rfl
  have x1 := (hq2).cs 1 _ rfl
  have x2 := (hq2).cs 2 _ rfl
  have x3 := (hq2).cs 3 _ rfl
  have x4 := (hq2).cs 4 _ rfl
  have x5 := (hq2).cs 5 _ rfl
  have x6 := (hq2).cs 6 _ rfl
  have t0 := (hq5).cs 0 _ rfl
  have t1 := (hq5).cs 1 _ rfl
  have t2 := (hq5).cs 2 _ rfl
  have t3 := (hq5).cs 3 _ rfl
  clear hq1 hq2 hq5
  clear k4
  have hz4 := HC3.out.2.2.1.next HK4.out
  have HCZ : Hid (CellsF w4 (w.heap.size + 1 + 1) [.slice none 0 0, .slice none 0 0, .slice none 0 0, .int .i64 0]) := hz4
  have HFIN : Hid (∀ u0 u1 u2 u3, Lies ((((w4.setCell ⟨(w.heap.size + 1 + 1), 0, none⟩ u0).setCell ⟨(w.heap.size + 1 + 1), 1, none⟩ u1).setCell ⟨(w.heap.size + 1 + 1), 2, none⟩ u2).setCell ⟨(w.heap.size + 1 + 1), 3, none⟩ u3) a0 a1 a2 L ∧ Below w.heap.size w ((((w4.setCell ⟨(w.heap.size + 1 + 1), 0, none⟩ u0).setCell ⟨(w.heap.size + 1 + 1), 1, none⟩ u1).setCell ⟨(w.heap.size + 1 + 1), 2, none⟩ u2).setCell ⟨(w.heap.size + 1 + 1), 3, none⟩ u3)) := fun u0 u1 u2 u3 => ⟨(HR.out.next (Below.next HC3.out.2.2.2.1 HK4.out)).four HNA.out _ _ _ _, below_four (Below.next HC3.out.2.2.2.1 HK4.out) _ (by omega) _ _ _ _⟩
  have z0 := (hz4).cs 0 _ rfl
  have z1 := (hz4).cs 1 _ rfl
  have z2 := (hz4).cs 2 _ rfl
  have z3 := (hz4).cs 3 _ rfl
  have g0 := (hz4).fz 0
  have g1 := (hz4).fz 1
  have g2 := (hz4).fz 2
  have g3 := (hz4).fz 3
  clear hz4
  go_wp2_with fail
  try simp only [Exit.inBlock, Exit.then]
  refine bodyPost_ret (end_cell_tmp rfl rfl (loadLed _ (HCZ.out.four rfl _ _ _ _) rfl)) rfl ?_
  exact ⟨_, _, _, _, _, _, _, _, _, by rw [HL.out.1]; rfl, HL.out.2.1, HL.out.2.2.1, HL.out.2.2.2.1, (HFIN.out _ _ _ _).1, HL.out.2.2.2.2, (HFIN.out _ _ _ _).2, SrcL.refl _ _ _ _ _⟩
set_option maxHeartbeats 4000000 in
theorem rdoes_1 (a0 : Option Addr) (n0 c0 : Nat) (a1 : Option Addr) (n1 c1 : Nat) (a2 : Option Addr) (n2 c2 : Nat) (ops : Int) (L : Led) (osk ol ot : ByteArray) (oq id od : Int) (w : World) (v : Int) (hmo : ∀ w', Below w.heap.size w w' → Calls Try.prog 50 #[.agg #[.slice a0 n0 c0, .slice a1 n1 c1, .slice a2 n2 c2, .int .i64 ops], .string osk, .string ol, .int .i64 oq] w' fun e w'' => e = .returned (.tuple #[.int .i64 v, .int .i64 0]) ∧ Below w'.heap.size w' w'') (S2 : List Stk) (M2 : List Mov) (hmv : ∀ w', Below w.heap.size w w' → Calls Try.prog 51 #[.agg #[.slice a0 n0 c0, .slice a1 n1 c1, .slice a2 n2 c2, .int .i64 ops], .agg #[.string osk, .string ol, .int .i64 0, .int .i64 0], .int .i64 oq, .agg #[.int .i64 0, .string ⟨#[]⟩, .string ⟨#[]⟩, .int .i64 0, .int .i64 1, .int .i64 0]] w' fun e w'' => MvdP w' w'' S2 M2 a1 n1 c1 ops e) (hr : Lies w a0 a1 a2 L) (hops : L.ops = ops) (h0 : L.S.length = n0) (h1 : L.H.length = n1) (h2 : L.M.length = n2) (hcap : n1 ≤ c1) :
    Calls Try.prog 28 #[.agg #[.slice a0 n0 c0, .slice a1 n1 c1, .slice a2 n2 c2, .int .i64 ops], .agg #[.int .i64 1, .string osk, .string ol, .string ot, .int .i64 oq, .int .i64 id, .int .i64 od]] w fun e w' => LeP a0 a1 a2 L w w' ⟨S2, L.H, M2, ops⟩ 0 e := by
  obtain ⟨W, hW⟩ : ∃ W, ((w.alloc (.cells #[.slice a0 n0 c0, .slice a1 n1 c1, .slice a2 n2 c2, .int .i64 ops] 26)).alloc (.cells #[.int .i64 1, .string osk, .string ol, .string ot, .int .i64 oq, .int .i64 id, .int .i64 od] 28)).alloc (.cells #[.slice none 0 0, .slice none 0 0, .slice none 0 0, .int .i64 0] 26) = W := ⟨_, rfl⟩
  have HC : Hid (CellsF W w.heap.size [.slice a0 n0 c0, .slice a1 n1 c1, .slice a2 n2 c2, .int .i64 ops] ∧ CellsF W (w.heap.size + 1) [.int .i64 1, .string osk, .string ol, .string ot, .int .i64 oq, .int .i64 id, .int .i64 od] ∧ CellsF W (w.heap.size + 1 + 1) [.slice none 0 0, .slice none 0 0, .slice none 0 0, .int .i64 0] ∧ Below w.heap.size w W) := by
    show _ ∧ _
    rw [← hW]
    exact ⟨((CellsF.at _ 26 (by simp) rfl).next (below1 _ _)).next (below1 _ _), (CellsF.at _ 28 (by simp) (by rw [size_alloc])).next (below1 _ _), CellsF.at _ 26 (by simp) (by rw [size_alloc, size_alloc]), below3 _ _ _ _⟩
  obtain ⟨W3, hW3⟩ : ∃ W3, W.alloc (.cells #[.string osk, .string ol, .int .i64 0, .int .i64 0] 50) = W3 := ⟨_, rfl⟩
  have HC3 : Hid (CellsF W3 w.heap.size [.slice a0 n0 c0, .slice a1 n1 c1, .slice a2 n2 c2, .int .i64 ops] ∧ CellsF W3 (w.heap.size + 1) [.int .i64 1, .string osk, .string ol, .string ot, .int .i64 oq, .int .i64 id, .int .i64 od] ∧ CellsF W3 (w.heap.size + 1 + 1) [.slice none 0 0, .slice none 0 0, .slice none 0 0, .int .i64 0] ∧ Below w.heap.size w W3 ∧ CellsF W3 W.heap.size [.string osk, .string ol, .int .i64 0, .int .i64 0]) := by
    show _ ∧ _
    rw [← hW3]
    exact ⟨HC.out.1.next (below1 _ _), HC.out.2.1.next (below1 _ _), HC.out.2.2.1.next (below1 _ _), Below.next HC.out.2.2.2 (below1 _ _), CellsF.at _ 50 (by simp) rfl⟩
  have HW3 : Hid (W.alloc (.cells #[.string osk, .string ol, .int .i64 0, .int .i64 0] 50) = W3) := hW3
  have HNA : Hid (NotAt (w.heap.size + 1 + 1) a0 a1 a2 L) := notAt_of hr (by omega)
  have HR : Hid (Lies w a0 a1 a2 L) := hr
  clear hW3
  have o0 := (HC.out.2.1).cs 0 _ rfl
  have o1 := (HC.out.2.1).cs 1 _ rfl
  have o2 := (HC.out.2.1).cs 2 _ rfl
  have o3 := (HC.out.2.1).cs 3 _ rfl
  have o4 := (HC.out.2.1).cs 4 _ rfl
  have o5 := (HC.out.2.1).cs 5 _ rfl
  have o6 := (HC.out.2.1).cs 6 _ rfl
  have p0 := fun z => (HC.out.1.next (below1 W z)).cs 0 _ rfl
  have p1 := fun z => (HC.out.1.next (below1 W z)).cs 1 _ rfl
  have p2 := fun z => (HC.out.1.next (below1 W z)).cs 2 _ rfl
  have p3 := fun z => (HC.out.1.next (below1 W z)).cs 3 _ rfl
  have v0 := fun z => (HC.out.2.1.next (below1 W z)).cs 0 _ rfl
  have v1 := fun z => (HC.out.2.1.next (below1 W z)).cs 1 _ rfl
  have v2 := fun z => (HC.out.2.1.next (below1 W z)).cs 2 _ rfl
  have v3 := fun z => (HC.out.2.1.next (below1 W z)).cs 3 _ rfl
  have v4 := fun z => (HC.out.2.1.next (below1 W z)).cs 4 _ rfl
  have v5 := fun z => (HC.out.2.1.next (below1 W z)).cs 5 _ rfl
  have v6 := fun z => (HC.out.2.1.next (below1 W z)).cs 6 _ rfl
  have HL : Hid (L.ops = ops ∧ L.S.length = n0 ∧ L.H.length = n1 ∧ L.M.length = n2 ∧ n1 ≤ c1) := ⟨hops, h0, h1, h2, hcap⟩
  have HMO : Hid _ := hmo
  have HMV : Hid _ := hmv
  clear hr hmo hmv hops h0 h1 h2 hcap
  go_enter Try.func28, Try.ntmps28
  go_wp2_with fail
  rw [HW3.out]
  refine Calls.mono (HMO.out _ HC3.out.2.2.2.1) ?_; rintro e w4 ⟨rfl, k4⟩
  have HK4 : Hid (Below W3.heap.size W3 w4) := k4
  clear o0 o1 o2 o3 o4 o5 o6 p0 p1 p2 p3 v0 v1 v2 v3 v4 v5 v6
  have hq1 := HC3.out.1.next HK4.out
  have hq2 := HC3.out.2.1.next HK4.out
  have hq5 := HC3.out.2.2.2.2.next HK4.out
  have l0 := (hq1).cs 0 _ rfl
  have l1 := (hq1).cs 1 _ rfl
  have l2 := (hq1).cs 2 _ rfl
  have l3 := (hq1).cs 3 _ rfl
  have x0 := (hq2).cs 0 _ rfl
  have x1 := (hq2).cs 1 _ rfl
  have x2 := (hq2).cs 2 _ rfl
  have x3 := (hq2).cs 3 _ rfl
  have x4 := (hq2).cs 4 _ rfl
  have x5 := (hq2).cs 5 _ rfl
  have x6 := (hq2).cs 6 _ rfl
  have t0 := (hq5).cs 0 _ rfl
  have t1 := (hq5).cs 1 _ rfl
  have t2 := (hq5).cs 2 _ rfl
  have t3 := (hq5).cs 3 _ rfl
  clear hq1 hq2 hq5
  clear k4
  go_wp2_with fail
  refine Calls.mono (HMV.out _ (Below.next HC3.out.2.2.2.1 HK4.out)) ?_; rintro e w9 ⟨b0, m0, d0, b2, m2, d2, rfl, hl0, hl2, hrs, hrm, k9, nb0, nb2, hne⟩
  have hz4 := (HC3.out.2.2.1.next HK4.out).next k9
  have hlt : w.heap.size + 1 + 1 < W3.heap.size := HC3.out.2.2.1.lt
  have hsz := (HK4.out).size
  have HCZ : Hid (CellsF w9 (w.heap.size + 1 + 1) [.slice none 0 0, .slice none 0 0, .slice none 0 0, .int .i64 0]) := hz4
  have hbel : Below w.heap.size w w9 := Below.next (Below.next HC3.out.2.2.2.1 HK4.out) k9
  have HFIN : Hid (∀ u0 u1 u2 u3, Lies ((((w9.setCell ⟨(w.heap.size + 1 + 1), 0, none⟩ u0).setCell ⟨(w.heap.size + 1 + 1), 1, none⟩ u1).setCell ⟨(w.heap.size + 1 + 1), 2, none⟩ u2).setCell ⟨(w.heap.size + 1 + 1), 3, none⟩ u3) b0 a1 b2 ⟨S2, L.H, M2, ops⟩ ∧ Below w.heap.size w ((((w9.setCell ⟨(w.heap.size + 1 + 1), 0, none⟩ u0).setCell ⟨(w.heap.size + 1 + 1), 1, none⟩ u1).setCell ⟨(w.heap.size + 1 + 1), 2, none⟩ u2).setCell ⟨(w.heap.size + 1 + 1), 3, none⟩ u3)) := fun u0 u1 u2 u3 => ⟨⟨hrs.far (fun b' o' e hne => four_far _ _ _ _ _ _ (by have := nb0 b' o' e; omega)), (HR.out.H.next hlv_ne hbel).far (fun b' o' e hne => four_far _ _ _ _ _ _ (HNA.out.H hne b' o' e)), hrm.far (fun b' o' e hne => four_far _ _ _ _ _ _ (by have := nb2 b' o' e; omega))⟩, below_four hbel _ (by omega) _ _ _ _⟩
  have HLN : Hid (S2.length = m0 ∧ M2.length = m2 ∧ SrcL w a0 a1 a2 L b0 a1 b2 ⟨S2, L.H, M2, ops⟩) := ⟨hl0, hl2, ⟨fun _ b' o' e => .inl (by have := nb0 b' o' e; have := HC3.out.2.2.2.1.size; omega), fun hne _ _ _ => .inr ⟨hne, rfl⟩, fun _ b' o' e => .inl (by have := nb2 b' o' e; have := HC3.out.2.2.2.1.size; omega)⟩⟩
  have z0 := (hz4).cs 0 _ rfl
  have z1 := (hz4).cs 1 _ rfl
  have z2 := (hz4).cs 2 _ rfl
  have z3 := (hz4).cs 3 _ rfl
  have g0 := (hz4).fz 0
  have g1 := (hz4).fz 1
  have g2 := (hz4).fz 2
  have g3 := (hz4).fz 3
  clear hz4 hl0 hl2 hrs hrm k9 nb0 nb2 hne hlt hsz hbel
  go_wp2_with fail
  try simp only [Exit.inBlock, Exit.then]
  refine bodyPost_ret (end_cell_tmp rfl rfl (loadLed _ (HCZ.out.four rfl _ _ _ _) rfl)) rfl ?_
  exact ⟨_, _, _, _, _, _, _, _, _, rfl, HLN.out.1, HL.out.2.2.1, HLN.out.2.1, (HFIN.out _ _ _ _).1, HL.out.2.2.2.2, (HFIN.out _ _ _ _).2, HLN.out.2.2⟩
set_option maxHeartbeats 4000000 in
theorem rdoes_7_less (a0 : Option Addr) (n0 c0 : Nat) (a1 : Option Addr) (n1 c1 : Nat) (a2 : Option Addr) (n2 c2 : Nat) (ops : Int) (L : Led) (osk ol ot : ByteArray) (oq id od : Int) (w : World) (v : Int) (hmo : ∀ w', Below w.heap.size w w' → Calls Try.prog 50 #[.agg #[.slice a0 n0 c0, .slice a1 n1 c1, .slice a2 n2 c2, .int .i64 ops], .string osk, .string ol, .int .i64 oq] w' fun e w'' => e = .returned (.tuple #[.int .i64 v, .int .i64 0]) ∧ Below w'.heap.size w' w'') (fs fl : ByteArray) (fo fh : Int) (hfi : ∀ w', Below w.heap.size w w' → Calls Try.prog 56 #[.agg #[.slice a0 n0 c0, .slice a1 n1 c1, .slice a2 n2 c2, .int .i64 ops], .string osk, .string ol] w' fun e w'' => e = .returned (.agg #[.string fs, .string fl, .int .i64 fo, .int .i64 fh]) ∧ Below w'.heap.size w' w'') (hlt7 : v < fh) (hr : Lies w a0 a1 a2 L) (hops : L.ops = ops) (h0 : L.S.length = n0) (h1 : L.H.length = n1) (h2 : L.M.length = n2) (hcap : n1 ≤ c1) :
    Calls Try.prog 28 #[.agg #[.slice a0 n0 c0, .slice a1 n1 c1, .slice a2 n2 c2, .int .i64 ops], .agg #[.int .i64 7, .string osk, .string ol, .string ot, .int .i64 oq, .int .i64 id, .int .i64 od]] w fun e w' => LeP a0 a1 a2 L w w' L 70 e := by
  obtain ⟨W, hW⟩ : ∃ W, ((w.alloc (.cells #[.slice a0 n0 c0, .slice a1 n1 c1, .slice a2 n2 c2, .int .i64 ops] 26)).alloc (.cells #[.int .i64 7, .string osk, .string ol, .string ot, .int .i64 oq, .int .i64 id, .int .i64 od] 28)).alloc (.cells #[.slice none 0 0, .slice none 0 0, .slice none 0 0, .int .i64 0] 26) = W := ⟨_, rfl⟩
  have HC : Hid (CellsF W w.heap.size [.slice a0 n0 c0, .slice a1 n1 c1, .slice a2 n2 c2, .int .i64 ops] ∧ CellsF W (w.heap.size + 1) [.int .i64 7, .string osk, .string ol, .string ot, .int .i64 oq, .int .i64 id, .int .i64 od] ∧ CellsF W (w.heap.size + 1 + 1) [.slice none 0 0, .slice none 0 0, .slice none 0 0, .int .i64 0] ∧ Below w.heap.size w W) := by
    show _ ∧ _
    rw [← hW]
    exact ⟨((CellsF.at _ 26 (by simp) rfl).next (below1 _ _)).next (below1 _ _), (CellsF.at _ 28 (by simp) (by rw [size_alloc])).next (below1 _ _), CellsF.at _ 26 (by simp) (by rw [size_alloc, size_alloc]), below3 _ _ _ _⟩
  obtain ⟨W3, hW3⟩ : ∃ W3, W.alloc (.cells #[.string osk, .string ol, .int .i64 0, .int .i64 0] 50) = W3 := ⟨_, rfl⟩
  have HC3 : Hid (CellsF W3 w.heap.size [.slice a0 n0 c0, .slice a1 n1 c1, .slice a2 n2 c2, .int .i64 ops] ∧ CellsF W3 (w.heap.size + 1) [.int .i64 7, .string osk, .string ol, .string ot, .int .i64 oq, .int .i64 id, .int .i64 od] ∧ CellsF W3 (w.heap.size + 1 + 1) [.slice none 0 0, .slice none 0 0, .slice none 0 0, .int .i64 0] ∧ Below w.heap.size w W3 ∧ CellsF W3 W.heap.size [.string osk, .string ol, .int .i64 0, .int .i64 0]) := by
    show _ ∧ _
    rw [← hW3]
    exact ⟨HC.out.1.next (below1 _ _), HC.out.2.1.next (below1 _ _), HC.out.2.2.1.next (below1 _ _), Below.next HC.out.2.2.2 (below1 _ _), CellsF.at _ 50 (by simp) rfl⟩
  have HW3 : Hid (W.alloc (.cells #[.string osk, .string ol, .int .i64 0, .int .i64 0] 50) = W3) := hW3
  have HNA : Hid (NotAt (w.heap.size + 1 + 1) a0 a1 a2 L) := notAt_of hr (by omega)
  have HR : Hid (Lies w a0 a1 a2 L) := hr
  clear hW3
  have o0 := (HC.out.2.1).cs 0 _ rfl
  have o1 := (HC.out.2.1).cs 1 _ rfl
  have o2 := (HC.out.2.1).cs 2 _ rfl
  have o3 := (HC.out.2.1).cs 3 _ rfl
  have o4 := (HC.out.2.1).cs 4 _ rfl
  have o5 := (HC.out.2.1).cs 5 _ rfl
  have o6 := (HC.out.2.1).cs 6 _ rfl
  have p0 := fun z => (HC.out.1.next (below1 W z)).cs 0 _ rfl
  have p1 := fun z => (HC.out.1.next (below1 W z)).cs 1 _ rfl
  have p2 := fun z => (HC.out.1.next (below1 W z)).cs 2 _ rfl
  have p3 := fun z => (HC.out.1.next (below1 W z)).cs 3 _ rfl
  have v0 := fun z => (HC.out.2.1.next (below1 W z)).cs 0 _ rfl
  have v1 := fun z => (HC.out.2.1.next (below1 W z)).cs 1 _ rfl
  have v2 := fun z => (HC.out.2.1.next (below1 W z)).cs 2 _ rfl
  have v3 := fun z => (HC.out.2.1.next (below1 W z)).cs 3 _ rfl
  have v4 := fun z => (HC.out.2.1.next (below1 W z)).cs 4 _ rfl
  have v5 := fun z => (HC.out.2.1.next (below1 W z)).cs 5 _ rfl
  have v6 := fun z => (HC.out.2.1.next (below1 W z)).cs 6 _ rfl
  have HL : Hid (L.ops = ops ∧ L.S.length = n0 ∧ L.H.length = n1 ∧ L.M.length = n2 ∧ n1 ≤ c1) := ⟨hops, h0, h1, h2, hcap⟩
  have HMO : Hid _ := hmo
  have HFI : Hid _ := hfi
  have hfl : ∀ w, (Instr.field 50 (.agg #[.string fs, .string fl, .int .i64 fo, .int .i64 fh]) 3).run Try.prog w = .ok (.int .i64 fh) w := fun w => rfl
  clear hr hmo hfi hops h0 h1 h2 hcap
  go_enter Try.func28, Try.ntmps28
  go_wp2_with fail
  rw [HW3.out]
  refine Calls.mono (HMO.out _ HC3.out.2.2.2.1) ?_; rintro e w4 ⟨rfl, k4⟩
  have HK4 : Hid (Below W3.heap.size W3 w4) := k4
  clear o0 o1 o2 o3 o4 o5 o6 p0 p1 p2 p3 v0 v1 v2 v3 v4 v5 v6
  have hq1 := HC3.out.1.next HK4.out
  have hq2 := HC3.out.2.1.next HK4.out
  have hq5 := HC3.out.2.2.2.2.next HK4.out
  have l0 := (hq1).cs 0 _ rfl
  have l1 := (hq1).cs 1 _ rfl
  have l2 := (hq1).cs 2 _ rfl
  have l3 := (hq1).cs 3 _ rfl
  have x0 := (hq2).cs 0 _ rfl
  have x1 := (hq2).cs 1 _ rfl
  have x2 := (hq2).cs 2 _ rfl
  have x3 := (hq2).cs 3 _ rfl
  have x4 := (hq2).cs 4 _ rfl
  have x5 := (hq2).cs 5 _ rfl
  have x6 := (hq2).cs 6 _ rfl
  have t0 := (hq5).cs 0 _ rfl
  have t1 := (hq5).cs 1 _ rfl
  have t2 := (hq5).cs 2 _ rfl
  have t3 := (hq5).cs 3 _ rfl
  clear hq1 hq2 hq5
  clear k4
  go_wp2_with fail
  refine Calls.mono (HFI.out _ (Below.next HC3.out.2.2.2.1 HK4.out)) ?_; rintro e w5 ⟨rfl, k5⟩
  have HK5 : Hid (Below W3.heap.size W3 w5) := Below.next HK4.out k5
  clear k5 l0 l1 l2 l3 x0 x1 x2 x3 x4 x5 x6 t0 t1 t2 t3
  have hq1 := HC3.out.1.next HK5.out
  have hq2 := HC3.out.2.1.next HK5.out
  have hq5 := HC3.out.2.2.2.2.next HK5.out
  have l0 := (hq1).cs 0 _ rfl
  have l1 := (hq1).cs 1 _ rfl
  have l2 := (hq1).cs 2 _ rfl
  have l3 := (hq1).cs 3 _ rfl
  have x0 := (hq2).cs 0 _ rfl
  have x1 := (hq2).cs 1 _ rfl
  have x2 := (hq2).cs 2 _ rfl
  have x3 := (hq2).cs 3 _ rfl
  have x4 := (hq2).cs 4 _ rfl
  have x5 := (hq2).cs 5 _ rfl
  have x6 := (hq2).cs 6 _ rfl
  have t0 := (hq5).cs 0 _ rfl
  have t1 := (hq5).cs 1 _ rfl
  have t2 := (hq5).cs 2 _ rfl
  have t3 := (hq5).cs 3 _ rfl
  clear hq1 hq2 hq5
  have hz4 := HC3.out.2.2.1.next HK5.out
  have HCZ : Hid (CellsF w5 (w.heap.size + 1 + 1) [.slice none 0 0, .slice none 0 0, .slice none 0 0, .int .i64 0]) := hz4
  have HFIN : Hid (∀ u0 u1 u2 u3, Lies ((((w5.setCell ⟨(w.heap.size + 1 + 1), 0, none⟩ u0).setCell ⟨(w.heap.size + 1 + 1), 1, none⟩ u1).setCell ⟨(w.heap.size + 1 + 1), 2, none⟩ u2).setCell ⟨(w.heap.size + 1 + 1), 3, none⟩ u3) a0 a1 a2 L ∧ Below w.heap.size w ((((w5.setCell ⟨(w.heap.size + 1 + 1), 0, none⟩ u0).setCell ⟨(w.heap.size + 1 + 1), 1, none⟩ u1).setCell ⟨(w.heap.size + 1 + 1), 2, none⟩ u2).setCell ⟨(w.heap.size + 1 + 1), 3, none⟩ u3)) := fun u0 u1 u2 u3 => ⟨(HR.out.next (Below.next HC3.out.2.2.2.1 HK5.out)).four HNA.out _ _ _ _, below_four (Below.next HC3.out.2.2.2.1 HK5.out) _ (by omega) _ _ _ _⟩
  have z0 := (hz4).cs 0 _ rfl
  have z1 := (hz4).cs 1 _ rfl
  have z2 := (hz4).cs 2 _ rfl
  have z3 := (hz4).cs 3 _ rfl
  have g0 := (hz4).fz 0
  have g1 := (hz4).fz 1
  have g2 := (hz4).fz 2
  have g3 := (hz4).fz 3
  clear hz4
  go_wp2_with fail
  try simp only [Exit.inBlock, Exit.then]
  refine bodyPost_ret (end_cell_tmp rfl rfl (loadLed _ (HCZ.out.four rfl _ _ _ _) rfl)) rfl ?_
  exact ⟨_, _, _, _, _, _, _, _, _, by rw [HL.out.1]; rfl, HL.out.2.1, HL.out.2.2.1, HL.out.2.2.2.1, (HFIN.out _ _ _ _).1, HL.out.2.2.2.2, (HFIN.out _ _ _ _).2, SrcL.refl _ _ _ _ _⟩
set_option maxHeartbeats 4000000 in
theorem rdoes_7 (a0 : Option Addr) (n0 c0 : Nat) (a1 : Option Addr) (n1 c1 : Nat) (a2 : Option Addr) (n2 c2 : Nat) (ops : Int) (L : Led) (osk ol ot : ByteArray) (oq id od : Int) (w : World) (v : Int) (hmo : ∀ w', Below w.heap.size w w' → Calls Try.prog 50 #[.agg #[.slice a0 n0 c0, .slice a1 n1 c1, .slice a2 n2 c2, .int .i64 ops], .string osk, .string ol, .int .i64 oq] w' fun e w'' => e = .returned (.tuple #[.int .i64 v, .int .i64 0]) ∧ Below w'.heap.size w' w'') (fs fl : ByteArray) (fo fh : Int) (hfi : ∀ w', Below w.heap.size w w' → Calls Try.prog 56 #[.agg #[.slice a0 n0 c0, .slice a1 n1 c1, .slice a2 n2 c2, .int .i64 ops], .string osk, .string ol] w' fun e w'' => e = .returned (.agg #[.string fs, .string fl, .int .i64 fo, .int .i64 fh]) ∧ Below w'.heap.size w' w'') (hlt7 : ¬ v < fh) (S2 : List Stk) (M2 : List Mov) (hmv : ∀ w', Below w.heap.size w w' → Calls Try.prog 51 #[.agg #[.slice a0 n0 c0, .slice a1 n1 c1, .slice a2 n2 c2, .int .i64 ops], .agg #[.string osk, .string ol, .int .i64 0, .int .i64 0], .int .i64 oq, .agg #[.int .i64 0, .string ⟨#[]⟩, .string ⟨#[]⟩, .int .i64 0, .int .i64 7, .int .i64 0]] w' fun e w'' => MvdP w' w'' S2 M2 a1 n1 c1 ops e) (hr : Lies w a0 a1 a2 L) (hops : L.ops = ops) (h0 : L.S.length = n0) (h1 : L.H.length = n1) (h2 : L.M.length = n2) (hcap : n1 ≤ c1) :
    Calls Try.prog 28 #[.agg #[.slice a0 n0 c0, .slice a1 n1 c1, .slice a2 n2 c2, .int .i64 ops], .agg #[.int .i64 7, .string osk, .string ol, .string ot, .int .i64 oq, .int .i64 id, .int .i64 od]] w fun e w' => LeP a0 a1 a2 L w w' ⟨S2, L.H, M2, ops⟩ 0 e := by
  obtain ⟨W, hW⟩ : ∃ W, ((w.alloc (.cells #[.slice a0 n0 c0, .slice a1 n1 c1, .slice a2 n2 c2, .int .i64 ops] 26)).alloc (.cells #[.int .i64 7, .string osk, .string ol, .string ot, .int .i64 oq, .int .i64 id, .int .i64 od] 28)).alloc (.cells #[.slice none 0 0, .slice none 0 0, .slice none 0 0, .int .i64 0] 26) = W := ⟨_, rfl⟩
  have HC : Hid (CellsF W w.heap.size [.slice a0 n0 c0, .slice a1 n1 c1, .slice a2 n2 c2, .int .i64 ops] ∧ CellsF W (w.heap.size + 1) [.int .i64 7, .string osk, .string ol, .string ot, .int .i64 oq, .int .i64 id, .int .i64 od] ∧ CellsF W (w.heap.size + 1 + 1) [.slice none 0 0, .slice none 0 0, .slice none 0 0, .int .i64 0] ∧ Below w.heap.size w W) := by
    show _ ∧ _
    rw [← hW]
    exact ⟨((CellsF.at _ 26 (by simp) rfl).next (below1 _ _)).next (below1 _ _), (CellsF.at _ 28 (by simp) (by rw [size_alloc])).next (below1 _ _), CellsF.at _ 26 (by simp) (by rw [size_alloc, size_alloc]), below3 _ _ _ _⟩
  obtain ⟨W3, hW3⟩ : ∃ W3, W.alloc (.cells #[.string osk, .string ol, .int .i64 0, .int .i64 0] 50) = W3 := ⟨_, rfl⟩
  have HC3 : Hid (CellsF W3 w.heap.size [.slice a0 n0 c0, .slice a1 n1 c1, .slice a2 n2 c2, .int .i64 ops] ∧ CellsF W3 (w.heap.size + 1) [.int .i64 7, .string osk, .string ol, .string ot, .int .i64 oq, .int .i64 id, .int .i64 od] ∧ CellsF W3 (w.heap.size + 1 + 1) [.slice none 0 0, .slice none 0 0, .slice none 0 0, .int .i64 0] ∧ Below w.heap.size w W3 ∧ CellsF W3 W.heap.size [.string osk, .string ol, .int .i64 0, .int .i64 0]) := by
    show _ ∧ _
    rw [← hW3]
    exact ⟨HC.out.1.next (below1 _ _), HC.out.2.1.next (below1 _ _), HC.out.2.2.1.next (below1 _ _), Below.next HC.out.2.2.2 (below1 _ _), CellsF.at _ 50 (by simp) rfl⟩
  have HW3 : Hid (W.alloc (.cells #[.string osk, .string ol, .int .i64 0, .int .i64 0] 50) = W3) := hW3
  have HNA : Hid (NotAt (w.heap.size + 1 + 1) a0 a1 a2 L) := notAt_of hr (by omega)
  have HR : Hid (Lies w a0 a1 a2 L) := hr
  clear hW3
  have o0 := (HC.out.2.1).cs 0 _ rfl
  have o1 := (HC.out.2.1).cs 1 _ rfl
  have o2 := (HC.out.2.1).cs 2 _ rfl
  have o3 := (HC.out.2.1).cs 3 _ rfl
  have o4 := (HC.out.2.1).cs 4 _ rfl
  have o5 := (HC.out.2.1).cs 5 _ rfl
  have o6 := (HC.out.2.1).cs 6 _ rfl
  have p0 := fun z => (HC.out.1.next (below1 W z)).cs 0 _ rfl
  have p1 := fun z => (HC.out.1.next (below1 W z)).cs 1 _ rfl
  have p2 := fun z => (HC.out.1.next (below1 W z)).cs 2 _ rfl
  have p3 := fun z => (HC.out.1.next (below1 W z)).cs 3 _ rfl
  have v0 := fun z => (HC.out.2.1.next (below1 W z)).cs 0 _ rfl
  have v1 := fun z => (HC.out.2.1.next (below1 W z)).cs 1 _ rfl
  have v2 := fun z => (HC.out.2.1.next (below1 W z)).cs 2 _ rfl
  have v3 := fun z => (HC.out.2.1.next (below1 W z)).cs 3 _ rfl
  have v4 := fun z => (HC.out.2.1.next (below1 W z)).cs 4 _ rfl
  have v5 := fun z => (HC.out.2.1.next (below1 W z)).cs 5 _ rfl
  have v6 := fun z => (HC.out.2.1.next (below1 W z)).cs 6 _ rfl
  have HL : Hid (L.ops = ops ∧ L.S.length = n0 ∧ L.H.length = n1 ∧ L.M.length = n2 ∧ n1 ≤ c1) := ⟨hops, h0, h1, h2, hcap⟩
  have HMO : Hid _ := hmo
  have HFI : Hid _ := hfi
  have HMV : Hid _ := hmv
  have hfl : ∀ w, (Instr.field 50 (.agg #[.string fs, .string fl, .int .i64 fo, .int .i64 fh]) 3).run Try.prog w = .ok (.int .i64 fh) w := fun w => rfl
  clear hr hmo hfi hmv hops h0 h1 h2 hcap
  go_enter Try.func28, Try.ntmps28
  go_wp2_with fail
  rw [HW3.out]
  refine Calls.mono (HMO.out _ HC3.out.2.2.2.1) ?_; rintro e w4 ⟨rfl, k4⟩
  have HK4 : Hid (Below W3.heap.size W3 w4) := k4
  clear o0 o1 o2 o3 o4 o5 o6 p0 p1 p2 p3 v0 v1 v2 v3 v4 v5 v6
  have hq1 := HC3.out.1.next HK4.out
  have hq2 := HC3.out.2.1.next HK4.out
  have hq5 := HC3.out.2.2.2.2.next HK4.out
  have l0 := (hq1).cs 0 _ rfl
  have l1 := (hq1).cs 1 _ rfl
  have l2 := (hq1).cs 2 _ rfl
  have l3 := (hq1).cs 3 _ rfl
  have x0 := (hq2).cs 0 _ rfl
  have x1 := (hq2).cs 1 _ rfl
  have x2 := (hq2).cs 2 _ rfl
  have x3 := (hq2).cs 3 _ rfl
  have x4 := (hq2).cs 4 _ rfl
  have x5 := (hq2).cs 5 _ rfl
  have x6 := (hq2).cs 6 _ rfl
  have t0 := (hq5).cs 0 _ rfl
  have t1 := (hq5).cs 1 _ rfl
  have t2 := (hq5).cs 2 _ rfl
  have t3 := (hq5).cs 3 _ rfl
  clear hq1 hq2 hq5
  clear k4
  go_wp2_with fail
  refine Calls.mono (HFI.out _ (Below.next HC3.out.2.2.2.1 HK4.out)) ?_; rintro e w5 ⟨rfl, k5⟩
  have HK5 : Hid (Below W3.heap.size W3 w5) := Below.next HK4.out k5
  clear k5 l0 l1 l2 l3 x0 x1 x2 x3 x4 x5 x6 t0 t1 t2 t3
  have hq1 := HC3.out.1.next HK5.out
  have hq2 := HC3.out.2.1.next HK5.out
  have hq5 := HC3.out.2.2.2.2.next HK5.out
  have l0 := (hq1).cs 0 _ rfl
  have l1 := (hq1).cs 1 _ rfl
  have l2 := (hq1).cs 2 _ rfl
  have l3 := (hq1).cs 3 _ rfl
  have x0 := (hq2).cs 0 _ rfl
  have x1 := (hq2).cs 1 _ rfl
  have x2 := (hq2).cs 2 _ rfl
  have x3 := (hq2).cs 3 _ rfl
  have x4 := (hq2).cs 4 _ rfl
  have x5 := (hq2).cs 5 _ rfl
  have x6 := (hq2).cs 6 _ rfl
  have t0 := (hq5).cs 0 _ rfl
  have t1 := (hq5).cs 1 _ rfl
  have t2 := (hq5).cs 2 _ rfl
  have t3 := (hq5).cs 3 _ rfl
  clear hq1 hq2 hq5
  go_wp2_with fail
  refine Calls.mono (HMV.out _ (Below.next HC3.out.2.2.2.1 HK5.out)) ?_; rintro e w9 ⟨b0, m0, d0, b2, m2, d2, rfl, hl0, hl2, hrs, hrm, k9, nb0, nb2, hne⟩
  have hz4 := (HC3.out.2.2.1.next HK5.out).next k9
  have hlt : w.heap.size + 1 + 1 < W3.heap.size := HC3.out.2.2.1.lt
  have hsz := (HK5.out).size
  have HCZ : Hid (CellsF w9 (w.heap.size + 1 + 1) [.slice none 0 0, .slice none 0 0, .slice none 0 0, .int .i64 0]) := hz4
  have hbel : Below w.heap.size w w9 := Below.next (Below.next HC3.out.2.2.2.1 HK5.out) k9
  have HFIN : Hid (∀ u0 u1 u2 u3, Lies ((((w9.setCell ⟨(w.heap.size + 1 + 1), 0, none⟩ u0).setCell ⟨(w.heap.size + 1 + 1), 1, none⟩ u1).setCell ⟨(w.heap.size + 1 + 1), 2, none⟩ u2).setCell ⟨(w.heap.size + 1 + 1), 3, none⟩ u3) b0 a1 b2 ⟨S2, L.H, M2, ops⟩ ∧ Below w.heap.size w ((((w9.setCell ⟨(w.heap.size + 1 + 1), 0, none⟩ u0).setCell ⟨(w.heap.size + 1 + 1), 1, none⟩ u1).setCell ⟨(w.heap.size + 1 + 1), 2, none⟩ u2).setCell ⟨(w.heap.size + 1 + 1), 3, none⟩ u3)) := fun u0 u1 u2 u3 => ⟨⟨hrs.far (fun b' o' e hne => four_far _ _ _ _ _ _ (by have := nb0 b' o' e; omega)), (HR.out.H.next hlv_ne hbel).far (fun b' o' e hne => four_far _ _ _ _ _ _ (HNA.out.H hne b' o' e)), hrm.far (fun b' o' e hne => four_far _ _ _ _ _ _ (by have := nb2 b' o' e; omega))⟩, below_four hbel _ (by omega) _ _ _ _⟩
  have HLN : Hid (S2.length = m0 ∧ M2.length = m2 ∧ SrcL w a0 a1 a2 L b0 a1 b2 ⟨S2, L.H, M2, ops⟩) := ⟨hl0, hl2, ⟨fun _ b' o' e => .inl (by have := nb0 b' o' e; have := HC3.out.2.2.2.1.size; omega), fun hne _ _ _ => .inr ⟨hne, rfl⟩, fun _ b' o' e => .inl (by have := nb2 b' o' e; have := HC3.out.2.2.2.1.size; omega)⟩⟩
  have z0 := (hz4).cs 0 _ rfl
  have z1 := (hz4).cs 1 _ rfl
  have z2 := (hz4).cs 2 _ rfl
  have z3 := (hz4).cs 3 _ rfl
  have g0 := (hz4).fz 0
  have g1 := (hz4).fz 1
  have g2 := (hz4).fz 2
  have g3 := (hz4).fz 3
  clear hz4 hl0 hl2 hrs hrm k9 nb0 nb2 hne hlt hsz hbel
  go_wp2_with fail
  try simp only [Exit.inBlock, Exit.then]
  refine bodyPost_ret (end_cell_tmp rfl rfl (loadLed _ (HCZ.out.four rfl _ _ _ _) rfl)) rfl ?_
  exact ⟨_, _, _, _, _, _, _, _, _, rfl, HLN.out.1, HL.out.2.2.1, HLN.out.2.1, (HFIN.out _ _ _ _).1, HL.out.2.2.2.2, (HFIN.out _ _ _ _).2, HLN.out.2.2⟩
end Go.Proofs.Ytflbcheofmljeaa

namespace Go.Proofs.Ytflbcheofmljeaa
open Go.ChangeShapes Go.WideShapes Go.RowKit
set_option linter.unusedVariables false
set_option maxRecDepth 100000

set_option maxHeartbeats 4000000 in
theorem rdoes_2_less (a0 : Option Addr) (n0 c0 : Nat) (a1 : Option Addr) (n1 c1 : Nat) (a2 : Option Addr) (n2 c2 : Nat) (ops : Int) (L : Led) (osk ol ot : ByteArray) (oq id od : Int) (w : World) (fr : Int) (hfe : ∀ w', Below w.heap.size w w' → Calls Try.prog 52 #[.agg #[.slice a0 n0 c0, .slice a1 n1 c1, .slice a2 n2 c2, .int .i64 ops], .string osk, .string ol] w' fun e w'' => e = .returned (.int .i64 fr) ∧ Below w'.heap.size w' w'') (hlt : fr < oq) (hr : Lies w a0 a1 a2 L) (hops : L.ops = ops) (h0 : L.S.length = n0) (h1 : L.H.length = n1) (h2 : L.M.length = n2) (hcap : n1 ≤ c1) :
    Calls Try.prog 28 #[.agg #[.slice a0 n0 c0, .slice a1 n1 c1, .slice a2 n2 c2, .int .i64 ops], .agg #[.int .i64 2, .string osk, .string ol, .string ot, .int .i64 oq, .int .i64 id, .int .i64 od]] w fun e w' => LeP a0 a1 a2 L w w' L 70 e := by
  obtain ⟨W, hW⟩ : ∃ W, ((w.alloc (.cells #[.slice a0 n0 c0, .slice a1 n1 c1, .slice a2 n2 c2, .int .i64 ops] 26)).alloc (.cells #[.int .i64 2, .string osk, .string ol, .string ot, .int .i64 oq, .int .i64 id, .int .i64 od] 28)).alloc (.cells #[.slice none 0 0, .slice none 0 0, .slice none 0 0, .int .i64 0] 26) = W := ⟨_, rfl⟩
  have HC : Hid (CellsF W w.heap.size [.slice a0 n0 c0, .slice a1 n1 c1, .slice a2 n2 c2, .int .i64 ops] ∧ CellsF W (w.heap.size + 1) [.int .i64 2, .string osk, .string ol, .string ot, .int .i64 oq, .int .i64 id, .int .i64 od] ∧ CellsF W (w.heap.size + 1 + 1) [.slice none 0 0, .slice none 0 0, .slice none 0 0, .int .i64 0] ∧ Below w.heap.size w W) := by
    show _ ∧ _
    rw [← hW]
    exact ⟨((CellsF.at _ 26 (by simp) rfl).next (below1 _ _)).next (below1 _ _), (CellsF.at _ 28 (by simp) (by rw [size_alloc])).next (below1 _ _), CellsF.at _ 26 (by simp) (by rw [size_alloc, size_alloc]), below3 _ _ _ _⟩
  obtain ⟨W3, hW3⟩ : ∃ W3, W.alloc (.cells #[.string osk, .string ol, .int .i64 0, .int .i64 0] 50) = W3 := ⟨_, rfl⟩
  have HC3 : Hid (CellsF W3 w.heap.size [.slice a0 n0 c0, .slice a1 n1 c1, .slice a2 n2 c2, .int .i64 ops] ∧ CellsF W3 (w.heap.size + 1) [.int .i64 2, .string osk, .string ol, .string ot, .int .i64 oq, .int .i64 id, .int .i64 od] ∧ CellsF W3 (w.heap.size + 1 + 1) [.slice none 0 0, .slice none 0 0, .slice none 0 0, .int .i64 0] ∧ Below w.heap.size w W3 ∧ CellsF W3 W.heap.size [.string osk, .string ol, .int .i64 0, .int .i64 0]) := by
    show _ ∧ _
    rw [← hW3]
    exact ⟨HC.out.1.next (below1 _ _), HC.out.2.1.next (below1 _ _), HC.out.2.2.1.next (below1 _ _), Below.next HC.out.2.2.2 (below1 _ _), CellsF.at _ 50 (by simp) rfl⟩
  have HW3 : Hid (W.alloc (.cells #[.string osk, .string ol, .int .i64 0, .int .i64 0] 50) = W3) := hW3
  have HNA : Hid (NotAt (w.heap.size + 1 + 1) a0 a1 a2 L) := notAt_of hr (by omega)
  have HR : Hid (Lies w a0 a1 a2 L) := hr
  clear hW3
  have o0 := (HC.out.2.1).cs 0 _ rfl
  have o1 := (HC.out.2.1).cs 1 _ rfl
  have o2 := (HC.out.2.1).cs 2 _ rfl
  have o3 := (HC.out.2.1).cs 3 _ rfl
  have o4 := (HC.out.2.1).cs 4 _ rfl
  have o5 := (HC.out.2.1).cs 5 _ rfl
  have o6 := (HC.out.2.1).cs 6 _ rfl
  have p0 := fun z => (HC.out.1.next (below1 W z)).cs 0 _ rfl
  have p1 := fun z => (HC.out.1.next (below1 W z)).cs 1 _ rfl
  have p2 := fun z => (HC.out.1.next (below1 W z)).cs 2 _ rfl
  have p3 := fun z => (HC.out.1.next (below1 W z)).cs 3 _ rfl
  have v0 := fun z => (HC.out.2.1.next (below1 W z)).cs 0 _ rfl
  have v1 := fun z => (HC.out.2.1.next (below1 W z)).cs 1 _ rfl
  have v2 := fun z => (HC.out.2.1.next (below1 W z)).cs 2 _ rfl
  have v3 := fun z => (HC.out.2.1.next (below1 W z)).cs 3 _ rfl
  have v4 := fun z => (HC.out.2.1.next (below1 W z)).cs 4 _ rfl
  have v5 := fun z => (HC.out.2.1.next (below1 W z)).cs 5 _ rfl
  have v6 := fun z => (HC.out.2.1.next (below1 W z)).cs 6 _ rfl
  have HL : Hid (L.ops = ops ∧ L.S.length = n0 ∧ L.H.length = n1 ∧ L.M.length = n2 ∧ n1 ≤ c1) := ⟨hops, h0, h1, h2, hcap⟩
  have HFR : Hid _ := hfe
  clear hr hfe hops h0 h1 h2 hcap
  have HS : Hid (∀ w' : World, Below W3.heap.size W3 w' → (Below W3.heap.size W3 w' ∧ w'.cell? ⟨w.heap.size, 0, none⟩ = some (.slice a0 n0 c0) ∧ w'.cell? ⟨w.heap.size, 1, none⟩ = some (.slice a1 n1 c1) ∧ w'.cell? ⟨w.heap.size, 2, none⟩ = some (.slice a2 n2 c2) ∧ w'.cell? ⟨w.heap.size, 3, none⟩ = some (.int .i64 ops) ∧ w'.cell? ⟨w.heap.size + 1, 1, none⟩ = some (.string osk) ∧ w'.cell? ⟨w.heap.size + 1, 2, none⟩ = some (.string ol) ∧ w'.cell? ⟨w.heap.size + 1, 4, none⟩ = some (.int .i64 oq))) := fun w' kx => by
    have h1 := HC3.out.1.next kx
    have h2 := HC3.out.2.1.next kx
    exact ⟨kx, h1.cs 0 _ rfl, h1.cs 1 _ rfl, h1.cs 2 _ rfl, h1.cs 3 _ rfl, h2.cs 1 _ rfl, h2.cs 2 _ rfl, h2.cs 4 _ rfl⟩
  have HSD : Hid (∀ w' : World, (Below W3.heap.size W3 w' ∧ w'.cell? ⟨w.heap.size, 0, none⟩ = some (.slice a0 n0 c0) ∧ w'.cell? ⟨w.heap.size, 1, none⟩ = some (.slice a1 n1 c1) ∧ w'.cell? ⟨w.heap.size, 2, none⟩ = some (.slice a2 n2 c2) ∧ w'.cell? ⟨w.heap.size, 3, none⟩ = some (.int .i64 ops) ∧ w'.cell? ⟨w.heap.size + 1, 1, none⟩ = some (.string osk) ∧ w'.cell? ⟨w.heap.size + 1, 2, none⟩ = some (.string ol) ∧ w'.cell? ⟨w.heap.size + 1, 4, none⟩ = some (.int .i64 oq)) → (Below W3.heap.size W3 w'.drew ∧ w'.drew.cell? ⟨w.heap.size, 0, none⟩ = some (.slice a0 n0 c0) ∧ w'.drew.cell? ⟨w.heap.size, 1, none⟩ = some (.slice a1 n1 c1) ∧ w'.drew.cell? ⟨w.heap.size, 2, none⟩ = some (.slice a2 n2 c2) ∧ w'.drew.cell? ⟨w.heap.size, 3, none⟩ = some (.int .i64 ops) ∧ w'.drew.cell? ⟨w.heap.size + 1, 1, none⟩ = some (.string osk) ∧ w'.drew.cell? ⟨w.heap.size + 1, 2, none⟩ = some (.string ol) ∧ w'.drew.cell? ⟨w.heap.size + 1, 4, none⟩ = some (.int .i64 oq))) := fun w' h => HS.out _ h.1.drew
  have HC1 : Hid (∀ w' : World, (Below W3.heap.size W3 w' ∧ w'.cell? ⟨w.heap.size, 0, none⟩ = some (.slice a0 n0 c0) ∧ w'.cell? ⟨w.heap.size, 1, none⟩ = some (.slice a1 n1 c1) ∧ w'.cell? ⟨w.heap.size, 2, none⟩ = some (.slice a2 n2 c2) ∧ w'.cell? ⟨w.heap.size, 3, none⟩ = some (.int .i64 ops) ∧ w'.cell? ⟨w.heap.size + 1, 1, none⟩ = some (.string osk) ∧ w'.cell? ⟨w.heap.size + 1, 2, none⟩ = some (.string ol) ∧ w'.cell? ⟨w.heap.size + 1, 4, none⟩ = some (.int .i64 oq)) → Calls Try.prog 52 #[.agg #[.slice a0 n0 c0, .slice a1 n1 c1, .slice a2 n2 c2, .int .i64 ops], .string osk, .string ol] w' fun e w'' => e = .returned (.int .i64 fr) ∧ (Below W3.heap.size W3 w'' ∧ w''.cell? ⟨w.heap.size, 0, none⟩ = some (.slice a0 n0 c0) ∧ w''.cell? ⟨w.heap.size, 1, none⟩ = some (.slice a1 n1 c1) ∧ w''.cell? ⟨w.heap.size, 2, none⟩ = some (.slice a2 n2 c2) ∧ w''.cell? ⟨w.heap.size, 3, none⟩ = some (.int .i64 ops) ∧ w''.cell? ⟨w.heap.size + 1, 1, none⟩ = some (.string osk) ∧ w''.cell? ⟨w.heap.size + 1, 2, none⟩ = some (.string ol) ∧ w''.cell? ⟨w.heap.size + 1, 4, none⟩ = some (.int .i64 oq))) := fun w' h => (HFR.out w' (Below.next HC3.out.2.2.2.1 h.1)).mono fun e w'' ⟨r1, r2⟩ => ⟨r1, HS.out _ (Below.next h.1 r2)⟩
  go_enter Try.func28, Try.ntmps28
  go_wp2_with fail
  rw [HW3.out]
  refine wp_region_held_drew (S := (fun (w' : World) => (Below W3.heap.size W3 w' ∧ w'.cell? ⟨w.heap.size, 0, none⟩ = some (.slice a0 n0 c0) ∧ w'.cell? ⟨w.heap.size, 1, none⟩ = some (.slice a1 n1 c1) ∧ w'.cell? ⟨w.heap.size, 2, none⟩ = some (.slice a2 n2 c2) ∧ w'.cell? ⟨w.heap.size, 3, none⟩ = some (.int .i64 ops) ∧ w'.cell? ⟨w.heap.size + 1, 1, none⟩ = some (.string osk) ∧ w'.cell? ⟨w.heap.size + 1, 2, none⟩ = some (.string ol) ∧ w'.cell? ⟨w.heap.size + 1, 4, none⟩ = some (.int .i64 oq)))) (by kernel_rfl) (HSD.out _ (HS.out _ (Below.refl _ _))) (fun hHeld => ?_)
  refine wpAnyH_take (i := 0) (oi := { dst := some 48, op := Op.load 26 (Operand.tmp 2), type := 26, pos := "ref.go:201", after := #[], guard := none }) (v := .agg #[.slice a0 n0 c0, .slice a1 n1 c1, .slice a2 n2 c2, .int .i64 ops]) rfl (by kernel_rfl) (by kernel_rfl) (by kernel_rfl) (fun _ _ _ h => h) (Or.inl ⟨by rfl, ?_⟩) (by with_reducible assumption) ?_
  · intro wx hSw
    (try dsimp only at hSw)
    first | (go_simp; done) | (go_simp; with_reducible rfl)
  try simp only [Act.put, List.setIfInBounds_toArray, List.set_cons_zero, List.set_cons_succ]
  refine wpAnyH_take (i := 1) (oi := { dst := some 49, op := Op.fieldAddr 28 (Operand.tmp 3) 1, type := 0, pos := "ref.go:201", after := #[], guard := none }) (v := .pointer (some ⟨w.heap.size + 1, 1, none⟩)) rfl (by kernel_rfl) (by kernel_rfl) (by kernel_rfl) (fun _ _ _ h => h) (Or.inl ⟨by rfl, ?_⟩) (by with_reducible assumption) ?_
  · intro wx hSw
    (try dsimp only at hSw)
    first | (go_simp; done) | (go_simp; with_reducible rfl)
  try simp only [Act.put, List.setIfInBounds_toArray, List.set_cons_zero, List.set_cons_succ]
  refine wpAnyH_take (i := 2) (oi := { dst := some 50, op := Op.load 9 (Operand.tmp 49), type := 9, pos := "ref.go:201", after := #[{ on := 1, ground := Ground.data }], guard := none }) (v := .string osk) rfl (by kernel_rfl) (by kernel_rfl) (by kernel_rfl) (fun _ _ _ h => h) (Or.inl ⟨by rfl, ?_⟩) (by with_reducible assumption) ?_
  · intro wx hSw
    (try dsimp only at hSw)
    first | (go_simp; done) | (go_simp; with_reducible rfl)
  try simp only [Act.put, List.setIfInBounds_toArray, List.set_cons_zero, List.set_cons_succ]
  refine wpAnyH_take (i := 3) (oi := { dst := some 51, op := Op.fieldAddr 28 (Operand.tmp 3) 2, type := 0, pos := "ref.go:201", after := #[], guard := none }) (v := .pointer (some ⟨w.heap.size + 1, 2, none⟩)) rfl (by kernel_rfl) (by kernel_rfl) (by kernel_rfl) (fun _ _ _ h => h) (Or.inl ⟨by rfl, ?_⟩) (by with_reducible assumption) ?_
  · intro wx hSw
    (try dsimp only at hSw)
    first | (go_simp; done) | (go_simp; with_reducible rfl)
  try simp only [Act.put, List.setIfInBounds_toArray, List.set_cons_zero, List.set_cons_succ]
  refine wpAnyH_take (i := 4) (oi := { dst := some 52, op := Op.load 9 (Operand.tmp 51), type := 9, pos := "ref.go:201", after := #[{ on := 3, ground := Ground.data }], guard := none }) (v := .string ol) rfl (by kernel_rfl) (by kernel_rfl) (by kernel_rfl) (fun _ _ _ h => h) (Or.inl ⟨by rfl, ?_⟩) (by with_reducible assumption) ?_
  · intro wx hSw
    (try dsimp only at hSw)
    first | (go_simp; done) | (go_simp; with_reducible rfl)
  try simp only [Act.put, List.setIfInBounds_toArray, List.set_cons_zero, List.set_cons_succ]
  refine wpAnyH_take (i := 6) (oi := { dst := some 54, op := Op.fieldAddr 28 (Operand.tmp 3) 4, type := 0, pos := "ref.go:201", after := #[], guard := none }) (v := .pointer (some ⟨w.heap.size + 1, 4, none⟩)) rfl (by kernel_rfl) (by kernel_rfl) (by kernel_rfl) (fun _ _ _ h => h) (Or.inl ⟨by rfl, ?_⟩) (by with_reducible assumption) ?_
  · intro wx hSw
    (try dsimp only at hSw)
    first | (go_simp; done) | (go_simp; with_reducible rfl)
  try simp only [Act.put, List.setIfInBounds_toArray, List.set_cons_zero, List.set_cons_succ]
  refine wpAnyH_take (i := 7) (oi := { dst := some 55, op := Op.load 3 (Operand.tmp 54), type := 3, pos := "ref.go:201", after := #[{ on := 6, ground := Ground.data }], guard := none }) (v := .int .i64 oq) rfl (by kernel_rfl) (by kernel_rfl) (by kernel_rfl) (fun _ _ _ h => h) (Or.inl ⟨by rfl, ?_⟩) (by with_reducible assumption) ?_
  · intro wx hSw
    (try dsimp only at hSw)
    first | (go_simp; done) | (go_simp; with_reducible rfl)
  try simp only [Act.put, List.setIfInBounds_toArray, List.set_cons_zero, List.set_cons_succ]
  refine wpAnyH_ready (rs := [5]) (by kernel_rfl) (by simp) ?_
  refine AllReadyH.cons rfl (fun K hK => ?_) AllReadyH.nil
  go_simp
  go_wp2_with (((with_reducible refine Calls.mono (HC1.out _ (by with_reducible assumption)) ?_); rintro e w4 ⟨rfl, hS5⟩))
  refine hK.out _ _ (by with_reducible assumption) (fun hHeld5 => ?_)
  clear hK K
  try simp only [Act.put, List.setIfInBounds_toArray, List.set_cons_zero, List.set_cons_succ]
  refine wpAnyH_take (i := 8) (oi := { dst := some 56, op := Op.binOp BinOp.lss 3 (Operand.tmp 53) (Operand.tmp 55) 3, type := 4, pos := "ref.go:201", after := #[{ on := 5, ground := Ground.data }, { on := 7, ground := Ground.data }], guard := none }) (v := .bool true) rfl (by kernel_rfl) (by kernel_rfl) (by kernel_rfl) (fun _ _ _ h => h) (Or.inl ⟨by rfl, ?_⟩) (by with_reducible assumption) ?_
  · intro wx hSw
    (try dsimp only at hSw)
    first | (go_simp; done) | (go_simp; with_reducible rfl)
  try simp only [Act.put, List.setIfInBounds_toArray, List.set_cons_zero, List.set_cons_succ]
  refine wpAnyH_done (by kernel_rfl) ?_ _
  have HK4 : Hid (Below W3.heap.size W3 w4) := hS5.1
  clear hS5 HS HSD HC1 hHeld hHeld5
  clear o0 o1 o2 o3 o4 o5 o6 p0 p1 p2 p3 v0 v1 v2 v3 v4 v5 v6
  have hq1 := HC3.out.1.next HK4.out
  have hq2 := HC3.out.2.1.next HK4.out
  have hq5 := HC3.out.2.2.2.2.next HK4.out
  have l0 := (hq1).cs 0 _ rfl
  have l1 := (hq1).cs 1 _ rfl
  have l2 := (hq1).cs 2 _ rfl
  have l3 := (hq1).cs 3 _ rfl
  have x0 := (hq2).cs 0 _ rfl
  have x1 := (hq2).cs 1 _ rfl
  have x2 := (hq2).cs 2 _ rfl
  have x3 := (hq2).cs 3 _ rfl
  have x4 := (hq2).cs 4 _ rfl
  have x5 := (hq2).cs 5 _ rfl
  have x6 := (hq2).cs 6 _ rfl
  have t0 := (hq5).cs 0 _ rfl
  have t1 := (hq5).cs 1 _ rfl
  have t2 := (hq5).cs 2 _ rfl
  have t3 := (hq5).cs 3 _ rfl
  clear hq1 hq2 hq5
  have hz4 := HC3.out.2.2.1.next HK4.out
  have HCZ : Hid (CellsF w4 (w.heap.size + 1 + 1) [.slice none 0 0, .slice none 0 0, .slice none 0 0, .int .i64 0]) := hz4
  have HFIN : Hid (∀ u0 u1 u2 u3, Lies ((((w4.setCell ⟨(w.heap.size + 1 + 1), 0, none⟩ u0).setCell ⟨(w.heap.size + 1 + 1), 1, none⟩ u1).setCell ⟨(w.heap.size + 1 + 1), 2, none⟩ u2).setCell ⟨(w.heap.size + 1 + 1), 3, none⟩ u3) a0 a1 a2 L ∧ Below w.heap.size w ((((w4.setCell ⟨(w.heap.size + 1 + 1), 0, none⟩ u0).setCell ⟨(w.heap.size + 1 + 1), 1, none⟩ u1).setCell ⟨(w.heap.size + 1 + 1), 2, none⟩ u2).setCell ⟨(w.heap.size + 1 + 1), 3, none⟩ u3)) := fun u0 u1 u2 u3 => ⟨(HR.out.next (Below.next HC3.out.2.2.2.1 HK4.out)).four HNA.out _ _ _ _, below_four (Below.next HC3.out.2.2.2.1 HK4.out) _ (by omega) _ _ _ _⟩
  have z0 := (hz4).cs 0 _ rfl
  have z1 := (hz4).cs 1 _ rfl
  have z2 := (hz4).cs 2 _ rfl
  have z3 := (hz4).cs 3 _ rfl
  have g0 := (hz4).fz 0
  have g1 := (hz4).fz 1
  have g2 := (hz4).fz 2
  have g3 := (hz4).fz 3
  clear hz4
  go_wp2_with fail
  try simp only [Exit.inBlock, Exit.then]
  refine bodyPost_ret (end_cell_tmp rfl rfl (loadLed _ (HCZ.out.four rfl _ _ _ _) rfl)) rfl ?_
  exact ⟨_, _, _, _, _, _, _, _, _, by rw [HL.out.1]; rfl, HL.out.2.1, HL.out.2.2.1, HL.out.2.2.2.1, (HFIN.out _ _ _ _).1, HL.out.2.2.2.2, (HFIN.out _ _ _ _).2, SrcL.refl _ _ _ _ _⟩
set_option maxHeartbeats 4000000 in
theorem rdoes_6_less (a0 : Option Addr) (n0 c0 : Nat) (a1 : Option Addr) (n1 c1 : Nat) (a2 : Option Addr) (n2 c2 : Nat) (ops : Int) (L : Led) (osk ol ot : ByteArray) (oq id od : Int) (w : World) (fr : Int) (hfe : ∀ w', Below w.heap.size w w' → Calls Try.prog 52 #[.agg #[.slice a0 n0 c0, .slice a1 n1 c1, .slice a2 n2 c2, .int .i64 ops], .string osk, .string ol] w' fun e w'' => e = .returned (.int .i64 fr) ∧ Below w'.heap.size w' w'') (hlt : fr < oq) (hr : Lies w a0 a1 a2 L) (hops : L.ops = ops) (h0 : L.S.length = n0) (h1 : L.H.length = n1) (h2 : L.M.length = n2) (hcap : n1 ≤ c1) :
    Calls Try.prog 28 #[.agg #[.slice a0 n0 c0, .slice a1 n1 c1, .slice a2 n2 c2, .int .i64 ops], .agg #[.int .i64 6, .string osk, .string ol, .string ot, .int .i64 oq, .int .i64 id, .int .i64 od]] w fun e w' => LeP a0 a1 a2 L w w' L 70 e := by
  obtain ⟨W, hW⟩ : ∃ W, ((w.alloc (.cells #[.slice a0 n0 c0, .slice a1 n1 c1, .slice a2 n2 c2, .int .i64 ops] 26)).alloc (.cells #[.int .i64 6, .string osk, .string ol, .string ot, .int .i64 oq, .int .i64 id, .int .i64 od] 28)).alloc (.cells #[.slice none 0 0, .slice none 0 0, .slice none 0 0, .int .i64 0] 26) = W := ⟨_, rfl⟩
  have HC : Hid (CellsF W w.heap.size [.slice a0 n0 c0, .slice a1 n1 c1, .slice a2 n2 c2, .int .i64 ops] ∧ CellsF W (w.heap.size + 1) [.int .i64 6, .string osk, .string ol, .string ot, .int .i64 oq, .int .i64 id, .int .i64 od] ∧ CellsF W (w.heap.size + 1 + 1) [.slice none 0 0, .slice none 0 0, .slice none 0 0, .int .i64 0] ∧ Below w.heap.size w W) := by
    show _ ∧ _
    rw [← hW]
    exact ⟨((CellsF.at _ 26 (by simp) rfl).next (below1 _ _)).next (below1 _ _), (CellsF.at _ 28 (by simp) (by rw [size_alloc])).next (below1 _ _), CellsF.at _ 26 (by simp) (by rw [size_alloc, size_alloc]), below3 _ _ _ _⟩
  obtain ⟨W3, hW3⟩ : ∃ W3, W.alloc (.cells #[.string osk, .string ol, .int .i64 0, .int .i64 0] 50) = W3 := ⟨_, rfl⟩
  have HC3 : Hid (CellsF W3 w.heap.size [.slice a0 n0 c0, .slice a1 n1 c1, .slice a2 n2 c2, .int .i64 ops] ∧ CellsF W3 (w.heap.size + 1) [.int .i64 6, .string osk, .string ol, .string ot, .int .i64 oq, .int .i64 id, .int .i64 od] ∧ CellsF W3 (w.heap.size + 1 + 1) [.slice none 0 0, .slice none 0 0, .slice none 0 0, .int .i64 0] ∧ Below w.heap.size w W3 ∧ CellsF W3 W.heap.size [.string osk, .string ol, .int .i64 0, .int .i64 0]) := by
    show _ ∧ _
    rw [← hW3]
    exact ⟨HC.out.1.next (below1 _ _), HC.out.2.1.next (below1 _ _), HC.out.2.2.1.next (below1 _ _), Below.next HC.out.2.2.2 (below1 _ _), CellsF.at _ 50 (by simp) rfl⟩
  have HW3 : Hid (W.alloc (.cells #[.string osk, .string ol, .int .i64 0, .int .i64 0] 50) = W3) := hW3
  have HNA : Hid (NotAt (w.heap.size + 1 + 1) a0 a1 a2 L) := notAt_of hr (by omega)
  have HR : Hid (Lies w a0 a1 a2 L) := hr
  clear hW3
  have o0 := (HC.out.2.1).cs 0 _ rfl
  have o1 := (HC.out.2.1).cs 1 _ rfl
  have o2 := (HC.out.2.1).cs 2 _ rfl
  have o3 := (HC.out.2.1).cs 3 _ rfl
  have o4 := (HC.out.2.1).cs 4 _ rfl
  have o5 := (HC.out.2.1).cs 5 _ rfl
  have o6 := (HC.out.2.1).cs 6 _ rfl
  have p0 := fun z => (HC.out.1.next (below1 W z)).cs 0 _ rfl
  have p1 := fun z => (HC.out.1.next (below1 W z)).cs 1 _ rfl
  have p2 := fun z => (HC.out.1.next (below1 W z)).cs 2 _ rfl
  have p3 := fun z => (HC.out.1.next (below1 W z)).cs 3 _ rfl
  have v0 := fun z => (HC.out.2.1.next (below1 W z)).cs 0 _ rfl
  have v1 := fun z => (HC.out.2.1.next (below1 W z)).cs 1 _ rfl
  have v2 := fun z => (HC.out.2.1.next (below1 W z)).cs 2 _ rfl
  have v3 := fun z => (HC.out.2.1.next (below1 W z)).cs 3 _ rfl
  have v4 := fun z => (HC.out.2.1.next (below1 W z)).cs 4 _ rfl
  have v5 := fun z => (HC.out.2.1.next (below1 W z)).cs 5 _ rfl
  have v6 := fun z => (HC.out.2.1.next (below1 W z)).cs 6 _ rfl
  have HL : Hid (L.ops = ops ∧ L.S.length = n0 ∧ L.H.length = n1 ∧ L.M.length = n2 ∧ n1 ≤ c1) := ⟨hops, h0, h1, h2, hcap⟩
  have HFR : Hid _ := hfe
  clear hr hfe hops h0 h1 h2 hcap
  have HS : Hid (∀ w' : World, Below W3.heap.size W3 w' → (Below W3.heap.size W3 w' ∧ w'.cell? ⟨w.heap.size, 0, none⟩ = some (.slice a0 n0 c0) ∧ w'.cell? ⟨w.heap.size, 1, none⟩ = some (.slice a1 n1 c1) ∧ w'.cell? ⟨w.heap.size, 2, none⟩ = some (.slice a2 n2 c2) ∧ w'.cell? ⟨w.heap.size, 3, none⟩ = some (.int .i64 ops) ∧ w'.cell? ⟨w.heap.size + 1, 1, none⟩ = some (.string osk) ∧ w'.cell? ⟨w.heap.size + 1, 2, none⟩ = some (.string ol) ∧ w'.cell? ⟨w.heap.size + 1, 4, none⟩ = some (.int .i64 oq))) := fun w' kx => by
    have h1 := HC3.out.1.next kx
    have h2 := HC3.out.2.1.next kx
    exact ⟨kx, h1.cs 0 _ rfl, h1.cs 1 _ rfl, h1.cs 2 _ rfl, h1.cs 3 _ rfl, h2.cs 1 _ rfl, h2.cs 2 _ rfl, h2.cs 4 _ rfl⟩
  have HSD : Hid (∀ w' : World, (Below W3.heap.size W3 w' ∧ w'.cell? ⟨w.heap.size, 0, none⟩ = some (.slice a0 n0 c0) ∧ w'.cell? ⟨w.heap.size, 1, none⟩ = some (.slice a1 n1 c1) ∧ w'.cell? ⟨w.heap.size, 2, none⟩ = some (.slice a2 n2 c2) ∧ w'.cell? ⟨w.heap.size, 3, none⟩ = some (.int .i64 ops) ∧ w'.cell? ⟨w.heap.size + 1, 1, none⟩ = some (.string osk) ∧ w'.cell? ⟨w.heap.size + 1, 2, none⟩ = some (.string ol) ∧ w'.cell? ⟨w.heap.size + 1, 4, none⟩ = some (.int .i64 oq)) → (Below W3.heap.size W3 w'.drew ∧ w'.drew.cell? ⟨w.heap.size, 0, none⟩ = some (.slice a0 n0 c0) ∧ w'.drew.cell? ⟨w.heap.size, 1, none⟩ = some (.slice a1 n1 c1) ∧ w'.drew.cell? ⟨w.heap.size, 2, none⟩ = some (.slice a2 n2 c2) ∧ w'.drew.cell? ⟨w.heap.size, 3, none⟩ = some (.int .i64 ops) ∧ w'.drew.cell? ⟨w.heap.size + 1, 1, none⟩ = some (.string osk) ∧ w'.drew.cell? ⟨w.heap.size + 1, 2, none⟩ = some (.string ol) ∧ w'.drew.cell? ⟨w.heap.size + 1, 4, none⟩ = some (.int .i64 oq))) := fun w' h => HS.out _ h.1.drew
  have HC1 : Hid (∀ w' : World, (Below W3.heap.size W3 w' ∧ w'.cell? ⟨w.heap.size, 0, none⟩ = some (.slice a0 n0 c0) ∧ w'.cell? ⟨w.heap.size, 1, none⟩ = some (.slice a1 n1 c1) ∧ w'.cell? ⟨w.heap.size, 2, none⟩ = some (.slice a2 n2 c2) ∧ w'.cell? ⟨w.heap.size, 3, none⟩ = some (.int .i64 ops) ∧ w'.cell? ⟨w.heap.size + 1, 1, none⟩ = some (.string osk) ∧ w'.cell? ⟨w.heap.size + 1, 2, none⟩ = some (.string ol) ∧ w'.cell? ⟨w.heap.size + 1, 4, none⟩ = some (.int .i64 oq)) → Calls Try.prog 52 #[.agg #[.slice a0 n0 c0, .slice a1 n1 c1, .slice a2 n2 c2, .int .i64 ops], .string osk, .string ol] w' fun e w'' => e = .returned (.int .i64 fr) ∧ (Below W3.heap.size W3 w'' ∧ w''.cell? ⟨w.heap.size, 0, none⟩ = some (.slice a0 n0 c0) ∧ w''.cell? ⟨w.heap.size, 1, none⟩ = some (.slice a1 n1 c1) ∧ w''.cell? ⟨w.heap.size, 2, none⟩ = some (.slice a2 n2 c2) ∧ w''.cell? ⟨w.heap.size, 3, none⟩ = some (.int .i64 ops) ∧ w''.cell? ⟨w.heap.size + 1, 1, none⟩ = some (.string osk) ∧ w''.cell? ⟨w.heap.size + 1, 2, none⟩ = some (.string ol) ∧ w''.cell? ⟨w.heap.size + 1, 4, none⟩ = some (.int .i64 oq))) := fun w' h => (HFR.out w' (Below.next HC3.out.2.2.2.1 h.1)).mono fun e w'' ⟨r1, r2⟩ => ⟨r1, HS.out _ (Below.next h.1 r2)⟩
  go_enter Try.func28, Try.ntmps28
  go_wp2_with fail
  rw [HW3.out]
  refine wp_region_held_drew (S := (fun (w' : World) => (Below W3.heap.size W3 w' ∧ w'.cell? ⟨w.heap.size, 0, none⟩ = some (.slice a0 n0 c0) ∧ w'.cell? ⟨w.heap.size, 1, none⟩ = some (.slice a1 n1 c1) ∧ w'.cell? ⟨w.heap.size, 2, none⟩ = some (.slice a2 n2 c2) ∧ w'.cell? ⟨w.heap.size, 3, none⟩ = some (.int .i64 ops) ∧ w'.cell? ⟨w.heap.size + 1, 1, none⟩ = some (.string osk) ∧ w'.cell? ⟨w.heap.size + 1, 2, none⟩ = some (.string ol) ∧ w'.cell? ⟨w.heap.size + 1, 4, none⟩ = some (.int .i64 oq)))) (by kernel_rfl) (HSD.out _ (HS.out _ (Below.refl _ _))) (fun hHeld => ?_)
  refine wpAnyH_take (i := 0) (oi := { dst := some 101, op := Op.load 26 (Operand.tmp 2), type := 26, pos := "ref.go:214", after := #[], guard := none }) (v := .agg #[.slice a0 n0 c0, .slice a1 n1 c1, .slice a2 n2 c2, .int .i64 ops]) rfl (by kernel_rfl) (by kernel_rfl) (by kernel_rfl) (fun _ _ _ h => h) (Or.inl ⟨by rfl, ?_⟩) (by with_reducible assumption) ?_
  · intro wx hSw
    (try dsimp only at hSw)
    first | (go_simp; done) | (go_simp; with_reducible rfl)
  try simp only [Act.put, List.setIfInBounds_toArray, List.set_cons_zero, List.set_cons_succ]
  refine wpAnyH_take (i := 1) (oi := { dst := some 102, op := Op.fieldAddr 28 (Operand.tmp 3) 1, type := 0, pos := "ref.go:214", after := #[], guard := none }) (v := .pointer (some ⟨w.heap.size + 1, 1, none⟩)) rfl (by kernel_rfl) (by kernel_rfl) (by kernel_rfl) (fun _ _ _ h => h) (Or.inl ⟨by rfl, ?_⟩) (by with_reducible assumption) ?_
  · intro wx hSw
    (try dsimp only at hSw)
    first | (go_simp; done) | (go_simp; with_reducible rfl)
  try simp only [Act.put, List.setIfInBounds_toArray, List.set_cons_zero, List.set_cons_succ]
  refine wpAnyH_take (i := 2) (oi := { dst := some 103, op := Op.load 9 (Operand.tmp 102), type := 9, pos := "ref.go:214", after := #[{ on := 1, ground := Ground.data }], guard := none }) (v := .string osk) rfl (by kernel_rfl) (by kernel_rfl) (by kernel_rfl) (fun _ _ _ h => h) (Or.inl ⟨by rfl, ?_⟩) (by with_reducible assumption) ?_
  · intro wx hSw
    (try dsimp only at hSw)
    first | (go_simp; done) | (go_simp; with_reducible rfl)
  try simp only [Act.put, List.setIfInBounds_toArray, List.set_cons_zero, List.set_cons_succ]
  refine wpAnyH_take (i := 3) (oi := { dst := some 104, op := Op.fieldAddr 28 (Operand.tmp 3) 2, type := 0, pos := "ref.go:214", after := #[], guard := none }) (v := .pointer (some ⟨w.heap.size + 1, 2, none⟩)) rfl (by kernel_rfl) (by kernel_rfl) (by kernel_rfl) (fun _ _ _ h => h) (Or.inl ⟨by rfl, ?_⟩) (by with_reducible assumption) ?_
  · intro wx hSw
    (try dsimp only at hSw)
    first | (go_simp; done) | (go_simp; with_reducible rfl)
  try simp only [Act.put, List.setIfInBounds_toArray, List.set_cons_zero, List.set_cons_succ]
  refine wpAnyH_take (i := 4) (oi := { dst := some 105, op := Op.load 9 (Operand.tmp 104), type := 9, pos := "ref.go:214", after := #[{ on := 3, ground := Ground.data }], guard := none }) (v := .string ol) rfl (by kernel_rfl) (by kernel_rfl) (by kernel_rfl) (fun _ _ _ h => h) (Or.inl ⟨by rfl, ?_⟩) (by with_reducible assumption) ?_
  · intro wx hSw
    (try dsimp only at hSw)
    first | (go_simp; done) | (go_simp; with_reducible rfl)
  try simp only [Act.put, List.setIfInBounds_toArray, List.set_cons_zero, List.set_cons_succ]
  refine wpAnyH_take (i := 6) (oi := { dst := some 107, op := Op.fieldAddr 28 (Operand.tmp 3) 4, type := 0, pos := "ref.go:214", after := #[], guard := none }) (v := .pointer (some ⟨w.heap.size + 1, 4, none⟩)) rfl (by kernel_rfl) (by kernel_rfl) (by kernel_rfl) (fun _ _ _ h => h) (Or.inl ⟨by rfl, ?_⟩) (by with_reducible assumption) ?_
  · intro wx hSw
    (try dsimp only at hSw)
    first | (go_simp; done) | (go_simp; with_reducible rfl)
  try simp only [Act.put, List.setIfInBounds_toArray, List.set_cons_zero, List.set_cons_succ]
  refine wpAnyH_take (i := 7) (oi := { dst := some 108, op := Op.load 3 (Operand.tmp 107), type := 3, pos := "ref.go:214", after := #[{ on := 6, ground := Ground.data }], guard := none }) (v := .int .i64 oq) rfl (by kernel_rfl) (by kernel_rfl) (by kernel_rfl) (fun _ _ _ h => h) (Or.inl ⟨by rfl, ?_⟩) (by with_reducible assumption) ?_
  · intro wx hSw
    (try dsimp only at hSw)
    first | (go_simp; done) | (go_simp; with_reducible rfl)
  try simp only [Act.put, List.setIfInBounds_toArray, List.set_cons_zero, List.set_cons_succ]
  refine wpAnyH_ready (rs := [5]) (by kernel_rfl) (by simp) ?_
  refine AllReadyH.cons rfl (fun K hK => ?_) AllReadyH.nil
  go_simp
  go_wp2_with (((with_reducible refine Calls.mono (HC1.out _ (by with_reducible assumption)) ?_); rintro e w4 ⟨rfl, hS5⟩))
  refine hK.out _ _ (by with_reducible assumption) (fun hHeld5 => ?_)
  clear hK K
  try simp only [Act.put, List.setIfInBounds_toArray, List.set_cons_zero, List.set_cons_succ]
  refine wpAnyH_take (i := 8) (oi := { dst := some 109, op := Op.binOp BinOp.lss 3 (Operand.tmp 106) (Operand.tmp 108) 3, type := 4, pos := "ref.go:214", after := #[{ on := 5, ground := Ground.data }, { on := 7, ground := Ground.data }], guard := none }) (v := .bool true) rfl (by kernel_rfl) (by kernel_rfl) (by kernel_rfl) (fun _ _ _ h => h) (Or.inl ⟨by rfl, ?_⟩) (by with_reducible assumption) ?_
  · intro wx hSw
    (try dsimp only at hSw)
    first | (go_simp; done) | (go_simp; with_reducible rfl)
  try simp only [Act.put, List.setIfInBounds_toArray, List.set_cons_zero, List.set_cons_succ]
  refine wpAnyH_done (by kernel_rfl) ?_ _
  have HK4 : Hid (Below W3.heap.size W3 w4) := hS5.1
  clear hS5 HS HSD HC1 hHeld hHeld5
  clear o0 o1 o2 o3 o4 o5 o6 p0 p1 p2 p3 v0 v1 v2 v3 v4 v5 v6
  have hq1 := HC3.out.1.next HK4.out
  have hq2 := HC3.out.2.1.next HK4.out
  have hq5 := HC3.out.2.2.2.2.next HK4.out
  have l0 := (hq1).cs 0 _ rfl
  have l1 := (hq1).cs 1 _ rfl
  have l2 := (hq1).cs 2 _ rfl
  have l3 := (hq1).cs 3 _ rfl
  have x0 := (hq2).cs 0 _ rfl
  have x1 := (hq2).cs 1 _ rfl
  have x2 := (hq2).cs 2 _ rfl
  have x3 := (hq2).cs 3 _ rfl
  have x4 := (hq2).cs 4 _ rfl
  have x5 := (hq2).cs 5 _ rfl
  have x6 := (hq2).cs 6 _ rfl
  have t0 := (hq5).cs 0 _ rfl
  have t1 := (hq5).cs 1 _ rfl
  have t2 := (hq5).cs 2 _ rfl
  have t3 := (hq5).cs 3 _ rfl
  clear hq1 hq2 hq5
  have hz4 := HC3.out.2.2.1.next HK4.out
  have HCZ : Hid (CellsF w4 (w.heap.size + 1 + 1) [.slice none 0 0, .slice none 0 0, .slice none 0 0, .int .i64 0]) := hz4
  have HFIN : Hid (∀ u0 u1 u2 u3, Lies ((((w4.setCell ⟨(w.heap.size + 1 + 1), 0, none⟩ u0).setCell ⟨(w.heap.size + 1 + 1), 1, none⟩ u1).setCell ⟨(w.heap.size + 1 + 1), 2, none⟩ u2).setCell ⟨(w.heap.size + 1 + 1), 3, none⟩ u3) a0 a1 a2 L ∧ Below w.heap.size w ((((w4.setCell ⟨(w.heap.size + 1 + 1), 0, none⟩ u0).setCell ⟨(w.heap.size + 1 + 1), 1, none⟩ u1).setCell ⟨(w.heap.size + 1 + 1), 2, none⟩ u2).setCell ⟨(w.heap.size + 1 + 1), 3, none⟩ u3)) := fun u0 u1 u2 u3 => ⟨(HR.out.next (Below.next HC3.out.2.2.2.1 HK4.out)).four HNA.out _ _ _ _, below_four (Below.next HC3.out.2.2.2.1 HK4.out) _ (by omega) _ _ _ _⟩
  have z0 := (hz4).cs 0 _ rfl
  have z1 := (hz4).cs 1 _ rfl
  have z2 := (hz4).cs 2 _ rfl
  have z3 := (hz4).cs 3 _ rfl
  have g0 := (hz4).fz 0
  have g1 := (hz4).fz 1
  have g2 := (hz4).fz 2
  have g3 := (hz4).fz 3
  clear hz4
  go_wp2_with fail
  try simp only [Exit.inBlock, Exit.then]
  refine bodyPost_ret (end_cell_tmp rfl rfl (loadLed _ (HCZ.out.four rfl _ _ _ _) rfl)) rfl ?_
  exact ⟨_, _, _, _, _, _, _, _, _, by rw [HL.out.1]; rfl, HL.out.2.1, HL.out.2.2.1, HL.out.2.2.2.1, (HFIN.out _ _ _ _).1, HL.out.2.2.2.2, (HFIN.out _ _ _ _).2, SrcL.refl _ _ _ _ _⟩
set_option maxHeartbeats 4000000 in
theorem rdoes_6_no (a0 : Option Addr) (n0 c0 : Nat) (a1 : Option Addr) (n1 c1 : Nat) (a2 : Option Addr) (n2 c2 : Nat) (ops : Int) (L : Led) (osk ol ot : ByteArray) (oq id od : Int) (w : World) (fr : Int) (hfe : ∀ w', Below w.heap.size w w' → Calls Try.prog 52 #[.agg #[.slice a0 n0 c0, .slice a1 n1 c1, .slice a2 n2 c2, .int .i64 ops], .string osk, .string ol] w' fun e w'' => e = .returned (.int .i64 fr) ∧ Below w'.heap.size w' w'') (hlt : ¬ fr < oq) (v err : Int) (herr : ¬ err = 0) (hmo : ∀ w', Below w.heap.size w w' → Calls Try.prog 50 #[.agg #[.slice a0 n0 c0, .slice a1 n1 c1, .slice a2 n2 c2, .int .i64 ops], .string osk, .string ot, .int .i64 oq] w' fun e w'' => e = .returned (.tuple #[.int .i64 v, .int .i64 err]) ∧ Below w'.heap.size w' w'') (hr : Lies w a0 a1 a2 L) (hops : L.ops = ops) (h0 : L.S.length = n0) (h1 : L.H.length = n1) (h2 : L.M.length = n2) (hcap : n1 ≤ c1) :
    Calls Try.prog 28 #[.agg #[.slice a0 n0 c0, .slice a1 n1 c1, .slice a2 n2 c2, .int .i64 ops], .agg #[.int .i64 6, .string osk, .string ol, .string ot, .int .i64 oq, .int .i64 id, .int .i64 od]] w fun e w' => LeP a0 a1 a2 L w w' L err e := by
  obtain ⟨W, hW⟩ : ∃ W, ((w.alloc (.cells #[.slice a0 n0 c0, .slice a1 n1 c1, .slice a2 n2 c2, .int .i64 ops] 26)).alloc (.cells #[.int .i64 6, .string osk, .string ol, .string ot, .int .i64 oq, .int .i64 id, .int .i64 od] 28)).alloc (.cells #[.slice none 0 0, .slice none 0 0, .slice none 0 0, .int .i64 0] 26) = W := ⟨_, rfl⟩
  have HC : Hid (CellsF W w.heap.size [.slice a0 n0 c0, .slice a1 n1 c1, .slice a2 n2 c2, .int .i64 ops] ∧ CellsF W (w.heap.size + 1) [.int .i64 6, .string osk, .string ol, .string ot, .int .i64 oq, .int .i64 id, .int .i64 od] ∧ CellsF W (w.heap.size + 1 + 1) [.slice none 0 0, .slice none 0 0, .slice none 0 0, .int .i64 0] ∧ Below w.heap.size w W) := by
    show _ ∧ _
    rw [← hW]
    exact ⟨((CellsF.at _ 26 (by simp) rfl).next (below1 _ _)).next (below1 _ _), (CellsF.at _ 28 (by simp) (by rw [size_alloc])).next (below1 _ _), CellsF.at _ 26 (by simp) (by rw [size_alloc, size_alloc]), below3 _ _ _ _⟩
  obtain ⟨W3, hW3⟩ : ∃ W3, W.alloc (.cells #[.string osk, .string ol, .int .i64 0, .int .i64 0] 50) = W3 := ⟨_, rfl⟩
  have HC3 : Hid (CellsF W3 w.heap.size [.slice a0 n0 c0, .slice a1 n1 c1, .slice a2 n2 c2, .int .i64 ops] ∧ CellsF W3 (w.heap.size + 1) [.int .i64 6, .string osk, .string ol, .string ot, .int .i64 oq, .int .i64 id, .int .i64 od] ∧ CellsF W3 (w.heap.size + 1 + 1) [.slice none 0 0, .slice none 0 0, .slice none 0 0, .int .i64 0] ∧ Below w.heap.size w W3 ∧ CellsF W3 W.heap.size [.string osk, .string ol, .int .i64 0, .int .i64 0]) := by
    show _ ∧ _
    rw [← hW3]
    exact ⟨HC.out.1.next (below1 _ _), HC.out.2.1.next (below1 _ _), HC.out.2.2.1.next (below1 _ _), Below.next HC.out.2.2.2 (below1 _ _), CellsF.at _ 50 (by simp) rfl⟩
  have HW3 : Hid (W.alloc (.cells #[.string osk, .string ol, .int .i64 0, .int .i64 0] 50) = W3) := hW3
  have HNA : Hid (NotAt (w.heap.size + 1 + 1) a0 a1 a2 L) := notAt_of hr (by omega)
  have HR : Hid (Lies w a0 a1 a2 L) := hr
  clear hW3
  have o0 := (HC.out.2.1).cs 0 _ rfl
  have o1 := (HC.out.2.1).cs 1 _ rfl
  have o2 := (HC.out.2.1).cs 2 _ rfl
  have o3 := (HC.out.2.1).cs 3 _ rfl
  have o4 := (HC.out.2.1).cs 4 _ rfl
  have o5 := (HC.out.2.1).cs 5 _ rfl
  have o6 := (HC.out.2.1).cs 6 _ rfl
  have p0 := fun z => (HC.out.1.next (below1 W z)).cs 0 _ rfl
  have p1 := fun z => (HC.out.1.next (below1 W z)).cs 1 _ rfl
  have p2 := fun z => (HC.out.1.next (below1 W z)).cs 2 _ rfl
  have p3 := fun z => (HC.out.1.next (below1 W z)).cs 3 _ rfl
  have v0 := fun z => (HC.out.2.1.next (below1 W z)).cs 0 _ rfl
  have v1 := fun z => (HC.out.2.1.next (below1 W z)).cs 1 _ rfl
  have v2 := fun z => (HC.out.2.1.next (below1 W z)).cs 2 _ rfl
  have v3 := fun z => (HC.out.2.1.next (below1 W z)).cs 3 _ rfl
  have v4 := fun z => (HC.out.2.1.next (below1 W z)).cs 4 _ rfl
  have v5 := fun z => (HC.out.2.1.next (below1 W z)).cs 5 _ rfl
  have v6 := fun z => (HC.out.2.1.next (below1 W z)).cs 6 _ rfl
  have HL : Hid (L.ops = ops ∧ L.S.length = n0 ∧ L.H.length = n1 ∧ L.M.length = n2 ∧ n1 ≤ c1) := ⟨hops, h0, h1, h2, hcap⟩
  have HFR : Hid _ := hfe
  have HMO : Hid _ := hmo
  have heb : (err != 0) = true := by simpa using herr
  clear hr hfe hmo hops h0 h1 h2 hcap herr
  have HS : Hid (∀ w' : World, Below W3.heap.size W3 w' → (Below W3.heap.size W3 w' ∧ w'.cell? ⟨w.heap.size, 0, none⟩ = some (.slice a0 n0 c0) ∧ w'.cell? ⟨w.heap.size, 1, none⟩ = some (.slice a1 n1 c1) ∧ w'.cell? ⟨w.heap.size, 2, none⟩ = some (.slice a2 n2 c2) ∧ w'.cell? ⟨w.heap.size, 3, none⟩ = some (.int .i64 ops) ∧ w'.cell? ⟨w.heap.size + 1, 1, none⟩ = some (.string osk) ∧ w'.cell? ⟨w.heap.size + 1, 2, none⟩ = some (.string ol) ∧ w'.cell? ⟨w.heap.size + 1, 4, none⟩ = some (.int .i64 oq))) := fun w' kx => by
    have h1 := HC3.out.1.next kx
    have h2 := HC3.out.2.1.next kx
    exact ⟨kx, h1.cs 0 _ rfl, h1.cs 1 _ rfl, h1.cs 2 _ rfl, h1.cs 3 _ rfl, h2.cs 1 _ rfl, h2.cs 2 _ rfl, h2.cs 4 _ rfl⟩
  have HSD : Hid (∀ w' : World, (Below W3.heap.size W3 w' ∧ w'.cell? ⟨w.heap.size, 0, none⟩ = some (.slice a0 n0 c0) ∧ w'.cell? ⟨w.heap.size, 1, none⟩ = some (.slice a1 n1 c1) ∧ w'.cell? ⟨w.heap.size, 2, none⟩ = some (.slice a2 n2 c2) ∧ w'.cell? ⟨w.heap.size, 3, none⟩ = some (.int .i64 ops) ∧ w'.cell? ⟨w.heap.size + 1, 1, none⟩ = some (.string osk) ∧ w'.cell? ⟨w.heap.size + 1, 2, none⟩ = some (.string ol) ∧ w'.cell? ⟨w.heap.size + 1, 4, none⟩ = some (.int .i64 oq)) → (Below W3.heap.size W3 w'.drew ∧ w'.drew.cell? ⟨w.heap.size, 0, none⟩ = some (.slice a0 n0 c0) ∧ w'.drew.cell? ⟨w.heap.size, 1, none⟩ = some (.slice a1 n1 c1) ∧ w'.drew.cell? ⟨w.heap.size, 2, none⟩ = some (.slice a2 n2 c2) ∧ w'.drew.cell? ⟨w.heap.size, 3, none⟩ = some (.int .i64 ops) ∧ w'.drew.cell? ⟨w.heap.size + 1, 1, none⟩ = some (.string osk) ∧ w'.drew.cell? ⟨w.heap.size + 1, 2, none⟩ = some (.string ol) ∧ w'.drew.cell? ⟨w.heap.size + 1, 4, none⟩ = some (.int .i64 oq))) := fun w' h => HS.out _ h.1.drew
  have HC1 : Hid (∀ w' : World, (Below W3.heap.size W3 w' ∧ w'.cell? ⟨w.heap.size, 0, none⟩ = some (.slice a0 n0 c0) ∧ w'.cell? ⟨w.heap.size, 1, none⟩ = some (.slice a1 n1 c1) ∧ w'.cell? ⟨w.heap.size, 2, none⟩ = some (.slice a2 n2 c2) ∧ w'.cell? ⟨w.heap.size, 3, none⟩ = some (.int .i64 ops) ∧ w'.cell? ⟨w.heap.size + 1, 1, none⟩ = some (.string osk) ∧ w'.cell? ⟨w.heap.size + 1, 2, none⟩ = some (.string ol) ∧ w'.cell? ⟨w.heap.size + 1, 4, none⟩ = some (.int .i64 oq)) → Calls Try.prog 52 #[.agg #[.slice a0 n0 c0, .slice a1 n1 c1, .slice a2 n2 c2, .int .i64 ops], .string osk, .string ol] w' fun e w'' => e = .returned (.int .i64 fr) ∧ (Below W3.heap.size W3 w'' ∧ w''.cell? ⟨w.heap.size, 0, none⟩ = some (.slice a0 n0 c0) ∧ w''.cell? ⟨w.heap.size, 1, none⟩ = some (.slice a1 n1 c1) ∧ w''.cell? ⟨w.heap.size, 2, none⟩ = some (.slice a2 n2 c2) ∧ w''.cell? ⟨w.heap.size, 3, none⟩ = some (.int .i64 ops) ∧ w''.cell? ⟨w.heap.size + 1, 1, none⟩ = some (.string osk) ∧ w''.cell? ⟨w.heap.size + 1, 2, none⟩ = some (.string ol) ∧ w''.cell? ⟨w.heap.size + 1, 4, none⟩ = some (.int .i64 oq))) := fun w' h => (HFR.out w' (Below.next HC3.out.2.2.2.1 h.1)).mono fun e w'' ⟨r1, r2⟩ => ⟨r1, HS.out _ (Below.next h.1 r2)⟩
  go_enter Try.func28, Try.ntmps28
  go_wp2_with fail
  rw [HW3.out]
  refine wp_region_held_drew (S := (fun (w' : World) => (Below W3.heap.size W3 w' ∧ w'.cell? ⟨w.heap.size, 0, none⟩ = some (.slice a0 n0 c0) ∧ w'.cell? ⟨w.heap.size, 1, none⟩ = some (.slice a1 n1 c1) ∧ w'.cell? ⟨w.heap.size, 2, none⟩ = some (.slice a2 n2 c2) ∧ w'.cell? ⟨w.heap.size, 3, none⟩ = some (.int .i64 ops) ∧ w'.cell? ⟨w.heap.size + 1, 1, none⟩ = some (.string osk) ∧ w'.cell? ⟨w.heap.size + 1, 2, none⟩ = some (.string ol) ∧ w'.cell? ⟨w.heap.size + 1, 4, none⟩ = some (.int .i64 oq)))) (by kernel_rfl) (HSD.out _ (HS.out _ (Below.refl _ _))) (fun hHeld => ?_)
  refine wpAnyH_take (i := 0) (oi := { dst := some 101, op := Op.load 26 (Operand.tmp 2), type := 26, pos := "ref.go:214", after := #[], guard := none }) (v := .agg #[.slice a0 n0 c0, .slice a1 n1 c1, .slice a2 n2 c2, .int .i64 ops]) rfl (by kernel_rfl) (by kernel_rfl) (by kernel_rfl) (fun _ _ _ h => h) (Or.inl ⟨by rfl, ?_⟩) (by with_reducible assumption) ?_
  · intro wx hSw
    (try dsimp only at hSw)
    first | (go_simp; done) | (go_simp; with_reducible rfl)
  try simp only [Act.put, List.setIfInBounds_toArray, List.set_cons_zero, List.set_cons_succ]
  refine wpAnyH_take (i := 1) (oi := { dst := some 102, op := Op.fieldAddr 28 (Operand.tmp 3) 1, type := 0, pos := "ref.go:214", after := #[], guard := none }) (v := .pointer (some ⟨w.heap.size + 1, 1, none⟩)) rfl (by kernel_rfl) (by kernel_rfl) (by kernel_rfl) (fun _ _ _ h => h) (Or.inl ⟨by rfl, ?_⟩) (by with_reducible assumption) ?_
  · intro wx hSw
    (try dsimp only at hSw)
    first | (go_simp; done) | (go_simp; with_reducible rfl)
  try simp only [Act.put, List.setIfInBounds_toArray, List.set_cons_zero, List.set_cons_succ]
  refine wpAnyH_take (i := 2) (oi := { dst := some 103, op := Op.load 9 (Operand.tmp 102), type := 9, pos := "ref.go:214", after := #[{ on := 1, ground := Ground.data }], guard := none }) (v := .string osk) rfl (by kernel_rfl) (by kernel_rfl) (by kernel_rfl) (fun _ _ _ h => h) (Or.inl ⟨by rfl, ?_⟩) (by with_reducible assumption) ?_
  · intro wx hSw
    (try dsimp only at hSw)
    first | (go_simp; done) | (go_simp; with_reducible rfl)
  try simp only [Act.put, List.setIfInBounds_toArray, List.set_cons_zero, List.set_cons_succ]
  refine wpAnyH_take (i := 3) (oi := { dst := some 104, op := Op.fieldAddr 28 (Operand.tmp 3) 2, type := 0, pos := "ref.go:214", after := #[], guard := none }) (v := .pointer (some ⟨w.heap.size + 1, 2, none⟩)) rfl (by kernel_rfl) (by kernel_rfl) (by kernel_rfl) (fun _ _ _ h => h) (Or.inl ⟨by rfl, ?_⟩) (by with_reducible assumption) ?_
  · intro wx hSw
    (try dsimp only at hSw)
    first | (go_simp; done) | (go_simp; with_reducible rfl)
  try simp only [Act.put, List.setIfInBounds_toArray, List.set_cons_zero, List.set_cons_succ]
  refine wpAnyH_take (i := 4) (oi := { dst := some 105, op := Op.load 9 (Operand.tmp 104), type := 9, pos := "ref.go:214", after := #[{ on := 3, ground := Ground.data }], guard := none }) (v := .string ol) rfl (by kernel_rfl) (by kernel_rfl) (by kernel_rfl) (fun _ _ _ h => h) (Or.inl ⟨by rfl, ?_⟩) (by with_reducible assumption) ?_
  · intro wx hSw
    (try dsimp only at hSw)
    first | (go_simp; done) | (go_simp; with_reducible rfl)
  try simp only [Act.put, List.setIfInBounds_toArray, List.set_cons_zero, List.set_cons_succ]
  refine wpAnyH_take (i := 6) (oi := { dst := some 107, op := Op.fieldAddr 28 (Operand.tmp 3) 4, type := 0, pos := "ref.go:214", after := #[], guard := none }) (v := .pointer (some ⟨w.heap.size + 1, 4, none⟩)) rfl (by kernel_rfl) (by kernel_rfl) (by kernel_rfl) (fun _ _ _ h => h) (Or.inl ⟨by rfl, ?_⟩) (by with_reducible assumption) ?_
  · intro wx hSw
    (try dsimp only at hSw)
    first | (go_simp; done) | (go_simp; with_reducible rfl)
  try simp only [Act.put, List.setIfInBounds_toArray, List.set_cons_zero, List.set_cons_succ]
  refine wpAnyH_take (i := 7) (oi := { dst := some 108, op := Op.load 3 (Operand.tmp 107), type := 3, pos := "ref.go:214", after := #[{ on := 6, ground := Ground.data }], guard := none }) (v := .int .i64 oq) rfl (by kernel_rfl) (by kernel_rfl) (by kernel_rfl) (fun _ _ _ h => h) (Or.inl ⟨by rfl, ?_⟩) (by with_reducible assumption) ?_
  · intro wx hSw
    (try dsimp only at hSw)
    first | (go_simp; done) | (go_simp; with_reducible rfl)
  try simp only [Act.put, List.setIfInBounds_toArray, List.set_cons_zero, List.set_cons_succ]
  refine wpAnyH_ready (rs := [5]) (by kernel_rfl) (by simp) ?_
  refine AllReadyH.cons rfl (fun K hK => ?_) AllReadyH.nil
  go_simp
  go_wp2_with (((with_reducible refine Calls.mono (HC1.out _ (by with_reducible assumption)) ?_); rintro e w4 ⟨rfl, hS5⟩))
  refine hK.out _ _ (by with_reducible assumption) (fun hHeld5 => ?_)
  clear hK K
  try simp only [Act.put, List.setIfInBounds_toArray, List.set_cons_zero, List.set_cons_succ]
  refine wpAnyH_take (i := 8) (oi := { dst := some 109, op := Op.binOp BinOp.lss 3 (Operand.tmp 106) (Operand.tmp 108) 3, type := 4, pos := "ref.go:214", after := #[{ on := 5, ground := Ground.data }, { on := 7, ground := Ground.data }], guard := none }) (v := .bool false) rfl (by kernel_rfl) (by kernel_rfl) (by kernel_rfl) (fun _ _ _ h => h) (Or.inl ⟨by rfl, ?_⟩) (by with_reducible assumption) ?_
  · intro wx hSw
    (try dsimp only at hSw)
    first | (go_simp; done) | (go_simp; with_reducible rfl)
  try simp only [Act.put, List.setIfInBounds_toArray, List.set_cons_zero, List.set_cons_succ]
  refine wpAnyH_done (by kernel_rfl) ?_ _
  have HK4 : Hid (Below W3.heap.size W3 w4) := hS5.1
  clear hS5 HS HSD HC1 hHeld hHeld5
  clear o0 o1 o2 o3 o4 o5 o6 p0 p1 p2 p3 v0 v1 v2 v3 v4 v5 v6
  have hq1 := HC3.out.1.next HK4.out
  have hq2 := HC3.out.2.1.next HK4.out
  have hq5 := HC3.out.2.2.2.2.next HK4.out
  have l0 := (hq1).cs 0 _ rfl
  have l1 := (hq1).cs 1 _ rfl
  have l2 := (hq1).cs 2 _ rfl
  have l3 := (hq1).cs 3 _ rfl
  have x0 := (hq2).cs 0 _ rfl
  have x1 := (hq2).cs 1 _ rfl
  have x2 := (hq2).cs 2 _ rfl
  have x3 := (hq2).cs 3 _ rfl
  have x4 := (hq2).cs 4 _ rfl
  have x5 := (hq2).cs 5 _ rfl
  have x6 := (hq2).cs 6 _ rfl
  have t0 := (hq5).cs 0 _ rfl
  have t1 := (hq5).cs 1 _ rfl
  have t2 := (hq5).cs 2 _ rfl
  have t3 := (hq5).cs 3 _ rfl
  clear hq1 hq2 hq5
  go_wp2_with fail
  refine Calls.mono (HMO.out _ (Below.next HC3.out.2.2.2.1 HK4.out)) ?_; rintro e w5 ⟨rfl, k5⟩
  have HK5 : Hid (Below W3.heap.size W3 w5) := Below.next HK4.out k5
  clear k5 l0 l1 l2 l3 x0 x1 x2 x3 x4 x5 x6 t0 t1 t2 t3
  have hq1 := HC3.out.1.next HK5.out
  have hq2 := HC3.out.2.1.next HK5.out
  have hq5 := HC3.out.2.2.2.2.next HK5.out
  have l0 := (hq1).cs 0 _ rfl
  have l1 := (hq1).cs 1 _ rfl
  have l2 := (hq1).cs 2 _ rfl
  have l3 := (hq1).cs 3 _ rfl
  have x0 := (hq2).cs 0 _ rfl
  have x1 := (hq2).cs 1 _ rfl
  have x2 := (hq2).cs 2 _ rfl
  have x3 := (hq2).cs 3 _ rfl
  have x4 := (hq2).cs 4 _ rfl
  have x5 := (hq2).cs 5 _ rfl
  have x6 := (hq2).cs 6 _ rfl
  have t0 := (hq5).cs 0 _ rfl
  have t1 := (hq5).cs 1 _ rfl
  have t2 := (hq5).cs 2 _ rfl
  have t3 := (hq5).cs 3 _ rfl
  clear hq1 hq2 hq5
  have hz4 := HC3.out.2.2.1.next HK5.out
  have HCZ : Hid (CellsF w5 (w.heap.size + 1 + 1) [.slice none 0 0, .slice none 0 0, .slice none 0 0, .int .i64 0]) := hz4
  have HFIN : Hid (∀ u0 u1 u2 u3, Lies ((((w5.setCell ⟨(w.heap.size + 1 + 1), 0, none⟩ u0).setCell ⟨(w.heap.size + 1 + 1), 1, none⟩ u1).setCell ⟨(w.heap.size + 1 + 1), 2, none⟩ u2).setCell ⟨(w.heap.size + 1 + 1), 3, none⟩ u3) a0 a1 a2 L ∧ Below w.heap.size w ((((w5.setCell ⟨(w.heap.size + 1 + 1), 0, none⟩ u0).setCell ⟨(w.heap.size + 1 + 1), 1, none⟩ u1).setCell ⟨(w.heap.size + 1 + 1), 2, none⟩ u2).setCell ⟨(w.heap.size + 1 + 1), 3, none⟩ u3)) := fun u0 u1 u2 u3 => ⟨(HR.out.next (Below.next HC3.out.2.2.2.1 HK5.out)).four HNA.out _ _ _ _, below_four (Below.next HC3.out.2.2.2.1 HK5.out) _ (by omega) _ _ _ _⟩
  have z0 := (hz4).cs 0 _ rfl
  have z1 := (hz4).cs 1 _ rfl
  have z2 := (hz4).cs 2 _ rfl
  have z3 := (hz4).cs 3 _ rfl
  have g0 := (hz4).fz 0
  have g1 := (hz4).fz 1
  have g2 := (hz4).fz 2
  have g3 := (hz4).fz 3
  clear hz4
  go_wp2_with fail
  try simp only [Exit.inBlock, Exit.then]
  refine bodyPost_ret (end_cell_tmp rfl rfl (loadLed _ (HCZ.out.four rfl _ _ _ _) rfl)) rfl ?_
  exact ⟨_, _, _, _, _, _, _, _, _, by rw [HL.out.1]; rfl, HL.out.2.1, HL.out.2.2.1, HL.out.2.2.2.1, (HFIN.out _ _ _ _).1, HL.out.2.2.2.2, (HFIN.out _ _ _ _).2, SrcL.refl _ _ _ _ _⟩
end Go.Proofs.Ytflbcheofmljeaa

namespace Go.Proofs.Ytflbcheofmljeaa
open Go.ChangeShapes Go.WideShapes Go.RowKit
set_option linter.unusedVariables false
set_option maxRecDepth 100000

set_option maxHeartbeats 4000000 in
theorem rdoes_6 (a0 : Option Addr) (n0 c0 : Nat) (a1 : Option Addr) (n1 c1 : Nat) (a2 : Option Addr) (n2 c2 : Nat) (ops : Int) (L : Led) (osk ol ot : ByteArray) (oq id od : Int) (w : World) (fr : Int) (hfe : ∀ w', Below w.heap.size w w' → Calls Try.prog 52 #[.agg #[.slice a0 n0 c0, .slice a1 n1 c1, .slice a2 n2 c2, .int .i64 ops], .string osk, .string ol] w' fun e w'' => e = .returned (.int .i64 fr) ∧ Below w'.heap.size w' w'') (hlt : ¬ fr < oq) (v : Int) (hmo : ∀ w', Below w.heap.size w w' → Calls Try.prog 50 #[.agg #[.slice a0 n0 c0, .slice a1 n1 c1, .slice a2 n2 c2, .int .i64 ops], .string osk, .string ot, .int .i64 oq] w' fun e w'' => e = .returned (.tuple #[.int .i64 v, .int .i64 0]) ∧ Below w'.heap.size w' w'') (hng : IntKind.i64.wrap (-oq) = -oq) (S2 : List Stk) (M2 : List Mov) (hmv : ∀ w', Below w.heap.size w w' → Calls Try.prog 51 #[.agg #[.slice a0 n0 c0, .slice a1 n1 c1, .slice a2 n2 c2, .int .i64 ops], .agg #[.string osk, .string ol, .int .i64 0, .int .i64 0], .int .i64 (-oq), .agg #[.int .i64 0, .string ⟨#[]⟩, .string ⟨#[]⟩, .int .i64 0, .int .i64 6, .int .i64 0]] w' fun e w'' => MvdP w' w'' S2 M2 a1 n1 c1 ops e) (S3 : List Stk) (M3 : List Mov) (hm2 : ∀ w' b0 m0 d0 b2 m2 d2, S2.length = m0 → M2.length = m2 → Rw stv 4 w' b0 S2 → Rw mvv 6 w' b2 M2 → ¬ b2 = none → Calls Try.prog 51 #[.agg #[.slice b0 m0 d0, .slice a1 n1 c1, .slice b2 m2 d2, .int .i64 ops], .agg #[.string osk, .string ot, .int .i64 0, .int .i64 0], .int .i64 oq, .agg #[.int .i64 0, .string ⟨#[]⟩, .string ⟨#[]⟩, .int .i64 0, .int .i64 6, .int .i64 0]] w' fun e w'' => MvdP w' w'' S3 M3 a1 n1 c1 ops e) (hr : Lies w a0 a1 a2 L) (hops : L.ops = ops) (h0 : L.S.length = n0) (h1 : L.H.length = n1) (h2 : L.M.length = n2) (hcap : n1 ≤ c1) :
    Calls Try.prog 28 #[.agg #[.slice a0 n0 c0, .slice a1 n1 c1, .slice a2 n2 c2, .int .i64 ops], .agg #[.int .i64 6, .string osk, .string ol, .string ot, .int .i64 oq, .int .i64 id, .int .i64 od]] w fun e w' => LeP a0 a1 a2 L w w' ⟨S3, L.H, M3, ops⟩ 0 e := by
  obtain ⟨W, hW⟩ : ∃ W, ((w.alloc (.cells #[.slice a0 n0 c0, .slice a1 n1 c1, .slice a2 n2 c2, .int .i64 ops] 26)).alloc (.cells #[.int .i64 6, .string osk, .string ol, .string ot, .int .i64 oq, .int .i64 id, .int .i64 od] 28)).alloc (.cells #[.slice none 0 0, .slice none 0 0, .slice none 0 0, .int .i64 0] 26) = W := ⟨_, rfl⟩
  have HC : Hid (CellsF W w.heap.size [.slice a0 n0 c0, .slice a1 n1 c1, .slice a2 n2 c2, .int .i64 ops] ∧ CellsF W (w.heap.size + 1) [.int .i64 6, .string osk, .string ol, .string ot, .int .i64 oq, .int .i64 id, .int .i64 od] ∧ CellsF W (w.heap.size + 1 + 1) [.slice none 0 0, .slice none 0 0, .slice none 0 0, .int .i64 0] ∧ Below w.heap.size w W) := by
    show _ ∧ _
    rw [← hW]
    exact ⟨((CellsF.at _ 26 (by simp) rfl).next (below1 _ _)).next (below1 _ _), (CellsF.at _ 28 (by simp) (by rw [size_alloc])).next (below1 _ _), CellsF.at _ 26 (by simp) (by rw [size_alloc, size_alloc]), below3 _ _ _ _⟩
  obtain ⟨W3, hW3⟩ : ∃ W3, W.alloc (.cells #[.string osk, .string ol, .int .i64 0, .int .i64 0] 50) = W3 := ⟨_, rfl⟩
  have HC3 : Hid (CellsF W3 w.heap.size [.slice a0 n0 c0, .slice a1 n1 c1, .slice a2 n2 c2, .int .i64 ops] ∧ CellsF W3 (w.heap.size + 1) [.int .i64 6, .string osk, .string ol, .string ot, .int .i64 oq, .int .i64 id, .int .i64 od] ∧ CellsF W3 (w.heap.size + 1 + 1) [.slice none 0 0, .slice none 0 0, .slice none 0 0, .int .i64 0] ∧ Below w.heap.size w W3 ∧ CellsF W3 W.heap.size [.string osk, .string ol, .int .i64 0, .int .i64 0]) := by
    show _ ∧ _
    rw [← hW3]
    exact ⟨HC.out.1.next (below1 _ _), HC.out.2.1.next (below1 _ _), HC.out.2.2.1.next (below1 _ _), Below.next HC.out.2.2.2 (below1 _ _), CellsF.at _ 50 (by simp) rfl⟩
  have HW3 : Hid (W.alloc (.cells #[.string osk, .string ol, .int .i64 0, .int .i64 0] 50) = W3) := hW3
  have HNA : Hid (NotAt (w.heap.size + 1 + 1) a0 a1 a2 L) := notAt_of hr (by omega)
  have HR : Hid (Lies w a0 a1 a2 L) := hr
  clear hW3
  have o0 := (HC.out.2.1).cs 0 _ rfl
  have o1 := (HC.out.2.1).cs 1 _ rfl
  have o2 := (HC.out.2.1).cs 2 _ rfl
  have o3 := (HC.out.2.1).cs 3 _ rfl
  have o4 := (HC.out.2.1).cs 4 _ rfl
  have o5 := (HC.out.2.1).cs 5 _ rfl
  have o6 := (HC.out.2.1).cs 6 _ rfl
  have p0 := fun z => (HC.out.1.next (below1 W z)).cs 0 _ rfl
  have p1 := fun z => (HC.out.1.next (below1 W z)).cs 1 _ rfl
  have p2 := fun z => (HC.out.1.next (below1 W z)).cs 2 _ rfl
  have p3 := fun z => (HC.out.1.next (below1 W z)).cs 3 _ rfl
  have v0 := fun z => (HC.out.2.1.next (below1 W z)).cs 0 _ rfl
  have v1 := fun z => (HC.out.2.1.next (below1 W z)).cs 1 _ rfl
  have v2 := fun z => (HC.out.2.1.next (below1 W z)).cs 2 _ rfl
  have v3 := fun z => (HC.out.2.1.next (below1 W z)).cs 3 _ rfl
  have v4 := fun z => (HC.out.2.1.next (below1 W z)).cs 4 _ rfl
  have v5 := fun z => (HC.out.2.1.next (below1 W z)).cs 5 _ rfl
  have v6 := fun z => (HC.out.2.1.next (below1 W z)).cs 6 _ rfl
  have HL : Hid (L.ops = ops ∧ L.S.length = n0 ∧ L.H.length = n1 ∧ L.M.length = n2 ∧ n1 ≤ c1) := ⟨hops, h0, h1, h2, hcap⟩
  have HFR : Hid _ := hfe
  have HMO : Hid _ := hmo
  have HMV : Hid _ := hmv
  have HM2 : Hid _ := hm2
  clear hr hfe hmo hmv hm2 hops h0 h1 h2 hcap
  have HS : Hid (∀ w' : World, Below W3.heap.size W3 w' → (Below W3.heap.size W3 w' ∧ w'.cell? ⟨w.heap.size, 0, none⟩ = some (.slice a0 n0 c0) ∧ w'.cell? ⟨w.heap.size, 1, none⟩ = some (.slice a1 n1 c1) ∧ w'.cell? ⟨w.heap.size, 2, none⟩ = some (.slice a2 n2 c2) ∧ w'.cell? ⟨w.heap.size, 3, none⟩ = some (.int .i64 ops) ∧ w'.cell? ⟨w.heap.size + 1, 1, none⟩ = some (.string osk) ∧ w'.cell? ⟨w.heap.size + 1, 2, none⟩ = some (.string ol) ∧ w'.cell? ⟨w.heap.size + 1, 4, none⟩ = some (.int .i64 oq))) := fun w' kx => by
    have h1 := HC3.out.1.next kx
    have h2 := HC3.out.2.1.next kx
    exact ⟨kx, h1.cs 0 _ rfl, h1.cs 1 _ rfl, h1.cs 2 _ rfl, h1.cs 3 _ rfl, h2.cs 1 _ rfl, h2.cs 2 _ rfl, h2.cs 4 _ rfl⟩
  have HSD : Hid (∀ w' : World, (Below W3.heap.size W3 w' ∧ w'.cell? ⟨w.heap.size, 0, none⟩ = some (.slice a0 n0 c0) ∧ w'.cell? ⟨w.heap.size, 1, none⟩ = some (.slice a1 n1 c1) ∧ w'.cell? ⟨w.heap.size, 2, none⟩ = some (.slice a2 n2 c2) ∧ w'.cell? ⟨w.heap.size, 3, none⟩ = some (.int .i64 ops) ∧ w'.cell? ⟨w.heap.size + 1, 1, none⟩ = some (.string osk) ∧ w'.cell? ⟨w.heap.size + 1, 2, none⟩ = some (.string ol) ∧ w'.cell? ⟨w.heap.size + 1, 4, none⟩ = some (.int .i64 oq)) → (Below W3.heap.size W3 w'.drew ∧ w'.drew.cell? ⟨w.heap.size, 0, none⟩ = some (.slice a0 n0 c0) ∧ w'.drew.cell? ⟨w.heap.size, 1, none⟩ = some (.slice a1 n1 c1) ∧ w'.drew.cell? ⟨w.heap.size, 2, none⟩ = some (.slice a2 n2 c2) ∧ w'.drew.cell? ⟨w.heap.size, 3, none⟩ = some (.int .i64 ops) ∧ w'.drew.cell? ⟨w.heap.size + 1, 1, none⟩ = some (.string osk) ∧ w'.drew.cell? ⟨w.heap.size + 1, 2, none⟩ = some (.string ol) ∧ w'.drew.cell? ⟨w.heap.size + 1, 4, none⟩ = some (.int .i64 oq))) := fun w' h => HS.out _ h.1.drew
  have HC1 : Hid (∀ w' : World, (Below W3.heap.size W3 w' ∧ w'.cell? ⟨w.heap.size, 0, none⟩ = some (.slice a0 n0 c0) ∧ w'.cell? ⟨w.heap.size, 1, none⟩ = some (.slice a1 n1 c1) ∧ w'.cell? ⟨w.heap.size, 2, none⟩ = some (.slice a2 n2 c2) ∧ w'.cell? ⟨w.heap.size, 3, none⟩ = some (.int .i64 ops) ∧ w'.cell? ⟨w.heap.size + 1, 1, none⟩ = some (.string osk) ∧ w'.cell? ⟨w.heap.size + 1, 2, none⟩ = some (.string ol) ∧ w'.cell? ⟨w.heap.size + 1, 4, none⟩ = some (.int .i64 oq)) → Calls Try.prog 52 #[.agg #[.slice a0 n0 c0, .slice a1 n1 c1, .slice a2 n2 c2, .int .i64 ops], .string osk, .string ol] w' fun e w'' => e = .returned (.int .i64 fr) ∧ (Below W3.heap.size W3 w'' ∧ w''.cell? ⟨w.heap.size, 0, none⟩ = some (.slice a0 n0 c0) ∧ w''.cell? ⟨w.heap.size, 1, none⟩ = some (.slice a1 n1 c1) ∧ w''.cell? ⟨w.heap.size, 2, none⟩ = some (.slice a2 n2 c2) ∧ w''.cell? ⟨w.heap.size, 3, none⟩ = some (.int .i64 ops) ∧ w''.cell? ⟨w.heap.size + 1, 1, none⟩ = some (.string osk) ∧ w''.cell? ⟨w.heap.size + 1, 2, none⟩ = some (.string ol) ∧ w''.cell? ⟨w.heap.size + 1, 4, none⟩ = some (.int .i64 oq))) := fun w' h => (HFR.out w' (Below.next HC3.out.2.2.2.1 h.1)).mono fun e w'' ⟨r1, r2⟩ => ⟨r1, HS.out _ (Below.next h.1 r2)⟩
  go_enter Try.func28, Try.ntmps28
  go_wp2_with fail
  rw [HW3.out]
  refine wp_region_held_drew (S := (fun (w' : World) => (Below W3.heap.size W3 w' ∧ w'.cell? ⟨w.heap.size, 0, none⟩ = some (.slice a0 n0 c0) ∧ w'.cell? ⟨w.heap.size, 1, none⟩ = some (.slice a1 n1 c1) ∧ w'.cell? ⟨w.heap.size, 2, none⟩ = some (.slice a2 n2 c2) ∧ w'.cell? ⟨w.heap.size, 3, none⟩ = some (.int .i64 ops) ∧ w'.cell? ⟨w.heap.size + 1, 1, none⟩ = some (.string osk) ∧ w'.cell? ⟨w.heap.size + 1, 2, none⟩ = some (.string ol) ∧ w'.cell? ⟨w.heap.size + 1, 4, none⟩ = some (.int .i64 oq)))) (by kernel_rfl) (HSD.out _ (HS.out _ (Below.refl _ _))) (fun hHeld => ?_)
  refine wpAnyH_take (i := 0) (oi := { dst := some 101, op := Op.load 26 (Operand.tmp 2), type := 26, pos := "ref.go:214", after := #[], guard := none }) (v := .agg #[.slice a0 n0 c0, .slice a1 n1 c1, .slice a2 n2 c2, .int .i64 ops]) rfl (by kernel_rfl) (by kernel_rfl) (by kernel_rfl) (fun _ _ _ h => h) (Or.inl ⟨by rfl, ?_⟩) (by with_reducible assumption) ?_
  · intro wx hSw
    (try dsimp only at hSw)
    first | (go_simp; done) | (go_simp; with_reducible rfl)
  try simp only [Act.put, List.setIfInBounds_toArray, List.set_cons_zero, List.set_cons_succ]
  refine wpAnyH_take (i := 1) (oi := { dst := some 102, op := Op.fieldAddr 28 (Operand.tmp 3) 1, type := 0, pos := "ref.go:214", after := #[], guard := none }) (v := .pointer (some ⟨w.heap.size + 1, 1, none⟩)) rfl (by kernel_rfl) (by kernel_rfl) (by kernel_rfl) (fun _ _ _ h => h) (Or.inl ⟨by rfl, ?_⟩) (by with_reducible assumption) ?_
  · intro wx hSw
    (try dsimp only at hSw)
    first | (go_simp; done) | (go_simp; with_reducible rfl)
  try simp only [Act.put, List.setIfInBounds_toArray, List.set_cons_zero, List.set_cons_succ]
  refine wpAnyH_take (i := 2) (oi := { dst := some 103, op := Op.load 9 (Operand.tmp 102), type := 9, pos := "ref.go:214", after := #[{ on := 1, ground := Ground.data }], guard := none }) (v := .string osk) rfl (by kernel_rfl) (by kernel_rfl) (by kernel_rfl) (fun _ _ _ h => h) (Or.inl ⟨by rfl, ?_⟩) (by with_reducible assumption) ?_
  · intro wx hSw
    (try dsimp only at hSw)
    first | (go_simp; done) | (go_simp; with_reducible rfl)
  try simp only [Act.put, List.setIfInBounds_toArray, List.set_cons_zero, List.set_cons_succ]
  refine wpAnyH_take (i := 3) (oi := { dst := some 104, op := Op.fieldAddr 28 (Operand.tmp 3) 2, type := 0, pos := "ref.go:214", after := #[], guard := none }) (v := .pointer (some ⟨w.heap.size + 1, 2, none⟩)) rfl (by kernel_rfl) (by kernel_rfl) (by kernel_rfl) (fun _ _ _ h => h) (Or.inl ⟨by rfl, ?_⟩) (by with_reducible assumption) ?_
  · intro wx hSw
    (try dsimp only at hSw)
    first | (go_simp; done) | (go_simp; with_reducible rfl)
  try simp only [Act.put, List.setIfInBounds_toArray, List.set_cons_zero, List.set_cons_succ]
  refine wpAnyH_take (i := 4) (oi := { dst := some 105, op := Op.load 9 (Operand.tmp 104), type := 9, pos := "ref.go:214", after := #[{ on := 3, ground := Ground.data }], guard := none }) (v := .string ol) rfl (by kernel_rfl) (by kernel_rfl) (by kernel_rfl) (fun _ _ _ h => h) (Or.inl ⟨by rfl, ?_⟩) (by with_reducible assumption) ?_
  · intro wx hSw
    (try dsimp only at hSw)
    first | (go_simp; done) | (go_simp; with_reducible rfl)
  try simp only [Act.put, List.setIfInBounds_toArray, List.set_cons_zero, List.set_cons_succ]
  refine wpAnyH_take (i := 6) (oi := { dst := some 107, op := Op.fieldAddr 28 (Operand.tmp 3) 4, type := 0, pos := "ref.go:214", after := #[], guard := none }) (v := .pointer (some ⟨w.heap.size + 1, 4, none⟩)) rfl (by kernel_rfl) (by kernel_rfl) (by kernel_rfl) (fun _ _ _ h => h) (Or.inl ⟨by rfl, ?_⟩) (by with_reducible assumption) ?_
  · intro wx hSw
    (try dsimp only at hSw)
    first | (go_simp; done) | (go_simp; with_reducible rfl)
  try simp only [Act.put, List.setIfInBounds_toArray, List.set_cons_zero, List.set_cons_succ]
  refine wpAnyH_take (i := 7) (oi := { dst := some 108, op := Op.load 3 (Operand.tmp 107), type := 3, pos := "ref.go:214", after := #[{ on := 6, ground := Ground.data }], guard := none }) (v := .int .i64 oq) rfl (by kernel_rfl) (by kernel_rfl) (by kernel_rfl) (fun _ _ _ h => h) (Or.inl ⟨by rfl, ?_⟩) (by with_reducible assumption) ?_
  · intro wx hSw
    (try dsimp only at hSw)
    first | (go_simp; done) | (go_simp; with_reducible rfl)
  try simp only [Act.put, List.setIfInBounds_toArray, List.set_cons_zero, List.set_cons_succ]
  refine wpAnyH_ready (rs := [5]) (by kernel_rfl) (by simp) ?_
  refine AllReadyH.cons rfl (fun K hK => ?_) AllReadyH.nil
  go_simp
  go_wp2_with (((with_reducible refine Calls.mono (HC1.out _ (by with_reducible assumption)) ?_); rintro e w4 ⟨rfl, hS5⟩))
  refine hK.out _ _ (by with_reducible assumption) (fun hHeld5 => ?_)
  clear hK K
  try simp only [Act.put, List.setIfInBounds_toArray, List.set_cons_zero, List.set_cons_succ]
  refine wpAnyH_take (i := 8) (oi := { dst := some 109, op := Op.binOp BinOp.lss 3 (Operand.tmp 106) (Operand.tmp 108) 3, type := 4, pos := "ref.go:214", after := #[{ on := 5, ground := Ground.data }, { on := 7, ground := Ground.data }], guard := none }) (v := .bool false) rfl (by kernel_rfl) (by kernel_rfl) (by kernel_rfl) (fun _ _ _ h => h) (Or.inl ⟨by rfl, ?_⟩) (by with_reducible assumption) ?_
  · intro wx hSw
    (try dsimp only at hSw)
    first | (go_simp; done) | (go_simp; with_reducible rfl)
  try simp only [Act.put, List.setIfInBounds_toArray, List.set_cons_zero, List.set_cons_succ]
  refine wpAnyH_done (by kernel_rfl) ?_ _
  have HK4 : Hid (Below W3.heap.size W3 w4) := hS5.1
  clear hS5 HS HSD HC1 hHeld hHeld5
  clear o0 o1 o2 o3 o4 o5 o6 p0 p1 p2 p3 v0 v1 v2 v3 v4 v5 v6
  have hq1 := HC3.out.1.next HK4.out
  have hq2 := HC3.out.2.1.next HK4.out
  have hq5 := HC3.out.2.2.2.2.next HK4.out
  have l0 := (hq1).cs 0 _ rfl
  have l1 := (hq1).cs 1 _ rfl
  have l2 := (hq1).cs 2 _ rfl
  have l3 := (hq1).cs 3 _ rfl
  have x0 := (hq2).cs 0 _ rfl
  have x1 := (hq2).cs 1 _ rfl
  have x2 := (hq2).cs 2 _ rfl
  have x3 := (hq2).cs 3 _ rfl
  have x4 := (hq2).cs 4 _ rfl
  have x5 := (hq2).cs 5 _ rfl
  have x6 := (hq2).cs 6 _ rfl
  have t0 := (hq5).cs 0 _ rfl
  have t1 := (hq5).cs 1 _ rfl
  have t2 := (hq5).cs 2 _ rfl
  have t3 := (hq5).cs 3 _ rfl
  clear hq1 hq2 hq5
  go_wp2_with fail
  refine Calls.mono (HMO.out _ (Below.next HC3.out.2.2.2.1 HK4.out)) ?_; rintro e w5 ⟨rfl, k5⟩
  have HK5 : Hid (Below W3.heap.size W3 w5) := Below.next HK4.out k5
  clear k5 l0 l1 l2 l3 x0 x1 x2 x3 x4 x5 x6 t0 t1 t2 t3
  have hq1 := HC3.out.1.next HK5.out
  have hq2 := HC3.out.2.1.next HK5.out
  have hq5 := HC3.out.2.2.2.2.next HK5.out
  have l0 := (hq1).cs 0 _ rfl
  have l1 := (hq1).cs 1 _ rfl
  have l2 := (hq1).cs 2 _ rfl
  have l3 := (hq1).cs 3 _ rfl
  have x0 := (hq2).cs 0 _ rfl
  have x1 := (hq2).cs 1 _ rfl
  have x2 := (hq2).cs 2 _ rfl
  have x3 := (hq2).cs 3 _ rfl
  have x4 := (hq2).cs 4 _ rfl
  have x5 := (hq2).cs 5 _ rfl
  have x6 := (hq2).cs 6 _ rfl
  have t0 := (hq5).cs 0 _ rfl
  have t1 := (hq5).cs 1 _ rfl
  have t2 := (hq5).cs 2 _ rfl
  have t3 := (hq5).cs 3 _ rfl
  clear hq1 hq2 hq5
  go_wp2_with fail
  refine Calls.mono (HMV.out _ (Below.next HC3.out.2.2.2.1 HK5.out)) ?_; rintro e w6 ⟨b0, m0, d0, b2, m2, d2, rfl, hl0, hl2, hrs, hrm, k6, nb0, nb2, hne⟩
  have hk6 : Below W3.heap.size W3 w6 := Below.next HK5.out k6
  have hc6 := HC3.out.1.next hk6
  have hlt : w.heap.size + 1 + 1 < W3.heap.size := HC3.out.2.2.1.lt
  have hsz := HK5.out.size
  obtain ⟨X, hX⟩ : ∃ X, ((((w6.setCell ⟨w.heap.size, 0, none⟩ (.slice b0 m0 d0)).setCell ⟨w.heap.size, 1, none⟩ (.slice a1 n1 c1)).setCell ⟨w.heap.size, 2, none⟩ (.slice b2 m2 d2)).setCell ⟨w.heap.size, 3, none⟩ (.int .i64 ops)) = X := ⟨_, rfl⟩
  have HX : Hid (CellsF X w.heap.size [.slice b0 m0 d0, .slice a1 n1 c1, .slice b2 m2 d2, .int .i64 ops] ∧ CellsF X (w.heap.size + 1) [.int .i64 6, .string osk, .string ol, .string ot, .int .i64 oq, .int .i64 id, .int .i64 od] ∧ CellsF X (w.heap.size + 1 + 1) [.slice none 0 0, .slice none 0 0, .slice none 0 0, .int .i64 0] ∧ Below w.heap.size w X ∧ Rw stv 4 X b0 S2 ∧ Rw mvv 6 X b2 M2 ∧ ¬ b2 = none ∧ S2.length = m0 ∧ M2.length = m2 ∧ w.heap.size + 1 + 1 < X.heap.size) := by
    show _ ∧ _
    rw [← hX]
    exact ⟨hc6.four rfl _ _ _ _, (HC3.out.2.1.next hk6).far (four_far _ _ _ _ _ _ (by omega)), (HC3.out.2.2.1.next hk6).far (four_far _ _ _ _ _ _ (by omega)), below_four (Below.next HC3.out.2.2.2.1 hk6) _ (Nat.le_refl _) _ _ _ _, hrs.far (fun b' o' e hne => four_far _ _ _ _ _ _ (by have := nb0 b' o' e; omega)), hrm.far (fun b' o' e hne => four_far _ _ _ _ _ _ (by have := nb2 b' o' e; omega)), hne, hl0, hl2, by rw [size_four]; exact Nat.lt_of_lt_of_le hlt hk6.size⟩
  clear l0 l1 l2 l3 x0 x1 x2 x3 x4 x5 x6 t0 t1 t2 t3
  have q0 := (hc6).cs 0 _ rfl
  have q1 := (hc6).cs 1 _ rfl
  have q2 := (hc6).cs 2 _ rfl
  have q3 := (hc6).cs 3 _ rfl
  have f0 := (hc6).fz 0
  have f1 := (hc6).fz 1
  have f2 := (hc6).fz 2
  have f3 := (hc6).fz 3
  have r0 := (HX.out.1).cs 0 _ rfl
  have r1 := (HX.out.1).cs 1 _ rfl
  have r2 := (HX.out.1).cs 2 _ rfl
  have r3 := (HX.out.1).cs 3 _ rfl
  have u0 := (HX.out.2.1).cs 0 _ rfl
  have u1 := (HX.out.2.1).cs 1 _ rfl
  have u2 := (HX.out.2.1).cs 2 _ rfl
  have u3 := (HX.out.2.1).cs 3 _ rfl
  have u4 := (HX.out.2.1).cs 4 _ rfl
  have u5 := (HX.out.2.1).cs 5 _ rfl
  have u6 := (HX.out.2.1).cs 6 _ rfl
  clear hl0 hl2 hrs hrm k6 nb0 nb2 hne hk6 hc6 hlt hsz
  go_wp2_with fail
  refine Calls.mono (HM2.out _ _ _ _ _ _ _ HX.out.2.2.2.2.2.2.2.1 HX.out.2.2.2.2.2.2.2.2.1 HX.out.2.2.2.2.1 HX.out.2.2.2.2.2.1 HX.out.2.2.2.2.2.2.1) ?_; rintro e w9 ⟨g0, p0, q0', g2, p2, q2', rfl, hl0, hl2, hrs, hrm, k9, nb0, nb2, hne⟩
  have hz4 := HX.out.2.2.1.next k9
  have hlt := HX.out.2.2.2.2.2.2.2.2.2
  have hws := HX.out.2.2.2.1.size
  have HCZ : Hid (CellsF w9 (w.heap.size + 1 + 1) [.slice none 0 0, .slice none 0 0, .slice none 0 0, .int .i64 0]) := hz4
  have hbel : Below w.heap.size w w9 := Below.next HX.out.2.2.2.1 k9
  have HFIN : Hid (∀ u0 u1 u2 u3, Lies ((((w9.setCell ⟨(w.heap.size + 1 + 1), 0, none⟩ u0).setCell ⟨(w.heap.size + 1 + 1), 1, none⟩ u1).setCell ⟨(w.heap.size + 1 + 1), 2, none⟩ u2).setCell ⟨(w.heap.size + 1 + 1), 3, none⟩ u3) g0 a1 g2 ⟨S3, L.H, M3, ops⟩ ∧ Below w.heap.size w ((((w9.setCell ⟨(w.heap.size + 1 + 1), 0, none⟩ u0).setCell ⟨(w.heap.size + 1 + 1), 1, none⟩ u1).setCell ⟨(w.heap.size + 1 + 1), 2, none⟩ u2).setCell ⟨(w.heap.size + 1 + 1), 3, none⟩ u3)) := fun u0 u1 u2 u3 => ⟨⟨hrs.far (fun b' o' e hne => four_far _ _ _ _ _ _ (by have := nb0 b' o' e; omega)), (HR.out.H.next hlv_ne hbel).far (fun b' o' e hne => four_far _ _ _ _ _ _ (HNA.out.H hne b' o' e)), hrm.far (fun b' o' e hne => four_far _ _ _ _ _ _ (by have := nb2 b' o' e; omega))⟩, below_four hbel _ (by omega) _ _ _ _⟩
  have HLN : Hid (S3.length = p0 ∧ M3.length = p2 ∧ SrcL w a0 a1 a2 L g0 a1 g2 ⟨S3, L.H, M3, ops⟩) := ⟨hl0, hl2, ⟨fun _ b' o' e => .inl (by have := nb0 b' o' e; omega), fun hne _ _ _ => .inr ⟨hne, rfl⟩, fun _ b' o' e => .inl (by have := nb2 b' o' e; omega)⟩⟩
  have z0 := (hz4).cs 0 _ rfl
  have z1 := (hz4).cs 1 _ rfl
  have z2 := (hz4).cs 2 _ rfl
  have z3 := (hz4).cs 3 _ rfl
  have gg0 := (hz4).fz 0
  have gg1 := (hz4).fz 1
  have gg2 := (hz4).fz 2
  have gg3 := (hz4).fz 3
  clear hz4 hl0 hl2 hrs hrm k9 nb0 nb2 hne hlt hws hbel
  go_wp2_with fail
  try simp only [Exit.inBlock, Exit.then]
  refine bodyPost_ret (end_cell_tmp rfl rfl (loadLed _ (HCZ.out.four rfl _ _ _ _) rfl)) rfl ?_
  exact ⟨_, _, _, _, _, _, _, _, _, rfl, HLN.out.1, HL.out.2.2.1, HLN.out.2.1, (HFIN.out _ _ _ _).1, HL.out.2.2.2.2, (HFIN.out _ _ _ _).2, HLN.out.2.2⟩
end Go.Proofs.Ytflbcheofmljeaa

namespace Go.Proofs.Ytflbcheofmljeaa
open Go.ChangeShapes Go.WideShapes Go.RowKit
set_option linter.unusedVariables false
set_option maxRecDepth 100000

/-- A list that is copied. -/
theorem copyH {w : World} {a : Option Addr} {n c : Nat} {l : List Hld} (hn : l.length = n) (hm : n ≤ 90000) (hr : Rw hlv 6 w a l) :
    ∃ o' c' w', (Builtin.append_ #[23, 23] 23 #[.slice none 0 0, .slice a n c]).run Try.prog w = .ok (.slice o' n c') w' ∧ HldsAt w.heap.size w' (.slice o' n c') l ∧ Below w.heap.size w w' := by
  cases a with
  | none =>
    have hl : l = [] := by
      by_cases c : l = []
      · exact c
      · obtain ⟨_, _, e, _⟩ := hr c
        cases e
    subst hl
    have h0 : n = 0 := hn.symm
    subst h0
    exact ⟨none, 0, w, rfl, HldsAt.void _ _, Below.refl _ _⟩
  | some a =>
    obtain ⟨b, o, sp⟩ := a
    by_cases hne : l = []
    · subst hne
      have h0 : n = 0 := hn.symm
      subst h0
      obtain ⟨i, hi, hzz, h1, h2⟩ := info_of info44
      obtain ⟨v', w', r1, r2, r3, r4, r5⟩ := run_append_own_at (P := Try.prog) w 0 23 23 44 i _ 6 64 Try.underlying23 hi hzz h1 h2 (by simp [Value.cells]) (by omega) (.slice none 0 0) 0 [] (World.ownsRow_nil _ _ _ _) ⟨b, o, sp⟩ 0 c [] rfl (fun j u hu => by simp at hu) (fun u hu => by cases hu) (by unfold maxLen; omega) (by omega) (Nat.zero_le _)
      rw [Nat.zero_add, List.nil_append] at r2
      obtain ⟨o', c', rfl⟩ := own_form r2
      refine ⟨o', c', w', r1, ⟨r2, fun g hg => ⟨?_, (World.ownsRow.lt r2 g hg).2⟩⟩, (Below.refl _ _).grown r3 (Nat.le_refl _) (fun q hq => by cases hq)⟩
      rcases r5 with e | e
      · rw [e] at hg; cases hg
      · rw [e] at hg; cases hg; exact Nat.le_refl _
    · obtain ⟨b', o', e, hc⟩ := hr hne
      cases e
      obtain ⟨o', d, w1, q1, q2, q3⟩ := appH (HldsAt.void w.heap.size w) rfl (Nat.le_refl _) hn hr (cc := c) (by show 0 + n ≤ 100000; omega)
      rw [Nat.zero_add] at q1 q2
      rw [List.nil_append] at q2
      exact ⟨o', d, w1, q1, q2, q3⟩
set_option maxHeartbeats 4000000 in
theorem rdoes_2 (a0 : Option Addr) (n0 c0 : Nat) (a1 : Option Addr) (n1 c1 : Nat) (a2 : Option Addr) (n2 c2 : Nat) (ops : Int) (L : Led) (osk ol ot : ByteArray) (oq id od : Int) (w : World) (fr : Int) (hfe : ∀ w', Below w.heap.size w w' → Calls Try.prog 52 #[.agg #[.slice a0 n0 c0, .slice a1 n1 c1, .slice a2 n2 c2, .int .i64 ops], .string osk, .string ol] w' fun e w'' => e = .returned (.int .i64 fr) ∧ Below w'.heap.size w' w'') (hlt : ¬ fr < oq) (hm1 : n1 ≤ 90000) (S2 : List Stk) (hpu : ∀ w', Below w.heap.size w w' → Calls Try.prog 53 #[.agg #[.slice a0 n0 c0, .slice a1 n1 c1, .slice a2 n2 c2, .int .i64 ops], .agg #[.string osk, .string ol, .int .i64 0, .int .i64 0], .int .i64 oq] w' fun e w'' => PutP w' w'' S2 a1 n1 c1 a2 n2 c2 ops e) (hr : Lies w a0 a1 a2 L) (hops : L.ops = ops) (h0 : L.S.length = n0) (h1 : L.H.length = n1) (h2 : L.M.length = n2) (hcap : n1 ≤ c1) :
    Calls Try.prog 28 #[.agg #[.slice a0 n0 c0, .slice a1 n1 c1, .slice a2 n2 c2, .int .i64 ops], .agg #[.int .i64 2, .string osk, .string ol, .string ot, .int .i64 oq, .int .i64 id, .int .i64 od]] w fun e w' => LeP a0 a1 a2 L w w' ⟨S2, L.H ++ [⟨(n1 : Int) + 1, osk, ol, oq, 0, od⟩], L.M, ops⟩ 0 e := by
  obtain ⟨W, hW⟩ : ∃ W, ((w.alloc (.cells #[.slice a0 n0 c0, .slice a1 n1 c1, .slice a2 n2 c2, .int .i64 ops] 26)).alloc (.cells #[.int .i64 2, .string osk, .string ol, .string ot, .int .i64 oq, .int .i64 id, .int .i64 od] 28)).alloc (.cells #[.slice none 0 0, .slice none 0 0, .slice none 0 0, .int .i64 0] 26) = W := ⟨_, rfl⟩
  have HC : Hid (CellsF W w.heap.size [.slice a0 n0 c0, .slice a1 n1 c1, .slice a2 n2 c2, .int .i64 ops] ∧ CellsF W (w.heap.size + 1) [.int .i64 2, .string osk, .string ol, .string ot, .int .i64 oq, .int .i64 id, .int .i64 od] ∧ CellsF W (w.heap.size + 1 + 1) [.slice none 0 0, .slice none 0 0, .slice none 0 0, .int .i64 0] ∧ Below w.heap.size w W) := by
    show _ ∧ _
    rw [← hW]
    exact ⟨((CellsF.at _ 26 (by simp) rfl).next (below1 _ _)).next (below1 _ _), (CellsF.at _ 28 (by simp) (by rw [size_alloc])).next (below1 _ _), CellsF.at _ 26 (by simp) (by rw [size_alloc, size_alloc]), below3 _ _ _ _⟩
  obtain ⟨W3, hW3⟩ : ∃ W3, W.alloc (.cells #[.string osk, .string ol, .int .i64 0, .int .i64 0] 50) = W3 := ⟨_, rfl⟩
  have HC3 : Hid (CellsF W3 w.heap.size [.slice a0 n0 c0, .slice a1 n1 c1, .slice a2 n2 c2, .int .i64 ops] ∧ CellsF W3 (w.heap.size + 1) [.int .i64 2, .string osk, .string ol, .string ot, .int .i64 oq, .int .i64 id, .int .i64 od] ∧ CellsF W3 (w.heap.size + 1 + 1) [.slice none 0 0, .slice none 0 0, .slice none 0 0, .int .i64 0] ∧ Below w.heap.size w W3 ∧ CellsF W3 W.heap.size [.string osk, .string ol, .int .i64 0, .int .i64 0]) := by
    show _ ∧ _
    rw [← hW3]
    exact ⟨HC.out.1.next (below1 _ _), HC.out.2.1.next (below1 _ _), HC.out.2.2.1.next (below1 _ _), Below.next HC.out.2.2.2 (below1 _ _), CellsF.at _ 50 (by simp) rfl⟩
  have HW3 : Hid (W.alloc (.cells #[.string osk, .string ol, .int .i64 0, .int .i64 0] 50) = W3) := hW3
  have HNA : Hid (NotAt (w.heap.size + 1 + 1) a0 a1 a2 L) := notAt_of hr (by omega)
  have HR : Hid (Lies w a0 a1 a2 L) := hr
  clear hW3
  have o0 := (HC.out.2.1).cs 0 _ rfl
  have o1 := (HC.out.2.1).cs 1 _ rfl
  have o2 := (HC.out.2.1).cs 2 _ rfl
  have o3 := (HC.out.2.1).cs 3 _ rfl
  have o4 := (HC.out.2.1).cs 4 _ rfl
  have o5 := (HC.out.2.1).cs 5 _ rfl
  have o6 := (HC.out.2.1).cs 6 _ rfl
  have p0 := fun z => (HC.out.1.next (below1 W z)).cs 0 _ rfl
  have p1 := fun z => (HC.out.1.next (below1 W z)).cs 1 _ rfl
  have p2 := fun z => (HC.out.1.next (below1 W z)).cs 2 _ rfl
  have p3 := fun z => (HC.out.1.next (below1 W z)).cs 3 _ rfl
  have v0 := fun z => (HC.out.2.1.next (below1 W z)).cs 0 _ rfl
  have v1 := fun z => (HC.out.2.1.next (below1 W z)).cs 1 _ rfl
  have v2 := fun z => (HC.out.2.1.next (below1 W z)).cs 2 _ rfl
  have v3 := fun z => (HC.out.2.1.next (below1 W z)).cs 3 _ rfl
  have v4 := fun z => (HC.out.2.1.next (below1 W z)).cs 4 _ rfl
  have v5 := fun z => (HC.out.2.1.next (below1 W z)).cs 5 _ rfl
  have v6 := fun z => (HC.out.2.1.next (below1 W z)).cs 6 _ rfl
  have HL : Hid (L.ops = ops ∧ L.S.length = n0 ∧ L.H.length = n1 ∧ L.M.length = n2 ∧ n1 ≤ c1) := ⟨hops, h0, h1, h2, hcap⟩
  have HFR : Hid _ := hfe
  have HPU : Hid _ := hpu
  clear hr hfe hpu hops h0 h1 h2 hcap
  have HS : Hid (∀ w' : World, Below W3.heap.size W3 w' → (Below W3.heap.size W3 w' ∧ w'.cell? ⟨w.heap.size, 0, none⟩ = some (.slice a0 n0 c0) ∧ w'.cell? ⟨w.heap.size, 1, none⟩ = some (.slice a1 n1 c1) ∧ w'.cell? ⟨w.heap.size, 2, none⟩ = some (.slice a2 n2 c2) ∧ w'.cell? ⟨w.heap.size, 3, none⟩ = some (.int .i64 ops) ∧ w'.cell? ⟨w.heap.size + 1, 1, none⟩ = some (.string osk) ∧ w'.cell? ⟨w.heap.size + 1, 2, none⟩ = some (.string ol) ∧ w'.cell? ⟨w.heap.size + 1, 4, none⟩ = some (.int .i64 oq))) := fun w' kx => by
    have h1 := HC3.out.1.next kx
    have h2 := HC3.out.2.1.next kx
    exact ⟨kx, h1.cs 0 _ rfl, h1.cs 1 _ rfl, h1.cs 2 _ rfl, h1.cs 3 _ rfl, h2.cs 1 _ rfl, h2.cs 2 _ rfl, h2.cs 4 _ rfl⟩
  have HSD : Hid (∀ w' : World, (Below W3.heap.size W3 w' ∧ w'.cell? ⟨w.heap.size, 0, none⟩ = some (.slice a0 n0 c0) ∧ w'.cell? ⟨w.heap.size, 1, none⟩ = some (.slice a1 n1 c1) ∧ w'.cell? ⟨w.heap.size, 2, none⟩ = some (.slice a2 n2 c2) ∧ w'.cell? ⟨w.heap.size, 3, none⟩ = some (.int .i64 ops) ∧ w'.cell? ⟨w.heap.size + 1, 1, none⟩ = some (.string osk) ∧ w'.cell? ⟨w.heap.size + 1, 2, none⟩ = some (.string ol) ∧ w'.cell? ⟨w.heap.size + 1, 4, none⟩ = some (.int .i64 oq)) → (Below W3.heap.size W3 w'.drew ∧ w'.drew.cell? ⟨w.heap.size, 0, none⟩ = some (.slice a0 n0 c0) ∧ w'.drew.cell? ⟨w.heap.size, 1, none⟩ = some (.slice a1 n1 c1) ∧ w'.drew.cell? ⟨w.heap.size, 2, none⟩ = some (.slice a2 n2 c2) ∧ w'.drew.cell? ⟨w.heap.size, 3, none⟩ = some (.int .i64 ops) ∧ w'.drew.cell? ⟨w.heap.size + 1, 1, none⟩ = some (.string osk) ∧ w'.drew.cell? ⟨w.heap.size + 1, 2, none⟩ = some (.string ol) ∧ w'.drew.cell? ⟨w.heap.size + 1, 4, none⟩ = some (.int .i64 oq))) := fun w' h => HS.out _ h.1.drew
  have HC1 : Hid (∀ w' : World, (Below W3.heap.size W3 w' ∧ w'.cell? ⟨w.heap.size, 0, none⟩ = some (.slice a0 n0 c0) ∧ w'.cell? ⟨w.heap.size, 1, none⟩ = some (.slice a1 n1 c1) ∧ w'.cell? ⟨w.heap.size, 2, none⟩ = some (.slice a2 n2 c2) ∧ w'.cell? ⟨w.heap.size, 3, none⟩ = some (.int .i64 ops) ∧ w'.cell? ⟨w.heap.size + 1, 1, none⟩ = some (.string osk) ∧ w'.cell? ⟨w.heap.size + 1, 2, none⟩ = some (.string ol) ∧ w'.cell? ⟨w.heap.size + 1, 4, none⟩ = some (.int .i64 oq)) → Calls Try.prog 52 #[.agg #[.slice a0 n0 c0, .slice a1 n1 c1, .slice a2 n2 c2, .int .i64 ops], .string osk, .string ol] w' fun e w'' => e = .returned (.int .i64 fr) ∧ (Below W3.heap.size W3 w'' ∧ w''.cell? ⟨w.heap.size, 0, none⟩ = some (.slice a0 n0 c0) ∧ w''.cell? ⟨w.heap.size, 1, none⟩ = some (.slice a1 n1 c1) ∧ w''.cell? ⟨w.heap.size, 2, none⟩ = some (.slice a2 n2 c2) ∧ w''.cell? ⟨w.heap.size, 3, none⟩ = some (.int .i64 ops) ∧ w''.cell? ⟨w.heap.size + 1, 1, none⟩ = some (.string osk) ∧ w''.cell? ⟨w.heap.size + 1, 2, none⟩ = some (.string ol) ∧ w''.cell? ⟨w.heap.size + 1, 4, none⟩ = some (.int .i64 oq))) := fun w' h => (HFR.out w' (Below.next HC3.out.2.2.2.1 h.1)).mono fun e w'' ⟨r1, r2⟩ => ⟨r1, HS.out _ (Below.next h.1 r2)⟩
  go_enter Try.func28, Try.ntmps28
  go_wp2_with fail
  rw [HW3.out]
  refine wp_region_held_drew (S := (fun (w' : World) => (Below W3.heap.size W3 w' ∧ w'.cell? ⟨w.heap.size, 0, none⟩ = some (.slice a0 n0 c0) ∧ w'.cell? ⟨w.heap.size, 1, none⟩ = some (.slice a1 n1 c1) ∧ w'.cell? ⟨w.heap.size, 2, none⟩ = some (.slice a2 n2 c2) ∧ w'.cell? ⟨w.heap.size, 3, none⟩ = some (.int .i64 ops) ∧ w'.cell? ⟨w.heap.size + 1, 1, none⟩ = some (.string osk) ∧ w'.cell? ⟨w.heap.size + 1, 2, none⟩ = some (.string ol) ∧ w'.cell? ⟨w.heap.size + 1, 4, none⟩ = some (.int .i64 oq)))) (by kernel_rfl) (HSD.out _ (HS.out _ (Below.refl _ _))) (fun hHeld => ?_)
  refine wpAnyH_take (i := 0) (oi := { dst := some 48, op := Op.load 26 (Operand.tmp 2), type := 26, pos := "ref.go:201", after := #[], guard := none }) (v := .agg #[.slice a0 n0 c0, .slice a1 n1 c1, .slice a2 n2 c2, .int .i64 ops]) rfl (by kernel_rfl) (by kernel_rfl) (by kernel_rfl) (fun _ _ _ h => h) (Or.inl ⟨by rfl, ?_⟩) (by with_reducible assumption) ?_
  · intro wx hSw
    (try dsimp only at hSw)
    first | (go_simp; done) | (go_simp; with_reducible rfl)
  try simp only [Act.put, List.setIfInBounds_toArray, List.set_cons_zero, List.set_cons_succ]
  refine wpAnyH_take (i := 1) (oi := { dst := some 49, op := Op.fieldAddr 28 (Operand.tmp 3) 1, type := 0, pos := "ref.go:201", after := #[], guard := none }) (v := .pointer (some ⟨w.heap.size + 1, 1, none⟩)) rfl (by kernel_rfl) (by kernel_rfl) (by kernel_rfl) (fun _ _ _ h => h) (Or.inl ⟨by rfl, ?_⟩) (by with_reducible assumption) ?_
  · intro wx hSw
    (try dsimp only at hSw)
    first | (go_simp; done) | (go_simp; with_reducible rfl)
  try simp only [Act.put, List.setIfInBounds_toArray, List.set_cons_zero, List.set_cons_succ]
  refine wpAnyH_take (i := 2) (oi := { dst := some 50, op := Op.load 9 (Operand.tmp 49), type := 9, pos := "ref.go:201", after := #[{ on := 1, ground := Ground.data }], guard := none }) (v := .string osk) rfl (by kernel_rfl) (by kernel_rfl) (by kernel_rfl) (fun _ _ _ h => h) (Or.inl ⟨by rfl, ?_⟩) (by with_reducible assumption) ?_
  · intro wx hSw
    (try dsimp only at hSw)
    first | (go_simp; done) | (go_simp; with_reducible rfl)
  try simp only [Act.put, List.setIfInBounds_toArray, List.set_cons_zero, List.set_cons_succ]
  refine wpAnyH_take (i := 3) (oi := { dst := some 51, op := Op.fieldAddr 28 (Operand.tmp 3) 2, type := 0, pos := "ref.go:201", after := #[], guard := none }) (v := .pointer (some ⟨w.heap.size + 1, 2, none⟩)) rfl (by kernel_rfl) (by kernel_rfl) (by kernel_rfl) (fun _ _ _ h => h) (Or.inl ⟨by rfl, ?_⟩) (by with_reducible assumption) ?_
  · intro wx hSw
    (try dsimp only at hSw)
    first | (go_simp; done) | (go_simp; with_reducible rfl)
  try simp only [Act.put, List.setIfInBounds_toArray, List.set_cons_zero, List.set_cons_succ]
  refine wpAnyH_take (i := 4) (oi := { dst := some 52, op := Op.load 9 (Operand.tmp 51), type := 9, pos := "ref.go:201", after := #[{ on := 3, ground := Ground.data }], guard := none }) (v := .string ol) rfl (by kernel_rfl) (by kernel_rfl) (by kernel_rfl) (fun _ _ _ h => h) (Or.inl ⟨by rfl, ?_⟩) (by with_reducible assumption) ?_
  · intro wx hSw
    (try dsimp only at hSw)
    first | (go_simp; done) | (go_simp; with_reducible rfl)
  try simp only [Act.put, List.setIfInBounds_toArray, List.set_cons_zero, List.set_cons_succ]
  refine wpAnyH_take (i := 6) (oi := { dst := some 54, op := Op.fieldAddr 28 (Operand.tmp 3) 4, type := 0, pos := "ref.go:201", after := #[], guard := none }) (v := .pointer (some ⟨w.heap.size + 1, 4, none⟩)) rfl (by kernel_rfl) (by kernel_rfl) (by kernel_rfl) (fun _ _ _ h => h) (Or.inl ⟨by rfl, ?_⟩) (by with_reducible assumption) ?_
  · intro wx hSw
    (try dsimp only at hSw)
    first | (go_simp; done) | (go_simp; with_reducible rfl)
  try simp only [Act.put, List.setIfInBounds_toArray, List.set_cons_zero, List.set_cons_succ]
  refine wpAnyH_take (i := 7) (oi := { dst := some 55, op := Op.load 3 (Operand.tmp 54), type := 3, pos := "ref.go:201", after := #[{ on := 6, ground := Ground.data }], guard := none }) (v := .int .i64 oq) rfl (by kernel_rfl) (by kernel_rfl) (by kernel_rfl) (fun _ _ _ h => h) (Or.inl ⟨by rfl, ?_⟩) (by with_reducible assumption) ?_
  · intro wx hSw
    (try dsimp only at hSw)
    first | (go_simp; done) | (go_simp; with_reducible rfl)
  try simp only [Act.put, List.setIfInBounds_toArray, List.set_cons_zero, List.set_cons_succ]
  refine wpAnyH_ready (rs := [5]) (by kernel_rfl) (by simp) ?_
  refine AllReadyH.cons rfl (fun K hK => ?_) AllReadyH.nil
  go_simp
  go_wp2_with (((with_reducible refine Calls.mono (HC1.out _ (by with_reducible assumption)) ?_); rintro e w4 ⟨rfl, hS5⟩))
  refine hK.out _ _ (by with_reducible assumption) (fun hHeld5 => ?_)
  clear hK K
  try simp only [Act.put, List.setIfInBounds_toArray, List.set_cons_zero, List.set_cons_succ]
  refine wpAnyH_take (i := 8) (oi := { dst := some 56, op := Op.binOp BinOp.lss 3 (Operand.tmp 53) (Operand.tmp 55) 3, type := 4, pos := "ref.go:201", after := #[{ on := 5, ground := Ground.data }, { on := 7, ground := Ground.data }], guard := none }) (v := .bool false) rfl (by kernel_rfl) (by kernel_rfl) (by kernel_rfl) (fun _ _ _ h => h) (Or.inl ⟨by rfl, ?_⟩) (by with_reducible assumption) ?_
  · intro wx hSw
    (try dsimp only at hSw)
    first | (go_simp; done) | (go_simp; with_reducible rfl)
  try simp only [Act.put, List.setIfInBounds_toArray, List.set_cons_zero, List.set_cons_succ]
  refine wpAnyH_done (by kernel_rfl) ?_ _
  have HK4 : Hid (Below W3.heap.size W3 w4) := hS5.1
  clear hS5 HS HSD HC1 hHeld hHeld5
  clear o0 o1 o2 o3 o4 o5 o6 p0 p1 p2 p3 v0 v1 v2 v3 v4 v5 v6
  have hq1 := HC3.out.1.next HK4.out
  have hq2 := HC3.out.2.1.next HK4.out
  have hq5 := HC3.out.2.2.2.2.next HK4.out
  have l0 := (hq1).cs 0 _ rfl
  have l1 := (hq1).cs 1 _ rfl
  have l2 := (hq1).cs 2 _ rfl
  have l3 := (hq1).cs 3 _ rfl
  have x0 := (hq2).cs 0 _ rfl
  have x1 := (hq2).cs 1 _ rfl
  have x2 := (hq2).cs 2 _ rfl
  have x3 := (hq2).cs 3 _ rfl
  have x4 := (hq2).cs 4 _ rfl
  have x5 := (hq2).cs 5 _ rfl
  have x6 := (hq2).cs 6 _ rfl
  have t0 := (hq5).cs 0 _ rfl
  have t1 := (hq5).cs 1 _ rfl
  have t2 := (hq5).cs 2 _ rfl
  have t3 := (hq5).cs 3 _ rfl
  clear hq1 hq2 hq5
  go_wp2_with fail
  refine Calls.mono (HPU.out _ (Below.next HC3.out.2.2.2.1 HK4.out)) ?_; rintro e w6 ⟨b0, m0, d0, rfl, hl0, hrs, k6, nb0⟩
  have hk6 : Below W3.heap.size W3 w6 := Below.next HK4.out k6
  have hc6 := HC3.out.1.next hk6
  have hlt : w.heap.size + 1 + 1 < W3.heap.size := HC3.out.2.2.1.lt
  have hsz := HK4.out.size
  obtain ⟨X, hX⟩ : ∃ X, ((((w6.setCell ⟨w.heap.size, 0, none⟩ (.slice b0 m0 d0)).setCell ⟨w.heap.size, 1, none⟩ (.slice a1 n1 c1)).setCell ⟨w.heap.size, 2, none⟩ (.slice a2 n2 c2)).setCell ⟨w.heap.size, 3, none⟩ (.int .i64 ops)) = X := ⟨_, rfl⟩
  have HX : Hid (CellsF X w.heap.size [.slice b0 m0 d0, .slice a1 n1 c1, .slice a2 n2 c2, .int .i64 ops] ∧ CellsF X (w.heap.size + 1) [.int .i64 2, .string osk, .string ol, .string ot, .int .i64 oq, .int .i64 id, .int .i64 od] ∧ CellsF X (w.heap.size + 1 + 1) [.slice none 0 0, .slice none 0 0, .slice none 0 0, .int .i64 0] ∧ Below w.heap.size w X ∧ Rw stv 4 X b0 S2 ∧ S2.length = m0 ∧ (∀ b' o', b0 = some (Addr.mk b' o' none) → w.heap.size + 1 + 1 < b') ∧ w.heap.size + 1 + 1 < X.heap.size) := by
    show _ ∧ _
    rw [← hX]
    exact ⟨hc6.four rfl _ _ _ _, (HC3.out.2.1.next hk6).far (four_far _ _ _ _ _ _ (by omega)), (HC3.out.2.2.1.next hk6).far (four_far _ _ _ _ _ _ (by omega)), below_four (Below.next HC3.out.2.2.2.1 hk6) _ (Nat.le_refl _) _ _ _ _, hrs.far (fun b' o' e hne => four_far _ _ _ _ _ _ (by have := nb0 b' o' e; omega)), hl0, fun b' o' e => by have := nb0 b' o' e; omega, by rw [size_four]; exact Nat.lt_of_lt_of_le hlt hk6.size⟩
  clear l0 l1 l2 l3 x0 x1 x2 x3 x4 x5 x6 t0 t1 t2 t3
  have q0 := (hc6).cs 0 _ rfl
  have q1 := (hc6).cs 1 _ rfl
  have q2 := (hc6).cs 2 _ rfl
  have q3 := (hc6).cs 3 _ rfl
  have f0 := (hc6).fz 0
  have f1 := (hc6).fz 1
  have f2 := (hc6).fz 2
  have f3 := (hc6).fz 3
  obtain ⟨o', c', w7, RA, RI, RB⟩ := copyH (c := c1) HL.out.2.2.1 hm1 (HR.out.H.next hlv_ne HX.out.2.2.2.1)
  have HRA : Hid _ := RA
  obtain ⟨g, dd, w8, SA, SI, SB⟩ := RI.more HL.out.2.2.1.symm RB.size ⟨(n1 : Int) + 1, osk, ol, oq, 0, od⟩ (by rw [HL.out.2.2.1]; omega)
  have HSA : Hid _ := SA
  dsimp only at HSA
  have hb8 : Below X.heap.size X w8 := RB.trans SB
  have h7 := HX.out.1.next RB
  have h7o := HX.out.2.1.next RB
  have h8 := HX.out.1.next hb8
  have hcz := h8.set 1 (.slice (some ⟨g, 0, none⟩) (n1 + 1) dd) (by simp)
  obtain ⟨Y, hY⟩ : ∃ Y, w8.setCell ⟨w.heap.size, 1, none⟩ (.slice (some ⟨g, 0, none⟩) (n1 + 1) dd) = Y := ⟨_, rfl⟩
  have hcy : CellsF (w8.setCell ⟨w.heap.size, 1, none⟩ (.slice (some ⟨g, 0, none⟩) (n1 + 1) dd)) (w.heap.size + 1 + 1) [.slice none 0 0, .slice none 0 0, .slice none 0 0, .int .i64 0] := (HX.out.2.2.1.next hb8).far (Below.heap_setCell _ _ _ _ (by show w.heap.size + 1 + 1 ≠ w.heap.size; omega))
  have hbel : Below w.heap.size w w8 := Below.next HX.out.2.2.2.1 hb8
  have hws := HX.out.2.2.2.1.size
  have hwx := HX.out.2.2.2.2.2.2.2
  have hgn := (SI.new g rfl).1
  have HFIN : Hid (∀ u0 u1 u2 u3, Lies ((((Y.setCell ⟨(w.heap.size + 1 + 1), 0, none⟩ u0).setCell ⟨(w.heap.size + 1 + 1), 1, none⟩ u1).setCell ⟨(w.heap.size + 1 + 1), 2, none⟩ u2).setCell ⟨(w.heap.size + 1 + 1), 3, none⟩ u3) b0 (some ⟨g, 0, none⟩) a2 ⟨S2, L.H ++ [⟨(n1 : Int) + 1, osk, ol, oq, 0, od⟩], L.M, ops⟩ ∧ Below w.heap.size w ((((Y.setCell ⟨(w.heap.size + 1 + 1), 0, none⟩ u0).setCell ⟨(w.heap.size + 1 + 1), 1, none⟩ u1).setCell ⟨(w.heap.size + 1 + 1), 2, none⟩ u2).setCell ⟨(w.heap.size + 1 + 1), 3, none⟩ u3)) := fun u0 u1 u2 u3 => by
    obtain ⟨q0, q1, e1, qq⟩ := own_rowH SI.own
    injection e1 with e1 e2 e3
    subst e1
    rw [← hY]
    refine ⟨⟨?_, ?_, ?_⟩, below_four (below_set hbel _ _ _ (Nat.le_refl _)) _ (by omega) _ _ _ _⟩
    · refine (HX.out.2.2.2.2.1.next stv_ne hb8).far (fun b' o' e hne => ?_)
      have h9 := HX.out.2.2.2.2.2.2.1 b' o' e
      rw [four_far _ _ _ _ _ _ (by omega), Below.heap_setCell _ _ _ _ (by show b' ≠ w.heap.size; omega)]
    · refine qq.far (fun b' o' e hne => ?_)
      cases e
      rw [four_far _ _ _ _ _ _ (by omega), Below.heap_setCell _ _ _ _ (by show g ≠ w.heap.size; omega)]
    · refine (HR.out.M.next mvv_ne hbel).far (fun b' o' e hne => ?_)
      have h9 := HR.out.M.lt mvv_ne e hne
      rw [four_far _ _ _ _ _ _ (by omega), Below.heap_setCell _ _ _ _ (by show b' ≠ w.heap.size; omega)]
  have HLN : Hid ((L.H ++ [Hld.mk ((n1 : Int) + 1) osk ol oq 0 od]).length = n1 + 1 ∧ n1 + 1 ≤ dd ∧ SrcL w a0 a1 a2 L b0 (some ⟨g, 0, none⟩) a2 ⟨S2, L.H ++ [⟨(n1 : Int) + 1, osk, ol, oq, 0, od⟩], L.M, ops⟩) := ⟨by rw [List.length_append, HL.out.2.2.1]; rfl, own_cap SI.own, ⟨fun _ b' o' e => .inl (by have := HX.out.2.2.2.2.2.2.1 b' o' e; omega), fun _ b' o' e => .inl (by cases e; omega), fun hne _ _ _ => .inr ⟨hne, rfl⟩⟩⟩
  rw [hY] at hcy hcz
  have HCY : Hid (CellsF Y (w.heap.size + 1 + 1) [.slice none 0 0, .slice none 0 0, .slice none 0 0, .int .i64 0]) := hcy
  have r0 := (HX.out.1).cs 0 _ rfl
  have r1 := (HX.out.1).cs 1 _ rfl
  have r2 := (HX.out.1).cs 2 _ rfl
  have r3 := (HX.out.1).cs 3 _ rfl
  have u0 := (HX.out.2.1).cs 0 _ rfl
  have u1 := (HX.out.2.1).cs 1 _ rfl
  have u2 := (HX.out.2.1).cs 2 _ rfl
  have u3 := (HX.out.2.1).cs 3 _ rfl
  have u4 := (HX.out.2.1).cs 4 _ rfl
  have u5 := (HX.out.2.1).cs 5 _ rfl
  have u6 := (HX.out.2.1).cs 6 _ rfl
  have aa0 := (h7).cs 0 _ rfl
  have aa1 := (h7).cs 1 _ rfl
  have aa2 := (h7).cs 2 _ rfl
  have aa3 := (h7).cs 3 _ rfl
  have ab0 := (h7o).cs 0 _ rfl
  have ab1 := (h7o).cs 1 _ rfl
  have ab2 := (h7o).cs 2 _ rfl
  have ab3 := (h7o).cs 3 _ rfl
  have ab4 := (h7o).cs 4 _ rfl
  have ab5 := (h7o).cs 5 _ rfl
  have ab6 := (h7o).cs 6 _ rfl
  have ac0 := (h8).cs 0 _ rfl
  have ac1 := (h8).cs 1 _ rfl
  have ac2 := (h8).cs 2 _ rfl
  have ac3 := (h8).cs 3 _ rfl
  have ad0 := (hcz).cs 0 _ rfl
  have ad1 := (hcz).cs 1 _ rfl
  have ad2 := (hcz).cs 2 _ rfl
  have ad3 := (hcz).cs 3 _ rfl
  have ae0 := (hcy).cs 0 _ rfl
  have ae1 := (hcy).cs 1 _ rfl
  have ae2 := (hcy).cs 2 _ rfl
  have ae3 := (hcy).cs 3 _ rfl
  have e1' := h8.fz 1
  have ah0 := (hcy).fz 0
  have ah1 := (hcy).fz 1
  have ah2 := (hcy).fz 2
  have ah3 := (hcy).fz 3
  clear hl0 hrs k6 nb0 hk6 hc6 hlt hsz RA RI RB SA SI SB hb8 h7 h7o h8 hcz hcy hbel hws hwx hgn
  go_wp2_with (first | ((with_reducible apply st_append (x := .tmp 63)); (case ho => rfl); (case hgd => rfl); (case hr => exact HRA.out)) | ((with_reducible apply st_append (x := .tmp 67)); (case ho => rfl); (case hgd => rfl); (case hr => exact HSA.out)))
  try simp only [Exit.inBlock, Exit.then]
  refine bodyPost_ret (end_cell_tmp rfl rfl (loadLed _ (HCY.out.four rfl _ _ _ _) rfl)) rfl ?_
  exact ⟨_, _, _, _, _, _, _, _, _, rfl, HX.out.2.2.2.2.2.1, HLN.out.1, HL.out.2.2.2.1, (HFIN.out _ _ _ _).1, HLN.out.2.1, (HFIN.out _ _ _ _).2, HLN.out.2.2⟩
end Go.Proofs.Ytflbcheofmljeaa

namespace Go.Proofs.Ytflbcheofmljeaa
open Go.ChangeShapes Go.WideShapes Go.RowKit
set_option linter.unusedVariables false
set_option maxRecDepth 100000

/-- Why the document refuses an operation, ahead of lists that are too long. -/
def rE (L : Led) (o : Opn) : Int :=
  if o.k = 1 then er ((findK L.S o.sku o.loc).on + o.qty)
  else if o.k = 2 then (if vl ((findK L.S o.sku o.loc).on - (findK L.S o.sku o.loc).held) < o.qty then 70 else 0)
  else if o.k = 3 ∨ o.k = 4 then (if actL L.H o.id then 0 else 71)
  else if o.k = 5 then 0
  else if o.k = 6 then (if vl ((findK L.S o.sku o.loc).on - (findK L.S o.sku o.loc).held) < o.qty then 70 else er ((findK L.S o.sku (Opn.to o)).on + o.qty))
  else (if er ((findK L.S o.sku o.loc).on + o.qty) = 0 then (if vl ((findK L.S o.sku o.loc).on + o.qty) < (findK L.S o.sku o.loc).held then 70 else 0) else er ((findK L.S o.sku o.loc).on + o.qty))
def rL (L : Led) (o : Opn) : Led := if rE L o = 0 then chL L o else L
theorem rL_no {L : Led} {o : Opn} {e : Int} (h : rE L o = e) (he : ¬ e = 0) : rL L o = L := by unfold rL; rw [h, if_neg he]
theorem rL_yes {L : Led} {o : Opn} (h : rE L o = 0) : rL L o = chL L o := by unfold rL; rw [h, if_pos rfl]
structure RArgs (w : World) (a0 : Option Addr) (n0 c0 : Nat) (a1 : Option Addr) (n1 c1 : Nat) (a2 : Option Addr) (n2 c2 : Nat) (L : Led) : Prop where
  h0 : L.S.length = n0
  h1 : L.H.length = n1
  h2 : L.M.length = n2
  cap : n1 ≤ c1
  li : Lies w a0 a1 a2 L
theorem rdoes_k1 {w : World} {a0 : Option Addr} {n0 c0 : Nat} {a1 : Option Addr} {n1 c1 : Nat} {a2 : Option Addr} {n2 c2 : Nat} {L : Led} (h : RArgs w a0 n0 c0 a1 n1 c1 a2 n2 c2 L) (hm : mayL L) (hf : L.fit) (sku loc tt : ByteArray) (qty id due : Int) (hq : i64b qty) :
    Calls Try.prog 28 #[.agg #[.slice a0 n0 c0, .slice a1 n1 c1, .slice a2 n2 c2, .int .i64 L.ops], .agg #[.int .i64 1, .string sku, .string loc, .string tt, .int .i64 qty, .int .i64 id, .int .i64 due]] w fun e w' => LeP a0 a1 a2 L w w' (rL L ⟨1, sku, loc, tt, qty, id, due⟩) (rE L ⟨1, sku, loc, tt, qty, id, due⟩) e := by
  have hl := lens hm
  have h0 := h.h0
  have h2 := h.h2
  have he : rE L ⟨1, sku, loc, tt, qty, id, due⟩ = er ((findK L.S sku loc).on + qty) := rfl
  have hmo : ∀ w', Below w.heap.size w w' → _ := fun w' b => rmore_is a0 n0 c0 a1 n1 c1 a2 n2 c2 L.ops L.S h.h0 (by omega) hf.S sku loc qty hq w' (h.li.S.next stv_ne b)
  by_cases hz : er ((findK L.S sku loc).on + qty) = 0
  · rw [rL_yes (he.trans hz), he, hz]
    rw [hz] at hmo
    have hin := er_zero hz
    have hmv : ∀ w', Below w.heap.size w w' → _ := fun w' b => rmoved_is a0 n0 c0 a1 n1 c1 a2 n2 c2 L.ops L.S h.h0 (by omega) hm.S.2 L.M h.h2 (by omega) sku loc qty 1 0 hin w' (h.li.S.next stv_ne b) (h.li.M.next mvv_ne b)
    have := rdoes_1 a0 n0 c0 a1 n1 c1 a2 n2 c2 L.ops L sku loc tt qty id due w _ hmo _ _ hmv h.li rfl h.h0 h.h1 h.h2 h.cap
    have hch : chL L ⟨1, sku, loc, tt, qty, id, due⟩ = ⟨addOn L.S sku loc qty, L.H, L.M ++ [⟨(n2 : Int) + 1, sku, loc, qty, 1, 0⟩], L.ops⟩ := by rw [← h.h2]; rfl
    rw [hch]
    exact this
  · rw [rL_no he hz, he]
    exact rdoes_1_no a0 n0 c0 a1 n1 c1 a2 n2 c2 L.ops L sku loc tt qty id due w _ _ hz hmo h.li rfl h.h0 h.h1 h.h2 h.cap
theorem rdoes_k5 {w : World} {a0 : Option Addr} {n0 c0 : Nat} {a1 : Option Addr} {n1 c1 : Nat} {a2 : Option Addr} {n2 c2 : Nat} {L : Led} (h : RArgs w a0 n0 c0 a1 n1 c1 a2 n2 c2 L) (hm : mayL L) (hf : L.fit) (sku loc tt : ByteArray) (qty id due : Int)  :
    Calls Try.prog 28 #[.agg #[.slice a0 n0 c0, .slice a1 n1 c1, .slice a2 n2 c2, .int .i64 L.ops], .agg #[.int .i64 5, .string sku, .string loc, .string tt, .int .i64 qty, .int .i64 id, .int .i64 due]] w fun e w' => LeP a0 a1 a2 L w w' (rL L ⟨5, sku, loc, tt, qty, id, due⟩) (rE L ⟨5, sku, loc, tt, qty, id, due⟩) e := by
  have hl := lens hm
  have h0 := h.h0
  have h1 := h.h1
  have h2 := h.h2
  have he : rE L ⟨5, sku, loc, tt, qty, id, due⟩ = 0 := rfl
  rw [rL_yes he, he]
  exact rdoes_5 a0 n0 c0 a1 n1 c1 a2 n2 c2 L.ops L sku loc tt qty id due w _ (fun w' b => rexp_is a0 n0 c0 a1 n1 c1 a2 n2 c2 L.ops L hm hf rfl h.h0 h.h1 h.h2 h.cap due w' (h.li.next b)) h.li
theorem rdoes_k7 {w : World} {a0 : Option Addr} {n0 c0 : Nat} {a1 : Option Addr} {n1 c1 : Nat} {a2 : Option Addr} {n2 c2 : Nat} {L : Led} (h : RArgs w a0 n0 c0 a1 n1 c1 a2 n2 c2 L) (hm : mayL L) (hf : L.fit) (sku loc tt : ByteArray) (qty id due : Int) (hq : i64b qty) :
    Calls Try.prog 28 #[.agg #[.slice a0 n0 c0, .slice a1 n1 c1, .slice a2 n2 c2, .int .i64 L.ops], .agg #[.int .i64 7, .string sku, .string loc, .string tt, .int .i64 qty, .int .i64 id, .int .i64 due]] w fun e w' => LeP a0 a1 a2 L w w' (rL L ⟨7, sku, loc, tt, qty, id, due⟩) (rE L ⟨7, sku, loc, tt, qty, id, due⟩) e := by
  have hl := lens hm
  have h0 := h.h0
  have h1 := h.h1
  have h2 := h.h2
  have hmo : ∀ w', Below w.heap.size w w' → _ := fun w' b => rmore_is a0 n0 c0 a1 n1 c1 a2 n2 c2 L.ops L.S h.h0 (by omega) hf.S sku loc qty hq w' (h.li.S.next stv_ne b)
  have he : rE L ⟨7, sku, loc, tt, qty, id, due⟩ = (if er ((findK L.S sku loc).on + qty) = 0 then (if vl ((findK L.S sku loc).on + qty) < (findK L.S sku loc).held then 70 else 0) else er ((findK L.S sku loc).on + qty)) := rfl
  by_cases hz : er ((findK L.S sku loc).on + qty) = 0
  · rw [if_pos hz] at he
    rw [hz] at hmo
    have hfi : ∀ w', Below w.heap.size w w' → _ := fun w' b => rfind_is a0 n0 c0 a1 n1 c1 a2 n2 c2 L.ops L.S h.h0 (by omega) sku loc w' (h.li.S.next stv_ne b)
    by_cases hlt : vl ((findK L.S sku loc).on + qty) < (findK L.S sku loc).held
    · rw [if_pos hlt] at he
      rw [rL_no he (by decide), he]
      exact rdoes_7_less a0 n0 c0 a1 n1 c1 a2 n2 c2 L.ops L sku loc tt qty id due w _ hmo _ _ _ _ hfi hlt h.li rfl h.h0 h.h1 h.h2 h.cap
    · rw [if_neg hlt] at he
      rw [rL_yes he, he]
      have hin := er_zero hz
      have hmv : ∀ w', Below w.heap.size w w' → _ := fun w' b => rmoved_is a0 n0 c0 a1 n1 c1 a2 n2 c2 L.ops L.S h.h0 (by omega) hm.S.2 L.M h.h2 (by omega) sku loc qty 7 0 hin w' (h.li.S.next stv_ne b) (h.li.M.next mvv_ne b)
      have := rdoes_7 a0 n0 c0 a1 n1 c1 a2 n2 c2 L.ops L sku loc tt qty id due w _ hmo _ _ _ _ hfi hlt _ _ hmv h.li rfl h.h0 h.h1 h.h2 h.cap
      have hch : chL L ⟨7, sku, loc, tt, qty, id, due⟩ = ⟨addOn L.S sku loc qty, L.H, L.M ++ [⟨(n2 : Int) + 1, sku, loc, qty, 7, 0⟩], L.ops⟩ := by rw [← h.h2]; rfl
      rw [hch]
      exact this
  · rw [if_neg hz] at he
    rw [rL_no he hz, he]
    exact rdoes_7_no a0 n0 c0 a1 n1 c1 a2 n2 c2 L.ops L sku loc tt qty id due w _ _ hz hmo h.li rfl h.h0 h.h1 h.h2 h.cap
theorem rdoes_k2 {w : World} {a0 : Option Addr} {n0 c0 : Nat} {a1 : Option Addr} {n1 c1 : Nat} {a2 : Option Addr} {n2 c2 : Nat} {L : Led} (h : RArgs w a0 n0 c0 a1 n1 c1 a2 n2 c2 L) (hm : mayL L) (hf : L.fit) (sku loc tt : ByteArray) (qty id due : Int) (hq : i64b qty) (hq1 : 1 ≤ qty) :
    Calls Try.prog 28 #[.agg #[.slice a0 n0 c0, .slice a1 n1 c1, .slice a2 n2 c2, .int .i64 L.ops], .agg #[.int .i64 2, .string sku, .string loc, .string tt, .int .i64 qty, .int .i64 id, .int .i64 due]] w fun e w' => LeP a0 a1 a2 L w w' (rL L ⟨2, sku, loc, tt, qty, id, due⟩) (rE L ⟨2, sku, loc, tt, qty, id, due⟩) e := by
  have hl := lens hm
  have h0 := h.h0
  have h1 := h.h1
  have h2 := h.h2
  have hfe : ∀ w', Below w.heap.size w w' → _ := fun w' b => rfree_is a0 n0 c0 a1 n1 c1 a2 n2 c2 L.ops L.S h.h0 (by omega) hf.S sku loc w' (h.li.S.next stv_ne b)
  have he : rE L ⟨2, sku, loc, tt, qty, id, due⟩ = (if vl ((findK L.S sku loc).on - (findK L.S sku loc).held) < qty then 70 else 0) := rfl
  by_cases hlt : vl ((findK L.S sku loc).on - (findK L.S sku loc).held) < qty
  · rw [if_pos hlt] at he
    rw [rL_no he (by decide), he]
    exact rdoes_2_less a0 n0 c0 a1 n1 c1 a2 n2 c2 L.ops L sku loc tt qty id due w _ hfe hlt h.li rfl h.h0 h.h1 h.h2 h.cap
  · rw [if_neg hlt] at he
    rw [rL_yes he, he]
    have hfr := free_is' hm hf sku loc
    have hok := find_ok hm sku loc
    have hfo := (findK_fit hf.S sku loc).on
    have hin : i64b ((findK L.S sku loc).held + qty) := by rw [hfr] at hlt; unfold i64b at hfo ⊢; omega
    have hpu : ∀ w', Below w.heap.size w w' → _ := fun w' b => rheld_is a0 n0 c0 a1 n1 c1 a2 n2 c2 L.ops L.S h.h0 (by omega) hm.S.2 sku loc qty hin w' (h.li.S.next stv_ne b)
    have := rdoes_2 a0 n0 c0 a1 n1 c1 a2 n2 c2 L.ops L sku loc tt qty id due w _ hfe hlt (by omega) _ hpu h.li rfl h.h0 h.h1 h.h2 h.cap
    have hch : chL L ⟨2, sku, loc, tt, qty, id, due⟩ = ⟨addHeld L.S sku loc qty, L.H ++ [⟨(n1 : Int) + 1, sku, loc, qty, 0, due⟩], L.M, L.ops⟩ := by rw [← h.h1]; rfl
    rw [hch]
    exact this
theorem rdoes_k3 {w : World} {a0 : Option Addr} {n0 c0 : Nat} {a1 : Option Addr} {n1 c1 : Nat} {a2 : Option Addr} {n2 c2 : Nat} {L : Led} (h : RArgs w a0 n0 c0 a1 n1 c1 a2 n2 c2 L) (hm : mayL L) (hf : L.fit) (sku loc tt : ByteArray) (qty id due : Int) (hid : 1 ≤ id) :
    Calls Try.prog 28 #[.agg #[.slice a0 n0 c0, .slice a1 n1 c1, .slice a2 n2 c2, .int .i64 L.ops], .agg #[.int .i64 3, .string sku, .string loc, .string tt, .int .i64 qty, .int .i64 id, .int .i64 due]] w fun e w' => LeP a0 a1 a2 L w w' (rL L ⟨3, sku, loc, tt, qty, id, due⟩) (rE L ⟨3, sku, loc, tt, qty, id, due⟩) e := by
  have hl := lens hm
  have h0 := h.h0
  have h1 := h.h1
  have h2 := h.h2
  have he : rE L ⟨3, sku, loc, tt, qty, id, due⟩ = (if actL L.H id then 0 else 71) := rfl
  by_cases hgt : (n1 : Int) < id
  · have ha : actL L.H id = false := by unfold actL; rw [List.getElem?_eq_none (by omega)]
    rw [ha] at he
    simp only [Bool.false_eq_true, if_false] at he
    rw [rL_no he (by decide), he]
    exact rdoes_3 a0 n0 c0 a1 n1 c1 a2 n2 c2 L.ops L sku loc tt qty id due w _ _ (fun w' b => rover_far a0 n0 c0 a1 n1 c1 a2 n2 c2 L.ops L hm hf rfl h.h0 h.h1 h.h2 h.cap 3 sku loc tt qty id due hid hgt w' (h.li.next b)) h.li
  · obtain ⟨j, hj0⟩ : ∃ j : Nat, id = (j : Int) + 1 := ⟨(id - 1).toNat, by omega⟩
    subst hj0
    have hj : j < n1 := by omega
    have hjl : j < L.H.length := by omega
    obtain ⟨x, hx⟩ : ∃ x, L.H[j]? = some x := ⟨_, List.getElem?_eq_getElem hjl⟩
    have hjt : ((j : Int) + 1 - 1).toNat = j := by omega
    have ha : actL L.H ((j : Int) + 1) = decide (x.st = 0) := by unfold actL; rw [hjt, hx]
    obtain ⟨pb, po, e1, _⟩ := h.li.H (fun e => by rw [e] at hjl; simp at hjl)
    subst e1
    rw [ha] at he
    by_cases hst : x.st = 0
    · rw [decide_eq_true hst] at he
      simp only [if_true] at he
      rw [rL_yes he, he]
      have hch : chL L ⟨3, sku, loc, tt, qty, (j : Int) + 1, due⟩ = mvL (endL L j x 1) 3 x.sku x.loc (-x.qty) x.id := by
        unfold chL
        dsimp only
        rw [hjt, hx]
        rfl
      rw [hch]
      exact rdoes_3 a0 n0 c0 (some ⟨pb, po, none⟩) n1 c1 a2 n2 c2 L.ops L sku loc tt qty ((j : Int) + 1) due w _ _ (fun w' b => rover_out a0 n0 c0 pb po n1 c1 a2 n2 c2 L.ops L hm hf rfl h.h0 h.h1 h.h2 h.cap sku loc tt qty due j hj x hx hst w' (h.li.next b)) h.li
    · rw [decide_eq_false hst] at he
      simp only [Bool.false_eq_true, if_false] at he
      rw [rL_no he (by decide), he]
      exact rdoes_3 a0 n0 c0 (some ⟨pb, po, none⟩) n1 c1 a2 n2 c2 L.ops L sku loc tt qty ((j : Int) + 1) due w _ _ (fun w' b => rover_no a0 n0 c0 pb po n1 c1 a2 n2 c2 L.ops L hm hf rfl h.h0 h.h1 h.h2 h.cap 3 sku loc tt qty due j hj x hx hst w' (h.li.next b)) h.li
theorem rdoes_k4 {w : World} {a0 : Option Addr} {n0 c0 : Nat} {a1 : Option Addr} {n1 c1 : Nat} {a2 : Option Addr} {n2 c2 : Nat} {L : Led} (h : RArgs w a0 n0 c0 a1 n1 c1 a2 n2 c2 L) (hm : mayL L) (hf : L.fit) (sku loc tt : ByteArray) (qty id due : Int) (hid : 1 ≤ id) :
    Calls Try.prog 28 #[.agg #[.slice a0 n0 c0, .slice a1 n1 c1, .slice a2 n2 c2, .int .i64 L.ops], .agg #[.int .i64 4, .string sku, .string loc, .string tt, .int .i64 qty, .int .i64 id, .int .i64 due]] w fun e w' => LeP a0 a1 a2 L w w' (rL L ⟨4, sku, loc, tt, qty, id, due⟩) (rE L ⟨4, sku, loc, tt, qty, id, due⟩) e := by
  have hl := lens hm
  have h0 := h.h0
  have h1 := h.h1
  have h2 := h.h2
  have he : rE L ⟨4, sku, loc, tt, qty, id, due⟩ = (if actL L.H id then 0 else 71) := rfl
  by_cases hgt : (n1 : Int) < id
  · have ha : actL L.H id = false := by unfold actL; rw [List.getElem?_eq_none (by omega)]
    rw [ha] at he
    simp only [Bool.false_eq_true, if_false] at he
    rw [rL_no he (by decide), he]
    exact rdoes_4 a0 n0 c0 a1 n1 c1 a2 n2 c2 L.ops L sku loc tt qty id due w _ _ (fun w' b => rover_far a0 n0 c0 a1 n1 c1 a2 n2 c2 L.ops L hm hf rfl h.h0 h.h1 h.h2 h.cap 4 sku loc tt qty id due hid hgt w' (h.li.next b)) h.li
  · obtain ⟨j, hj0⟩ : ∃ j : Nat, id = (j : Int) + 1 := ⟨(id - 1).toNat, by omega⟩
    subst hj0
    have hj : j < n1 := by omega
    have hjl : j < L.H.length := by omega
    obtain ⟨x, hx⟩ : ∃ x, L.H[j]? = some x := ⟨_, List.getElem?_eq_getElem hjl⟩
    have hjt : ((j : Int) + 1 - 1).toNat = j := by omega
    have ha : actL L.H ((j : Int) + 1) = decide (x.st = 0) := by unfold actL; rw [hjt, hx]
    obtain ⟨pb, po, e1, _⟩ := h.li.H (fun e => by rw [e] at hjl; simp at hjl)
    subst e1
    rw [ha] at he
    by_cases hst : x.st = 0
    · rw [decide_eq_true hst] at he
      simp only [if_true] at he
      rw [rL_yes he, he]
      have hch : chL L ⟨4, sku, loc, tt, qty, (j : Int) + 1, due⟩ = endL L j x 2 := by
        unfold chL
        dsimp only
        rw [hjt, hx]
        rfl
      rw [hch]
      exact rdoes_4 a0 n0 c0 (some ⟨pb, po, none⟩) n1 c1 a2 n2 c2 L.ops L sku loc tt qty ((j : Int) + 1) due w _ _ (fun w' b => rover_up a0 n0 c0 pb po n1 c1 a2 n2 c2 L.ops L hm hf rfl h.h0 h.h1 h.h2 h.cap sku loc tt qty due j hj x hx hst w' (h.li.next b)) h.li
    · rw [decide_eq_false hst] at he
      simp only [Bool.false_eq_true, if_false] at he
      rw [rL_no he (by decide), he]
      exact rdoes_4 a0 n0 c0 (some ⟨pb, po, none⟩) n1 c1 a2 n2 c2 L.ops L sku loc tt qty ((j : Int) + 1) due w _ _ (fun w' b => rover_no a0 n0 c0 pb po n1 c1 a2 n2 c2 L.ops L hm hf rfl h.h0 h.h1 h.h2 h.cap 4 sku loc tt qty due j hj x hx hst w' (h.li.next b)) h.li
theorem rdoes_k6 {w : World} {a0 : Option Addr} {n0 c0 : Nat} {a1 : Option Addr} {n1 c1 : Nat} {a2 : Option Addr} {n2 c2 : Nat} {L : Led} (h : RArgs w a0 n0 c0 a1 n1 c1 a2 n2 c2 L) (hm : mayL L) (hf : L.fit) (sku loc tt : ByteArray) (qty id due : Int) (hq : i64b qty) (hq1 : 1 ≤ qty) (hne : ¬ loc = tt) :
    Calls Try.prog 28 #[.agg #[.slice a0 n0 c0, .slice a1 n1 c1, .slice a2 n2 c2, .int .i64 L.ops], .agg #[.int .i64 6, .string sku, .string loc, .string tt, .int .i64 qty, .int .i64 id, .int .i64 due]] w fun e w' => LeP a0 a1 a2 L w w' (rL L ⟨6, sku, loc, tt, qty, id, due⟩) (rE L ⟨6, sku, loc, tt, qty, id, due⟩) e := by
  have hl := lens hm
  have h0 := h.h0
  have h1 := h.h1
  have h2 := h.h2
  have hfe : ∀ w', Below w.heap.size w w' → _ := fun w' b => rfree_is a0 n0 c0 a1 n1 c1 a2 n2 c2 L.ops L.S h.h0 (by omega) hf.S sku loc w' (h.li.S.next stv_ne b)
  have hmo : ∀ w', Below w.heap.size w w' → _ := fun w' b => rmore_is a0 n0 c0 a1 n1 c1 a2 n2 c2 L.ops L.S h.h0 (by omega) hf.S sku tt qty hq w' (h.li.S.next stv_ne b)
  have he : rE L ⟨6, sku, loc, tt, qty, id, due⟩ = (if vl ((findK L.S sku loc).on - (findK L.S sku loc).held) < qty then 70 else er ((findK L.S sku tt).on + qty)) := rfl
  by_cases hlt : vl ((findK L.S sku loc).on - (findK L.S sku loc).held) < qty
  · rw [if_pos hlt] at he
    rw [rL_no he (by decide), he]
    exact rdoes_6_less a0 n0 c0 a1 n1 c1 a2 n2 c2 L.ops L sku loc tt qty id due w _ hfe hlt h.li rfl h.h0 h.h1 h.h2 h.cap
  · rw [if_neg hlt] at he
    by_cases hz : er ((findK L.S sku tt).on + qty) = 0
    · rw [hz] at he hmo
      rw [rL_yes he, he]
      have hfr := free_is' hm hf sku loc
      have hok := find_ok hm sku loc
      have hfo := (findK_fit hf.S sku loc).on
      have hin : i64b ((findK L.S sku loc).on + -qty) := by rw [hfr] at hlt; unfold i64b at hfo ⊢; omega
      have hin2 : i64b ((findK (addOn L.S sku loc (-qty)) sku tt).on + qty) := by
        have h9 := find_mv_other hm.S.2 6 sku loc (-qty) 0 (s' := sku) (t' := tt) (fun e => hne e.2)
        have h9' : findK (addOn L.S sku loc (-qty)) sku tt = findK L.S sku tt := h9
        rw [h9']
        exact er_zero hz
      have hris : Rises (addOn L.S sku loc (-qty)) := by rw [addOn_upd]; exact upd_rises hm.S.2 _
      have hlen : (addOn L.S sku loc (-qty)).length ≤ 90000 := by rw [addOn_upd, upd_len]; split <;> omega
      have hmv : ∀ w', Below w.heap.size w w' → _ := fun w' b => rmoved_is a0 n0 c0 a1 n1 c1 a2 n2 c2 L.ops L.S h.h0 (by omega) hm.S.2 L.M h.h2 (by omega) sku loc (-qty) 6 0 hin w' (h.li.S.next stv_ne b) (h.li.M.next mvv_ne b)
      have hml : (L.M ++ [Mov.mk ((n2 : Int) + 1) sku loc (-qty) 6 0]).length = n2 + 1 := by rw [List.length_append, h.h2]; rfl
      have := rdoes_6 a0 n0 c0 a1 n1 c1 a2 n2 c2 L.ops L sku loc tt qty id due w _ hfe hlt _ hmo (negIn (by unfold i64b at hq; omega)) _ _ hmv (addOn (addOn L.S sku loc (-qty)) sku tt qty) (L.M ++ [Mov.mk ((n2 : Int) + 1) sku loc (-qty) 6 0] ++ [Mov.mk ((n2 : Int) + 1 + 1) sku tt qty 6 0]) (fun w' b0 m0 d0 b2 m2 d2 g1 g2 g3 g4 g5 => by
        have h7 := rmoved_is b0 m0 d0 a1 n1 c1 b2 m2 d2 L.ops _ g1 (by omega) hris _ g2 (by omega) sku tt qty 6 0 hin2 w' g3 g4
        have e7 : (m2 : Int) = (n2 : Int) + 1 := by omega
        rw [e7] at h7
        exact h7) h.li rfl h.h0 h.h1 h.h2 h.cap
      have hch : chL L ⟨6, sku, loc, tt, qty, id, due⟩ = ⟨addOn (addOn L.S sku loc (-qty)) sku tt qty, L.H, L.M ++ [Mov.mk ((n2 : Int) + 1) sku loc (-qty) 6 0] ++ [Mov.mk ((n2 : Int) + 1 + 1) sku tt qty 6 0], L.ops⟩ := by
        have e6 : (((L.M ++ [Mov.mk ((L.M.length : Int) + 1) sku loc (-qty) 6 0]).length : Nat) : Int) + 1 = (n2 : Int) + 1 + 1 := by rw [List.length_append, h.h2]; rfl
        show mvL (mvL L 6 sku loc (-qty) 0) 6 sku tt qty 0 = _
        show Led.mk _ _ ((L.M ++ [Mov.mk ((L.M.length : Int) + 1) sku loc (-qty) 6 0]) ++ [Mov.mk ((((L.M ++ [Mov.mk ((L.M.length : Int) + 1) sku loc (-qty) 6 0]).length : Nat) : Int) + 1) sku tt qty 6 0]) _ = _
        rw [e6, h.h2]
        rfl
      rw [hch]
      exact this
    · rw [rL_no he hz, he]
      exact rdoes_6_no a0 n0 c0 a1 n1 c1 a2 n2 c2 L.ops L sku loc tt qty id due w _ hfe hlt _ _ hz hmo h.li rfl h.h0 h.h1 h.h2 h.cap
end Go.Proofs.Ytflbcheofmljeaa
