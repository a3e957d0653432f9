/- The document's ledger: a stock in its place. The document's ledger: put. The document's ledger: Find, Free, more. The document's ledger: held. The document's ledger: moved. The document's ledger: state. -/
import Derived.Test.YtflbcheofmljeaaLate
import Derived.Test.YtflbcheofmljeaaG6
import Derived.Test.YtflbcheofmljeaaNSum
namespace Go.Proofs.Ytflbcheofmljeaa
open Go.ChangeShapes Go.WideShapes Go.RowKit
set_option linter.unusedVariables false
set_option maxRecDepth 100000

theorem append_S {w : World} {v : Value} {l : List Stk} (h : w.ownsRow 0 50 4 v l.length (l.flatMap stv)) (x : Stk) (hs : l.length ≤ 100000) :
    ∃ g cap w', (Builtin.append_ #[22, 22] 22 #[v, .slice (some ⟨w.heap.size, 0, none⟩) 1 1]).run Try.prog (w.alloc (.cells #[.string x.sku, .string x.loc, .int .i64 x.on, .int .i64 x.held] 50)) = .ok (.slice (some ⟨g, 0, none⟩) (l.length + 1) cap) w' ∧
      w'.ownsRow 0 50 4 (.slice (some ⟨g, 0, none⟩) (l.length + 1) cap) (l.length + 1) ((l ++ [x]).flatMap stv) ∧ w.grownBy w' v.ownBlock ∧ (v.ownBlock = some g ∨ w.heap.size ≤ g) := by
  obtain ⟨i, hi, hz, h1, h2⟩ := info_of info50
  have hA := CellsF.at (w := w) (stv x) 50 (by simp [stv]) rfl
  obtain ⟨g, cap, w', a1, a2, a3, a4, a5⟩ := run_append_lies (P := Try.prog) (w.alloc (.cells (stv x).toArray 50)) 22 22 0 50 i _ 4 48 Try.underlying22 hi hz h1 h2 (by simp [Value.cells]) (by omega) v l.length (l.flatMap stv) (World.ownsRow.alloc h _) ⟨w.heap.size, 0, none⟩ 1 1 (stv x) rfl (fun j u hu => by
    rw [Go.WideShapes.add_plain, Nat.zero_add]; exact hA.cs j u hu) (fun u hu => stv_one [x] u (by simpa using hu)) (by omega) (by unfold maxLen; omega) (by omega) (Nat.zero_le _) _ rfl
  have hz1 : (w.alloc (.cells (stv x).toArray 50)).heap.size = w.heap.size + 1 := by simp
  refine ⟨g, cap, w', a1, ?_, ⟨a3.os, a3.tape, a3.output, by have := a3.size; omega, fun q hq hne => (a3.block q (by omega) hne).trans (Below.heap_alloc _ _ _ hq)⟩, a4.imp id (fun e => by omega)⟩
  rw [show (l ++ [x]).flatMap stv = l.flatMap stv ++ stv x by rw [List.flatMap_append]; simp]
  exact a2
/-- Stocks in a list of the call's own. -/
structure StksAt (N : Nat) (w : World) (v : Value) (l : List Stk) : Prop where
  own : w.ownsRow 0 50 4 v l.length (l.flatMap stv)
  new : ∀ g, v.ownBlock = some g → N ≤ g ∧ g < w.heap.size
theorem StksAt.void (N : Nat) (w : World) : StksAt N w (.slice none 0 0) [] := ⟨World.ownsRow_nil _ _ _ _, fun g h => by cases h⟩
theorem StksAt.next {N : Nat} {w w' : World} {v : Value} {l : List Stk} (h : StksAt N w v l) (b : Below w.heap.size w w') : StksAt N w' v l :=
  ⟨ownsRow_kept h.own (fun k hk => b.block k (h.new k hk).2), fun g hg => ⟨(h.new g hg).1, Nat.lt_of_lt_of_le (h.new g hg).2 b.size⟩⟩
theorem StksAt.more {N : Nat} {w : World} {o : Option Addr} {m c : Nat} {l : List Stk} (h : StksAt N w (.slice o m c) l) (hm : m = l.length) (hN : N ≤ w.heap.size) (x : Stk) (hs : l.length ≤ 100000) :
    ∃ g d w1, (Builtin.append_ #[22, 22] 22 #[.slice o m c, .slice (some ⟨w.heap.size, 0, none⟩) 1 1]).run Try.prog (w.alloc (.cells #[.string x.sku, .string x.loc, .int .i64 x.on, .int .i64 x.held] 50)) = .ok (.slice (some ⟨g, 0, none⟩) (m + 1) d) w1 ∧ StksAt N w1 (.slice (some ⟨g, 0, none⟩) (m + 1) d) (l ++ [x]) ∧ Below N w w1 := by
  subst hm
  obtain ⟨g, cap, w1, a1, a2, a3, a4⟩ := append_S h.own x hs
  have hlen : (l ++ [x]).length = l.length + 1 := by simp
  refine ⟨g, cap, w1, a1, ⟨by rw [hlen]; exact a2, fun g' hg' => ?_⟩, ?_⟩
  · cases hg'
    refine ⟨?_, (World.ownsRow.lt a2 g rfl).2⟩
    rcases a4 with e | e
    · exact (h.new g e).1
    · exact Nat.le_trans hN e
  · have hst : Stay (fun k => k < N) w w1 := (Stay.refl _ w).grown a3 (fun i hi => Nat.lt_of_lt_of_le hi hN) (fun b hb hlt => absurd hlt (Nat.not_lt_of_le (h.new b hb).1))
    exact hst.to_below
/-- The list of put, behind so many. -/
def nxtK (l : List Stk) (s : Stk) : Nat := if hasK l s.sku s.loc then posK l s.sku s.loc + 1 else posK l s.sku s.loc
def outK (l : List Stk) (s : Stk) (k : Nat) : List Stk :=
  if k ≤ posK l s.sku s.loc then l.take k else l.take (posK l s.sku s.loc) ++ s :: (l.drop (nxtK l s)).take (k - nxtK l s)
theorem nxt_has {l : List Stk} {s : Stk} (h : hasK l s.sku s.loc = true) : nxtK l s = posK l s.sku s.loc + 1 := by unfold nxtK; rw [if_pos h]
theorem nxt_new {l : List Stk} {s : Stk} (h : hasK l s.sku s.loc = false) : nxtK l s = posK l s.sku s.loc := by unfold nxtK; rw [h]; rfl
theorem nxt_le (l : List Stk) (s : Stk) : nxtK l s ≤ posK l s.sku s.loc + 1 := by unfold nxtK; split <;> omega
theorem outK_to {l : List Stk} {s : Stk} {k : Nat} (h : k ≤ posK l s.sku s.loc) : outK l s k = l.take k := if_pos h
theorem outK_by {l : List Stk} {s : Stk} {k : Nat} (h : posK l s.sku s.loc < k) : outK l s k = l.take (posK l s.sku s.loc) ++ s :: (l.drop (nxtK l s)).take (k - nxtK l s) := if_neg (by omega)
theorem outK_lt {l : List Stk} {s : Stk} {k : Nat} (h : k < posK l s.sku s.loc) (hk : k < l.length) : outK l s (k + 1) = outK l s k ++ [l[k]] := by
  rw [outK_to (by omega), outK_to (by omega), List.take_succ_eq_append_getElem hk]
theorem outK_has {l : List Stk} {s : Stk} (h : hasK l s.sku s.loc = true) : outK l s (posK l s.sku s.loc + 1) = outK l s (posK l s.sku s.loc) ++ [s] := by
  rw [outK_by (Nat.lt_succ_self _), outK_to (Nat.le_refl _), nxt_has h, Nat.sub_self, List.take_zero]
theorem outK_new {l : List Stk} {s : Stk} (h : hasK l s.sku s.loc = false) (hk : posK l s.sku s.loc < l.length) : outK l s (posK l s.sku s.loc + 1) = outK l s (posK l s.sku s.loc) ++ [s] ++ [l[posK l s.sku s.loc]] := by
  rw [outK_by (Nat.lt_succ_self _), outK_to (Nat.le_refl _), nxt_new h]
  generalize hp : posK l s.sku s.loc = p at hk ⊢
  have h1 : (l.drop p).take (p + 1 - p) = [l[p]] := by
    rw [List.drop_eq_getElem_cons hk, show p + 1 - p = 1 by omega]
    rfl
  rw [h1]
  simp
theorem outK_gt {l : List Stk} {s : Stk} {k : Nat} (h : posK l s.sku s.loc < k) (hk : k < l.length) : outK l s (k + 1) = outK l s k ++ [l[k]] := by
  rw [outK_by (by omega), outK_by h]
  have hqk : nxtK l s ≤ k := by have := nxt_le l s; omega
  generalize nxtK l s = q at hqk ⊢
  have h1 : (l.drop q).take (k + 1 - q) = (l.drop q).take (k - q) ++ [l[k]] := by
    rw [show k + 1 - q = (k - q) + 1 by omega, List.take_succ_eq_append_getElem (by rw [List.length_drop]; omega), List.getElem_drop]
    congr 2
    congr 1
    omega
  rw [h1]
  simp
theorem outK_end {l : List Stk} (hs : Rises l) (s : Stk) : upd l s = if posK l s.sku s.loc < l.length then outK l s l.length else outK l s l.length ++ [s] := by
  have hle := posK_le l s.sku s.loc
  have hal : (l.drop (nxtK l s)).take (l.length - nxtK l s) = l.drop (nxtK l s) := List.take_of_length_le (by rw [List.length_drop]; exact Nat.le_refl _)
  by_cases h : hasK l s.sku s.loc = true
  · obtain ⟨hp, _⟩ := (hasK_iff hs s.sku s.loc).1 h
    rw [upd_yes h, if_pos hp, outK_by hp, hal, nxt_has h, List.set_eq_take_append_cons_drop, if_pos hp]
  · have h' : hasK l s.sku s.loc = false := by simpa using h
    rw [upd_no h']
    unfold insAt
    by_cases hp : posK l s.sku s.loc < l.length
    · rw [if_pos hp, outK_by hp, hal, nxt_new h']
    · have e : posK l s.sku s.loc = l.length := by omega
      rw [if_neg hp, outK_to (by omega), e]
      simp
theorem outK_len (l : List Stk) (s : Stk) (k : Nat) : (outK l s k).length ≤ l.length + 2 := by
  by_cases h : k ≤ posK l s.sku s.loc
  · rw [outK_to h, List.length_take]; omega
  · rw [outK_by (by omega), List.length_append, List.length_cons, List.length_take, List.length_take, List.length_drop]
    have h1 := posK_le l s.sku s.loc
    have h2 : posK l s.sku s.loc ≤ nxtK l s := by unfold nxtK; split <;> omega
    omega
theorem len_snoc {l : List Stk} {x : Stk} {m : Nat} (h : m = l.length) : m + 1 = (l ++ [x]).length := by rw [List.length_append, List.length_singleton, h]
/-- Which keys differ, where. -/
theorem key_lt {a b : Stk} (h : cmpK a.sku a.loc b.sku b.loc = -1) : ¬ (a.sku = b.sku ∧ a.loc = b.loc) := fun e => by
  have := cmpK_zero.2 e
  omega
end Go.Proofs.Ytflbcheofmljeaa

namespace Go.Proofs.Ytflbcheofmljeaa
open Go.ChangeShapes Go.WideShapes Go.RowKit
set_option linter.unusedVariables false
set_option maxRecDepth 100000

/-- An answer that is a ledger with other stocks. -/
def PutP (w w' : World) (l : List Stk) (a1 : Option Addr) (n1 c1 : Nat) (a2 : Option Addr) (n2 c2 : Nat) (ops : Int) (e : Ending) : Prop := ∃ b0 m0 d0, e = .returned (.agg #[.slice b0 m0 d0, .slice a1 n1 c1, .slice a2 n2 c2, .int .i64 ops]) ∧ l.length = m0 ∧ Rw stv 4 w' b0 l ∧ Below w.heap.size w w' ∧ ∀ b' o', b0 = some ⟨b', o', none⟩ → w.heap.size ≤ b'
set_option maxHeartbeats 8000000 in
theorem rput_is (a0 : Option Addr) (n0 c0 : Nat) (a1 : Option Addr) (n1 c1 : Nat) (a2 : Option Addr) (n2 c2 : Nat) (ops : Int) (l : List Stk) (hn : l.length = n0) (hm : n0 ≤ 90000) (hs : Rises l) (s : Stk) (w : World) (hr : Rw stv 4 w a0 l) :
    Calls Try.prog 76 #[.agg #[.slice a0 n0 c0, .slice a1 n1 c1, .slice a2 n2 c2, .int .i64 ops], .agg #[.string s.sku, .string s.loc, .int .i64 s.on, .int .i64 s.held]] w fun e w' => PutP w w' (upd l s) a1 n1 c1 a2 n2 c2 ops e := by
  obtain ⟨ss, sl, so, sh⟩ := s
  dsimp only
  obtain ⟨W, hW⟩ : ∃ W, ((w.alloc (.cells #[.slice a0 n0 c0, .slice a1 n1 c1, .slice a2 n2 c2, .int .i64 ops] 26)).alloc (.cells #[.string ss, .string sl, .int .i64 so, .int .i64 sh] 50)).alloc (.cells #[.slice none 0 0, .slice none 0 0, .slice none 0 0, .int .i64 0] 26) = W := ⟨_, rfl⟩
  have HB : Hid (Below w.heap.size w W ∧ W.heap.size = w.heap.size + 3) := by show _ ∧ _; rw [← hW]; exact ⟨below3 _ _ _ _, by simp⟩
  have HC : Hid (CellsF W w.heap.size [.slice a0 n0 c0, .slice a1 n1 c1, .slice a2 n2 c2, .int .i64 ops] ∧ CellsF W (w.heap.size + 1) [.string ss, .string sl, .int .i64 so, .int .i64 sh] ∧ CellsF W (w.heap.size + 1 + 1) [.slice none 0 0, .slice none 0 0, .slice none 0 0, .int .i64 0]) := by
    show _ ∧ _
    rw [← hW]
    exact ⟨((CellsF.at _ 26 (by simp) rfl).next (below1 _ _)).next (below1 _ _), (CellsF.at _ 50 (by simp) (by rw [size_alloc])).next (below1 _ _), CellsF.at _ 26 (by simp) (by rw [size_alloc, size_alloc])⟩
  have HR : Hid (Rw stv 4 w a0 l) := hr
  have HL : Hid (l.length = n0 ∧ Rises l) := ⟨hn, hs⟩
  have HLE : Hid (∀ k, (outK l ⟨ss, sl, so, sh⟩ k).length ≤ 100000) := fun k => by have := outK_len l ⟨ss, sl, so, sh⟩ k; show _ ≤ _; omega
  obtain ⟨p, hp⟩ : ∃ p, posK l ss sl = p := ⟨_, rfl⟩
  have hpn : p ≤ n0 := by rw [← hp, ← hn]; exact posK_le l ss sl
  have HP : Hid (posK l ss sl = p) := hp
  clear hn hs hr hp
  go_enter Try.func76, Try.ntmps76
  go_wp2_with fail
  try rw [hW]
  clear hW
  go_loopw [5, 6, 7] (fun vq vd vi wr => ∃ (k : Nat) (o : Option Addr) (m c : Nat), k ≤ n0 ∧ vi = .int .i64 k ∧ vd = .bool (decide (p < k)) ∧ vq = .slice o m c ∧ Hid (m = (outK l ⟨ss, sl, so, sh⟩ k).length ∧ StksAt W.heap.size wr (.slice o m c) (outK l ⟨ss, sl, so, sh⟩ k) ∧ Below W.heap.size W wr))
    (fun _ _ vi _ => n0 - (intOf vi).toNat)
  case atStart => exact ⟨0, none, 0, 0, Nat.zero_le _, rfl, by rw [decide_eq_false (Nat.not_lt_zero p)], rfl, by rw [outK_to (Nat.zero_le _)]; rfl, by rw [outK_to (Nat.zero_le _)]; exact StksAt.void _ _, Below.refl _ _⟩
  case round =>
    obtain ⟨k, o1, m, c, hk, rfl, rfl, rfl, HI⟩ := hrel
    by_cases hlt : k < n0
    · have hlti : (k : Int) < (n0 : Int) := by omega
      have hkl : k < l.length := by have := HL.out.1; omega
      obtain ⟨b, o, ha, hb, hc⟩ := HR.out.stk (fun e => by rw [e] at hkl; simp at hkl)
      have hx := hc k hkl
      obtain ⟨x, hxk⟩ : ∃ x, l[k] = x := ⟨_, rfl⟩
      rw [hxk] at hx
      have HXK : Hid (l[k] = x) := hxk
      have HX : Hid (b < w.heap.size ∧ StkAt w b (o + k * 4) x) := ⟨hb, hx⟩
      clear hc hb hxk hx
      obtain ⟨xs, xl, xo, xh⟩ := x
      have HSc : Hid (∀ w' : World, Below W.heap.size W w' → (w'.cell? ⟨w.heap.size, 0, none⟩ = some (.slice (some ⟨b, o, none⟩) n0 c0) ∧ w'.cell? ⟨w.heap.size + 1, 0, none⟩ = some (.string ss) ∧ w'.cell? ⟨w.heap.size + 1, 1, none⟩ = some (.string sl) ∧ w'.cell? ⟨w.heap.size + 1, 2, none⟩ = some (.int .i64 so) ∧ w'.cell? ⟨w.heap.size + 1, 3, none⟩ = some (.int .i64 sh) ∧ w'.cell? ⟨b, o + k * 4, none⟩ = some (.string xs) ∧ w'.cell? ⟨b, o + k * 4 + 1, none⟩ = some (.string xl) ∧ w'.cell? ⟨b, o + k * 4 + 2, none⟩ = some (.int .i64 xo) ∧ w'.cell? ⟨b, o + k * 4 + 3, none⟩ = some (.int .i64 xh))) := fun w' kx => by
        have h1 := HC.out.1.next kx
        have h2 := HC.out.2.1.next kx
        have h3 := HX.out.2.next ((Below.next HB.out.1 kx).block b HX.out.1)
        have h10 := h1.cs 0 _ rfl
        rw [ha] at h10
        exact ⟨h10, h2.cs 0 _ rfl, h2.cs 1 _ rfl, h2.cs 2 _ rfl, h2.cs 3 _ rfl, h3.c0, h3.c1, h3.c2, h3.c3⟩
      have HS : Hid (∀ w' : World, Below wr.heap.size wr w' → (Below wr.heap.size wr w' ∧ w'.cell? ⟨w.heap.size, 0, none⟩ = some (.slice (some ⟨b, o, none⟩) n0 c0) ∧ w'.cell? ⟨w.heap.size + 1, 0, none⟩ = some (.string ss) ∧ w'.cell? ⟨w.heap.size + 1, 1, none⟩ = some (.string sl) ∧ w'.cell? ⟨w.heap.size + 1, 2, none⟩ = some (.int .i64 so) ∧ w'.cell? ⟨w.heap.size + 1, 3, none⟩ = some (.int .i64 sh) ∧ w'.cell? ⟨b, o + k * 4, none⟩ = some (.string xs) ∧ w'.cell? ⟨b, o + k * 4 + 1, none⟩ = some (.string xl) ∧ w'.cell? ⟨b, o + k * 4 + 2, none⟩ = some (.int .i64 xo) ∧ w'.cell? ⟨b, o + k * 4 + 3, none⟩ = some (.int .i64 xh))) := fun w' kx => ⟨kx, HSc.out _ (Below.next HI.out.2.2 kx)⟩
      have HSD : Hid (∀ w' : World, (Below wr.heap.size wr w' ∧ w'.cell? ⟨w.heap.size, 0, none⟩ = some (.slice (some ⟨b, o, none⟩) n0 c0) ∧ w'.cell? ⟨w.heap.size + 1, 0, none⟩ = some (.string ss) ∧ w'.cell? ⟨w.heap.size + 1, 1, none⟩ = some (.string sl) ∧ w'.cell? ⟨w.heap.size + 1, 2, none⟩ = some (.int .i64 so) ∧ w'.cell? ⟨w.heap.size + 1, 3, none⟩ = some (.int .i64 sh) ∧ w'.cell? ⟨b, o + k * 4, none⟩ = some (.string xs) ∧ w'.cell? ⟨b, o + k * 4 + 1, none⟩ = some (.string xl) ∧ w'.cell? ⟨b, o + k * 4 + 2, none⟩ = some (.int .i64 xo) ∧ w'.cell? ⟨b, o + k * 4 + 3, none⟩ = some (.int .i64 xh)) → (Below wr.heap.size wr w'.drew ∧ w'.drew.cell? ⟨w.heap.size, 0, none⟩ = some (.slice (some ⟨b, o, none⟩) n0 c0) ∧ w'.drew.cell? ⟨w.heap.size + 1, 0, none⟩ = some (.string ss) ∧ w'.drew.cell? ⟨w.heap.size + 1, 1, none⟩ = some (.string sl) ∧ w'.drew.cell? ⟨w.heap.size + 1, 2, none⟩ = some (.int .i64 so) ∧ w'.drew.cell? ⟨w.heap.size + 1, 3, none⟩ = some (.int .i64 sh) ∧ w'.drew.cell? ⟨b, o + k * 4, none⟩ = some (.string xs) ∧ w'.drew.cell? ⟨b, o + k * 4 + 1, none⟩ = some (.string xl) ∧ w'.drew.cell? ⟨b, o + k * 4 + 2, none⟩ = some (.int .i64 xo) ∧ w'.drew.cell? ⟨b, o + k * 4 + 3, none⟩ = some (.int .i64 xh))) := fun w' h => HS.out _ h.1.drew
      subst ha
      rcases Nat.lt_trichotomy k p with hkp | hkp | hkp
      · have HCM : Hid (cmpK xs xl ss sl = -1) := by have h1 := posK_lt l ss sl k hkl (by rw [HP.out]; exact hkp); rw [HXK.out] at h1; exact h1
        have HDF : Hid (¬ (xs = ss ∧ xl = sl)) := key_lt (a := ⟨xs, xl, xo, xh⟩) (b := ⟨ss, sl, so, sh⟩) HCM.out
        have HNXT : Hid (outK l ⟨ss, sl, so, sh⟩ (k + 1) = outK l ⟨ss, sl, so, sh⟩ k ++ [⟨xs, xl, xo, xh⟩]) := by have h1 := outK_lt (s := ⟨ss, sl, so, sh⟩) (show k < posK l ss sl by rw [HP.out]; exact hkp) hkl; rw [HXK.out] at h1; exact h1
        have hd0 : decide (p < k) = false := decide_eq_false (by omega)
        have hd1 : decide (p < k + 1) = false := decide_eq_false (by omega)
        rw [hd0]
        clear hkp
        have HC1 : Hid (∀ w' : World, (Below wr.heap.size wr w' ∧ w'.cell? ⟨w.heap.size, 0, none⟩ = some (.slice (some ⟨b, o, none⟩) n0 c0) ∧ w'.cell? ⟨w.heap.size + 1, 0, none⟩ = some (.string ss) ∧ w'.cell? ⟨w.heap.size + 1, 1, none⟩ = some (.string sl) ∧ w'.cell? ⟨w.heap.size + 1, 2, none⟩ = some (.int .i64 so) ∧ w'.cell? ⟨w.heap.size + 1, 3, none⟩ = some (.int .i64 sh) ∧ w'.cell? ⟨b, o + k * 4, none⟩ = some (.string xs) ∧ w'.cell? ⟨b, o + k * 4 + 1, none⟩ = some (.string xl) ∧ w'.cell? ⟨b, o + k * 4 + 2, none⟩ = some (.int .i64 xo) ∧ w'.cell? ⟨b, o + k * 4 + 3, none⟩ = some (.int .i64 xh)) → Calls Try.prog 32 #[.agg #[.string xs, .string xl, .int .i64 xo, .int .i64 xh], .agg #[.string ss, .string sl, .int .i64 so, .int .i64 sh]] w' fun e w'' => e = .returned (.bool true) ∧ (Below wr.heap.size wr w'' ∧ w''.cell? ⟨w.heap.size, 0, none⟩ = some (.slice (some ⟨b, o, none⟩) n0 c0) ∧ w''.cell? ⟨w.heap.size + 1, 0, none⟩ = some (.string ss) ∧ w''.cell? ⟨w.heap.size + 1, 1, none⟩ = some (.string sl) ∧ w''.cell? ⟨w.heap.size + 1, 2, none⟩ = some (.int .i64 so) ∧ w''.cell? ⟨w.heap.size + 1, 3, none⟩ = some (.int .i64 sh) ∧ w''.cell? ⟨b, o + k * 4, none⟩ = some (.string xs) ∧ w''.cell? ⟨b, o + k * 4 + 1, none⟩ = some (.string xl) ∧ w''.cell? ⟨b, o + k * 4 + 2, none⟩ = some (.int .i64 xo) ∧ w''.cell? ⟨b, o + k * 4 + 3, none⟩ = some (.int .i64 xh))) := fun w' h => (ahead_is ⟨xs, xl, xo, xh⟩ ⟨ss, sl, so, sh⟩ w').mono fun e w'' ⟨r1, r2⟩ => ⟨by rw [r1]; exact congrArg (fun x => Ending.returned (Value.bool x)) (decide_eq_true HCM.out), HS.out _ (Below.next h.1 r2)⟩
        have hS0 := HS.out wr (Below.refl _ _)
        go_wp2_with fail
        refine wp_region_held_drew (S := (fun (w' : World) => (Below wr.heap.size wr w' ∧ w'.cell? ⟨w.heap.size, 0, none⟩ = some (.slice (some ⟨b, o, none⟩) n0 c0) ∧ w'.cell? ⟨w.heap.size + 1, 0, none⟩ = some (.string ss) ∧ w'.cell? ⟨w.heap.size + 1, 1, none⟩ = some (.string sl) ∧ w'.cell? ⟨w.heap.size + 1, 2, none⟩ = some (.int .i64 so) ∧ w'.cell? ⟨w.heap.size + 1, 3, none⟩ = some (.int .i64 sh) ∧ w'.cell? ⟨b, o + k * 4, none⟩ = some (.string xs) ∧ w'.cell? ⟨b, o + k * 4 + 1, none⟩ = some (.string xl) ∧ w'.cell? ⟨b, o + k * 4 + 2, none⟩ = some (.int .i64 xo) ∧ w'.cell? ⟨b, o + k * 4 + 3, none⟩ = some (.int .i64 xh)))) (by kernel_rfl) (HSD.out _ (hS0)) (fun hHeld => ?_)
        refine wpAnyH_take (i := 0) (oi := { dst := some 15, op := Op.move (Operand.tmp 6), type := 4, pos := "ref.go:112", after := #[], guard := none }) (v := .bool false) rfl (by kernel_rfl) (by kernel_rfl) (by kernel_rfl) (fun _ _ _ h => h) (Or.inl ⟨by rfl, ?_⟩) (by with_reducible assumption) ?_
        · intro wx hSw
          (try dsimp only at hSw)
          first | (go_simp; done) | (go_simp; with_reducible rfl)
        try simp only [Act.put, List.setIfInBounds_toArray, List.set_cons_zero, List.set_cons_succ]
        refine wpAnyH_take (i := 1) (oi := { dst := some 16, op := Op.unOp UnOp.not 4 (Operand.tmp 15), type := 4, pos := "ref.go:112", after := #[{ on := 0, ground := Ground.data }], guard := none }) (v := .bool true) rfl (by kernel_rfl) (by kernel_rfl) (by kernel_rfl) (fun _ _ _ h => h) (Or.inl ⟨by rfl, ?_⟩) (by with_reducible assumption) ?_
        · intro wx hSw
          (try dsimp only at hSw)
          first | (go_simp; done) | (go_simp; with_reducible rfl)
        try simp only [Act.put, List.setIfInBounds_toArray, List.set_cons_zero, List.set_cons_succ]
        refine wpAnyH_take (i := 2) (oi := { dst := some 17, op := Op.move (Operand.tmp 16), type := 4, pos := "ref.go:112", after := #[{ on := 1, ground := Ground.data }], guard := none }) (v := .bool true) rfl (by kernel_rfl) (by kernel_rfl) (by kernel_rfl) (fun _ _ _ h => h) (Or.inl ⟨by rfl, ?_⟩) (by with_reducible assumption) ?_
        · intro wx hSw
          (try dsimp only at hSw)
          first | (go_simp; done) | (go_simp; with_reducible rfl)
        try simp only [Act.put, List.setIfInBounds_toArray, List.set_cons_zero, List.set_cons_succ]
        refine wpAnyH_take (i := 3) (oi := { dst := some 18, op := Op.fieldAddr 26 (Operand.tmp 2) 0, type := 0, pos := "ref.go:112", after := #[{ on := 2, ground := Ground.guard }], guard := some (2, true) }) (v := .pointer (some ⟨w.heap.size, 0, none⟩)) rfl (by kernel_rfl) (by kernel_rfl) (by kernel_rfl) (fun _ _ _ h => h) (Or.inl ⟨by rfl, ?_⟩) (by with_reducible assumption) ?_
        · intro wx hSw
          (try dsimp only at hSw)
          first | (go_simp; done) | (go_simp; with_reducible rfl)
        try simp only [Act.put, List.setIfInBounds_toArray, List.set_cons_zero, List.set_cons_succ]
        refine wpAnyH_take (i := 4) (oi := { dst := some 19, op := Op.load 22 (Operand.tmp 18), type := 22, pos := "ref.go:112", after := #[{ on := 3, ground := Ground.data }, { on := 2, ground := Ground.guard }], guard := some (2, true) }) (v := .slice (some ⟨b, o, none⟩) n0 c0) rfl (by kernel_rfl) (by kernel_rfl) (by kernel_rfl) (fun _ _ _ h => h) (Or.inl ⟨by rfl, ?_⟩) (by with_reducible assumption) ?_
        · intro wx hSw
          (try dsimp only at hSw)
          first | (go_simp; done) | (go_simp; with_reducible rfl)
        try simp only [Act.put, List.setIfInBounds_toArray, List.set_cons_zero, List.set_cons_succ]
        refine wpAnyH_take (i := 5) (oi := { dst := some 20, op := Op.move (Operand.tmp 7), type := 3, pos := "ref.go:112", after := #[{ on := 2, ground := Ground.guard }], guard := some (2, true) }) (v := .int .i64 k) rfl (by kernel_rfl) (by kernel_rfl) (by kernel_rfl) (fun _ _ _ h => h) (Or.inl ⟨by rfl, ?_⟩) (by with_reducible assumption) ?_
        · intro wx hSw
          (try dsimp only at hSw)
          first | (go_simp; done) | (go_simp; with_reducible rfl)
        try simp only [Act.put, List.setIfInBounds_toArray, List.set_cons_zero, List.set_cons_succ]
        refine wpAnyH_take (i := 6) (oi := { dst := some 21, op := Op.indexAddr 22 (Operand.tmp 19) (Operand.tmp 20), type := 0, pos := "ref.go:112", after := #[{ on := 4, ground := Ground.data }, { on := 5, ground := Ground.data }, { on := 2, ground := Ground.guard }], guard := some (2, true) }) (v := .pointer (some ⟨b, o + k * 4, none⟩)) rfl (by kernel_rfl) (by kernel_rfl) (by kernel_rfl) (fun _ _ _ h => h) (Or.inl ⟨by rfl, ?_⟩) (by with_reducible assumption) ?_
        · intro wx hSw
          (try dsimp only at hSw)
          first | (go_simp; done) | (go_simp; with_reducible rfl)
        try simp only [Act.put, List.setIfInBounds_toArray, List.set_cons_zero, List.set_cons_succ]
        refine wpAnyH_take (i := 7) (oi := { dst := some 22, op := Op.load 50 (Operand.tmp 21), type := 50, pos := "ref.go:112", after := #[{ on := 6, ground := Ground.data }, { on := 2, ground := Ground.guard }], guard := some (2, true) }) (v := .agg #[.string xs, .string xl, .int .i64 xo, .int .i64 xh]) rfl (by kernel_rfl) (by kernel_rfl) (by kernel_rfl) (fun _ _ _ h => h) (Or.inl ⟨by rfl, ?_⟩) (by with_reducible assumption) ?_
        · intro wx hSw
          (try dsimp only at hSw)
          first | (go_simp; done) | (go_simp; with_reducible rfl)
        try simp only [Act.put, List.setIfInBounds_toArray, List.set_cons_zero, List.set_cons_succ]
        refine wpAnyH_take (i := 8) (oi := { dst := some 23, op := Op.load 50 (Operand.tmp 3), type := 50, pos := "ref.go:112", after := #[{ on := 2, ground := Ground.guard }], guard := some (2, true) }) (v := .agg #[.string ss, .string sl, .int .i64 so, .int .i64 sh]) rfl (by kernel_rfl) (by kernel_rfl) (by kernel_rfl) (fun _ _ _ h => h) (Or.inl ⟨by rfl, ?_⟩) (by with_reducible assumption) ?_
        · intro wx hSw
          (try dsimp only at hSw)
          first | (go_simp; done) | (go_simp; with_reducible rfl)
        try simp only [Act.put, List.setIfInBounds_toArray, List.set_cons_zero, List.set_cons_succ]
        refine wpAnyH_ready (rs := [9]) (by kernel_rfl) (by simp) ?_
        refine AllReadyH.cons rfl (fun K hK => ?_) AllReadyH.nil
        go_simp
        go_wp2_with (((with_reducible refine Calls.mono (HC1.out _ (by with_reducible assumption)) ?_); rintro e w109 ⟨rfl, hS9⟩))
        refine hK.out _ _ (by with_reducible assumption) (fun hHeld9 => ?_)
        clear hK K
        try simp only [Act.put, List.setIfInBounds_toArray, List.set_cons_zero, List.set_cons_succ]
        refine wpAnyH_take (i := 10) (oi := { dst := some 25, op := Op.unOp UnOp.not 4 (Operand.tmp 24), type := 4, pos := "ref.go:112", after := #[{ on := 9, ground := Ground.data }, { on := 2, ground := Ground.guard }], guard := some (2, true) }) (v := .bool false) rfl (by kernel_rfl) (by kernel_rfl) (by kernel_rfl) (fun _ _ _ h => h) (Or.inl ⟨by rfl, ?_⟩) (by with_reducible assumption) ?_
        · intro wx hSw
          (try dsimp only at hSw)
          first | (go_simp; done) | (go_simp; with_reducible rfl)
        try simp only [Act.put, List.setIfInBounds_toArray, List.set_cons_zero, List.set_cons_succ]
        refine wpAnyH_take (i := 11) (oi := { dst := some 26, op := Op.pick (Operand.tmp 17) (Operand.tmp 25) (Operand.const (Value.bool false)), type := 4, pos := "ref.go:112", after := #[{ on := 2, ground := Ground.data }, { on := 10, ground := Ground.data }], guard := none }) (v := .bool false) rfl (by kernel_rfl) (by kernel_rfl) (by kernel_rfl) (fun _ _ _ h => h) (Or.inl ⟨by rfl, ?_⟩) (by with_reducible assumption) ?_
        · intro wx hSw
          (try dsimp only at hSw)
          first | (go_simp; done) | (go_simp; with_reducible rfl)
        try simp only [Act.put, List.setIfInBounds_toArray, List.set_cons_zero, List.set_cons_succ]
        refine wpAnyH_done (by kernel_rfl) ?_ _
        have HK9 : Hid (Below wr.heap.size wr w109) := hS9.1
        have HB9 : Hid (Below W.heap.size W w109) := Below.next HI.out.2.2 HK9.out
        clear hS0 hS9
        by_cases q0 : xs = ss
        · have q1 : ¬ xl = sl := fun e => HDF.out ⟨q0, e⟩
          have b1 := byte_bne q1
          subst q0
          obtain ⟨l0, s0, s1, s2, s3, x0, x1, x2, x3⟩ := HSc.out _ (HB9.out)
          go_wp2_with fail
          go_quiet (fail)
          have hdn : Below w109.heap.size w109 (w109.drewN nq) := ⟨rfl, rfl, rfl, Nat.le_refl _, fun _ _ => rfl⟩
          obtain ⟨g, d, w7, RA, RI, RB⟩ := ((HI.out.2.1.next HK9.out).next hdn).more (HI.out.1) (Nat.le_trans (HB9.out).size hdn.size) ⟨xs, xl, xo, xh⟩ (HLE.out _)
          have HRA : Hid _ := RA
          have HRI : Hid (m + 1 = (outK l ⟨xs, sl, so, sh⟩ (k + 1)).length ∧ StksAt W.heap.size w7 (.slice (some ⟨g, 0, none⟩) (m + 1) d) (outK l ⟨xs, sl, so, sh⟩ (k + 1)) ∧ Below W.heap.size W w7) := ⟨by rw [HNXT.out]; exact len_snoc (HI.out.1), by rw [HNXT.out]; exact RI, (Below.next (HB9.out) hdn).trans RB⟩
          clear RA RI RB hdn
          dsimp only at HRA
          go_wp2_with (first | ((with_reducible apply st_append (x := .tmp 51)); (case ho => rfl); (case hgd => rfl); (case hr => exact HRA.out)))
          go_roundw
          case rel => exact ⟨k + 1, _, _, _, by omega, by go_num, by rw [hd1], rfl, HRI.out⟩
          case measure => simp [intOf]; omega
        · have b0 := byte_bne q0
          obtain ⟨l0, s0, s1, s2, s3, x0, x1, x2, x3⟩ := HSc.out _ (HB9.out)
          go_wp2_with fail
          go_quiet (fail)
          have hdn : Below w109.heap.size w109 (w109.drewN nq) := ⟨rfl, rfl, rfl, Nat.le_refl _, fun _ _ => rfl⟩
          obtain ⟨g, d, w7, RA, RI, RB⟩ := ((HI.out.2.1.next HK9.out).next hdn).more (HI.out.1) (Nat.le_trans (HB9.out).size hdn.size) ⟨xs, xl, xo, xh⟩ (HLE.out _)
          have HRA : Hid _ := RA
          have HRI : Hid (m + 1 = (outK l ⟨ss, sl, so, sh⟩ (k + 1)).length ∧ StksAt W.heap.size w7 (.slice (some ⟨g, 0, none⟩) (m + 1) d) (outK l ⟨ss, sl, so, sh⟩ (k + 1)) ∧ Below W.heap.size W w7) := ⟨by rw [HNXT.out]; exact len_snoc (HI.out.1), by rw [HNXT.out]; exact RI, (Below.next (HB9.out) hdn).trans RB⟩
          clear RA RI RB hdn
          dsimp only at HRA
          go_wp2_with (first | ((with_reducible apply st_append (x := .tmp 51)); (case ho => rfl); (case hgd => rfl); (case hr => exact HRA.out)))
          go_roundw
          case rel => exact ⟨k + 1, _, _, _, by omega, by go_num, by rw [hd1], rfl, HRI.out⟩
          case measure => simp [intOf]; omega
      · subst hkp
        have HCM : Hid (¬ cmpK xs xl ss sl = -1) := by have h1 := posK_ge l HL.out.2 ss sl k hkl (by rw [HP.out]; exact Nat.le_refl _); rw [HXK.out] at h1; exact h1
        have hd0 : decide (k < k) = false := decide_eq_false (by omega)
        have hd1 : decide (k < k + 1) = true := decide_eq_true (by omega)
        rw [hd0]
        have HC1 : Hid (∀ w' : World, (Below wr.heap.size wr w' ∧ w'.cell? ⟨w.heap.size, 0, none⟩ = some (.slice (some ⟨b, o, none⟩) n0 c0) ∧ w'.cell? ⟨w.heap.size + 1, 0, none⟩ = some (.string ss) ∧ w'.cell? ⟨w.heap.size + 1, 1, none⟩ = some (.string sl) ∧ w'.cell? ⟨w.heap.size + 1, 2, none⟩ = some (.int .i64 so) ∧ w'.cell? ⟨w.heap.size + 1, 3, none⟩ = some (.int .i64 sh) ∧ w'.cell? ⟨b, o + k * 4, none⟩ = some (.string xs) ∧ w'.cell? ⟨b, o + k * 4 + 1, none⟩ = some (.string xl) ∧ w'.cell? ⟨b, o + k * 4 + 2, none⟩ = some (.int .i64 xo) ∧ w'.cell? ⟨b, o + k * 4 + 3, none⟩ = some (.int .i64 xh)) → Calls Try.prog 32 #[.agg #[.string xs, .string xl, .int .i64 xo, .int .i64 xh], .agg #[.string ss, .string sl, .int .i64 so, .int .i64 sh]] w' fun e w'' => e = .returned (.bool false) ∧ (Below wr.heap.size wr w'' ∧ w''.cell? ⟨w.heap.size, 0, none⟩ = some (.slice (some ⟨b, o, none⟩) n0 c0) ∧ w''.cell? ⟨w.heap.size + 1, 0, none⟩ = some (.string ss) ∧ w''.cell? ⟨w.heap.size + 1, 1, none⟩ = some (.string sl) ∧ w''.cell? ⟨w.heap.size + 1, 2, none⟩ = some (.int .i64 so) ∧ w''.cell? ⟨w.heap.size + 1, 3, none⟩ = some (.int .i64 sh) ∧ w''.cell? ⟨b, o + k * 4, none⟩ = some (.string xs) ∧ w''.cell? ⟨b, o + k * 4 + 1, none⟩ = some (.string xl) ∧ w''.cell? ⟨b, o + k * 4 + 2, none⟩ = some (.int .i64 xo) ∧ w''.cell? ⟨b, o + k * 4 + 3, none⟩ = some (.int .i64 xh))) := fun w' h => (ahead_is ⟨xs, xl, xo, xh⟩ ⟨ss, sl, so, sh⟩ w').mono fun e w'' ⟨r1, r2⟩ => ⟨by rw [r1]; exact congrArg (fun x => Ending.returned (Value.bool x)) (decide_eq_false HCM.out), HS.out _ (Below.next h.1 r2)⟩
        have hS0 := HS.out wr (Below.refl _ _)
        go_wp2_with fail
        refine wp_region_held_drew (S := (fun (w' : World) => (Below wr.heap.size wr w' ∧ w'.cell? ⟨w.heap.size, 0, none⟩ = some (.slice (some ⟨b, o, none⟩) n0 c0) ∧ w'.cell? ⟨w.heap.size + 1, 0, none⟩ = some (.string ss) ∧ w'.cell? ⟨w.heap.size + 1, 1, none⟩ = some (.string sl) ∧ w'.cell? ⟨w.heap.size + 1, 2, none⟩ = some (.int .i64 so) ∧ w'.cell? ⟨w.heap.size + 1, 3, none⟩ = some (.int .i64 sh) ∧ w'.cell? ⟨b, o + k * 4, none⟩ = some (.string xs) ∧ w'.cell? ⟨b, o + k * 4 + 1, none⟩ = some (.string xl) ∧ w'.cell? ⟨b, o + k * 4 + 2, none⟩ = some (.int .i64 xo) ∧ w'.cell? ⟨b, o + k * 4 + 3, none⟩ = some (.int .i64 xh)))) (by kernel_rfl) (HSD.out _ (hS0)) (fun hHeld => ?_)
        refine wpAnyH_take (i := 0) (oi := { dst := some 15, op := Op.move (Operand.tmp 6), type := 4, pos := "ref.go:112", after := #[], guard := none }) (v := .bool false) rfl (by kernel_rfl) (by kernel_rfl) (by kernel_rfl) (fun _ _ _ h => h) (Or.inl ⟨by rfl, ?_⟩) (by with_reducible assumption) ?_
        · intro wx hSw
          (try dsimp only at hSw)
          first | (go_simp; done) | (go_simp; with_reducible rfl)
        try simp only [Act.put, List.setIfInBounds_toArray, List.set_cons_zero, List.set_cons_succ]
        refine wpAnyH_take (i := 1) (oi := { dst := some 16, op := Op.unOp UnOp.not 4 (Operand.tmp 15), type := 4, pos := "ref.go:112", after := #[{ on := 0, ground := Ground.data }], guard := none }) (v := .bool true) rfl (by kernel_rfl) (by kernel_rfl) (by kernel_rfl) (fun _ _ _ h => h) (Or.inl ⟨by rfl, ?_⟩) (by with_reducible assumption) ?_
        · intro wx hSw
          (try dsimp only at hSw)
          first | (go_simp; done) | (go_simp; with_reducible rfl)
        try simp only [Act.put, List.setIfInBounds_toArray, List.set_cons_zero, List.set_cons_succ]
        refine wpAnyH_take (i := 2) (oi := { dst := some 17, op := Op.move (Operand.tmp 16), type := 4, pos := "ref.go:112", after := #[{ on := 1, ground := Ground.data }], guard := none }) (v := .bool true) rfl (by kernel_rfl) (by kernel_rfl) (by kernel_rfl) (fun _ _ _ h => h) (Or.inl ⟨by rfl, ?_⟩) (by with_reducible assumption) ?_
        · intro wx hSw
          (try dsimp only at hSw)
          first | (go_simp; done) | (go_simp; with_reducible rfl)
        try simp only [Act.put, List.setIfInBounds_toArray, List.set_cons_zero, List.set_cons_succ]
        refine wpAnyH_take (i := 3) (oi := { dst := some 18, op := Op.fieldAddr 26 (Operand.tmp 2) 0, type := 0, pos := "ref.go:112", after := #[{ on := 2, ground := Ground.guard }], guard := some (2, true) }) (v := .pointer (some ⟨w.heap.size, 0, none⟩)) rfl (by kernel_rfl) (by kernel_rfl) (by kernel_rfl) (fun _ _ _ h => h) (Or.inl ⟨by rfl, ?_⟩) (by with_reducible assumption) ?_
        · intro wx hSw
          (try dsimp only at hSw)
          first | (go_simp; done) | (go_simp; with_reducible rfl)
        try simp only [Act.put, List.setIfInBounds_toArray, List.set_cons_zero, List.set_cons_succ]
        refine wpAnyH_take (i := 4) (oi := { dst := some 19, op := Op.load 22 (Operand.tmp 18), type := 22, pos := "ref.go:112", after := #[{ on := 3, ground := Ground.data }, { on := 2, ground := Ground.guard }], guard := some (2, true) }) (v := .slice (some ⟨b, o, none⟩) n0 c0) rfl (by kernel_rfl) (by kernel_rfl) (by kernel_rfl) (fun _ _ _ h => h) (Or.inl ⟨by rfl, ?_⟩) (by with_reducible assumption) ?_
        · intro wx hSw
          (try dsimp only at hSw)
          first | (go_simp; done) | (go_simp; with_reducible rfl)
        try simp only [Act.put, List.setIfInBounds_toArray, List.set_cons_zero, List.set_cons_succ]
        refine wpAnyH_take (i := 5) (oi := { dst := some 20, op := Op.move (Operand.tmp 7), type := 3, pos := "ref.go:112", after := #[{ on := 2, ground := Ground.guard }], guard := some (2, true) }) (v := .int .i64 k) rfl (by kernel_rfl) (by kernel_rfl) (by kernel_rfl) (fun _ _ _ h => h) (Or.inl ⟨by rfl, ?_⟩) (by with_reducible assumption) ?_
        · intro wx hSw
          (try dsimp only at hSw)
          first | (go_simp; done) | (go_simp; with_reducible rfl)
        try simp only [Act.put, List.setIfInBounds_toArray, List.set_cons_zero, List.set_cons_succ]
        refine wpAnyH_take (i := 6) (oi := { dst := some 21, op := Op.indexAddr 22 (Operand.tmp 19) (Operand.tmp 20), type := 0, pos := "ref.go:112", after := #[{ on := 4, ground := Ground.data }, { on := 5, ground := Ground.data }, { on := 2, ground := Ground.guard }], guard := some (2, true) }) (v := .pointer (some ⟨b, o + k * 4, none⟩)) rfl (by kernel_rfl) (by kernel_rfl) (by kernel_rfl) (fun _ _ _ h => h) (Or.inl ⟨by rfl, ?_⟩) (by with_reducible assumption) ?_
        · intro wx hSw
          (try dsimp only at hSw)
          first | (go_simp; done) | (go_simp; with_reducible rfl)
        try simp only [Act.put, List.setIfInBounds_toArray, List.set_cons_zero, List.set_cons_succ]
        refine wpAnyH_take (i := 7) (oi := { dst := some 22, op := Op.load 50 (Operand.tmp 21), type := 50, pos := "ref.go:112", after := #[{ on := 6, ground := Ground.data }, { on := 2, ground := Ground.guard }], guard := some (2, true) }) (v := .agg #[.string xs, .string xl, .int .i64 xo, .int .i64 xh]) rfl (by kernel_rfl) (by kernel_rfl) (by kernel_rfl) (fun _ _ _ h => h) (Or.inl ⟨by rfl, ?_⟩) (by with_reducible assumption) ?_
        · intro wx hSw
          (try dsimp only at hSw)
          first | (go_simp; done) | (go_simp; with_reducible rfl)
        try simp only [Act.put, List.setIfInBounds_toArray, List.set_cons_zero, List.set_cons_succ]
        refine wpAnyH_take (i := 8) (oi := { dst := some 23, op := Op.load 50 (Operand.tmp 3), type := 50, pos := "ref.go:112", after := #[{ on := 2, ground := Ground.guard }], guard := some (2, true) }) (v := .agg #[.string ss, .string sl, .int .i64 so, .int .i64 sh]) rfl (by kernel_rfl) (by kernel_rfl) (by kernel_rfl) (fun _ _ _ h => h) (Or.inl ⟨by rfl, ?_⟩) (by with_reducible assumption) ?_
        · intro wx hSw
          (try dsimp only at hSw)
          first | (go_simp; done) | (go_simp; with_reducible rfl)
        try simp only [Act.put, List.setIfInBounds_toArray, List.set_cons_zero, List.set_cons_succ]
        refine wpAnyH_ready (rs := [9]) (by kernel_rfl) (by simp) ?_
        refine AllReadyH.cons rfl (fun K hK => ?_) AllReadyH.nil
        go_simp
        go_wp2_with (((with_reducible refine Calls.mono (HC1.out _ (by with_reducible assumption)) ?_); rintro e w109 ⟨rfl, hS9⟩))
        refine hK.out _ _ (by with_reducible assumption) (fun hHeld9 => ?_)
        clear hK K
        try simp only [Act.put, List.setIfInBounds_toArray, List.set_cons_zero, List.set_cons_succ]
        refine wpAnyH_take (i := 10) (oi := { dst := some 25, op := Op.unOp UnOp.not 4 (Operand.tmp 24), type := 4, pos := "ref.go:112", after := #[{ on := 9, ground := Ground.data }, { on := 2, ground := Ground.guard }], guard := some (2, true) }) (v := .bool true) rfl (by kernel_rfl) (by kernel_rfl) (by kernel_rfl) (fun _ _ _ h => h) (Or.inl ⟨by rfl, ?_⟩) (by with_reducible assumption) ?_
        · intro wx hSw
          (try dsimp only at hSw)
          first | (go_simp; done) | (go_simp; with_reducible rfl)
        try simp only [Act.put, List.setIfInBounds_toArray, List.set_cons_zero, List.set_cons_succ]
        refine wpAnyH_take (i := 11) (oi := { dst := some 26, op := Op.pick (Operand.tmp 17) (Operand.tmp 25) (Operand.const (Value.bool false)), type := 4, pos := "ref.go:112", after := #[{ on := 2, ground := Ground.data }, { on := 10, ground := Ground.data }], guard := none }) (v := .bool true) rfl (by kernel_rfl) (by kernel_rfl) (by kernel_rfl) (fun _ _ _ h => h) (Or.inl ⟨by rfl, ?_⟩) (by with_reducible assumption) ?_
        · intro wx hSw
          (try dsimp only at hSw)
          first | (go_simp; done) | (go_simp; with_reducible rfl)
        try simp only [Act.put, List.setIfInBounds_toArray, List.set_cons_zero, List.set_cons_succ]
        refine wpAnyH_done (by kernel_rfl) ?_ _
        have HK9 : Hid (Below wr.heap.size wr w109) := hS9.1
        have HB9 : Hid (Below W.heap.size W w109) := Below.next HI.out.2.2 HK9.out
        clear hS0 hS9
        obtain ⟨g1, d1, w5, RA1, RI1, RB1⟩ := (HI.out.2.1.next HK9.out).more HI.out.1 HB9.out.size ⟨ss, sl, so, sh⟩ (HLE.out _)
        have HRA1 : Hid _ := RA1
        have HRI1 : Hid (StksAt W.heap.size w5 (.slice (some ⟨g1, 0, none⟩) (m + 1) d1) (outK l ⟨ss, sl, so, sh⟩ k ++ [⟨ss, sl, so, sh⟩]) ∧ m + 1 = (outK l ⟨ss, sl, so, sh⟩ k ++ [Stk.mk ss sl so sh]).length ∧ Below W.heap.size W w5) := ⟨RI1, by rw [List.length_append, ← HI.out.1]; rfl, HB9.out.trans RB1⟩
        have HPK : Hid (posK l ss sl = k) := HP.out
        clear RA1 RI1 RB1
        dsimp only at HRA1
        obtain ⟨l0, s0, s1, s2, s3, x0, x1, x2, x3⟩ := HSc.out _ (HB9.out)
        go_wp2_with (first | ((with_reducible apply st_append (x := .tmp 27)); (case ho => rfl); (case hgd => rfl); (case hr => exact HRA1.out)))
        clear l0 s0 s1 s2 s3 x0 x1 x2 x3
        by_cases hsame : xs = ss ∧ xl = sl
        · obtain ⟨rfl, rfl⟩ := hsame
          have hhas : hasK l xs xl = true := (hasK_iff HL.out.2 xs xl).2 (by rw [HPK.out]; exact ⟨hkl, by rw [HXK.out]; exact ⟨rfl, rfl⟩⟩)
          have HNXT : Hid (outK l ⟨xs, xl, so, sh⟩ (k + 1) = outK l ⟨xs, xl, so, sh⟩ k ++ [⟨xs, xl, so, sh⟩]) := by have h1 := outK_has (l := l) (s := ⟨xs, xl, so, sh⟩) hhas; dsimp only at h1; rw [HPK.out] at h1; exact h1
          have HRI : Hid (∀ n, m + 1 = (outK l ⟨xs, xl, so, sh⟩ (k + 1)).length ∧ StksAt W.heap.size (w5.drewN n) (.slice (some ⟨g1, 0, none⟩) (m + 1) d1) (outK l ⟨xs, xl, so, sh⟩ (k + 1)) ∧ Below W.heap.size W (w5.drewN n)) := fun n => by
            have hdn : Below w5.heap.size w5 (w5.drewN n) := ⟨rfl, rfl, rfl, Nat.le_refl _, fun _ _ => rfl⟩
            rw [HNXT.out]
            exact ⟨HRI1.out.2.1, HRI1.out.1.next hdn, Below.next HRI1.out.2.2 hdn⟩
          obtain ⟨l0, s0, s1, s2, s3, x0, x1, x2, x3⟩ := HSc.out _ (HRI1.out.2.2)
          go_quiet (fail)
          go_wp2_with fail
          go_roundw
          case rel => exact ⟨k + 1, _, _, _, by omega, by go_num, by rw [hd1], rfl, HRI.out _⟩
          case measure => simp [intOf]; omega
        · have HDF : Hid (¬ (xs = ss ∧ xl = sl)) := hsame
          have hhas : hasK l ss sl = false := by
            cases hh : hasK l ss sl with
            | false => rfl
            | true =>
              obtain ⟨h1, h2⟩ := (hasK_iff HL.out.2 ss sl).1 hh
              have h3 : l[posK l ss sl] = l[k] := by first | (congr 1; done) | (congr 1; exact HPK.out)
              rw [h3, HXK.out] at h2
              exact absurd h2 hsame
          have HNXT : Hid (outK l ⟨ss, sl, so, sh⟩ (k + 1) = outK l ⟨ss, sl, so, sh⟩ k ++ [⟨ss, sl, so, sh⟩] ++ [⟨xs, xl, xo, xh⟩]) := by
            have hkk : posK l ss sl < l.length := by rw [HPK.out]; exact hkl
            have h1 := outK_new (l := l) (s := ⟨ss, sl, so, sh⟩) hhas hkk
            have h3 : l[posK l ss sl] = l[k] := by first | (congr 1; done) | (congr 1; exact HPK.out)
            dsimp only at h1
            rw [h3, HXK.out, HPK.out] at h1
            exact h1
          have HLE2 : Hid ((outK l ⟨ss, sl, so, sh⟩ k ++ [Stk.mk ss sl so sh]).length ≤ 100000) := by have := outK_len l ⟨ss, sl, so, sh⟩ k; have h9 := HL.out.1; show _ ≤ _; rw [List.length_append, List.length_singleton]; omega
          clear hsame hhas
          by_cases q0 : xs = ss
          · have q1 : ¬ xl = sl := fun e => HDF.out ⟨q0, e⟩
            have b1 := byte_bne q1
            subst q0
            obtain ⟨l0, s0, s1, s2, s3, x0, x1, x2, x3⟩ := HSc.out _ (HRI1.out.2.2)
            go_quiet (fail)
            have hdn : Below w5.heap.size w5 (w5.drewN nq) := ⟨rfl, rfl, rfl, Nat.le_refl _, fun _ _ => rfl⟩
            obtain ⟨g, d, w7, RA, RI, RB⟩ := (HRI1.out.1.next hdn).more (HRI1.out.2.1) (Nat.le_trans (HRI1.out.2.2).size hdn.size) ⟨xs, xl, xo, xh⟩ (HLE2.out)
            have HRA : Hid _ := RA
            have HRI : Hid ((m + 1) + 1 = (outK l ⟨xs, sl, so, sh⟩ (k + 1)).length ∧ StksAt W.heap.size w7 (.slice (some ⟨g, 0, none⟩) ((m + 1) + 1) d) (outK l ⟨xs, sl, so, sh⟩ (k + 1)) ∧ Below W.heap.size W w7) := ⟨by rw [HNXT.out]; exact len_snoc (HRI1.out.2.1), by rw [HNXT.out]; exact RI, (Below.next (HRI1.out.2.2) hdn).trans RB⟩
            clear RA RI RB hdn
            dsimp only at HRA
            go_wp2_with (first | ((with_reducible apply st_append (x := .tmp 51)); (case ho => rfl); (case hgd => rfl); (case hr => exact HRA.out)))
            go_roundw
            case rel => exact ⟨k + 1, _, _, _, by omega, by go_num, by rw [hd1], rfl, HRI.out⟩
            case measure => simp [intOf]; omega
          · have b0 := byte_bne q0
            obtain ⟨l0, s0, s1, s2, s3, x0, x1, x2, x3⟩ := HSc.out _ (HRI1.out.2.2)
            go_quiet (fail)
            have hdn : Below w5.heap.size w5 (w5.drewN nq) := ⟨rfl, rfl, rfl, Nat.le_refl _, fun _ _ => rfl⟩
            obtain ⟨g, d, w7, RA, RI, RB⟩ := (HRI1.out.1.next hdn).more (HRI1.out.2.1) (Nat.le_trans (HRI1.out.2.2).size hdn.size) ⟨xs, xl, xo, xh⟩ (HLE2.out)
            have HRA : Hid _ := RA
            have HRI : Hid ((m + 1) + 1 = (outK l ⟨ss, sl, so, sh⟩ (k + 1)).length ∧ StksAt W.heap.size w7 (.slice (some ⟨g, 0, none⟩) ((m + 1) + 1) d) (outK l ⟨ss, sl, so, sh⟩ (k + 1)) ∧ Below W.heap.size W w7) := ⟨by rw [HNXT.out]; exact len_snoc (HRI1.out.2.1), by rw [HNXT.out]; exact RI, (Below.next (HRI1.out.2.2) hdn).trans RB⟩
            clear RA RI RB hdn
            dsimp only at HRA
            go_wp2_with (first | ((with_reducible apply st_append (x := .tmp 51)); (case ho => rfl); (case hgd => rfl); (case hr => exact HRA.out)))
            go_roundw
            case rel => exact ⟨k + 1, _, _, _, by omega, by go_num, by rw [hd1], rfl, HRI.out⟩
            case measure => simp [intOf]; omega
      · have HDF : Hid (¬ (xs = ss ∧ xl = sl)) := fun e => by
          have h1 := posK_of HL.out.2 hkl (sku := ss) (loc := sl) (by rw [HXK.out]; exact e)
          have := HP.out
          omega
        have HNXT : Hid (outK l ⟨ss, sl, so, sh⟩ (k + 1) = outK l ⟨ss, sl, so, sh⟩ k ++ [⟨xs, xl, xo, xh⟩]) := by have h1 := outK_gt (s := ⟨ss, sl, so, sh⟩) (show posK l ss sl < k by rw [HP.out]; exact hkp) hkl; rw [HXK.out] at h1; exact h1
        have hd0 : decide (p < k) = true := decide_eq_true hkp
        have hd1 : decide (p < k + 1) = true := decide_eq_true (by omega)
        rw [hd0]
        clear hkp
        obtain ⟨l0, s0, s1, s2, s3, x0, x1, x2, x3⟩ := HSc.out _ (HI.out.2.2)
        go_wp2_with fail
        go_quiet (fail)
        have hdn : Below wr.heap.size wr (wr.drewN nq) := ⟨rfl, rfl, rfl, Nat.le_refl _, fun _ _ => rfl⟩
        have HK9 : Hid (Below wr.heap.size wr (wr.drewN nq)) := hdn
        obtain ⟨w109, hw109⟩ : ∃ w109, wr.drewN nq = w109 := ⟨_, rfl⟩
        rw [hw109] at HK9 ⊢
        have HB9 : Hid (Below W.heap.size W w109) := Below.next HI.out.2.2 HK9.out
        clear hdn hw109 l0 s0 s1 s2 s3 x0 x1 x2 x3
        by_cases q0 : xs = ss
        · have q1 : ¬ xl = sl := fun e => HDF.out ⟨q0, e⟩
          have b1 := byte_bne q1
          subst q0
          obtain ⟨l0, s0, s1, s2, s3, x0, x1, x2, x3⟩ := HSc.out _ (HB9.out)
          go_wp2_with fail
          go_quiet (fail)
          have hdn : Below w109.heap.size w109 (w109.drewN nq) := ⟨rfl, rfl, rfl, Nat.le_refl _, fun _ _ => rfl⟩
          obtain ⟨g, d, w7, RA, RI, RB⟩ := ((HI.out.2.1.next HK9.out).next hdn).more (HI.out.1) (Nat.le_trans (HB9.out).size hdn.size) ⟨xs, xl, xo, xh⟩ (HLE.out _)
          have HRA : Hid _ := RA
          have HRI : Hid (m + 1 = (outK l ⟨xs, sl, so, sh⟩ (k + 1)).length ∧ StksAt W.heap.size w7 (.slice (some ⟨g, 0, none⟩) (m + 1) d) (outK l ⟨xs, sl, so, sh⟩ (k + 1)) ∧ Below W.heap.size W w7) := ⟨by rw [HNXT.out]; exact len_snoc (HI.out.1), by rw [HNXT.out]; exact RI, (Below.next (HB9.out) hdn).trans RB⟩
          clear RA RI RB hdn
          dsimp only at HRA
          go_wp2_with (first | ((with_reducible apply st_append (x := .tmp 51)); (case ho => rfl); (case hgd => rfl); (case hr => exact HRA.out)))
          go_roundw
          case rel => exact ⟨k + 1, _, _, _, by omega, by go_num, by rw [hd1], rfl, HRI.out⟩
          case measure => simp [intOf]; omega
        · have b0 := byte_bne q0
          obtain ⟨l0, s0, s1, s2, s3, x0, x1, x2, x3⟩ := HSc.out _ (HB9.out)
          go_wp2_with fail
          go_quiet (fail)
          have hdn : Below w109.heap.size w109 (w109.drewN nq) := ⟨rfl, rfl, rfl, Nat.le_refl _, fun _ _ => rfl⟩
          obtain ⟨g, d, w7, RA, RI, RB⟩ := ((HI.out.2.1.next HK9.out).next hdn).more (HI.out.1) (Nat.le_trans (HB9.out).size hdn.size) ⟨xs, xl, xo, xh⟩ (HLE.out _)
          have HRA : Hid _ := RA
          have HRI : Hid (m + 1 = (outK l ⟨ss, sl, so, sh⟩ (k + 1)).length ∧ StksAt W.heap.size w7 (.slice (some ⟨g, 0, none⟩) (m + 1) d) (outK l ⟨ss, sl, so, sh⟩ (k + 1)) ∧ Below W.heap.size W w7) := ⟨by rw [HNXT.out]; exact len_snoc (HI.out.1), by rw [HNXT.out]; exact RI, (Below.next (HB9.out) hdn).trans RB⟩
          clear RA RI RB hdn
          dsimp only at HRA
          go_wp2_with (first | ((with_reducible apply st_append (x := .tmp 51)); (case ho => rfl); (case hgd => rfl); (case hr => exact HRA.out)))
          go_roundw
          case rel => exact ⟨k + 1, _, _, _, by omega, by go_num, by rw [hd1], rfl, HRI.out⟩
          case measure => simp [intOf]; omega
    · have hlti : ¬ (k : Int) < (n0 : Int) := by omega
      obtain rfl : k = n0 := by omega
      have HCE : Hid (CellsF wr w.heap.size [.slice a0 k c0, .slice a1 n1 c1, .slice a2 n2 c2, .int .i64 ops] ∧ CellsF wr (w.heap.size + 1) [.string ss, .string sl, .int .i64 so, .int .i64 sh] ∧ CellsF wr (w.heap.size + 1 + 1) [.slice none 0 0, .slice none 0 0, .slice none 0 0, .int .i64 0]) := ⟨HC.out.1.next HI.out.2.2, HC.out.2.1.next HI.out.2.2, HC.out.2.2.next HI.out.2.2⟩
      have s0 := HCE.out.2.1.cs 0 _ rfl
      have s1 := HCE.out.2.1.cs 1 _ rfl
      have s2 := HCE.out.2.1.cs 2 _ rfl
      have s3 := HCE.out.2.1.cs 3 _ rfl
      have t0 := HCE.out.1.cs 0 _ rfl
      by_cases hpk : p < k
      · have hd0 : decide (p < k) = true := decide_eq_true hpk
        rw [hd0]
        have HUP : Hid (upd l ⟨ss, sl, so, sh⟩ = outK l ⟨ss, sl, so, sh⟩ k) := by have h1 := outK_end HL.out.2 ⟨ss, sl, so, sh⟩; rw [if_pos (by show posK l ss sl < _; rw [HP.out, HL.out.1]; exact hpk), HL.out.1] at h1; exact h1
        have HQ : Hid ((upd l ⟨ss, sl, so, sh⟩).length = m ∧ StksAt W.heap.size wr (.slice o1 m c) (upd l ⟨ss, sl, so, sh⟩) ∧ Below W.heap.size W wr) := (by show _ ∧ _; rw [HUP.out]; exact ⟨HI.out.1.symm, HI.out.2⟩)
        have hc1 := HC.out.1.next HQ.out.2.2
        have hc3 := HC.out.2.2.next HQ.out.2.2
        have l0 := hc1.cs 0 _ rfl
        have l1 := hc1.cs 1 _ rfl
        have l2 := hc1.cs 2 _ rfl
        have l3 := hc1.cs 3 _ rfl
        have f0 := hc1.fz 0
        have hcz := hc1.set 0 (.slice o1 m c) (by simp)
        have hcy : CellsF (wr.setCell ⟨w.heap.size, 0, none⟩ (.slice o1 m c)) (w.heap.size + 1 + 1) [.slice none 0 0, .slice none 0 0, .slice none 0 0, .int .i64 0] := hc3.far (Below.heap_setCell _ _ _ _ (by show w.heap.size + 1 + 1 ≠ w.heap.size; omega))
        have HCY : Hid (CellsF (wr.setCell ⟨w.heap.size, 0, none⟩ (.slice o1 m c)) (w.heap.size + 1 + 1) [.slice none 0 0, .slice none 0 0, .slice none 0 0, .int .i64 0]) := hcy
        have r0 := hcz.cs 0 _ rfl
        have r1 := hcz.cs 1 _ rfl
        have r2 := hcz.cs 2 _ rfl
        have r3 := hcz.cs 3 _ rfl
        have y0 := hcy.cs 0 _ rfl
        have y1 := hcy.cs 1 _ rfl
        have y2 := hcy.cs 2 _ rfl
        have y3 := hcy.cs 3 _ rfl
        have g0 := hcy.fz 0
        have g1' := hcy.fz 1
        have g2 := hcy.fz 2
        have g3 := hcy.fz 3
        have HFIN : Hid (∀ u0 u1 u2 u3, Rw stv 4 (((((wr.setCell ⟨w.heap.size, 0, none⟩ (.slice o1 m c)).setCell ⟨w.heap.size + 1 + 1, 0, none⟩ u0).setCell ⟨w.heap.size + 1 + 1, 1, none⟩ u1).setCell ⟨w.heap.size + 1 + 1, 2, none⟩ u2).setCell ⟨w.heap.size + 1 + 1, 3, none⟩ u3) o1 (upd l ⟨ss, sl, so, sh⟩) ∧ Below w.heap.size w (((((wr.setCell ⟨w.heap.size, 0, none⟩ (.slice o1 m c)).setCell ⟨w.heap.size + 1 + 1, 0, none⟩ u0).setCell ⟨w.heap.size + 1 + 1, 1, none⟩ u1).setCell ⟨w.heap.size + 1 + 1, 2, none⟩ u2).setCell ⟨w.heap.size + 1 + 1, 3, none⟩ u3)) := fun u0 u1 u2 u3 => by
          obtain ⟨q0, q1, e1, q2⟩ := own_rowS HQ.out.2.1.own
          injection e1 with e1 e2 e3
          subst e1
          refine ⟨q2.far (fun b' o' e hne => ?_), below_four (below_set (Below.next HB.out.1 HQ.out.2.2) _ _ _ (Nat.le_refl _)) _ (by omega) _ _ _ _⟩
          have hb' : W.heap.size ≤ b' := (HQ.out.2.1.new b' (by rw [e]; rfl)).1
          have := HB.out.2
          rw [four_far _ _ _ _ _ _ (by omega), Below.heap_setCell _ _ _ _ (by show b' ≠ w.heap.size; omega)]
        have HQ1 : Hid _ := HQ.out.1
        have HNB : Hid (∀ b' o', (o1 : Option Addr) = some (Addr.mk b' o' none) → w.heap.size ≤ b') := fun b' o' e => Nat.le_trans HB.out.1.size (HQ.out.2.1.new b' (by cases e; rfl)).1
        clear hc1 hc3 hcz hcy HQ
        go_wp2_with fail
        try simp only [Exit.inBlock, Exit.then]
        refine bodyPost_ret (end_cell rfl rfl (loadLed _ (HCY.out.four rfl _ _ _ _) rfl)) rfl ?_
        exact ⟨_, _, _, rfl, HQ1.out, (HFIN.out _ _ _ _).1, (HFIN.out _ _ _ _).2, HNB.out⟩
      · have hd0 : decide (p < k) = false := decide_eq_false hpk
        rw [hd0]
        have hup : upd l ⟨ss, sl, so, sh⟩ = outK l ⟨ss, sl, so, sh⟩ k ++ [⟨ss, sl, so, sh⟩] := by have h1 := outK_end HL.out.2 ⟨ss, sl, so, sh⟩; rw [if_neg (by show ¬ posK l ss sl < _; rw [HP.out, HL.out.1]; exact hpk), HL.out.1] at h1; exact h1
        obtain ⟨g1, d1, w5, RA1, RI1, RB1⟩ := HI.out.2.1.more HI.out.1 HI.out.2.2.size ⟨ss, sl, so, sh⟩ (HLE.out _)
        have HRA1 : Hid _ := RA1
        have HRI1 : Hid ((upd l ⟨ss, sl, so, sh⟩).length = m + 1 ∧ StksAt W.heap.size w5 (.slice (some ⟨g1, 0, none⟩) (m + 1) d1) (upd l ⟨ss, sl, so, sh⟩) ∧ Below W.heap.size W w5) := by show _ ∧ _; rw [hup]; exact ⟨(len_snoc HI.out.1).symm, RI1, HI.out.2.2.trans RB1⟩
        clear RA1 RI1 RB1 hup
        dsimp only at HRA1
        have HQ : Hid ((upd l ⟨ss, sl, so, sh⟩).length = (m + 1) ∧ StksAt W.heap.size w5 (.slice (some ⟨g1, 0, none⟩) (m + 1) d1) (upd l ⟨ss, sl, so, sh⟩) ∧ Below W.heap.size W w5) := HRI1.out
        have hc1 := HC.out.1.next HQ.out.2.2
        have hc3 := HC.out.2.2.next HQ.out.2.2
        have l0 := hc1.cs 0 _ rfl
        have l1 := hc1.cs 1 _ rfl
        have l2 := hc1.cs 2 _ rfl
        have l3 := hc1.cs 3 _ rfl
        have f0 := hc1.fz 0
        have hcz := hc1.set 0 (.slice (some ⟨g1, 0, none⟩) (m + 1) d1) (by simp)
        have hcy : CellsF (w5.setCell ⟨w.heap.size, 0, none⟩ (.slice (some ⟨g1, 0, none⟩) (m + 1) d1)) (w.heap.size + 1 + 1) [.slice none 0 0, .slice none 0 0, .slice none 0 0, .int .i64 0] := hc3.far (Below.heap_setCell _ _ _ _ (by show w.heap.size + 1 + 1 ≠ w.heap.size; omega))
        have HCY : Hid (CellsF (w5.setCell ⟨w.heap.size, 0, none⟩ (.slice (some ⟨g1, 0, none⟩) (m + 1) d1)) (w.heap.size + 1 + 1) [.slice none 0 0, .slice none 0 0, .slice none 0 0, .int .i64 0]) := hcy
        have r0 := hcz.cs 0 _ rfl
        have r1 := hcz.cs 1 _ rfl
        have r2 := hcz.cs 2 _ rfl
        have r3 := hcz.cs 3 _ rfl
        have y0 := hcy.cs 0 _ rfl
        have y1 := hcy.cs 1 _ rfl
        have y2 := hcy.cs 2 _ rfl
        have y3 := hcy.cs 3 _ rfl
        have g0 := hcy.fz 0
        have g1' := hcy.fz 1
        have g2 := hcy.fz 2
        have g3 := hcy.fz 3
        have HFIN : Hid (∀ u0 u1 u2 u3, Rw stv 4 (((((w5.setCell ⟨w.heap.size, 0, none⟩ (.slice (some ⟨g1, 0, none⟩) (m + 1) d1)).setCell ⟨w.heap.size + 1 + 1, 0, none⟩ u0).setCell ⟨w.heap.size + 1 + 1, 1, none⟩ u1).setCell ⟨w.heap.size + 1 + 1, 2, none⟩ u2).setCell ⟨w.heap.size + 1 + 1, 3, none⟩ u3) (some ⟨g1, 0, none⟩) (upd l ⟨ss, sl, so, sh⟩) ∧ Below w.heap.size w (((((w5.setCell ⟨w.heap.size, 0, none⟩ (.slice (some ⟨g1, 0, none⟩) (m + 1) d1)).setCell ⟨w.heap.size + 1 + 1, 0, none⟩ u0).setCell ⟨w.heap.size + 1 + 1, 1, none⟩ u1).setCell ⟨w.heap.size + 1 + 1, 2, none⟩ u2).setCell ⟨w.heap.size + 1 + 1, 3, none⟩ u3)) := fun u0 u1 u2 u3 => by
          obtain ⟨q0, q1, e1, q2⟩ := own_rowS HQ.out.2.1.own
          injection e1 with e1 e2 e3
          subst e1
          refine ⟨q2.far (fun b' o' e hne => ?_), below_four (below_set (Below.next HB.out.1 HQ.out.2.2) _ _ _ (Nat.le_refl _)) _ (by omega) _ _ _ _⟩
          have hb' : W.heap.size ≤ b' := (HQ.out.2.1.new b' (by rw [e]; rfl)).1
          have := HB.out.2
          rw [four_far _ _ _ _ _ _ (by omega), Below.heap_setCell _ _ _ _ (by show b' ≠ w.heap.size; omega)]
        have HQ1 : Hid _ := HQ.out.1
        have HNB : Hid (∀ b' o', ((some ⟨g1, 0, none⟩) : Option Addr) = some (Addr.mk b' o' none) → w.heap.size ≤ b') := fun b' o' e => Nat.le_trans HB.out.1.size (HQ.out.2.1.new b' (by cases e; rfl)).1
        clear hc1 hc3 hcz hcy HQ
        go_wp2_with (first | ((with_reducible apply st_append (x := .tmp 61)); (case ho => rfl); (case hgd => rfl); (case hr => exact HRA1.out)))
        try simp only [Exit.inBlock, Exit.then]
        refine bodyPost_ret (end_cell rfl rfl (loadLed _ (HCY.out.four rfl _ _ _ _) rfl)) rfl ?_
        exact ⟨_, _, _, rfl, HQ1.out, (HFIN.out _ _ _ _).1, (HFIN.out _ _ _ _).2, HNB.out⟩
end Go.Proofs.Ytflbcheofmljeaa

namespace Go.Proofs.Ytflbcheofmljeaa
open Go.ChangeShapes Go.WideShapes Go.RowKit
set_option linter.unusedVariables false
set_option maxRecDepth 100000

theorem radd_is (a b : Int) (ha : i64b a) (hb : i64b b) (w : World) : Calls Try.prog 75 #[.int .i64 a, .int .i64 b] w fun e w' => e = .returned (.tuple #[.int .i64 (vl (a + b)), .int .i64 (er (a + b))]) ∧ Below w.heap.size w w' := by
  by_cases h : -9223372036854775808 ≤ a + b ∧ a + b ≤ 9223372036854775807
  · rw [(vl_in h).1, (vl_in h).2]; exact refAdd_in a b ha hb h w
  · rw [(vl_out h).1, (vl_out h).2]; exact refAdd_over a b ha hb (by omega) w
theorem rsub_is (a b : Int) (ha : i64b a) (hb : i64b b) (w : World) : Calls Try.prog 77 #[.int .i64 a, .int .i64 b] w fun e w' => e = .returned (.tuple #[.int .i64 (vl (a - b)), .int .i64 (er (a - b))]) ∧ Below w.heap.size w w' := by
  by_cases h : -9223372036854775808 ≤ a - b ∧ a - b ≤ 9223372036854775807
  · rw [(vl_in h).1, (vl_in h).2]; exact refSub_in a b ha hb h w
  · rw [(vl_out h).1, (vl_out h).2]; exact refSub_over a b ha hb (by omega) w
set_option maxHeartbeats 2000000 in
theorem rfind_is (a0 : Option Addr) (n0 c0 : Nat) (a1 : Option Addr) (n1 c1 : Nat) (a2 : Option Addr) (n2 c2 : Nat) (ops : Int) (l : List Stk) (hn : l.length = n0) (hm : n0 ≤ 1000000000000) (sku loc : ByteArray) (w : World) (hr : Rw stv 4 w a0 l) :
    Calls Try.prog 56 #[.agg #[.slice a0 n0 c0, .slice a1 n1 c1, .slice a2 n2 c2, .int .i64 ops], .string sku, .string loc] w fun e w' => e = .returned (sval (findK l sku loc)) ∧ Below w.heap.size w w' := by
  obtain ⟨W, hW⟩ : ∃ W, (w.alloc (.cells #[.slice a0 n0 c0, .slice a1 n1 c1, .slice a2 n2 c2, .int .i64 ops] 26)).alloc (.cells #[.string ⟨#[]⟩, .string ⟨#[]⟩, .int .i64 0, .int .i64 0] 50) = W := ⟨_, rfl⟩
  have hB1 : Below w.heap.size w W := hW ▸ below2 _ _ _
  have hL : CellsF W w.heap.size [.slice a0 n0 c0, .slice a1 n1 c1, .slice a2 n2 c2, .int .i64 ops] := by rw [← hW]; exact (CellsF.at _ 26 (by simp) rfl).next (below1 _ _)
  have hZ : CellsF W (w.heap.size + 1) [.string ⟨#[]⟩, .string ⟨#[]⟩, .int .i64 0, .int .i64 0] := by rw [← hW]; exact CellsF.at _ 50 (by simp) (by rw [size_alloc])
  have HC : Hid (CellsF W w.heap.size [.slice a0 n0 c0, .slice a1 n1 c1, .slice a2 n2 c2, .int .i64 ops] ∧ CellsF W (w.heap.size + 1) [.string ⟨#[]⟩, .string ⟨#[]⟩, .int .i64 0, .int .i64 0] ∧ Below w.heap.size w W) := ⟨hL, hZ, hB1⟩
  have HI : Hid _ := index_is a0 n0 c0 a1 n1 c1 a2 n2 c2 ops l hn hm sku loc W (hr.next stv_ne hB1)
  have HR : Hid (Rw stv 4 w a0 l) := hr
  have l0 := hL.cs 0 _ rfl
  have l1 := hL.cs 1 _ rfl
  have l2 := hL.cs 2 _ rfl
  have l3 := hL.cs 3 _ rfl
  clear hB1 hL hZ hr
  cases hk : hasK l sku loc with
  | false =>
    rw [findK_no hk]
    rw [hk] at HI
    have HI' : Hid _ := HI.out
    simp only [Bool.false_eq_true, if_false] at HI'
    clear hk hn HR HI
    go_enter Try.func56, Try.ntmps56
    go_wp2_with fail
    try rw [hW]
    go_wp2_with fail
    refine Calls.mono HI'.out ?_; rintro e w2 ⟨rfl, k2⟩
    have HC2 : Hid (CellsF w2 (w.heap.size + 1) [.string ⟨#[]⟩, .string ⟨#[]⟩, .int .i64 0, .int .i64 0] ∧ Below w.heap.size w w2) := ⟨HC.out.2.1.next k2, Below.next HC.out.2.2 k2⟩
    clear k2
    have z0 := HC2.out.1.cs 0 _ rfl
    have z1 := HC2.out.1.cs 1 _ rfl
    have z2 := HC2.out.1.cs 2 _ rfl
    have z3 := HC2.out.1.cs 3 _ rfl
    have f0 := HC2.out.1.fz 0
    have f1 := HC2.out.1.fz 1
    have f2 := HC2.out.1.fz 2
    have f3 := HC2.out.1.fz 3
    go_wp2_with fail
    try simp only [Exit.inBlock, Exit.then]
    refine bodyPost_ret (end_cell rfl rfl (loadStk _ (HC2.out.1.four rfl _ _ _ _) rfl)) rfl ?_
    exact ⟨rfl, below_four HC2.out.2 _ (by omega) _ _ _ _⟩
  | true =>
    obtain ⟨hp, he⟩ := findK_idx hk
    rw [he]
    rw [hk] at HI
    obtain ⟨b, o, rfl, hb, hc⟩ := HR.out.stk (fun e => by rw [e] at hp; simp at hp)
    have hx := hc _ hp
    generalize l[idxK l sku loc] = x at *
    obtain ⟨p, hpp⟩ : ∃ p, idxK l sku loc = p := ⟨_, rfl⟩
    rw [hpp] at HI hx
    have HI' : Hid _ := HI.out
    simp only [if_true] at HI'
    have hpn : p < n0 := by rw [← hn, ← hpp]; exact hp
    have HX : Hid (StkAt w b (o + p * 4) x ∧ b < w.heap.size) := ⟨hx, hb⟩
    clear hp hpp hk hn hc hx he hb HR HI
    go_enter Try.func56, Try.ntmps56
    go_wp2_with fail
    try rw [hW]
    go_wp2_with fail
    refine Calls.mono HI'.out ?_; rintro e w2 ⟨rfl, k2⟩
    have HC2 : Hid (CellsF w2 (w.heap.size + 1) [.string ⟨#[]⟩, .string ⟨#[]⟩, .int .i64 0, .int .i64 0] ∧ Below w.heap.size w w2) := ⟨HC.out.2.1.next k2, Below.next HC.out.2.2 k2⟩
    have r0 := (HC.out.1.next k2).cs 0 _ rfl
    obtain ⟨x0, x1, x2, x3⟩ := HX.out.1.next (HC2.out.2.block b HX.out.2)
    clear k2 l0 l1 l2 l3
    have z0 := HC2.out.1.cs 0 _ rfl
    have z1 := HC2.out.1.cs 1 _ rfl
    have z2 := HC2.out.1.cs 2 _ rfl
    have z3 := HC2.out.1.cs 3 _ rfl
    have f0 := HC2.out.1.fz 0
    have f1 := HC2.out.1.fz 1
    have f2 := HC2.out.1.fz 2
    have f3 := HC2.out.1.fz 3
    go_wp2_with fail
    try simp only [Exit.inBlock, Exit.then]
    refine bodyPost_ret (end_cell rfl rfl (loadStk _ (HC2.out.1.four rfl _ _ _ _) rfl)) rfl ?_
    exact ⟨rfl, below_four HC2.out.2 _ (by omega) _ _ _ _⟩
set_option maxHeartbeats 2000000 in
theorem rfree_is (a0 : Option Addr) (n0 c0 : Nat) (a1 : Option Addr) (n1 c1 : Nat) (a2 : Option Addr) (n2 c2 : Nat) (ops : Int) (l : List Stk) (hn : l.length = n0) (hm : n0 ≤ 1000000000000) (hf : ∀ x, x ∈ l → x.fit) (sku loc : ByteArray) (w : World) (hr : Rw stv 4 w a0 l) :
    Calls Try.prog 52 #[.agg #[.slice a0 n0 c0, .slice a1 n1 c1, .slice a2 n2 c2, .int .i64 ops], .string sku, .string loc] w fun e w' => e = .returned (.int .i64 (vl ((findK l sku loc).on - (findK l sku loc).held))) ∧ Below w.heap.size w w' := by
  have hff := findK_fit hf sku loc
  have HF : Hid (∀ w', Below w.heap.size w w' → Calls Try.prog 56 #[.agg #[.slice a0 n0 c0, .slice a1 n1 c1, .slice a2 n2 c2, .int .i64 ops], .string sku, .string loc] w' fun e w'' => e = .returned (sval (findK l sku loc)) ∧ Below w'.heap.size w' w'') := fun w' b => rfind_is a0 n0 c0 a1 n1 c1 a2 n2 c2 ops l hn hm sku loc w' (hr.next stv_ne b)
  generalize findK l sku loc = x at hff HF
  obtain ⟨xs, xl, xo, xh⟩ := x
  dsimp only
  have HS : Hid (∀ w, Calls Try.prog 77 #[.int .i64 xo, .int .i64 xh] w fun e w' => e = .returned (.tuple #[.int .i64 (vl (xo - xh)), .int .i64 (er (xo - xh))]) ∧ Below w.heap.size w w') := fun w => rsub_is xo xh hff.on hff.held w
  generalize vl (xo - xh) = v at HS ⊢
  generalize er (xo - xh) = u at HS
  obtain ⟨W, hW⟩ : ∃ W, w.alloc (.cells #[.slice a0 n0 c0, .slice a1 n1 c1, .slice a2 n2 c2, .int .i64 ops] 26) = W := ⟨_, rfl⟩
  have HB : Hid (Below w.heap.size w W) := by show Below _ _ _; rw [← hW]; exact below1 _ _
  have hL : CellsF W w.heap.size [.slice a0 n0 c0, .slice a1 n1 c1, .slice a2 n2 c2, .int .i64 ops] := by rw [← hW]; exact CellsF.at _ 26 (by simp) rfl
  have l0 := hL.cs 0 _ rfl
  have l1 := hL.cs 1 _ rfl
  have l2 := hL.cs 2 _ rfl
  have l3 := hL.cs 3 _ rfl
  clear hn hf hr hff hL
  go_enter Try.func52, Try.ntmps52
  go_wp2_with fail
  try rw [hW]
  go_wp2_with fail
  refine Calls.mono (HF.out _ HB.out) ?_; rintro e w1 ⟨rfl, k1⟩
  have HB1 : Hid (Below w.heap.size w w1) := Below.next HB.out k1
  clear k1 l0 l1 l2 l3 hW
  go_wp2_with fail
  refine Calls.mono (HS.out _) ?_; rintro e w2 ⟨rfl, k2⟩
  have HB2 : Hid (Below w.heap.size w w2) := Below.next (Below.next HB1.out (below1 _ _)) k2
  clear k2
  go_wp2_with fail
  go_ret
  exact ⟨rfl, HB2.out⟩
set_option maxHeartbeats 2000000 in
theorem rmore_is (a0 : Option Addr) (n0 c0 : Nat) (a1 : Option Addr) (n1 c1 : Nat) (a2 : Option Addr) (n2 c2 : Nat) (ops : Int) (l : List Stk) (hn : l.length = n0) (hm : n0 ≤ 1000000000000) (hf : ∀ x, x ∈ l → x.fit) (sku loc : ByteArray) (d : Int) (hd : i64b d) (w : World) (hr : Rw stv 4 w a0 l) :
    Calls Try.prog 50 #[.agg #[.slice a0 n0 c0, .slice a1 n1 c1, .slice a2 n2 c2, .int .i64 ops], .string sku, .string loc, .int .i64 d] w fun e w' => e = .returned (.tuple #[.int .i64 (vl ((findK l sku loc).on + d)), .int .i64 (er ((findK l sku loc).on + d))]) ∧ Below w.heap.size w w' := by
  have hff := findK_fit hf sku loc
  have HF : Hid (∀ w', Below w.heap.size w w' → Calls Try.prog 56 #[.agg #[.slice a0 n0 c0, .slice a1 n1 c1, .slice a2 n2 c2, .int .i64 ops], .string sku, .string loc] w' fun e w'' => e = .returned (sval (findK l sku loc)) ∧ Below w'.heap.size w' w'') := fun w' b => rfind_is a0 n0 c0 a1 n1 c1 a2 n2 c2 ops l hn hm sku loc w' (hr.next stv_ne b)
  generalize findK l sku loc = x at hff HF
  obtain ⟨xs, xl, xo, xh⟩ := x
  dsimp only
  have HS : Hid (∀ w, Calls Try.prog 75 #[.int .i64 xo, .int .i64 d] w fun e w' => e = .returned (.tuple #[.int .i64 (vl (xo + d)), .int .i64 (er (xo + d))]) ∧ Below w.heap.size w w') := fun w => radd_is xo d hff.on hd w
  generalize vl (xo + d) = v at HS ⊢
  generalize er (xo + d) = u at HS ⊢
  have hfl : ∀ w, (Instr.field 50 (.agg #[.string xs, .string xl, .int .i64 xo, .int .i64 xh]) 2).run Try.prog w = .ok (.int .i64 xo) w := fun w => rfl
  obtain ⟨W, hW⟩ : ∃ W, w.alloc (.cells #[.slice a0 n0 c0, .slice a1 n1 c1, .slice a2 n2 c2, .int .i64 ops] 26) = W := ⟨_, rfl⟩
  have HB : Hid (Below w.heap.size w W) := by show Below _ _ _; rw [← hW]; exact below1 _ _
  have hL : CellsF W w.heap.size [.slice a0 n0 c0, .slice a1 n1 c1, .slice a2 n2 c2, .int .i64 ops] := by rw [← hW]; exact CellsF.at _ 26 (by simp) rfl
  have l0 := hL.cs 0 _ rfl
  have l1 := hL.cs 1 _ rfl
  have l2 := hL.cs 2 _ rfl
  have l3 := hL.cs 3 _ rfl
  clear hn hf hr hff hL hd
  go_enter Try.func50, Try.ntmps50
  go_wp2_with fail
  try rw [hW]
  go_wp2_with fail
  refine Calls.mono (HF.out _ HB.out) ?_; rintro e w1 ⟨rfl, k1⟩
  have HB1 : Hid (Below w.heap.size w w1) := Below.next HB.out k1
  clear k1 l0 l1 l2 l3 hW
  go_wp2_with fail
  refine Calls.mono (HS.out _) ?_; rintro e w2 ⟨rfl, k2⟩
  have HB2 : Hid (Below w.heap.size w w2) := Below.next HB1.out k2
  clear k2
  go_wp2_with fail
  go_ret2
  exact ⟨rfl, HB2.out⟩
end Go.Proofs.Ytflbcheofmljeaa

namespace Go.Proofs.Ytflbcheofmljeaa
open Go.ChangeShapes Go.WideShapes Go.RowKit
set_option linter.unusedVariables false
set_option maxRecDepth 100000

theorem wrapIn {x : Int} (h : i64b x) : wrap64 x = x := by unfold i64b at h; unfold wrap64; omega
set_option maxHeartbeats 4000000 in
theorem rheld_is (a0 : Option Addr) (n0 c0 : Nat) (a1 : Option Addr) (n1 c1 : Nat) (a2 : Option Addr) (n2 c2 : Nat) (ops : Int) (l : List Stk) (hn : l.length = n0) (hm : n0 ≤ 90000) (hs : Rises l) (s t : ByteArray) (d : Int) (hin : i64b ((findK l s t).held + d)) (w : World) (hr : Rw stv 4 w a0 l) :
    Calls Try.prog 53 #[.agg #[.slice a0 n0 c0, .slice a1 n1 c1, .slice a2 n2 c2, .int .i64 ops], .agg #[.string s, .string t, .int .i64 0, .int .i64 0], .int .i64 d] w fun e w' => PutP w w' (addHeld l s t d) a1 n1 c1 a2 n2 c2 ops e := by
  rw [addHeld_upd]
  have HF : Hid (∀ w', Below w.heap.size w w' → Calls Try.prog 56 #[.agg #[.slice a0 n0 c0, .slice a1 n1 c1, .slice a2 n2 c2, .int .i64 ops], .string s, .string t] w' fun e w'' => e = .returned (sval (findK l s t)) ∧ Below w'.heap.size w' w'') := fun w' b => rfind_is a0 n0 c0 a1 n1 c1 a2 n2 c2 ops l hn (by omega) s t w' (hr.next stv_ne b)
  generalize findK l s t = x at HF hin ⊢
  obtain ⟨xs, xl, xo, xh⟩ := x
  dsimp only at hin ⊢
  obtain ⟨z, hz⟩ : ∃ z, wrap64 (xh + d) = z := ⟨_, rfl⟩
  rw [← wrapIn hin, hz]
  have HPT : Hid (∀ w', Below w.heap.size w w' → Calls Try.prog 76 #[.agg #[.slice a0 n0 c0, .slice a1 n1 c1, .slice a2 n2 c2, .int .i64 ops], .agg #[.string xs, .string xl, .int .i64 xo, .int .i64 z]] w' fun e w'' => PutP w' w'' (upd l ⟨xs, xl, xo, z⟩) a1 n1 c1 a2 n2 c2 ops e) := fun w' b => rput_is a0 n0 c0 a1 n1 c1 a2 n2 c2 ops l hn hm hs ⟨xs, xl, xo, z⟩ w' (hr.next stv_ne b)
  generalize upd l ⟨xs, xl, xo, z⟩ = L' at HPT ⊢
  obtain ⟨W, hW⟩ : ∃ W, ((w.alloc (.cells #[.slice a0 n0 c0, .slice a1 n1 c1, .slice a2 n2 c2, .int .i64 ops] 26)).alloc (.cells #[.string s, .string t, .int .i64 0, .int .i64 0] 50)).alloc (.cells #[.slice none 0 0, .slice none 0 0, .slice none 0 0, .int .i64 0] 26) = W := ⟨_, rfl⟩
  have HC : Hid (CellsF W w.heap.size [.slice a0 n0 c0, .slice a1 n1 c1, .slice a2 n2 c2, .int .i64 ops] ∧ CellsF W (w.heap.size + 1) [.string s, .string t, .int .i64 0, .int .i64 0] ∧ CellsF W (w.heap.size + 1 + 1) [.slice none 0 0, .slice none 0 0, .slice none 0 0, .int .i64 0] ∧ Below w.heap.size w W) := by
    show _ ∧ _
    rw [← hW]
    exact ⟨((CellsF.at _ 26 (by simp) rfl).next (below1 _ _)).next (below1 _ _), (CellsF.at _ 50 (by simp) (by rw [size_alloc])).next (below1 _ _), CellsF.at _ 26 (by simp) (by rw [size_alloc, size_alloc]), below3 _ _ _ _⟩
  have l0 := HC.out.1.cs 0 _ rfl
  have l1 := HC.out.1.cs 1 _ rfl
  have l2 := HC.out.1.cs 2 _ rfl
  have l3 := HC.out.1.cs 3 _ rfl
  have s0 := HC.out.2.1.cs 0 _ rfl
  have s1 := HC.out.2.1.cs 1 _ rfl
  clear hn hs hin hr
  go_enter Try.func53, Try.ntmps53
  go_wp2_with fail
  try rw [hW]
  go_wp2_with fail
  refine Calls.mono (HF.out _ HC.out.2.2.2) ?_; rintro e w1 ⟨rfl, k1⟩
  obtain ⟨W1, hW1⟩ : ∃ W1, w1.alloc (.cells #[.string xs, .string xl, .int .i64 xo, .int .i64 z] 50) = W1 := ⟨_, rfl⟩
  have HC1 : Hid (CellsF W1 w.heap.size [.slice a0 n0 c0, .slice a1 n1 c1, .slice a2 n2 c2, .int .i64 ops] ∧ CellsF W1 (w.heap.size + 1 + 1) [.slice none 0 0, .slice none 0 0, .slice none 0 0, .int .i64 0] ∧ CellsF W1 w1.heap.size [.string xs, .string xl, .int .i64 xo, .int .i64 z] ∧ Below w.heap.size w W1) := by
    show _ ∧ _
    rw [← hW1]
    exact ⟨(HC.out.1.next k1).next (below1 _ _), (HC.out.2.2.1.next k1).next (below1 _ _), CellsF.at _ 50 (by simp) rfl, Below.next (Below.next HC.out.2.2.2 k1) (below1 _ _)⟩
  clear k1 hW l0 l1 l2 l3 s0 s1
  have l0 := HC1.out.1.cs 0 _ rfl
  have l1 := HC1.out.1.cs 1 _ rfl
  have l2 := HC1.out.1.cs 2 _ rfl
  have l3 := HC1.out.1.cs 3 _ rfl
  have x0 := HC1.out.2.2.1.cs 0 _ rfl
  have x1 := HC1.out.2.2.1.cs 1 _ rfl
  have x2 := HC1.out.2.2.1.cs 2 _ rfl
  have x3 := HC1.out.2.2.1.cs 3 _ rfl
  go_wp2_with fail
  refine Calls.mono (HPT.out _ HC1.out.2.2.2) ?_; rintro e w2 ⟨b0, m0, d0, rfl, hlen, hrw, k2, hnb⟩
  have hcz := HC1.out.2.1.next k2
  have HCZ : Hid (CellsF w2 (w.heap.size + 1 + 1) [.slice none 0 0, .slice none 0 0, .slice none 0 0, .int .i64 0]) := hcz
  have z0 := hcz.cs 0 _ rfl
  have z1 := hcz.cs 1 _ rfl
  have z2 := hcz.cs 2 _ rfl
  have z3 := hcz.cs 3 _ rfl
  have f0 := hcz.fz 0
  have f1 := hcz.fz 1
  have f2 := hcz.fz 2
  have f3 := hcz.fz 3
  have HLN : Hid (L'.length = m0 ∧ ∀ b' o', b0 = some ⟨b', o', none⟩ → w.heap.size ≤ b') := ⟨hlen, fun b' o' e => Nat.le_trans HC1.out.2.2.2.size (hnb b' o' e)⟩
  have HFIN : Hid (∀ u0 u1 u2 u3, Rw stv 4 ((((w2.setCell ⟨w.heap.size + 1 + 1, 0, none⟩ u0).setCell ⟨w.heap.size + 1 + 1, 1, none⟩ u1).setCell ⟨w.heap.size + 1 + 1, 2, none⟩ u2).setCell ⟨w.heap.size + 1 + 1, 3, none⟩ u3) b0 L' ∧ Below w.heap.size w ((((w2.setCell ⟨w.heap.size + 1 + 1, 0, none⟩ u0).setCell ⟨w.heap.size + 1 + 1, 1, none⟩ u1).setCell ⟨w.heap.size + 1 + 1, 2, none⟩ u2).setCell ⟨w.heap.size + 1 + 1, 3, none⟩ u3)) := fun u0 u1 u2 u3 => ⟨hrw.far (fun b' o' e hne => four_far _ _ _ _ _ _ (by have h7 := hnb b' o' e; have h8 := HC1.out.2.1.lt; omega)), below_four (Below.next HC1.out.2.2.2 k2) _ (by omega) _ _ _ _⟩
  clear hcz hlen hrw k2 hnb l0 l1 l2 l3 x0 x1 x2 x3 hW1
  go_wp2_with fail
  try simp only [Exit.inBlock, Exit.then]
  refine bodyPost_ret (end_cell rfl rfl (loadLed _ (HCZ.out.four rfl _ _ _ _) rfl)) rfl ?_
  exact ⟨_, _, _, rfl, HLN.out.1, (HFIN.out _ _ _ _).1, (HFIN.out _ _ _ _).2, HLN.out.2⟩
end Go.Proofs.Ytflbcheofmljeaa

namespace Go.Proofs.Ytflbcheofmljeaa
open Go.ChangeShapes Go.WideShapes Go.RowKit
set_option linter.unusedVariables false
set_option maxRecDepth 100000

/-- Movements in a list of the call's own. -/
structure MovsAt (N : Nat) (w : World) (v : Value) (l : List Mov) : Prop where
  own : w.ownsRow 0 42 6 v l.length (l.flatMap mvv)
  new : ∀ g, v.ownBlock = some g → N ≤ g ∧ g < w.heap.size
theorem mvv_flat_len (l : List Mov) : (l.flatMap mvv).length = l.length * 6 := mvv_flat_len' l
theorem MovsAt.next {N : Nat} {w w' : World} {v : Value} {l : List Mov} (h : MovsAt N w v l) (b : Below w.heap.size w w') : MovsAt N w' v l :=
  ⟨ownsRow_kept h.own (fun k hk => b.block k (h.new k hk).2), fun g hg => ⟨(h.new g hg).1, Nat.lt_of_lt_of_le (h.new g hg).2 b.size⟩⟩
/-- A list that is copied. -/
theorem copyM {w : World} {a : Option Addr} {n c : Nat} {l : List Mov} (hn : l.length = n) (hm : n ≤ 90000) (hr : Rw mvv 6 w a l) :
    ∃ o' c' w', (Builtin.append_ #[24, 24] 24 #[.slice none 0 0, .slice a n c]).run Try.prog w = .ok (.slice o' n c') w' ∧ MovsAt w.heap.size w' (.slice o' n c') l ∧ Below w.heap.size w w' := by
  cases a with
  | none =>
    have hl : l = [] := by
      by_cases c : l = []
      · exact c
      · obtain ⟨_, _, e, _⟩ := hr c
        cases e
    subst hl
    have h0 : n = 0 := hn.symm
    subst h0
    exact ⟨none, 0, w, rfl, ⟨World.ownsRow_nil _ _ _ _, fun g h => by cases h⟩, Below.refl _ _⟩
  | some a =>
    obtain ⟨i, hi, hzz, h1, h2⟩ := info_of info42
    have hnews : ∀ j u, (l.flatMap mvv)[j]? = some u → w.cell? (a.add j) = some u := fun j u hu => by
      have hne : l ≠ [] := fun e => by rw [e] at hu; simp at hu
      obtain ⟨b, o, e, hc⟩ := hr hne
      cases e
      rw [Go.WideShapes.add_plain]
      exact rw_cells (f := mvv) (k := 6) (fun x => rfl) hc j u hu
    obtain ⟨v', w', r1, r2, r3, r4, r5⟩ := run_append_own_at (P := Try.prog) w 0 24 24 42 i _ 6 64 Try.underlying24 hi hzz h1 h2 (by simp [Value.cells]) (by omega) (.slice none 0 0) 0 [] (World.ownsRow_nil _ _ _ _) a n c (l.flatMap mvv) (by rw [mvv_flat_len, hn]) hnews (mvv_one l) (by unfold maxLen; omega) (by omega) (Nat.zero_le _)
    rw [Nat.zero_add, List.nil_append] at r2
    obtain ⟨o', c', rfl⟩ := own_form r2
    refine ⟨o', c', w', r1, ⟨by rw [hn]; exact r2, fun g hg => ⟨?_, (World.ownsRow.lt r2 g hg).2⟩⟩, (Below.refl _ _).grown r3 (Nat.le_refl _) (fun q hq => by cases hq)⟩
    rcases r5 with e | e
    · rw [e] at hg; cases hg
    · rw [e] at hg; cases hg; exact Nat.le_refl _
theorem MovsAt.more {N : Nat} {w : World} {o : Option Addr} {m c : Nat} {l : List Mov} (h : MovsAt N w (.slice o m c) l) (hm : m = l.length) (hN : N ≤ w.heap.size) (x : Mov) (hs : l.length ≤ 100000) :
    ∃ g d w1, (Builtin.append_ #[24, 24] 24 #[.slice o m c, .slice (some ⟨w.heap.size, 0, none⟩) 1 1]).run Try.prog (w.alloc (.cells #[.int .i64 x.seq, .string x.sku, .string x.loc, .int .i64 x.delta, .int .i64 x.kind, .int .i64 x.hold] 42)) = .ok (.slice (some ⟨g, 0, none⟩) (m + 1) d) w1 ∧ MovsAt N w1 (.slice (some ⟨g, 0, none⟩) (m + 1) d) (l ++ [x]) ∧ Below N w w1 := by
  subst hm
  obtain ⟨g, cap, w1, a1, a2, a3, a4⟩ := append_M h.own x hs
  have hlen : (l ++ [x]).length = l.length + 1 := by simp
  refine ⟨g, cap, w1, a1, ⟨by rw [hlen]; exact a2, fun g' hg' => ?_⟩, ?_⟩
  · cases hg'
    refine ⟨?_, (World.ownsRow.lt a2 g rfl).2⟩
    rcases a4 with e | e
    · exact (h.new g e).1
    · exact Nat.le_trans hN e
  · have hst : Stay (fun k => k < N) w w1 := (Stay.refl _ w).grown a3 (fun i hi => Nat.lt_of_lt_of_le hi hN) (fun b hb hlt => absurd hlt (Nat.not_lt_of_le (h.new b hb).1))
    exact hst.to_below
/-- An answer that is a ledger with other stocks and movements. -/
def MvdP (w w' : World) (l : List Stk) (M : List Mov) (a1 : Option Addr) (n1 c1 : Nat) (ops : Int) (e : Ending) : Prop := ∃ b0 m0 d0 b2 m2 d2, e = .returned (.agg #[.slice b0 m0 d0, .slice a1 n1 c1, .slice b2 m2 d2, .int .i64 ops]) ∧ l.length = m0 ∧ M.length = m2 ∧ Rw stv 4 w' b0 l ∧ Rw mvv 6 w' b2 M ∧ Below w.heap.size w w' ∧ (∀ b' o', b0 = some ⟨b', o', none⟩ → w.heap.size ≤ b') ∧ (∀ b' o', b2 = some ⟨b', o', none⟩ → w.heap.size ≤ b') ∧ ¬ b2 = none
set_option maxHeartbeats 8000000 in
theorem rmoved_is (a0 : Option Addr) (n0 c0 : Nat) (a1 : Option Addr) (n1 c1 : Nat) (a2 : Option Addr) (n2 c2 : Nat) (ops : Int) (l : List Stk) (hn : l.length = n0) (hm : n0 ≤ 90000) (hs : Rises l) (M : List Mov) (hM : M.length = n2) (hm2 : n2 ≤ 90000) (s t : ByteArray) (d kind hold : Int) (hin : i64b ((findK l s t).on + d)) (w : World) (hr : Rw stv 4 w a0 l) (hr2 : Rw mvv 6 w a2 M) :
    Calls Try.prog 51 #[.agg #[.slice a0 n0 c0, .slice a1 n1 c1, .slice a2 n2 c2, .int .i64 ops], .agg #[.string s, .string t, .int .i64 0, .int .i64 0], .int .i64 d, .agg #[.int .i64 0, .string ⟨#[]⟩, .string ⟨#[]⟩, .int .i64 0, .int .i64 kind, .int .i64 hold]] w fun e w' => MvdP w w' (addOn l s t d) (M ++ [⟨(n2 : Int) + 1, s, t, d, kind, hold⟩]) a1 n1 c1 ops e := by
  rw [addOn_upd]
  have HF : Hid (∀ w', Below w.heap.size w w' → Calls Try.prog 56 #[.agg #[.slice a0 n0 c0, .slice a1 n1 c1, .slice a2 n2 c2, .int .i64 ops], .string s, .string t] w' fun e w'' => e = .returned (sval (findK l s t)) ∧ Below w'.heap.size w' w'') := fun w' b => rfind_is a0 n0 c0 a1 n1 c1 a2 n2 c2 ops l hn (by omega) s t w' (hr.next stv_ne b)
  generalize findK l s t = x at HF hin ⊢
  obtain ⟨xs, xl, xo, xh⟩ := x
  dsimp only at hin ⊢
  obtain ⟨z, hz⟩ : ∃ z, wrap64 (xo + d) = z := ⟨_, rfl⟩
  rw [← wrapIn hin, hz]
  have HPT : Hid (∀ w', Below w.heap.size w w' → Calls Try.prog 76 #[.agg #[.slice a0 n0 c0, .slice a1 n1 c1, .slice a2 n2 c2, .int .i64 ops], .agg #[.string xs, .string xl, .int .i64 z, .int .i64 xh]] w' fun e w'' => PutP w' w'' (upd l ⟨xs, xl, z, xh⟩) a1 n1 c1 a2 n2 c2 ops e) := fun w' b => rput_is a0 n0 c0 a1 n1 c1 a2 n2 c2 ops l hn hm hs ⟨xs, xl, z, xh⟩ w' (hr.next stv_ne b)
  generalize upd l ⟨xs, xl, z, xh⟩ = L' at HPT ⊢
  obtain ⟨W, hW⟩ : ∃ W, (((w.alloc (.cells #[.slice a0 n0 c0, .slice a1 n1 c1, .slice a2 n2 c2, .int .i64 ops] 26)).alloc (.cells #[.string s, .string t, .int .i64 0, .int .i64 0] 50)).alloc (.cells #[.int .i64 0, .string ⟨#[]⟩, .string ⟨#[]⟩, .int .i64 0, .int .i64 kind, .int .i64 hold] 42)).alloc (.cells #[.slice none 0 0, .slice none 0 0, .slice none 0 0, .int .i64 0] 26) = W := ⟨_, rfl⟩
  have HC : Hid (CellsF W w.heap.size [.slice a0 n0 c0, .slice a1 n1 c1, .slice a2 n2 c2, .int .i64 ops] ∧ CellsF W (w.heap.size + 1) [.string s, .string t, .int .i64 0, .int .i64 0] ∧ CellsF W (w.heap.size + 1 + 1) [.int .i64 0, .string ⟨#[]⟩, .string ⟨#[]⟩, .int .i64 0, .int .i64 kind, .int .i64 hold] ∧ CellsF W (w.heap.size + 1 + 1 + 1) [.slice none 0 0, .slice none 0 0, .slice none 0 0, .int .i64 0] ∧ Below w.heap.size w W) := by
    show _ ∧ _
    rw [← hW]
    exact ⟨(((CellsF.at _ 26 (by simp) rfl).next (below1 _ _)).next (below1 _ _)).next (below1 _ _), ((CellsF.at _ 50 (by simp) (by rw [size_alloc])).next (below1 _ _)).next (below1 _ _), (CellsF.at _ 42 (by simp) (by rw [size_alloc, size_alloc])).next (below1 _ _), CellsF.at _ 26 (by simp) (by rw [size_alloc, size_alloc, size_alloc]), Below.next (below3 _ _ _ _) (below1 _ _)⟩
  have HM : Hid (M.length = n2 ∧ Rw mvv 6 w a2 M) := ⟨hM, hr2⟩
  have l0 := (HC.out.1).cs 0 _ rfl
  have l1 := (HC.out.1).cs 1 _ rfl
  have l2 := (HC.out.1).cs 2 _ rfl
  have l3 := (HC.out.1).cs 3 _ rfl
  have s0 := (HC.out.2.1).cs 0 _ rfl
  have s1 := (HC.out.2.1).cs 1 _ rfl
  clear hn hs hin hr hr2 hM
  go_enter Try.func51, Try.ntmps51
  go_wp2_with fail
  try rw [hW]
  go_wp2_with fail
  refine Calls.mono (HF.out _ HC.out.2.2.2.2) ?_; rintro e w1 ⟨rfl, k1⟩
  obtain ⟨W1, hW1⟩ : ∃ W1, w1.alloc (.cells #[.string xs, .string xl, .int .i64 z, .int .i64 xh] 50) = W1 := ⟨_, rfl⟩
  have HC1 : Hid (CellsF W1 w.heap.size [.slice a0 n0 c0, .slice a1 n1 c1, .slice a2 n2 c2, .int .i64 ops] ∧ CellsF W1 (w.heap.size + 1) [.string s, .string t, .int .i64 0, .int .i64 0] ∧ CellsF W1 (w.heap.size + 1 + 1) [.int .i64 0, .string ⟨#[]⟩, .string ⟨#[]⟩, .int .i64 0, .int .i64 kind, .int .i64 hold] ∧ CellsF W1 (w.heap.size + 1 + 1 + 1) [.slice none 0 0, .slice none 0 0, .slice none 0 0, .int .i64 0] ∧ Below w.heap.size w W1 ∧ CellsF W1 w1.heap.size [.string xs, .string xl, .int .i64 z, .int .i64 xh]) := by
    show _ ∧ _
    rw [← hW1]
    exact ⟨(HC.out.1.next k1).next (below1 _ _), (HC.out.2.1.next k1).next (below1 _ _), (HC.out.2.2.1.next k1).next (below1 _ _), (HC.out.2.2.2.1.next k1).next (below1 _ _), Below.next (Below.next HC.out.2.2.2.2 k1) (below1 _ _), CellsF.at _ 50 (by simp) rfl⟩
  clear k1 hW l0 l1 l2 l3 s0 s1
  have l0 := (HC1.out.1).cs 0 _ rfl
  have l1 := (HC1.out.1).cs 1 _ rfl
  have l2 := (HC1.out.1).cs 2 _ rfl
  have l3 := (HC1.out.1).cs 3 _ rfl
  have x0 := (HC1.out.2.2.2.2.2).cs 0 _ rfl
  have x1 := (HC1.out.2.2.2.2.2).cs 1 _ rfl
  have x2 := (HC1.out.2.2.2.2.2).cs 2 _ rfl
  have x3 := (HC1.out.2.2.2.2.2).cs 3 _ rfl
  go_wp2_with fail
  refine Calls.mono (HPT.out _ HC1.out.2.2.2.2.1) ?_; rintro e w2 ⟨b0, m0, d0, rfl, hlen, hrw, k2, hnb⟩
  have hc2 := HC1.out.1.next k2
  have y0 := (hc2).cs 0 _ rfl
  have y1 := (hc2).cs 1 _ rfl
  have y2 := (hc2).cs 2 _ rfl
  have y3 := (hc2).cs 3 _ rfl
  have f0 := hc2.fz 0
  have f1 := hc2.fz 1
  have f2 := hc2.fz 2
  have f3 := hc2.fz 3
  obtain ⟨X, hX⟩ : ∃ X, ((((w2.setCell ⟨w.heap.size, 0, none⟩ (.slice b0 m0 d0)).setCell ⟨w.heap.size, 1, none⟩ (.slice a1 n1 c1)).setCell ⟨w.heap.size, 2, none⟩ (.slice a2 n2 c2)).setCell ⟨w.heap.size, 3, none⟩ (.int .i64 ops)) = X := ⟨_, rfl⟩
  have hlt : w.heap.size + 1 + 1 + 1 < W1.heap.size := HC1.out.2.2.2.1.lt
  have HX : Hid (CellsF X w.heap.size [.slice b0 m0 d0, .slice a1 n1 c1, .slice a2 n2 c2, .int .i64 ops] ∧ CellsF X (w.heap.size + 1) [.string s, .string t, .int .i64 0, .int .i64 0] ∧ CellsF X (w.heap.size + 1 + 1) [.int .i64 0, .string ⟨#[]⟩, .string ⟨#[]⟩, .int .i64 0, .int .i64 kind, .int .i64 hold] ∧ CellsF X (w.heap.size + 1 + 1 + 1) [.slice none 0 0, .slice none 0 0, .slice none 0 0, .int .i64 0] ∧ Below w.heap.size w X ∧ Rw stv 4 X b0 L' ∧ w.heap.size + 1 + 1 + 1 < X.heap.size) := by
    show _ ∧ _
    rw [← hX]
    exact ⟨hc2.four rfl _ _ _ _, (HC1.out.2.1.next k2).far (four_far _ _ _ _ _ _ (by omega)), (HC1.out.2.2.1.next k2).far (four_far _ _ _ _ _ _ (by omega)), (HC1.out.2.2.2.1.next k2).far (four_far _ _ _ _ _ _ (by omega)), below_four (Below.next HC1.out.2.2.2.2.1 k2) _ (Nat.le_refl _) _ _ _ _, hrw.far (fun b' o' e hne => four_far _ _ _ _ _ _ (by have h7 := hnb b' o' e; omega)), by rw [size_four]; exact Nat.lt_of_lt_of_le hlt k2.size⟩
  have HNB : Hid (L'.length = m0 ∧ ∀ b' o', b0 = some ⟨b', o', none⟩ → w.heap.size + 1 + 1 + 1 < b') := ⟨hlen, fun b' o' e => Nat.lt_of_lt_of_le hlt (hnb b' o' e)⟩
  obtain ⟨o', c', w3, RA, RI, RB⟩ := copyM (c := c2) HM.out.1 hm2 (HM.out.2.next mvv_ne HX.out.2.2.2.2.1)
  have HRA : Hid _ := RA
  obtain ⟨g, dd, w4, SA, SI, SB⟩ := RI.more HM.out.1.symm RB.size ⟨(n2 : Int) + 1, s, t, d, kind, hold⟩ (by rw [HM.out.1]; omega)
  have HSA : Hid _ := SA
  dsimp only at HSA
  have hb4 : Below X.heap.size X w4 := RB.trans SB
  have h3 := HX.out.1.next RB
  have h3a := HX.out.2.1.next RB
  have h3m := HX.out.2.2.1.next RB
  have HR : Hid (CellsF w4 w.heap.size [.slice b0 m0 d0, .slice a1 n1 c1, .slice a2 n2 c2, .int .i64 ops] ∧ CellsF w4 (w.heap.size + 1 + 1 + 1) [.slice none 0 0, .slice none 0 0, .slice none 0 0, .int .i64 0] ∧ Rw stv 4 w4 b0 L' ∧ MovsAt X.heap.size w4 (.slice (some ⟨g, 0, none⟩) (n2 + 1) dd) (M ++ [⟨(n2 : Int) + 1, s, t, d, kind, hold⟩]) ∧ Below w.heap.size w w4) := ⟨HX.out.1.next hb4, HX.out.2.2.2.1.next hb4, HX.out.2.2.2.2.2.1.next stv_ne hb4, SI, Below.next HX.out.2.2.2.2.1 hb4⟩
  have p0 := (h3).cs 0 _ rfl
  have p1 := (h3).cs 1 _ rfl
  have p2 := (h3).cs 2 _ rfl
  have p3 := (h3).cs 3 _ rfl
  have q0 := (h3a).cs 0 _ rfl
  have q1 := (h3a).cs 1 _ rfl
  have r0 := (h3m).cs 0 _ rfl
  have r1 := (h3m).cs 1 _ rfl
  have r2 := (h3m).cs 2 _ rfl
  have r3 := (h3m).cs 3 _ rfl
  have r4 := (h3m).cs 4 _ rfl
  have r5 := (h3m).cs 5 _ rfl
  have HGE : Hid (w.heap.size ≤ g) := Nat.le_trans HX.out.2.2.2.2.1.size (HR.out.2.2.2.1.new g rfl).1
  have HFIN : Hid (∀ u0 u1 u2 u3, Rw stv 4 (((((w4.setCell ⟨w.heap.size, 2, none⟩ (.slice (some ⟨g, 0, none⟩) (n2 + 1) dd)).setCell ⟨(w.heap.size + 1 + 1 + 1), 0, none⟩ u0).setCell ⟨(w.heap.size + 1 + 1 + 1), 1, none⟩ u1).setCell ⟨(w.heap.size + 1 + 1 + 1), 2, none⟩ u2).setCell ⟨(w.heap.size + 1 + 1 + 1), 3, none⟩ u3) b0 L' ∧ Rw mvv 6 (((((w4.setCell ⟨w.heap.size, 2, none⟩ (.slice (some ⟨g, 0, none⟩) (n2 + 1) dd)).setCell ⟨(w.heap.size + 1 + 1 + 1), 0, none⟩ u0).setCell ⟨(w.heap.size + 1 + 1 + 1), 1, none⟩ u1).setCell ⟨(w.heap.size + 1 + 1 + 1), 2, none⟩ u2).setCell ⟨(w.heap.size + 1 + 1 + 1), 3, none⟩ u3) (some ⟨g, 0, none⟩) (M ++ [⟨(n2 : Int) + 1, s, t, d, kind, hold⟩]) ∧ Below w.heap.size w (((((w4.setCell ⟨w.heap.size, 2, none⟩ (.slice (some ⟨g, 0, none⟩) (n2 + 1) dd)).setCell ⟨(w.heap.size + 1 + 1 + 1), 0, none⟩ u0).setCell ⟨(w.heap.size + 1 + 1 + 1), 1, none⟩ u1).setCell ⟨(w.heap.size + 1 + 1 + 1), 2, none⟩ u2).setCell ⟨(w.heap.size + 1 + 1 + 1), 3, none⟩ u3)) := fun u0 u1 u2 u3 => by
    obtain ⟨q0, q1, e1, q2⟩ := own_rowM HR.out.2.2.2.1.own
    injection e1 with e1 e2 e3
    subst e1
    have hg := (HR.out.2.2.2.1.new g rfl).1
    have hlX := HX.out.2.2.2.2.2.2
    refine ⟨HR.out.2.2.1.far (fun b' o' e hne => ?_), q2.far (fun b' o' e hne => ?_), below_four (below_set HR.out.2.2.2.2 _ _ _ (Nat.le_refl _)) _ (by omega) _ _ _ _⟩
    · have h7 := HNB.out.2 b' o' e
      rw [four_far _ _ _ _ _ _ (by omega), Below.heap_setCell _ _ _ _ (by show b' ≠ w.heap.size; omega)]
    · cases e
      rw [four_far _ _ _ _ _ _ (by omega), Below.heap_setCell _ _ _ _ (by show g ≠ w.heap.size; omega)]
  have h4 := HR.out.1
  have hcz := h4.set 2 (.slice (some ⟨g, 0, none⟩) (n2 + 1) dd) (by simp)
  obtain ⟨Y, hY⟩ : ∃ Y, w4.setCell ⟨w.heap.size, 2, none⟩ (.slice (some ⟨g, 0, none⟩) (n2 + 1) dd) = Y := ⟨_, rfl⟩
  have hcy : CellsF (w4.setCell ⟨w.heap.size, 2, none⟩ (.slice (some ⟨g, 0, none⟩) (n2 + 1) dd)) (w.heap.size + 1 + 1 + 1) [.slice none 0 0, .slice none 0 0, .slice none 0 0, .int .i64 0] := HR.out.2.1.far (Below.heap_setCell _ _ _ _ (by show w.heap.size + 1 + 1 + 1 ≠ w.heap.size; omega))
  rw [hY] at hcy hcz HFIN
  have HCY : Hid (CellsF Y (w.heap.size + 1 + 1 + 1) [.slice none 0 0, .slice none 0 0, .slice none 0 0, .int .i64 0]) := hcy
  have j0 := (hcz).cs 0 _ rfl
  have j1 := (hcz).cs 1 _ rfl
  have j2 := (hcz).cs 2 _ rfl
  have j3 := (hcz).cs 3 _ rfl
  have kc0 := (hcy).cs 0 _ rfl
  have kc1 := (hcy).cs 1 _ rfl
  have kc2 := (hcy).cs 2 _ rfl
  have kc3 := (hcy).cs 3 _ rfl
  have i0 := hcy.fz 0
  have i1 := hcy.fz 1
  have i2 := hcy.fz 2
  have i3 := hcy.fz 3
  have HLL : Hid ((M ++ [Mov.mk ((n2 : Int) + 1) s t d kind hold]).length = n2 + 1) := by show _ = _; rw [List.length_append, HM.out.1]; rfl
  have v0 := (h4).cs 0 _ rfl
  have v1 := (h4).cs 1 _ rfl
  have v2 := (h4).cs 2 _ rfl
  have v3 := (h4).cs 3 _ rfl
  have e2 := h4.fz 2
  have u0 := (HX.out.1).cs 0 _ rfl
  have u1 := (HX.out.1).cs 1 _ rfl
  have u2 := (HX.out.1).cs 2 _ rfl
  have u3 := (HX.out.1).cs 3 _ rfl
  clear hcz hcy RA RI RB SA SI SB hb4 h3 h3a h3m h4 hc2 hlen hrw k2 hnb l0 l1 l2 l3 x0 x1 x2 x3 hW1
  go_wp2_with (first | ((with_reducible apply st_append (x := .tmp 25)); (case ho => rfl); (case hgd => rfl); (case hr => exact HRA.out)) | ((with_reducible apply st_append (x := .tmp 29)); (case ho => rfl); (case hgd => rfl); (case hr => exact HSA.out)))
  try simp only [Exit.inBlock, Exit.then]
  refine bodyPost_ret (end_cell rfl rfl (loadLed _ (HCY.out.four rfl _ _ _ _) rfl)) rfl ?_
  exact ⟨_, _, _, _, _, _, rfl, HNB.out.1, HLL.out, (HFIN.out _ _ _ _).1, (HFIN.out _ _ _ _).2.1, (HFIN.out _ _ _ _).2.2, fun b' o' e => by have := HNB.out.2 b' o' e; omega, fun b' o' e => by cases e; exact HGE.out, fun e => by cases e⟩
end Go.Proofs.Ytflbcheofmljeaa

namespace Go.Proofs.Ytflbcheofmljeaa
open Go.ChangeShapes Go.WideShapes Go.RowKit
set_option linter.unusedVariables false
set_option maxRecDepth 100000

/-- Holds, of which one is in another state. -/
def setS (H : List Hld) (k : Nat) (st : Int) : List Hld := match H[k]? with
  | some x => H.set k { x with st := st }
  | none => H
theorem setS_at {H : List Hld} {k : Nat} (hk : k < H.length) (st : Int) : setS H k st = H.take k ++ [⟨H[k].id, H[k].sku, H[k].loc, H[k].qty, st, H[k].due⟩] ++ H.drop (k + 1) := by
  unfold setS
  rw [List.getElem?_eq_getElem hk]
  show H.set k _ = _
  rw [List.set_eq_take_append_cons_drop, if_pos hk]
  simp
structure HldsAt (N : Nat) (w : World) (v : Value) (l : List Hld) : Prop where
  own : w.ownsRow 0 44 6 v l.length (l.flatMap hlv)
  new : ∀ g, v.ownBlock = some g → N ≤ g ∧ g < w.heap.size
theorem HldsAt.void (N : Nat) (w : World) : HldsAt N w (.slice none 0 0) [] := ⟨World.ownsRow_nil _ _ _ _, fun g h => by cases h⟩
theorem HldsAt.next {N : Nat} {w w' : World} {v : Value} {l : List Hld} (h : HldsAt N w v l) (b : Below w.heap.size w w') : HldsAt N w' v l :=
  ⟨ownsRow_kept h.own (fun k hk => b.block k (h.new k hk).2), fun g hg => ⟨(h.new g hg).1, Nat.lt_of_lt_of_le (h.new g hg).2 b.size⟩⟩
theorem HldsAt.more {N : Nat} {w : World} {o : Option Addr} {m c : Nat} {l : List Hld} (h : HldsAt N w (.slice o m c) l) (hm : m = l.length) (hN : N ≤ w.heap.size) (x : Hld) (hs : l.length ≤ 100000) :
    ∃ g d w1, (Builtin.append_ #[23, 23] 23 #[.slice o m c, .slice (some ⟨w.heap.size, 0, none⟩) 1 1]).run Try.prog (w.alloc (.cells #[.int .i64 x.id, .string x.sku, .string x.loc, .int .i64 x.qty, .int .i64 x.st, .int .i64 x.due] 44)) = .ok (.slice (some ⟨g, 0, none⟩) (m + 1) d) w1 ∧ HldsAt N w1 (.slice (some ⟨g, 0, none⟩) (m + 1) d) (l ++ [x]) ∧ Below N w w1 := by
  subst hm
  obtain ⟨g, cap, w1, a1, a2, a3, a4⟩ := append_H h.own x hs
  have hlen : (l ++ [x]).length = l.length + 1 := by simp
  refine ⟨g, cap, w1, a1, ⟨by rw [hlen]; exact a2, fun g' hg' => ?_⟩, ?_⟩
  · cases hg'
    refine ⟨?_, (World.ownsRow.lt a2 g rfl).2⟩
    rcases a4 with e | e
    · exact (h.new g e).1
    · exact Nat.le_trans hN e
  · have hst : Stay (fun k => k < N) w w1 := (Stay.refl _ w).grown a3 (fun i hi => Nat.lt_of_lt_of_le hi hN) (fun b hb hlt => absurd hlt (Nat.not_lt_of_le (h.new b hb).1))
    exact hst.to_below
theorem appH {N : Nat} {w : World} {o : Option Addr} {m c : Nat} {l : List Hld} (h : HldsAt N w (.slice o m c) l) (hm : m = l.length) (hN : N ≤ w.heap.size) {b p r cc : Nat} {l2 : List Hld} (hn : l2.length = r) (hr : Rw hlv 6 w (some ⟨b, p, none⟩) l2) (hs : l.length + r ≤ 100000) :
    ∃ o' d w1, (Builtin.append_ #[23, 23] 23 #[.slice o m c, .slice (some ⟨b, p, none⟩) r cc]).run Try.prog w = .ok (.slice o' (m + r) d) w1 ∧ HldsAt N w1 (.slice o' (m + r) d) (l ++ l2) ∧ Below N w w1 := by
  subst hm
  obtain ⟨i, hi, hzz, h1, h2⟩ := info_of info44
  have hnews : ∀ j u, (l2.flatMap hlv)[j]? = some u → w.cell? ((Addr.mk b p none).add j) = some u := fun j u hu => by
    have hne : l2 ≠ [] := fun e => by rw [e] at hu; simp at hu
    obtain ⟨b', o', e, hc⟩ := hr hne
    cases e
    rw [Go.WideShapes.add_plain]
    exact rw_cells (f := hlv) (k := 6) (fun x => rfl) hc j u hu
  obtain ⟨v', w', r1, r2, r3, r4, r5⟩ := run_append_own_at (P := Try.prog) w 0 23 23 44 i _ 6 64 Try.underlying23 hi hzz h1 h2 (by simp [Value.cells]) (by omega) (.slice o l.length c) l.length (l.flatMap hlv) h.own ⟨b, p, none⟩ r cc (l2.flatMap hlv) (by rw [hlv_flat_len', hn]) hnews (hlv_one l2) (by unfold maxLen; omega) (by omega) (Nat.zero_le _)
  rw [← List.flatMap_append] at r2
  obtain ⟨o', c', rfl⟩ := own_form r2
  have hlen : (l ++ l2).length = l.length + r := by rw [List.length_append, hn]
  refine ⟨o', c', w', r1, ⟨by rw [hlen]; exact r2, fun g hg => ⟨?_, (World.ownsRow.lt r2 g hg).2⟩⟩, ?_⟩
  · rcases r5 with e | e
    · rw [e] at hg; exact (h.new g hg).1
    · rw [e] at hg; cases hg; exact hN
  · have hst : Stay (fun k => k < N) w w' := (Stay.refl _ w).grown r3 (fun i hi => Nat.lt_of_lt_of_le hi hN) (fun b hb hlt => absurd hlt (Nat.not_lt_of_le (h.new b hb).1))
    exact hst.to_below
theorem own_cap {w : World} {e k m n c : Nat} {o : Option Addr} {xs : List Value} (h : w.ownsRow 0 e k (.slice o m c) n xs) : m ≤ c := by
  rcases h.2 with ⟨q, rfl⟩ | ⟨g, cap, cur, q, _, hg, hcap, _⟩
  · injection q with q1 q2 q3; omega
  · injection q with q1 q2 q3; omega
theorem own_some {w : World} {e k m n c : Nat} {o : Option Addr} {xs : List Value} (h : w.ownsRow 0 e k (.slice o m c) n xs) (hn : ¬ n = 0) : ¬ o = none := by
  rcases h.2 with ⟨q, h0⟩ | ⟨g, cap, cur, q, _⟩
  · exact absurd h0 hn
  · injection q with q1 q2 q3
    rw [q1]
    exact fun e => by cases e
theorem rwH_take {w : World} {a : Option Addr} {H : List Hld} (h : Rw hlv 6 w a H) (k : Nat) : Rw hlv 6 w a (H.take k) := fun hne => by
  obtain ⟨b, o, e, hc⟩ := h (fun e => hne (by rw [e]; simp))
  refine ⟨b, o, e, fun i x hx j u hu => hc i x ?_ j u hu⟩
  rw [List.getElem?_take] at hx
  split at hx
  · exact hx
  · cases hx
theorem rwH_drop {w : World} {b p : Nat} {H : List Hld} (h : Rw hlv 6 w (some ⟨b, p, none⟩) H) (k : Nat) : Rw hlv 6 w (some ⟨b, p + k * 6, none⟩) (H.drop k) := fun hne => by
  obtain ⟨b', o, e, hc⟩ := h (fun e => hne (by rw [e]; simp))
  cases e
  refine ⟨b, p + k * 6, rfl, fun i x hx j u hu => ?_⟩
  rw [List.getElem?_drop] at hx
  have := hc (k + i) x hx j u hu
  rw [show p + (k + i) * 6 + j = p + k * 6 + i * 6 + j by rw [Nat.add_mul]; omega] at this
  exact this
/-- An answer that is a ledger with other holds. -/
def StaP (w w' : World) (H : List Hld) (a0 : Option Addr) (n0 c0 : Nat) (a2 : Option Addr) (n2 c2 : Nat) (ops : Int) (e : Ending) : Prop := ∃ b1 m1 d1, e = .returned (.agg #[.slice a0 n0 c0, .slice b1 m1 d1, .slice a2 n2 c2, .int .i64 ops]) ∧ H.length = m1 ∧ Rw hlv 6 w' b1 H ∧ Below w.heap.size w w' ∧ (∀ b' o', b1 = some ⟨b', o', none⟩ → w.heap.size ≤ b') ∧ m1 ≤ d1 ∧ ¬ b1 = none
set_option maxHeartbeats 8000000 in
theorem rstate_mid (a0 : Option Addr) (n0 c0 : Nat) (b p n1 c1 : Nat) (a2 : Option Addr) (n2 c2 : Nat) (ops : Int) (H : List Hld) (hn : H.length = n1) (hm : n1 ≤ 90000) (hcap : n1 ≤ c1) (k : Nat) (hk : k < n1) (hcc : ¬ c1 = k + 1) (st : Int) (w : World) (hr : Rw hlv 6 w (some ⟨b, p, none⟩) H) :
    Calls Try.prog 78 #[.agg #[.slice a0 n0 c0, .slice (some ⟨b, p, none⟩) n1 c1, .slice a2 n2 c2, .int .i64 ops], .int .i64 k, .int .i64 st] w fun e w' => StaP w w' (setS H k st) a0 n0 c0 a2 n2 c2 ops e := by
  have hkl : k < H.length := by omega
  obtain ⟨x, hx⟩ : ∃ x, H[k] = x := ⟨_, rfl⟩
  have HE : Hid (setS H k st = H.take k ++ [⟨x.id, x.sku, x.loc, x.qty, st, x.due⟩] ++ H.drop (k + 1)) := by rw [← hx]; exact setS_at hkl st
  obtain ⟨H', hH'⟩ : ∃ H', setS H k st = H' := ⟨_, rfl⟩
  rw [hH'] at HE ⊢
  have HL : Hid (H'.length = n1) := by show _ = _; rw [HE.out, List.length_append, List.length_append, List.length_take, List.length_drop, List.length_singleton]; omega
  have HAT : Hid (b < w.heap.size ∧ HldAt w b (p + k * 6) x) := by
    obtain ⟨b', o', e, h1, h2⟩ := hr.hld (fun e => by rw [e] at hkl; simp at hkl)
    cases e
    have := h2 k hkl
    rw [hx] at this
    exact ⟨h1, this⟩
  have HRT : Hid (Rw hlv 6 w (some ⟨b, p, none⟩) (H.take k) ∧ Rw hlv 6 w (some ⟨b, p + (k + 1) * 6, none⟩) (H.drop (k + 1))) := ⟨rwH_take hr k, rwH_drop hr (k + 1)⟩
  have HLT : Hid ((H.take k).length = k ∧ (H.drop (k + 1)).length = n1 - (k + 1)) := ⟨by rw [List.length_take]; omega, by rw [List.length_drop]; omega⟩
  obtain ⟨xi, xs, xl, xq, xt, xd⟩ := x
  dsimp only at HE
  obtain ⟨W, hW⟩ : ∃ W, (w.alloc (.cells #[.slice a0 n0 c0, .slice (some ⟨b, p, none⟩) n1 c1, .slice a2 n2 c2, .int .i64 ops] 26)).alloc (.cells #[.slice none 0 0, .slice none 0 0, .slice none 0 0, .int .i64 0] 26) = W := ⟨_, rfl⟩
  have HC : Hid (CellsF W w.heap.size [.slice a0 n0 c0, .slice (some ⟨b, p, none⟩) n1 c1, .slice a2 n2 c2, .int .i64 ops] ∧ CellsF W (w.heap.size + 1) [.slice none 0 0, .slice none 0 0, .slice none 0 0, .int .i64 0] ∧ Below w.heap.size w W) := by
    show _ ∧ _
    rw [← hW]
    exact ⟨(CellsF.at _ 26 (by simp) rfl).next (below1 _ _), CellsF.at _ 26 (by simp) (by rw [size_alloc]), below2 _ _ _⟩
  obtain ⟨o1, d1, w1, A1, B1, C1⟩ := appH (HldsAt.void W.heap.size W) rfl (Nat.le_refl _) HLT.out.1 (HRT.out.1.next hlv_ne HC.out.2.2) (cc := c1) (by show 0 + k ≤ 100000; omega)
  rw [Nat.zero_add, List.nil_append] at B1
  rw [Nat.zero_add] at A1
  have HA1 : Hid _ := A1
  have hc1 := HC.out.1.next C1
  obtain ⟨W1, hW1⟩ : ∃ W1, w1.alloc (.cells #[.int .i64 xi, .string xs, .string xl, .int .i64 xq, .int .i64 st, .int .i64 xd] 44) = W1 := ⟨_, rfl⟩
  have hk1 : Below W.heap.size W W1 := by rw [← hW1]; exact Below.next C1 (below1 _ _)
  have hk1' : Below w1.heap.size w1 W1 := by rw [← hW1]; exact below1 _ _
  have hbx : CellsF W1 w1.heap.size [.int .i64 xi, .string xs, .string xl, .int .i64 xq, .int .i64 st, .int .i64 xd] := by rw [← hW1]; exact CellsF.at _ 44 (by simp) rfl
  obtain ⟨g2, d2, w2, A2, B2, C2⟩ := (B1.next hk1').more HLT.out.1.symm (Nat.le_trans C1.size hk1'.size) ⟨xi, xs, xl, xq, st, xd⟩ (by rw [HLT.out.1]; omega)
  have HA2 : Hid _ := A2
  dsimp only at HA2
  have hk2 : Below W.heap.size W w2 := hk1.trans C2
  obtain ⟨o3, d3, w3, A3, B3, C3⟩ := appH B2 (by rw [List.length_append, HLT.out.1]; rfl) (Nat.le_trans hk1.size C2.size) HLT.out.2 (HRT.out.2.next hlv_ne (Below.next HC.out.2.2 hk2)) (cc := c1 - (k + 1)) (by rw [List.length_append, HLT.out.1, List.length_singleton]; omega)
  have hkn : k + 1 + (n1 - (k + 1)) = n1 := by omega
  rw [hkn] at A3 B3
  have HA3 : Hid _ := A3
  have hk3 : Below W.heap.size W w3 := hk2.trans C3
  rw [← HE.out] at B3
  have HB3 : Hid (HldsAt W.heap.size w3 (.slice o3 n1 d3) H') := B3
  have HHX : Hid (HldAt w1 b (p + k * 6) ⟨xi, xs, xl, xq, xt, xd⟩) := HAT.out.2.next ((Below.next HC.out.2.2 C1).block b HAT.out.1)
  obtain ⟨x0, x1, x2, x3, x4, x5⟩ := HHX.out
  dsimp only at x0 x1 x2 x3 x4 x5
  have hc2 := HC.out.1.next hk2
  have hc3 := HC.out.1.next hk3
  have hcz := hc3.set 1 (.slice o3 n1 d3) (by simp)
  have hltW : (w.heap.size + 1) < W.heap.size := HC.out.2.1.lt
  obtain ⟨Y, hY⟩ : ∃ Y, w3.setCell ⟨w.heap.size, 1, none⟩ (.slice o3 n1 d3) = Y := ⟨_, rfl⟩
  have hcy : CellsF (w3.setCell ⟨w.heap.size, 1, none⟩ (.slice o3 n1 d3)) (w.heap.size + 1) [.slice none 0 0, .slice none 0 0, .slice none 0 0, .int .i64 0] := (HC.out.2.1.next hk3).far (Below.heap_setCell _ _ _ _ (by show w.heap.size + 1 ≠ w.heap.size; omega))
  have HFIN : Hid (∀ u0 u1 u2 u3, Rw hlv 6 ((((Y.setCell ⟨(w.heap.size + 1), 0, none⟩ u0).setCell ⟨(w.heap.size + 1), 1, none⟩ u1).setCell ⟨(w.heap.size + 1), 2, none⟩ u2).setCell ⟨(w.heap.size + 1), 3, none⟩ u3) o3 H' ∧ Below w.heap.size w ((((Y.setCell ⟨(w.heap.size + 1), 0, none⟩ u0).setCell ⟨(w.heap.size + 1), 1, none⟩ u1).setCell ⟨(w.heap.size + 1), 2, none⟩ u2).setCell ⟨(w.heap.size + 1), 3, none⟩ u3)) := fun u0 u1 u2 u3 => by
    obtain ⟨q0, q1, e1, q2⟩ := own_rowH HB3.out.own
    injection e1 with e1 e2 e3
    subst e1
    rw [← hY]
    refine ⟨q2.far (fun b' o' e hne => ?_), below_four (below_set (Below.next HC.out.2.2 hk3) _ _ _ (Nat.le_refl _)) _ (by omega) _ _ _ _⟩
    have hg := (HB3.out.new b' (by rw [e]; rfl)).1
    rw [four_far _ _ _ _ _ _ (by omega), Below.heap_setCell _ _ _ _ (by show b' ≠ w.heap.size; omega)]
  have HNB : Hid ((∀ b' o', o3 = some (Addr.mk b' o' none) → w.heap.size ≤ b') ∧ n1 ≤ d3 ∧ ¬ o3 = none) := ⟨fun b' o' e => Nat.le_trans HC.out.2.2.size (HB3.out.new b' (by rw [e]; rfl)).1, own_cap HB3.out.own, fun e => by
    have h8 := own_some HB3.out.own (by rw [HL.out]; omega)
    exact h8 e⟩
  rw [hY] at hcy hcz
  have HCY : Hid (CellsF Y (w.heap.size + 1) [.slice none 0 0, .slice none 0 0, .slice none 0 0, .int .i64 0]) := hcy
  have l0 := (HC.out.1).cs 0 _ rfl
  have l1 := (HC.out.1).cs 1 _ rfl
  have l2 := (HC.out.1).cs 2 _ rfl
  have l3 := (HC.out.1).cs 3 _ rfl
  have p0 := (hc1).cs 0 _ rfl
  have p1 := (hc1).cs 1 _ rfl
  have p2 := (hc1).cs 2 _ rfl
  have p3 := (hc1).cs 3 _ rfl
  have q0 := (hc2).cs 0 _ rfl
  have q1 := (hc2).cs 1 _ rfl
  have q2 := (hc2).cs 2 _ rfl
  have q3 := (hc2).cs 3 _ rfl
  have r0 := (hc3).cs 0 _ rfl
  have r1 := (hc3).cs 1 _ rfl
  have r2 := (hc3).cs 2 _ rfl
  have r3 := (hc3).cs 3 _ rfl
  have bx0 := (hbx).cs 0 _ rfl
  have bx1 := (hbx).cs 1 _ rfl
  have bx2 := (hbx).cs 2 _ rfl
  have bx3 := (hbx).cs 3 _ rfl
  have bx4 := (hbx).cs 4 _ rfl
  have bx5 := (hbx).cs 5 _ rfl
  have j0 := (hcz).cs 0 _ rfl
  have j1 := (hcz).cs 1 _ rfl
  have j2 := (hcz).cs 2 _ rfl
  have j3 := (hcz).cs 3 _ rfl
  have kc0 := (hcy).cs 0 _ rfl
  have kc1 := (hcy).cs 1 _ rfl
  have kc2 := (hcy).cs 2 _ rfl
  have kc3 := (hcy).cs 3 _ rfl
  have f1 := hc3.fz 1
  have i0 := hcy.fz 0
  have i1 := hcy.fz 1
  have i2 := hcy.fz 2
  have i3 := hcy.fz 3
  have hb1 : (k : Int) < (n1 : Int) := by omega
  have hb2 : (k : Int) ≤ (c1 : Int) := by omega
  have hb3 : (k : Int) + 1 ≤ (n1 : Int) := by omega
  have hb4 : (n1 : Int) ≤ (c1 : Int) := by omega
  have hb5 : k + 1 ≤ n1 := by omega
  clear hkn hn hr hx hkl A1 A2 A3 B1 B2 B3 C1 C2 C3 hcz hcy hc1 hc2 hc3 hbx hk1 hk1' hk2 hk3 hH' hltW
  go_enter Try.func78, Try.ntmps78
  go_wp2_with (first | ((with_reducible apply st_append (x := .tmp 9)); (case ho => rfl); (case hgd => rfl); (case hr => exact HA1.out)) | ((with_reducible apply st_append (x := .tmp 22)); (case ho => rfl); (case hgd => rfl); (case hr => exact HA2.out)) | ((with_reducible apply st_append (x := .tmp 26)); (case ho => rfl); (case hgd => rfl); (case hr => exact HA3.out)))
  try simp only [Exit.inBlock, Exit.then]
  refine bodyPost_ret (end_cell rfl rfl (loadLed _ (HCY.out.four rfl _ _ _ _) rfl)) rfl ?_
  exact ⟨_, _, _, rfl, HL.out, (HFIN.out _ _ _ _).1, (HFIN.out _ _ _ _).2, HNB.out.1, HNB.out.2.1, HNB.out.2.2⟩
set_option maxHeartbeats 8000000 in
theorem rstate_end (a0 : Option Addr) (n0 c0 : Nat) (b p : Nat) (a2 : Option Addr) (n2 c2 : Nat) (ops : Int) (H : List Hld) (k : Nat) (hn : H.length = (k + 1)) (hm : (k + 1) ≤ 90000) (st : Int) (w : World) (hr : Rw hlv 6 w (some ⟨b, p, none⟩) H) :
    Calls Try.prog 78 #[.agg #[.slice a0 n0 c0, .slice (some ⟨b, p, none⟩) (k + 1) (k + 1), .slice a2 n2 c2, .int .i64 ops], .int .i64 k, .int .i64 st] w fun e w' => StaP w w' (setS H k st) a0 n0 c0 a2 n2 c2 ops e := by
  have hkl : k < H.length := by omega
  obtain ⟨x, hx⟩ : ∃ x, H[k] = x := ⟨_, rfl⟩
  have HE : Hid (setS H k st = H.take k ++ [⟨x.id, x.sku, x.loc, x.qty, st, x.due⟩] ++ H.drop (k + 1)) := by rw [← hx]; exact setS_at hkl st
  obtain ⟨H', hH'⟩ : ∃ H', setS H k st = H' := ⟨_, rfl⟩
  rw [hH'] at HE ⊢
  have HL : Hid (H'.length = (k + 1)) := by show _ = _; rw [HE.out, List.length_append, List.length_append, List.length_take, List.length_drop, List.length_singleton]; omega
  have HAT : Hid (b < w.heap.size ∧ HldAt w b (p + k * 6) x) := by
    obtain ⟨b', o', e, h1, h2⟩ := hr.hld (fun e => by rw [e] at hkl; simp at hkl)
    cases e
    have := h2 k hkl
    rw [hx] at this
    exact ⟨h1, this⟩
  have HRT : Hid (Rw hlv 6 w (some ⟨b, p, none⟩) (H.take k) ∧ Rw hlv 6 w (some ⟨b, p, none⟩) (H.drop (k + 1))) := ⟨rwH_take hr k, by rw [List.drop_of_length_le (by omega)]; exact Rw.nil _ _ _ _⟩
  have HLT : Hid ((H.take k).length = k ∧ (H.drop (k + 1)).length = 0) := ⟨by rw [List.length_take]; omega, by rw [List.length_drop]; omega⟩
  obtain ⟨xi, xs, xl, xq, xt, xd⟩ := x
  dsimp only at HE
  obtain ⟨W, hW⟩ : ∃ W, (w.alloc (.cells #[.slice a0 n0 c0, .slice (some ⟨b, p, none⟩) (k + 1) (k + 1), .slice a2 n2 c2, .int .i64 ops] 26)).alloc (.cells #[.slice none 0 0, .slice none 0 0, .slice none 0 0, .int .i64 0] 26) = W := ⟨_, rfl⟩
  have HC : Hid (CellsF W w.heap.size [.slice a0 n0 c0, .slice (some ⟨b, p, none⟩) (k + 1) (k + 1), .slice a2 n2 c2, .int .i64 ops] ∧ CellsF W (w.heap.size + 1) [.slice none 0 0, .slice none 0 0, .slice none 0 0, .int .i64 0] ∧ Below w.heap.size w W) := by
    show _ ∧ _
    rw [← hW]
    exact ⟨(CellsF.at _ 26 (by simp) rfl).next (below1 _ _), CellsF.at _ 26 (by simp) (by rw [size_alloc]), below2 _ _ _⟩
  obtain ⟨o1, d1, w1, A1, B1, C1⟩ := appH (HldsAt.void W.heap.size W) rfl (Nat.le_refl _) HLT.out.1 (HRT.out.1.next hlv_ne HC.out.2.2) (cc := k + 1) (by show 0 + k ≤ 100000; omega)
  rw [Nat.zero_add, List.nil_append] at B1
  rw [Nat.zero_add] at A1
  have HA1 : Hid _ := A1
  have hc1 := HC.out.1.next C1
  obtain ⟨W1, hW1⟩ : ∃ W1, w1.alloc (.cells #[.int .i64 xi, .string xs, .string xl, .int .i64 xq, .int .i64 st, .int .i64 xd] 44) = W1 := ⟨_, rfl⟩
  have hk1 : Below W.heap.size W W1 := by rw [← hW1]; exact Below.next C1 (below1 _ _)
  have hk1' : Below w1.heap.size w1 W1 := by rw [← hW1]; exact below1 _ _
  have hbx : CellsF W1 w1.heap.size [.int .i64 xi, .string xs, .string xl, .int .i64 xq, .int .i64 st, .int .i64 xd] := by rw [← hW1]; exact CellsF.at _ 44 (by simp) rfl
  obtain ⟨g2, d2, w2, A2, B2, C2⟩ := (B1.next hk1').more HLT.out.1.symm (Nat.le_trans C1.size hk1'.size) ⟨xi, xs, xl, xq, st, xd⟩ (by rw [HLT.out.1]; omega)
  have HA2 : Hid _ := A2
  dsimp only at HA2
  have hk2 : Below W.heap.size W w2 := hk1.trans C2
  obtain ⟨o3, d3, w3, A3, B3, C3⟩ := appH B2 (by rw [List.length_append, HLT.out.1]; rfl) (Nat.le_trans hk1.size C2.size) HLT.out.2 (HRT.out.2.next hlv_ne (Below.next HC.out.2.2 hk2)) (cc := 0) (by rw [List.length_append, HLT.out.1, List.length_singleton]; omega)
  have hkn : k + 1 + (0) = (k + 1) := by omega
  rw [hkn] at A3 B3
  have HA3 : Hid _ := A3
  have hk3 : Below W.heap.size W w3 := hk2.trans C3
  rw [← HE.out] at B3
  have HB3 : Hid (HldsAt W.heap.size w3 (.slice o3 (k + 1) d3) H') := B3
  have HHX : Hid (HldAt w1 b (p + k * 6) ⟨xi, xs, xl, xq, xt, xd⟩) := HAT.out.2.next ((Below.next HC.out.2.2 C1).block b HAT.out.1)
  obtain ⟨x0, x1, x2, x3, x4, x5⟩ := HHX.out
  dsimp only at x0 x1 x2 x3 x4 x5
  have hc2 := HC.out.1.next hk2
  have hc3 := HC.out.1.next hk3
  have hcz := hc3.set 1 (.slice o3 (k + 1) d3) (by simp)
  have hltW : (w.heap.size + 1) < W.heap.size := HC.out.2.1.lt
  obtain ⟨Y, hY⟩ : ∃ Y, w3.setCell ⟨w.heap.size, 1, none⟩ (.slice o3 (k + 1) d3) = Y := ⟨_, rfl⟩
  have hcy : CellsF (w3.setCell ⟨w.heap.size, 1, none⟩ (.slice o3 (k + 1) d3)) (w.heap.size + 1) [.slice none 0 0, .slice none 0 0, .slice none 0 0, .int .i64 0] := (HC.out.2.1.next hk3).far (Below.heap_setCell _ _ _ _ (by show w.heap.size + 1 ≠ w.heap.size; omega))
  have HFIN : Hid (∀ u0 u1 u2 u3, Rw hlv 6 ((((Y.setCell ⟨(w.heap.size + 1), 0, none⟩ u0).setCell ⟨(w.heap.size + 1), 1, none⟩ u1).setCell ⟨(w.heap.size + 1), 2, none⟩ u2).setCell ⟨(w.heap.size + 1), 3, none⟩ u3) o3 H' ∧ Below w.heap.size w ((((Y.setCell ⟨(w.heap.size + 1), 0, none⟩ u0).setCell ⟨(w.heap.size + 1), 1, none⟩ u1).setCell ⟨(w.heap.size + 1), 2, none⟩ u2).setCell ⟨(w.heap.size + 1), 3, none⟩ u3)) := fun u0 u1 u2 u3 => by
    obtain ⟨q0, q1, e1, q2⟩ := own_rowH HB3.out.own
    injection e1 with e1 e2 e3
    subst e1
    rw [← hY]
    refine ⟨q2.far (fun b' o' e hne => ?_), below_four (below_set (Below.next HC.out.2.2 hk3) _ _ _ (Nat.le_refl _)) _ (by omega) _ _ _ _⟩
    have hg := (HB3.out.new b' (by rw [e]; rfl)).1
    rw [four_far _ _ _ _ _ _ (by omega), Below.heap_setCell _ _ _ _ (by show b' ≠ w.heap.size; omega)]
  have HNB : Hid ((∀ b' o', o3 = some (Addr.mk b' o' none) → w.heap.size ≤ b') ∧ (k + 1) ≤ d3 ∧ ¬ o3 = none) := ⟨fun b' o' e => Nat.le_trans HC.out.2.2.size (HB3.out.new b' (by rw [e]; rfl)).1, own_cap HB3.out.own, fun e => by
    have h8 := own_some HB3.out.own (by rw [HL.out]; omega)
    exact h8 e⟩
  rw [hY] at hcy hcz
  have HCY : Hid (CellsF Y (w.heap.size + 1) [.slice none 0 0, .slice none 0 0, .slice none 0 0, .int .i64 0]) := hcy
  have l0 := (HC.out.1).cs 0 _ rfl
  have l1 := (HC.out.1).cs 1 _ rfl
  have l2 := (HC.out.1).cs 2 _ rfl
  have l3 := (HC.out.1).cs 3 _ rfl
  have p0 := (hc1).cs 0 _ rfl
  have p1 := (hc1).cs 1 _ rfl
  have p2 := (hc1).cs 2 _ rfl
  have p3 := (hc1).cs 3 _ rfl
  have q0 := (hc2).cs 0 _ rfl
  have q1 := (hc2).cs 1 _ rfl
  have q2 := (hc2).cs 2 _ rfl
  have q3 := (hc2).cs 3 _ rfl
  have r0 := (hc3).cs 0 _ rfl
  have r1 := (hc3).cs 1 _ rfl
  have r2 := (hc3).cs 2 _ rfl
  have r3 := (hc3).cs 3 _ rfl
  have bx0 := (hbx).cs 0 _ rfl
  have bx1 := (hbx).cs 1 _ rfl
  have bx2 := (hbx).cs 2 _ rfl
  have bx3 := (hbx).cs 3 _ rfl
  have bx4 := (hbx).cs 4 _ rfl
  have bx5 := (hbx).cs 5 _ rfl
  have j0 := (hcz).cs 0 _ rfl
  have j1 := (hcz).cs 1 _ rfl
  have j2 := (hcz).cs 2 _ rfl
  have j3 := (hcz).cs 3 _ rfl
  have kc0 := (hcy).cs 0 _ rfl
  have kc1 := (hcy).cs 1 _ rfl
  have kc2 := (hcy).cs 2 _ rfl
  have kc3 := (hcy).cs 3 _ rfl
  have f1 := hc3.fz 1
  have i0 := hcy.fz 0
  have i1 := hcy.fz 1
  have i2 := hcy.fz 2
  have i3 := hcy.fz 3
  have hb1 : (k : Int) < ((k + 1) : Int) := by omega
  have hb2 : (k : Int) ≤ ((k + 1) : Int) := by omega
  have hb3 : (k : Int) + 1 ≤ ((k + 1) : Int) := by omega
  have hb4 : ((k + 1) : Int) ≤ ((k + 1) : Int) := by omega
  have hb5 : k + 1 ≤ (k + 1) := by omega
  clear hkn hn hr hx hkl A1 A2 A3 B1 B2 B3 C1 C2 C3 hcz hcy hc1 hc2 hc3 hbx hk1 hk1' hk2 hk3 hH' hltW
  go_enter Try.func78, Try.ntmps78
  go_wp2_with (first | ((with_reducible apply st_append (x := .tmp 9)); (case ho => rfl); (case hgd => rfl); (case hr => exact HA1.out)) | ((with_reducible apply st_append (x := .tmp 22)); (case ho => rfl); (case hgd => rfl); (case hr => exact HA2.out)) | ((with_reducible apply st_append (x := .tmp 26)); (case ho => rfl); (case hgd => rfl); (case hr => exact HA3.out)))
  try simp only [Exit.inBlock, Exit.then]
  refine bodyPost_ret (end_cell rfl rfl (loadLed _ (HCY.out.four rfl _ _ _ _) rfl)) rfl ?_
  exact ⟨_, _, _, rfl, HL.out, (HFIN.out _ _ _ _).1, (HFIN.out _ _ _ _).2, HNB.out.1, HNB.out.2.1, HNB.out.2.2⟩
theorem rstate_is (a0 : Option Addr) (n0 c0 : Nat) (b p n1 c1 : Nat) (a2 : Option Addr) (n2 c2 : Nat) (ops : Int) (H : List Hld) (hn : H.length = n1) (hm : n1 ≤ 90000) (hcap : n1 ≤ c1) (k : Nat) (hk : k < n1) (st : Int) (w : World) (hr : Rw hlv 6 w (some ⟨b, p, none⟩) H) :
    Calls Try.prog 78 #[.agg #[.slice a0 n0 c0, .slice (some ⟨b, p, none⟩) n1 c1, .slice a2 n2 c2, .int .i64 ops], .int .i64 k, .int .i64 st] w fun e w' => StaP w w' (setS H k st) a0 n0 c0 a2 n2 c2 ops e := by
  by_cases hcc : c1 = k + 1
  · obtain rfl : n1 = k + 1 := by omega
    subst hcc
    exact rstate_end a0 n0 c0 b p a2 n2 c2 ops H k hn hm st w hr
  · exact rstate_mid a0 n0 c0 b p n1 c1 a2 n2 c2 ops H hn hm hcap k hk hcc st w hr
end Go.Proofs.Ytflbcheofmljeaa
