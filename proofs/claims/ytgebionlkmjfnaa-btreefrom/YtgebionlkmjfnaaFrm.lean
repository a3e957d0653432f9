/- From. -/
import Derived.Test.YtgebionlkmjfnaaTelF
import Derived.Test.YtgebionlkmjfnaaSam
import Derived.Test.YtgebionlkmjfnaaStP
namespace Go.Proofs.Ytgebionlkmjfnaa
open Go.ChangeShapes Go.WideShapes Go.RowKit
set_option linter.unusedVariables false
set_option maxRecDepth 100000

open Go.Shelf
attribute [local go_sem] Oper.semAt_some

set_option maxHeartbeats 2000000 in
/-- 'From$1'. -/
theorem from1_in (n y Bt Bk : Nat) (w0 : World) (J Jx : List Itm → World → Prop) (p : Option Addr) (k : Int) (l : List Itm) (key : Int) (hv : TreeV w0 p k l) (hT : Told y (geL l key).length w0 J Jx) (W : World) (hB : Below w0.heap.size w0 W) (hc : W.cell? ⟨Bt, 0, none⟩ = some (.pointer p)) (hk : W.cell? ⟨Bk, 0, none⟩ = some (.int .i64 key)) (h0 : J [] W) :
    CallsIn Fence.wide n Try.prog 29 #[.func (.yield y) #[] #[], .pointer (some ⟨Bt, 0, none⟩), .pointer (some ⟨Bk, 0, none⟩)] W fun e W' => (∃ v, e = .returned v) ∧ ((∃ ys, ys = geL l key ∧ J ys W') ∨ (∃ pre, pre <+: geL l key ∧ Jx pre W')) := by
  have hdd : ∀ k : Nat, (Fence.wide.depth.isSome = true → 1 ≤ k) := fun k h => by cases h
  obtain ⟨_, hso, h3⟩ := hv
  rcases h3 with ⟨rfl, rfl⟩ | ⟨b, d, t, rfl, e2, e3, e4⟩
  · have HJ : Hid (J [] W) := h0
    clear hT h0
    refine callsIn_of_wp Try.func29 rfl trivial ?_ rfl
    simp only [Try.ntmps29, List.size_toArray, List.length_cons, List.length_nil, Nat.reduceAdd, Nat.reduceSub, Array.replicate_succ, Array.replicate_zero, List.push_toArray, List.append_toArray, List.nil_append, List.cons_append]
    gi_wp2
    go_end0
    exact ⟨⟨_, rfl⟩, .inl ⟨[], rfl, HJ.out⟩⟩
  · have HA : Hid (∀ m, CallsIn Fence.wide m Try.prog 30 #[.pointer (some ⟨b, 0, none⟩), .int .i64 key, .func (.yield y) #[] #[]] W (TellP J Jx w0 (geL l key) [])) := fun m => by
      have := tellFrom_in y (geL l key).length w0 J Jx hT key d b t 1 12 e2 (by omega) e3 (by rw [e4]; exact hso) m [] W h0 hB (by rw [e4]; simp)
      rw [e4] at this
      exact this
    clear hT h0 e2 e3 e4 hso
    generalize geL l key = F at *
    refine callsIn_of_wp Try.func29 rfl trivial ?_ rfl
    simp only [Try.ntmps29, List.size_toArray, List.length_cons, List.length_nil, Nat.reduceAdd, Nat.reduceSub, Array.replicate_succ, Array.replicate_zero, List.push_toArray, List.append_toArray, List.nil_append, List.cons_append]
    gi_wp2
    refine ⟨trivial, hdd _, (HA.out _).mono ?_⟩
    rintro e w4 ⟨b2, rfl, hp2⟩
    have HP2 : Hid _ := hp2
    clear hp2
    gi_wp2
    go_end0
    refine ⟨⟨_, rfl⟩, ?_⟩
    rcases HP2.out with ⟨_, h1, _⟩ | ⟨_, q, h1, h2⟩
    · exact .inl ⟨F, rfl, h1⟩
    · exact .inr ⟨q, h1, h2⟩
/-- From. -/
theorem from_in (n : Nat) (p : Option Addr) (k key : Int) (w : World) :
    CallsIn Fence.wide n Try.prog 16 #[.agg #[.pointer p, .int .i64 k], .int .i64 key] w fun e w' => e = .returned (.func (.func 29) #[] #[.pointer (some ⟨w.heap.size, 0, none⟩), .pointer (some ⟨w.heap.size + 1, 0, none⟩)]) ∧ (w.alloc (.cells #[.pointer p, .int .i64 k] 25)).alloc (.cells #[.int .i64 key] 3) = w' := by
  refine callsIn_of_wp Try.func16 rfl trivial ?_ rfl
  simp only [Try.ntmps16, List.size_toArray, List.length_cons, List.length_nil, Nat.reduceAdd, Nat.reduceSub, Array.replicate_succ, Array.replicate_zero, List.push_toArray, List.append_toArray, List.nil_append, List.cons_append]
  gi_wp2
  go_ret
  exact ⟨by simp, rfl⟩
theorem from_stops (n : Nat) (Bt Bk : Nat) (p : Option Addr) (k : Int) (l : List Itm) (key : Int) (w0 w : World) (hv : TreeV w0 p k l) (hw : Below w0.heap.size w0 w) (hBt : Bt < w.heap.size) (hc : w.cell? ⟨Bt, 0, none⟩ = some (.pointer p)) (hBk : Bk < w.heap.size) (hk : w.cell? ⟨Bk, 0, none⟩ = some (.int .i64 key)) :
    SeqStopsK Fence.wide n Try.prog 29 #[.pointer (some ⟨Bt, 0, none⟩), .pointer (some ⟨Bk, 0, none⟩)] (fun x : Itm => #[Value.int .i64 x.1, .string x.2]) (Below w0.heap.size) (fun ys => ys = geL l key) (fun pre => pre <+: geL l key) (geL l key).length w := fun y J Jx W hW hJ hJx hY h0 =>
  from1_in n y Bt Bk w0 J Jx p k l key hv (told_of hJ (fun _ _ _ => trivial) (fun pre x W h1 h2 m => YieldAt.anyDepth rfl m (hY pre x W h1 h2))) W (Below.less hw hW hw.size) ((hW.cell (p := ⟨Bt, 0, none⟩) hBt).trans hc) ((hW.cell (p := ⟨Bk, 0, none⟩) hBk).trans hk) h0

theorem and_15 (n : Int) : bits .and .i64 n 15 = n % 16 := by
  have h : (BitVec.ofInt 64 15).toNat = 2 ^ 4 - 1 := by decide
  have key : (BitVec.ofInt 64 n &&& BitVec.ofInt 64 15).toNat = (n % ((2 ^ 64 : Nat) : Int)).toNat % 2 ^ 4 := by
    rw [BitVec.toNat_and, BitVec.toNat_ofInt, h, Nat.and_two_pow_sub_one_eq_mod]
  show IntKind.i64.wrap ((BitVec.ofInt 64 n &&& BitVec.ofInt 64 15).toNat : Nat) = n % 16
  rw [key, IntKind.wrap_i64]
  omega
theorem geL_keep {k : Int} {x : Itm} (h : k ≤ x.1) : geL [x] k = [x] := by
  have : lessK k x = false := decide_eq_false (by rw [kc_int]; split <;> (try split) <;> omega)
  show List.filter _ [x] = [x]
  rw [List.filter_cons, this]; rfl
theorem geL_drop {k : Int} {x : Itm} (h : ¬ k ≤ x.1) : geL [x] k = [] := by
  have : lessK k x = true := decide_eq_true (by rw [kc_int, if_pos (by omega)])
  show List.filter _ [x] = []
  rw [List.filter_cons, this]; rfl
theorem geL_le (l : List Itm) (k : Int) : (geL l k).length ≤ l.length := List.length_filter_le ..
/-- A list of the call's own, in a box. -/
structure Wn (b : Nat) (l : List Itm) (w0 w : World) (v : Value) : Prop where
  own : w.ownsRow 0 32 2 v l.length (l.flatMap itv)
  bel : Below w0.heap.size w0 w
  new : ∀ g, v.ownBlock = some g → w0.heap.size ≤ g
  bx : w.heap[b]? = some (.cells #[v] 26 (0, 0))
  hb : w0.heap.size ≤ b
theorem Wn.c0 {b : Nat} {l : List Itm} {w0 w : World} {v : Value} (h : Wn b l w0 w v) : w.cell? ⟨b, 0, none⟩ = some v := by have := h.bx; simp [World.cell?, this]
theorem Wn.fz {b : Nat} {l : List Itm} {w0 w : World} {v : Value} (h : Wn b l w0 w v) : w.frozen? ⟨b, 0, none⟩ = false := by have := h.bx; simp [World.frozen?, this]
theorem Wn.sl {b : Nat} {l : List Itm} {w0 w : World} {v : Value} (h : Wn b l w0 w v) : Sl itv 2 w v l := own_rw itv_len h.own
theorem Wn.start (w : World) : Wn w.heap.size [] w (w.alloc (.cells #[.slice none 0 0] 26)) (.slice none 0 0) :=
  ⟨World.ownsRow_nil _ _ _ _, below1 _ _, (fun g hg => by cases hg), heap_alloc_new w _, Nat.le_refl _⟩
theorem own_tag {w : World} {v : Value} {n : Nat} {xs : List Value} (h : w.ownsRow 0 32 2 v n xs) {b : Nat} {cs : Array Value} (hb : w.heap[b]? = some (.cells cs 26 (0, 0))) : v.ownBlock ≠ some b := fun e => by
  rcases h.2 with ⟨rfl, _⟩ | ⟨g, cap, cur, rfl, _, hg, _⟩
  · cases e
  · cases e
    rw [hb] at hg
    cases hg
theorem Wn.push {b : Nat} {l : List Itm} {w0 w : World} {v : Value} (h : Wn b l w0 w v) (x : Itm) (hs : l.length < 1000) : ∃ v' w', (Builtin.append_ #[26, 26] 26 #[v, .slice (some ⟨w.heap.size, 0, none⟩) 1 1]).run Try.prog (w.alloc (.cells #[.int .i64 x.1, .string x.2] 32)) = .ok v' w' ∧ w'.cell? ⟨b, 0, none⟩ = some v ∧ w'.frozen? ⟨b, 0, none⟩ = false ∧ Wn b (l ++ [x]) w0 (w'.setCell ⟨b, 0, none⟩ v') v' := by
  have hB : Below w0.heap.size w0 (w.alloc (.cells #[.int .i64 x.1, .string x.2] 32)) := Below.next h.bel (below1 _ _)
  have ho : (w.alloc (.cells #[.int .i64 x.1, .string x.2] 32)).ownsRow 0 32 2 v l.length (l.flatMap itv) := ownsRow_kept h.own (fun g hg => (below1 w _).block g (World.ownsRow.lt h.own g hg).2)
  have hu : Sl itv 2 (w.alloc (.cells #[.int .i64 x.1, .string x.2] 32)) (.slice (some ⟨w.heap.size, 0, none⟩) 1 1) [x] := ⟨_, 1, rfl, rw_lit itv_len (CellsF.at _ 32 (by simp) rfl), Nat.le_refl _, fun e => by cases e⟩
  have hbl : b < w.heap.size := (Array.getElem?_eq_some_iff.1 h.bx).1
  have hb1 : (w.alloc (.cells #[.int .i64 x.1, .string x.2] 32)).heap[b]? = some (.cells #[v] 26 (0, 0)) := ((below1 w _).block b hbl).trans h.bx
  obtain ⟨v', w', r1, r2, r3, r5⟩ := app32_is ho _ hu (by simp; omega)
  have hb2 : w'.heap[b]? = some (.cells #[v] 26 (0, 0)) := (r3.block b (Array.getElem?_eq_some_iff.1 hb1).1 (fun e => own_tag ho hb1 e.symm)).trans hb1
  have hB2 : Below w0.heap.size w0 w' := hB.grown r3 hB.size (fun q hq => h.new q hq)
  refine ⟨v', w', r1, by simp [World.cell?, hb2], by simp [World.frozen?, hb2], ownsRow_kept r2 (fun g hg => ?_), below_set hB2 _ _ _ h.hb, fun g hg => ?_, ?_, h.hb⟩
  · have := own_tag r2 hb2
    exact Below.heap_setCell w' ⟨b, 0, none⟩ v' g (fun e => by have e' : g = b := e; exact this (by rw [hg, e']))
  · rcases r5 with e | e
    · rw [e] at hg; exact h.new g hg
    · rw [e] at hg; cases hg; exact hB.size
  · simp [World.setCell, Array.getElem?_modify, hb2]
theorem Wn.next {b : Nat} {l : List Itm} {w0 w w' : World} {v : Value} (h : Wn b l w0 w v) (q : Below w.heap.size w w') : Wn b l w0 w' v :=
  ⟨ownsRow_kept h.own (fun g hg => q.block g (World.ownsRow.lt h.own g hg).2), Below.next h.bel q, h.new, (q.block b (Array.getElem?_eq_some_iff.1 h.bx).1).trans h.bx, h.hb⟩
/-- All but one block stay. -/
theorem ownFrom_grown {β : Type} {wl : World} {nb : Nat} : OwnFrom wl.heap.size (fun (_ : β) W => wl.grownBy W (some nb)) := fun _ W W' row hs hg hr =>
  ⟨hg.os.trans hs.os, hg.tape.trans hs.tape, hg.output.trans hs.output, Nat.le_trans hs.size hg.size, fun k hk hn => (hg.block k (Nat.lt_of_lt_of_le hk hs.size) (fun e => by have := (hr k e.symm).1; omega)).trans (hs.block k hk hn)⟩
theorem grown_refl (w : World) (row : Option Nat) : w.grownBy w row := ⟨rfl, rfl, rfl, Nat.le_refl _, fun _ _ _ => rfl⟩
theorem grown_set {wl W : World} {nb : Nat} (h : wl.grownBy W (some nb)) (u : Value) : wl.grownBy (W.setCell ⟨nb, 0, none⟩ u) (some nb) :=
  ⟨h.os, h.tape, h.output, by simpa using h.size, fun k hk hn => (Below.heap_setCell W ⟨nb, 0, none⟩ u k (fun e => hn (by have e' : k = nb := e; rw [e']))).trans (h.block k hk hn)⟩
theorem grown_below {a wl W : World} {nb : Nat} (hB : Below a.heap.size a wl) (h : wl.grownBy W (some nb)) (hn : a.heap.size ≤ nb) : Below a.heap.size a W := hB.grown h hB.size (fun k e => by cases e; exact hn)
end Go.Proofs.Ytgebionlkmjfnaa
