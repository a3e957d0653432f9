/- Memory: a page is a block of 256 bytes. -/
import Derived.Test.YtehaancdadmdkaaRows
import Derived.WalkKit
import Derived.ProofKit
import Derived.OpenShut
import Derived.WalkSpells
import Derived.Handy
import Derived.Below
import Derived.Laws.IdiomCopy
import Derived.Laws.OwnMore
import Derived.Laws.AppendOwn
import Derived.Lib.LazyBuf
import Derived.BigQuiet
import Derived.Deep.RegionHeld
namespace Go.Proofs.Ytehaancdadmdkaa
open Go.ChangeShapes Go.WideShapes Go.ChangeAt Go.RowKit
set_option linter.unusedVariables false
set_option maxRecDepth 100000

/-- What stays: all blocks that were there, but those of F. -/
structure Kept (F : Nat → Prop) (w w' : World) : Prop where
  os : w'.os = w.os
  tape : w'.tape = w.tape
  output : w'.output = w.output
  size : w.heap.size ≤ w'.heap.size
  block : ∀ k, k < w.heap.size → ¬ F k → w'.heap[k]? = w.heap[k]?

theorem Kept.refl (F : Nat → Prop) (w : World) : Kept F w w := ⟨rfl, rfl, rfl, Nat.le_refl _, fun _ _ _ => rfl⟩
theorem Kept.trans {F F' : Nat → Prop} {a b c : World} (h : Kept F a b) (k : Kept F' b c) (hF : ∀ i, F' i → F i ∨ a.heap.size ≤ i) : Kept F a c :=
  ⟨k.os.trans h.os, k.tape.trans h.tape, k.output.trans h.output, Nat.le_trans h.size k.size, fun i hi hn =>
    (k.block i (Nat.lt_of_lt_of_le hi h.size) (fun q => (hF i q).elim hn (fun q => absurd hi (Nat.not_lt.2 q)))).trans (h.block i hi hn)⟩
theorem Kept.mono {F F' : Nat → Prop} {a b : World} (h : Kept F a b) (hF : ∀ i, F i → F' i) : Kept F' a b :=
  ⟨h.os, h.tape, h.output, h.size, fun i hi hn => h.block i hi (fun q => hn (hF i q))⟩
theorem Kept.drew {F : Nat → Prop} {a w : World} (h : Kept F a w) : Kept F a w.drew := ⟨h.os, h.tape, h.output, h.size, h.block⟩
theorem Kept.alloc {F : Nat → Prop} {a w : World} (h : Kept F a w) (o : Obj) : Kept F a (w.alloc o) :=
  ⟨h.os, h.tape, h.output, by simp; have := h.size; omega, fun i hi hn => (Below.heap_alloc w o i (Nat.lt_of_lt_of_le hi h.size)).trans (h.block i hi hn)⟩
theorem Kept.setCell {F : Nat → Prop} {a w : World} (h : Kept F a w) {p : Addr} (hp : F p.block ∨ a.heap.size ≤ p.block) (u : Value) : Kept F a (w.setCell p u) :=
  ⟨h.os, h.tape, h.output, by simpa using h.size, fun i hi hn => (Below.heap_setCell w p u i (fun e => by subst e; exact hp.elim hn (fun q => absurd hi (Nat.not_lt.2 q)))).trans (h.block i hi hn)⟩
theorem Kept.setCells {F : Nat → Prop} {a : World} {b : Nat} (hb : F b ∨ a.heap.size ≤ b) : ∀ (vs : List Value) (o : Nat) (w : World), Kept F a w → Kept F a (w.setCells b o vs)
  | [], _, _, h => h
  | v :: r, o, w, h => Kept.setCells hb r (o + 1) _ (h.setCell (p := ⟨b, o, none⟩) hb v)
theorem Kept.grown {F : Nat → Prop} {a w w' : World} {row : Option Nat} (h : Kept F a w) (hg : w.grownBy w' row) (hr : ∀ k, row = some k → F k ∨ a.heap.size ≤ k) : Kept F a w' :=
  ⟨hg.os.trans h.os, hg.tape.trans h.tape, hg.output.trans h.output, Nat.le_trans h.size hg.size, fun i hi hn =>
    (hg.block i (Nat.lt_of_lt_of_le hi h.size) (fun e => (hr i e.symm).elim hn (fun q => absurd hi (Nat.not_lt.2 q)))).trans (h.block i hi hn)⟩
theorem Kept.below {F : Nat → Prop} {a b : World} (h : Kept F a b) {B : Nat} (hB : B ≤ a.heap.size) (hF : ∀ k, F k → B ≤ k) : Below B a b :=
  ⟨h.os, h.tape, h.output, h.size, fun k hk => h.block k (Nat.lt_of_lt_of_le hk hB) (fun q => absurd hk (Nat.not_lt.2 (hF k q)))⟩
theorem Kept.cell {F : Nat → Prop} {a b : World} (h : Kept F a b) {p : Addr} {v : Value} (hc : a.cell? p = some v) (hn : ¬ F p.block) : b.cell? p = some v :=
  (World.cell?_of_block (w := a) (h.block p.block (World.block_lt_of_cell? a p hc) hn)).trans hc

/-- The cells of bytes. -/
def bv (l : List UInt8) : List Value := l.map fun x => Value.int .u8 (x.toNat : Int)
theorem bv_len (l : List UInt8) : (bv l).length = l.length := by simp [bv]
theorem bv_one (l : List UInt8) : ∀ v ∈ bv l, v.oneCell' = true := by
  intro v hv
  obtain ⟨x, _, rfl⟩ := List.mem_map.1 hv
  rfl
theorem bv_take (l : List UInt8) (n : Nat) : bv (l.take n) = (bv l).take n := by simp [bv]
theorem bv_drop (l : List UInt8) (n : Nat) : bv (l.drop n) = (bv l).drop n := by simp [bv]
theorem bv_append (l m : List UInt8) : bv (l ++ m) = bv l ++ bv m := by simp [bv]

theorem ownsRow_kept {w w' : World} {base : Nat} {e : TypeId} {size : Nat} {v : Value} {n : Nat} {xs : List Value} (h : w.ownsRow base e size v n xs) (hb : ∀ k, v.ownBlock = some k → w'.heap[k]? = w.heap[k]?) : w'.ownsRow base e size v n xs := by
  refine ⟨h.1, ?_⟩
  rcases h.2 with hn | ⟨g, cap, cur, hv, h1, h2, h3⟩
  · exact .inl hn
  · refine .inr ⟨g, cap, cur, hv, h1, ?_, h3⟩
    rw [hb g (by rw [hv]; rfl)]; exact h2

theorem own_kept {w w' : World} {B e size : Nat} {v : Value} {n : Nat} {xs : List Value} (h : w.ownsRow B e size v n xs) (k : Kept (fun _ => False) w w') : w'.ownsRow B e size v n xs := by
  refine ⟨h.1, ?_⟩
  rcases h.2 with q | ⟨g, cap, cur, e, hg, hh, q⟩
  · exact .inl q
  · have hlt : g < w.heap.size := by
      rcases Nat.lt_or_ge g w.heap.size with q | q
      · exact q
      · rw [Array.getElem?_eq_none (by omega)] at hh; cases hh
    exact .inr ⟨g, cap, cur, e, hg, (k.block g hlt (fun z => z)).trans hh, q⟩
/-- Cells of a block, and that they may be written. -/
structure CellsF (w : World) (b : Nat) (l : List Value) : Prop where
  cs : ∀ i v, l[i]? = some v → w.cell? ⟨b, i, none⟩ = some v
  fz : ∀ j, w.frozen? ⟨b, j, none⟩ = false
  ne : l ≠ []
theorem CellsF.lt {w : World} {b : Nat} {l : List Value} (h : CellsF w b l) : b < w.heap.size := by
  cases l with
  | nil => exact absurd rfl h.ne
  | cons x r => exact World.block_lt_of_cell? w _ (h.cs 0 x rfl)
theorem CellsF.far {w w' : World} {b : Nat} {l : List Value} (h : CellsF w b l) (hb : w'.heap[b]? = w.heap[b]?) : CellsF w' b l :=
  ⟨fun i v q => (World.cell?_of_block (a := ⟨b, i, none⟩) hb).trans (h.cs i v q), fun j => (World.frozen?_of_block (a := ⟨b, j, none⟩) hb).trans (h.fz j), h.ne⟩
theorem CellsF.kept {w w' : World} {b : Nat} {l : List Value} {F : Nat → Prop} (h : CellsF w b l) (k : Kept F w w') (hn : ¬ F b) : CellsF w' b l := h.far (k.block b h.lt hn)
theorem CellsF.step {w w' : World} {b : Nat} {l : List Value} (h : CellsF w b l) (k : Kept (fun _ => False) w w') : CellsF w' b l := h.kept k (fun z => z)
theorem CellsF.new (w : World) (l : List Value) (t : TypeId) (hl : l ≠ []) : CellsF (w.alloc (.cells l.toArray t)) w.heap.size l :=
  ⟨fun i v q => by simp [q], fun j => by simp, hl⟩
theorem CellsF.set {w : World} {b : Nat} {l : List Value} (h : CellsF w b l) (i : Nat) (v : Value) (hi : i < l.length) : CellsF (w.setCell ⟨b, i, none⟩ v) b (l.set i v) := by
  refine ⟨fun j u q => ?_, fun j => (World.frozen?_setCells b [v] i w _).trans (h.fz j), fun e => ?_⟩
  · by_cases hij : j = i
    · subst hij
      rw [List.getElem?_set_self hi] at q
      cases q
      obtain ⟨x, hx⟩ : ∃ x, l[j]? = some x := ⟨l[j], List.getElem?_eq_getElem hi⟩
      exact World.cell?_setCell_same' _ _ _ (by rw [h.cs j x hx]; rfl)
    · rw [List.getElem?_set_ne (Ne.symm hij)] at q
      exact (World.cell?_setCell_other _ _ _ _ (fun e => hij (by cases e; rfl))).trans (h.cs j u q)
  · have := congrArg List.length e
    rw [List.length_set] at this
    exact h.ne (List.eq_nil_of_length_eq_zero this)

theorem Kept.drewN {F : Nat → Prop} {a w : World} (h : Kept F a w) (n : Nat) : Kept F a (w.drewN n) := ⟨h.os, h.tape, h.output, h.size, h.block⟩
/-- A byte of a list of bytes, as a number. -/
def byteAt (B : List UInt8) (i : Nat) : Nat := (B[i]?.getD 0).toNat
theorem byteAt_lt (B : List UInt8) (i : Nat) : byteAt B i < 256 := UInt8.toNat_lt _
/-- A page in memory: its bytes, as they stand in its block. -/
structure Pg (w : World) (p : Nat) (B : List UInt8) : Prop where
  blk : w.heap[p]? = some (.cells (bv B).toArray 58 (0, 0))
  len : B.length = 256
theorem Pg.cell {w : World} {p : Nat} {B : List UInt8} (h : Pg w p B) (i : Nat) (hi : i < 256) : w.cell? ⟨p, i, none⟩ = some (.int .u8 (byteAt B i : Int)) := by
  rw [cell_of_row w p i _ 58 (0, 0) h.blk]
  have hl : i < B.length := by rw [h.len]; exact hi
  simp [bv, byteAt, hl]
theorem Pg.fz {w : World} {p : Nat} {B : List UInt8} (h : Pg w p B) (j : Nat) : w.frozen? ⟨p, j, none⟩ = false := frozen_of_row w p j _ 58 h.blk
theorem Pg.lt {w : World} {p : Nat} {B : List UInt8} (h : Pg w p B) : p < w.heap.size := by
  rcases Nat.lt_or_ge p w.heap.size with q | q
  · exact q
  · have := h.blk
    rw [Array.getElem?_eq_none (by omega)] at this; cases this
theorem Pg.kept {F : Nat → Prop} {w w' : World} {p : Nat} {B : List UInt8} (h : Pg w p B) (k : Kept F w w') (hn : ¬ F p) : Pg w' p B := ⟨(k.block p h.lt hn).trans h.blk, h.len⟩
theorem Pg.step {w w' : World} {p : Nat} {B : List UInt8} (h : Pg w p B) (k : Kept (fun _ => False) w w') : Pg w' p B := h.kept k (fun z => z)
theorem Pg.dr {w : World} {p : Nat} {B : List UInt8} (h : Pg w p B) (n : Nat) : Pg (w.drewN n) p B := ⟨h.blk, h.len⟩
/-- Where a cell ends. -/
def endB (B : List UInt8) (k : Nat) : Nat := if k = 0 then 256 else byteAt B (8 + 2 * (k - 1))
theorem endB_le (B : List UInt8) (k : Nat) : endB B k ≤ 256 := by
  unfold endB
  split
  · omega
  · exact Nat.le_of_lt (byteAt_lt _ _)

theorem kind_is {w : World} {p : Nat} {B : List UInt8} (h : Pg w p B) : Calls Try.prog 27 #[.pointer (some ⟨p, 0, none⟩)] w fun e w' => e = .returned (.int .i64 (byteAt B 0 : Int)) ∧ ∃ m, w' = w.drewN m := by
  have c := h.cell 0 (by decide)
  have hb := byteAt_lt B 0
  generalize byteAt B 0 = x at *
  go_enter Try.func27, Try.ntmps27
  go_wp2
  go_ret
  exact ⟨rfl, 0, rfl⟩
theorem kind_nil (w : World) : Calls Try.prog 27 #[.pointer none] w fun e w' => e = .returned (.int .i64 0) ∧ ∃ m, w' = w.drewN m := by
  go_enter Try.func27, Try.ntmps27
  go_wp2
  go_ret
  exact ⟨rfl, 0, rfl⟩
theorem len_is {w : World} {p : Nat} {B : List UInt8} (h : Pg w p B) : Calls Try.prog 19 #[.pointer (some ⟨p, 0, none⟩)] w fun e w' => e = .returned (.int .i64 (byteAt B 1 : Int)) ∧ ∃ m, w' = w.drewN m := by
  have c := h.cell 1 (by decide)
  have hb := byteAt_lt B 1
  generalize byteAt B 1 = x at *
  go_enter Try.func19, Try.ntmps19
  go_wp2
  go_ret
  exact ⟨rfl, 0, rfl⟩
theorem len_nil (w : World) : Calls Try.prog 19 #[.pointer none] w fun e w' => e = .returned (.int .i64 0) ∧ ∃ m, w' = w.drewN m := by
  go_enter Try.func19, Try.ntmps19
  go_wp2
  go_ret
  exact ⟨rfl, 0, rfl⟩
theorem is_is {w : World} {p : Nat} {B : List UInt8} (h : Pg w p B) : Calls Try.prog 37 #[.pointer (some ⟨p, 0, none⟩)] w fun e w' => e = .returned (.bool (byteAt B 0 != 0)) ∧ ∃ m, w' = w.drewN m := by
  have H : Hid (Calls Try.prog 27 #[.pointer (some ⟨p, 0, none⟩)] w fun e w' => e = .returned (.int .i64 (byteAt B 0 : Int)) ∧ ∃ m, w' = w.drewN m) := kind_is h
  clear h
  generalize byteAt B 0 = x at *
  go_enter Try.func37, Try.ntmps37
  go_wp2_with fail
  refine Calls.mono H.out ?_; rintro e w1 ⟨rfl, m, rfl⟩
  go_wp2_with fail
  go_ret
  refine ⟨?_, m, rfl⟩
  show Ending.returned (.bool ((x : Int) != 0)) = Ending.returned (.bool (x != 0))
  have e : ((x : Int) != 0) = (x != 0) := by
    rw [Bool.eq_iff_iff]
    simp
  rw [e]
theorem is_nil (w : World) : Calls Try.prog 37 #[.pointer none] w fun e w' => e = .returned (.bool false) ∧ ∃ m, w' = w.drewN m := by
  have H : Hid (Calls Try.prog 27 #[.pointer none] w fun e w' => e = .returned (.int .i64 0) ∧ ∃ m, w' = w.drewN m) := kind_nil w
  go_enter Try.func37, Try.ntmps37
  go_wp2_with fail
  refine Calls.mono H.out ?_; rintro e w1 ⟨rfl, m, rfl⟩
  go_wp2_with fail
  go_ret
  exact ⟨rfl, m, rfl⟩
theorem placeOf_is (k : Nat) (hk : k ≤ 1000000) (w : World) : Calls Try.prog 58 #[.int .i64 (k : Int)] w fun e w' => e = .returned (.int .i64 ((8 + 2 * k : Nat) : Int)) ∧ ∃ m, w' = w.drewN m := by
  go_enter Try.func58, Try.ntmps58
  go_wp2
  go_ret
  exact ⟨by congr 2, 0, rfl⟩
set_option maxHeartbeats 1000000 in
theorem begin_is {w : World} {p : Nat} {B : List UInt8} (h : Pg w p B) (k : Nat) (hk : 8 + 2 * k < 256) : Calls Try.prog 41 #[.pointer (some ⟨p, 0, none⟩), .int .i64 (k : Int)] w fun e w' => e = .returned (.int .i64 (byteAt B (8 + 2 * k) : Int)) ∧ ∃ m, w' = w.drewN m := by
  have c := h.cell (8 + 2 * k) hk
  have hb := byteAt_lt B (8 + 2 * k)
  have HP : Hid (∀ n, Calls Try.prog 58 #[.int .i64 (k : Int)] (w.drewN n) fun e w' => e = .returned (.int .i64 ((8 + 2 * k : Nat) : Int)) ∧ ∃ m, w' = (w.drewN n).drewN m) := fun n => placeOf_is k (by omega) _
  generalize byteAt B (8 + 2 * k) = x at *
  obtain ⟨j, hj⟩ : ∃ j, 8 + 2 * k = j := ⟨_, rfl⟩
  rw [hj] at c hk HP
  have hj2 : (j : Int) < 256 := by omega
  clear h hj
  go_enter Try.func41, Try.ntmps41
  go_wp2_with fail
  go_quiet (with_reducible exact Calls.quiet_of (HP.out _))
  go_wp2_with fail
  go_ret
  exact ⟨rfl, _, rfl⟩
set_option maxHeartbeats 1000000 in
theorem keySize_is {w : World} {p : Nat} {B : List UInt8} (h : Pg w p B) (k : Nat) (hk : 9 + 2 * k < 256) : Calls Try.prog 42 #[.pointer (some ⟨p, 0, none⟩), .int .i64 (k : Int)] w fun e w' => e = .returned (.int .i64 (byteAt B (9 + 2 * k) : Int)) ∧ ∃ m, w' = w.drewN m := by
  have c := h.cell (9 + 2 * k) hk
  have hb := byteAt_lt B (9 + 2 * k)
  have HP : Hid (∀ n, Calls Try.prog 58 #[.int .i64 (k : Int)] (w.drewN n) fun e w' => e = .returned (.int .i64 ((8 + 2 * k : Nat) : Int)) ∧ ∃ m, w' = (w.drewN n).drewN m) := fun n => placeOf_is k (by omega) _
  generalize byteAt B (9 + 2 * k) = x at *
  obtain ⟨j, hj⟩ : ∃ j, 8 + 2 * k = j := ⟨_, rfl⟩
  have hj1 : 9 + 2 * k = j + 1 := by omega
  rw [hj] at HP
  rw [hj1] at c hk
  have hj2 : (j : Int) + 1 < 256 := by omega
  clear h hj hj1
  go_enter Try.func42, Try.ntmps42
  go_wp2_with fail
  go_quiet (with_reducible exact Calls.quiet_of (HP.out _))
  go_wp2_with fail
  go_ret
  exact ⟨rfl, _, rfl⟩
theorem end_is {w : World} {p : Nat} {B : List UInt8} (h : Pg w p B) (k : Nat) (hk : 6 + 2 * k < 256) : Calls Try.prog 43 #[.pointer (some ⟨p, 0, none⟩), .int .i64 (k : Int)] w fun e w' => e = .returned (.int .i64 (endB B k : Int)) ∧ ∃ m, w' = w.drewN m := by
  cases k with
  | zero =>
    go_enter Try.func43, Try.ntmps43
    go_wp2
    go_ret
    exact ⟨rfl, 0, rfl⟩
  | succ k =>
    have HB : Hid (Calls Try.prog 41 #[.pointer (some ⟨p, 0, none⟩), .int .i64 (k : Int)] w fun e w' => e = .returned (.int .i64 (byteAt B (8 + 2 * k) : Int)) ∧ ∃ m, w' = w.drewN m) := begin_is h k (by omega)
    have HE : Hid (endB B (k + 1) = byteAt B (8 + 2 * k)) := rfl
    rw [HE.out]
    obtain ⟨y, hy⟩ : ∃ y : Int, ((k + 1 : Nat) : Int) = y := ⟨_, rfl⟩
    have e1 : (k : Int) = y - 1 := by omega
    have e2 : 1 ≤ y ∧ y ≤ 200 := by omega
    rw [hy]
    rw [e1] at HB
    obtain ⟨e3, e4⟩ := e2
    clear h hy e1 HE
    generalize byteAt B (8 + 2 * k) = x at *
    clear hk
    go_enter Try.func43, Try.ntmps43
    go_wp2_with fail
    refine Calls.mono HB.out ?_; rintro e w1 ⟨rfl, m, rfl⟩
    go_wp2_with fail
    go_ret
    exact ⟨rfl, m, rfl⟩
end Go.Proofs.Ytehaancdadmdkaa
