/- A disk in memory: what lies where, and what stays. -/
import Derived.Test.YtbjijacpgklegaaRows
import Derived.WalkKit
import Derived.ProofKit
import Derived.OpenShut
import Derived.WalkSpells
import Derived.Handy
import Derived.Below
import Derived.Laws.IdiomCopy
import Derived.Laws.OwnMore
import Derived.Laws.AppendOwn
import Derived.Lib.LazyBuf
namespace Go.Proofs.Ytbjijacpgklegaa
open Go.ChangeShapes Go.WideShapes Go.ChangeAt Go.RowKit
set_option linter.unusedVariables false
set_option maxRecDepth 100000

/-- What stays: all blocks that were there, but those of F. -/
structure Kept (F : Nat → Prop) (w w' : World) : Prop where
  os : w'.os = w.os
  tape : w'.tape = w.tape
  output : w'.output = w.output
  size : w.heap.size ≤ w'.heap.size
  block : ∀ k, k < w.heap.size → ¬ F k → w'.heap[k]? = w.heap[k]?

theorem Kept.refl (F : Nat → Prop) (w : World) : Kept F w w := ⟨rfl, rfl, rfl, Nat.le_refl _, fun _ _ _ => rfl⟩
theorem Kept.trans {F F' : Nat → Prop} {a b c : World} (h : Kept F a b) (k : Kept F' b c) (hF : ∀ i, F' i → F i ∨ a.heap.size ≤ i) : Kept F a c :=
  ⟨k.os.trans h.os, k.tape.trans h.tape, k.output.trans h.output, Nat.le_trans h.size k.size, fun i hi hn =>
    (k.block i (Nat.lt_of_lt_of_le hi h.size) (fun q => (hF i q).elim hn (fun q => absurd hi (Nat.not_lt.2 q)))).trans (h.block i hi hn)⟩
theorem Kept.mono {F F' : Nat → Prop} {a b : World} (h : Kept F a b) (hF : ∀ i, F i → F' i) : Kept F' a b :=
  ⟨h.os, h.tape, h.output, h.size, fun i hi hn => h.block i hi (fun q => hn (hF i q))⟩
theorem Kept.drew {F : Nat → Prop} {a w : World} (h : Kept F a w) : Kept F a w.drew := ⟨h.os, h.tape, h.output, h.size, h.block⟩
theorem Kept.alloc {F : Nat → Prop} {a w : World} (h : Kept F a w) (o : Obj) : Kept F a (w.alloc o) :=
  ⟨h.os, h.tape, h.output, by simp; have := h.size; omega, fun i hi hn => (Below.heap_alloc w o i (Nat.lt_of_lt_of_le hi h.size)).trans (h.block i hi hn)⟩
theorem Kept.setCell {F : Nat → Prop} {a w : World} (h : Kept F a w) {p : Addr} (hp : F p.block ∨ a.heap.size ≤ p.block) (u : Value) : Kept F a (w.setCell p u) :=
  ⟨h.os, h.tape, h.output, by simpa using h.size, fun i hi hn => (Below.heap_setCell w p u i (fun e => by subst e; exact hp.elim hn (fun q => absurd hi (Nat.not_lt.2 q)))).trans (h.block i hi hn)⟩
theorem Kept.setCells {F : Nat → Prop} {a : World} {b : Nat} (hb : F b ∨ a.heap.size ≤ b) : ∀ (vs : List Value) (o : Nat) (w : World), Kept F a w → Kept F a (w.setCells b o vs)
  | [], _, _, h => h
  | v :: r, o, w, h => Kept.setCells hb r (o + 1) _ (h.setCell (p := ⟨b, o, none⟩) hb v)
theorem Kept.grown {F : Nat → Prop} {a w w' : World} {row : Option Nat} (h : Kept F a w) (hg : w.grownBy w' row) (hr : ∀ k, row = some k → F k ∨ a.heap.size ≤ k) : Kept F a w' :=
  ⟨hg.os.trans h.os, hg.tape.trans h.tape, hg.output.trans h.output, Nat.le_trans h.size hg.size, fun i hi hn =>
    (hg.block i (Nat.lt_of_lt_of_le hi h.size) (fun e => (hr i e.symm).elim hn (fun q => absurd hi (Nat.not_lt.2 q)))).trans (h.block i hi hn)⟩
theorem Kept.below {F : Nat → Prop} {a b : World} (h : Kept F a b) {B : Nat} (hB : B ≤ a.heap.size) (hF : ∀ k, F k → B ≤ k) : Below B a b :=
  ⟨h.os, h.tape, h.output, h.size, fun k hk => h.block k (Nat.lt_of_lt_of_le hk hB) (fun q => absurd hk (Nat.not_lt.2 (hF k q)))⟩
theorem Kept.cell {F : Nat → Prop} {a b : World} (h : Kept F a b) {p : Addr} {v : Value} (hc : a.cell? p = some v) (hn : ¬ F p.block) : b.cell? p = some v :=
  (World.cell?_of_block (w := a) (h.block p.block (World.block_lt_of_cell? a p hc) hn)).trans hc

/-- The cells of bytes. -/
def bv (l : List UInt8) : List Value := l.map fun x => Value.int .u8 (x.toNat : Int)
theorem bv_len (l : List UInt8) : (bv l).length = l.length := by simp [bv]
theorem bv_one (l : List UInt8) : ∀ v ∈ bv l, v.oneCell' = true := by
  intro v hv
  obtain ⟨x, _, rfl⟩ := List.mem_map.1 hv
  rfl
theorem bv_take (l : List UInt8) (n : Nat) : bv (l.take n) = (bv l).take n := by simp [bv]
theorem bv_drop (l : List UInt8) (n : Nat) : bv (l.drop n) = (bv l).drop n := by simp [bv]
theorem bv_append (l m : List UInt8) : bv (l ++ m) = bv l ++ bv m := by simp [bv]

/-- A write that waits, in cells. -/
def qv (q : Nat × List UInt8) : List Value := Value.int .i64 (q.1 : Int) :: bv q.2

/-- A disk: its sectors as they are sure, the writes that wait, the fuse, the power. -/
structure Dk where
  n : Nat
  S : Nat → List UInt8
  Q : List (Nat × List UInt8)
  fuse : Int
  off : Bool

/-- A sector behind writes. -/
def behind (s : List UInt8) (i : Nat) (Q : List (Nat × List UInt8)) : List UInt8 := Q.foldl (fun s q => if q.1 = i then q.2 else s) s
def Dk.last (d : Dk) (i : Nat) : List UInt8 := behind (d.S i) i d.Q
/-- Sectors with one of them another one. -/
def put (S : Nat → List UInt8) (a : Nat) (t : List UInt8) (i : Nat) : List UInt8 := if i = a then t else S i

/-- A list of sectors in a block. -/
structure Secs (w : World) (b n : Nat) (S : Nat → List UInt8) : Prop where
  cell : ∀ i, i < n → ∀ j x, (bv (S i))[j]? = some x → w.cell? ⟨b, i * 32 + j, none⟩ = some x
  free : ∀ j, w.frozen? ⟨b, j, none⟩ = false
  len : ∀ i, i < n → (S i).length = 32

theorem Secs.of_block {w w' : World} {b n : Nat} {S : Nat → List UInt8} (h : Secs w b n S) (hb : w'.heap[b]? = w.heap[b]?) : Secs w' b n S :=
  ⟨fun i hi j x hx => (World.cell?_of_block (w := w) (a := ⟨b, i * 32 + j, none⟩) hb).trans (h.cell i hi j x hx), fun j => (World.frozen?_of_block (w := w) (a := ⟨b, j, none⟩) hb).trans (h.free j), h.len⟩

theorem Secs.some_at {w : World} {b n : Nat} {S : Nat → List UInt8} (h : Secs w b n S) {i : Nat} (hi : i < n) {j : Nat} (hj : j < 32) : (w.cell? ⟨b, i * 32 + j, none⟩).isSome = true := by
  have hl := h.len i hi
  have := h.cell i hi j _ (List.getElem?_eq_getElem (by rw [bv_len]; omega))
  rw [this]; rfl

/-- The first bytes of a sector are others. -/
theorem Secs.store {w : World} {b n : Nat} {S : Nat → List UInt8} (h : Secs w b n S) {a : Nat} (ha : a < n) (t : List UInt8) (ht : t.length ≤ 32) :
    Secs (w.setCells b (a * 32) (bv t)) b n (put S a (t ++ (S a).drop t.length)) := by
  refine ⟨fun i hi j x hx => ?_, fun j => by rw [World.frozen?_setCells]; exact h.free j, fun i hi => ?_⟩
  · unfold put at hx
    split at hx
    · rename_i e
      subst e
      have hl := h.len i hi
      by_cases hj : j < t.length
      · have hc := World.cell?_setCells_in b (bv t) (i * 32) w (fun k hk => h.some_at hi (by rw [bv_len] at hk; omega)) j (by rw [bv_len]; exact hj)
        rw [hc]
        rw [bv_append, List.getElem?_append_left (by rw [bv_len]; exact hj), List.getElem?_eq_getElem (by rw [bv_len]; exact hj)] at hx
        exact hx
      · rw [World.cell?_setCells_out b (bv t) (i * 32) w _ (fun _ _ => .inr (by simp only [bv_len]; omega))]
        apply h.cell i hi j x
        rw [bv_append, List.getElem?_append_right (by rw [bv_len]; omega), bv_len, bv_drop, List.getElem?_drop] at hx
        rw [← hx]; congr 1; omega
    · rename_i e
      have hl := h.len i hi
      have hj : j < 32 := by
        have := (List.getElem?_eq_some_iff.1 hx).1
        rw [bv_len] at this; omega
      rw [World.cell?_setCells_out b (bv t) (a * 32) w _ (fun _ _ => by simp only [bv_len]; omega)]
      exact h.cell i hi j x hx
  · unfold put
    split
    · rename_i e
      subst e
      have := h.len i hi
      simp; omega
    · exact h.len i hi

theorem put_whole (S : Nat → List UInt8) (a : Nat) (t : List UInt8) (h : (S a).length ≤ t.length) : put S a (t ++ (S a).drop t.length) = put S a t := by
  rw [List.drop_eq_nil_of_le h, List.append_nil]

theorem Secs.other {w : World} {b n : Nat} {S : Nat → List UInt8} (h : Secs w b n S) {g : Nat} (hg : b ≠ g) : ∀ (vs : List Value) (o : Nat), Secs (w.setCells g o vs) b n S := fun vs o =>
  ⟨fun i hi j x hx => by rw [World.cell?_setCells_out g vs o w _ (fun e _ => absurd e hg)]; exact h.cell i hi j x hx, fun j => by rw [World.frozen?_setCells]; exact h.free j, h.len⟩

/-- What lies where. -/
structure Lies (w : World) (F : Nat → Prop) (p bs bl : Nat) (v : Value) (d : Dk) (L : Nat → List UInt8) : Prop where
  c0 : w.cell? ⟨p, 0, none⟩ = some (.slice (some ⟨bs, 0, none⟩) d.n d.n)
  c1 : w.cell? ⟨p, 1, none⟩ = some (.slice (some ⟨bl, 0, none⟩) d.n d.n)
  c2 : w.cell? ⟨p, 2, none⟩ = some v
  c3 : w.cell? ⟨p, 3, none⟩ = some (.int .i64 d.fuse)
  c4 : w.cell? ⟨p, 4, none⟩ = some (.bool d.off)
  free : ∀ j, w.frozen? ⟨p, j, none⟩ = false
  sure : Secs w bs d.n d.S
  last : Secs w bl d.n L
  own : w.ownsRow 0 103 33 v d.Q.length (d.Q.flatMap qv)
  ps : p ≠ bs
  pl : p ≠ bl
  sl : bs ≠ bl
  pv : v.ownBlock ≠ some p
  sv : v.ownBlock ≠ some bs
  lv : v.ownBlock ≠ some bl
  fp : F p
  fs : F bs
  fl : F bl
  fv : ∀ k, v.ownBlock = some k → F k
  lt : ∀ k, F k → k < w.heap.size
  qs : ∀ q, q ∈ d.Q → q.1 < d.n ∧ q.2.length = 32
  n1 : 1 ≤ d.n
  n2 : d.n ≤ 4096
  fu : -1 ≤ d.fuse ∧ d.fuse ≤ 9223372036854775807

/-- A disk that lies in memory, in blocks of F alone. -/
def Disk (w : World) (F : Nat → Prop) (p : Nat) (d : Dk) : Prop := ∃ bs bl v, Lies w F p bs bl v d d.last

theorem ownsRow_kept {w w' : World} {base : Nat} {e : TypeId} {size : Nat} {v : Value} {n : Nat} {xs : List Value} (h : w.ownsRow base e size v n xs) (hb : ∀ k, v.ownBlock = some k → w'.heap[k]? = w.heap[k]?) : w'.ownsRow base e size v n xs := by
  refine ⟨h.1, ?_⟩
  rcases h.2 with hn | ⟨g, cap, cur, hv, h1, h2, h3⟩
  · exact .inl hn
  · refine .inr ⟨g, cap, cur, hv, h1, ?_, h3⟩
    rw [hb g (by rw [hv]; rfl)]; exact h2

theorem Lies.kept {w w' : World} {F G : Nat → Prop} {p bs bl : Nat} {v : Value} {d : Dk} {L : Nat → List UInt8} (h : Lies w F p bs bl v d L) (k : Kept G w w') (hd : ∀ i, F i → ¬ G i) : Lies w' F p bs bl v d L := by
  have hp := k.block p (h.lt p h.fp) (hd p h.fp)
  have hs := k.block bs (h.lt bs h.fs) (hd bs h.fs)
  have hl := k.block bl (h.lt bl h.fl) (hd bl h.fl)
  have hc : ∀ j, w'.cell? ⟨p, j, none⟩ = w.cell? ⟨p, j, none⟩ := fun j => World.cell?_of_block (w := w) (a := ⟨p, j, none⟩) hp
  exact { c0 := (hc _).trans h.c0, c1 := (hc _).trans h.c1, c2 := (hc _).trans h.c2, c3 := (hc _).trans h.c3, c4 := (hc _).trans h.c4,
          free := fun j => (World.frozen?_of_block (w := w) (a := ⟨p, j, none⟩) hp).trans (h.free j), sure := h.sure.of_block hs, last := h.last.of_block hl,
          own := ownsRow_kept h.own (fun i hi => k.block i (h.lt i (h.fv i hi)) (hd i (h.fv i hi))), ps := h.ps, pl := h.pl, sl := h.sl, pv := h.pv, sv := h.sv, lv := h.lv,
          fp := h.fp, fs := h.fs, fl := h.fl, fv := h.fv, lt := fun i hi => Nat.lt_of_lt_of_le (h.lt i hi) k.size, qs := h.qs, n1 := h.n1, n2 := h.n2, fu := h.fu }

theorem Disk.kept {w w' : World} {F G : Nat → Prop} {p : Nat} {d : Dk} (h : Disk w F p d) (k : Kept G w w') (hd : ∀ i, F i → ¬ G i) : Disk w' F p d := by
  obtain ⟨bs, bl, v, h⟩ := h
  exact ⟨bs, bl, v, h.kept k hd⟩
end Go.Proofs.Ytbjijacpgklegaa
