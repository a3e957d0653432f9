/- A disk in memory: what lies where, and what stays. The small methods of a disk: Size, has, Off, Waits, spend, Fuse. Read, and the fields of a disk. New. Steps of a walk by what an operation's run is: for arrays by value, which are not to be laid open cell by cell. Write. -/
import Derived.Test.YthfhjfemcmdmfaaRows
import Derived.WalkKit
import Derived.ProofKit
import Derived.OpenShut
import Derived.WalkSpells
import Derived.Handy
import Derived.Below
import Derived.Laws.IdiomCopy
import Derived.Laws.OwnMore
import Derived.Laws.AppendOwn
import Derived.Lib.LazyBuf
import Derived.Laws.MakeOwn
import Derived.Deep.RegionLaw
import Derived.StillTailTactics
import Derived.Great.BuildSlice
import Derived.Maps.AppendAt
namespace Go.Proofs.Ythfhjfemcmdmfaa
open Go.ChangeShapes Go.WideShapes Go.ChangeAt Go.RowKit
set_option linter.unusedVariables false
set_option maxRecDepth 100000

/-- What stays: all blocks that were there, but those of F. -/
structure Kept (F : Nat → Prop) (w w' : World) : Prop where
  os : w'.os = w.os
  tape : w'.tape = w.tape
  output : w'.output = w.output
  size : w.heap.size ≤ w'.heap.size
  block : ∀ k, k < w.heap.size → ¬ F k → w'.heap[k]? = w.heap[k]?

theorem Kept.refl (F : Nat → Prop) (w : World) : Kept F w w := ⟨rfl, rfl, rfl, Nat.le_refl _, fun _ _ _ => rfl⟩
theorem Kept.trans {F F' : Nat → Prop} {a b c : World} (h : Kept F a b) (k : Kept F' b c) (hF : ∀ i, F' i → F i ∨ a.heap.size ≤ i) : Kept F a c :=
  ⟨k.os.trans h.os, k.tape.trans h.tape, k.output.trans h.output, Nat.le_trans h.size k.size, fun i hi hn =>
    (k.block i (Nat.lt_of_lt_of_le hi h.size) (fun q => (hF i q).elim hn (fun q => absurd hi (Nat.not_lt.2 q)))).trans (h.block i hi hn)⟩
theorem Kept.mono {F F' : Nat → Prop} {a b : World} (h : Kept F a b) (hF : ∀ i, F i → F' i) : Kept F' a b :=
  ⟨h.os, h.tape, h.output, h.size, fun i hi hn => h.block i hi (fun q => hn (hF i q))⟩
theorem Kept.drew {F : Nat → Prop} {a w : World} (h : Kept F a w) : Kept F a w.drew := ⟨h.os, h.tape, h.output, h.size, h.block⟩
theorem Kept.alloc {F : Nat → Prop} {a w : World} (h : Kept F a w) (o : Obj) : Kept F a (w.alloc o) :=
  ⟨h.os, h.tape, h.output, by simp; have := h.size; omega, fun i hi hn => (Below.heap_alloc w o i (Nat.lt_of_lt_of_le hi h.size)).trans (h.block i hi hn)⟩
theorem Kept.setCell {F : Nat → Prop} {a w : World} (h : Kept F a w) {p : Addr} (hp : F p.block ∨ a.heap.size ≤ p.block) (u : Value) : Kept F a (w.setCell p u) :=
  ⟨h.os, h.tape, h.output, by simpa using h.size, fun i hi hn => (Below.heap_setCell w p u i (fun e => by subst e; exact hp.elim hn (fun q => absurd hi (Nat.not_lt.2 q)))).trans (h.block i hi hn)⟩
theorem Kept.setCells {F : Nat → Prop} {a : World} {b : Nat} (hb : F b ∨ a.heap.size ≤ b) : ∀ (vs : List Value) (o : Nat) (w : World), Kept F a w → Kept F a (w.setCells b o vs)
  | [], _, _, h => h
  | v :: r, o, w, h => Kept.setCells hb r (o + 1) _ (h.setCell (p := ⟨b, o, none⟩) hb v)
theorem Kept.grown {F : Nat → Prop} {a w w' : World} {row : Option Nat} (h : Kept F a w) (hg : w.grownBy w' row) (hr : ∀ k, row = some k → F k ∨ a.heap.size ≤ k) : Kept F a w' :=
  ⟨hg.os.trans h.os, hg.tape.trans h.tape, hg.output.trans h.output, Nat.le_trans h.size hg.size, fun i hi hn =>
    (hg.block i (Nat.lt_of_lt_of_le hi h.size) (fun e => (hr i e.symm).elim hn (fun q => absurd hi (Nat.not_lt.2 q)))).trans (h.block i hi hn)⟩
theorem Kept.below {F : Nat → Prop} {a b : World} (h : Kept F a b) {B : Nat} (hB : B ≤ a.heap.size) (hF : ∀ k, F k → B ≤ k) : Below B a b :=
  ⟨h.os, h.tape, h.output, h.size, fun k hk => h.block k (Nat.lt_of_lt_of_le hk hB) (fun q => absurd hk (Nat.not_lt.2 (hF k q)))⟩
theorem Kept.cell {F : Nat → Prop} {a b : World} (h : Kept F a b) {p : Addr} {v : Value} (hc : a.cell? p = some v) (hn : ¬ F p.block) : b.cell? p = some v :=
  (World.cell?_of_block (w := a) (h.block p.block (World.block_lt_of_cell? a p hc) hn)).trans hc

/-- The cells of bytes. -/
def bv (l : List UInt8) : List Value := l.map fun x => Value.int .u8 (x.toNat : Int)
theorem bv_len (l : List UInt8) : (bv l).length = l.length := by simp [bv]
theorem bv_one (l : List UInt8) : ∀ v ∈ bv l, v.oneCell' = true := by
  intro v hv
  obtain ⟨x, _, rfl⟩ := List.mem_map.1 hv
  rfl
theorem bv_take (l : List UInt8) (n : Nat) : bv (l.take n) = (bv l).take n := by simp [bv]
theorem bv_drop (l : List UInt8) (n : Nat) : bv (l.drop n) = (bv l).drop n := by simp [bv]
theorem bv_append (l m : List UInt8) : bv (l ++ m) = bv l ++ bv m := by simp [bv]

/-- A write that waits, in cells. -/
def qv (q : Nat × List UInt8) : List Value := Value.int .i64 (q.1 : Int) :: bv q.2

/-- A disk: its sectors as they are sure, the writes that wait, the fuse, the power. -/
structure Dk where
  n : Nat
  S : Nat → List UInt8
  Q : List (Nat × List UInt8)
  fuse : Int
  off : Bool

/-- A sector behind writes. -/
def behind (s : List UInt8) (i : Nat) (Q : List (Nat × List UInt8)) : List UInt8 := Q.foldl (fun s q => if q.1 = i then q.2 else s) s
def Dk.last (d : Dk) (i : Nat) : List UInt8 := behind (d.S i) i d.Q
/-- Sectors with one of them another one. -/
def put (S : Nat → List UInt8) (a : Nat) (t : List UInt8) (i : Nat) : List UInt8 := if i = a then t else S i

/-- A list of sectors in a block. -/
structure Secs (w : World) (b n : Nat) (S : Nat → List UInt8) : Prop where
  cell : ∀ i, i < n → ∀ j x, (bv (S i))[j]? = some x → w.cell? ⟨b, i * 32 + j, none⟩ = some x
  free : ∀ j, w.frozen? ⟨b, j, none⟩ = false
  len : ∀ i, i < n → (S i).length = 32

theorem Secs.of_block {w w' : World} {b n : Nat} {S : Nat → List UInt8} (h : Secs w b n S) (hb : w'.heap[b]? = w.heap[b]?) : Secs w' b n S :=
  ⟨fun i hi j x hx => (World.cell?_of_block (w := w) (a := ⟨b, i * 32 + j, none⟩) hb).trans (h.cell i hi j x hx), fun j => (World.frozen?_of_block (w := w) (a := ⟨b, j, none⟩) hb).trans (h.free j), h.len⟩

theorem Secs.some_at {w : World} {b n : Nat} {S : Nat → List UInt8} (h : Secs w b n S) {i : Nat} (hi : i < n) {j : Nat} (hj : j < 32) : (w.cell? ⟨b, i * 32 + j, none⟩).isSome = true := by
  have hl := h.len i hi
  have := h.cell i hi j _ (List.getElem?_eq_getElem (by rw [bv_len]; omega))
  rw [this]; rfl

/-- The first bytes of a sector are others. -/
theorem Secs.store {w : World} {b n : Nat} {S : Nat → List UInt8} (h : Secs w b n S) {a : Nat} (ha : a < n) (t : List UInt8) (ht : t.length ≤ 32) :
    Secs (w.setCells b (a * 32) (bv t)) b n (put S a (t ++ (S a).drop t.length)) := by
  refine ⟨fun i hi j x hx => ?_, fun j => by rw [World.frozen?_setCells]; exact h.free j, fun i hi => ?_⟩
  · unfold put at hx
    split at hx
    · rename_i e
      subst e
      have hl := h.len i hi
      by_cases hj : j < t.length
      · have hc := World.cell?_setCells_in b (bv t) (i * 32) w (fun k hk => h.some_at hi (by rw [bv_len] at hk; omega)) j (by rw [bv_len]; exact hj)
        rw [hc]
        rw [bv_append, List.getElem?_append_left (by rw [bv_len]; exact hj), List.getElem?_eq_getElem (by rw [bv_len]; exact hj)] at hx
        exact hx
      · rw [World.cell?_setCells_out b (bv t) (i * 32) w _ (fun _ _ => .inr (by simp only [bv_len]; omega))]
        apply h.cell i hi j x
        rw [bv_append, List.getElem?_append_right (by rw [bv_len]; omega), bv_len, bv_drop, List.getElem?_drop] at hx
        rw [← hx]; congr 1; omega
    · rename_i e
      have hl := h.len i hi
      have hj : j < 32 := by
        have := (List.getElem?_eq_some_iff.1 hx).1
        rw [bv_len] at this; omega
      rw [World.cell?_setCells_out b (bv t) (a * 32) w _ (fun _ _ => by simp only [bv_len]; omega)]
      exact h.cell i hi j x hx
  · unfold put
    split
    · rename_i e
      subst e
      have := h.len i hi
      simp; omega
    · exact h.len i hi

theorem put_whole (S : Nat → List UInt8) (a : Nat) (t : List UInt8) (h : (S a).length ≤ t.length) : put S a (t ++ (S a).drop t.length) = put S a t := by
  rw [List.drop_eq_nil_of_le h, List.append_nil]

theorem Secs.other {w : World} {b n : Nat} {S : Nat → List UInt8} (h : Secs w b n S) {g : Nat} (hg : b ≠ g) : ∀ (vs : List Value) (o : Nat), Secs (w.setCells g o vs) b n S := fun vs o =>
  ⟨fun i hi j x hx => by rw [World.cell?_setCells_out g vs o w _ (fun e _ => absurd e hg)]; exact h.cell i hi j x hx, fun j => by rw [World.frozen?_setCells]; exact h.free j, h.len⟩

/-- What lies where. -/
structure Lies (w : World) (F : Nat → Prop) (p bs bl : Nat) (v : Value) (d : Dk) (L : Nat → List UInt8) : Prop where
  c0 : w.cell? ⟨p, 0, none⟩ = some (.slice (some ⟨bs, 0, none⟩) d.n d.n)
  c1 : w.cell? ⟨p, 1, none⟩ = some (.slice (some ⟨bl, 0, none⟩) d.n d.n)
  c2 : w.cell? ⟨p, 2, none⟩ = some v
  c3 : w.cell? ⟨p, 3, none⟩ = some (.int .i64 d.fuse)
  c4 : w.cell? ⟨p, 4, none⟩ = some (.bool d.off)
  free : ∀ j, w.frozen? ⟨p, j, none⟩ = false
  sure : Secs w bs d.n d.S
  last : Secs w bl d.n L
  own : w.ownsRow 0 103 33 v d.Q.length (d.Q.flatMap qv)
  ps : p ≠ bs
  pl : p ≠ bl
  sl : bs ≠ bl
  pv : v.ownBlock ≠ some p
  sv : v.ownBlock ≠ some bs
  lv : v.ownBlock ≠ some bl
  fp : F p
  fs : F bs
  fl : F bl
  fv : ∀ k, v.ownBlock = some k → F k
  lt : ∀ k, F k → k < w.heap.size
  qs : ∀ q, q ∈ d.Q → q.1 < d.n ∧ q.2.length = 32
  n1 : 1 ≤ d.n
  n2 : d.n ≤ 4096
  fu : -1 ≤ d.fuse ∧ d.fuse ≤ 9223372036854775807

/-- A disk that lies in memory, in blocks of F alone. -/
def Disk (w : World) (F : Nat → Prop) (p : Nat) (d : Dk) : Prop := ∃ bs bl v, Lies w F p bs bl v d d.last

theorem ownsRow_kept {w w' : World} {base : Nat} {e : TypeId} {size : Nat} {v : Value} {n : Nat} {xs : List Value} (h : w.ownsRow base e size v n xs) (hb : ∀ k, v.ownBlock = some k → w'.heap[k]? = w.heap[k]?) : w'.ownsRow base e size v n xs := by
  refine ⟨h.1, ?_⟩
  rcases h.2 with hn | ⟨g, cap, cur, hv, h1, h2, h3⟩
  · exact .inl hn
  · refine .inr ⟨g, cap, cur, hv, h1, ?_, h3⟩
    rw [hb g (by rw [hv]; rfl)]; exact h2

theorem Lies.kept {w w' : World} {F G : Nat → Prop} {p bs bl : Nat} {v : Value} {d : Dk} {L : Nat → List UInt8} (h : Lies w F p bs bl v d L) (k : Kept G w w') (hd : ∀ i, F i → ¬ G i) : Lies w' F p bs bl v d L := by
  have hp := k.block p (h.lt p h.fp) (hd p h.fp)
  have hs := k.block bs (h.lt bs h.fs) (hd bs h.fs)
  have hl := k.block bl (h.lt bl h.fl) (hd bl h.fl)
  have hc : ∀ j, w'.cell? ⟨p, j, none⟩ = w.cell? ⟨p, j, none⟩ := fun j => World.cell?_of_block (w := w) (a := ⟨p, j, none⟩) hp
  exact { c0 := (hc _).trans h.c0, c1 := (hc _).trans h.c1, c2 := (hc _).trans h.c2, c3 := (hc _).trans h.c3, c4 := (hc _).trans h.c4,
          free := fun j => (World.frozen?_of_block (w := w) (a := ⟨p, j, none⟩) hp).trans (h.free j), sure := h.sure.of_block hs, last := h.last.of_block hl,
          own := ownsRow_kept h.own (fun i hi => k.block i (h.lt i (h.fv i hi)) (hd i (h.fv i hi))), ps := h.ps, pl := h.pl, sl := h.sl, pv := h.pv, sv := h.sv, lv := h.lv,
          fp := h.fp, fs := h.fs, fl := h.fl, fv := h.fv, lt := fun i hi => Nat.lt_of_lt_of_le (h.lt i hi) k.size, qs := h.qs, n1 := h.n1, n2 := h.n2, fu := h.fu }

theorem Disk.kept {w w' : World} {F G : Nat → Prop} {p : Nat} {d : Dk} (h : Disk w F p d) (k : Kept G w w') (hd : ∀ i, F i → ¬ G i) : Disk w' F p d := by
  obtain ⟨bs, bl, v, h⟩ := h
  exact ⟨bs, bl, v, h.kept k hd⟩
end Go.Proofs.Ythfhjfemcmdmfaa

namespace Go.Proofs.Ythfhjfemcmdmfaa
open Go.ChangeShapes Go.WideShapes Go.ChangeAt Go.RowKit
set_option linter.unusedVariables false
set_option maxRecDepth 100000

/-- How many sectors a disk has: of a nil one 0. -/
def Szd (w : World) (v : Value) (n : Nat) : Prop := (v = .pointer none ∧ n = 0) ∨ ∃ p a c, v = .pointer (some ⟨p, 0, none⟩) ∧ w.cell? ⟨p, 1, none⟩ = some (.slice a n c)

theorem size_is (v : Value) (n : Nat) (w : World) (h : Szd w v n) : Calls Try.prog 35 #[v] w fun e w' => e = .returned (.int .i64 (n : Int)) ∧ w' = w := by
  rcases h with ⟨rfl, rfl⟩ | ⟨p, a, c, rfl, h⟩
  · go_enter Try.func35, Try.ntmps35
    go_wp2
    go_ret
    exact ⟨rfl, rfl⟩
  · go_enter Try.func35, Try.ntmps35
    go_wp2
    go_ret
    exact ⟨rfl, rfl⟩

theorem has_is (v : Value) (n : Nat) (at_ : Int) (w : World) (h : Szd w v n) : Calls Try.prog 55 #[v, .int .i64 at_] w fun e w' => e = .returned (.bool (decide (0 ≤ at_ ∧ at_ < (n : Int)))) ∧ w' = w := by
  have H := (show Hid _ from size_is v n w h)
  clear h
  by_cases h0 : 0 ≤ at_
  · have e : decide (0 ≤ at_ ∧ at_ < (n : Int)) = decide (at_ < (n : Int)) := by simp [h0]
    rw [e]; clear e
    go_enter Try.func55, Try.ntmps55
    go_wp2_with fail
    refine Calls.mono H.out ?_; rintro e w1 ⟨rfl, rfl⟩
    go_wp2_with fail
    go_ret
    exact ⟨rfl, rfl⟩
  · have e : decide (0 ≤ at_ ∧ at_ < (n : Int)) = false := decide_eq_false (fun q => h0 q.1)
    rw [e]; clear e
    go_enter Try.func55, Try.ntmps55
    go_wp2_with fail
    go_ret
    exact ⟨rfl, rfl⟩

theorem off_nil (w : World) : Calls Try.prog 49 #[.pointer none] w fun e w' => e = .returned (.bool false) ∧ w' = w := by
  go_enter Try.func49, Try.ntmps49
  go_wp2
  go_ret
  exact ⟨rfl, rfl⟩
theorem off_at (p : Nat) (b : Bool) (w : World) (h : w.cell? ⟨p, 4, none⟩ = some (.bool b)) : Calls Try.prog 49 #[.pointer (some ⟨p, 0, none⟩)] w fun e w' => e = .returned (.bool b) ∧ w' = w := by
  go_enter Try.func49, Try.ntmps49
  go_wp2
  go_ret
  exact ⟨rfl, rfl⟩

/-- The fuse behind a write or a flush, the power, and whether it was let be. -/
def burn (fuse : Int) (off : Bool) : Int × Bool × Bool :=
  if fuse = 0 then (-1, true, false) else if off then (fuse, true, false) else (if 0 < fuse then fuse - 1 else fuse, false, true)

theorem spend_is (p : Nat) (fuse : Int) (off : Bool) (w : World) (h3 : w.cell? ⟨p, 3, none⟩ = some (.int .i64 fuse)) (h4 : w.cell? ⟨p, 4, none⟩ = some (.bool off))
    (hf : ∀ j, w.frozen? ⟨p, j, none⟩ = false) (hb : -1 ≤ fuse ∧ fuse ≤ 9223372036854775807) :
    Calls Try.prog 68 #[.pointer (some ⟨p, 0, none⟩)] w fun e w' => e = .returned (.bool (burn fuse off).2.2) ∧
      (w' = w ∨ ∃ v, w' = w.setCell ⟨p, 3, none⟩ v ∨ w' = (w.setCell ⟨p, 4, none⟩ (.bool true)).setCell ⟨p, 3, none⟩ v) ∧
      w'.cell? ⟨p, 3, none⟩ = some (.int .i64 (burn fuse off).1) ∧ w'.cell? ⟨p, 4, none⟩ = some (.bool (burn fuse off).2.1) := by
  have f3 := hf 3
  have f4 := hf 4
  clear hf
  by_cases c0 : fuse = 0
  · subst c0
    have e : burn 0 off = (-1, true, false) := rfl
    rw [e]; clear e
    go_enter Try.func68, Try.ntmps68
    go_wp2
    go_ret
    refine ⟨rfl, .inr ⟨_, .inr rfl⟩, ?_, ?_⟩
    · simp [go_sem, h3]
    · simp [go_sem, h4]
  · have g0 : (fuse == 0) = false := by simpa using c0
    cases off with
    | true =>
      have e : burn fuse true = (fuse, true, false) := by simp [burn, c0]
      rw [e]; clear e c0
      go_enter Try.func68, Try.ntmps68
      go_wp2
      go_ret
      exact ⟨rfl, .inl rfl, h3, h4⟩
    | false =>
      by_cases c1 : 0 < fuse
      · have e : burn fuse false = (fuse - 1, false, true) := by simp [burn, c0, c1]
        rw [e]; clear e c0
        go_enter Try.func68, Try.ntmps68
        go_wp2
        go_ret
        refine ⟨rfl, .inr ⟨_, .inl rfl⟩, ?_, ?_⟩
        · simp [go_sem, h3]
        · simp [go_sem, h4]
      · have e : burn fuse false = (fuse, false, true) := by simp [burn, c0, c1]
        rw [e]; clear e c0
        go_enter Try.func68, Try.ntmps68
        go_wp2
        go_ret
        exact ⟨rfl, .inl rfl, h3, h4⟩

theorem fuse_no (v : Value) (n : Int) (w : World) (h : Szd w v 0) : Calls Try.prog 20 #[v, .int .i64 n] w fun e w' => e = .returned (.int .i64 1) ∧ w' = w := by
  have H := (show Hid _ from size_is v 0 w h)
  clear h
  go_enter Try.func20, Try.ntmps20
  go_wp2_with fail
  refine Calls.mono H.out ?_; rintro e w1 ⟨rfl, rfl⟩
  go_wp2_with fail
  go_ret
  exact ⟨rfl, rfl⟩
end Go.Proofs.Ythfhjfemcmdmfaa

namespace Go.Proofs.Ythfhjfemcmdmfaa
open Go.ChangeShapes Go.WideShapes Go.ChangeAt Go.RowKit
set_option linter.unusedVariables false
set_option maxRecDepth 100000

theorem Disk.szd {w : World} {F : Nat → Prop} {p : Nat} {d : Dk} (h : Disk w F p d) : Szd w (.pointer (some ⟨p, 0, none⟩)) d.n := by
  obtain ⟨bs, bl, v, h⟩ := h
  exact .inr ⟨p, _, _, rfl, h.c1⟩

theorem Lies.field {w w' : World} {F : Nat → Prop} {p bs bl : Nat} {v : Value} {d : Dk} {L : Nat → List UInt8} (h : Lies w F p bs bl v d L) (k : Kept (fun i => i = p) w w')
    (e : ∀ j, j < 3 → w'.cell? ⟨p, j, none⟩ = w.cell? ⟨p, j, none⟩) (fr : ∀ j, w'.frozen? ⟨p, j, none⟩ = w.frozen? ⟨p, j, none⟩) (fuse : Int) (off : Bool)
    (c3 : w'.cell? ⟨p, 3, none⟩ = some (.int .i64 fuse)) (c4 : w'.cell? ⟨p, 4, none⟩ = some (.bool off)) (fu : -1 ≤ fuse ∧ fuse ≤ 9223372036854775807) :
    Lies w' F p bs bl v { d with fuse := fuse, off := off } L := by
  have hs := k.block bs (h.lt bs h.fs) (fun q => h.ps q.symm)
  have hl := k.block bl (h.lt bl h.fl) (fun q => h.pl q.symm)
  exact { c0 := (e 0 (by omega)).trans h.c0, c1 := (e 1 (by omega)).trans h.c1, c2 := (e 2 (by omega)).trans h.c2, c3 := c3, c4 := c4,
          free := fun j => (fr j).trans (h.free j), sure := h.sure.of_block hs, last := h.last.of_block hl,
          own := ownsRow_kept h.own (fun i hi => k.block i (h.lt i (h.fv i hi)) (fun q => h.pv (q ▸ hi))), ps := h.ps, pl := h.pl, sl := h.sl, pv := h.pv, sv := h.sv, lv := h.lv,
          fp := h.fp, fs := h.fs, fl := h.fl, fv := h.fv, lt := fun i hi => Nat.lt_of_lt_of_le (h.lt i hi) k.size, qs := h.qs, n1 := h.n1, n2 := h.n2, fu := fu }

theorem burn_fits (fuse : Int) (off : Bool) (h : -1 ≤ fuse ∧ fuse ≤ 9223372036854775807) : -1 ≤ (burn fuse off).1 ∧ (burn fuse off).1 ≤ 9223372036854775807 := by
  unfold burn
  split
  · simp
  · split
    · exact h
    · simp only
      split <;> omega

theorem spend_lies {w : World} {F : Nat → Prop} {p bs bl : Nat} {v : Value} {d : Dk} {L : Nat → List UInt8} (h : Lies w F p bs bl v d L) :
    Calls Try.prog 68 #[.pointer (some ⟨p, 0, none⟩)] w fun e w' => e = .returned (.bool (burn d.fuse d.off).2.2) ∧
      Lies w' F p bs bl v { d with fuse := (burn d.fuse d.off).1, off := (burn d.fuse d.off).2.1 } L ∧ Kept (fun i => i = p) w w' ∧ w'.heap.size = w.heap.size := by
  refine (spend_is p d.fuse d.off w h.c3 h.c4 h.free h.fu).mono ?_
  rintro e w' ⟨rfl, hw, h3, h4⟩
  rcases hw with rfl | ⟨u, rfl | rfl⟩
  · exact ⟨rfl, h.field (Kept.refl _ _) (fun _ _ => rfl) (fun _ => rfl) _ _ h3 h4 (burn_fits _ _ h.fu), Kept.refl _ _, rfl⟩
  · have k : Kept (fun i => i = p) w (w.setCell ⟨p, 3, none⟩ u) := (Kept.refl (fun i => i = p) w).setCell (p := ⟨p, 3, none⟩) (.inl rfl) u
    refine ⟨rfl, h.field k (fun j hj => ?_) (fun j => by simp) _ _ h3 h4 (burn_fits _ _ h.fu), k, by simp⟩
    rw [World.cell?_setCell_other _ _ _ _ (by simp <;> omega)]
  · have k : Kept (fun i => i = p) w ((w.setCell ⟨p, 4, none⟩ (.bool true)).setCell ⟨p, 3, none⟩ u) := ((Kept.refl (fun i => i = p) w).setCell (p := ⟨p, 4, none⟩) (.inl rfl) _).setCell (p := ⟨p, 3, none⟩) (.inl rfl) u
    refine ⟨rfl, h.field k (fun j hj => ?_) (fun j => by simp) _ _ h3 h4 (burn_fits _ _ h.fu), k, by simp⟩
    rw [World.cell?_setCell_other _ _ _ _ (by simp <;> omega), World.cell?_setCell_other _ _ _ _ (by simp <;> omega)]

theorem Secs.text {w : World} {b n : Nat} {S : Nat → List UInt8} (h : Secs w b n S) {a : Nat} (ha : a < n) (c : Nat) :
    (convert 80 9 (.slice (some ⟨b, a * 32, none⟩) 32 c)).run Try.prog w = .ok (.string ⟨(S a).toArray⟩) w := by
  have hl := h.len a ha
  have := run_convert_bytes_back (P := Try.prog) w 80 9 5 ⟨b, a * 32, none⟩ c (S a) Try.underlying80 Try.underlying5 Try.underlying9 (fun j hj => by
    rw [Go.WideShapes.add_plain]
    exact h.cell a ha j _ (by simp [bv, List.getElem?_eq_getElem hj]))
  rw [hl] at this
  exact this

theorem read_no (v : Value) (n : Nat) (at_ : Int) (w : World) (h : Szd w v n) (ha : ¬ (0 ≤ at_ ∧ at_ < (n : Int))) :
    Calls Try.prog 27 #[v, .int .i64 at_] w fun e w' => e = .returned (.tuple #[.string ⟨#[]⟩, .int .i64 1]) ∧ w' = w := by
  have H := (show Hid _ from has_is v n at_ w h)
  rw [decide_eq_false ha] at H
  clear h
  go_enter Try.func27, Try.ntmps27
  go_wp2_with fail
  refine Calls.mono H.out ?_; rintro e w1 ⟨rfl, rfl⟩
  go_wp2_with fail
  go_ret2
  exact ⟨rfl, rfl⟩

theorem read_is {w : World} {F : Nat → Prop} {p : Nat} {d : Dk} (h : Disk w F p d) (a : Nat) (ha : a < d.n) :
    Calls Try.prog 27 #[.pointer (some ⟨p, 0, none⟩), .int .i64 (a : Int)] w fun e w' => e = .returned (if d.off then .tuple #[.string ⟨#[]⟩, .int .i64 30] else .tuple #[.string ⟨(d.last a).toArray⟩, .int .i64 0]) ∧ w' = w := by
  have H := (show Hid _ from has_is _ d.n (a : Int) w h.szd)
  rw [decide_eq_true (by omega)] at H
  obtain ⟨bs, bl, v, h⟩ := h
  have ht := h.last.text ha 32
  have h1 := h.c1
  have h4 := h.c4
  have ha' : (a : Int) < (d.n : Int) := by omega
  generalize d.last a = T at *
  generalize d.off = off at *
  generalize d.n = n at *
  clear h
  cases off with
  | true =>
    go_enter Try.func27, Try.ntmps27
    go_wp2_with fail
    refine Calls.mono H.out ?_; rintro e w1 ⟨rfl, rfl⟩
    go_wp2_with fail
    go_ret2
    exact ⟨rfl, rfl⟩
  | false =>
    go_enter Try.func27, Try.ntmps27
    go_wp2_with fail
    refine Calls.mono H.out ?_; rintro e w1 ⟨rfl, rfl⟩
    go_wp2_with fail
    go_ret2
    exact ⟨rfl, rfl⟩
end Go.Proofs.Ythfhjfemcmdmfaa

namespace Go.Proofs.Ythfhjfemcmdmfaa
open Go.ChangeShapes Go.WideShapes Go.ChangeAt Go.RowKit
set_option linter.unusedVariables false
set_option maxRecDepth 100000

theorem Try.info101 : (Try.prog.info? 101).map (fun i => (i.zero, i.size, i.bytes)) = some (some (.agg (Array.replicate 32 (.int .u8 0))), 32, 32) := by kernel_rfl

theorem make_secs (n : Nat) (hn : n ≤ 4096) : ∃ Z : Array Value, (∀ w, (Instr.makeSlice 66 (.int .i64 n) (.int .i64 n)).run Try.prog w = .ok (.slice (some ⟨w.heap.size, 0, none⟩) n n) (w.alloc (.cells Z 101))) ∧
    ∀ j, j < n * 32 → Z[j]? = some (.int .u8 0) := by
  obtain ⟨i, hi, hz, h1, h2⟩ : ∃ i, Try.prog.info? 101 = some i ∧ i.zero = some (.agg (Array.replicate 32 (.int .u8 0))) ∧ i.size = 32 ∧ i.bytes = 32 := by
    have h := Try.info101
    cases hi : Try.prog.info? 101 with
    | none => rw [hi] at h; cases h
    | some i =>
      rw [hi] at h
      simp only [Option.map_some, Option.some.injEq, Prod.mk.injEq] at h
      exact ⟨i, rfl, h⟩
  refine ⟨madeCells (Array.replicate 32 (.int .u8 0)) (n * 32), fun w => ?_, fun j hj => ?_⟩
  · have hr := run_make (P := Try.prog) w 66 101 i _ Try.underlying66 hi hz .i64 .i64 n n (by omega) (Int.le_refl _) (by rw [h2]; omega) (by omega)
    rw [Int.toNat_natCast, h1] at hr
    exact hr
  · unfold madeCells
    rw [Array.getElem?_map, Array.getElem?_eq_getElem (by simpa using hj)]
    have hm : j % 32 < 32 := Nat.mod_lt _ (by omega)
    simp [hm]

theorem new_no (n : Int) (w : World) (h : ¬ (1 ≤ n ∧ n ≤ 4096)) : Calls Try.prog 14 #[.int .i64 n] w fun e w' => e = .returned (.tuple #[.pointer none, .int .i64 1]) ∧ w' = w := by
  by_cases c : n < 1
  · go_enter Try.func14, Try.ntmps14
    go_wp2
    go_ret2
    exact ⟨rfl, rfl⟩
  · have c' : 4096 < n := by omega
    go_enter Try.func14, Try.ntmps14
    go_wp2
    go_ret2
    exact ⟨rfl, rfl⟩

/-- A disk as it is made. -/
def fresh (n : Nat) : Dk := { n := n, S := fun _ => List.replicate 32 0, Q := [], fuse := -1, off := false }

theorem fresh_lies (n : Nat) (h1 : 1 ≤ n) (h2 : n ≤ 4096) (w : World) (Z : Array Value) (hZ : ∀ j, j < n * 32 → Z[j]? = some (.int .u8 0)) (bs bl : Nat)
    (hb : (bs = w.heap.size ∧ bl = w.heap.size + 1) ∨ (bl = w.heap.size ∧ bs = w.heap.size + 1)) :
    ∃ F, Disk (((w.alloc (.cells Z 101)).alloc (.cells Z 101)).alloc (.cells #[.slice (some ⟨bs, 0, none⟩) n n, .slice (some ⟨bl, 0, none⟩) n n, .slice none 0 0, .int .i64 (-1), .bool false] 69)).drew F (w.heap.size + 1 + 1) (fresh n) ∧
      ∀ k, F k → w.heap.size ≤ k := by
  generalize hC : (#[.slice (some ⟨bs, 0, none⟩) n n, .slice (some ⟨bl, 0, none⟩) n n, .slice none 0 0, .int .i64 (-1), .bool false] : Array Value) = C
  generalize hW : (((w.alloc (.cells Z 101)).alloc (.cells Z 101)).alloc (.cells C 69)).drew = W
  have hs : W.heap.size = w.heap.size + 3 := by rw [← hW]; simp
  have b0 : W.heap[w.heap.size]? = some (.cells Z 101) := by
    rw [← hW]
    show (Array.push (Array.push (Array.push w.heap (.cells Z 101)) (.cells Z 101)) (.cells C 69))[w.heap.size]? = _
    simp [Array.getElem?_push]
    omega
  have b1 : W.heap[w.heap.size + 1]? = some (.cells Z 101) := by
    rw [← hW]
    show (Array.push (Array.push (Array.push w.heap (.cells Z 101)) (.cells Z 101)) (.cells C 69))[w.heap.size + 1]? = _
    rw [Array.getElem?_push, Array.size_push, Array.size_push]
    rw [if_neg (by omega), Array.getElem?_push, Array.size_push, if_pos rfl]
  have b2 : W.heap[w.heap.size + 1 + 1]? = some (.cells C 69) := by
    rw [← hW]
    show (Array.push (Array.push (Array.push w.heap (.cells Z 101)) (.cells Z 101)) (.cells C 69))[w.heap.size + 1 + 1]? = _
    rw [Array.getElem?_push, Array.size_push, Array.size_push]
    rw [if_pos rfl]
  have sec : ∀ b, W.heap[b]? = some (.cells Z 101) → Secs W b n (fun _ => List.replicate 32 0) := by
    intro b hb
    refine ⟨fun i hi j x hx => ?_, fun j => frozen_of_row W b j Z 101 hb, fun i hi => by simp⟩
    rw [cell_of_row W b _ Z 101 (0, 0) hb]
    obtain ⟨hj, e⟩ := List.getElem?_eq_some_iff.1 hx
    rw [bv_len, List.length_replicate] at hj
    rw [hZ _ (by omega), ← hx]
    simp only [bv, List.getElem?_map, List.getElem?_replicate, hj, if_true, Option.map_some]
    rfl
  refine ⟨fun k => w.heap.size ≤ k ∧ k < w.heap.size + 3, ⟨bs, bl, .slice none 0 0, ?_⟩, fun k hk => hk.1⟩
  have cc : ∀ j, W.cell? ⟨w.heap.size + 1 + 1, j, none⟩ = C[j]? := fun j => cell_of_row W _ j C 69 (0, 0) b2
  exact { c0 := by rw [cc, ← hC]; rfl, c1 := by rw [cc, ← hC]; rfl, c2 := by rw [cc, ← hC]; rfl, c3 := by rw [cc, ← hC]; rfl, c4 := by rw [cc, ← hC]; rfl,
          free := fun j => frozen_of_row W _ j C 69 b2, sure := by rcases hb with ⟨e, _⟩ | ⟨_, e⟩ <;> (rw [e]; exact sec _ (by assumption)),
          last := by rcases hb with ⟨_, e⟩ | ⟨e, _⟩ <;> (rw [e]; exact sec _ (by assumption)),
          own := World.ownsRow_nil _ _ _ _, ps := by omega, pl := by omega, sl := by omega, pv := by simp [Value.ownBlock], sv := by simp [Value.ownBlock], lv := by simp [Value.ownBlock],
          fp := by omega, fs := by omega, fl := by omega, fv := (fun k hk => by cases hk), lt := (fun k hk => by omega), qs := (fun q hq => by cases hq), n1 := h1, n2 := h2, fu := by simp [fresh] }

theorem new_is (n : Nat) (h1 : 1 ≤ n) (h2 : n ≤ 4096) (w : World) :
    Calls Try.prog 14 #[.int .i64 (n : Int)] w fun e w' => ∃ p F, e = .returned (.tuple #[.pointer (some ⟨p, 0, none⟩), .int .i64 0]) ∧ Disk w' F p (fresh n) ∧ Below w.heap.size w w' ∧ ∀ k, F k → w.heap.size ≤ k := by
  obtain ⟨Z, hmk, hZ⟩ := make_secs n h2
  have HZ := (show Hid _ from hZ)
  clear hZ
  have c1 : ¬ (n : Int) < 1 := by omega
  have c2 : ¬ (4096 : Int) < (n : Int) := by omega
  go_enter Try.func14, Try.ntmps14
  go_wp2_with fail
  go_region
  all_goals
    go_wp2
    go_ret2
  · obtain ⟨F, hF, hk⟩ := fresh_lies n h1 h2 w Z HZ.out _ _ (.inl ⟨rfl, rfl⟩)
    exact ⟨_, F, rfl, hF, ((((Below.refl _ w).alloc (Nat.le_refl _) _).alloc (by simp) _).alloc (by simp; omega) _).drew, hk⟩
  · obtain ⟨F, hF, hk⟩ := fresh_lies n h1 h2 w Z HZ.out _ _ (.inr ⟨rfl, rfl⟩)
    exact ⟨_, F, rfl, hF, ((((Below.refl _ w).alloc (Nat.le_refl _) _).alloc (by simp) _).alloc (by simp; omega) _).drew, hk⟩
end Go.Proofs.Ythfhjfemcmdmfaa

namespace Go.Proofs.Ythfhjfemcmdmfaa
open Go.ChangeShapes Go.WideShapes Go.ChangeAt Go.RowKit
set_option linter.unusedVariables false
set_option maxRecDepth 100000

section
variable {P : Program} {ops : Array Oper} {rest : List Oper} {o : Oper} {a : Act} {w w' : World} {Q : Exit → Act → World → Prop} {K : Act → World → Prop} {E : Prop} {v : Value}

theorem st_load {ty : TypeId} {x : Operand} (hgd : o.guard = none) (ho : o.op = .load ty x) (hr : (Instr.loadAt ty (a.eval x)).run P w = .ok v w') (h : wpList P ops Q rest (a.put o.dst v) w') : wpList P ops Q (o :: rest) a w :=
  wpList_plain hgd fun _ hK => by
    unfold Oper.wp execOp
    simp only [ho, Sem.run_bind, hr, Result.andThen_ok]
    exact hK _ _ h
theorem st_store {ty : TypeId} {x y : Operand} (hgd : o.guard = none) (ho : o.op = .store ty x y) (hr : (Instr.storeAt ty (a.eval x) (a.eval y)).run P w = .ok () w') (h : wpList P ops Q rest (a.put o.dst undef) w') : wpList P ops Q (o :: rest) a w :=
  wpList_plain hgd fun _ hK => by
    unfold Oper.wp execOp
    simp only [ho, Sem.run_bind, hr, Result.andThen_ok]
    exact hK _ _ h
theorem st_alloc {ty : TypeId} (hgd : o.guard = none) (ho : o.op = .alloc ty) (hr : (Instr.alloc ty true (.tuple #[])).run P w = .ok v w') (h : wpList P ops Q rest (a.put o.dst v) w') : wpList P ops Q (o :: rest) a w :=
  wpList_plain hgd fun _ hK => by
    unfold Oper.wp execOp
    simp only [ho, Sem.run_bind, hr, Result.andThen_ok]
    exact hK _ _ h
theorem st_build {ty : TypeId} {i : Nat} {x : Operand} (hgd : o.guard = none) (ho : o.op = .build ty #[(i, x)]) (hr : (Instr.build ty #[(i, a.eval x)]).run P w = .ok v w') (h : wpList P ops Q rest (a.put o.dst v) w') : wpList P ops Q (o :: rest) a w :=
  wpList_plain hgd fun _ hK => by
    unfold Oper.wp execOp
    simp only [ho, Sem.run_bind, List.map_toArray, List.map_cons, List.map_nil, hr, Result.andThen_ok]
    exact hK _ _ h
theorem st_copy {x y : Operand} {t u : TypeId} (hgd : o.guard = none) (ho : o.op = .call { callee := .builtin .copy, args := #[x, y], argTypes := #[t, u] }) (hr : (Builtin.copy_ #[t, u] o.type #[a.eval x, a.eval y]).run P w = .ok v w') (h : wpList P ops Q rest (a.put o.dst v) w') : wpList P ops Q (o :: rest) a w :=
  wpList_plain hgd fun _ hK => by
    unfold Oper.wp execOp
    simp only [ho, resolve, invoke, builtin, Sem.run_bind, Sem.run_pure, Result.andThen_ok, List.map_toArray, List.map_cons, List.map_nil, hr]
    exact hK _ _ h
theorem st_clear {x : Operand} {t : TypeId} (hgd : o.guard = none) (ho : o.op = .call { callee := .builtin .clear, args := #[x], argTypes := #[t] }) (hr : (Builtin.clear_ #[t] o.type #[a.eval x]).run P w = .ok v w') (h : wpList P ops Q rest (a.put o.dst v) w') : wpList P ops Q (o :: rest) a w :=
  wpList_plain hgd fun _ hK => by
    unfold Oper.wp execOp
    simp only [ho, resolve, invoke, builtin, Sem.run_bind, Sem.run_pure, Result.andThen_ok, List.map_toArray, List.map_cons, List.map_nil, hr]
    exact hK _ _ h

theorem sl_load {R : Act → Prop} {ty : TypeId} {x : Operand} (hgd : o.guard = none) (ho : o.op = .load ty x) (hr : (Instr.loadAt ty (a.eval x)).run P w = .ok v w) (h : wpStill P ops w R rest (a.put o.dst v)) : wpStill P ops w R (o :: rest) a := by
  have hw : Region.wanted o (yielded ops a.tmps) = true := by simp [Region.wanted, hgd]
  unfold wpStill
  rw [if_pos hw]
  unfold Oper.still execOp
  simp only [ho, Sem.run_bind, hr, Result.andThen_ok]
  exact ⟨rfl, h⟩
theorem dr_append {x y : Operand} {t u : TypeId} (hgd : o.guard = none) (ho : o.op = .call { callee := .builtin .append, args := #[x, y], argTypes := #[t, u] }) (hr : (Builtin.append_ #[t, u] o.type #[a.eval x, a.eval y]).run P w = .ok v w')
    (hK : K (a.put o.dst v) w') : if Region.wanted o (yielded ops a.tmps) = true then Oper.wp P o a w K Q else E := by
  have hw : Region.wanted o (yielded ops a.tmps) = true := by simp [Region.wanted, hgd]
  rw [if_pos hw]
  unfold Oper.wp execOp
  simp only [ho, resolve, invoke, builtin, Sem.run_bind, Sem.run_pure, Result.andThen_ok, List.map_toArray, List.map_cons, List.map_nil, hr]
  exact hK
theorem dr_load {ty : TypeId} {x : Operand} (hgd : o.guard = none) (ho : o.op = .load ty x) (hr : (Instr.loadAt ty (a.eval x)).run P w = .ok v w') (hK : K (a.put o.dst v) w') :
    if Region.wanted o (yielded ops a.tmps) = true then Oper.wp P o a w K Q else E := by
  have hw : Region.wanted o (yielded ops a.tmps) = true := by simp [Region.wanted, hgd]
  rw [if_pos hw]
  unfold Oper.wp execOp
  simp only [ho, Sem.run_bind, hr, Result.andThen_ok]
  exact hK
theorem dr_slice {ty : TypeId} {n i : Nat} {x : Operand} (hgd : o.guard = none) (ho : o.op = .buildSlice ty n #[(i, x)]) (hr : (Instr.buildSlice ty n #[(i, a.eval x)]).run P w = .ok v w') (hK : K (a.put o.dst v) w') :
    if Region.wanted o (yielded ops a.tmps) = true then Oper.wp P o a w K Q else E := by
  have hw : Region.wanted o (yielded ops a.tmps) = true := by simp [Region.wanted, hgd]
  rw [if_pos hw]
  unfold Oper.wp execOp
  simp only [ho, Sem.run_bind, List.map_toArray, List.map_cons, List.map_nil, hr, Result.andThen_ok]
  exact hK
theorem dr_copy {x y : Operand} {t u : TypeId} (hgd : o.guard = none) (ho : o.op = .call { callee := .builtin .copy, args := #[x, y], argTypes := #[t, u] }) (hr : (Builtin.copy_ #[t, u] o.type #[a.eval x, a.eval y]).run P w = .ok v w')
    (hK : K (a.put o.dst v) w') : if Region.wanted o (yielded ops a.tmps) = true then Oper.wp P o a w K Q else E := by
  have hw : Region.wanted o (yielded ops a.tmps) = true := by simp [Region.wanted, hgd]
  rw [if_pos hw]
  unfold Oper.wp execOp
  simp only [ho, resolve, invoke, builtin, Sem.run_bind, Sem.run_pure, Result.andThen_ok, List.map_toArray, List.map_cons, List.map_nil, hr]
  exact hK
end

/-! The runs themselves, of sectors and writes. -/
theorem Try.info103 : (Try.prog.info? 103).map (fun i => (i.zero, i.size, i.bytes)) = some (some (.agg (#[.int .i64 0] ++ Array.replicate 32 (.int .u8 0))), 33, 40) := by kernel_rfl

theorem info_of {t : TypeId} {z : Value} {n b : Nat} (h : (Try.prog.info? t).map (fun i => (i.zero, i.size, i.bytes)) = some (some z, n, b)) : ∃ i, Try.prog.info? t = some i ∧ i.zero = some z ∧ i.size = n ∧ i.bytes = b := by
  cases hi : Try.prog.info? t with
  | none => rw [hi] at h; cases h
  | some i =>
    rw [hi] at h
    simp only [Option.map_some, Option.some.injEq, Prod.mk.injEq] at h
    exact ⟨i, rfl, h⟩

theorem loads {w : World} {b o n : Nat} (cs : List Value) (hn : cs.length = n) (h : ∀ j x, cs[j]? = some x → w.cell? ⟨b, o + j, none⟩ = some x) : (loadCellsFrom ⟨b, o, none⟩ 0 n #[]).run Try.prog w = .ok cs.toArray w := by
  have := run_loadCells_list (P := Try.prog) w ⟨b, o, none⟩ cs (fun j x hx => by rw [Go.WideShapes.add_plain]; exact h j x hx)
  rw [hn] at this
  exact this
theorem load62 {w : World} {b o : Nat} (cs : List Value) (hn : cs.length = 32) (h : ∀ j x, cs[j]? = some x → w.cell? ⟨b, o + j, none⟩ = some x) : (Instr.loadAt 101 (.pointer (some ⟨b, o, none⟩))).run Try.prog w = .ok (.agg cs.toArray) w := by
  have hl := loads cs hn h
  simp [Instr.loadAt, Instr.sureAddr, loadVar, Sem.run_bind, loadCells, hl]
theorem load64 {w : World} {b o : Nat} (cs : List Value) (hn : cs.length = 33) (h : ∀ j x, cs[j]? = some x → w.cell? ⟨b, o + j, none⟩ = some x) : (Instr.loadAt 103 (.pointer (some ⟨b, o, none⟩))).run Try.prog w = .ok (.agg cs.toArray) w := by
  have hl := loads cs hn h
  simp [Instr.loadAt, Instr.sureAddr, loadVar, Sem.run_bind, loadCells, hl]
theorem stores {w : World} {b o : Nat} (cs : List Value) (hc : ∀ j, j < cs.length → (w.cell? ⟨b, o + j, none⟩).isSome = true) (hf : ∀ j, j < cs.length → w.frozen? ⟨b, o + j, none⟩ = false) (h1 : ∀ v ∈ cs, v.oneCell' = true) :
    (storeCells ⟨b, o, none⟩ cs 0).run Try.prog w = .ok () (w.setCells b o cs) := by
  simpa using run_storeCells_cells (P := Try.prog) b o cs 0 w (by simpa using hc) (by simpa using hf) h1

theorem alloc64 (w : World) : (Instr.alloc 103 true (.tuple #[])).run Try.prog w = .ok (.pointer (some ⟨w.heap.size, 0, none⟩)) (w.alloc (.cells (#[.int .i64 0] ++ Array.replicate 32 (.int .u8 0)) 103)) := by
  simp [Instr.alloc, newVar, go_sem]
  rfl
theorem store64 {w : World} (C Z : Array Value) (hC : C.size = 33) (hZ : Z.size = 33) (h1 : ∀ v ∈ C.toList, v.oneCell' = true) : (Instr.storeAt 103 (.pointer (some ⟨w.heap.size, 0, none⟩)) (.agg C)).run Try.prog (w.alloc (.cells Z 103)) = .ok () (w.alloc (.cells C 103)) := by
  obtain ⟨i, hi, hz, h2, _⟩ := info_of Try.info103
  simp only [Instr.storeAt, Instr.sureAddr, Sem.run_bind, Sem.run_pure, Result.andThen]
  have hh : (w.alloc (.cells Z 103)).heap[w.heap.size]? = some (.cells Z 103 (0, 0)) := heap_alloc_new w _
  have := run_storeVar_row (P := Try.prog) (w.alloc (.cells Z 103)) w.heap.size 103 103 Z C hh (by rw [hi]; simp [h2, hC]) (by omega) (by rw [Array.all_eq_true]; intro k hk; exact h1 _ (by simp))
  rw [this]
  congr 1
  simp only [World.setRow, World.alloc]
  congr 1
  apply Array.ext_getElem?
  intro k
  rw [Array.getElem?_modify]
  by_cases h : w.heap.size = k
  · subst h
    simp
  · have h' : ¬ k = w.heap.size := fun e => h e.symm
    simp [h, h', Array.getElem?_push]
theorem bslice (U : List Value) (hU : U.length = 33) (w : World) : (Instr.buildSlice 67 1 #[(0, .agg U.toArray)]).run Try.prog w = .ok (.slice (some ⟨w.heap.size, 0, none⟩) 1 1) (w.alloc (.cells U.toArray 103)) := by
  obtain ⟨i, hi, hz, h1, h2⟩ := info_of Try.info103
  refine run_buildSlice w 67 103 1 _ _ i _ Try.underlying67 hi hz (by rw [h1]; omega) (by rw [h1]; omega) ?_
  rw [h1]
  generalize hC : (Array.range (1 * 33)).map ((Value.agg (#[.int .i64 0] ++ Array.replicate 32 (.int .u8 0))).cells[· % (Value.agg (#[.int .i64 0] ++ Array.replicate 32 (.int .u8 0))).cells.size]!) = C
  have hs : C.size = 33 := by rw [← hC]; simp
  have := Great.fill_whole (s := 33) (by omega) [.agg U.toArray] C (by simp [Value.cells, hU]) (by simp [hs])
  simpa [Value.cells] using this
theorem load54 {w : World} {b o : Nat} {v : Value} (h : w.cell? ⟨b, o, none⟩ = some v) : (Instr.loadAt 67 (.pointer (some ⟨b, o, none⟩))).run Try.prog w = .ok v w := by
  simp [go_sem, h]
theorem store62 {w : World} {b o : Nat} (cs : List Value) (hl : cs.length = 32) (hc : ∀ j, j < 32 → (w.cell? ⟨b, o + j, none⟩).isSome = true) (hf : ∀ j, j < 32 → w.frozen? ⟨b, o + j, none⟩ = false) (h1 : ∀ v ∈ cs, v.oneCell' = true) :
    (Instr.storeAt 101 (.pointer (some ⟨b, o, none⟩)) (.agg cs.toArray)).run Try.prog w = .ok () (w.setCells b o cs) := by
  have hs := stores (w := w) (b := b) (o := o) cs (by rw [hl]; exact hc) (by rw [hl]; exact hf) h1
  simp [Instr.storeAt, Instr.sureAddr, storeVar, Sem.run_bind, Value.cells, hl, hs]
theorem build64 (w : World) (a : Int) : (Instr.build 103 #[(0, .int .i64 a)]).run Try.prog w = .ok (.agg (#[.int .i64 a] ++ Array.replicate 32 (.int .u8 0))) w := by
  apply run_build
  kernel_rfl
end Go.Proofs.Ythfhjfemcmdmfaa

namespace Go.Proofs.Ythfhjfemcmdmfaa
open Go.ChangeShapes Go.WideShapes Go.ChangeAt Go.RowKit
set_option linter.unusedVariables false
set_option maxRecDepth 100000

/-- The cells of a write, before its text is copied. -/
def bare (a : Nat) : Array Value := #[.int .i64 (a : Int)] ++ Array.replicate 32 (.int .u8 0)

theorem size_setCells (b : Nat) : ∀ (vs : List Value) (o : Nat) (w : World), (w.setCells b o vs).heap.size = w.heap.size
  | [], _, _ => rfl
  | v :: r, o, w => by rw [World.setCells, size_setCells b r]; simp

/-- The variable of a write, with its text. -/
theorem wrote (w : World) (a : Nat) (s : ByteArray) (hs : s.size = 32) : ∃ W, (Builtin.copy_ #[80, 9] 3 #[.slice (some ⟨w.heap.size, 1, none⟩) 32 32, .string s]).run Try.prog (w.alloc (.cells (bare a) 103)) = .ok (.int .i64 32) W ∧
    Kept (fun _ => False) w W ∧ W.heap.size = w.heap.size + 1 ∧ ∀ j x, (qv (a, s.data.toList))[j]? = some x → W.cell? ⟨w.heap.size, j, none⟩ = some x := by
  have hl : s.data.toList.length = 32 := by rw [← hs]; rfl
  have hC : (bare a).size = 33 := by simp [bare]
  have hr := run_copy_string (P := Try.prog) (w.alloc (.cells (bare a) 103)) 80 9 3 5 w.heap.size 1 32 32 s Try.underlying80 (fun w => by simp [go_sem]) (by omega) (fun j hj => by
    rw [World.cell?_alloc_new]
    rw [Array.getElem?_eq_getElem (by omega)]; rfl) (fun j hj => by simp)
  rw [hs] at hr
  refine ⟨_, hr, Kept.setCells (.inr (Nat.le_refl _)) _ _ _ ((Kept.refl _ w).alloc _), ?_, fun j x hx => ?_⟩
  · rw [size_setCells]; simp
  · cases j with
    | zero =>
      rw [World.cell?_setCells_out _ _ _ _ _ (fun _ _ => .inl (by simp)), World.cell?_alloc_new, ← hx]
      simp [bare, qv]
    | succ j =>
      have hj : j < 32 := by
        have := (List.getElem?_eq_some_iff.1 hx).1
        simp [qv, bv_len, hl] at this; omega
      have := World.cell?_setCells_in w.heap.size (bv s.data.toList) 1 (w.alloc (.cells (bare a) 103)) (fun k hk => by
        rw [bv_len, hl] at hk
        rw [World.cell?_alloc_new, Array.getElem?_eq_getElem (by omega)]; rfl) j (by rw [bv_len, hl]; exact hj)
      rw [Nat.add_comm j 1]
      refine this.trans ?_
      rw [← hx]
      simp [qv]


theorem heap_setCells_other {b k : Nat} (h : k ≠ b) : ∀ (vs : List Value) (o : Nat) (w : World), (w.setCells b o vs).heap[k]? = w.heap[k]?
  | [], _, _ => rfl
  | v :: r, o, w => by rw [World.setCells, heap_setCells_other h r]; exact Below.heap_setCell w ⟨b, o, none⟩ v k h

theorem Lies.drew {w : World} {F : Nat → Prop} {p bs bl : Nat} {v : Value} {d : Dk} {L : Nat → List UInt8} (h : Lies w F p bs bl v d L) : Lies w.drew F p bs bl v d L :=
  h.kept (G := fun _ => False) (Kept.refl _ w).drew (fun _ _ q => q)

/-- A sector is written over, as it is read. -/
theorem Lies.setLast {w : World} {F : Nat → Prop} {p bs bl : Nat} {v : Value} {d : Dk} {L : Nat → List UInt8} (h : Lies w F p bs bl v d L) {a : Nat} (ha : a < d.n) (t : List UInt8) (ht : t.length = 32) :
    Lies (w.setCells bl (a * 32) (bv t)) F p bs bl v d (put L a t) := by
  have hc : ∀ j, (w.setCells bl (a * 32) (bv t)).cell? ⟨p, j, none⟩ = w.cell? ⟨p, j, none⟩ := fun j => World.cell?_setCells_out bl _ _ _ _ (fun e _ => absurd e h.pl)
  have hl := h.last.store ha t (by omega)
  rw [put_whole L a t (by rw [h.last.len a ha, ht]; omega)] at hl
  exact { c0 := (hc _).trans h.c0, c1 := (hc _).trans h.c1, c2 := (hc _).trans h.c2, c3 := (hc _).trans h.c3, c4 := (hc _).trans h.c4,
          free := fun j => by rw [World.frozen?_setCells]; exact h.free j, sure := h.sure.other h.sl _ _, last := hl,
          own := ownsRow_kept h.own (fun i hi => heap_setCells_other (k := i) (b := bl) (fun e => h.lv (by rw [← e]; exact hi)) _ _ _), ps := h.ps, pl := h.pl, sl := h.sl, pv := h.pv, sv := h.sv, lv := h.lv,
          fp := h.fp, fs := h.fs, fl := h.fl, fv := h.fv, lt := (fun i hi => by rw [size_setCells]; exact h.lt i hi), qs := h.qs, n1 := h.n1, n2 := h.n2, fu := h.fu }
/-- The like, of what is sure. -/
theorem Lies.setSure {w : World} {F : Nat → Prop} {p bs bl : Nat} {v : Value} {d : Dk} {L : Nat → List UInt8} (h : Lies w F p bs bl v d L) {a : Nat} (ha : a < d.n) (t : List UInt8) (ht : t.length ≤ 32) :
    Lies (w.setCells bs (a * 32) (bv t)) F p bs bl v { d with S := put d.S a (t ++ (d.S a).drop t.length) } L := by
  have hc : ∀ j, (w.setCells bs (a * 32) (bv t)).cell? ⟨p, j, none⟩ = w.cell? ⟨p, j, none⟩ := fun j => World.cell?_setCells_out bs _ _ _ _ (fun e _ => absurd e h.ps)
  exact { c0 := (hc _).trans h.c0, c1 := (hc _).trans h.c1, c2 := (hc _).trans h.c2, c3 := (hc _).trans h.c3, c4 := (hc _).trans h.c4,
          free := fun j => by rw [World.frozen?_setCells]; exact h.free j, sure := h.sure.store ha t ht, last := h.last.other (fun e => h.sl e.symm) _ _,
          own := ownsRow_kept h.own (fun i hi => heap_setCells_other (k := i) (b := bs) (fun e => h.sv (by rw [← e]; exact hi)) _ _ _), ps := h.ps, pl := h.pl, sl := h.sl, pv := h.pv, sv := h.sv, lv := h.lv,
          fp := h.fp, fs := h.fs, fl := h.fl, fv := h.fv, lt := (fun i hi => by rw [size_setCells]; exact h.lt i hi), qs := h.qs, n1 := h.n1, n2 := h.n2, fu := h.fu }

theorem qv_one (q : Nat × List UInt8) : ∀ v ∈ qv q, v.oneCell' = true := by
  intro v hv
  rcases List.mem_cons.1 hv with rfl | hv
  · rfl
  · exact bv_one _ v hv

/-- A write more that waits: the list grows, and its place in the disk's block is written. -/
theorem Lies.append {w : World} {F : Nat → Prop} {p bs bl : Nat} {v : Value} {d : Dk} {L : Nat → List UInt8} (h : Lies w F p bs bl v d L) (q : Nat × List UInt8) (hq : q.1 < d.n ∧ q.2.length = 32) (hn : d.Q.length < 1048576)
    (g : Nat) (hg : ∀ j x, (qv q)[j]? = some x → w.cell? ⟨g, j, none⟩ = some x) :
    ∃ v' W, (Builtin.append_ #[67, 67] 67 #[v, .slice (some ⟨g, 0, none⟩) 1 1]).run Try.prog w = .ok v' W ∧ W.cell? ⟨p, 2, none⟩ = some v ∧ W.frozen? ⟨p, 2, none⟩ = false ∧
      ∃ F', Lies (W.setCell ⟨p, 2, none⟩ v') F' p bs bl v' { d with Q := d.Q ++ [q] } L ∧ Kept F w (W.setCell ⟨p, 2, none⟩ v') ∧ ∀ k, F' k → F k ∨ w.heap.size ≤ k := by
  obtain ⟨i, hi, hz, h1, h2⟩ := info_of Try.info103
  have hql : (qv q).length = 33 := by simp [qv, bv_len, hq.2]
  obtain ⟨v', W, hr, ho, hgb, hnil, hat⟩ := run_append_own_at (P := Try.prog) w 0 67 67 103 i _ 33 40 Try.underlying67 hi hz h1 h2 (by simp [Value.cells]) (by omega) v d.Q.length _ h.own ⟨g, 0, none⟩ 1 1 (qv q) (by omega)
    (fun j u hu => by rw [Go.WideShapes.add_plain, Nat.zero_add]; exact hg j u hu) (qv_one q) (by simp only [maxLen]; omega) (by omega) (Nat.zero_le _)
  have hbp : W.heap[p]? = w.heap[p]? := hgb.block p (h.lt p h.fp) (fun e => h.pv e.symm)
  have hbs : W.heap[bs]? = w.heap[bs]? := hgb.block bs (h.lt bs h.fs) (fun e => h.sv e.symm)
  have hbl : W.heap[bl]? = w.heap[bl]? := hgb.block bl (h.lt bl h.fl) (fun e => h.lv e.symm)
  have hcp : ∀ j, W.cell? ⟨p, j, none⟩ = w.cell? ⟨p, j, none⟩ := fun j => World.cell?_of_block (w := w) (a := ⟨p, j, none⟩) hbp
  have hfp : ∀ j, W.frozen? ⟨p, j, none⟩ = w.frozen? ⟨p, j, none⟩ := fun j => World.frozen?_of_block (w := w) (a := ⟨p, j, none⟩) hbp
  have hne : ∀ b, F b → v.ownBlock ≠ some b → v'.ownBlock ≠ some b := by
    intro b hb hv e
    rcases hat with e1 | e1
    · exact hv (e1 ▸ e)
    · rw [e1] at e
      have := h.lt b hb
      cases e
      omega
  have hlt : ∀ k, v'.ownBlock = some k → k < W.heap.size := fun k hk => (ho.lt k hk).2
  refine ⟨v', W, hr, (hcp 2).trans h.c2, (hfp 2).trans (h.free 2), fun k => (F k ∨ v'.ownBlock = some k), ?_, ?_, ?_⟩
  · have hp2 : (W.setCell ⟨p, 2, none⟩ v').cell? ⟨p, 2, none⟩ = some v' := World.cell?_setCell_same _ _ _ ((hcp 2).trans h.c2)
    have hpo : ∀ j, j ≠ 2 → (W.setCell ⟨p, 2, none⟩ v').cell? ⟨p, j, none⟩ = w.cell? ⟨p, j, none⟩ := fun j hj => by
      rw [World.cell?_setCell_other _ _ _ _ (fun e => hj (by cases e; rfl))]; exact hcp j
    have ho' : ∀ b, b ≠ p → (W.setCell ⟨p, 2, none⟩ v').heap[b]? = W.heap[b]? := fun b hb => Below.heap_setCell W ⟨p, 2, none⟩ v' b hb
    have hown := ownsRow_kept (w' := W.setCell ⟨p, 2, none⟩ v') ho (fun k hk => ho' k (fun e => hne p h.fp h.pv (e ▸ hk)))
    exact { c0 := (hpo 0 (by omega)).trans h.c0, c1 := (hpo 1 (by omega)).trans h.c1, c2 := hp2, c3 := (hpo 3 (by omega)).trans h.c3, c4 := (hpo 4 (by omega)).trans h.c4,
            free := (fun j => by rw [World.frozen?_setCell]; exact (hfp j).trans (h.free j)), sure := h.sure.of_block ((ho' bs (fun e => h.ps e.symm)).trans hbs), last := h.last.of_block ((ho' bl (fun e => h.pl e.symm)).trans hbl),
            own := (by simpa [List.flatMap_append] using hown), ps := h.ps, pl := h.pl, sl := h.sl, pv := hne p h.fp h.pv, sv := hne bs h.fs h.sv, lv := hne bl h.fl h.lv,
            fp := .inl h.fp, fs := .inl h.fs, fl := .inl h.fl, fv := (fun k hk => .inr hk),
            lt := (fun k hk => by
              rw [World.size_setCell]
              rcases hk with hk | hk
              · exact Nat.lt_of_lt_of_le (h.lt k hk) hgb.size
              · exact hlt k hk),
            qs := (fun x hx => by
              rcases List.mem_append.1 hx with hx | hx
              · exact h.qs x hx
              · rw [List.mem_singleton.1 hx]; exact hq), n1 := h.n1, n2 := h.n2, fu := h.fu }
  · exact ((Kept.refl F w).grown hgb (fun k hk => .inl (h.fv k hk))).setCell (p := ⟨p, 2, none⟩) (.inl h.fp) v'
  · intro k hk
    rcases hk with hk | hk
    · exact .inl hk
    · rcases hat with e | e
      · exact .inl (h.fv k (e ▸ hk))
      · rw [e] at hk; cases hk; exact .inr (Nat.le_refl _)
end Go.Proofs.Ythfhjfemcmdmfaa
