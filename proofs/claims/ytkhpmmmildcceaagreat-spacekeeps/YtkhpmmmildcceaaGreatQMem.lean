/- A disk in memory: what lies where, and what stays. The small methods of a disk: Size, has, Off, Waits, spend, Fuse. Read, and the fields of a disk. New. Steps of a walk by what an operation's run is: for arrays by value, which are not to be laid open cell by cell. -/
import Derived.Test.YtkhpmmmildcceaaGreatRows
import Derived.WalkKit
import Derived.ProofKit
import Derived.OpenShut
import Derived.WalkSpells
import Derived.Handy
import Derived.Below
import Derived.Laws.IdiomCopy
import Derived.Laws.OwnMore
import Derived.Laws.AppendOwn
import Derived.Lib.LazyBuf
import Derived.Laws.MakeOwn
import Derived.Deep.RegionLaw
import Derived.StillTailTactics
import Derived.Great.BuildSlice
import Derived.Maps.AppendAt
namespace Go.Proofs.YtkhpmmmildcceaaGreat
open Go.ChangeShapes Go.WideShapes Go.ChangeAt Go.RowKit
set_option linter.unusedVariables false
set_option maxRecDepth 100000

/-- What stays: all blocks that were there, but those of F. -/
structure Kept (F : Nat → Prop) (w w' : World) : Prop where
  os : w'.os = w.os
  tape : w'.tape = w.tape
  output : w'.output = w.output
  size : w.heap.size ≤ w'.heap.size
  block : ∀ k, k < w.heap.size → ¬ F k → w'.heap[k]? = w.heap[k]?

theorem Kept.refl (F : Nat → Prop) (w : World) : Kept F w w := ⟨rfl, rfl, rfl, Nat.le_refl _, fun _ _ _ => rfl⟩
theorem Kept.trans {F F' : Nat → Prop} {a b c : World} (h : Kept F a b) (k : Kept F' b c) (hF : ∀ i, F' i → F i ∨ a.heap.size ≤ i) : Kept F a c :=
  ⟨k.os.trans h.os, k.tape.trans h.tape, k.output.trans h.output, Nat.le_trans h.size k.size, fun i hi hn =>
    (k.block i (Nat.lt_of_lt_of_le hi h.size) (fun q => (hF i q).elim hn (fun q => absurd hi (Nat.not_lt.2 q)))).trans (h.block i hi hn)⟩
theorem Kept.mono {F F' : Nat → Prop} {a b : World} (h : Kept F a b) (hF : ∀ i, F i → F' i) : Kept F' a b :=
  ⟨h.os, h.tape, h.output, h.size, fun i hi hn => h.block i hi (fun q => hn (hF i q))⟩
theorem Kept.drew {F : Nat → Prop} {a w : World} (h : Kept F a w) : Kept F a w.drew := ⟨h.os, h.tape, h.output, h.size, h.block⟩
theorem Kept.alloc {F : Nat → Prop} {a w : World} (h : Kept F a w) (o : Obj) : Kept F a (w.alloc o) :=
  ⟨h.os, h.tape, h.output, by simp; have := h.size; omega, fun i hi hn => (Below.heap_alloc w o i (Nat.lt_of_lt_of_le hi h.size)).trans (h.block i hi hn)⟩
theorem Kept.setCell {F : Nat → Prop} {a w : World} (h : Kept F a w) {p : Addr} (hp : F p.block ∨ a.heap.size ≤ p.block) (u : Value) : Kept F a (w.setCell p u) :=
  ⟨h.os, h.tape, h.output, by simpa using h.size, fun i hi hn => (Below.heap_setCell w p u i (fun e => by subst e; exact hp.elim hn (fun q => absurd hi (Nat.not_lt.2 q)))).trans (h.block i hi hn)⟩
theorem Kept.setCells {F : Nat → Prop} {a : World} {b : Nat} (hb : F b ∨ a.heap.size ≤ b) : ∀ (vs : List Value) (o : Nat) (w : World), Kept F a w → Kept F a (w.setCells b o vs)
  | [], _, _, h => h
  | v :: r, o, w, h => Kept.setCells hb r (o + 1) _ (h.setCell (p := ⟨b, o, none⟩) hb v)
theorem Kept.grown {F : Nat → Prop} {a w w' : World} {row : Option Nat} (h : Kept F a w) (hg : w.grownBy w' row) (hr : ∀ k, row = some k → F k ∨ a.heap.size ≤ k) : Kept F a w' :=
  ⟨hg.os.trans h.os, hg.tape.trans h.tape, hg.output.trans h.output, Nat.le_trans h.size hg.size, fun i hi hn =>
    (hg.block i (Nat.lt_of_lt_of_le hi h.size) (fun e => (hr i e.symm).elim hn (fun q => absurd hi (Nat.not_lt.2 q)))).trans (h.block i hi hn)⟩
theorem Kept.below {F : Nat → Prop} {a b : World} (h : Kept F a b) {B : Nat} (hB : B ≤ a.heap.size) (hF : ∀ k, F k → B ≤ k) : Below B a b :=
  ⟨h.os, h.tape, h.output, h.size, fun k hk => h.block k (Nat.lt_of_lt_of_le hk hB) (fun q => absurd hk (Nat.not_lt.2 (hF k q)))⟩
theorem Kept.cell {F : Nat → Prop} {a b : World} (h : Kept F a b) {p : Addr} {v : Value} (hc : a.cell? p = some v) (hn : ¬ F p.block) : b.cell? p = some v :=
  (World.cell?_of_block (w := a) (h.block p.block (World.block_lt_of_cell? a p hc) hn)).trans hc

/-- The cells of bytes. -/
def bv (l : List UInt8) : List Value := l.map fun x => Value.int .u8 (x.toNat : Int)
theorem bv_len (l : List UInt8) : (bv l).length = l.length := by simp [bv]
theorem bv_one (l : List UInt8) : ∀ v ∈ bv l, v.oneCell' = true := by
  intro v hv
  obtain ⟨x, _, rfl⟩ := List.mem_map.1 hv
  rfl
theorem bv_take (l : List UInt8) (n : Nat) : bv (l.take n) = (bv l).take n := by simp [bv]
theorem bv_drop (l : List UInt8) (n : Nat) : bv (l.drop n) = (bv l).drop n := by simp [bv]
theorem bv_append (l m : List UInt8) : bv (l ++ m) = bv l ++ bv m := by simp [bv]

/-- A write that waits, in cells. -/
def qv (q : Nat × List UInt8) : List Value := Value.int .i64 (q.1 : Int) :: bv q.2

/-- A disk: its sectors as they are sure, the writes that wait, the fuse, the power. -/
structure Dk where
  n : Nat
  S : Nat → List UInt8
  Q : List (Nat × List UInt8)
  fuse : Int
  off : Bool

/-- A sector behind writes. -/
def behind (s : List UInt8) (i : Nat) (Q : List (Nat × List UInt8)) : List UInt8 := Q.foldl (fun s q => if q.1 = i then q.2 else s) s
def Dk.last (d : Dk) (i : Nat) : List UInt8 := behind (d.S i) i d.Q
/-- Sectors with one of them another one. -/
def put (S : Nat → List UInt8) (a : Nat) (t : List UInt8) (i : Nat) : List UInt8 := if i = a then t else S i

/-- A list of sectors in a block. -/
structure Secs (w : World) (b n : Nat) (S : Nat → List UInt8) : Prop where
  cell : ∀ i, i < n → ∀ j x, (bv (S i))[j]? = some x → w.cell? ⟨b, i * 32 + j, none⟩ = some x
  free : ∀ j, w.frozen? ⟨b, j, none⟩ = false
  len : ∀ i, i < n → (S i).length = 32

theorem Secs.of_block {w w' : World} {b n : Nat} {S : Nat → List UInt8} (h : Secs w b n S) (hb : w'.heap[b]? = w.heap[b]?) : Secs w' b n S :=
  ⟨fun i hi j x hx => (World.cell?_of_block (w := w) (a := ⟨b, i * 32 + j, none⟩) hb).trans (h.cell i hi j x hx), fun j => (World.frozen?_of_block (w := w) (a := ⟨b, j, none⟩) hb).trans (h.free j), h.len⟩

theorem Secs.some_at {w : World} {b n : Nat} {S : Nat → List UInt8} (h : Secs w b n S) {i : Nat} (hi : i < n) {j : Nat} (hj : j < 32) : (w.cell? ⟨b, i * 32 + j, none⟩).isSome = true := by
  have hl := h.len i hi
  have := h.cell i hi j _ (List.getElem?_eq_getElem (by rw [bv_len]; omega))
  rw [this]; rfl

/-- The first bytes of a sector are others. -/
theorem Secs.store {w : World} {b n : Nat} {S : Nat → List UInt8} (h : Secs w b n S) {a : Nat} (ha : a < n) (t : List UInt8) (ht : t.length ≤ 32) :
    Secs (w.setCells b (a * 32) (bv t)) b n (put S a (t ++ (S a).drop t.length)) := by
  refine ⟨fun i hi j x hx => ?_, fun j => by rw [World.frozen?_setCells]; exact h.free j, fun i hi => ?_⟩
  · unfold put at hx
    split at hx
    · rename_i e
      subst e
      have hl := h.len i hi
      by_cases hj : j < t.length
      · have hc := World.cell?_setCells_in b (bv t) (i * 32) w (fun k hk => h.some_at hi (by rw [bv_len] at hk; omega)) j (by rw [bv_len]; exact hj)
        rw [hc]
        rw [bv_append, List.getElem?_append_left (by rw [bv_len]; exact hj), List.getElem?_eq_getElem (by rw [bv_len]; exact hj)] at hx
        exact hx
      · rw [World.cell?_setCells_out b (bv t) (i * 32) w _ (fun _ _ => .inr (by simp only [bv_len]; omega))]
        apply h.cell i hi j x
        rw [bv_append, List.getElem?_append_right (by rw [bv_len]; omega), bv_len, bv_drop, List.getElem?_drop] at hx
        rw [← hx]; congr 1; omega
    · rename_i e
      have hl := h.len i hi
      have hj : j < 32 := by
        have := (List.getElem?_eq_some_iff.1 hx).1
        rw [bv_len] at this; omega
      rw [World.cell?_setCells_out b (bv t) (a * 32) w _ (fun _ _ => by simp only [bv_len]; omega)]
      exact h.cell i hi j x hx
  · unfold put
    split
    · rename_i e
      subst e
      have := h.len i hi
      simp; omega
    · exact h.len i hi

theorem put_whole (S : Nat → List UInt8) (a : Nat) (t : List UInt8) (h : (S a).length ≤ t.length) : put S a (t ++ (S a).drop t.length) = put S a t := by
  rw [List.drop_eq_nil_of_le h, List.append_nil]

theorem Secs.other {w : World} {b n : Nat} {S : Nat → List UInt8} (h : Secs w b n S) {g : Nat} (hg : b ≠ g) : ∀ (vs : List Value) (o : Nat), Secs (w.setCells g o vs) b n S := fun vs o =>
  ⟨fun i hi j x hx => by rw [World.cell?_setCells_out g vs o w _ (fun e _ => absurd e hg)]; exact h.cell i hi j x hx, fun j => by rw [World.frozen?_setCells]; exact h.free j, h.len⟩

/-- What lies where. -/
structure Lies (w : World) (F : Nat → Prop) (p bs bl : Nat) (v : Value) (d : Dk) (L : Nat → List UInt8) : Prop where
  c0 : w.cell? ⟨p, 0, none⟩ = some (.slice (some ⟨bs, 0, none⟩) d.n d.n)
  c1 : w.cell? ⟨p, 1, none⟩ = some (.slice (some ⟨bl, 0, none⟩) d.n d.n)
  c2 : w.cell? ⟨p, 2, none⟩ = some v
  c3 : w.cell? ⟨p, 3, none⟩ = some (.int .i64 d.fuse)
  c4 : w.cell? ⟨p, 4, none⟩ = some (.bool d.off)
  free : ∀ j, w.frozen? ⟨p, j, none⟩ = false
  sure : Secs w bs d.n d.S
  last : Secs w bl d.n L
  own : w.ownsRow 0 105 33 v d.Q.length (d.Q.flatMap qv)
  ps : p ≠ bs
  pl : p ≠ bl
  sl : bs ≠ bl
  pv : v.ownBlock ≠ some p
  sv : v.ownBlock ≠ some bs
  lv : v.ownBlock ≠ some bl
  fp : F p
  fs : F bs
  fl : F bl
  fv : ∀ k, v.ownBlock = some k → F k
  lt : ∀ k, F k → k < w.heap.size
  qs : ∀ q, q ∈ d.Q → q.1 < d.n ∧ q.2.length = 32
  n1 : 1 ≤ d.n
  n2 : d.n ≤ 4096
  fu : -1 ≤ d.fuse ∧ d.fuse ≤ 9223372036854775807

/-- A disk that lies in memory, in blocks of F alone. -/
def Disk (w : World) (F : Nat → Prop) (p : Nat) (d : Dk) : Prop := ∃ bs bl v, Lies w F p bs bl v d d.last

theorem ownsRow_kept {w w' : World} {base : Nat} {e : TypeId} {size : Nat} {v : Value} {n : Nat} {xs : List Value} (h : w.ownsRow base e size v n xs) (hb : ∀ k, v.ownBlock = some k → w'.heap[k]? = w.heap[k]?) : w'.ownsRow base e size v n xs := by
  refine ⟨h.1, ?_⟩
  rcases h.2 with hn | ⟨g, cap, cur, hv, h1, h2, h3⟩
  · exact .inl hn
  · refine .inr ⟨g, cap, cur, hv, h1, ?_, h3⟩
    rw [hb g (by rw [hv]; rfl)]; exact h2

theorem Lies.kept {w w' : World} {F G : Nat → Prop} {p bs bl : Nat} {v : Value} {d : Dk} {L : Nat → List UInt8} (h : Lies w F p bs bl v d L) (k : Kept G w w') (hd : ∀ i, F i → ¬ G i) : Lies w' F p bs bl v d L := by
  have hp := k.block p (h.lt p h.fp) (hd p h.fp)
  have hs := k.block bs (h.lt bs h.fs) (hd bs h.fs)
  have hl := k.block bl (h.lt bl h.fl) (hd bl h.fl)
  have hc : ∀ j, w'.cell? ⟨p, j, none⟩ = w.cell? ⟨p, j, none⟩ := fun j => World.cell?_of_block (w := w) (a := ⟨p, j, none⟩) hp
  exact { c0 := (hc _).trans h.c0, c1 := (hc _).trans h.c1, c2 := (hc _).trans h.c2, c3 := (hc _).trans h.c3, c4 := (hc _).trans h.c4,
          free := fun j => (World.frozen?_of_block (w := w) (a := ⟨p, j, none⟩) hp).trans (h.free j), sure := h.sure.of_block hs, last := h.last.of_block hl,
          own := ownsRow_kept h.own (fun i hi => k.block i (h.lt i (h.fv i hi)) (hd i (h.fv i hi))), ps := h.ps, pl := h.pl, sl := h.sl, pv := h.pv, sv := h.sv, lv := h.lv,
          fp := h.fp, fs := h.fs, fl := h.fl, fv := h.fv, lt := fun i hi => Nat.lt_of_lt_of_le (h.lt i hi) k.size, qs := h.qs, n1 := h.n1, n2 := h.n2, fu := h.fu }

theorem Disk.kept {w w' : World} {F G : Nat → Prop} {p : Nat} {d : Dk} (h : Disk w F p d) (k : Kept G w w') (hd : ∀ i, F i → ¬ G i) : Disk w' F p d := by
  obtain ⟨bs, bl, v, h⟩ := h
  exact ⟨bs, bl, v, h.kept k hd⟩
end Go.Proofs.YtkhpmmmildcceaaGreat

namespace Go.Proofs.YtkhpmmmildcceaaGreat
open Go.ChangeShapes Go.WideShapes Go.ChangeAt Go.RowKit
set_option linter.unusedVariables false
set_option maxRecDepth 100000

/-- How many sectors a disk has: of a nil one 0. -/
def Szd (w : World) (v : Value) (n : Nat) : Prop := (v = .pointer none ∧ n = 0) ∨ ∃ p a c, v = .pointer (some ⟨p, 0, none⟩) ∧ w.cell? ⟨p, 1, none⟩ = some (.slice a n c)

theorem size_is (v : Value) (n : Nat) (w : World) (h : Szd w v n) : Calls Tryz.prog 30 #[v] w fun e w' => e = .returned (.int .i64 (n : Int)) ∧ w' = w := by
  rcases h with ⟨rfl, rfl⟩ | ⟨p, a, c, rfl, h⟩
  · go_enter Tryz.func30, Tryz.ntmps30
    go_wp2
    go_ret
    exact ⟨rfl, rfl⟩
  · go_enter Tryz.func30, Tryz.ntmps30
    go_wp2
    go_ret
    exact ⟨rfl, rfl⟩

theorem has_is (v : Value) (n : Nat) (at_ : Int) (w : World) (h : Szd w v n) : Calls Tryz.prog 103 #[v, .int .i64 at_] w fun e w' => e = .returned (.bool (decide (0 ≤ at_ ∧ at_ < (n : Int)))) ∧ w' = w := by
  have H := (show Hid _ from size_is v n w h)
  clear h
  by_cases h0 : 0 ≤ at_
  · have e : decide (0 ≤ at_ ∧ at_ < (n : Int)) = decide (at_ < (n : Int)) := by simp [h0]
    rw [e]; clear e
    go_enter Tryz.func103, Tryz.ntmps103
    go_wp2_with fail
    refine Calls.mono H.out ?_; rintro e w1 ⟨rfl, rfl⟩
    go_wp2_with fail
    go_ret
    exact ⟨rfl, rfl⟩
  · have e : decide (0 ≤ at_ ∧ at_ < (n : Int)) = false := decide_eq_false (fun q => h0 q.1)
    rw [e]; clear e
    go_enter Tryz.func103, Tryz.ntmps103
    go_wp2_with fail
    go_ret
    exact ⟨rfl, rfl⟩

theorem off_nil (w : World) : Calls Tryz.prog 32 #[.pointer none] w fun e w' => e = .returned (.bool false) ∧ w' = w := by
  go_enter Tryz.func32, Tryz.ntmps32
  go_wp2
  go_ret
  exact ⟨rfl, rfl⟩
theorem off_at (p : Nat) (b : Bool) (w : World) (h : w.cell? ⟨p, 4, none⟩ = some (.bool b)) : Calls Tryz.prog 32 #[.pointer (some ⟨p, 0, none⟩)] w fun e w' => e = .returned (.bool b) ∧ w' = w := by
  go_enter Tryz.func32, Tryz.ntmps32
  go_wp2
  go_ret
  exact ⟨rfl, rfl⟩

/-- The fuse behind a write or a flush, the power, and whether it was let be. -/
def burn (fuse : Int) (off : Bool) : Int × Bool × Bool :=
  if fuse = 0 then (-1, true, false) else if off then (fuse, true, false) else (if 0 < fuse then fuse - 1 else fuse, false, true)

theorem spend_is (p : Nat) (fuse : Int) (off : Bool) (w : World) (h3 : w.cell? ⟨p, 3, none⟩ = some (.int .i64 fuse)) (h4 : w.cell? ⟨p, 4, none⟩ = some (.bool off))
    (hf : ∀ j, w.frozen? ⟨p, j, none⟩ = false) (hb : -1 ≤ fuse ∧ fuse ≤ 9223372036854775807) :
    Calls Tryz.prog 104 #[.pointer (some ⟨p, 0, none⟩)] w fun e w' => e = .returned (.bool (burn fuse off).2.2) ∧
      (w' = w ∨ ∃ v, w' = w.setCell ⟨p, 3, none⟩ v ∨ w' = (w.setCell ⟨p, 4, none⟩ (.bool true)).setCell ⟨p, 3, none⟩ v) ∧
      w'.cell? ⟨p, 3, none⟩ = some (.int .i64 (burn fuse off).1) ∧ w'.cell? ⟨p, 4, none⟩ = some (.bool (burn fuse off).2.1) := by
  have f3 := hf 3
  have f4 := hf 4
  clear hf
  by_cases c0 : fuse = 0
  · subst c0
    have e : burn 0 off = (-1, true, false) := rfl
    rw [e]; clear e
    go_enter Tryz.func104, Tryz.ntmps104
    go_wp2
    go_ret
    refine ⟨rfl, .inr ⟨_, .inr rfl⟩, ?_, ?_⟩
    · simp [go_sem, h3]
    · simp [go_sem, h4]
  · have g0 : (fuse == 0) = false := by simpa using c0
    cases off with
    | true =>
      have e : burn fuse true = (fuse, true, false) := by simp [burn, c0]
      rw [e]; clear e c0
      go_enter Tryz.func104, Tryz.ntmps104
      go_wp2
      go_ret
      exact ⟨rfl, .inl rfl, h3, h4⟩
    | false =>
      by_cases c1 : 0 < fuse
      · have e : burn fuse false = (fuse - 1, false, true) := by simp [burn, c0, c1]
        rw [e]; clear e c0
        go_enter Tryz.func104, Tryz.ntmps104
        go_wp2
        go_ret
        refine ⟨rfl, .inr ⟨_, .inl rfl⟩, ?_, ?_⟩
        · simp [go_sem, h3]
        · simp [go_sem, h4]
      · have e : burn fuse false = (fuse, false, true) := by simp [burn, c0, c1]
        rw [e]; clear e c0
        go_enter Tryz.func104, Tryz.ntmps104
        go_wp2
        go_ret
        exact ⟨rfl, .inl rfl, h3, h4⟩

theorem fuse_no (v : Value) (n : Int) (w : World) (h : Szd w v 0) : Calls Tryz.prog 43 #[v, .int .i64 n] w fun e w' => e = .returned (.int .i64 1) ∧ w' = w := by
  have H := (show Hid _ from size_is v 0 w h)
  clear h
  go_enter Tryz.func43, Tryz.ntmps43
  go_wp2_with fail
  refine Calls.mono H.out ?_; rintro e w1 ⟨rfl, rfl⟩
  go_wp2_with fail
  go_ret
  exact ⟨rfl, rfl⟩
end Go.Proofs.YtkhpmmmildcceaaGreat

namespace Go.Proofs.YtkhpmmmildcceaaGreat
open Go.ChangeShapes Go.WideShapes Go.ChangeAt Go.RowKit
set_option linter.unusedVariables false
set_option maxRecDepth 100000

theorem Disk.szd {w : World} {F : Nat → Prop} {p : Nat} {d : Dk} (h : Disk w F p d) : Szd w (.pointer (some ⟨p, 0, none⟩)) d.n := by
  obtain ⟨bs, bl, v, h⟩ := h
  exact .inr ⟨p, _, _, rfl, h.c1⟩

theorem Lies.field {w w' : World} {F : Nat → Prop} {p bs bl : Nat} {v : Value} {d : Dk} {L : Nat → List UInt8} (h : Lies w F p bs bl v d L) (k : Kept (fun i => i = p) w w')
    (e : ∀ j, j < 3 → w'.cell? ⟨p, j, none⟩ = w.cell? ⟨p, j, none⟩) (fr : ∀ j, w'.frozen? ⟨p, j, none⟩ = w.frozen? ⟨p, j, none⟩) (fuse : Int) (off : Bool)
    (c3 : w'.cell? ⟨p, 3, none⟩ = some (.int .i64 fuse)) (c4 : w'.cell? ⟨p, 4, none⟩ = some (.bool off)) (fu : -1 ≤ fuse ∧ fuse ≤ 9223372036854775807) :
    Lies w' F p bs bl v { d with fuse := fuse, off := off } L := by
  have hs := k.block bs (h.lt bs h.fs) (fun q => h.ps q.symm)
  have hl := k.block bl (h.lt bl h.fl) (fun q => h.pl q.symm)
  exact { c0 := (e 0 (by omega)).trans h.c0, c1 := (e 1 (by omega)).trans h.c1, c2 := (e 2 (by omega)).trans h.c2, c3 := c3, c4 := c4,
          free := fun j => (fr j).trans (h.free j), sure := h.sure.of_block hs, last := h.last.of_block hl,
          own := ownsRow_kept h.own (fun i hi => k.block i (h.lt i (h.fv i hi)) (fun q => h.pv (q ▸ hi))), ps := h.ps, pl := h.pl, sl := h.sl, pv := h.pv, sv := h.sv, lv := h.lv,
          fp := h.fp, fs := h.fs, fl := h.fl, fv := h.fv, lt := fun i hi => Nat.lt_of_lt_of_le (h.lt i hi) k.size, qs := h.qs, n1 := h.n1, n2 := h.n2, fu := fu }

theorem burn_fits (fuse : Int) (off : Bool) (h : -1 ≤ fuse ∧ fuse ≤ 9223372036854775807) : -1 ≤ (burn fuse off).1 ∧ (burn fuse off).1 ≤ 9223372036854775807 := by
  unfold burn
  split
  · simp
  · split
    · exact h
    · simp only
      split <;> omega

theorem spend_lies {w : World} {F : Nat → Prop} {p bs bl : Nat} {v : Value} {d : Dk} {L : Nat → List UInt8} (h : Lies w F p bs bl v d L) :
    Calls Tryz.prog 104 #[.pointer (some ⟨p, 0, none⟩)] w fun e w' => e = .returned (.bool (burn d.fuse d.off).2.2) ∧
      Lies w' F p bs bl v { d with fuse := (burn d.fuse d.off).1, off := (burn d.fuse d.off).2.1 } L ∧ Kept (fun i => i = p) w w' ∧ w'.heap.size = w.heap.size := by
  refine (spend_is p d.fuse d.off w h.c3 h.c4 h.free h.fu).mono ?_
  rintro e w' ⟨rfl, hw, h3, h4⟩
  rcases hw with rfl | ⟨u, rfl | rfl⟩
  · exact ⟨rfl, h.field (Kept.refl _ _) (fun _ _ => rfl) (fun _ => rfl) _ _ h3 h4 (burn_fits _ _ h.fu), Kept.refl _ _, rfl⟩
  · have k : Kept (fun i => i = p) w (w.setCell ⟨p, 3, none⟩ u) := (Kept.refl (fun i => i = p) w).setCell (p := ⟨p, 3, none⟩) (.inl rfl) u
    refine ⟨rfl, h.field k (fun j hj => ?_) (fun j => by simp) _ _ h3 h4 (burn_fits _ _ h.fu), k, by simp⟩
    rw [World.cell?_setCell_other _ _ _ _ (by simp <;> omega)]
  · have k : Kept (fun i => i = p) w ((w.setCell ⟨p, 4, none⟩ (.bool true)).setCell ⟨p, 3, none⟩ u) := ((Kept.refl (fun i => i = p) w).setCell (p := ⟨p, 4, none⟩) (.inl rfl) _).setCell (p := ⟨p, 3, none⟩) (.inl rfl) u
    refine ⟨rfl, h.field k (fun j hj => ?_) (fun j => by simp) _ _ h3 h4 (burn_fits _ _ h.fu), k, by simp⟩
    rw [World.cell?_setCell_other _ _ _ _ (by simp <;> omega), World.cell?_setCell_other _ _ _ _ (by simp <;> omega)]

theorem Secs.text {w : World} {b n : Nat} {S : Nat → List UInt8} (h : Secs w b n S) {a : Nat} (ha : a < n) (c : Nat) :
    (convert 98 9 (.slice (some ⟨b, a * 32, none⟩) 32 c)).run Tryz.prog w = .ok (.string ⟨(S a).toArray⟩) w := by
  have hl := h.len a ha
  have := run_convert_bytes_back (P := Tryz.prog) w 98 9 5 ⟨b, a * 32, none⟩ c (S a) Tryz.underlying98 Tryz.underlying5 Tryz.underlying9 (fun j hj => by
    rw [Go.WideShapes.add_plain]
    exact h.cell a ha j _ (by simp [bv, List.getElem?_eq_getElem hj]))
  rw [hl] at this
  exact this

theorem read_no (v : Value) (n : Nat) (at_ : Int) (w : World) (h : Szd w v n) (ha : ¬ (0 ≤ at_ ∧ at_ < (n : Int))) :
    Calls Tryz.prog 84 #[v, .int .i64 at_] w fun e w' => e = .returned (.tuple #[.string ⟨#[]⟩, .int .i64 1]) ∧ w' = w := by
  have H := (show Hid _ from has_is v n at_ w h)
  rw [decide_eq_false ha] at H
  clear h
  go_enter Tryz.func84, Tryz.ntmps84
  go_wp2_with fail
  refine Calls.mono H.out ?_; rintro e w1 ⟨rfl, rfl⟩
  go_wp2_with fail
  go_ret2
  exact ⟨rfl, rfl⟩

theorem read_is {w : World} {F : Nat → Prop} {p : Nat} {d : Dk} (h : Disk w F p d) (a : Nat) (ha : a < d.n) :
    Calls Tryz.prog 84 #[.pointer (some ⟨p, 0, none⟩), .int .i64 (a : Int)] w fun e w' => e = .returned (if d.off then .tuple #[.string ⟨#[]⟩, .int .i64 30] else .tuple #[.string ⟨(d.last a).toArray⟩, .int .i64 0]) ∧ w' = w := by
  have H := (show Hid _ from has_is _ d.n (a : Int) w h.szd)
  rw [decide_eq_true (by omega)] at H
  obtain ⟨bs, bl, v, h⟩ := h
  have ht := h.last.text ha 32
  have h1 := h.c1
  have h4 := h.c4
  have ha' : (a : Int) < (d.n : Int) := by omega
  generalize d.last a = T at *
  generalize d.off = off at *
  generalize d.n = n at *
  clear h
  cases off with
  | true =>
    go_enter Tryz.func84, Tryz.ntmps84
    go_wp2_with fail
    refine Calls.mono H.out ?_; rintro e w1 ⟨rfl, rfl⟩
    go_wp2_with fail
    go_ret2
    exact ⟨rfl, rfl⟩
  | false =>
    go_enter Tryz.func84, Tryz.ntmps84
    go_wp2_with fail
    refine Calls.mono H.out ?_; rintro e w1 ⟨rfl, rfl⟩
    go_wp2_with fail
    go_ret2
    exact ⟨rfl, rfl⟩
end Go.Proofs.YtkhpmmmildcceaaGreat

namespace Go.Proofs.YtkhpmmmildcceaaGreat
open Go.ChangeShapes Go.WideShapes Go.ChangeAt Go.RowKit
set_option linter.unusedVariables false
set_option maxRecDepth 100000

theorem Tryz.info103 : (Tryz.prog.info? 103).map (fun i => (i.zero, i.size, i.bytes)) = some (some (.agg (Array.replicate 32 (.int .u8 0))), 32, 32) := by kernel_rfl

theorem make_secs (n : Nat) (hn : n ≤ 4096) : ∃ Z : Array Value, (∀ w, (Instr.makeSlice 76 (.int .i64 n) (.int .i64 n)).run Tryz.prog w = .ok (.slice (some ⟨w.heap.size, 0, none⟩) n n) (w.alloc (.cells Z 103))) ∧
    ∀ j, j < n * 32 → Z[j]? = some (.int .u8 0) := by
  obtain ⟨i, hi, hz, h1, h2⟩ : ∃ i, Tryz.prog.info? 103 = some i ∧ i.zero = some (.agg (Array.replicate 32 (.int .u8 0))) ∧ i.size = 32 ∧ i.bytes = 32 := by
    have h := Tryz.info103
    cases hi : Tryz.prog.info? 103 with
    | none => rw [hi] at h; cases h
    | some i =>
      rw [hi] at h
      simp only [Option.map_some, Option.some.injEq, Prod.mk.injEq] at h
      exact ⟨i, rfl, h⟩
  refine ⟨madeCells (Array.replicate 32 (.int .u8 0)) (n * 32), fun w => ?_, fun j hj => ?_⟩
  · have hr := run_make (P := Tryz.prog) w 76 103 i _ Tryz.underlying76 hi hz .i64 .i64 n n (by omega) (Int.le_refl _) (by rw [h2]; omega) (by omega)
    rw [Int.toNat_natCast, h1] at hr
    exact hr
  · unfold madeCells
    rw [Array.getElem?_map, Array.getElem?_eq_getElem (by simpa using hj)]
    have hm : j % 32 < 32 := Nat.mod_lt _ (by omega)
    simp [hm]

theorem new_no (n : Int) (w : World) (h : ¬ (1 ≤ n ∧ n ≤ 4096)) : Calls Tryz.prog 8 #[.int .i64 n] w fun e w' => e = .returned (.tuple #[.pointer none, .int .i64 1]) ∧ w' = w := by
  by_cases c : n < 1
  · go_enter Tryz.func8, Tryz.ntmps8
    go_wp2
    go_ret2
    exact ⟨rfl, rfl⟩
  · have c' : 4096 < n := by omega
    go_enter Tryz.func8, Tryz.ntmps8
    go_wp2
    go_ret2
    exact ⟨rfl, rfl⟩

/-- A disk as it is made. -/
def fresh (n : Nat) : Dk := { n := n, S := fun _ => List.replicate 32 0, Q := [], fuse := -1, off := false }

theorem fresh_lies (n : Nat) (h1 : 1 ≤ n) (h2 : n ≤ 4096) (w : World) (Z : Array Value) (hZ : ∀ j, j < n * 32 → Z[j]? = some (.int .u8 0)) (bs bl : Nat)
    (hb : (bs = w.heap.size ∧ bl = w.heap.size + 1) ∨ (bl = w.heap.size ∧ bs = w.heap.size + 1)) :
    ∃ F, Disk (((w.alloc (.cells Z 103)).alloc (.cells Z 103)).alloc (.cells #[.slice (some ⟨bs, 0, none⟩) n n, .slice (some ⟨bl, 0, none⟩) n n, .slice none 0 0, .int .i64 (-1), .bool false] 79)).drew F (w.heap.size + 1 + 1) (fresh n) ∧
      ∀ k, F k → w.heap.size ≤ k := by
  generalize hC : (#[.slice (some ⟨bs, 0, none⟩) n n, .slice (some ⟨bl, 0, none⟩) n n, .slice none 0 0, .int .i64 (-1), .bool false] : Array Value) = C
  generalize hW : (((w.alloc (.cells Z 103)).alloc (.cells Z 103)).alloc (.cells C 79)).drew = W
  have hs : W.heap.size = w.heap.size + 3 := by rw [← hW]; simp
  have b0 : W.heap[w.heap.size]? = some (.cells Z 103) := by
    rw [← hW]
    show (Array.push (Array.push (Array.push w.heap (.cells Z 103)) (.cells Z 103)) (.cells C 79))[w.heap.size]? = _
    simp [Array.getElem?_push]
    omega
  have b1 : W.heap[w.heap.size + 1]? = some (.cells Z 103) := by
    rw [← hW]
    show (Array.push (Array.push (Array.push w.heap (.cells Z 103)) (.cells Z 103)) (.cells C 79))[w.heap.size + 1]? = _
    rw [Array.getElem?_push, Array.size_push, Array.size_push]
    rw [if_neg (by omega), Array.getElem?_push, Array.size_push, if_pos rfl]
  have b2 : W.heap[w.heap.size + 1 + 1]? = some (.cells C 79) := by
    rw [← hW]
    show (Array.push (Array.push (Array.push w.heap (.cells Z 103)) (.cells Z 103)) (.cells C 79))[w.heap.size + 1 + 1]? = _
    rw [Array.getElem?_push, Array.size_push, Array.size_push]
    rw [if_pos rfl]
  have sec : ∀ b, W.heap[b]? = some (.cells Z 103) → Secs W b n (fun _ => List.replicate 32 0) := by
    intro b hb
    refine ⟨fun i hi j x hx => ?_, fun j => frozen_of_row W b j Z 103 hb, fun i hi => by simp⟩
    rw [cell_of_row W b _ Z 103 (0, 0) hb]
    obtain ⟨hj, e⟩ := List.getElem?_eq_some_iff.1 hx
    rw [bv_len, List.length_replicate] at hj
    rw [hZ _ (by omega), ← hx]
    simp only [bv, List.getElem?_map, List.getElem?_replicate, hj, if_true, Option.map_some]
    rfl
  refine ⟨fun k => w.heap.size ≤ k ∧ k < w.heap.size + 3, ⟨bs, bl, .slice none 0 0, ?_⟩, fun k hk => hk.1⟩
  have cc : ∀ j, W.cell? ⟨w.heap.size + 1 + 1, j, none⟩ = C[j]? := fun j => cell_of_row W _ j C 79 (0, 0) b2
  exact { c0 := by rw [cc, ← hC]; rfl, c1 := by rw [cc, ← hC]; rfl, c2 := by rw [cc, ← hC]; rfl, c3 := by rw [cc, ← hC]; rfl, c4 := by rw [cc, ← hC]; rfl,
          free := fun j => frozen_of_row W _ j C 79 b2, sure := by rcases hb with ⟨e, _⟩ | ⟨_, e⟩ <;> (rw [e]; exact sec _ (by assumption)),
          last := by rcases hb with ⟨_, e⟩ | ⟨e, _⟩ <;> (rw [e]; exact sec _ (by assumption)),
          own := World.ownsRow_nil _ _ _ _, ps := by omega, pl := by omega, sl := by omega, pv := by simp [Value.ownBlock], sv := by simp [Value.ownBlock], lv := by simp [Value.ownBlock],
          fp := by omega, fs := by omega, fl := by omega, fv := (fun k hk => by cases hk), lt := (fun k hk => by omega), qs := (fun q hq => by cases hq), n1 := h1, n2 := h2, fu := by simp [fresh] }

theorem new_is (n : Nat) (h1 : 1 ≤ n) (h2 : n ≤ 4096) (w : World) :
    Calls Tryz.prog 8 #[.int .i64 (n : Int)] w fun e w' => ∃ p F, e = .returned (.tuple #[.pointer (some ⟨p, 0, none⟩), .int .i64 0]) ∧ Disk w' F p (fresh n) ∧ Below w.heap.size w w' ∧ ∀ k, F k → w.heap.size ≤ k := by
  obtain ⟨Z, hmk, hZ⟩ := make_secs n h2
  have HZ := (show Hid _ from hZ)
  clear hZ
  have c1 : ¬ (n : Int) < 1 := by omega
  have c2 : ¬ (4096 : Int) < (n : Int) := by omega
  go_enter Tryz.func8, Tryz.ntmps8
  go_wp2_with fail
  go_region
  all_goals
    go_wp2
    go_ret2
  · obtain ⟨F, hF, hk⟩ := fresh_lies n h1 h2 w Z HZ.out _ _ (.inl ⟨rfl, rfl⟩)
    exact ⟨_, F, rfl, hF, ((((Below.refl _ w).alloc (Nat.le_refl _) _).alloc (by simp) _).alloc (by simp; omega) _).drew, hk⟩
  · obtain ⟨F, hF, hk⟩ := fresh_lies n h1 h2 w Z HZ.out _ _ (.inr ⟨rfl, rfl⟩)
    exact ⟨_, F, rfl, hF, ((((Below.refl _ w).alloc (Nat.le_refl _) _).alloc (by simp) _).alloc (by simp; omega) _).drew, hk⟩
end Go.Proofs.YtkhpmmmildcceaaGreat

namespace Go.Proofs.YtkhpmmmildcceaaGreat
open Go.ChangeShapes Go.WideShapes Go.ChangeAt Go.RowKit
set_option linter.unusedVariables false
set_option maxRecDepth 100000

section
variable {P : Program} {ops : Array Oper} {rest : List Oper} {o : Oper} {a : Act} {w w' : World} {Q : Exit → Act → World → Prop} {K : Act → World → Prop} {E : Prop} {v : Value}

theorem st_load {ty : TypeId} {x : Operand} (hgd : o.guard = none) (ho : o.op = .load ty x) (hr : (Instr.loadAt ty (a.eval x)).run P w = .ok v w') (h : wpList P ops Q rest (a.put o.dst v) w') : wpList P ops Q (o :: rest) a w :=
  wpList_plain hgd fun _ hK => by
    unfold Oper.wp execOp
    simp only [ho, Sem.run_bind, hr, Result.andThen_ok]
    exact hK _ _ h
theorem st_store {ty : TypeId} {x y : Operand} (hgd : o.guard = none) (ho : o.op = .store ty x y) (hr : (Instr.storeAt ty (a.eval x) (a.eval y)).run P w = .ok () w') (h : wpList P ops Q rest (a.put o.dst undef) w') : wpList P ops Q (o :: rest) a w :=
  wpList_plain hgd fun _ hK => by
    unfold Oper.wp execOp
    simp only [ho, Sem.run_bind, hr, Result.andThen_ok]
    exact hK _ _ h
theorem st_alloc {ty : TypeId} (hgd : o.guard = none) (ho : o.op = .alloc ty) (hr : (Instr.alloc ty true (.tuple #[])).run P w = .ok v w') (h : wpList P ops Q rest (a.put o.dst v) w') : wpList P ops Q (o :: rest) a w :=
  wpList_plain hgd fun _ hK => by
    unfold Oper.wp execOp
    simp only [ho, Sem.run_bind, hr, Result.andThen_ok]
    exact hK _ _ h
theorem st_build {ty : TypeId} {i : Nat} {x : Operand} (hgd : o.guard = none) (ho : o.op = .build ty #[(i, x)]) (hr : (Instr.build ty #[(i, a.eval x)]).run P w = .ok v w') (h : wpList P ops Q rest (a.put o.dst v) w') : wpList P ops Q (o :: rest) a w :=
  wpList_plain hgd fun _ hK => by
    unfold Oper.wp execOp
    simp only [ho, Sem.run_bind, List.map_toArray, List.map_cons, List.map_nil, hr, Result.andThen_ok]
    exact hK _ _ h
theorem st_copy {x y : Operand} {t u : TypeId} (hgd : o.guard = none) (ho : o.op = .call { callee := .builtin .copy, args := #[x, y], argTypes := #[t, u] }) (hr : (Builtin.copy_ #[t, u] o.type #[a.eval x, a.eval y]).run P w = .ok v w') (h : wpList P ops Q rest (a.put o.dst v) w') : wpList P ops Q (o :: rest) a w :=
  wpList_plain hgd fun _ hK => by
    unfold Oper.wp execOp
    simp only [ho, resolve, invoke, builtin, Sem.run_bind, Sem.run_pure, Result.andThen_ok, List.map_toArray, List.map_cons, List.map_nil, hr]
    exact hK _ _ h
theorem st_clear {x : Operand} {t : TypeId} (hgd : o.guard = none) (ho : o.op = .call { callee := .builtin .clear, args := #[x], argTypes := #[t] }) (hr : (Builtin.clear_ #[t] o.type #[a.eval x]).run P w = .ok v w') (h : wpList P ops Q rest (a.put o.dst v) w') : wpList P ops Q (o :: rest) a w :=
  wpList_plain hgd fun _ hK => by
    unfold Oper.wp execOp
    simp only [ho, resolve, invoke, builtin, Sem.run_bind, Sem.run_pure, Result.andThen_ok, List.map_toArray, List.map_cons, List.map_nil, hr]
    exact hK _ _ h

theorem sl_load {R : Act → Prop} {ty : TypeId} {x : Operand} (hgd : o.guard = none) (ho : o.op = .load ty x) (hr : (Instr.loadAt ty (a.eval x)).run P w = .ok v w) (h : wpStill P ops w R rest (a.put o.dst v)) : wpStill P ops w R (o :: rest) a := by
  have hw : Region.wanted o (yielded ops a.tmps) = true := by simp [Region.wanted, hgd]
  unfold wpStill
  rw [if_pos hw]
  unfold Oper.still execOp
  simp only [ho, Sem.run_bind, hr, Result.andThen_ok]
  exact ⟨rfl, h⟩
theorem dr_append {x y : Operand} {t u : TypeId} (hgd : o.guard = none) (ho : o.op = .call { callee := .builtin .append, args := #[x, y], argTypes := #[t, u] }) (hr : (Builtin.append_ #[t, u] o.type #[a.eval x, a.eval y]).run P w = .ok v w')
    (hK : K (a.put o.dst v) w') : if Region.wanted o (yielded ops a.tmps) = true then Oper.wp P o a w K Q else E := by
  have hw : Region.wanted o (yielded ops a.tmps) = true := by simp [Region.wanted, hgd]
  rw [if_pos hw]
  unfold Oper.wp execOp
  simp only [ho, resolve, invoke, builtin, Sem.run_bind, Sem.run_pure, Result.andThen_ok, List.map_toArray, List.map_cons, List.map_nil, hr]
  exact hK
theorem dr_load {ty : TypeId} {x : Operand} (hgd : o.guard = none) (ho : o.op = .load ty x) (hr : (Instr.loadAt ty (a.eval x)).run P w = .ok v w') (hK : K (a.put o.dst v) w') :
    if Region.wanted o (yielded ops a.tmps) = true then Oper.wp P o a w K Q else E := by
  have hw : Region.wanted o (yielded ops a.tmps) = true := by simp [Region.wanted, hgd]
  rw [if_pos hw]
  unfold Oper.wp execOp
  simp only [ho, Sem.run_bind, hr, Result.andThen_ok]
  exact hK
theorem dr_slice {ty : TypeId} {n i : Nat} {x : Operand} (hgd : o.guard = none) (ho : o.op = .buildSlice ty n #[(i, x)]) (hr : (Instr.buildSlice ty n #[(i, a.eval x)]).run P w = .ok v w') (hK : K (a.put o.dst v) w') :
    if Region.wanted o (yielded ops a.tmps) = true then Oper.wp P o a w K Q else E := by
  have hw : Region.wanted o (yielded ops a.tmps) = true := by simp [Region.wanted, hgd]
  rw [if_pos hw]
  unfold Oper.wp execOp
  simp only [ho, Sem.run_bind, List.map_toArray, List.map_cons, List.map_nil, hr, Result.andThen_ok]
  exact hK
theorem dr_copy {x y : Operand} {t u : TypeId} (hgd : o.guard = none) (ho : o.op = .call { callee := .builtin .copy, args := #[x, y], argTypes := #[t, u] }) (hr : (Builtin.copy_ #[t, u] o.type #[a.eval x, a.eval y]).run P w = .ok v w')
    (hK : K (a.put o.dst v) w') : if Region.wanted o (yielded ops a.tmps) = true then Oper.wp P o a w K Q else E := by
  have hw : Region.wanted o (yielded ops a.tmps) = true := by simp [Region.wanted, hgd]
  rw [if_pos hw]
  unfold Oper.wp execOp
  simp only [ho, resolve, invoke, builtin, Sem.run_bind, Sem.run_pure, Result.andThen_ok, List.map_toArray, List.map_cons, List.map_nil, hr]
  exact hK
end

/-! The runs themselves, of sectors and writes. -/
theorem Tryz.info105 : (Tryz.prog.info? 105).map (fun i => (i.zero, i.size, i.bytes)) = some (some (.agg (#[.int .i64 0] ++ Array.replicate 32 (.int .u8 0))), 33, 40) := by kernel_rfl

theorem info_of {t : TypeId} {z : Value} {n b : Nat} (h : (Tryz.prog.info? t).map (fun i => (i.zero, i.size, i.bytes)) = some (some z, n, b)) : ∃ i, Tryz.prog.info? t = some i ∧ i.zero = some z ∧ i.size = n ∧ i.bytes = b := by
  cases hi : Tryz.prog.info? t with
  | none => rw [hi] at h; cases h
  | some i =>
    rw [hi] at h
    simp only [Option.map_some, Option.some.injEq, Prod.mk.injEq] at h
    exact ⟨i, rfl, h⟩

theorem loads {w : World} {b o n : Nat} (cs : List Value) (hn : cs.length = n) (h : ∀ j x, cs[j]? = some x → w.cell? ⟨b, o + j, none⟩ = some x) : (loadCellsFrom ⟨b, o, none⟩ 0 n #[]).run Tryz.prog w = .ok cs.toArray w := by
  have := run_loadCells_list (P := Tryz.prog) w ⟨b, o, none⟩ cs (fun j x hx => by rw [Go.WideShapes.add_plain]; exact h j x hx)
  rw [hn] at this
  exact this
theorem load62 {w : World} {b o : Nat} (cs : List Value) (hn : cs.length = 32) (h : ∀ j x, cs[j]? = some x → w.cell? ⟨b, o + j, none⟩ = some x) : (Instr.loadAt 103 (.pointer (some ⟨b, o, none⟩))).run Tryz.prog w = .ok (.agg cs.toArray) w := by
  have hl := loads cs hn h
  simp [Instr.loadAt, Instr.sureAddr, loadVar, Sem.run_bind, loadCells, hl]
theorem load64 {w : World} {b o : Nat} (cs : List Value) (hn : cs.length = 33) (h : ∀ j x, cs[j]? = some x → w.cell? ⟨b, o + j, none⟩ = some x) : (Instr.loadAt 105 (.pointer (some ⟨b, o, none⟩))).run Tryz.prog w = .ok (.agg cs.toArray) w := by
  have hl := loads cs hn h
  simp [Instr.loadAt, Instr.sureAddr, loadVar, Sem.run_bind, loadCells, hl]
theorem stores {w : World} {b o : Nat} (cs : List Value) (hc : ∀ j, j < cs.length → (w.cell? ⟨b, o + j, none⟩).isSome = true) (hf : ∀ j, j < cs.length → w.frozen? ⟨b, o + j, none⟩ = false) (h1 : ∀ v ∈ cs, v.oneCell' = true) :
    (storeCells ⟨b, o, none⟩ cs 0).run Tryz.prog w = .ok () (w.setCells b o cs) := by
  simpa using run_storeCells_cells (P := Tryz.prog) b o cs 0 w (by simpa using hc) (by simpa using hf) h1

theorem alloc64 (w : World) : (Instr.alloc 105 true (.tuple #[])).run Tryz.prog w = .ok (.pointer (some ⟨w.heap.size, 0, none⟩)) (w.alloc (.cells (#[.int .i64 0] ++ Array.replicate 32 (.int .u8 0)) 105)) := by
  simp [Instr.alloc, newVar, go_sem]
  rfl
theorem store64 {w : World} (C Z : Array Value) (hC : C.size = 33) (hZ : Z.size = 33) (h1 : ∀ v ∈ C.toList, v.oneCell' = true) : (Instr.storeAt 105 (.pointer (some ⟨w.heap.size, 0, none⟩)) (.agg C)).run Tryz.prog (w.alloc (.cells Z 105)) = .ok () (w.alloc (.cells C 105)) := by
  obtain ⟨i, hi, hz, h2, _⟩ := info_of Tryz.info105
  simp only [Instr.storeAt, Instr.sureAddr, Sem.run_bind, Sem.run_pure, Result.andThen]
  have hh : (w.alloc (.cells Z 105)).heap[w.heap.size]? = some (.cells Z 105 (0, 0)) := heap_alloc_new w _
  have := run_storeVar_row (P := Tryz.prog) (w.alloc (.cells Z 105)) w.heap.size 105 105 Z C hh (by rw [hi]; simp [h2, hC]) (by omega) (by rw [Array.all_eq_true]; intro k hk; exact h1 _ (by simp))
  rw [this]
  congr 1
  simp only [World.setRow, World.alloc]
  congr 1
  apply Array.ext_getElem?
  intro k
  rw [Array.getElem?_modify]
  by_cases h : w.heap.size = k
  · subst h
    simp
  · have h' : ¬ k = w.heap.size := fun e => h e.symm
    simp [h, h', Array.getElem?_push]
theorem bslice (U : List Value) (hU : U.length = 33) (w : World) : (Instr.buildSlice 77 1 #[(0, .agg U.toArray)]).run Tryz.prog w = .ok (.slice (some ⟨w.heap.size, 0, none⟩) 1 1) (w.alloc (.cells U.toArray 105)) := by
  obtain ⟨i, hi, hz, h1, h2⟩ := info_of Tryz.info105
  refine run_buildSlice w 77 105 1 _ _ i _ Tryz.underlying77 hi hz (by rw [h1]; omega) (by rw [h1]; omega) ?_
  rw [h1]
  generalize hC : (Array.range (1 * 33)).map ((Value.agg (#[.int .i64 0] ++ Array.replicate 32 (.int .u8 0))).cells[· % (Value.agg (#[.int .i64 0] ++ Array.replicate 32 (.int .u8 0))).cells.size]!) = C
  have hs : C.size = 33 := by rw [← hC]; simp
  have := Great.fill_whole (s := 33) (by omega) [.agg U.toArray] C (by simp [Value.cells, hU]) (by simp [hs])
  simpa [Value.cells] using this
theorem load54 {w : World} {b o : Nat} {v : Value} (h : w.cell? ⟨b, o, none⟩ = some v) : (Instr.loadAt 77 (.pointer (some ⟨b, o, none⟩))).run Tryz.prog w = .ok v w := by
  simp [go_sem, h]
theorem store62 {w : World} {b o : Nat} (cs : List Value) (hl : cs.length = 32) (hc : ∀ j, j < 32 → (w.cell? ⟨b, o + j, none⟩).isSome = true) (hf : ∀ j, j < 32 → w.frozen? ⟨b, o + j, none⟩ = false) (h1 : ∀ v ∈ cs, v.oneCell' = true) :
    (Instr.storeAt 103 (.pointer (some ⟨b, o, none⟩)) (.agg cs.toArray)).run Tryz.prog w = .ok () (w.setCells b o cs) := by
  have hs := stores (w := w) (b := b) (o := o) cs (by rw [hl]; exact hc) (by rw [hl]; exact hf) h1
  simp [Instr.storeAt, Instr.sureAddr, storeVar, Sem.run_bind, Value.cells, hl, hs]
theorem build64 (w : World) (a : Int) : (Instr.build 105 #[(0, .int .i64 a)]).run Tryz.prog w = .ok (.agg (#[.int .i64 a] ++ Array.replicate 32 (.int .u8 0))) w := by
  apply run_build
  kernel_rfl
end Go.Proofs.YtkhpmmmildcceaaGreat
