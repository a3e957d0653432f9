/- A disk's methods, told of the disk alone. -/
import Derived.Test.YtbjijacpgklegaaAll
namespace Go.Proofs.Ytbjijacpgklegaa
open Go.ChangeShapes Go.WideShapes Go.ChangeAt Go.RowKit
set_option linter.unusedVariables false
set_option maxRecDepth 100000

/-- Whether there is power for a write or a flush. -/
def Dk.on (d : Dk) : Bool := (burn d.fuse d.off).2.2
def Dk.write (d : Dk) (a : Nat) (t : List UInt8) : Dk := if d.on then { d.burnt with Q := d.Q ++ [(a, t)] } else d.burnt
def Dk.flush (d : Dk) : Dk := if d.on then { d.burnt with S := flushed d.S d.Q, Q := [] } else d.burnt
def Dk.crash (d : Dk) (ks : List Int) : Dk := { d with S := torn d.S (d.Q.zip ks), Q := [], fuse := -1, off := false }
def Dk.setFuse (d : Dk) (n : Int) : Dk := { d with fuse := max n (-1) }

/-- New blocks of a disk are new. -/
def Grew (F F' : Nat → Prop) (w : World) : Prop := ∀ k, F' k → F k ∨ w.heap.size ≤ k

theorem last_write (S : Nat → List UInt8) (Q : List (Nat × List UInt8)) (a : Nat) (t : List UInt8) : put (fun i => behind (S i) i Q) a t = fun i => behind (S i) i (Q ++ [(a, t)]) := by
  funext i
  unfold put behind
  rw [List.foldl_append]
  simp only [List.foldl_cons, List.foldl_nil]
  by_cases h : i = a
  · rw [if_pos h, if_pos h.symm]
  · rw [if_neg h, if_neg (fun e => h e.symm)]

theorem torn_out (l : List ((Nat × List UInt8) × Int)) (i : Nat) (h : ∀ x, x ∈ l → x.1.1 ≠ i) : ∀ S : Nat → List UInt8, torn S l i = S i := by
  unfold torn
  induction l with
  | nil => intro S; rfl
  | cons x r ih =>
    intro S
    rw [List.foldl_cons, ih (fun y hy => h y (by simp [hy]))]
    unfold put
    rw [if_neg (fun e => h x (by simp) e.symm)]

theorem settle_torn (S : Nat → List UInt8) (Q : List (Nat × List UInt8)) (ks : List Int) : settled (torn S (Q.zip ks)) (fun i => behind (S i) i Q) Q = torn S (Q.zip ks) := by
  funext i
  rcases settled_at (torn S (Q.zip ks)) Q i (fun i => behind (S i) i Q) with h | ⟨h, hq⟩
  · exact h
  · rw [h, behind_out _ _ _ hq, torn_out]
    intro x hx
    exact hq x.1 (List.of_mem_zip hx).1

theorem disk_write {w : World} {F : Nat → Prop} {p : Nat} {d : Dk} (h : Disk w F p d) (a : Nat) (ha : a < d.n) (s : ByteArray) (hs : s.size = 32) (hn : d.Q.length < 1048576) :
    Calls Try.prog 67 #[.pointer (some ⟨p, 0, none⟩), .int .i64 (a : Int), .string s] w fun e w' => e = .returned (.int .i64 (if d.on then 0 else 30)) ∧
      ∃ F', Disk w' F' p (d.write a s.data.toList) ∧ Kept F w w' ∧ Grew F F' w := by
  obtain ⟨bs, bl, v, h⟩ := h
  unfold Dk.write
  cases hb : d.on with
  | true =>
    refine (write_on h a ha s hs hb hn).mono ?_
    rintro e w' ⟨rfl, v', F', h1, h2, h3⟩
    refine ⟨rfl, F', ⟨bs, bl, v', ?_⟩, h2, h3⟩
    have e := last_write d.S d.Q a s.data.toList
    have : put d.last a s.data.toList = Dk.last { d.burnt with Q := d.Q ++ [(a, s.data.toList)] } := e
    rw [this] at h1
    exact h1
  | false =>
    refine (write_off h a ha s hs hb).mono ?_
    rintro e w' ⟨rfl, h1, h2, h3⟩
    exact ⟨rfl, F, ⟨bs, bl, v, h1⟩, h2, fun k hk => .inl hk⟩

theorem disk_flush {w : World} {F : Nat → Prop} {p : Nat} {d : Dk} (h : Disk w F p d) (hn : d.Q.length ≤ 1048576) :
    Calls Try.prog 52 #[.pointer (some ⟨p, 0, none⟩)] w fun e w' => e = .returned (.int .i64 (if d.on then 0 else 30)) ∧ Disk w' F p d.flush ∧ Kept F w w' := by
  obtain ⟨bs, bl, v, h⟩ := h
  unfold Dk.flush
  cases hb : d.on with
  | true =>
    refine (flush_on h hb hn).mono ?_
    rintro e w' ⟨rfl, v', h1, h2⟩
    refine ⟨rfl, ⟨bs, bl, v', ?_⟩, h2⟩
    have e : settled (flushed d.S d.Q) d.last d.Q = Dk.last { d.burnt with S := flushed d.S d.Q, Q := [] } := settle_flushed d.S d.Q
    rw [e] at h1
    exact h1
  | false =>
    refine (flush_off h hb).mono ?_
    rintro e w' ⟨rfl, h1, h2, h3⟩
    exact ⟨rfl, ⟨bs, bl, v, h1⟩, h2⟩

theorem disk_crash {w : World} {F : Nat → Prop} {p : Nat} {d : Dk} (h : Disk w F p d) (hn : d.Q.length ≤ 1048576) (u : Value) (ks : List Int) (hu : Ints w u ks)
    (hF : ∀ a n c, u = .slice (some a) n c → ¬ F a.block) (hkl : ks.length ≤ 9223372036854775807) :
    Calls Try.prog 23 #[.pointer (some ⟨p, 0, none⟩), u] w fun e w' => e = .returned (.int .i64 0) ∧ Disk w' F p (d.crash ks) ∧ Kept F w w' := by
  obtain ⟨bs, bl, v, h⟩ := h
  refine (crash_lies h hn u ks hu hF hkl).mono ?_
  rintro e w' ⟨rfl, v', h1, h2⟩
  refine ⟨rfl, ⟨bs, bl, v', ?_⟩, h2⟩
  have e : settled (torn d.S (d.Q.zip ks)) d.last d.Q = (d.crash ks).last := settle_torn d.S d.Q ks
  rw [e] at h1
  exact h1

theorem max_fuse (n : Int) (w : World) : (Builtin.max_ #[3, 3] 3 #[.int .i64 n, .int .i64 (-1)]).run Try.prog w = .ok (.int .i64 (max n (-1))) w := by
  simp [Builtin.max_, Builtin.max2]
  omega

theorem disk_fuse {w : World} {F : Nat → Prop} {p : Nat} {d : Dk} (h : Disk w F p d) (n : Int) (hn : n ≤ 9223372036854775807) :
    Calls Try.prog 20 #[.pointer (some ⟨p, 0, none⟩), .int .i64 n] w fun e w' => e = .returned (.int .i64 0) ∧ Disk w' F p (d.setFuse n) ∧ Kept F w w' := by
  have H := (show Hid _ from size_is _ d.n w h.szd)
  obtain ⟨bs, bl, v, h⟩ := h
  have hz : ((d.n : Int) == 0) = false := by have := h.n1; simp; omega
  have c3 := h.c3
  have f3 := h.free 3
  have k : Kept (fun i => i = p) w (w.setCell ⟨p, 3, none⟩ (.int .i64 (max n (-1)))) := (Kept.refl (fun i => i = p) w).setCell (p := ⟨p, 3, none⟩) (.inl rfl) _
  have h1 := h.field k (fun j hj => World.cell?_setCell_other _ _ _ _ (fun e => by cases e; omega)) (fun j => by simp) (max n (-1)) d.off
    (World.cell?_setCell_same _ _ _ c3) ((World.cell?_setCell_other _ _ _ _ (fun e => by cases e)).trans h.c4) (by omega)
  have HE := (show Hid (Disk (w.setCell ⟨p, 3, none⟩ (.int .i64 (max n (-1)))) F p (d.setFuse n) ∧ Kept F w (w.setCell ⟨p, 3, none⟩ (.int .i64 (max n (-1))))) from ⟨⟨bs, bl, v, h1⟩, k.mono (fun i hi => by rw [hi]; exact h.fp)⟩)
  have hm := max_fuse n
  clear h h1 k
  generalize max n (-1) = y at *
  go_enter Try.func20, Try.ntmps20
  go_wp2_with fail
  refine Calls.mono H.out ?_; rintro e w1 ⟨rfl, rfl⟩
  go_wp2_with fail
  go_ret
  exact ⟨rfl, HE.out⟩

theorem disk_size {w : World} {F : Nat → Prop} {p : Nat} {d : Dk} (h : Disk w F p d) : Calls Try.prog 35 #[.pointer (some ⟨p, 0, none⟩)] w fun e w' => e = .returned (.int .i64 (d.n : Int)) ∧ w' = w := size_is _ _ w h.szd
theorem disk_off {w : World} {F : Nat → Prop} {p : Nat} {d : Dk} (h : Disk w F p d) : Calls Try.prog 49 #[.pointer (some ⟨p, 0, none⟩)] w fun e w' => e = .returned (.bool d.off) ∧ w' = w := by
  obtain ⟨bs, bl, v, h⟩ := h
  exact off_at p d.off w h.c4
theorem Disk.bound {w : World} {F : Nat → Prop} {p : Nat} {d : Dk} (h : Disk w F p d) : ∀ k, F k → k < w.heap.size := by
  obtain ⟨bs, bl, v, h⟩ := h
  exact h.lt
theorem Disk.sized {w : World} {F : Nat → Prop} {p : Nat} {d : Dk} (h : Disk w F p d) : 1 ≤ d.n ∧ d.n ≤ 4096 := by
  obtain ⟨bs, bl, v, h⟩ := h
  exact ⟨h.n1, h.n2⟩
end Go.Proofs.Ytbjijacpgklegaa
