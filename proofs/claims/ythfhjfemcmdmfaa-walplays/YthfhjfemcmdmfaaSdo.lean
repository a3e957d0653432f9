/- The law: a call on both sides, but for Add. -/
import Derived.Test.YthfhjfemcmdmfaaSde
namespace Go.Proofs.Ythfhjfemcmdmfaa
open Go.ChangeShapes Go.WideShapes Go.ChangeAt Go.RowKit
set_option linter.unusedVariables false
set_option maxRecDepth 100000

abbrev zR (b c : Nat) (u : Option Addr) (k : Nat) (la : Option Addr) (lc a B t : Nat) (R : List ByteArray) (d : Dk) : Rs := ⟨some ⟨b, 0, none⟩, 24, c, u, d.Q.length, k, d.fuse, false, a, B, t, la, R.length, lc, ⟨(frames t R).toArray⟩⟩
theorem Other.off {F : Nat → Prop} {w w' : World} {i : Nat} (h : Other w i) (kk : Kept F w w') (hn : ¬ F i) : Other w' i := by
  obtain ⟨cur, tt, fz, e, h1, h2⟩ := h
  exact ⟨cur, tt, fz, (kk.block i (Array.getElem?_eq_some_iff.1 e).1 hn).trans e, h1, h2⟩
theorem row_ne {w : World} {e size n i N : Nat} {v : Value} {xs : List Value} (h : w.ownsRow 0 e size v n xs) (he : e = 9 ∨ e = 116) (hi : v.ownBlock = some i) (hN : Other w N) : i ≠ N := by
  intro hh
  subst hh
  rcases h.2 with ⟨rfl, _⟩ | ⟨g, cap, cur, rfl, _, hg, _⟩
  · cases hi
  · have e1 : g = i := by simpa [Value.ownBlock] using hi
    subst e1
    obtain ⟨c2, t2, f2, h2, h3, h4⟩ := hN
    rw [hg] at h2
    cases h2
    rcases he with e | e
    · exact h3 e
    · exact h4 e
theorem Sd.rows {w w' : World} {F G : Nat → Prop} {base N p a B q t : Nat} {R : List ByteArray} {v : Value} {b c : Nat} {u : Option Addr} {k : Nat} {la : Option Addr} {lc : Nat} {d : Dk} (h : Sd w F base N p a B q t R v b c u k la lc d) (kk : Kept G w w') (hG : ∀ i, G i → F i ∨ i = N ∨ i = q ∨ v.ownBlock = some i) : Rd w' b c u k d ∧ w'.ownsRow 0 9 1 (.slice la R.length lc) R.length (sv R) := by
  refine ⟨⟨ownsRow_kept h.rd.sure (fun i hi => ?_), ownsRow_kept h.rd.wait (fun i hi => ?_)⟩, ownsRow_kept h.row (fun i hi => ?_)⟩
  · have e : b = i := by simpa [Value.ownBlock] using hi
    refine kk.block i (h.rd.sure.lt i hi).2 (fun z => ?_)
    have hne := row_ne h.rd.sure (.inl rfl) hi h.oN
    subst e
    rcases hG _ z with z | z | z | z
    · exact h.bF.1 z
    · exact hne z
    · exact h.bF.2.1 z
    · exact h.bF.2.2 z
  · refine kk.block i (h.rd.wait.lt i hi).2 (fun z => ?_)
    have hne := row_ne h.rd.wait (.inr rfl) hi h.oN
    have hu := h.uF i hi
    rcases hG _ z with z | z | z | z
    · exact hu.1 z
    · exact hne z
    · exact hu.2.1 z
    · exact hu.2.2 z
  · refine kk.block i (h.row.lt i hi).2 (fun z => ?_)
    have hne := row_ne h.row (.inl rfl) hi h.oN
    have hu := h.lF i hi
    rcases hG _ z with z | z | z | z
    · exact hu.1 z
    · exact hne z
    · exact hu.2.1 z
    · exact hu.2.2 z
theorem turn_le (t : Nat) (n : Int) (mo : Bool) (j : Nat) (h : 1 ≤ t ∧ t ≤ 1 + 7 * j) : 1 ≤ turnB t n mo ∧ turnB t n mo ≤ 1 + 7 * (j + 1) := by
  unfold turnB
  split <;> omega

theorem to_else {w : World} {F : Nat → Prop} {base N p a B q t j : Nat} {R : List ByteArray} {v : Value} {b c : Nat} {u : Option Addr} {k : Nat} {la : Option Addr} {lc : Nat} {d : Dk} (hs : Sd w F base N p a B q t R v b c u k la lc d) (ht : 1 ≤ t ∧ t ≤ 1 + 7 * j) (hQ : d.Q.length ≤ 30 * j) (hj : j ≤ 100) (hab : a < B) (hB : B ≤ 24) (hbw : base ≤ w.heap.size) (x : Wac) (hx : Ar w base x) (hkl : x.ks.length ≤ 9223372036854775807) (h1 : ¬ x.kd = 1) (h2 : ¬ x.kd = 2) (h3 : ¬ x.kd = 3) : Calls Try.prog 19 #[.pointer (some ⟨N, 0, none⟩), .agg #[.int .i64 x.kd, .int .i64 x.n, .slice x.go x.g.length x.gc, .slice x.ko x.ks.length x.kc, .bool x.mo]] w fun e w' => e = .returned (.bool true) ∧ Side base N p a B (j + 1) w' ∧ Kept (fun i => base ≤ i) w w' := by
  have k1 : Kept (fun _ => False) w (w.alloc (.cells #[.int .i64 x.kd, .int .i64 x.n, .slice x.go x.g.length x.gc, .slice x.ko x.ks.length x.kc, .bool x.mo] 53)) := (Kept.refl _ w).alloc _
  have hbx := CellsF.new w [.int .i64 x.kd, .int .i64 x.n, .slice x.go x.g.length x.gc, .slice x.ko x.ks.length x.kc, .bool x.mo] 53 (by simp)
  have hs1 := hs.step k1
  have hx1 := hx.kept (k1.mono (fun _ z => z.elim))
  have hkF : x.ks ≠ [] → ∀ y, x.ko = some y → ¬ F y.block ∧ y.block ≠ N := fun hne y hy => by
    have h1 := hx.kF hne y hy
    exact ⟨fun z => by have := hs.aF _ z; omega, fun e => by have := hs.aN; omega⟩
  have hbn := hs.disk.bound
  have hNl := hs.cN.lt
  have hwz : (w.alloc (.cells #[.int .i64 x.kd, .int .i64 x.n, .slice x.go x.g.length x.gc, .slice x.ko x.ks.length x.kc, .bool x.mo] 53)).heap.size = w.heap.size + 1 := by simp
  refine does_else h1 h2 h3 (by omega) (hs.cN.cs 8 _ rfl) ?_
  refine (crash_to hs1.cN hs1.nF hs1.bF.1 hs1.oN hs1.disk hs1.rd (by omega) hs1.n rfl rfl hs1.live.off hab hB (turn_le t x.n x.mo j ht) (by omega) hx1.k hkl rfl hkF hs.aN hs.aF (by omega)).mono ?_
  rintro e w' ⟨rfl, h4, h5⟩
  exact ⟨rfl, h4, (k1.mono (fun _ z => z.elim)).trans h5 (fun _ hi => .inl hi)⟩

theorem to_fuse {w : World} {F : Nat → Prop} {base N p a B q t j : Nat} {R : List ByteArray} {v : Value} {b c : Nat} {u : Option Addr} {k : Nat} {la : Option Addr} {lc : Nat} {d : Dk} (hs : Sd w F base N p a B q t R v b c u k la lc d) (ht : 1 ≤ t ∧ t ≤ 1 + 7 * j) (hQ : d.Q.length ≤ 30 * j) (hj : j ≤ 100) (hab : a < B) (hB : B ≤ 24) (hbw : base ≤ w.heap.size) (x : Wac) (hx : Ar w base x) (hkl : x.ks.length ≤ 9223372036854775807) (hn : -9223372036854775808 ≤ x.n ∧ x.n ≤ 9223372036854775807) : Calls Try.prog 19 #[.pointer (some ⟨N, 0, none⟩), .agg #[.int .i64 3, .int .i64 x.n, .slice x.go x.g.length x.gc, .slice x.ko x.ks.length x.kc, .bool x.mo]] w fun e w' => e = .returned (.bool true) ∧ Side base N p a B (j + 1) w' ∧ Kept (fun i => base ≤ i) w w' := by
  have k1 : Kept (fun _ => False) w (w.alloc (.cells #[.int .i64 3, .int .i64 x.n, .slice x.go x.g.length x.gc, .slice x.ko x.ks.length x.kc, .bool x.mo] 53)) := (Kept.refl _ w).alloc _
  have hbx := CellsF.new w [.int .i64 3, .int .i64 x.n, .slice x.go x.g.length x.gc, .slice x.ko x.ks.length x.kc, .bool x.mo] 53 (by simp)
  have hs1 := hs.step k1
  have hx1 := hx.kept (k1.mono (fun _ z => z.elim))
  have hkF : x.ks ≠ [] → ∀ y, x.ko = some y → ¬ F y.block ∧ y.block ≠ N := fun hne y hy => by
    have h1 := hx.kF hne y hy
    exact ⟨fun z => by have := hs.aF _ z; omega, fun e => by have := hs.aN; omega⟩
  have hbn := hs.disk.bound
  have hNl := hs.cN.lt
  have hwz : (w.alloc (.cells #[.int .i64 3, .int .i64 x.n, .slice x.go x.g.length x.gc, .slice x.ko x.ks.length x.kc, .bool x.mo] 53)).heap.size = w.heap.size + 1 := by simp
  refine (does_fuse hn hs.cN hs.nF hs.oN hs.disk 3 rfl).mono ?_
  rintro e w' ⟨rfl, g1, g2, g3, g4⟩
  obtain ⟨r1, r2⟩ := hs.rows g3 (fun i hi => hi.elim .inl (fun e => .inr (.inl e)))
  refine ⟨rfl, ⟨F, q, t, R, v, b, c, u, k, la, lc, d.setFuse x.n, ?_, ⟨ht.1, by omega⟩, Nat.le_trans hQ (by omega)⟩, g3.mono (fun i hi => by rcases hi with hi | rfl; exact hs.aF i hi; exact hs.aN)⟩
  exact { hs with cN := g1, oN := g4, log := hs.log.kept g3 (fun z => by rcases z with z | z; exact hs.log.fq z; exact hs.nq z.symm) (fun i hi z => by rcases z with z | z; exact (hs.log.fv i hi).1 z; rw [z] at hi; exact hs.nv hi) (fun _ z => .inl z), disk := g2, rd := ⟨r1.sure, r1.wait⟩, live := ⟨hs.live.off, (by show -1 ≤ max x.n (-1); omega), (by show max x.n (-1) ≤ 9223372036854775807; omega)⟩, n := hs.n, row := r2, held := hs.held }

theorem to_sync_on {w : World} {F : Nat → Prop} {base N p a B q t j : Nat} {R : List ByteArray} {v : Value} {b c : Nat} {u : Option Addr} {k : Nat} {la : Option Addr} {lc : Nat} {d : Dk} (hs : Sd w F base N p a B q t R v b c u k la lc d) (ht : 1 ≤ t ∧ t ≤ 1 + 7 * j) (hQ : d.Q.length ≤ 30 * j) (hj : j ≤ 100) (hab : a < B) (hB : B ≤ 24) (hbw : base ≤ w.heap.size) (x : Wac) (hx : Ar w base x) (hkl : x.ks.length ≤ 9223372036854775807) (hon : d.on = true) : Calls Try.prog 19 #[.pointer (some ⟨N, 0, none⟩), .agg #[.int .i64 2, .int .i64 x.n, .slice x.go x.g.length x.gc, .slice x.ko x.ks.length x.kc, .bool x.mo]] w fun e w' => e = .returned (.bool true) ∧ Side base N p a B (j + 1) w' ∧ Kept (fun i => base ≤ i) w w' := by
  have k1 : Kept (fun _ => False) w (w.alloc (.cells #[.int .i64 2, .int .i64 x.n, .slice x.go x.g.length x.gc, .slice x.ko x.ks.length x.kc, .bool x.mo] 53)) := (Kept.refl _ w).alloc _
  have hbx := CellsF.new w [.int .i64 2, .int .i64 x.n, .slice x.go x.g.length x.gc, .slice x.ko x.ks.length x.kc, .bool x.mo] 53 (by simp)
  have hs1 := hs.step k1
  have hx1 := hx.kept (k1.mono (fun _ z => z.elim))
  have hkF : x.ks ≠ [] → ∀ y, x.ko = some y → ¬ F y.block ∧ y.block ≠ N := fun hne y hy => by
    have h1 := hx.kF hne y hy
    exact ⟨fun z => by have := hs.aF _ z; omega, fun e => by have := hs.aN; omega⟩
  have hbn := hs.disk.bound
  have hNl := hs.cN.lt
  have hwz : (w.alloc (.cells #[.int .i64 2, .int .i64 x.n, .slice x.go x.g.length x.gc, .slice x.ko x.ks.length x.kc, .bool x.mo] 53)).heap.size = w.heap.size + 1 := by simp
  obtain ⟨f1, f2, f3, f4, f5⟩ := live_flush hs.live hon
  refine does_sync (z := zR b c u k la lc a B t R d) (cc := 0) (P1 := fun w1 => Disk w1 F p d.flush ∧ LogAt w1 F q p a B t R (sizeG R) v ∧ Kept F (w.alloc (.cells #[.int .i64 2, .int .i64 x.n, .slice x.go x.g.length x.gc, .slice x.ko x.ks.length x.kc, .bool x.mo] 53)) w1)
    (P2 := fun w1 y w2 => ∃ b' c', y = { zR b c u k la lc a B t R d with b2 := some ⟨b', 0, none⟩, c2 := c', b3 := none, n3 := 0, c3 := 0, f4 := (rburn d.fuse false).1 } ∧ w2.ownsRow 0 9 1 (.slice (some ⟨b', 0, none⟩) 24 c') 24 (sv (secs 24 (flushed d.S d.Q))) ∧ (b' = b ∨ w1.heap.size ≤ b')) hs.cN ?_ ?_ ?_ ?_
  · have := sync_at hs1.log hs1.disk (by omega)
    rw [if_pos hon] at this
    exact this
  · rintro w1 ⟨g1, g2, g3⟩
    exact ⟨hs1.cN.kept g3 hs.nF, hbx.kept g3 (fun z => by have := hbn _ z; omega), hs1.oN.off g3 hs.nF⟩
  · rintro w1 ⟨g1, g2, g3⟩
    obtain ⟨r1, r2⟩ := hs1.rows g3 (fun i hi => .inl hi)
    obtain ⟨bs, bl, vv, hl⟩ := hs.disk
    have := ref_flush_on b u d.n c k d.fuse false d.S d.Q r1.sure r1.wait (by omega) (fun z hz => (hl.qs z hz).1) (by have := hs.n; omega) (by rw [← live_on hs.live]; exact hon) ⟨hs.live.lo, hs.live.hi⟩
    rw [hs.n] at this
    refine this.mono ?_
    rintro e w2 ⟨b', c', rfl, q2, q3, q4⟩
    exact ⟨_, rfl, ⟨b', c', rfl, q2, q3⟩, q4⟩
  · rintro w1 y w2 W' ⟨g1, g2, g3⟩ ⟨b', c', rfl, q2, q3⟩ k12 kN cN hbox hO
    refine ⟨fun e => absurd e (by decide), fun _ => ?_⟩
    have kA : Kept (fun i => F i ∨ i = N) w W' := ((k1.mono (fun _ z => z.elim)).trans (g3.trans k12 (fun _ z => z.elim)) (fun i hi => .inl (.inl hi))).trans kN (fun i hi => .inl (.inr hi))
    have kB : Kept (fun i => i = N) w1 W' := (k12.mono (fun _ z => z.elim)).trans kN (fun i hi => .inl hi)
    obtain ⟨r1, r2⟩ := hs.rows kA (fun i hi => hi.elim .inl (fun e => .inr (.inl e)))
    have sz1 := g3.size
    have hO2 : Other w2 N := (hs1.oN.off g3 hs.nF).kept k12
    have hbF' : ¬ F b' ∧ b' ≠ q ∧ v.ownBlock ≠ some b' := by
      rcases q3 with rfl | q3
      · exact hs.bF
      · exact ⟨fun z => by have := hbn _ z; omega, fun e => by have := World.block_lt_of_cell? w1 _ g2.c0; have e' : q < w1.heap.size := this; omega, fun e => by have := (g2.own.lt b' e).2; omega⟩
    have hS : Sd W' F base N p a B q t R v b' c' none 0 la lc d.flush :=
      { hs with cN := (by rw [f2, f5]; exact cN), oN := hO, log := g2.kept kB (fun z => hs.nq z.symm) (fun i hi z => by rw [z] at hi; exact hs.nv hi) (fun _ z => .inl z), disk := g1.kept kB (fun i hi z => hs.nF (by rw [← z]; exact hi)), rd := ⟨by rw [f4, f3, hs.n]; exact own_other q2 (.inl rfl) kN (fun i hi => by rw [hi]; exact hO2), by rw [f2]; exact World.ownsRow_nil _ _ _ _⟩, live := f1, n := f4.trans hs.n, row := r2, held := fun i y h1 h2 h3 h4 => (by rw [flush_last]; exact hs.held i y h1 h2 h3 h4), bF := hbF', uF := fun i hi => (by rw [own_none] at hi; cases hi) }
    have hq0 : d.flush.Q.length = 0 := by rw [f2]; rfl
    refine (hS.same (by omega) hab hB).mono ?_
    rintro e w' ⟨rfl, kz⟩
    exact ⟨rfl, ⟨F, q, t, R, v, b', c', none, 0, la, lc, d.flush, hS.step kz, ⟨ht.1, by omega⟩, by omega⟩, (kA.mono (fun i hi => by rcases hi with hi | rfl; exact hs.aF i hi; exact hs.aN)).trans kz (fun _ z => z.elim)⟩
theorem to_sync_off {w : World} {F : Nat → Prop} {base N p a B q t j : Nat} {R : List ByteArray} {v : Value} {b c : Nat} {u : Option Addr} {k : Nat} {la : Option Addr} {lc : Nat} {d : Dk} (hs : Sd w F base N p a B q t R v b c u k la lc d) (ht : 1 ≤ t ∧ t ≤ 1 + 7 * j) (hQ : d.Q.length ≤ 30 * j) (hj : j ≤ 100) (hab : a < B) (hB : B ≤ 24) (hbw : base ≤ w.heap.size) (x : Wac) (hx : Ar w base x) (hkl : x.ks.length ≤ 9223372036854775807) (hon : d.on = false) : Calls Try.prog 19 #[.pointer (some ⟨N, 0, none⟩), .agg #[.int .i64 2, .int .i64 x.n, .slice x.go x.g.length x.gc, .slice x.ko x.ks.length x.kc, .bool x.mo]] w fun e w' => e = .returned (.bool true) ∧ Side base N p a B (j + 1) w' ∧ Kept (fun i => base ≤ i) w w' := by
  have k1 : Kept (fun _ => False) w (w.alloc (.cells #[.int .i64 2, .int .i64 x.n, .slice x.go x.g.length x.gc, .slice x.ko x.ks.length x.kc, .bool x.mo] 53)) := (Kept.refl _ w).alloc _
  have hbx := CellsF.new w [.int .i64 2, .int .i64 x.n, .slice x.go x.g.length x.gc, .slice x.ko x.ks.length x.kc, .bool x.mo] 53 (by simp)
  have hs1 := hs.step k1
  have hx1 := hx.kept (k1.mono (fun _ z => z.elim))
  have hkF : x.ks ≠ [] → ∀ y, x.ko = some y → ¬ F y.block ∧ y.block ≠ N := fun hne y hy => by
    have h1 := hx.kF hne y hy
    exact ⟨fun z => by have := hs.aF _ z; omega, fun e => by have := hs.aN; omega⟩
  have hbn := hs.disk.bound
  have hNl := hs.cN.lt
  have hwz : (w.alloc (.cells #[.int .i64 2, .int .i64 x.n, .slice x.go x.g.length x.gc, .slice x.ko x.ks.length x.kc, .bool x.mo] 53)).heap.size = w.heap.size + 1 := by simp
  obtain ⟨f1, f2, f3, f4, f5, f6⟩ := dead_flush hs.live hon
  refine does_sync (z := zR b c u k la lc a B t R d) (cc := 30) (P1 := fun w1 => Disk w1 F p d.flush ∧ LogAt w1 F q p a B t R (sizeG R) v ∧ Kept F (w.alloc (.cells #[.int .i64 2, .int .i64 x.n, .slice x.go x.g.length x.gc, .slice x.ko x.ks.length x.kc, .bool x.mo] 53)) w1)
    (P2 := fun w1 y w2 => y = { zR b c u k la lc a B t R d with f4 := -1, o5 := true }) hs.cN ?_ ?_ ?_ ?_
  · have := sync_at hs1.log hs1.disk (by omega)
    rw [if_neg (by rw [hon]; decide)] at this
    exact this
  · rintro w1 ⟨g1, g2, g3⟩
    exact ⟨hs1.cN.kept g3 hs.nF, hbx.kept g3 (fun z => by have := hbn _ z; omega), hs1.oN.off g3 hs.nF⟩
  · rintro w1 ⟨g1, g2, g3⟩
    refine (ref_flush_off (some ⟨b, 0, none⟩) u 24 c d.Q.length k d.fuse false f6 ⟨hs.live.lo, hs.live.hi⟩ w1).mono ?_
    rintro e w2 ⟨rfl, q4⟩
    exact ⟨_, rfl, rfl, q4⟩
  · rintro w1 y w2 W' ⟨g1, g2, g3⟩ rfl k12 kN cN hbox hO
    refine ⟨fun _ => ?_, fun e => absurd rfl e⟩
    have kA : Kept (fun i => F i ∨ i = N) w W' := ((k1.mono (fun _ z => z.elim)).trans (g3.trans k12 (fun _ z => z.elim)) (fun i hi => .inl (.inl hi))).trans kN (fun i hi => .inl (.inr hi))
    have kB : Kept (fun i => i = N) w1 W' := (k12.mono (fun _ z => z.elim)).trans kN (fun i hi => .inl hi)
    obtain ⟨r1, r2⟩ := hs.rows kA (fun i hi => hi.elim .inl (fun e => .inr (.inl e)))
    have kU := kA.mono (F' := fun i => base ≤ i) (fun i hi => by rcases hi with hi | rfl; exact hs.aF i hi; exact hs.aN)
    have hxW := hx.kept kU
    have hr : Rd W' b c u k d.flush := ⟨by rw [f5, f4]; exact r1.sure, by rw [f3]; exact r1.wait⟩
    refine (crash_to cN hs.nF hs.bF.1 hO (g1.kept kB (fun i hi z => hs.nF (by rw [← z]; exact hi))) hr (by rw [f3]; omega) (f5.trans hs.n) (by rw [f3]) f2 f1 hab hB (j := j + 1) ⟨ht.1, by omega⟩ (by omega) hxW.k hkl rfl hkF hs.aN hs.aF (Nat.le_trans hbw kA.size)).mono ?_
    rintro e w' ⟨rfl, h4, h5⟩
    exact ⟨rfl, h4, kU.up h5⟩
end Go.Proofs.Ythfhjfemcmdmfaa
