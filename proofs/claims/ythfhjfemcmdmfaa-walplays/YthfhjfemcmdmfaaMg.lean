/- The law: Add on both sides, refused. The law: Add on both sides, done. The law: a call on both sides. The law: both sides as they are made. -/
import Derived.Test.YthfhjfemcmdmfaaSdo
import Derived.Test.YthfhjfemcmdmfaaRAd
namespace Go.Proofs.Ythfhjfemcmdmfaa
open Go.ChangeShapes Go.WideShapes Go.ChangeAt Go.RowKit
set_option linter.unusedVariables false
set_option maxRecDepth 100000

abbrev YB (t : Nat) (R : List ByteArray) : ByteArray := ⟨(frames t R).toArray⟩
theorem YB_size (t : Nat) (R : List ByteArray) : (YB t R).size = sizeG R := by
  show (frames t R).toArray.size = _
  rw [List.size_toArray, frames_len]
theorem YB_list (t : Nat) (R : List ByteArray) : (YB t R).data.toList = frames t R := by simp
theorem frames_cat (t : Nat) (g h : List ByteArray) : frames t (g ++ h) = frames t g ++ frames t h := by
  induction g with
  | nil => rfl
  | cons s r ih =>
    show _ ++ frames t (r ++ h) = (_ ++ frames t r) ++ frames t h
    rw [ih, List.append_assoc]
theorem allB_is (t : Nat) (R g : List ByteArray) : allB (YB t R) t g = ⟨(frames t (R ++ g)).toArray⟩ := by
  unfold allB
  rw [YB_list, frames_cat]
theorem ref_side {w : World} {F : Nat → Prop} {base N p a B q t : Nat} {R : List ByteArray} {v : Value} {b c : Nat} {u : Option Addr} {k : Nat} {la : Option Addr} {lc : Nat} {d : Dk} (hs : Sd w F base N p a B q t R v b c u k la lc d) (hQ : d.Q.length ≤ 900000) (ht : 1 ≤ t ∧ t ≤ 100000) (hab : a < B) (hB : B ≤ 24) {W : World} (hrd : Rd W b c u k d) (hrow : W.ownsRow 0 9 1 (.slice la R.length lc) R.length (sv R)) (x : Wac) (hg : Texts W (.slice x.go x.g.length x.gc) x.g) (hgz : x.go = none → x.gc = 0) (hgl : x.g.length ≤ 8) (hgs : ∀ s, s ∈ x.g → s.size ≤ 4096) (Q : Ending → World → Prop)
    (hbad : ¬ mayG x.g → ∀ w', Kept (fun _ => False) W w' → Q (.returned (.tuple #[.agg #[.slice (zR b c u k la lc a B t R d).b2 (zR b c u k la lc a B t R d).n2 (zR b c u k la lc a B t R d).c2, .slice (zR b c u k la lc a B t R d).b3 (zR b c u k la lc a B t R d).n3 (zR b c u k la lc a B t R d).c3, .int .i64 (zR b c u k la lc a B t R d).f4, .bool (zR b c u k la lc a B t R d).o5], .agg #[.int .i64 (zR b c u k la lc a B t R d).i6, .int .i64 (zR b c u k la lc a B t R d).i7, .int .i64 (zR b c u k la lc a B t R d).i8, .slice (zR b c u k la lc a B t R d).b9 (zR b c u k la lc a B t R d).n9 (zR b c u k la lc a B t R d).c9, .string (zR b c u k la lc a B t R d).y10], .int .i64 1])) w')
    (hfull : mayG x.g → 32 * (B - a) < (YB t R).size + sizeG x.g → ∀ w', Kept (fun _ => False) W w' → Q (.returned (.tuple #[.agg #[.slice (zR b c u k la lc a B t R d).b2 (zR b c u k la lc a B t R d).n2 (zR b c u k la lc a B t R d).c2, .slice (zR b c u k la lc a B t R d).b3 (zR b c u k la lc a B t R d).n3 (zR b c u k la lc a B t R d).c3, .int .i64 (zR b c u k la lc a B t R d).f4, .bool (zR b c u k la lc a B t R d).o5], .agg #[.int .i64 (zR b c u k la lc a B t R d).i6, .int .i64 (zR b c u k la lc a B t R d).i7, .int .i64 (zR b c u k la lc a B t R d).i8, .slice (zR b c u k la lc a B t R d).b9 (zR b c u k la lc a B t R d).n9 (zR b c u k la lc a B t R d).c9, .string (zR b c u k la lc a B t R d).y10], .int .i64 2])) w')
    (hok : mayG x.g → (YB t R).size + sizeG x.g ≤ 32 * (B - a) → (∀ i, i < manyG (YB t R).size x.g → (PD d a (YB t R) t x.g i).on = true) → ∀ w' u' k' la' lc', Kept (fun _ => False) W w' → Rd w' b c u' k' (PD d a (YB t R) t x.g (manyG (YB t R).size x.g)) → w'.ownsRow 0 9 1 (.slice la' (R ++ x.g).length lc') (R ++ x.g).length (sv (R ++ x.g)) → (∀ i, (Value.slice la' (R ++ x.g).length lc').ownBlock = some i → W.heap.size ≤ i) → (manyG (YB t R).size x.g = 0 → u' = u ∧ k' = k) → Q (.returned (.tuple #[.agg #[.slice (some ⟨b, 0, none⟩) 24 c, .slice u' (PD d a (YB t R) t x.g (manyG (YB t R).size x.g)).Q.length k', .int .i64 (PD d a (YB t R) t x.g (manyG (YB t R).size x.g)).fuse, .bool false], .agg #[.int .i64 (a : Int), .int .i64 (B : Int), .int .i64 (t : Int), .slice la' (R ++ x.g).length lc', .string (allB (YB t R) t x.g)], .int .i64 0])) w')
    (hoff : mayG x.g → (YB t R).size + sizeG x.g ≤ 32 * (B - a) → ∀ j, j < manyG (YB t R).size x.g → (∀ i, i < j → (PD d a (YB t R) t x.g i).on = true) → (PD d a (YB t R) t x.g j).on = false → ∀ w' u' k', Kept (fun _ => False) W w' → Rd w' b c u' k' (PD d a (YB t R) t x.g (j + 1)) → Q (.returned (.tuple #[.agg #[.slice (some ⟨b, 0, none⟩) 24 c, .slice u' (PD d a (YB t R) t x.g (j + 1)).Q.length k', .int .i64 (PD d a (YB t R) t x.g (j + 1)).fuse, .bool (PD d a (YB t R) t x.g (j + 1)).off], .agg #[.int .i64 (zR b c u k la lc a B t R d).i6, .int .i64 (zR b c u k la lc a B t R d).i7, .int .i64 (zR b c u k la lc a B t R d).i8, .slice (zR b c u k la lc a B t R d).b9 (zR b c u k la lc a B t R d).n9 (zR b c u k la lc a B t R d).c9, .string (zR b c u k la lc a B t R d).y10], .int .i64 30])) w') :
    Calls Try.prog 42 #[.agg #[.slice (zR b c u k la lc a B t R d).b2 (zR b c u k la lc a B t R d).n2 (zR b c u k la lc a B t R d).c2, .slice (zR b c u k la lc a B t R d).b3 (zR b c u k la lc a B t R d).n3 (zR b c u k la lc a B t R d).c3, .int .i64 (zR b c u k la lc a B t R d).f4, .bool (zR b c u k la lc a B t R d).o5], .agg #[.int .i64 (zR b c u k la lc a B t R d).i6, .int .i64 (zR b c u k la lc a B t R d).i7, .int .i64 (zR b c u k la lc a B t R d).i8, .slice (zR b c u k la lc a B t R d).b9 (zR b c u k la lc a B t R d).n9 (zR b c u k la lc a B t R d).c9, .string (zR b c u k la lc a B t R d).y10], .slice x.go x.g.length x.gc] W Q := by
  have hf := hs.fit
  have hRl := len_size R
  exact ref_add hs.disk hs.live hQ b c 24 d.Q.length k u d.fuse hrd hs.n rfl rfl a B t hab (by rw [hs.n]; exact hB) (by omega) ⟨ht.1, by omega⟩ la R.length lc R hrow rfl (by omega) (YB t R) (by rw [YB_size]; exact hf) (by rw [YB_list]; exact hs.held) x.go x.gc x.g hg hgz hgl hgs Q hbad hfull hok hoff
theorem Sd.reN {w W' : World} {F : Nat → Prop} {base N p a B q t : Nat} {R : List ByteArray} {v : Value} {b c : Nat} {u : Option Addr} {k : Nat} {la : Option Addr} {lc : Nat} {d : Dk} (hs : Sd w F base N p a B q t R v b c u k la lc d) (kk : Kept (fun i => i = N) w W') (cN : CellsF W' N [.pointer (some ⟨p, 0, none⟩), .pointer (some ⟨q, 0, none⟩), .slice (some ⟨b, 0, none⟩) 24 c, .slice u d.Q.length k, .int .i64 d.fuse, .bool false, .int .i64 (a : Int), .int .i64 (B : Int), .int .i64 (t : Int), .slice la R.length lc, .string ⟨(frames t R).toArray⟩, .int .i64 (a : Int), .int .i64 (B : Int)]) (hO : Other W' N) : Sd W' F base N p a B q t R v b c u k la lc d := by
  obtain ⟨r1, r2⟩ := hs.rows kk (fun i hi => .inr (.inl hi))
  exact { hs with cN := cN, oN := hO, log := hs.log.kept kk (fun z => hs.nq z.symm) (fun i hi z => by rw [z] at hi; exact hs.nv hi) (fun _ z => .inl z), disk := hs.disk.kept kk (fun i hi z => hs.nF (by rw [← z]; exact hi)), rd := r1, row := r2 }
theorem row_stay {w W : World} {e size n : Nat} {v : Value} {xs : List Value} {G : Nat → Prop} (h : w.ownsRow 0 e size v n xs) (he : e = 9 ∨ e = 116) (kk : Kept G w W) (hG : ∀ i, G i → i < w.heap.size → Other w i) : W.ownsRow 0 e size v n xs :=
  ownsRow_kept h (fun i hi => kk.block i (h.lt i hi).2 (fun z => row_ne h he hi (hG i z (h.lt i hi).2) rfl))

theorem to_bad {w : World} {F : Nat → Prop} {base N p a B q t j : Nat} {R : List ByteArray} {v : Value} {b c : Nat} {u : Option Addr} {k : Nat} {la : Option Addr} {lc : Nat} {d : Dk} (hs : Sd w F base N p a B q t R v b c u k la lc d) (ht : 1 ≤ t ∧ t ≤ 1 + 7 * j) (hQ : d.Q.length ≤ 30 * j) (hj : j ≤ 100) (hab : a < B) (hB : B ≤ 24) (hbw : base ≤ w.heap.size) (x : Wac) (hx : Ar w base x) (hkl : x.ks.length ≤ 9223372036854775807) (hgz : x.go = none → x.gc = 0) (hgl : x.g.length ≤ 8) (hgs : ∀ s, s ∈ x.g → s.size ≤ 4096) (hm : ¬ mayG x.g) : Calls Try.prog 19 #[.pointer (some ⟨N, 0, none⟩), .agg #[.int .i64 1, .int .i64 x.n, .slice x.go x.g.length x.gc, .slice x.ko x.ks.length x.kc, .bool x.mo]] w fun e w' => e = .returned (.bool true) ∧ Side base N p a B (j + 1) w' ∧ Kept (fun i => base ≤ i) w w' := by
  have k1 : Kept (fun _ => False) w (w.alloc (.cells #[.int .i64 1, .int .i64 x.n, .slice x.go x.g.length x.gc, .slice x.ko x.ks.length x.kc, .bool x.mo] 53)) := (Kept.refl _ w).alloc _
  have hbx := CellsF.new w [.int .i64 1, .int .i64 x.n, .slice x.go x.g.length x.gc, .slice x.ko x.ks.length x.kc, .bool x.mo] 53 (by simp)
  have hs1 := hs.step k1
  have hx1 := hx.kept (k1.mono (fun _ z => z.elim))
  have hkF : x.ks ≠ [] → ∀ y, x.ko = some y → ¬ F y.block ∧ y.block ≠ N := fun hne y hy => by
    have h1 := hx.kF hne y hy
    exact ⟨fun z => by have := hs.aF _ z; omega, fun e => by have := hs.aN; omega⟩
  have hbn := hs.disk.bound
  have hNl := hs.cN.lt
  have hwz : (w.alloc (.cells #[.int .i64 1, .int .i64 x.n, .slice x.go x.g.length x.gc, .slice x.ko x.ks.length x.kc, .bool x.mo] 53)).heap.size = w.heap.size + 1 := by simp
  have kd1 : Kept (fun _ => False) w (w.alloc (.cells #[.int .i64 1, .int .i64 x.n, .slice x.go x.g.length x.gc, .slice x.ko x.ks.length x.kc, .bool x.mo] 53)).drew := k1.drew
  have hsd := hs.step kd1
  have hxd := hx.kept (kd1.mono (fun _ z => z.elim))
  have hwd : (w.alloc (.cells #[.int .i64 1, .int .i64 x.n, .slice x.go x.g.length x.gc, .slice x.ko x.ks.length x.kc, .bool x.mo] 53)).drew.heap.size = w.heap.size + 1 := hwz
  have hbd : CellsF (w.alloc (.cells #[.int .i64 1, .int .i64 x.n, .slice x.go x.g.length x.gc, .slice x.ko x.ks.length x.kc, .bool x.mo] 53)).drew w.heap.size [.int .i64 1, .int .i64 x.n, .slice x.go x.g.length x.gc, .slice x.ko x.ks.length x.kc, .bool x.mo] := hbx.far rfl
  have hfit := hs.fit
  have hRl := len_size R
  refine does_add (z := zR b c u k la lc a B t R d) (cc := 1) (P1 := fun w1 => Kept (fun _ => False) w w1 ∧ CellsF w1 w.heap.size [.int .i64 1, .int .i64 x.n, .slice x.go x.g.length x.gc, .slice x.ko x.ks.length x.kc, .bool x.mo]) (P2 := fun w1 y w2 => y = zR b c u k la lc a B t R d) hs.cN ?_ ?_ ?_ ?_ ?_
  · refine (add_bad hsd.log x.go x.gc x.g hxd.g (fun s hs => Nat.le_trans (hgs s hs) (by decide)) (by omega) hm).mono ?_
    rintro e w' ⟨rfl, rfl⟩
    exact ⟨rfl, kd1, hbd⟩
  · rintro w1 ⟨g1, g2⟩
    exact ⟨hs.cN.step g1, g2, hs.oN.kept g1⟩
  · rintro w1 W ⟨g1, g2⟩ kW
    have g3 := g1.trans kW (fun _ z => z.elim)
    refine ref_side hs (by omega) ⟨ht.1, by omega⟩ hab hB (hs.rd.step g3) (own_kept hs.row g3) x (hx.kept (g3.mono (fun _ z => z.elim))).g hgz hgl hgs _ (fun _ w' kk => ⟨_, rfl, rfl, kk⟩) (fun h => absurd h hm) (fun h => absurd h hm) (fun h => absurd h hm)
  · rintro w1 y w2 W G rfl _ _
    rfl
  · rintro w1 y W W' ⟨g1, g2⟩ rfl kW kN cN hbox hO
    refine ⟨fun e => absurd e (by decide), fun _ => ?_⟩
    have kA : Kept (fun i => i = N) w W' := ((g1.trans kW (fun _ z => z.elim)).mono (fun _ z => z.elim)).trans kN (fun i hi => .inl hi)
    have hS := hs.reN kA cN hO
    refine (hS.same (by omega) hab hB).mono ?_
    rintro e w' ⟨rfl, kz⟩
    exact ⟨rfl, ⟨F, q, t, R, v, b, c, u, k, la, lc, d, hS.step kz, ⟨ht.1, by omega⟩, by omega⟩, (kA.mono (fun i hi => by rw [hi]; exact hs.aN)).trans kz (fun _ z => z.elim)⟩

theorem to_full {w : World} {F : Nat → Prop} {base N p a B q t j : Nat} {R : List ByteArray} {v : Value} {b c : Nat} {u : Option Addr} {k : Nat} {la : Option Addr} {lc : Nat} {d : Dk} (hs : Sd w F base N p a B q t R v b c u k la lc d) (ht : 1 ≤ t ∧ t ≤ 1 + 7 * j) (hQ : d.Q.length ≤ 30 * j) (hj : j ≤ 100) (hab : a < B) (hB : B ≤ 24) (hbw : base ≤ w.heap.size) (x : Wac) (hx : Ar w base x) (hkl : x.ks.length ≤ 9223372036854775807) (hgz : x.go = none → x.gc = 0) (hgl : x.g.length ≤ 8) (hgs : ∀ s, s ∈ x.g → s.size ≤ 4096) (hm : mayG x.g) (hf : 32 * (B - a) < sizeG R + sizeG x.g) : Calls Try.prog 19 #[.pointer (some ⟨N, 0, none⟩), .agg #[.int .i64 1, .int .i64 x.n, .slice x.go x.g.length x.gc, .slice x.ko x.ks.length x.kc, .bool x.mo]] w fun e w' => e = .returned (.bool true) ∧ Side base N p a B (j + 1) w' ∧ Kept (fun i => base ≤ i) w w' := by
  have k1 : Kept (fun _ => False) w (w.alloc (.cells #[.int .i64 1, .int .i64 x.n, .slice x.go x.g.length x.gc, .slice x.ko x.ks.length x.kc, .bool x.mo] 53)) := (Kept.refl _ w).alloc _
  have hbx := CellsF.new w [.int .i64 1, .int .i64 x.n, .slice x.go x.g.length x.gc, .slice x.ko x.ks.length x.kc, .bool x.mo] 53 (by simp)
  have hs1 := hs.step k1
  have hx1 := hx.kept (k1.mono (fun _ z => z.elim))
  have hkF : x.ks ≠ [] → ∀ y, x.ko = some y → ¬ F y.block ∧ y.block ≠ N := fun hne y hy => by
    have h1 := hx.kF hne y hy
    exact ⟨fun z => by have := hs.aF _ z; omega, fun e => by have := hs.aN; omega⟩
  have hbn := hs.disk.bound
  have hNl := hs.cN.lt
  have hwz : (w.alloc (.cells #[.int .i64 1, .int .i64 x.n, .slice x.go x.g.length x.gc, .slice x.ko x.ks.length x.kc, .bool x.mo] 53)).heap.size = w.heap.size + 1 := by simp
  have kd1 : Kept (fun _ => False) w (w.alloc (.cells #[.int .i64 1, .int .i64 x.n, .slice x.go x.g.length x.gc, .slice x.ko x.ks.length x.kc, .bool x.mo] 53)).drew := k1.drew
  have hsd := hs.step kd1
  have hxd := hx.kept (kd1.mono (fun _ z => z.elim))
  have hwd : (w.alloc (.cells #[.int .i64 1, .int .i64 x.n, .slice x.go x.g.length x.gc, .slice x.ko x.ks.length x.kc, .bool x.mo] 53)).drew.heap.size = w.heap.size + 1 := hwz
  have hbd : CellsF (w.alloc (.cells #[.int .i64 1, .int .i64 x.n, .slice x.go x.g.length x.gc, .slice x.ko x.ks.length x.kc, .bool x.mo] 53)).drew w.heap.size [.int .i64 1, .int .i64 x.n, .slice x.go x.g.length x.gc, .slice x.ko x.ks.length x.kc, .bool x.mo] := hbx.far rfl
  have hfit := hs.fit
  have hRl := len_size R
  refine does_add (z := zR b c u k la lc a B t R d) (cc := 2) (P1 := fun w1 => Kept (fun _ => False) w w1 ∧ CellsF w1 w.heap.size [.int .i64 1, .int .i64 x.n, .slice x.go x.g.length x.gc, .slice x.ko x.ks.length x.kc, .bool x.mo]) (P2 := fun w1 y w2 => y = zR b c u k la lc a B t R d) hs.cN ?_ ?_ ?_ ?_ ?_
  · refine (add_full hsd.log (by omega) (by omega) (by omega) x.go x.gc x.g hxd.g (by omega) hm hf).mono ?_
    rintro e w' ⟨rfl, rfl⟩
    exact ⟨rfl, kd1.drew, hbd.far rfl⟩
  · rintro w1 ⟨g1, g2⟩
    exact ⟨hs.cN.step g1, g2, hs.oN.kept g1⟩
  · rintro w1 W ⟨g1, g2⟩ kW
    have g3 := g1.trans kW (fun _ z => z.elim)
    refine ref_side hs (by omega) ⟨ht.1, by omega⟩ hab hB (hs.rd.step g3) (own_kept hs.row g3) x (hx.kept (g3.mono (fun _ z => z.elim))).g hgz hgl hgs _ (fun h => absurd hm h) (fun _ _ w' kk => ⟨_, rfl, rfl, kk⟩) (fun _ h => by rw [YB_size] at h; omega) (fun _ h => by rw [YB_size] at h; omega)
  · rintro w1 y w2 W G rfl _ _
    rfl
  · rintro w1 y W W' ⟨g1, g2⟩ rfl kW kN cN hbox hO
    refine ⟨fun e => absurd e (by decide), fun _ => ?_⟩
    have kA : Kept (fun i => i = N) w W' := ((g1.trans kW (fun _ z => z.elim)).mono (fun _ z => z.elim)).trans kN (fun i hi => .inl hi)
    have hS := hs.reN kA cN hO
    refine (hS.same (by omega) hab hB).mono ?_
    rintro e w' ⟨rfl, kz⟩
    exact ⟨rfl, ⟨F, q, t, R, v, b, c, u, k, la, lc, d, hS.step kz, ⟨ht.1, by omega⟩, by omega⟩, (kA.mono (fun i hi => by rw [hi]; exact hs.aN)).trans kz (fun _ z => z.elim)⟩
end Go.Proofs.Ythfhjfemcmdmfaa

namespace Go.Proofs.Ythfhjfemcmdmfaa
open Go.ChangeShapes Go.WideShapes Go.ChangeAt Go.RowKit
set_option linter.unusedVariables false
set_option maxRecDepth 100000

/-- A disk in its own four blocks alone. -/
theorem Lies.trim {w : World} {F : Nat → Prop} {p bs bl : Nat} {v : Value} {d : Dk} {L : Nat → List UInt8} (h : Lies w F p bs bl v d L) : Lies w (fun i => F i ∧ (i = p ∨ i = bs ∨ i = bl ∨ v.ownBlock = some i)) p bs bl v d L :=
  { h with fp := ⟨h.fp, .inl rfl⟩, fs := ⟨h.fs, .inr (.inl rfl)⟩, fl := ⟨h.fl, .inr (.inr (.inl rfl))⟩, fv := fun k hk => ⟨h.fv k hk, .inr (.inr (.inr hk))⟩, lt := fun k hk => h.lt k hk.1 }
theorem row_tag {w : World} {e e' s s' n n' i : Nat} {v v' : Value} {xs xs' : List Value} (h : w.ownsRow 0 e s v n xs) (h' : w.ownsRow 0 e' s' v' n' xs') (hi : v.ownBlock = some i) (hi' : v'.ownBlock = some i) : e = e' := by
  rcases h.2 with ⟨rfl, _⟩ | ⟨g, cap, cur, rfl, _, hg, _⟩
  · cases hi
  · rcases h'.2 with ⟨rfl, _⟩ | ⟨g', cap', cur', rfl, _, hg', _⟩
    · cases hi'
    · have e1 : g = i := by simpa [Value.ownBlock] using hi
      have e2 : g' = i := by simpa [Value.ownBlock] using hi'
      subst e1
      subst e2
      rw [hg] at hg'
      cases hg'
      rfl
theorem row_far {w : World} {F : Nat → Prop} {p bs bl i n : Nat} {v vd : Value} {d : Dk} {L : Nat → List UInt8} {xs : List Value} {z : Int} (h : Lies w F p bs bl vd d L) (hr : w.ownsRow 0 116 2 v n xs) (hx : xs[0]? = some (.int .i64 z)) (hi : v.ownBlock = some i) : i ≠ p ∧ i ≠ bs ∧ i ≠ bl ∧ vd.ownBlock ≠ some i := by
  have hc : w.cell? ⟨i, 0, none⟩ = some (.int .i64 z) := by
    rcases hr.2 with ⟨rfl, _⟩ | ⟨g, cap, cur, rfl, q⟩
    · cases hi
    · have e1 : g = i := by simpa [Value.ownBlock] using hi
      subst e1
      have hl : 0 < xs.length := by
        cases xs with
        | nil => simp at hx
        | cons _ _ => simp
      rw [World.ownsRow.cellAt ⟨hr.1, .inr ⟨g, cap, cur, rfl, q⟩⟩ 0 (by rw [← hr.1]; exact hl)]
      exact hx
  have hb : ∀ b S, Secs w b d.n S → i ≠ b := fun b S hs e => by
    subst e
    have hl := hs.len 0 h.n1
    have h0 : 0 < (S 0).length := by omega
    have := hs.cell 0 h.n1 0 (.int .u8 ((S 0)[0].toNat : Int)) (by simp [bv, h0])
    rw [Nat.zero_mul, Nat.zero_add] at this
    rw [this] at hc
    cases hc
  refine ⟨fun e => ?_, hb bs _ h.sure, hb bl _ h.last, fun e => ?_⟩
  · subst e
    rw [h.c0] at hc
    cases hc
  · exact absurd (row_tag hr h.own hi e) (by decide)
theorem wv_first (Q : List (Nat × List UInt8)) (h : Q ≠ []) : ∃ z, (Q.flatMap wv)[0]? = some (.int .i64 z) := by
  cases Q with
  | nil => exact absurd rfl h
  | cons y r => exact ⟨(y.1 : Int), rfl⟩
theorem many_gle (t : Nat) (R g : List ByteArray) (room : Nat) (h : sizeG R + sizeG g ≤ room) (hr : room ≤ 768) : manyG (YB t R).size g ≤ 25 := by
  rw [YB_size]
  unfold manyG
  split
  · omega
  · unfold manyS; omega
theorem mayG_cat {R g : List ByteArray} (h1 : mayG R) (h2 : mayG g) : mayG (R ++ g) := fun s hs => (List.mem_append.1 hs).elim (h1 s) (h2 s)
theorem held_pd {w : World} {F : Nat → Prop} {base N p a B q t : Nat} {R : List ByteArray} {v : Value} {b c : Nat} {u : Option Addr} {k : Nat} {la : Option Addr} {lc : Nat} {d : Dk} (hs : Sd w F base N p a B q t R v b c u k la lc d) (hab : a < B) (hB : B ≤ 24) (g : List ByteArray) (hf : sizeG R + sizeG g ≤ 32 * (B - a)) (hon : ∀ i, i < manyG (YB t R).size g → (PD d a (YB t R) t g i).on = true) :
    Heldf (PD d a (YB t R) t g (manyG (YB t R).size g)) a B (frames t (R ++ g)) := by
  by_cases hg : g = []
  · subst hg
    rw [List.append_nil]
    have e : manyG (YB t R).size [] = 0 := by unfold manyG; rw [if_pos rfl]
    rw [e]
    exact hs.held
  · have hx0 := sizeG_pos hg
    have hxs : (⟨(frames t g).toArray⟩ : ByteArray).size = sizeG g := YB_size t g
    have hL : (frames t R).length = sizeG R := frames_len t R
    have em : manyG (YB t R).size g = manyS (frames t R).length (⟨(frames t g).toArray⟩ : ByteArray).size := by
      unfold manyG
      rw [if_neg hg, YB_size, hxs, hL]
    have e : ∀ i, PD d a (YB t R) t g i = puts d (a + (frames t R).length / 32) (leftS d a (frames t R).length ⟨(frames t g).toArray⟩).data.toList i := fun i => by
      unfold PD
      rw [YB_size, hL]
    have := Heldf.add hs.held hs.disk ⟨(frames t g).toArray⟩ (by rw [hxs]; exact hx0) (by rw [hxs, hL]; exact hf) (by rw [hs.n]; exact hB) hab (fun i hi => by rw [← e]; exact hon i (by rw [em]; exact hi))
    rw [← e, ← em] at this
    rw [frames_cat]
    have el : (⟨(frames t g).toArray⟩ : ByteArray).data.toList = frames t g := by simp
    rw [el] at this
    exact this
/-- What Add leaves, where it is done. -/
def AddOk (w1 W1 : World) (F : Nat → Prop) (q p a B t : Nat) (R g : List ByteArray) (v : Value) (dN : Dk) : Prop := ∃ F' v', Disk w1 F' p dN ∧ LogAt w1 F' q p a B t (R ++ g) (sizeG (R ++ g)) v' ∧ Kept (fun i => F i ∨ i = q ∨ v.ownBlock = some i) W1 w1 ∧ Grew F F' W1 ∧ ∀ i, v'.ownBlock = some i → v.ownBlock = some i ∨ W1.heap.size ≤ i
set_option maxHeartbeats 1000000 in
theorem to_ok {w : World} {F : Nat → Prop} {base N p a B q t j : Nat} {R : List ByteArray} {v : Value} {b c : Nat} {u : Option Addr} {k : Nat} {la : Option Addr} {lc : Nat} {d : Dk} (hs : Sd w F base N p a B q t R v b c u k la lc d) (ht : 1 ≤ t ∧ t ≤ 1 + 7 * j) (hQ : d.Q.length ≤ 30 * j) (hj : j ≤ 100) (hab : a < B) (hB : B ≤ 24) (hbw : base ≤ w.heap.size) (x : Wac) (hx : Ar w base x) (hkl : x.ks.length ≤ 9223372036854775807) (hgz : x.go = none → x.gc = 0) (hgl : x.g.length ≤ 8) (hgs : ∀ s, s ∈ x.g → s.size ≤ 4096) (hm : mayG x.g) (hf : sizeG R + sizeG x.g ≤ 32 * (B - a)) (hon : ∀ i, i < manyG (YB t R).size x.g → (PD d a (YB t R) t x.g i).on = true)
    (hne : x.g = [] → (PD d a (YB t R) t x.g (manyG (YB t R).size x.g)) = d)
    (h1 : Calls Try.prog 21 #[.pointer (some ⟨q, 0, none⟩), .slice x.go x.g.length x.gc] (w.alloc (.cells #[.int .i64 1, .int .i64 x.n, .slice x.go x.g.length x.gc, .slice x.ko x.ks.length x.kc, .bool x.mo] 53)).drew fun e w' => e = .returned (.int .i64 0) ∧ AddOk w' (w.alloc (.cells #[.int .i64 1, .int .i64 x.n, .slice x.go x.g.length x.gc, .slice x.ko x.ks.length x.kc, .bool x.mo] 53)).drew F q p a B t R x.g v (PD d a (YB t R) t x.g (manyG (YB t R).size x.g))) : Calls Try.prog 19 #[.pointer (some ⟨N, 0, none⟩), .agg #[.int .i64 1, .int .i64 x.n, .slice x.go x.g.length x.gc, .slice x.ko x.ks.length x.kc, .bool x.mo]] w fun e w' => e = .returned (.bool true) ∧ Side base N p a B (j + 1) w' ∧ Kept (fun i => base ≤ i) w w' := by
  have k1 : Kept (fun _ => False) w (w.alloc (.cells #[.int .i64 1, .int .i64 x.n, .slice x.go x.g.length x.gc, .slice x.ko x.ks.length x.kc, .bool x.mo] 53)) := (Kept.refl _ w).alloc _
  have hbx := CellsF.new w [.int .i64 1, .int .i64 x.n, .slice x.go x.g.length x.gc, .slice x.ko x.ks.length x.kc, .bool x.mo] 53 (by simp)
  have hs1 := hs.step k1
  have hx1 := hx.kept (k1.mono (fun _ z => z.elim))
  have hkF : x.ks ≠ [] → ∀ y, x.ko = some y → ¬ F y.block ∧ y.block ≠ N := fun hne y hy => by
    have h1 := hx.kF hne y hy
    exact ⟨fun z => by have := hs.aF _ z; omega, fun e => by have := hs.aN; omega⟩
  have hbn := hs.disk.bound
  have hNl := hs.cN.lt
  have hwz : (w.alloc (.cells #[.int .i64 1, .int .i64 x.n, .slice x.go x.g.length x.gc, .slice x.ko x.ks.length x.kc, .bool x.mo] 53)).heap.size = w.heap.size + 1 := by simp
  have kd1 : Kept (fun _ => False) w (w.alloc (.cells #[.int .i64 1, .int .i64 x.n, .slice x.go x.g.length x.gc, .slice x.ko x.ks.length x.kc, .bool x.mo] 53)).drew := k1.drew
  have hsd := hs.step kd1
  have hxd := hx.kept (kd1.mono (fun _ z => z.elim))
  have hwd : (w.alloc (.cells #[.int .i64 1, .int .i64 x.n, .slice x.go x.g.length x.gc, .slice x.ko x.ks.length x.kc, .bool x.mo] 53)).drew.heap.size = w.heap.size + 1 := hwz
  have hbd : CellsF (w.alloc (.cells #[.int .i64 1, .int .i64 x.n, .slice x.go x.g.length x.gc, .slice x.ko x.ks.length x.kc, .bool x.mo] 53)).drew w.heap.size [.int .i64 1, .int .i64 x.n, .slice x.go x.g.length x.gc, .slice x.ko x.ks.length x.kc, .bool x.mo] := hbx.far rfl
  have hfit := hs.fit
  have hRl := len_size R
  have hqlt : q < w.heap.size := World.block_lt_of_cell? w _ hs.log.c0
  have hlive : (PD d a (YB t R) t x.g (manyG (YB t R).size x.g)).live := puts_live hs.live _ _ _ hon
  have hdn : (PD d a (YB t R) t x.g (manyG (YB t R).size x.g)).n = 24 := (puts_n _ _ _ _).trans hs.n
  have hdq : (PD d a (YB t R) t x.g (manyG (YB t R).size x.g)).Q.length ≤ d.Q.length + manyG (YB t R).size x.g := puts_q _ _ _ _
  have hml := many_gle t R x.g _ hf (by omega)
  have hheld := held_pd hs hab hB x.g hf hon
  have hal := allB_is t R x.g
  have hQne : x.g ≠ [] → (PD d a (YB t R) t x.g (manyG (YB t R).size x.g)).Q ≠ [] := fun hgne e => by
    have em : manyG (YB t R).size x.g = manyS (YB t R).size (sizeG x.g) := by unfold manyG; rw [if_neg hgne]
    have hp := sizeG_pos hgne
    have h0 : 0 < manyG (YB t R).size x.g := by rw [em]; unfold manyS; omega
    obtain ⟨mm, hmm⟩ : ∃ mm, manyG (YB t R).size x.g = mm + 1 := ⟨manyG (YB t R).size x.g - 1, by omega⟩
    rw [hmm] at e
    have hl0 : (PD d a (YB t R) t x.g mm).live := puts_live hs.live _ _ _ (fun i hi => hon i (by omega))
    have := (live_write hl0 (hon mm (by omega)) (a + (YB t R).size / 32 + mm) (chunk (leftS d a (YB t R).size ⟨(frames t x.g).toArray⟩).data.toList mm)).2.1
    have e2 : PD d a (YB t R) t x.g (mm + 1) = (PD d a (YB t R) t x.g mm).write (a + (YB t R).size / 32 + mm) (chunk (leftS d a (YB t R).size ⟨(frames t x.g).toArray⟩).data.toList mm) := rfl
    rw [e2, this] at e
    simp at e
  obtain ⟨dN, hdN⟩ : ∃ dN, (PD d a (YB t R) t x.g (manyG (YB t R).size x.g)) = dN := ⟨_, rfl⟩
  rw [hdN] at hlive hdn hdq hheld hQne hne h1
  refine does_add (z := zR b c u k la lc a B t R d) (cc := 0) (P1 := fun w1 => AddOk w1 (w.alloc (.cells #[.int .i64 1, .int .i64 x.n, .slice x.go x.g.length x.gc, .slice x.ko x.ks.length x.kc, .bool x.mo] 53)).drew F q p a B t R x.g v dN)
    (P2 := fun w1 y w2 => ∃ u' k' la' lc', y = { zR b c u k la lc a B t R d with b3 := u', n3 := dN.Q.length, c3 := k', f4 := dN.fuse, b9 := la', n9 := (R ++ x.g).length, c9 := lc', y10 := allB (YB t R) t x.g } ∧ Rd w2 b c u' k' dN ∧ w2.ownsRow 0 9 1 (.slice la' (R ++ x.g).length lc') (R ++ x.g).length (sv (R ++ x.g)) ∧ (∀ i, (Value.slice la' (R ++ x.g).length lc').ownBlock = some i → w1.heap.size ≤ i) ∧ (x.g = [] → u' = u ∧ k' = k)) hs.cN h1 ?_ ?_ ?_ ?_
  · rintro w1 ⟨F', v', g1, g2, g3, g4, g5⟩
    have hnN : ¬ (F N ∨ N = q ∨ v.ownBlock = some N) := fun z => by rcases z with z | z | z; exact hs.nF z; exact hs.nq z; exact hs.nv z
    exact ⟨hsd.cN.kept g3 hnN, hbd.kept g3 (fun z => by
      rcases z with z | z | z
      · have := hbn _ z; omega
      · omega
      · have := (hs.log.own.lt _ z).2; omega), hsd.oN.off g3 hnN⟩
  · rintro w1 W ⟨F', v', g1, g2, g3, g4, g5⟩ kW
    obtain ⟨r1, r2⟩ := hsd.rows g3 (fun i hi => by rcases hi with hi | hi | hi; exact .inl hi; exact .inr (.inr (.inl hi)); exact .inr (.inr (.inr hi)))
    have hxW : Ar W base x := (hxd.kept (g3.mono (F' := fun i => base ≤ i) (fun i hi => by rcases hi with hi | hi | hi; exact hs.aF i hi; rw [hi]; exact hs.aq; exact hs.av i hi))).kept (kW.mono (fun _ z => z.elim))
    refine ref_side hs (by omega) ⟨ht.1, by omega⟩ hab hB (r1.step kW) (own_kept r2 kW) x hxW.g hgz hgl hgs _ (fun h => absurd hm h) (fun _ h => by rw [YB_size] at h; omega) ?_ ?_
    · intro _ _ _ w' u' k' la' lc' kk q1 q2 q3 q4
      rw [hdN] at q1 ⊢
      exact ⟨_, rfl, ⟨u', k', la', lc', rfl, q1, q2, fun i hi => Nat.le_trans kW.size (q3 i hi), fun hge => q4 (by rw [hge]; unfold manyG; rw [if_pos rfl])⟩, kk⟩
    · intro _ _ y hy _ hoff
      rw [hon y hy] at hoff
      cases hoff
  · rintro w1 y w2 W GG ⟨u', k', la', lc', rfl, q1, q2, q3, q4⟩ kk hG
    exact ⟨u', k', la', lc', rfl, ⟨row_stay q1.sure (.inl rfl) kk (fun i z => (hG i z).2), row_stay q1.wait (.inr rfl) kk (fun i z => (hG i z).2)⟩, row_stay q2 (.inl rfl) kk (fun i z => (hG i z).2), q3, q4⟩
  · rintro w1 y W W' ⟨F', v', ⟨bs, bl, vd, g1⟩, g2, g3, g4, g5⟩ ⟨u', k', la', lc', rfl, q1, q2, q3, q4⟩ kW kN cN hbox hO
    refine ⟨fun e => absurd e (by decide), fun _ => ?_⟩
    have kB : Kept (fun i => i = N) w1 W' := (kW.mono (fun _ z => z.elim)).trans kN (fun i hi => .inl hi)
    have hnN' : ∀ i, i < w.heap.size → F' i → F i := fun i hi z => (g4 i z).elim id (fun z => by omega)
    have hOW : Other W N := by
      have hnN : ¬ (F N ∨ N = q ∨ v.ownBlock = some N) := fun z => by rcases z with z | z | z; exact hs.nF z; exact hs.nq z; exact hs.nv z
      exact (hsd.oN.off g3 hnN).kept kW
    have hF'N : ¬ F' N := fun z => hs.nF (hnN' N hNl z)
    have hv'N : v'.ownBlock ≠ some N := fun e => (g5 N e).elim hs.nv (fun z => by omega)
    have hli : Lies W' F' p bs bl vd dN dN.last := g1.kept kB (fun i hi z => hF'N (by rw [← z]; exact hi))
    have hlog : LogAt W' F' q p a B t (R ++ x.g) (sizeG (R ++ x.g)) v' := g2.kept kB (fun z => hs.nq z.symm) (fun i hi z => by rw [z] at hi; exact hv'N hi) (fun _ z => .inl z)
    have hr1 : Rd W' b c u' k' dN := ⟨row_stay q1.sure (.inl rfl) kN (fun i z _ => by rw [z]; exact hOW), row_stay q1.wait (.inr rfl) kN (fun i z _ => by rw [z]; exact hOW)⟩
    have hr2 : W'.ownsRow 0 9 1 (.slice la' (R ++ x.g).length lc') (R ++ x.g).length (sv (R ++ x.g)) := row_stay q2 (.inl rfl) kN (fun i z _ => by rw [z]; exact hOW)
    have hblt : b < w.heap.size := (hs.rd.sure.lt b rfl).2
    have hw1 := g3.size
    have hqw1 : q < w1.heap.size := by omega
    have hS : Sd W' (fun i => F' i ∧ (i = p ∨ i = bs ∨ i = bl ∨ vd.ownBlock = some i)) base N p a B q t (R ++ x.g) v' b c u' k' la' lc' dN :=
      { hs with cN := (by rw [hal] at cN; exact cN), oN := hO, log := { hlog with fq := fun z => hlog.fq z.1, fv := fun i hi => ⟨fun z => (hlog.fv i hi).1 z.1, (hlog.fv i hi).2⟩ }, disk := ⟨bs, bl, vd, hli.trim⟩, rd := hr1, live := hlive, n := hdn, row := hr2, held := hheld, may := mayG_cat hs.may hm, fit := (by rw [sizeG_append]; exact hf), nF := fun z => hF'N z.1, nq := hs.nq, nv := hv'N, bF := ⟨fun z => hs.bF.1 (hnN' b hblt z.1), hs.bF.2.1, fun e => (g5 b e).elim hs.bF.2.2 (fun z => by omega)⟩, uF := fun i hi => (by
          by_cases hge : x.g = []
          · have hd0 := hne hge
            obtain ⟨e1, e2⟩ := q4 hge
            rw [hd0, e1, e2] at hi
            have hu := hs.uF i hi
            have hil := (hs.rd.wait.lt i hi).2
            exact ⟨fun y => hu.1 (hnN' i hil y.1), hu.2.1, fun e => (g5 i e).elim hu.2.2 (fun z => by omega)⟩
          · obtain ⟨z, hz⟩ := wv_first dN.Q (hQne hge)
            obtain ⟨n1, n2, n3, n4⟩ := row_far hli hr1.wait hz hi
            refine ⟨fun y => ?_, fun e => ?_, fun e => absurd (row_tag hr1.wait hlog.own hi e) (by decide)⟩
            · rcases y.2 with y | y | y | y
              · exact n1 y
              · exact n2 y
              · exact n3 y
              · exact n4 y
            · have hc := hr1.wait
              rcases hc.2 with ⟨e1, _⟩ | ⟨g, cap, cur, e1, qq⟩
              · rw [e1] at hi; cases hi
              · have e3 : g = i := by rw [e1] at hi; simpa [Value.ownBlock] using hi
                subst e3
                have hl : 0 < (dN.Q.flatMap wv).length := by
                  cases hq : dN.Q.flatMap wv with
                  | nil => rw [hq] at hz; simp at hz
                  | cons _ _ => simp
                have hcell := World.ownsRow.cellAt (e1 ▸ hc) 0 (by rw [← hc.1]; exact hl)
                rw [hz] at hcell
                subst e
                have := hlog.c0
                rw [this] at hcell
                cases hcell), lF := fun i hi => ⟨fun z => (by have := (g1.lt i z.1); have := q3 i hi; omega), fun e => (by have := q3 i hi; omega), fun e => (by have := (g2.own.lt i e).2; have := q3 i hi; omega)⟩, aF := fun i z => (by rcases g4 i z.1 with z | z; exact hs.aF i z; omega), av := fun i hi => (by rcases g5 i hi with z | z; exact hs.av i z; omega) }
    refine (hS.same (by omega) hab hB).mono ?_
    rintro e w' ⟨rfl, kz⟩
    have kA : Kept (fun i => base ≤ i) w W' := ((kd1.mono (fun _ z => z.elim)).trans g3 (fun i hi => by rcases hi with hi | hi | hi; exact .inl (hs.aF i hi); rw [hi]; exact .inl hs.aq; exact .inl (hs.av i hi))).trans kB (fun i hi => by rw [hi]; exact .inl hs.aN)
    exact ⟨rfl, ⟨_, q, t, R ++ x.g, v', b, c, u', k', la', lc', dN, hS.step kz, ⟨ht.1, by omega⟩, by omega⟩, kA.trans kz (fun _ z => z.elim)⟩
end Go.Proofs.Ythfhjfemcmdmfaa

namespace Go.Proofs.Ythfhjfemcmdmfaa
open Go.ChangeShapes Go.WideShapes Go.ChangeAt Go.RowKit
set_option linter.unusedVariables false
set_option maxRecDepth 100000

theorem to_off {w : World} {F : Nat → Prop} {base N p a B q t j : Nat} {R : List ByteArray} {v : Value} {b c : Nat} {u : Option Addr} {k : Nat} {la : Option Addr} {lc : Nat} {d : Dk} (hs : Sd w F base N p a B q t R v b c u k la lc d) (ht : 1 ≤ t ∧ t ≤ 1 + 7 * j) (hQ : d.Q.length ≤ 30 * j) (hj : j ≤ 100) (hab : a < B) (hB : B ≤ 24) (hbw : base ≤ w.heap.size) (x : Wac) (hx : Ar w base x) (hkl : x.ks.length ≤ 9223372036854775807) (hgz : x.go = none → x.gc = 0) (hgl : x.g.length ≤ 8) (hgs : ∀ s, s ∈ x.g → s.size ≤ 4096) (hm : mayG x.g) (hf : sizeG R + sizeG x.g ≤ 32 * (B - a)) (j0 : Nat) (hj0 : j0 < manyG (YB t R).size x.g) (hon : ∀ i, i < j0 → (PD d a (YB t R) t x.g i).on = true) (hoff : (PD d a (YB t R) t x.g j0).on = false)
    (h1 : Calls Try.prog 21 #[.pointer (some ⟨q, 0, none⟩), .slice x.go x.g.length x.gc] (w.alloc (.cells #[.int .i64 1, .int .i64 x.n, .slice x.go x.g.length x.gc, .slice x.ko x.ks.length x.kc, .bool x.mo] 53)).drew fun e w' => e = .returned (.int .i64 30) ∧ ∃ F', Disk w' F' p (PD d a (YB t R) t x.g (j0 + 1)) ∧ Kept (fun i => F i ∨ i = q ∨ v.ownBlock = some i) (w.alloc (.cells #[.int .i64 1, .int .i64 x.n, .slice x.go x.g.length x.gc, .slice x.ko x.ks.length x.kc, .bool x.mo] 53)).drew w' ∧ Grew F F' (w.alloc (.cells #[.int .i64 1, .int .i64 x.n, .slice x.go x.g.length x.gc, .slice x.ko x.ks.length x.kc, .bool x.mo] 53)).drew) : Calls Try.prog 19 #[.pointer (some ⟨N, 0, none⟩), .agg #[.int .i64 1, .int .i64 x.n, .slice x.go x.g.length x.gc, .slice x.ko x.ks.length x.kc, .bool x.mo]] w fun e w' => e = .returned (.bool true) ∧ Side base N p a B (j + 1) w' ∧ Kept (fun i => base ≤ i) w w' := by
  have k1 : Kept (fun _ => False) w (w.alloc (.cells #[.int .i64 1, .int .i64 x.n, .slice x.go x.g.length x.gc, .slice x.ko x.ks.length x.kc, .bool x.mo] 53)) := (Kept.refl _ w).alloc _
  have hbx := CellsF.new w [.int .i64 1, .int .i64 x.n, .slice x.go x.g.length x.gc, .slice x.ko x.ks.length x.kc, .bool x.mo] 53 (by simp)
  have hs1 := hs.step k1
  have hx1 := hx.kept (k1.mono (fun _ z => z.elim))
  have hkF : x.ks ≠ [] → ∀ y, x.ko = some y → ¬ F y.block ∧ y.block ≠ N := fun hne y hy => by
    have h1 := hx.kF hne y hy
    exact ⟨fun z => by have := hs.aF _ z; omega, fun e => by have := hs.aN; omega⟩
  have hbn := hs.disk.bound
  have hNl := hs.cN.lt
  have hwz : (w.alloc (.cells #[.int .i64 1, .int .i64 x.n, .slice x.go x.g.length x.gc, .slice x.ko x.ks.length x.kc, .bool x.mo] 53)).heap.size = w.heap.size + 1 := by simp
  have kd1 : Kept (fun _ => False) w (w.alloc (.cells #[.int .i64 1, .int .i64 x.n, .slice x.go x.g.length x.gc, .slice x.ko x.ks.length x.kc, .bool x.mo] 53)).drew := k1.drew
  have hsd := hs.step kd1
  have hxd := hx.kept (kd1.mono (fun _ z => z.elim))
  have hwd : (w.alloc (.cells #[.int .i64 1, .int .i64 x.n, .slice x.go x.g.length x.gc, .slice x.ko x.ks.length x.kc, .bool x.mo] 53)).drew.heap.size = w.heap.size + 1 := hwz
  have hbd : CellsF (w.alloc (.cells #[.int .i64 1, .int .i64 x.n, .slice x.go x.g.length x.gc, .slice x.ko x.ks.length x.kc, .bool x.mo] 53)).drew w.heap.size [.int .i64 1, .int .i64 x.n, .slice x.go x.g.length x.gc, .slice x.ko x.ks.length x.kc, .bool x.mo] := hbx.far rfl
  have hfit := hs.fit
  have hRl := len_size R
  have hqlt : q < w.heap.size := World.block_lt_of_cell? w _ hs.log.c0
  have hdn : (PD d a (YB t R) t x.g (j0 + 1)).n = 24 := (puts_n _ _ _ _).trans hs.n
  have hdq : (PD d a (YB t R) t x.g (j0 + 1)).Q.length ≤ d.Q.length + (j0 + 1) := puts_q _ _ _ _
  have hml := many_gle t R x.g _ hf (by omega)
  obtain ⟨dX, hdX⟩ : ∃ dX, PD d a (YB t R) t x.g (j0 + 1) = dX := ⟨_, rfl⟩
  rw [hdX] at hdn hdq h1
  have hnN : ¬ (F N ∨ N = q ∨ v.ownBlock = some N) := fun z => by rcases z with z | z | z; exact hs.nF z; exact hs.nq z; exact hs.nv z
  refine does_add (z := zR b c u k la lc a B t R d) (cc := 30) (P1 := fun w1 => ∃ F', Disk w1 F' p dX ∧ Kept (fun i => F i ∨ i = q ∨ v.ownBlock = some i) (w.alloc (.cells #[.int .i64 1, .int .i64 x.n, .slice x.go x.g.length x.gc, .slice x.ko x.ks.length x.kc, .bool x.mo] 53)).drew w1 ∧ Grew F F' (w.alloc (.cells #[.int .i64 1, .int .i64 x.n, .slice x.go x.g.length x.gc, .slice x.ko x.ks.length x.kc, .bool x.mo] 53)).drew)
    (P2 := fun w1 y w2 => ∃ u' k', y = { zR b c u k la lc a B t R d with b3 := u', n3 := dX.Q.length, c3 := k', f4 := dX.fuse, o5 := dX.off } ∧ Rd w2 b c u' k' dX) hs.cN h1 ?_ ?_ ?_ ?_
  · rintro w1 ⟨F', g1, g3, g4⟩
    exact ⟨hsd.cN.kept g3 hnN, hbd.kept g3 (fun z => by
      rcases z with z | z | z
      · have := hbn _ z; omega
      · omega
      · have := (hs.log.own.lt _ z).2; omega), hsd.oN.off g3 hnN⟩
  · rintro w1 W ⟨F', g1, g3, g4⟩ kW
    obtain ⟨r1, r2⟩ := hsd.rows g3 (fun i hi => by rcases hi with hi | hi | hi; exact .inl hi; exact .inr (.inr (.inl hi)); exact .inr (.inr (.inr hi)))
    have hxW : Ar W base x := (hxd.kept (g3.mono (F' := fun i => base ≤ i) (fun i hi => by rcases hi with hi | hi | hi; exact hs.aF i hi; rw [hi]; exact hs.aq; exact hs.av i hi))).kept (kW.mono (fun _ z => z.elim))
    refine ref_side hs (by omega) ⟨ht.1, by omega⟩ hab hB (r1.step kW) (own_kept r2 kW) x hxW.g hgz hgl hgs _ (fun h => absurd hm h) (fun _ h => by rw [YB_size] at h; omega) ?_ ?_
    · intro _ _ hall
      rw [hall j0 hj0] at hoff
      cases hoff
    · intro _ _ y hy hyon hyoff w' u' k' kk q1
      have e : y = j0 := by
        rcases Nat.lt_trichotomy y j0 with z | z | z
        · rw [hon y z] at hyoff; cases hyoff
        · exact z
        · rw [hyon j0 z] at hoff; cases hoff
      subst e
      rw [hdX] at q1 ⊢
      exact ⟨_, rfl, ⟨u', k', rfl, q1⟩, kk⟩
  · rintro w1 y w2 W GG ⟨u', k', rfl, q1⟩ kk hG
    exact ⟨u', k', rfl, ⟨row_stay q1.sure (.inl rfl) kk (fun i z => (hG i z).2), row_stay q1.wait (.inr rfl) kk (fun i z => (hG i z).2)⟩⟩
  · rintro w1 y W W' ⟨F', g1, g3, g4⟩ ⟨u', k', rfl, q1⟩ kW kN cN hbox hO
    refine ⟨fun _ => ?_, fun e => absurd rfl e⟩
    have kB : Kept (fun i => i = N) w1 W' := (kW.mono (fun _ z => z.elim)).trans kN (fun i hi => .inl hi)
    have hnN' : ∀ i, i < w.heap.size → F' i → F i := fun i hi z => (g4 i z).elim id (fun z => by omega)
    have hOW : Other W N := (hsd.oN.off g3 hnN).kept kW
    have hF'N : ¬ F' N := fun z => hs.nF (hnN' N hNl z)
    have hblt : b < w.heap.size := (hs.rd.sure.lt b rfl).2
    have hr1 : Rd W' b c u' k' dX := ⟨row_stay q1.sure (.inl rfl) kN (fun i z _ => by rw [z]; exact hOW), row_stay q1.wait (.inr rfl) kN (fun i z _ => by rw [z]; exact hOW)⟩
    have kA : Kept (fun i => base ≤ i) w W' := ((kd1.mono (fun _ z => z.elim)).trans g3 (fun i hi => by rcases hi with hi | hi | hi; exact .inl (hs.aF i hi); rw [hi]; exact .inl hs.aq; exact .inl (hs.av i hi))).trans kB (fun i hi => by rw [hi]; exact .inl hs.aN)
    have hxW := hx.kept kA
    have haF' : ∀ i, F' i → base ≤ i := fun i z => by rcases g4 i z with z | z; exact hs.aF i z; omega
    refine (crash_to cN hF'N (fun z => hs.bF.1 (hnN' b hblt z)) hO (g1.kept kB (fun i hi z => hF'N (by rw [← z]; exact hi))) hr1 (by omega) hdn rfl rfl rfl hab hB (j := j + 1) ⟨ht.1, by omega⟩ (by omega) hxW.k hkl rfl (fun hne y hy => ⟨fun z => by have := hx.kF hne y hy; have := haF' _ z; omega, (hkF hne y hy).2⟩) hs.aN haF' (Nat.le_trans hbw kA.size)).mono ?_
    rintro e w' ⟨rfl, h4, h5⟩
    exact ⟨rfl, h4, kA.up h5⟩
theorem to_none {w : World} {F : Nat → Prop} {base N p a B q t j : Nat} {R : List ByteArray} {v : Value} {b c : Nat} {u : Option Addr} {k : Nat} {la : Option Addr} {lc : Nat} {d : Dk} (hs : Sd w F base N p a B q t R v b c u k la lc d) (ht : 1 ≤ t ∧ t ≤ 1 + 7 * j) (hQ : d.Q.length ≤ 30 * j) (hj : j ≤ 100) (hab : a < B) (hB : B ≤ 24) (hbw : base ≤ w.heap.size) (x : Wac) (hx : Ar w base x) (hkl : x.ks.length ≤ 9223372036854775807) (hgz : x.go = none → x.gc = 0) (hgl : x.g.length ≤ 8) (hgs : ∀ s, s ∈ x.g → s.size ≤ 4096) (hge : x.g = []) : Calls Try.prog 19 #[.pointer (some ⟨N, 0, none⟩), .agg #[.int .i64 1, .int .i64 x.n, .slice x.go x.g.length x.gc, .slice x.ko x.ks.length x.kc, .bool x.mo]] w fun e w' => e = .returned (.bool true) ∧ Side base N p a B (j + 1) w' ∧ Kept (fun i => base ≤ i) w w' := by
  have k1 : Kept (fun _ => False) w (w.alloc (.cells #[.int .i64 1, .int .i64 x.n, .slice x.go x.g.length x.gc, .slice x.ko x.ks.length x.kc, .bool x.mo] 53)) := (Kept.refl _ w).alloc _
  have hbx := CellsF.new w [.int .i64 1, .int .i64 x.n, .slice x.go x.g.length x.gc, .slice x.ko x.ks.length x.kc, .bool x.mo] 53 (by simp)
  have hs1 := hs.step k1
  have hx1 := hx.kept (k1.mono (fun _ z => z.elim))
  have hkF : x.ks ≠ [] → ∀ y, x.ko = some y → ¬ F y.block ∧ y.block ≠ N := fun hne y hy => by
    have h1 := hx.kF hne y hy
    exact ⟨fun z => by have := hs.aF _ z; omega, fun e => by have := hs.aN; omega⟩
  have hbn := hs.disk.bound
  have hNl := hs.cN.lt
  have hwz : (w.alloc (.cells #[.int .i64 1, .int .i64 x.n, .slice x.go x.g.length x.gc, .slice x.ko x.ks.length x.kc, .bool x.mo] 53)).heap.size = w.heap.size + 1 := by simp
  have kd1 : Kept (fun _ => False) w (w.alloc (.cells #[.int .i64 1, .int .i64 x.n, .slice x.go x.g.length x.gc, .slice x.ko x.ks.length x.kc, .bool x.mo] 53)).drew := k1.drew
  have hsd := hs.step kd1
  have hxd := hx.kept (kd1.mono (fun _ z => z.elim))
  have hwd : (w.alloc (.cells #[.int .i64 1, .int .i64 x.n, .slice x.go x.g.length x.gc, .slice x.ko x.ks.length x.kc, .bool x.mo] 53)).drew.heap.size = w.heap.size + 1 := hwz
  have hbd : CellsF (w.alloc (.cells #[.int .i64 1, .int .i64 x.n, .slice x.go x.g.length x.gc, .slice x.ko x.ks.length x.kc, .bool x.mo] 53)).drew w.heap.size [.int .i64 1, .int .i64 x.n, .slice x.go x.g.length x.gc, .slice x.ko x.ks.length x.kc, .bool x.mo] := hbx.far rfl
  have hfit := hs.fit
  have hRl := len_size R
  have e0 : manyG (YB t R).size x.g = 0 := by rw [hge]; unfold manyG; rw [if_pos rfl]
  have hz : sizeG x.g = 0 := by rw [hge]; rfl
  have hl : x.g.length = 0 := by rw [hge]; rfl
  have ep : (PD d a (YB t R) t x.g (manyG (YB t R).size x.g)) = d := by rw [e0]; rfl
  refine to_ok hs ht hQ hj hab hB hbw x hx hkl hgz hgl hgs (by rw [hge]; exact fun s hs => by cases hs) (by omega) (fun i hi => by omega) (fun _ => ep) ?_
  have ev : Value.slice x.go x.g.length x.gc = .slice x.go 0 x.gc := by rw [hl]
  have hN := add_none hsd.log hsd.disk hs.live.off (by omega) (by omega) hfit x.go x.gc
  rw [← ev] at hN
  rw [ep]
  refine hN.mono ?_
  rintro e w' ⟨rfl, rfl⟩
  refine ⟨rfl, F, v, hsd.disk.kept (Kept.refl (fun _ => False) _).drew (fun _ _ z => z), ?_, (Kept.refl _ _).drew, fun _ z => .inl z, fun _ z => .inl z⟩
  have eR : R ++ x.g = R := by rw [hge, List.append_nil]
  rw [eR]
  exact hsd.log.step (Kept.refl _ _).drew
theorem first_off (P : Nat → Bool) : ∀ n, (∀ i, i < n → P i = true) ∨ ∃ j, j < n ∧ (∀ i, i < j → P i = true) ∧ P j = false
  | 0 => .inl (fun i hi => absurd hi (Nat.not_lt_zero _))
  | n + 1 => by
    rcases first_off P n with h | ⟨j, hj, h1, h2⟩
    · cases hn : P n with
      | true => exact .inl (fun i hi => (Nat.lt_succ_iff_lt_or_eq.1 hi).elim (h i) (fun e => by rw [e]; exact hn))
      | false => exact .inr ⟨n, Nat.lt_succ_self n, h, hn⟩
    · exact .inr ⟨j, by omega, h1, h2⟩
set_option maxHeartbeats 1000000 in
theorem to_many {w : World} {F : Nat → Prop} {base N p a B q t j : Nat} {R : List ByteArray} {v : Value} {b c : Nat} {u : Option Addr} {k : Nat} {la : Option Addr} {lc : Nat} {d : Dk} (hs : Sd w F base N p a B q t R v b c u k la lc d) (ht : 1 ≤ t ∧ t ≤ 1 + 7 * j) (hQ : d.Q.length ≤ 30 * j) (hj : j ≤ 100) (hab : a < B) (hB : B ≤ 24) (hbw : base ≤ w.heap.size) (x : Wac) (hx : Ar w base x) (hkl : x.ks.length ≤ 9223372036854775807) (hgz : x.go = none → x.gc = 0) (hgl : x.g.length ≤ 8) (hgs : ∀ s, s ∈ x.g → s.size ≤ 4096) (hm : mayG x.g) (hne : x.g ≠ []) (hf : sizeG R + sizeG x.g ≤ 32 * (B - a)) : Calls Try.prog 19 #[.pointer (some ⟨N, 0, none⟩), .agg #[.int .i64 1, .int .i64 x.n, .slice x.go x.g.length x.gc, .slice x.ko x.ks.length x.kc, .bool x.mo]] w fun e w' => e = .returned (.bool true) ∧ Side base N p a B (j + 1) w' ∧ Kept (fun i => base ≤ i) w w' := by
  have k1 : Kept (fun _ => False) w (w.alloc (.cells #[.int .i64 1, .int .i64 x.n, .slice x.go x.g.length x.gc, .slice x.ko x.ks.length x.kc, .bool x.mo] 53)) := (Kept.refl _ w).alloc _
  have hbx := CellsF.new w [.int .i64 1, .int .i64 x.n, .slice x.go x.g.length x.gc, .slice x.ko x.ks.length x.kc, .bool x.mo] 53 (by simp)
  have hs1 := hs.step k1
  have hx1 := hx.kept (k1.mono (fun _ z => z.elim))
  have hkF : x.ks ≠ [] → ∀ y, x.ko = some y → ¬ F y.block ∧ y.block ≠ N := fun hne y hy => by
    have h1 := hx.kF hne y hy
    exact ⟨fun z => by have := hs.aF _ z; omega, fun e => by have := hs.aN; omega⟩
  have hbn := hs.disk.bound
  have hNl := hs.cN.lt
  have hwz : (w.alloc (.cells #[.int .i64 1, .int .i64 x.n, .slice x.go x.g.length x.gc, .slice x.ko x.ks.length x.kc, .bool x.mo] 53)).heap.size = w.heap.size + 1 := by simp
  have kd1 : Kept (fun _ => False) w (w.alloc (.cells #[.int .i64 1, .int .i64 x.n, .slice x.go x.g.length x.gc, .slice x.ko x.ks.length x.kc, .bool x.mo] 53)).drew := k1.drew
  have hsd := hs.step kd1
  have hxd := hx.kept (kd1.mono (fun _ z => z.elim))
  have hwd : (w.alloc (.cells #[.int .i64 1, .int .i64 x.n, .slice x.go x.g.length x.gc, .slice x.ko x.ks.length x.kc, .bool x.mo] 53)).drew.heap.size = w.heap.size + 1 := hwz
  have hbd : CellsF (w.alloc (.cells #[.int .i64 1, .int .i64 x.n, .slice x.go x.g.length x.gc, .slice x.ko x.ks.length x.kc, .bool x.mo] 53)).drew w.heap.size [.int .i64 1, .int .i64 x.n, .slice x.go x.g.length x.gc, .slice x.ko x.ks.length x.kc, .bool x.mo] := hbx.far rfl
  have hfit := hs.fit
  have hRl := len_size R
  have hp := sizeG_pos hne
  have em : manyG (YB t R).size x.g = manyS (sizeG R) (sizeG x.g) := by unfold manyG; rw [if_neg hne, YB_size]
  have ep : ∀ i, PD d a (YB t R) t x.g i = puts d (a + sizeG R / 32) (leftS d a (sizeG R) ⟨(frames t x.g).toArray⟩).data.toList i := fun i => by unfold PD; rw [YB_size]
  have hA := add_is hsd.log hsd.disk hs.live.off hab (by rw [hs.n]; exact hB) ⟨ht.1, by omega⟩ (by omega) x.go x.gc x.g hxd.g (fun y n c e z => by
    have := hx.gF hne y (Value.slice.inj e).1
    have := hs.aF _ z
    omega) (by omega) hm hp hf (by omega)
  rcases first_off (fun i => (PD d a (YB t R) t x.g i).on) (manyG (YB t R).size x.g) with hall | ⟨j0, hj0, hon, hoff⟩
  · refine to_ok hs ht hQ hj hab hB hbw x hx hkl hgz hgl hgs hm hf hall (fun h => absurd h hne) (hA.mono ?_)
    rintro e w' ⟨cc, rfl, F', kk, gr, h0, h30⟩
    by_cases hc : cc = 0
    · obtain ⟨_, q2, v', q3, q4⟩ := h0 hc
      rw [← ep, ← em] at q2
      rw [hc]
      refine ⟨rfl, F', v', q2, ?_, kk, gr, q4⟩
      rw [sizeG_append]
      exact q3
    · obtain ⟨_, ⟨kx, hkx, _, hkoff, _⟩, _⟩ := h30 hc
      rw [← ep] at hkoff
      have := hall kx (by rw [em]; exact hkx)
      rw [hkoff] at this
      cases this
  · refine to_off hs ht hQ hj hab hB hbw x hx hkl hgz hgl hgs hm hf j0 hj0 hon hoff (hA.mono ?_)
    rintro e w' ⟨cc, rfl, F', kk, gr, h0, h30⟩
    by_cases hc : cc = 0
    · obtain ⟨q1, _⟩ := h0 hc
      have := q1 j0 (by rw [← em]; exact hj0)
      rw [← ep] at this
      have hoff' : (PD d a (YB t R) t x.g j0).on = false := hoff
      rw [hoff'] at this
      cases this
    · obtain ⟨e30, ⟨kx, hkx, hkon, hkoff, hkd⟩, _⟩ := h30 hc
      have e : kx = j0 := by
        rcases Nat.lt_trichotomy kx j0 with z | z | z
        · have hh : (PD d a (YB t R) t x.g kx).on = true := hon kx z
          rw [ep, hkoff] at hh; cases hh
        · exact z
        · have hh := hkon j0 z
          have hoff' : (PD d a (YB t R) t x.g j0).on = false := hoff
          rw [← ep, hoff'] at hh; cases hh
      subst e
      rw [← ep] at hkd
      rw [e30]
      exact ⟨rfl, F', hkd, kk, gr⟩
/-- A call of the law's, on both sides. -/
theorem side_does {w : World} {base N p a B j : Nat} (hs : Side base N p a B j w) (hj : j ≤ 100) (hab : a < B) (hB : B ≤ 24) (hbw : base ≤ w.heap.size) (x : Wac) (hx : Ar w base x) (hkl : x.ks.length ≤ 9223372036854775807) (hgz : x.go = none → x.gc = 0) (hgl : x.g.length ≤ 8) (hgs : ∀ s, s ∈ x.g → s.size ≤ 4096) (hn : -9223372036854775808 ≤ x.n ∧ x.n ≤ 9223372036854775807) : Calls Try.prog 19 #[.pointer (some ⟨N, 0, none⟩), .agg #[.int .i64 x.kd, .int .i64 x.n, .slice x.go x.g.length x.gc, .slice x.ko x.ks.length x.kc, .bool x.mo]] w fun e w' => e = .returned (.bool true) ∧ Side base N p a B (j + 1) w' ∧ Kept (fun i => base ≤ i) w w' := by
  obtain ⟨F, q, t, R, v, b, c, u, k, la, lc, d, hs, ht, hQ⟩ := hs
  by_cases h1 : x.kd = 1
  · rw [h1]
    by_cases hm : mayG x.g
    · by_cases hf : sizeG R + sizeG x.g ≤ 32 * (B - a)
      · by_cases hge : x.g = []
        · exact to_none hs ht hQ hj hab hB hbw x hx hkl hgz hgl hgs hge
        · exact to_many hs ht hQ hj hab hB hbw x hx hkl hgz hgl hgs hm hge hf
      · exact to_full hs ht hQ hj hab hB hbw x hx hkl hgz hgl hgs hm (by omega)
    · exact to_bad hs ht hQ hj hab hB hbw x hx hkl hgz hgl hgs hm
  · by_cases h2 : x.kd = 2
    · rw [h2]
      cases hon : d.on with
      | true => exact to_sync_on hs ht hQ hj hab hB hbw x hx hkl hon
      | false => exact to_sync_off hs ht hQ hj hab hB hbw x hx hkl hon
    · by_cases h3 : x.kd = 3
      · rw [h3]
        exact to_fuse hs ht hQ hj hab hB hbw x hx hkl hn
      · exact to_else hs ht hQ hj hab hB hbw x hx hkl h1 h2 h3
end Go.Proofs.Ythfhjfemcmdmfaa

namespace Go.Proofs.Ythfhjfemcmdmfaa
open Go.ChangeShapes Go.WideShapes Go.ChangeAt Go.RowKit
set_option linter.unusedVariables false
set_option maxRecDepth 100000

theorem opens_to {w : World} {F : Nat → Prop} {base N p a B b c : Nat} {d : Dk} {l0 m0 m1 m2 m3 m4 : Value} (hN : CellsF w N [.pointer (some ⟨p, 0, none⟩), l0, .slice (some ⟨b, 0, none⟩) 24 c, .slice none 0 0, .int .i64 d.fuse, .bool false, m0, m1, m2, m3, m4, .int .i64 (a : Int), .int .i64 (B : Int)]) (hNF : ¬ F N) (hbF : ¬ F b) (hNO : Other w N) (hd : Disk w F p d) (hlive : d.live) (hr : Rd w b c none 0 d) (hQ : d.Q = []) (hn : d.n = 24) (hab : a < B) (hB : B ≤ 24) (hbN : base ≤ N) (hbF2 : ∀ i, F i → base ≤ i) (hbw : base ≤ w.heap.size) :
    Calls Try.prog 17 #[.pointer (some ⟨N, 0, none⟩), .int .i64 1] w fun e w' => e = .returned (.bool true) ∧ Side base N p a B 0 w' ∧ Kept (fun i => base ≤ i) w w' := by
  obtain ⟨X, hX⟩ : ∃ X, (⟨(cat d a (B - a)).toArray⟩ : ByteArray) = X := ⟨_, rfl⟩
  obtain ⟨R, us, hsc⟩ : ∃ R us, scanS ((1 : Nat) : Int) X = (R, us) := ⟨_, _, rfl⟩
  have h1 := scan_all 1 X
  have h2 := scan_size 1 X
  rw [hsc] at h1 h2
  have h2' : sizeG R = us := h2
  obtain ⟨h3, h4, h5⟩ := h1
  have h3' : us ≤ X.size := h3
  have h4' : frames 1 R = X.data.toList.take us := h4
  have hbnd := hd.bound
  have hcl : ∀ i, i < 24 → (d.last i).length = 32 := fun i hi => hd.lastLen i (by omega)
  have hXs : X.size = 32 * (B - a) := by
    rw [← hX]
    show (cat d a (B - a)).toArray.size = _
    rw [List.size_toArray, catL 24 hcl a (B - a) (by omega)]
  have hUB : X.extract 0 us = ⟨(frames 1 R).toArray⟩ := extract_take X us _ h4'
  have hub : (⟨(frames 1 R).toArray⟩ : ByteArray).size = us := by
    show (frames 1 R).toArray.size = us
    rw [List.size_toArray, frames_len, h2']
  have hRl := len_size R
  have hQl : d.Q.length = 0 := by rw [hQ]; rfl
  refine (side_opens (t := 1) hN hNF hNO hd hlive.off hr (by omega) hn hQl rfl (by omega) hab hB ⟨Nat.le_refl _, by omega⟩ hX hsc rfl (by omega) hUB hub).mono ?_
  rintro e w' ⟨rfl, q, la, lc, v, g1, g2, g5, g6, g7, g8, g11, hO⟩
  have hNw := hN.lt
  refine ⟨rfl, ⟨F, q, 1, R, v, b, c, none, 0, la, lc, d, ?_, ⟨Nat.le_refl _, by omega⟩, by omega⟩, g5.mono (fun i hi => by rw [hi]; exact hbN)⟩
  rw [← h2'] at g2
  have hblt := (hr.sure.lt b rfl).2
  exact { cN := (by rw [hQl]; exact g1), oN := hO, log := g2, disk := hd.kept g5 (fun i hi z => hNF (by rw [← z]; exact hi)),
          rd := ⟨own_other hr.sure (.inl rfl) g5 (fun i hi => by rw [hi]; exact hNO), own_other hr.wait (.inr rfl) g5 (fun i hi => by rw [hi]; exact hNO)⟩, live := hlive, n := hn, row := g6,
          held := (by
            have := Heldf.open 24 hcl a B 1 hab hB
            rw [hX, hsc] at this
            exact this),
          may := h5, fit := (by omega), nF := hNF, nq := (by omega), nv := fun e => (by have := g8 _ e; omega),
          bF := ⟨hbF, (by omega), fun e => (by have := g8 _ e; omega)⟩,
          uF := fun i hi => (by rw [own_none] at hi; cases hi),
          lF := fun i hi => ⟨fun z => (by have := hbnd _ z; have := (g11 i hi).1; omega), (g11 i hi).2⟩,
          aN := hbN, aF := hbF2, aq := (by omega), av := fun i hi => (by have := g8 i hi; omega) }
theorem fresh_secs (n : Nat) : secs n (fresh n).S = made n n := by
  apply List.ext_getElem
  · simp [secs, made]
  · intro i h1 h2
    simp [secs, made, fresh, fill]
theorem Below.kept {w w' : World} (h : Below w.heap.size w w') : Kept (fun _ => False) w w' := ⟨h.os, h.tape, h.output, h.size, fun k hk _ => h.block k hk⟩
end Go.Proofs.Ythfhjfemcmdmfaa
