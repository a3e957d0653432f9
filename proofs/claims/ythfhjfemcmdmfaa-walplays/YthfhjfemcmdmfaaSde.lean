/- The law: its two sides, as they stand between its calls. -/
import Derived.Test.YthfhjfemcmdmfaaDoS
import Derived.Test.YthfhjfemcmdmfaaRig
import Derived.Test.YthfhjfemcmdmfaaWac
import Derived.Test.YthfhjfemcmdmfaaTwin
namespace Go.Proofs.Ythfhjfemcmdmfaa
open Go.ChangeShapes Go.WideShapes Go.ChangeAt Go.RowKit
set_option linter.unusedVariables false
set_option maxRecDepth 100000

/-- The law's two sides: the program's log and disk, and the document's. -/
structure Sd (w : World) (F : Nat → Prop) (base N p a B q t : Nat) (R : List ByteArray) (v : Value) (b c : Nat) (u : Option Addr) (k : Nat) (la : Option Addr) (lc : Nat) (d : Dk) : Prop where
  cN : CellsF w N [.pointer (some ⟨p, 0, none⟩), .pointer (some ⟨q, 0, none⟩), .slice (some ⟨b, 0, none⟩) 24 c, .slice u d.Q.length k, .int .i64 d.fuse, .bool false, .int .i64 (a : Int), .int .i64 (B : Int), .int .i64 (t : Int), .slice la R.length lc, .string ⟨(frames t R).toArray⟩, .int .i64 (a : Int), .int .i64 (B : Int)]
  oN : Other w N
  log : LogAt w F q p a B t R (sizeG R) v
  disk : Disk w F p d
  rd : Rd w b c u k d
  live : d.live
  n : d.n = 24
  row : w.ownsRow 0 9 1 (.slice la R.length lc) R.length (sv R)
  held : Heldf d a B (frames t R)
  may : mayG R
  fit : sizeG R ≤ 32 * (B - a)
  nF : ¬ F N
  nq : N ≠ q
  nv : v.ownBlock ≠ some N
  bF : ¬ F b ∧ b ≠ q ∧ v.ownBlock ≠ some b
  uF : ∀ i, (Value.slice u d.Q.length k).ownBlock = some i → ¬ F i ∧ i ≠ q ∧ v.ownBlock ≠ some i
  lF : ∀ i, (Value.slice la R.length lc).ownBlock = some i → ¬ F i ∧ i ≠ q ∧ v.ownBlock ≠ some i
  aN : base ≤ N
  aF : ∀ i, F i → base ≤ i
  aq : base ≤ q
  av : ∀ i, v.ownBlock = some i → base ≤ i
/-- The law's two sides behind so many calls. -/
def Side (base N p a B j : Nat) (w : World) : Prop := ∃ F q t R v b c u k la lc d, Sd w F base N p a B q t R v b c u k la lc d ∧ (1 ≤ t ∧ t ≤ 1 + 7 * j) ∧ d.Q.length ≤ 30 * j
theorem len_size (g : List ByteArray) : g.length ≤ sizeG g := by
  induction g with
  | nil => exact Nat.le_refl _
  | cons s r ih => show r.length + 1 ≤ (10 + s.size) + sizeG r; omega
theorem extract_take (X : ByteArray) (n : Nat) (L : List UInt8) (h : L = X.data.toList.take n) : X.extract 0 n = ⟨L.toArray⟩ := by
  subst h
  apply ByteArray.ext
  apply Array.ext'
  simp [ByteArray.data_extract, Array.toList_extract, List.extract_eq_take_drop]
theorem own_none (l c : Nat) : (Value.slice none l c).ownBlock = none := rfl
theorem crash_to {w : World} {F : Nat → Prop} {base N p a B t b c m k j : Nat} {u : Option Addr} {df : Int} {of : Bool} {d : Dk} {l0 m0 m1 m2 m3 m4 : Value} {ko : Option Addr} {kc kl : Nat} {ks : List Int} (hN : CellsF w N [.pointer (some ⟨p, 0, none⟩), l0, .slice (some ⟨b, 0, none⟩) 24 c, .slice u m k, .int .i64 df, .bool of, m0, m1, m2, m3, m4, .int .i64 (a : Int), .int .i64 (B : Int)]) (hNF : ¬ F N) (hbF : ¬ F b) (hNO : Other w N) (hd : Disk w F p d) (hr : Rd w b c u k d) (hQ : d.Q.length ≤ 1000000) (hn : d.n = 24) (hm : d.Q.length = m) (hdf : d.fuse = df) (hof : d.off = of) (hab : a < B) (hB : B ≤ 24) (ht : 1 ≤ t ∧ t ≤ 1 + 7 * j) (hj : j ≤ 1000)
    (hks : Ints w (.slice ko ks.length kc) ks) (hkl : ks.length ≤ 9223372036854775807) (hkl2 : ks.length = kl) (hkF : ks ≠ [] → ∀ x, ko = some x → ¬ F x.block ∧ x.block ≠ N) (hbN : base ≤ N) (hbF2 : ∀ i, F i → base ≤ i) (hbw : base ≤ w.heap.size) :
    Calls Try.prog 45 #[.pointer (some ⟨N, 0, none⟩), .slice ko kl kc, .int .i64 (t : Int)] w fun e w' => e = .returned (.bool true) ∧ Side base N p a B j w' ∧ Kept (fun i => base ≤ i) w w' := by
  obtain ⟨X, hX⟩ : ∃ X, (⟨(cat (d.crash ks) a (B - a)).toArray⟩ : ByteArray) = X := ⟨_, rfl⟩
  obtain ⟨R, us, hsc⟩ : ∃ R us, scanS (t : Int) X = (R, us) := ⟨_, _, rfl⟩
  have h1 := scan_all t X
  have h2 := scan_size t X
  rw [hsc] at h1 h2
  have h2' : sizeG R = us := h2
  obtain ⟨h3, h4, h5⟩ := h1
  have h3' : us ≤ X.size := h3
  have h4' : frames t R = X.data.toList.take us := h4
  have hbnd := hd.bound
  have hcl : ∀ i, i < 24 → ((d.crash ks).last i).length = 32 := fun i hi => by
    obtain ⟨bs, bl, vv, hl⟩ := hd
    show (torn d.S (d.Q.zip ks) i).length = 32
    exact torn_len 24 d.S (fun i hi => hl.sure.len i (by omega)) (d.Q.zip ks) (fun x hx => (hl.qs x.1 (List.of_mem_zip hx).1).2) i hi
  have hXs : X.size = 32 * (B - a) := by
    rw [← hX]
    show (cat (d.crash ks) a (B - a)).toArray.size = _
    rw [List.size_toArray, catL 24 hcl a (B - a) (by omega)]
  have hUB : X.extract 0 us = ⟨(frames t R).toArray⟩ := extract_take X us _ h4'
  have hub : (⟨(frames t R).toArray⟩ : ByteArray).size = us := by
    show (frames t R).toArray.size = us
    rw [List.size_toArray, frames_len, h2']
  have hRl := len_size R
  refine (crash_side hN hNF hbF hNO hd hr hQ hn hm hdf hof (by omega) hab hB ⟨ht.1, by omega⟩ hks hkl hkl2 hkF hX hsc rfl (by omega) hUB hub).mono ?_
  rintro e w' ⟨rfl, q, la, lc, v, b1, c1, g1, g2, g3, g4, g5, g6, g7, g8, g9, g10, g11, hO⟩
  have hNw := hN.lt
  refine ⟨rfl, ⟨F, q, t, R, v, b1, c1, none, 0, la, lc, d.crash ks, ?_, ht, Nat.zero_le _⟩, g5.mono (fun i hi => by rcases hi with hi | rfl; exact hbF2 i hi; exact hbN)⟩
  rw [← h2'] at g2
  exact { cN := g1, oN := hO, log := g2, disk := g3, rd := g4, live := ⟨rfl, by simp [Dk.crash], by simp [Dk.crash]⟩, n := hn, row := g6,
          held := by
            have := Heldf.open 24 hcl a B t hab hB
            rw [hX, hsc] at this
            exact this
          may := h5, fit := by omega, nF := hNF, nq := by omega, nv := fun e => (by have := g8 _ e; omega),
          bF := ⟨fun z => (by rcases g9 with g9 | g9; rw [g9] at z; exact hbF z; have := hbnd _ z; omega), g10⟩,
          uF := fun i hi => (by rw [own_none] at hi; cases hi),
          lF := fun i hi => ⟨fun z => (by have := hbnd _ z; have := (g11 i hi).1; omega), (g11 i hi).2⟩,
          aN := hbN, aF := hbF2, aq := by omega, av := fun i hi => by have := g8 i hi; omega }

theorem Sd.step {w w' : World} {F : Nat → Prop} {base N p a B q t : Nat} {R : List ByteArray} {v : Value} {b c : Nat} {u : Option Addr} {k : Nat} {la : Option Addr} {lc : Nat} {d : Dk} (h : Sd w F base N p a B q t R v b c u k la lc d) (kk : Kept (fun _ => False) w w') : Sd w' F base N p a B q t R v b c u k la lc d :=
  { h with cN := h.cN.step kk, oN := h.oN.kept kk, log := h.log.step kk, disk := h.disk.kept kk (fun _ _ z => z), rd := h.rd.step kk, row := own_kept h.row kk }
theorem Sd.same {w : World} {F : Nat → Prop} {base N p a B q t : Nat} {R : List ByteArray} {v : Value} {b c : Nat} {u : Option Addr} {k : Nat} {la : Option Addr} {lc : Nat} {d : Dk} (h : Sd w F base N p a B q t R v b c u k la lc d) (hQ : d.Q.length ≤ 1000000) (hab : a < B) (hB : B ≤ 24) : Calls Try.prog 41 #[.pointer (some ⟨N, 0, none⟩)] w fun e w' => e = .returned (.bool true) ∧ Kept (fun _ => False) w w' := by
  have hRl := len_size R
  have hf := h.fit
  refine side_same h.cN h.log h.disk h.live.off h.rd hQ h.n rfl rfl (by omega) h.row rfl (by omega) ?_
  show (frames t R).toArray.size = _
  rw [List.size_toArray, frames_len]
/-- A call of the law's, as it came in, in a later world. -/
structure Ar (w : World) (base : Nat) (x : Wac) : Prop where
  g : Texts w (.slice x.go x.g.length x.gc) x.g
  gF : x.g ≠ [] → ∀ y, x.go = some y → y.block < base
  k : Ints w (.slice x.ko x.ks.length x.kc) x.ks
  kF : x.ks ≠ [] → ∀ y, x.ko = some y → y.block < base
theorem Ar.kept {w w' : World} {base : Nat} {x : Wac} (h : Ar w base x) (kk : Kept (fun i => base ≤ i) w w') : Ar w' base x := by
  refine ⟨?_, h.gF, ?_, h.kF⟩
  · rcases h.g with q | ⟨b, o, c, e, hc⟩
    · exact .inl q
    · refine .inr ⟨b, o, c, e, fun j hj => kk.cell (hc j hj) (fun z => ?_)⟩
      have hne : x.g ≠ [] := fun e => by rw [e] at hj; exact absurd hj (Nat.not_lt_zero _)
      have := h.gF hne _ (Value.slice.inj e).1
      have z' : base ≤ b := z
      have t' : b < base := this
      omega
  · rcases h.k with q | ⟨b, o, c, e, hc⟩
    · exact .inl q
    · refine .inr ⟨b, o, c, e, fun j hj => kk.cell (hc j hj) (fun z => ?_)⟩
      have hne : x.ks ≠ [] := fun e => by rw [e] at hj; exact absurd hj (Nat.not_lt_zero _)
      have := h.kF hne _ (Value.slice.inj e).1
      have z' : base ≤ b := z
      have t' : b < base := this
      omega
theorem Ar.of {W : World} {x : Wac} (h : x.ok W) : Ar W W.heap.size x := by
  refine ⟨h.g, fun hne y hy => ?_, h.k, fun hne y hy => ?_⟩
  · exact h.g.lt (List.length_pos_iff.2 hne) y hy
  · rcases h.k with ⟨_, _, _, e⟩ | ⟨b, o, c, e, hc⟩
    · exact absurd e hne
    · have h0 := hc 0 (List.length_pos_iff.2 hne)
      have e1 := (Value.slice.inj e).1
      rw [hy] at e1
      cases e1
      exact World.block_lt_of_cell? W _ h0
theorem live_flush {d : Dk} (h : d.live) (hon : d.on = true) : d.flush.live ∧ d.flush.Q = [] ∧ d.flush.S = flushed d.S d.Q ∧ d.flush.n = d.n ∧ d.flush.fuse = (rburn d.fuse false).1 := by
  obtain ⟨h1, h2, h3, h4, h5⟩ := live_write h hon 0 []
  have e : d.flush = { d.burnt with S := flushed d.S d.Q, Q := [] } := by unfold Dk.flush; rw [if_pos hon]
  have e2 : d.write 0 [] = { d.burnt with Q := d.Q ++ [(0, [])] } := by unfold Dk.write; rw [if_pos hon]
  rw [e2] at h1 h5
  rw [e]
  exact ⟨⟨h1.off, h1.lo, h1.hi⟩, rfl, rfl, rfl, h5⟩
theorem dead_flush {d : Dk} (h : d.live) (hon : d.on = false) : d.flush.off = true ∧ d.flush.fuse = -1 ∧ d.flush.Q = d.Q ∧ d.flush.S = d.S ∧ d.flush.n = d.n ∧ (rburn d.fuse false).2.2 = false := by
  have := dead_write h hon 0 []
  have e : d.flush = d.burnt := by unfold Dk.flush; rw [if_neg (by rw [hon]; simp)]
  have e2 : d.write 0 [] = d.burnt := by unfold Dk.write; rw [if_neg (by rw [hon]; simp)]
  rw [e2] at this
  rw [e]
  exact this
theorem Kept.up {base : Nat} {w w' w'' : World} (h : Kept (fun i => base ≤ i) w w') (k : Kept (fun i => base ≤ i) w' w'') : Kept (fun i => base ≤ i) w w'' := h.trans k (fun _ hi => .inl hi)
end Go.Proofs.Ythfhjfemcmdmfaa
