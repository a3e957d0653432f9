/- wal: a new log, and a fuse. -/
import Derived.Test.YtbjijacpgklegaaChance
namespace Go.Proofs.Ytbjijacpgklegaa
open Go.ChangeShapes Go.WideShapes Go.ChangeAt Go.RowKit
set_option linter.unusedVariables false
set_option maxRecDepth 100000

theorem jet_open {W w : World} {F : Nat → Prop} {p : Nat} (hd : Disk w F p (fresh 40)) (hF : ∀ k, F k → W.heap.size ≤ k) (hb : Below W.heap.size W w) :
    Calls Try.prog 16 #[.pointer (some ⟨p, 0, none⟩), .int .i64 0, .int .i64 40, .int .i64 1] w fun e w' => ∃ q Z, e = .returned (.tuple #[.pointer (some ⟨q, 0, none⟩), .int .i64 0]) ∧ Jet W w' Z q p [] 0 := by
  have := open_on hd rfl 0 40 1 (by omega) (Nat.le_refl 40) (by omega)
  rw [cat_new] at this
  refine this.mono ?_
  rintro e w' ⟨q, v, rfl, l, k, hq, hv⟩
  refine ⟨q, fun k => F k ∨ k = q ∨ v.ownBlock = some k, rfl, F, v, fresh 40, fun _ z => .inl z, .inr (.inl rfl), fun _ z => .inr (.inr z), ?_, l, hd.kept k (fun _ _ z => z), rfl, Nat.zero_le _, held_none _, sure_none _ (fun e he => by cases he), hb.trans (k.below hb.size (fun _ z => z.elim))⟩
  rintro i (hi | rfl | hi)
  · exact ⟨hF i hi, Nat.lt_of_lt_of_le (hd.bound i hi) k.size⟩
  · exact ⟨Nat.le_trans hb.size hq, World.block_lt_of_cell? w' _ l.c0⟩
  · exact ⟨Nat.le_trans hb.size (hv i hi), (l.own.lt i hi).2⟩
theorem jet_fuse {W w : World} {Z : Nat → Prop} {q p : Nat} {g : List ByteArray} {m : Nat} (h : Jet W w Z q p g m) (n : Int) (hn : n ≤ 9223372036854775807) :
    Calls Try.prog 20 #[.pointer (some ⟨p, 0, none⟩), .int .i64 n] w fun e w' => e = .returned (.int .i64 0) ∧ Jet W w' Z q p g m ∧ Kept Z w w' := by
  obtain ⟨F, v, d, h1, h2, h3, hz, h4, h5, h6, h7, h8, h9, h10⟩ := h
  refine (disk_fuse h5 n hn).mono ?_
  rintro e w' ⟨rfl, d', k'⟩
  exact ⟨rfl, ⟨F, v, d.setFuse n, h1, h2, h3, fun i hi => ⟨(hz i hi).1, Nat.lt_of_lt_of_le (hz i hi).2 k'.size⟩, h4.kept k' h4.fq (fun i hi => (h4.fv i hi).1) (fun _ z => .inl z), d', h6, h7, h8, ⟨h9.s, h9.q⟩, h10.trans (k'.below h10.size (fun k hk => (hz k (h1 k hk)).1))⟩, k'.mono h1⟩

theorem texts_one (w : World) (s : ByteArray) : Texts (w.alloc (.cells #[.string s] 9)) (.slice (some ⟨w.heap.size, 0, none⟩) [s].length 1) [s] := by
  refine .inr ⟨w.heap.size, 0, 1, rfl, fun k hk => ?_⟩
  obtain rfl : k = 0 := by have : k < 1 := hk; omega
  simp

/-- A log, and a list of texts of the caller's own beside it. -/
def Ship (W w : World) (q p : Nat) (va : Value) (l g : List ByteArray) (m : Nat) : Prop :=
  ∃ Z, Jet W w Z q p g m ∧ w.ownsRow W.heap.size 9 1 va l.length (sv l) ∧ ∀ k, va.ownBlock = some k → ¬ Z k
/-- A disk, and a list of texts of the caller's own beside it. -/
def Wreck (W w : World) (p : Nat) (va : Value) (l h : List ByteArray) : Prop :=
  ∃ Z, Gone W w Z p h ∧ w.ownsRow W.heap.size 9 1 va l.length (sv l) ∧ ∀ k, va.ownBlock = some k → ¬ Z k

theorem Ship.wreck {W w : World} {q p : Nat} {va : Value} {l g : List ByteArray} {m : Nat} (h : Ship W w q p va l g m) (hg : g.length ≤ 64) : Wreck W w p va l (g.take m) := by
  obtain ⟨Z, j, o, a⟩ := h
  exact ⟨Z, j.gone hg, o, a⟩
theorem Ship.bel {W w : World} {q p : Nat} {va : Value} {l g : List ByteArray} {m : Nat} (h : Ship W w q p va l g m) : Below W.heap.size W w := by
  obtain ⟨Z, ⟨F, v, d, h1, h2, h3, hz, h4, h5, h6, h7, h8, h9, h10⟩, _⟩ := h
  exact h10
theorem Ship.form {W w : World} {q p : Nat} {va : Value} {l g : List ByteArray} {m : Nat} (h : Ship W w q p va l g m) : ∃ a c, va = .slice a l.length c := by
  obtain ⟨Z, j, o, a⟩ := h
  rcases o.2 with ⟨rfl, h0⟩ | ⟨g, cap, cur, rfl, _⟩
  · exact ⟨none, 0, by rw [h0]⟩
  · exact ⟨_, cap, rfl⟩
theorem jet_ship {W w : World} {Z : Nat → Prop} {q p : Nat} {g : List ByteArray} {m : Nat} (h : Jet W w Z q p g m) : Ship W w q p (.slice none 0 0) [] g m :=
  ⟨Z, h, World.ownsRow_nil w _ 9 1, fun k hk => by cases hk⟩

theorem ship_append {W w : World} {q p : Nat} {va : Value} {l g : List ByteArray} {m : Nat} (h : Ship W w q p va l g m) (r : ByteArray) (hs : l.length < 1048576) :
    ∃ v' w', (Builtin.append_ #[26, 26] 26 #[va, .slice (some ⟨w.heap.size, 0, none⟩) 1 1]).run Try.prog (w.alloc (.cells #[.string r] 9)) = .ok v' w' ∧ Ship W w' q p v' (l ++ [r]) g m := by
  have hb := h.bel
  obtain ⟨Z, j, o, a⟩ := h
  have hz : ∀ k, Z k → k < w.heap.size := by
    obtain ⟨F, v, d, h1, h2, h3, hz, _⟩ := j
    exact fun k hk => (hz k hk).2
  obtain ⟨v', w', a1, a2, a3, a4⟩ := append_strs (o.alloc (.cells #[.string r] 9)) w.heap.size 0 1 [r] (fun k hk => by
    have : k = 0 := by simpa using hk
    subst this
    simp) (by simp; omega) (Nat.le_trans hb.size (by simp))
  have k1 : Kept (fun k => va.ownBlock = some k) w w' := ((Kept.refl _ w).alloc _).grown a3 (fun k hk => .inl hk)
  refine ⟨v', w', a1, Z, j.kept k1 (fun k hz hv => a k hv hz) (fun k hk => (World.ownsRow.lt o k hk).1), a2, fun k hk z => ?_⟩
  rcases a4 k hk with e | e
  · exact a k e z
  · have := hz k z
    simp at e
    omega

theorem ship_one {W w : World} {q p : Nat} {va : Value} {l g : List ByteArray} {m : Nat} (h : Ship W w q p va l g m) (hmR : m ≤ g.length) (s : ByteArray) (hm : s.size ≠ 0 ∧ s.size ≤ 1024) (hl : g.length ≤ 32) (hg : sizeG g ≤ 1280) :
    Calls Try.prog 21 #[.pointer (some ⟨q, 0, none⟩), .slice (some ⟨w.heap.size, 0, none⟩) 1 1] (w.alloc (.cells #[.string s] 9)) fun e w' => (e = .returned (.int .i64 0) ∧ Ship W w' q p va l (g ++ [s]) m ∧ sizeG (g ++ [s]) ≤ 1280) ∨ ∃ c : Int, (c == 0) = false ∧ e = .returned (.int .i64 c) ∧ Wreck W w' p va l (g.take m) := by
  obtain ⟨Z, j, o, a⟩ := h
  have k1 : Kept (fun _ => False) w (w.alloc (.cells #[.string s] 9)) := (Kept.refl _ w).alloc _
  have hz : ∀ k, Z k → k < w.heap.size := by
    obtain ⟨F, v, d, h1, h2, h3, hz, _⟩ := j
    exact fun k hk => (hz k hk).2
  have j1 := j.step k1
  have o1 := o.alloc (.cells #[.string s] 9)
  have ht := texts_one w s
  have hm' : mayG [s] := fun x hx => by obtain rfl := List.mem_singleton.1 hx; exact hm
  by_cases hf : sizeG (g ++ [s]) ≤ 1280
  · refine (jet_add j1 hmR (some ⟨w.heap.size, 0, none⟩) 1 [s] ht (fun x hx z => by cases hx; have := hz _ z; simp at this) hm' (by simp) (by show _ + 1 ≤ 64; omega) hf).mono ?_
    rintro e w' ⟨Z', kz, hz', hh⟩
    have o2 := ownsRow_kept o1 (fun i hi => kz.block i (World.ownsRow.lt o1 i hi).2 (a i hi))
    have a2 : ∀ k, va.ownBlock = some k → ¬ Z' k := fun k hk z => (hz' k z).elim (a k hk) (fun q => by have := (World.ownsRow.lt o k hk).2; simp at q; omega)
    rcases hh with ⟨rfl, jj⟩ | ⟨rfl, gg⟩
    · exact .inl ⟨rfl, ⟨Z', jj, o2, a2⟩, hf⟩
    · exact .inr ⟨30, by decide, rfl, Z', gg, o2, a2⟩
  · refine (jet_full j1 hg (some ⟨w.heap.size, 0, none⟩) 1 [s] ht hm' (by simp) (by omega)).mono ?_
    rintro e w' ⟨rfl, k2⟩
    exact .inr ⟨2, by decide, rfl, Z, (j1.step k2).gone (by omega), ownsRow_kept o1 (fun i hi => k2.block i (World.ownsRow.lt o1 i hi).2 (fun z => z)), a⟩

theorem ship_sync {W w : World} {q p : Nat} {va : Value} {l g : List ByteArray} {m : Nat} (h : Ship W w q p va l g m) (hg : g.length ≤ 64) :
    Calls Try.prog 22 #[.pointer (some ⟨q, 0, none⟩)] w fun e w' => (e = .returned (.int .i64 0) ∧ Ship W w' q p va l g g.length) ∨ (e = .returned (.int .i64 30) ∧ Ship W w' q p va l g m) := by
  obtain ⟨Z, j, o, a⟩ := h
  refine (jet_sync j hg).mono ?_
  rintro e w' ⟨kz, hh⟩
  have o2 := ownsRow_kept o (fun i hi => kz.block i (World.ownsRow.lt o i hi).2 (a i hi))
  rcases hh with ⟨rfl, jj⟩ | ⟨rfl, jj⟩
  · exact .inl ⟨rfl, Z, jj, o2, a⟩
  · exact .inr ⟨rfl, Z, jj, o2, a⟩

theorem own_texts2 {w : World} {base : Nat} {va : Value} {l : List ByteArray} (o : w.ownsRow base 9 1 va l.length (sv l)) : ∃ a c, va = .slice a l.length c ∧ Texts w (.slice a l.length c) l := by
  by_cases h0 : l.length = 0
  · have hl : l = [] := List.eq_nil_of_length_eq_zero h0
    subst hl
    rcases o.2 with ⟨rfl, _⟩ | ⟨g, cap, cur, rfl, _⟩
    · exact ⟨none, 0, rfl, .inl ⟨_, _, rfl, rfl⟩⟩
    · exact ⟨_, cap, rfl, .inl ⟨_, _, rfl, rfl⟩⟩
  · obtain ⟨g, cap, rfl⟩ : ∃ g cap, va = .slice (some ⟨g, 0, none⟩) l.length cap := by
      rcases o.2 with ⟨_, h⟩ | ⟨g, cap, cur, rfl, _⟩
      · exact absurd h h0
      · exact ⟨g, cap, rfl⟩
    refine ⟨_, cap, rfl, .inr ⟨g, 0, cap, rfl, fun k hk => ?_⟩⟩
    rw [Nat.zero_add, o.cellAt k (by omega)]
    simp [sv, hk]

theorem Ints.below {W w : World} {u : Value} {ks : List Int} (h : Ints W u ks) (b : Below W.heap.size W w) : Ints w u ks := by
  rcases h with h | ⟨bb, o, cc, e, hc⟩
  · exact .inl h
  · exact .inr ⟨bb, o, cc, e, fun k hk => (b.cell (p := ⟨bb, o + k, none⟩) (World.block_lt_of_cell? W _ (hc k hk))).trans (hc k hk)⟩
theorem wreck_crash {W w : World} {p : Nat} {va : Value} {l h : List ByteArray} (hw : Wreck W w p va l h) (u : Value) (ks : List Int) (hu : Ints W u ks) (hlt : ∀ a n c, u = .slice (some a) n c → a.block < W.heap.size) (hkl : ks.length ≤ 9223372036854775807) :
    Calls Try.prog 23 #[.pointer (some ⟨p, 0, none⟩), u] w fun e w' => e = .returned (.int .i64 0) ∧ After W w' p h ∧ ∃ a c, va = .slice a l.length c ∧ Texts w' (.slice a l.length c) l := by
  obtain ⟨Z, g, o, a⟩ := hw
  have hb : Below W.heap.size W w := by
    obtain ⟨F, d, h1, hz, h5, h6, h7, h9, h10⟩ := g
    exact h10
  refine (gone_crash g u ks (hu.below hb) hlt hkl).mono ?_
  rintro e w' ⟨rfl, af, kz⟩
  exact ⟨rfl, af, own_texts2 (ownsRow_kept o (fun i hi => kz.block i (World.ownsRow.lt o i hi).2 (a i hi)))⟩

/-- What WalCrash finds behind its loop. -/
def Sunk (W w : World) (p : Nat) (va : Value) (l : List ByteArray) (m : Nat) : Prop := Wreck W w p va l (l.take m) ∧ m ≤ l.length ∧ l.length ≤ 20 ∧ mayG l ∧ sizeG (l.take m) ≤ 1280
/-- The records behind the crash. -/
def Risen (W w : World) (a : Option Addr) (c : Nat) (b : Option Addr) (e : Nat) (l z : List ByteArray) (m : Nat) : Prop :=
  Texts w (.slice a l.length c) l ∧ Texts w (.slice b z.length e) z ∧ z.take m = l.take m ∧ m ≤ z.length ∧ m ≤ l.length ∧ z.length ≤ 1280 ∧ l.length ≤ 20 ∧ mayG z ∧ mayG l ∧ Below W.heap.size W w
theorem sunk_crash {W w : World} {p : Nat} {va : Value} {l : List ByteArray} {m : Nat} (hw : Sunk W w p va l m) (u : Value) (ks : List Int) (hu : Ints W u ks) (hlt : ∀ a n c, u = .slice (some a) n c → a.block < W.heap.size) (hkl : ks.length ≤ 9223372036854775807) :
    Calls Try.prog 23 #[.pointer (some ⟨p, 0, none⟩), u] w fun e w' => e = .returned (.int .i64 0) ∧
      Calls Try.prog 16 #[.pointer (some ⟨p, 0, none⟩), .int .i64 0, .int .i64 40, .int .i64 1] w' fun e w' => ∃ q, e = .returned (.tuple #[.pointer (some ⟨q, 0, none⟩), .int .i64 0]) ∧
        Calls Try.prog 24 #[.pointer (some ⟨q, 0, none⟩)] w' fun e' w' => ∃ a c b e z, va = .slice a l.length c ∧ e' = .returned (.slice b z.length e) ∧ Risen W w' a c b e l z m := by
  obtain ⟨s1, s2, s3, s4, s5⟩ := hw
  refine (wreck_crash s1 u ks hu hlt hkl).mono ?_
  rintro e w' ⟨rfl, af, a, c, rfl, tx⟩
  have hm : mayG (l.take m) := fun x hx => s4 x (List.mem_of_mem_take hx)
  refine ⟨rfl, (after_open af hm s5).mono ?_⟩
  rintro e w2 ⟨q, F, z, u, v, rfl, la, h1, h2, h3, h4, h5, h6⟩
  have hl : (l.take m).length = m := by rw [List.length_take]; omega
  rw [hl] at h1 h2
  refine ⟨q, rfl, (records_at la (by omega)).mono ?_⟩
  rintro e w3 ⟨v', rfl, oz, k3⟩
  obtain ⟨b, cc, rfl, tz⟩ := own_texts2 oz
  exact ⟨a, c, b, cc, z, rfl, rfl, (tx.kept h6 (fun _ _ _ _ z => z)).kept k3 (fun _ _ _ _ z => z), tz, h1, h2, s2, h3, s3, h4, s4, h5.trans (k3.below h5.size (fun _ z => z.elim))⟩
theorem Risen.step {W w w' : World} {a b : Option Addr} {c e : Nat} {l z : List ByteArray} {m : Nat} (h : Risen W w a c b e l z m) (k : Kept (fun _ => False) w w') : Risen W w' a c b e l z m := by
  obtain ⟨h1, h2, h3, h4, h5, h6, h7, h8, h9, h10⟩ := h
  exact ⟨h1.kept k (fun _ _ _ _ z => z), h2.kept k (fun _ _ _ _ z => z), h3, h4, h5, h6, h7, h8, h9, h10.trans (k.below h10.size (fun _ z => z.elim))⟩
theorem Risen.chance {W w : World} {a b : Option Addr} {c e : Nat} {l z : List ByteArray} {m : Nat} (h : Risen W w a c b e l z m) (k : Nat) (hk : k < z.length) (hne : ∀ (h1 : k < z.length) (h2 : k < l.length), z[k] ≠ l[k]) :
    m ≤ k ∧ Calls Try.prog 25 #[.slice a l.length c, .slice b z.length e, .int .i64 (k : Int)] w fun en w' => en = .returned (.bool true) ∧ Risen W w' a c b e l z m := by
  have h0 := h
  obtain ⟨h1, h2, h3, h4, h5, h6, h7, h8, h9, h10⟩ := h
  refine ⟨?_, (chance_is a b c e l z k w h1 h2 hk (by omega) (by omega) h8 h9 (fun q => hne hk q)).mono ?_⟩
  · by_cases hm : m ≤ k
    · exact hm
    · exfalso
      have e1 : (z.take m)[k]? = (l.take m)[k]? := by rw [h3]
      rw [List.getElem?_take_of_lt (by omega), List.getElem?_take_of_lt (by omega), List.getElem?_eq_getElem hk, List.getElem?_eq_getElem (show k < l.length by omega)] at e1
      exact hne hk (by omega) (Option.some.inj e1)
  · rintro en w' ⟨rfl, k1⟩
    exact ⟨rfl, h0.step k1⟩
end Go.Proofs.Ytbjijacpgklegaa
