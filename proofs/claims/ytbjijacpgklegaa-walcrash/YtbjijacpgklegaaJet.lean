/- wal: a log whose disk has a fuse. -/
import Derived.Test.YtbjijacpgklegaaHeld
import Derived.Test.YtbjijacpgklegaaTwin
namespace Go.Proofs.Ytbjijacpgklegaa
open Go.ChangeShapes Go.WideShapes Go.ChangeAt Go.RowKit
set_option linter.unusedVariables false
set_option maxRecDepth 100000

theorem add_off {w : World} {F : Nat → Prop} {q p a b t used : Nat} {R : List ByteArray} {v : Value} {d : Dk} (h : LogAt w F q p a b t R used v) (hd : Disk w F p d) (hoff : d.off = true) (hab : a ≤ b) (hb : b ≤ 4096) (ga : Option Addr) (gc : Nat) (g : List ByteArray) (hg : Texts w (.slice ga g.length gc) g) (hl : g.length ≤ 64) (hm : mayG g) (hf : used + sizeG g ≤ 32 * (b - a)) :
    Calls Try.prog 21 #[.pointer (some ⟨q, 0, none⟩), .slice ga g.length gc] w fun e w' => e = .returned (.int .i64 30) ∧ w' = w.drew := by
  have HO := (show Hid _ from isOpen_is _ true w h.opened)
  have HM := (show Hid _ from mayGroup_is ga gc g w hg (fun s hs => by have := hm s hs; omega) (by omega))
  rw [decide_eq_true hm] at HM
  have HZ := (show Hid _ from sizeOf_is ga gc g w hg hm (by omega))
  have HOF : Hid (Calls Try.prog 49 #[.pointer (some ⟨p, 0, none⟩)] w.drew fun e w' => e = .returned (.bool true) ∧ w' = w.drew) := by
    have := disk_off (hd.kept (Kept.refl (fun _ => False) w).drew (fun _ _ z => z))
    rw [hoff] at this
    exact this
  have c0 : w.drew.cell? ⟨q, 0, none⟩ = some (.pointer (some ⟨p, 0, none⟩)) := h.c0
  have c1 := h.c1
  have c2 := h.c2
  have c5 := h.c5
  have er := room_is a b used hab hb (by omega)
  have hfi : ¬ 32 * ((b : Int) - (a : Int)) - (used : Int) < (sizeG g : Int) := by omega
  generalize sizeG g = z at *
  clear h hg hm hd
  go_enter Try.func21, Try.ntmps21
  go_wp2_with fail
  refine Calls.mono HO.out ?_; rintro e w1 ⟨rfl, rfl⟩
  go_wp2_with fail
  refine Calls.mono HM.out ?_; rintro e w1 ⟨rfl, rfl⟩
  go_wp2_with fail
  refine Calls.mono HZ.out ?_; rintro e w1 ⟨rfl, rfl⟩
  go_wp2_with fail
  refine wp_region_still_lit (by kernel_rfl) (by kernel_rfl) ?_
  rw [show ({ w1 with drawn := w1.drawn + 1 } : World) = w1.drew from rfl]
  iterate 17 still_step
  refine wpStill_nil ?_
  obtain ⟨wd, hwd⟩ : ∃ wd, w1.drew = wd := ⟨_, rfl⟩
  have HWD := (show Hid _ from hwd)
  rw [hwd] at c0 HOF ⊢
  clear hwd
  go_wp2_with fail
  refine Calls.mono HOF.out ?_; rintro e w3 ⟨rfl, rfl⟩
  go_wp2_with fail
  go_ret
  exact ⟨rfl, HWD.out.symm⟩

/-- A disk on which some records are sure, in blocks of Z. -/
def Gone (W w : World) (Z : Nat → Prop) (p : Nat) (h : List ByteArray) : Prop :=
  ∃ F d, (∀ k, F k → Z k) ∧ (∀ k, Z k → W.heap.size ≤ k) ∧ Disk w F p d ∧ d.n = 40 ∧ d.Q.length ≤ 1000000 ∧ Sure d (frames 1 h) ∧ Below W.heap.size W w
/-- A log of records g, of which the first m are sure, in blocks of Z. -/
def Jet (W w : World) (Z : Nat → Prop) (q p : Nat) (g : List ByteArray) (m : Nat) : Prop :=
  ∃ F v d, (∀ k, F k → Z k) ∧ Z q ∧ (∀ k, v.ownBlock = some k → Z k) ∧ (∀ k, Z k → W.heap.size ≤ k ∧ k < w.heap.size) ∧ LogAt w F q p 0 40 1 g (sizeG g) v ∧ Disk w F p d ∧ d.n = 40 ∧ d.Q.length ≤ 40 * g.length ∧ Held d (frames 1 g) ∧ Sure d (frames 1 (g.take m)) ∧ Below W.heap.size W w

theorem Jet.gone {W w : World} {Z : Nat → Prop} {q p : Nat} {g : List ByteArray} {m : Nat} (h : Jet W w Z q p g m) (hg : g.length ≤ 64) : Gone W w Z p (g.take m) := by
  obtain ⟨F, v, d, h1, h2, h3, hz, h4, h5, h6, h7, h8, h9, h10⟩ := h
  exact ⟨F, d, h1, fun k hk => (hz k hk).1, h5, h6, by omega, h9, h10⟩
theorem Jet.kept {W w w' : World} {Z G : Nat → Prop} {q p : Nat} {g : List ByteArray} {m : Nat} (h : Jet W w Z q p g m) (k : Kept G w w') (hG : ∀ k, Z k → ¬ G k) (hW : ∀ k, G k → W.heap.size ≤ k) : Jet W w' Z q p g m := by
  obtain ⟨F, v, d, h1, h2, h3, hz, h4, h5, h6, h7, h8, h9, h10⟩ := h
  exact ⟨F, v, d, h1, h2, h3, fun i hi => ⟨(hz i hi).1, Nat.lt_of_lt_of_le (hz i hi).2 k.size⟩, h4.kept k (hG _ h2) (fun i hi => hG _ (h3 i hi)) (fun _ z => .inl z), h5.kept k (fun i hi => hG _ (h1 i hi)), h6, h7, h8, h9, h10.trans (k.below h10.size hW)⟩
theorem Jet.step {W w w' : World} {Z : Nat → Prop} {q p : Nat} {g : List ByteArray} {m : Nat} (h : Jet W w Z q p g m) (k : Kept (fun _ => False) w w') : Jet W w' Z q p g m := h.kept k (fun _ _ z => z) (fun _ z => z.elim)
theorem Gone.step {W w w' : World} {Z : Nat → Prop} {p : Nat} {g : List ByteArray} (h : Gone W w Z p g) (k : Kept (fun _ => False) w w') : Gone W w' Z p g := by
  obtain ⟨F, d, h1, hz, h5, h6, h7, h9, h10⟩ := h
  exact ⟨F, d, h1, hz, h5.kept k (fun _ _ z => z), h6, h7, h9, h10.trans (k.below h10.size (fun _ z => z.elim))⟩

theorem jet_sync {W w : World} {Z : Nat → Prop} {q p : Nat} {g : List ByteArray} {m : Nat} (h : Jet W w Z q p g m) (hg : g.length ≤ 64) :
    Calls Try.prog 22 #[.pointer (some ⟨q, 0, none⟩)] w fun e w' => Kept Z w w' ∧ ((e = .returned (.int .i64 0) ∧ Jet W w' Z q p g g.length) ∨ (e = .returned (.int .i64 30) ∧ Jet W w' Z q p g m)) := by
  obtain ⟨F, v, d, h1, h2, h3, hz, h4, h5, h6, h7, h8, h9, h10⟩ := h
  refine (sync_at h4 h5 (by omega)).mono ?_
  rintro e w' ⟨rfl, d', l', k'⟩
  have hb := h10.trans (k'.below h10.size (fun k hk => (hz k (h1 k hk)).1))
  have hz' : ∀ k, Z k → W.heap.size ≤ k ∧ k < w'.heap.size := fun k hk => ⟨(hz k hk).1, Nat.lt_of_lt_of_le (hz k hk).2 k'.size⟩
  refine ⟨k'.mono h1, ?_⟩
  by_cases hon : d.on = true
  · left
    rw [hon, if_pos rfl]
    refine ⟨rfl, F, v, d.flush, h1, h2, h3, hz', l', d', ?_, ?_, h8.flush_last, ?_, hb⟩
    · unfold Dk.flush; split <;> exact h6
    · unfold Dk.flush; rw [hon]; exact Nat.zero_le _
    · rw [List.take_length]; exact h8.flush hon
  · right
    rw [if_neg hon]
    refine ⟨rfl, F, v, d.flush, h1, h2, h3, hz', l', d', ?_, ?_, h8.flush_last, ?_, hb⟩
    · unfold Dk.flush; split <;> exact h6
    · unfold Dk.flush; rw [if_neg hon]; exact h7
    · unfold Dk.flush; rw [if_neg hon]; exact ⟨h9.s, h9.q⟩

theorem jet_full {W w : World} {Z : Nat → Prop} {q p : Nat} {R : List ByteArray} {m : Nat} (hj : Jet W w Z q p R m) (hs0 : sizeG R ≤ 1280) (ga : Option Addr) (gc : Nat) (g : List ByteArray) (hg : Texts w (.slice ga g.length gc) g) (hm : mayG g) (hl : g.length ≤ 64) (hs : 1280 < sizeG (R ++ g)) :
    Calls Try.prog 21 #[.pointer (some ⟨q, 0, none⟩), .slice ga g.length gc] w fun e w' => e = .returned (.int .i64 2) ∧ Kept (fun _ => False) w w' := by
  obtain ⟨F, v, d, h1, h2, h3, hz, h4, h5, h6, h7, h8, h9, h10⟩ := hj
  rw [sizeG_append] at hs
  refine (add_full h4 (by omega) (by omega) (by omega) ga gc g hg hl hm (by omega)).mono ?_
  rintro e w' ⟨rfl, rfl⟩
  exact ⟨rfl, (Kept.refl _ w).drew⟩

theorem jet_add {W w : World} {Z : Nat → Prop} {q p : Nat} {R : List ByteArray} {m : Nat} (hj : Jet W w Z q p R m) (hmR : m ≤ R.length) (ga : Option Addr) (gc : Nat) (g : List ByteArray) (hg : Texts w (.slice ga g.length gc) g) (hgF : ∀ x, ga = some x → ¬ Z x.block) (hm : mayG g) (h0 : 0 < g.length) (hl : R.length + g.length ≤ 64) (hs : sizeG (R ++ g) ≤ 1280) :
    Calls Try.prog 21 #[.pointer (some ⟨q, 0, none⟩), .slice ga g.length gc] w fun e w' => ∃ Z', Kept Z w w' ∧ (∀ k, Z' k → Z k ∨ w.heap.size ≤ k) ∧ ((e = .returned (.int .i64 0) ∧ Jet W w' Z' q p (R ++ g) m) ∨ (e = .returned (.int .i64 30) ∧ Gone W w' Z' p (R.take m))) := by
  obtain ⟨F, v, d, h1, h2, h3, hz, h4, h5, h6, h7, h8, h9, h10⟩ := id hj
  have hbd := h5.bound
  rw [sizeG_append] at hs
  by_cases hoff : d.off = true
  · refine (add_off h4 h5 hoff (by omega) (by omega) ga gc g hg (by omega) hm (by omega)).mono ?_
    rintro e w' ⟨rfl, rfl⟩
    have k1 := (Kept.refl (fun _ => False) w).drew
    exact ⟨Z, k1.mono (fun _ z => z.elim), fun _ z => .inl z, .inr ⟨rfl, (hj.gone (by omega)).step k1⟩⟩
  · have hz0 : 0 < sizeG g := by
      cases hgg : g with
      | nil => rw [hgg] at h0; cases h0
      | cons x r => unfold sizeG; omega
    have hoff' : d.off = false := by simpa using hoff
    refine (add_is h4 h5 hoff' (by omega) (by omega) (by omega) (by omega) ga gc g hg (fun y n c e z => ?_) (by omega) hm hz0 (by omega) (by omega)).mono ?_
    · cases e
      exact hgF y rfl (h1 _ z)
    · rintro e w' ⟨c, rfl, F', y1, y2, y3, y4⟩
      have hfz : (⟨(frames 1 g).toArray⟩ : ByteArray).size = sizeG g := frames_len 1 g
      have hfl := frames_len 1 R
      have hK : Kept Z w w' := y1.mono (fun k hk => by
        rcases hk with hk | rfl | hk
        · exact h1 k hk
        · exact h2
        · exact h3 k hk)
      have hF' : ∀ k, F' k → Z k ∨ w.heap.size ≤ k := fun k hk => (y2 k hk).imp (h1 k) id
      have hW' : ∀ k, (Z k ∨ w.heap.size ≤ k) → W.heap.size ≤ k := fun k hk => hk.elim (fun z => (hz k z).1) (fun z => Nat.le_trans h10.size z)
      have hb : Below W.heap.size W w' := h10.trans (hK.below h10.size (fun k hk => (hz k hk).1))
      have hmn := many_le (sizeG R) (sizeG g) (by omega) hz0
      have hsu := Sure.puts h9 h5 40 (sizeG R) (by rw [frames_len]; have := sizeG_append (R.take m) (R.drop m); rw [List.take_append_drop] at this; omega) ⟨(frames 1 g).toArray⟩ (by rw [hfz]; exact hz0) (by rw [hfz]; omega) (by omega) (by omega)
      rw [hfz] at hsu
      by_cases hc : c = 0
      · subst hc
        obtain ⟨on, z2, v', z3, z4⟩ := y3 rfl
        have hh := h8.add h5 40 ⟨(frames 1 g).toArray⟩ (by rw [hfz]; exact hz0) (by rw [hfz, hfl]; omega) (by omega) (by omega) (by rw [hfz, hfl]; exact on)
        rw [hfl, hfz, ← frames_append] at hh
        have hall : ∀ k, (F' k ∨ k = q ∨ v'.ownBlock = some k) → Z k ∨ w.heap.size ≤ k := by
          rintro i (hi | rfl | hi)
          · exact hF' i hi
          · exact .inl h2
          · exact (z4 i hi).imp (h3 i) id
        refine ⟨fun k => F' k ∨ k = q ∨ v'.ownBlock = some k, hK, hall, .inl ⟨rfl, F', v', _, fun _ z => .inl z, .inr (.inl rfl), fun _ z => .inr (.inr z), fun k hk => ⟨hW' k (hall k hk), ?_⟩, by rw [sizeG_append]; exact z3, z2, by rw [puts_n]; exact h6, ?_, hh, ?_, hb⟩⟩
        · rcases hk with hi | rfl | hi
          · exact z2.bound k hi
          · exact World.block_lt_of_cell? w' _ z3.c0
          · exact (z3.own.lt k hi).2
        · have := puts_q d (0 + sizeG R / 32) (leftS d 0 (sizeG R) ⟨(frames 1 g).toArray⟩).data.toList (manyS (sizeG R) (sizeG g))
          rw [List.length_append]
          omega
        · rw [List.take_append_of_le_length hmR]
          exact hsu _ (Nat.le_refl _)
      · obtain ⟨rfl, ⟨k, hk, _, _, z2⟩, _⟩ := y4 hc
        have := puts_q d (0 + sizeG R / 32) (leftS d 0 (sizeG R) ⟨(frames 1 g).toArray⟩).data.toList (k + 1)
        exact ⟨F', hK, hF', .inr ⟨rfl, F', _, fun _ z => z, fun k hk => hW' k (hF' k hk), z2, by rw [puts_n]; exact h6, by omega, hsu _ (by omega), hb⟩⟩
end Go.Proofs.Ytbjijacpgklegaa
