/- wal: a log upon a new disk, told by its records alone. -/
import Derived.Test.YthfhjfemcmdmfaaByte
import Derived.Test.YthfhjfemcmdmfaaAwake
namespace Go.Proofs.Ythfhjfemcmdmfaa
open Go.ChangeShapes Go.WideShapes Go.ChangeAt Go.RowKit
set_option linter.unusedVariables false
set_option maxRecDepth 100000

theorem add_none {w : World} {F : Nat → Prop} {q p a b t used : Nat} {R : List ByteArray} {v : Value} {d : Dk} (h : LogAt w F q p a b t R used v) (hd : Disk w F p d) (hoff : d.off = false) (hab : a ≤ b) (hb : b ≤ 4096) (hu : used ≤ 32 * (b - a)) (ga : Option Addr) (gc : Nat) :
    Calls Try.prog 21 #[.pointer (some ⟨q, 0, none⟩), .slice ga 0 gc] w fun e w' => e = .returned (.int .i64 0) ∧ w' = w.drew := by
  have HO := (show Hid _ from isOpen_is _ true w h.opened)
  have hg : Texts w (.slice ga ([] : List ByteArray).length gc) [] := .inl ⟨_, _, rfl, rfl⟩
  have HM : Hid (Calls Try.prog 47 #[.slice ga 0 gc] w fun e w' => e = .returned (.bool true) ∧ w' = w) := by
    have := mayGroup_is ga gc [] w hg (fun s hs => by cases hs) (by simp)
    rw [decide_eq_true (show mayG [] from fun s hs => by cases hs)] at this
    exact this
  have HZ : Hid (Calls Try.prog 48 #[.slice ga 0 gc] w fun e w' => e = .returned (.int .i64 0) ∧ w' = w) := sizeOf_is ga gc [] w hg (fun s hs => by cases hs) (by simp)
  have HOF : Hid (Calls Try.prog 49 #[.pointer (some ⟨p, 0, none⟩)] w.drew fun e w' => e = .returned (.bool false) ∧ w' = w.drew) := by
    have := disk_off (hd.kept (Kept.refl (fun _ => False) w).drew (fun _ _ z => z))
    rw [hoff] at this
    exact this
  have c0 : w.drew.cell? ⟨q, 0, none⟩ = some (.pointer (some ⟨p, 0, none⟩)) := h.c0
  have c1 := h.c1
  have c2 := h.c2
  have c5 := h.c5
  have er := room_is a b used hab hb (by omega)
  have hfi : ¬ 32 * ((b : Int) - (a : Int)) - (used : Int) < 0 := by omega
  clear h hg hd
  go_enter Try.func21, Try.ntmps21
  go_wp2_with fail
  refine Calls.mono HO.out ?_; rintro e w1 ⟨rfl, rfl⟩
  go_wp2_with fail
  refine Calls.mono HM.out ?_; rintro e w1 ⟨rfl, rfl⟩
  go_wp2_with fail
  refine Calls.mono HZ.out ?_; rintro e w1 ⟨rfl, rfl⟩
  go_wp2_with fail
  refine wp_region_still_lit (by kernel_rfl) (by kernel_rfl) ?_
  rw [show ({ w1 with drawn := w1.drawn + 1 } : World) = w1.drew from rfl]
  iterate 17 still_step
  refine wpStill_nil ?_
  obtain ⟨wd, hwd⟩ : ∃ wd, w1.drew = wd := ⟨_, rfl⟩
  have HWD := (show Hid _ from hwd)
  rw [hwd] at c0 HOF ⊢
  clear hwd
  go_wp2_with fail
  refine Calls.mono HOF.out ?_; rintro e w3 ⟨rfl, rfl⟩
  go_wp2_with fail
  go_ret
  exact ⟨rfl, HWD.out.symm⟩

/-- A log of so many records upon a new disk of 40 sectors, in blocks of Z. -/
def Rig (w : World) (Z : Nat → Prop) (q p : Nat) (g : List ByteArray) : Prop :=
  ∃ F v d, (∀ k, F k → Z k) ∧ Z q ∧ (∀ k, v.ownBlock = some k → Z k) ∧ (∀ k, Z k → k < w.heap.size) ∧ LogAt w F q p 0 40 1 g (sizeG g) v ∧ Disk w F p d ∧ d.calm ∧ d.n = 40 ∧ d.Q.length ≤ 40 * g.length ∧ Over (fresh 40) d 0 0 (frames 1 g)

theorem Rig.kept {w w' : World} {Z G : Nat → Prop} {q p : Nat} {g : List ByteArray} (h : Rig w Z q p g) (k : Kept G w w') (hG : ∀ k, Z k → ¬ G k) : Rig w' Z q p g := by
  obtain ⟨F, v, d, h1, h2, h3, h4, h5, h6, h7⟩ := h
  exact ⟨F, v, d, h1, h2, h3, fun i hi => Nat.lt_of_lt_of_le (h4 i hi) k.size, h5.kept k (hG _ h2) (fun i hi => hG _ (h3 i hi)) (fun _ z => .inl z), h6.kept k (fun i hi => hG _ (h1 i hi)), h7⟩

theorem cat_len0 : (cat (fresh 40) 0 40).length = 1280 := by decide +kernel
theorem cat_end : endOf ⟨(cat (fresh 40) 0 40).toArray⟩ = 10 := by decide +kernel
theorem rec_new (s : ByteArray) (h : endOf s = 10) : recOf 1 s = none := by
  unfold recOf
  rw [h, if_neg]
  rintro ⟨h1, h2, h3, _⟩
  exact h3.2.1 (by simp)
theorem cat_new : scanS ((1 : Nat) : Int) ⟨(cat (fresh 40) 0 (40 - 0)).toArray⟩ = ([], 0) := by
  have e := rec_new _ cat_end
  rw [show (40 - 0 : Nat) = 40 from rfl]
  generalize (⟨(cat (fresh 40) 0 40).toArray⟩ : ByteArray) = s at *
  unfold scanS
  refine scanG_none _ _ _ _ ?_
  have h0 : s.extract 0 s.size = s := by
    apply ByteArray.ext
    apply Array.toList_inj.1
    rw [ext_list, List.drop_zero, List.take_of_length_le (by simp)]
  rw [h0]
  exact e

theorem rig_open {w : World} {F : Nat → Prop} {p : Nat} (hd : Disk w F p (fresh 40)) :
    Calls Try.prog 16 #[.pointer (some ⟨p, 0, none⟩), .int .i64 0, .int .i64 40, .int .i64 1] w fun e w' => ∃ q Z, e = .returned (.tuple #[.pointer (some ⟨q, 0, none⟩), .int .i64 0]) ∧ Rig w' Z q p [] ∧ Kept (fun _ => False) w w' ∧ ∀ k, Z k → F k ∨ w.heap.size ≤ k := by
  have := open_on hd rfl 0 40 1 (by omega) (Nat.le_refl 40) (by omega)
  rw [cat_new] at this
  refine this.mono ?_
  rintro e w' ⟨q, v, rfl, l, k, hq, hv⟩
  refine ⟨q, fun k => F k ∨ k = q ∨ v.ownBlock = some k, rfl, ⟨F, v, fresh 40, fun _ z => .inl z, .inr (.inl rfl), fun _ z => .inr (.inr z), ?_, l, hd.kept k (fun _ _ z => z), ⟨rfl, rfl⟩, rfl, Nat.zero_le _, over_refl _ _ _⟩, k, ?_⟩
  · rintro i (hi | rfl | hi)
    · exact Nat.lt_of_lt_of_le (hd.bound i hi) k.size
    · exact World.block_lt_of_cell? w' _ l.c0
    · exact (l.own.lt i hi).2
  · rintro i (hi | rfl | hi)
    · exact .inl hi
    · exact .inr hq
    · exact .inr (hv i hi)

theorem many_le (u n : Nat) (h : u + n ≤ 1280) (hn : 0 < n) : manyS u n ≤ 40 := by unfold manyS; omega

theorem rig_add {w : World} {Z : Nat → Prop} {q p : Nat} {R : List ByteArray} (h : Rig w Z q p R) (ga : Option Addr) (gc : Nat) (g : List ByteArray) (hg : Texts w (.slice ga g.length gc) g) (hgZ : 0 < g.length → ∀ x, ga = some x → ¬ Z x.block) (hm : mayG g) (hl : R.length + g.length ≤ 64) (hs : sizeG (R ++ g) ≤ 1280) :
    Calls Try.prog 21 #[.pointer (some ⟨q, 0, none⟩), .slice ga g.length gc] w fun e w' => e = .returned (.int .i64 0) ∧ ∃ Z', Rig w' Z' q p (R ++ g) ∧ Kept Z w w' ∧ ∀ k, Z' k → Z k ∨ w.heap.size ≤ k := by
  obtain ⟨F, v, d, h1, h2, h3, h4, h5, h6, h7, h8, h9, h10⟩ := id h
  rw [sizeG_append] at hs
  cases hgg : g with
  | nil =>
    refine (add_none h5 h6 h7.2 (by omega) (by omega) (by omega) ga gc).mono ?_
    rintro e w' ⟨rfl, rfl⟩
    rw [List.append_nil]
    have k1 := (Kept.refl (fun _ => False) w).drew
    exact ⟨rfl, Z, h.kept k1 (fun _ _ z => z), k1.mono (fun _ z => z.elim), fun _ z => .inl z⟩
  | cons x r =>
    rw [← hgg]
    have h0 : 0 < sizeG g := by rw [hgg]; unfold sizeG; omega
    have hlen : 0 < g.length := by rw [hgg]; simp
    refine (add_is h5 h6 h7.2 (by omega) (by omega) (by omega) (by omega) ga gc g hg (fun y n c e z => ?_) (by omega) hm h0 (by omega) (by omega)).mono ?_
    · cases e
      exact hgZ hlen y rfl (h1 _ z)
    · rintro e w' ⟨c, rfl, F', y1, y2, y3, y4⟩
      have hc : c = 0 := by
        by_cases hc : c = 0
        · exact hc
        · obtain ⟨_, ⟨k, hk, _, hof, _⟩, _⟩ := y4 hc
          rw [calm_on (calm_puts h7 _ _ _)] at hof
          cases hof
      subst hc
      obtain ⟨_, z2, v', z3, z4⟩ := y3 rfl
      have hfz : (⟨(frames 1 g).toArray⟩ : ByteArray).size = sizeG g := frames_len 1 g
      have hov := over_add h10 h6 h7 h8 40 ⟨(frames 1 g).toArray⟩ (by rw [hfz]; exact h0) (by rw [hfz, frames_len]; omega) (by omega) (by omega)
      rw [frames_len, Nat.zero_add (sizeG R), hfz, ← frames_append] at hov
      refine ⟨rfl, fun k => F' k ∨ k = q ∨ v'.ownBlock = some k, ⟨F', v', _, fun _ z => .inl z, .inr (.inl rfl), fun _ z => .inr (.inr z), ?_, by rw [sizeG_append]; exact z3, z2, calm_puts h7 _ _ _, ?_, ?_, hov⟩, y1.mono ?_, ?_⟩
      · rintro i (hi | rfl | hi)
        · exact z2.bound i hi
        · exact World.block_lt_of_cell? w' _ z3.c0
        · exact (z3.own.lt i hi).2
      · rw [puts_n]; exact h8
      · have := puts_q d (0 + sizeG R / 32) (leftS d 0 (sizeG R) ⟨(frames 1 g).toArray⟩).data.toList (manyS (sizeG R) (sizeG g))
        have := many_le (sizeG R) (sizeG g) (by omega) h0
        rw [List.length_append]
        omega
      · rintro i (hi | rfl | hi)
        · exact h1 i hi
        · exact h2
        · exact h3 i hi
      · rintro i (hi | rfl | hi)
        · exact (y2 i hi).imp (h1 i) id
        · exact .inl h2
        · exact (z4 i hi).imp (h3 i) id

theorem rig_used {w : World} {Z : Nat → Prop} {q p : Nat} {g : List ByteArray} (h : Rig w Z q p g) : Calls Try.prog 26 #[.pointer (some ⟨q, 0, none⟩)] w fun e w' => e = .returned (.int .i64 (sizeG g : Int)) ∧ w' = w := by
  obtain ⟨F, v, d, h1, h2, h3, h4, h5, h6, h7⟩ := h
  exact used_at h5
theorem rig_records {w : World} {Z : Nat → Prop} {q p : Nat} {g : List ByteArray} (h : Rig w Z q p g) (hl : g.length ≤ 64) :
    Calls Try.prog 24 #[.pointer (some ⟨q, 0, none⟩)] w fun e w' => ∃ va vc, e = .returned (.slice va g.length vc) ∧ Texts w' (.slice va g.length vc) g ∧ Kept (fun _ => False) w w' := by
  obtain ⟨F, v, d, h1, h2, h3, h4, h5, h6, h7⟩ := h
  refine (records_at h5 (by omega)).mono ?_
  rintro e w' ⟨v', rfl, o, k⟩
  obtain ⟨va, vc, rfl⟩ := own_form o
  exact ⟨va, vc, rfl, own_texts o, k⟩
/-- Two logs of the same records have the same bytes. -/
theorem rig_read {w : World} {Z Y : Nat → Prop} {q p q' p' : Nat} {g : List ByteArray} (h : Rig w Z q p g) (h' : Rig w Y q' p' g) (i : Nat) (hi : i < 40) :
    ∃ s : ByteArray, (Calls Try.prog 27 #[.pointer (some ⟨p, 0, none⟩), .int .i64 (i : Int)] w fun e w' => e = .returned (.tuple #[.string s, .int .i64 0]) ∧ w' = w) ∧ Calls Try.prog 27 #[.pointer (some ⟨p', 0, none⟩), .int .i64 (i : Int)] w fun e w' => e = .returned (.tuple #[.string s, .int .i64 0]) ∧ w' = w := by
  obtain ⟨F, v, d, _, _, _, _, _, d6, c7, n8, _, o10⟩ := h
  obtain ⟨F', v', d', _, _, _, _, _, e6, c7', m8, _, o10'⟩ := h'
  have e : d.last i = d'.last i := by
    apply List.ext_getElem?
    intro j
    by_cases hj : j < 32
    · rw [o10 i j (Nat.zero_le _) hi hj, o10' i j (Nat.zero_le _) hi hj]
    · rw [List.getElem?_eq_none (by rw [d6.lastLen i (by omega)]; omega), List.getElem?_eq_none (by rw [e6.lastLen i (by omega)]; omega)]
  refine ⟨⟨(d.last i).toArray⟩, ?_, ?_⟩
  · have := read_is d6 i (by omega)
    rw [c7.2] at this
    exact this
  · have := read_is e6 i (by omega)
    rw [c7'.2, ← e] at this
    exact this
end Go.Proofs.Ythfhjfemcmdmfaa
