/- wal: Add. -/
import Derived.Test.YthfhjfemcmdmfaaLay
namespace Go.Proofs.Ythfhjfemcmdmfaa
open Go.ChangeShapes Go.WideShapes Go.ChangeAt Go.RowKit
set_option linter.unusedVariables false
set_option maxRecDepth 100000

theorem add_bad {w : World} {F : Nat → Prop} {q p a b t used : Nat} {R : List ByteArray} {v : Value} (h : LogAt w F q p a b t R used v) (ga : Option Addr) (gc : Nat) (g : List ByteArray) (hg : Texts w (.slice ga g.length gc) g) (hs : ∀ s, s ∈ g → s.size ≤ 9223372036854775807) (hl : g.length ≤ 64) (hm : ¬ mayG g) :
    Calls Try.prog 21 #[.pointer (some ⟨q, 0, none⟩), .slice ga g.length gc] w fun e w' => e = .returned (.int .i64 1) ∧ w' = w := by
  have HO := (show Hid _ from isOpen_is _ true w h.opened)
  have HM := (show Hid _ from mayGroup_is ga gc g w hg hs (by omega))
  rw [decide_eq_false hm] at HM
  clear h hg hs
  go_enter Try.func21, Try.ntmps21
  go_wp2_with fail
  refine Calls.mono HO.out ?_; rintro e w1 ⟨rfl, rfl⟩
  go_wp2_with fail
  refine Calls.mono HM.out ?_; rintro e w1 ⟨rfl, rfl⟩
  go_wp2_with fail
  go_ret
  exact ⟨rfl, rfl⟩

theorem room_is (a b u : Nat) (h : a ≤ b) (hb : b ≤ 4096) (hu : u ≤ 1000000) : IntKind.i64.wrap (IntKind.i64.wrap (IntKind.i64.wrap ((b : Int) - (a : Int)) * 32) - (u : Int)) = 32 * ((b : Int) - (a : Int)) - (u : Int) := by
  have e : (b : Int) - (a : Int) = ((b - a : Nat) : Int) := by omega
  rw [e, wrap_small _ (by omega)]
  have e2 : ((b - a : Nat) : Int) * 32 = ((32 * (b - a) : Nat) : Int) := by omega
  rw [e2, wrap_small _ (by omega), IntKind.wrap_i64]
  omega

theorem add_full {w : World} {F : Nat → Prop} {q p a b t used : Nat} {R : List ByteArray} {v : Value} (h : LogAt w F q p a b t R used v) (hab : a ≤ b) (hb : b ≤ 4096) (hu : used ≤ 1000000) (ga : Option Addr) (gc : Nat) (g : List ByteArray) (hg : Texts w (.slice ga g.length gc) g) (hl : g.length ≤ 64) (hm : mayG g) (hf : 32 * (b - a) < used + sizeG g) :
    Calls Try.prog 21 #[.pointer (some ⟨q, 0, none⟩), .slice ga g.length gc] w fun e w' => e = .returned (.int .i64 2) ∧ w' = w.drew := by
  have HO := (show Hid _ from isOpen_is _ true w h.opened)
  have HM := (show Hid _ from mayGroup_is ga gc g w hg (fun s hs => by have := hm s hs; omega) (by omega))
  rw [decide_eq_true hm] at HM
  have HZ := (show Hid _ from sizeOf_is ga gc g w hg hm (by omega))
  have c1 := h.c1
  have c2 := h.c2
  have c5 := h.c5
  have er := room_is a b used hab hb hu
  have hfi : 32 * ((b : Int) - (a : Int)) - (used : Int) < (sizeG g : Int) := by omega
  generalize sizeG g = z at *
  clear h hg hm
  go_enter Try.func21, Try.ntmps21
  go_wp2_with fail
  refine Calls.mono HO.out ?_; rintro e w1 ⟨rfl, rfl⟩
  go_wp2_with fail
  refine Calls.mono HM.out ?_; rintro e w1 ⟨rfl, rfl⟩
  go_wp2_with fail
  refine Calls.mono HZ.out ?_; rintro e w1 ⟨rfl, rfl⟩
  go_wp2_with fail
  refine wp_region_still_lit (by kernel_rfl) (by kernel_rfl) ?_
  rw [show ({ w1 with drawn := w1.drawn + 1 } : World) = w1.drew from rfl]
  iterate 17 still_step
  refine wpStill_nil ?_
  obtain ⟨wd, hwd⟩ : ∃ wd, w1.drew = wd := ⟨_, rfl⟩
  have HWD := (show Hid _ from hwd)
  rw [hwd]
  clear hwd
  go_wp2_with fail
  go_ret
  exact ⟨rfl, HWD.out.symm⟩

/-- A log whose group was added. -/
theorem LogAt.added {w W : World} {F : Nat → Prop} {q p a b t used : Nat} {R g : List ByteArray} {v v' : Value} (h : LogAt w F q p a b t R used v) (ho : W.ownsRow 0 9 1 v' (R ++ g).length (sv (R ++ g))) (hg : w.grownBy W v.ownBlock) (hb : ∀ k, v'.ownBlock = some k → v.ownBlock = some k ∨ k = w.heap.size) (hF : ∀ k, F k → k < w.heap.size) (n : Nat) :
    LogAt ((W.setCell ⟨q, 4, none⟩ v').setCell ⟨q, 5, none⟩ (.int .i64 (n : Int))) F q p a b t (R ++ g) n v' ∧ Kept (fun k => k = q ∨ v.ownBlock = some k) w ((W.setCell ⟨q, 4, none⟩ v').setCell ⟨q, 5, none⟩ (.int .i64 (n : Int))) := by
  have hqw : q < w.heap.size := World.block_lt_of_cell? w _ h.c0
  have kW : Kept (fun k => k = q ∨ v.ownBlock = some k) w W := (Kept.refl _ w).grown hg (fun k hk => .inl (.inr hk))
  have hq : v.ownBlock ≠ some q := fun e => (h.fv q e).2 rfl
  have hbq : W.heap[q]? = w.heap[q]? := hg.block q hqw (fun e => hq e.symm)
  have cW : ∀ j, W.cell? ⟨q, j, none⟩ = w.cell? ⟨q, j, none⟩ := fun j => World.cell?_of_block (w := w) (a := ⟨q, j, none⟩) hbq
  have fW : ∀ j, W.frozen? ⟨q, j, none⟩ = w.frozen? ⟨q, j, none⟩ := fun j => World.frozen?_of_block (w := w) (a := ⟨q, j, none⟩) hbq
  have k2 : Kept (fun k => k = q) W ((W.setCell ⟨q, 4, none⟩ v').setCell ⟨q, 5, none⟩ (.int .i64 (n : Int))) := ((Kept.refl (fun k => k = q) W).setCell (p := ⟨q, 4, none⟩) (.inl rfl) _).setCell (p := ⟨q, 5, none⟩) (.inl rfl) _
  have hoth : ∀ j, j ≠ 4 → j ≠ 5 → ((W.setCell ⟨q, 4, none⟩ v').setCell ⟨q, 5, none⟩ (.int .i64 (n : Int))).cell? ⟨q, j, none⟩ = w.cell? ⟨q, j, none⟩ := fun j h4 h5 => by
    rw [World.cell?_setCell_other _ _ _ _ (fun e => by cases e; exact h5 rfl), World.cell?_setCell_other _ _ _ _ (fun e => by cases e; exact h4 rfl), cW]
  have hvq : ∀ k, v'.ownBlock = some k → k ≠ q := fun k hk => by
    rcases hb k hk with e | e
    · exact (h.fv k e).2
    · omega
  refine ⟨⟨(hoth 0 (by omega) (by omega)).trans h.c0, (hoth 1 (by omega) (by omega)).trans h.c1, (hoth 2 (by omega) (by omega)).trans h.c2, (hoth 3 (by omega) (by omega)).trans h.c3, ?_, ?_, fun j => ?_, ?_, h.fq, fun k hk => ⟨fun z => ?_, hvq k hk⟩⟩, kW.trans k2 (fun k hk => .inl (.inl hk))⟩
  · rw [World.cell?_setCell_other _ _ _ _ (fun e => by cases e)]
    exact World.cell?_setCell_same _ _ _ ((cW 4).trans h.c4)
  · exact World.cell?_setCell_same _ _ _ ((World.cell?_setCell_other _ _ _ _ (fun e => by cases e)).trans ((cW 5).trans h.c5))
  · simp only [World.frozen?_setCell]
    exact (fW j).trans (h.fz j)
  · exact ownsRow_kept ho (fun i hi => k2.block i (ho.lt i hi).2 (fun z => hvq i hi z))
  · rcases hb k hk with e | e
    · exact (h.fv k e).1 z
    · have := hF k z; omega

/-- What Add leaves. -/
def Added (w : World) (F : Nat → Prop) (q p a b t used : Nat) (R g : List ByteArray) (v : Value) (d : Dk) (c : Nat) (w' : World) : Prop :=
  ∃ F', Kept (fun k => F k ∨ k = q ∨ v.ownBlock = some k) w w' ∧ Grew F F' w ∧
    (c = 0 → (∀ j, j < manyS used (sizeG g) → (puts d (a + used / 32) (leftS d a used ⟨(frames t g).toArray⟩).data.toList j).on = true) ∧ Disk w' F' p (puts d (a + used / 32) (leftS d a used ⟨(frames t g).toArray⟩).data.toList (manyS used (sizeG g))) ∧ ∃ v', LogAt w' F' q p a b t (R ++ g) (used + sizeG g) v' ∧ ∀ k, v'.ownBlock = some k → v.ownBlock = some k ∨ w.heap.size ≤ k) ∧
    (c ≠ 0 → c = 30 ∧ (∃ k, k < manyS used (sizeG g) ∧ (∀ j, j < k → (puts d (a + used / 32) (leftS d a used ⟨(frames t g).toArray⟩).data.toList j).on = true) ∧ (puts d (a + used / 32) (leftS d a used ⟨(frames t g).toArray⟩).data.toList k).on = false ∧ Disk w' F' p (puts d (a + used / 32) (leftS d a used ⟨(frames t g).toArray⟩).data.toList (k + 1))) ∧ LogAt w' F' q p a b t R used v)

set_option maxHeartbeats 1000000 in
theorem add_is {w : World} {F : Nat → Prop} {q p a b t used : Nat} {R : List ByteArray} {v : Value} {d : Dk} (h : LogAt w F q p a b t R used v) (hd : Disk w F p d) (hoff : d.off = false) (hab : a < b) (hb : b ≤ d.n) (ht : 1 ≤ t ∧ t ≤ 2147483647) (hQ : d.Q.length ≤ 1000000)
    (ga : Option Addr) (gc : Nat) (g : List ByteArray) (hg : Texts w (.slice ga g.length gc) g) (hgF : ∀ x n c, Value.slice ga g.length gc = .slice (some x) n c → ¬ F x.block) (hl : g.length ≤ 64) (hm : mayG g) (h0 : 0 < sizeG g) (hf : used + sizeG g ≤ 32 * (b - a)) (hR : R.length ≤ 1000000) :
    Calls Try.prog 21 #[.pointer (some ⟨q, 0, none⟩), .slice ga g.length gc] w fun e w' => ∃ c : Nat, e = .returned (.int .i64 (c : Int)) ∧ Added w F q p a b t used R g v d c w' := by
  have hn := hd.sized.2
  have HO := (show Hid _ from isOpen_is _ true w h.opened)
  have HM := (show Hid _ from mayGroup_is ga gc g w hg (fun s hs => by have := hm s hs; omega) (by omega))
  rw [decide_eq_true hm] at HM
  have HZ := (show Hid _ from sizeOf_is ga gc g w hg hm (by omega))
  have HOF : Hid (Calls Try.prog 49 #[.pointer (some ⟨p, 0, none⟩)] w.drew fun e w' => e = .returned (.bool false) ∧ w' = w.drew) := by
    have := disk_off (hd.kept (Kept.refl (fun _ => False) w).drew (fun _ _ z => z))
    rw [hoff] at this
    exact this
  have hgd : Texts w.drew (.slice ga g.length gc) g := hg.kept (Kept.refl (fun _ => False) w).drew (fun _ _ _ _ z => z)
  have hld := h.step (Kept.refl (fun _ => False) w).drew
  have HFr := (show Hid _ from framed_is (w := w.drew) q t hld.c3 ht ga gc g hgd hm hl)
  have hfz : (⟨(frames t g).toArray⟩ : ByteArray).size = sizeG g := frames_len t g
  have HL : Hid (∀ w2, Kept (fun _ => False) w w2 → Calls Try.prog 50 #[.pointer (some ⟨q, 0, none⟩), .string ⟨(frames t g).toArray⟩] w2 fun e w' => ∃ c : Nat, e = .returned (.int .i64 (c : Int)) ∧ Laid w2 F p d (a + used / 32) (leftS d a used ⟨(frames t g).toArray⟩).data.toList (manyS used (sizeG g)) c w') := by
    intro w2 k2
    have := lay_is (h.step k2) (hd.kept k2 (fun _ _ z => z)) hoff ⟨(frames t g).toArray⟩ (by omega) (by omega) hb hab hQ
    rw [hfz] at this
    exact this
  have c1 := h.c1
  have c2 := h.c2
  have c5 := h.c5
  have c0 : w.drew.cell? ⟨q, 0, none⟩ = some (.pointer (some ⟨p, 0, none⟩)) := h.c0
  have er := room_is a b used (by omega) (by omega) (by omega)
  have hfi : ¬ 32 * ((b : Int) - (a : Int)) - (used : Int) < (sizeG g : Int) := by omega
  have HH : Hid (LogAt w F q p a b t R used v ∧ Disk w F p d ∧ Texts w (.slice ga g.length gc) g ∧ (∀ x n c, Value.slice ga g.length gc = .slice (some x) n c → ¬ F x.block)) := ⟨h, hd, hg, hgF⟩
  have h0i : ((sizeG g : Int) == 0) = false := by simp; omega
  have hus : used ≤ 200000 := by omega
  have hgs : sizeG g ≤ 200000 := by omega
  have HA : Hid (∀ c w', Added w F q p a b t used R g v d c w' = Added w F q p a b t used R g v d c w') := fun _ _ => rfl
  have HSG : Hid (0 < sizeG g ∧ g.length ≤ 64 ∧ R.length ≤ 1000000) := ⟨h0, hl, hR⟩
  obtain ⟨fx, hfx⟩ : ∃ fx, (⟨(frames t g).toArray⟩ : ByteArray) = fx := ⟨_, rfl⟩
  have HFX := (show Hid _ from hfx)
  rw [hfx] at HFr HL
  obtain ⟨z, hz⟩ : ∃ z, sizeG g = z := ⟨_, rfl⟩
  have HZE := (show Hid _ from hz)
  rw [hz] at HZ h0i hfi hgs
  clear h hg hgd hld hm hd hgF h0 hf hfz hfx hl hR hz hQ
  go_enter Try.func21, Try.ntmps21
  go_wp2_with fail
  refine Calls.mono HO.out ?_; rintro e w1 ⟨rfl, rfl⟩
  go_wp2_with fail
  refine Calls.mono HM.out ?_; rintro e w1 ⟨rfl, rfl⟩
  go_wp2_with fail
  refine Calls.mono HZ.out ?_; rintro e w1 ⟨rfl, rfl⟩
  go_wp2_with fail
  refine wp_region_still_lit (by kernel_rfl) (by kernel_rfl) ?_
  rw [show ({ w1 with drawn := w1.drawn + 1 } : World) = w1.drew from rfl]
  iterate 17 still_step
  refine wpStill_nil ?_
  have HK0 : Hid (Kept (fun _ => False) w1 w1.drew) := (Kept.refl _ w1).drew
  generalize w1.drew = wd at *
  go_wp2_with fail
  refine Calls.mono HOF.out ?_; rintro e w3 ⟨rfl, rfl⟩
  go_wp2_with fail
  refine Calls.mono HFr.out ?_; rintro e w4 ⟨rfl, k4⟩
  have HK4 : Hid (Kept (fun _ => False) w1 w4) := HK0.out.trans k4 (fun _ z => .inl z)
  have HLy := (show Hid _ from HL.out w4 HK4.out)
  clear k4 HK0 HL HFr
  go_wp2_with fail
  refine Calls.mono HLy.out ?_; rintro e w5 ⟨c, rfl, hlaid⟩
  have hlaid' : Laid w4 F p d (a + used / 32) (leftS d a used ⟨(frames t g).toArray⟩).data.toList (manyS used (sizeG g)) c w5 := by rw [HFX.out]; exact hlaid
  clear hlaid HLy
  obtain ⟨hlog, hdsk, htx, hgF⟩ := HH.out
  obtain ⟨F', y1, y2, y3, y4⟩ := hlaid'
  have k5 : Kept F w1 w5 := (HK4.out.mono (fun _ z => z.elim)).trans y1 (fun _ z => .inl z)
  have g5 : Grew F F' w1 := fun k hk => (y2 k hk).imp id (fun z => Nat.le_trans HK4.out.size z)
  have l5 : LogAt w5 F' q p a b t R used v := hlog.kept k5 hlog.fq (fun i hi => (hlog.fv i hi).1) g5
  have t5 := htx.kept k5 hgF
  by_cases hc : c = 0
  · subst hc
    obtain ⟨on5, d5⟩ := y3 rfl
    have hglen : 0 < g.length := by
      have := HSG.out.1
      cases hgg : g with
      | nil => rw [hgg] at this; cases this
      | cons x r => simp
    obtain ⟨bb, oo, rfl, _⟩ := t5.cell 0 hglen
    obtain ⟨v2, W6, r6, o6, g6, b6⟩ := append_strs l5.own bb oo gc g (fun k hk => by
      obtain ⟨b', o', e', hc'⟩ := t5.cell k hk
      cases e'
      exact hc') (by have := HSG.out; omega) (Nat.zero_le _)
    obtain ⟨l7, k7⟩ := l5.added o6 g6 b6 d5.bound (used + z)
    obtain ⟨vo2, vc2, rfl⟩ := own_form o6
    have HD6 := (show Hid _ from d5.kept k7 (fun k hk hz => by
      rcases hz with rfl | hz
      · exact l5.fq hk
      · exact (l5.fv k hz).1 hk))
    have HEnd : Hid (Added w1 F q p a b t used R g v d 0 ((W6.setCell ⟨q, 4, none⟩ (.slice vo2 (R ++ g).length vc2)).setCell ⟨q, 5, none⟩ (.int .i64 ((used + z : Nat) : Int)))) := by
      refine ⟨F', (k5.mono (fun _ z => .inl z)).trans k7 (fun k hk => .inl (.inr hk)), g5, fun _ => ⟨on5, HD6.out, _, ?_, fun k hk => (b6 k hk).imp id (fun e => ?_)⟩, fun z => absurd rfl z⟩
      · rw [HZE.out]; exact l7
      · have := k5.size; omega
    have R6 := (show Hid _ from r6)
    have HLP := (show Hid _ from l5.fv)
    have HGB := (show Hid _ from g6)
    have x4 := l5.c4
    have x5 := l5.c5
    have hq6 : W6.heap[q]? = w5.heap[q]? := g6.block q (World.block_lt_of_cell? w5 _ l5.c0) (fun e => (l5.fv q e.symm).2 rfl)
    have z4 : W6.cell? ⟨q, 4, none⟩ = some v := (World.cell?_of_block (w := w5) (a := ⟨q, 4, none⟩) hq6).trans l5.c4
    have z5 : W6.cell? ⟨q, 5, none⟩ = some (.int .i64 (used : Int)) := (World.cell?_of_block (w := w5) (a := ⟨q, 5, none⟩) hq6).trans l5.c5
    have zf : ∀ j, W6.frozen? ⟨q, j, none⟩ = false := fun j => (World.frozen?_of_block (w := w5) (a := ⟨q, j, none⟩) hq6).trans (l5.fz j)
    obtain ⟨vo, vc, rfl⟩ := own_form l5.own
    generalize (R ++ g).length = nn at *
    clear y1 y2 y3 y4 k5 g5 l5 t5 on5 d5 o6 g6 b6 l7 k7 HD6 hq6 r6 hlog hdsk htx hgF
    go_wp2_with (first | ((with_reducible apply st_append (x := .tmp 53)); (case ho => rfl); (case hgd => rfl); (case hr => exact R6.out)))
    go_ret
    exact ⟨0, rfl, HEnd.out⟩
  · have hci : ((c : Int) == 0) = false := by simp; omega
    have HEnd : Hid (Added w1 F q p a b t used R g v d c w5) := ⟨F', k5.mono (fun _ z => .inl z), g5, fun z => absurd z hc, fun z => ⟨(y4 z).1, (y4 z).2, l5⟩⟩
    clear y1 y2 y3 y4 k5 g5 l5 t5 hlog hdsk htx hgF
    go_wp2_with fail
    go_ret
    exact ⟨c, rfl, HEnd.out⟩
end Go.Proofs.Ythfhjfemcmdmfaa
