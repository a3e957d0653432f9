/- Crash, where no write survives, and in all. -/
import Derived.Test.YtbjijacpgklegaaCrash
namespace Go.Proofs.Ytbjijacpgklegaa
open Go.ChangeShapes Go.WideShapes Go.ChangeAt Go.RowKit
set_option linter.unusedVariables false
set_option maxRecDepth 100000

theorem crash_end {w3 : World} {F : Nat → Prop} {p bs bl : Nat} {v : Value} {d : Dk} {L : Nat → List UInt8} (h3 : Lies w3 F p bs bl v d L) :
    Lies ((w3.setCell ⟨p, 4, none⟩ (.bool false)).setCell ⟨p, 3, none⟩ (.int .i64 (-1))) F p bs bl v { d with fuse := -1, off := false } L ∧ Kept F w3 ((w3.setCell ⟨p, 4, none⟩ (.bool false)).setCell ⟨p, 3, none⟩ (.int .i64 (-1))) := by
  have k4 : Kept (fun i => i = p) w3 ((w3.setCell ⟨p, 4, none⟩ (.bool false)).setCell ⟨p, 3, none⟩ (.int .i64 (-1))) := ((Kept.refl (fun i => i = p) w3).setCell (p := ⟨p, 4, none⟩) (.inl rfl) _).setCell (p := ⟨p, 3, none⟩) (.inl rfl) _
  have h4 := h3.field k4 (fun j hj => by
      rw [World.cell?_setCell_other _ _ _ _ (fun e => by cases e; omega), World.cell?_setCell_other _ _ _ _ (fun e => by cases e; omega)]) (fun j => by simp) (-1) false
      (World.cell?_setCell_same _ _ _ ((World.cell?_setCell_other _ _ _ _ (fun e => by cases e)).trans h3.c3)) (by
        rw [World.cell?_setCell_other _ _ _ _ (fun e => by cases e)]
        exact World.cell?_setCell_same _ _ _ h3.c4) (by simp)
  exact ⟨h4, k4.mono (fun i hi => by rw [hi]; exact h3.fp)⟩

theorem crash_zero {w : World} {F : Nat → Prop} {p bs bl : Nat} {v : Value} {d : Dk} {L : Nat → List UInt8} (h : Lies w F p bs bl v d L) (hQ : d.Q.length ≤ 1048576) (ko : Option Addr) (kl kc : Nat) (h0 : kl = 0 ∨ d.Q = []) :
    Calls Try.prog 23 #[.pointer (some ⟨p, 0, none⟩), .slice ko kl kc] w fun e w' => e = .returned (.int .i64 0) ∧
      ∃ v', Lies w' F p bs bl v' { d with Q := [], fuse := -1, off := false } (settled d.S L d.Q) ∧ Kept F w w' := by
  have H := (show Hid _ from size_is _ d.n w (.inr ⟨p, _, _, rfl, h.c1⟩))
  have hn : ((d.n : Int) == 0) = false := by have := h.n1; simp; omega
  have HT := (show Hid _ from settle_is h.drew hQ)
  have hform : v = .slice none 0 0 ∨ ∃ g c, v = .slice (some ⟨g, 0, none⟩) d.Q.length c := by
    rcases h.own.2 with ⟨e, _⟩ | ⟨g, cap, cur, e, _⟩
    · exact .inl e
    · exact .inr ⟨g, cap, e⟩
  have hc2 := h.c2
  rcases hform with rfl | ⟨g, c, rfl⟩
  · have hmin : ∀ w, (Builtin.min_ #[3, 3] 3 #[.int .i64 (kl : Int), .int .i64 0]).run Try.prog w = .ok (.int .i64 0) w := fun w => by
      have := min_len kl 0 w
      rw [show min kl 0 = 0 by omega] at this
      exact this
    clear h hQ h0
    go_enter Try.func23, Try.ntmps23
    go_wp2_with fail
    refine Calls.mono H.out ?_; rintro e w1 ⟨rfl, rfl⟩
    go_wp2_with fail
    refine wp_region_still_lit (by kernel_rfl) (by kernel_rfl) ?_
    rw [show ({ w1 with drawn := w1.drawn + 1 } : World) = w1.drew from rfl]
    iterate 15 still_step
    refine wpStill_nil ?_
    go_wp2_with fail
    go_loopw [25] (fun i wr => i = .int .i64 0 ∧ wr = w1.drew) (fun i _ => 0)
    case atStart => exact ⟨rfl, rfl⟩
    case round =>
      obtain ⟨rfl, rfl⟩ := hrel
      clear hmin
      go_wp2_with fail
      refine Calls.mono HT.out ?_; rintro e w3 ⟨rfl, v', h3, k3⟩
      have c3 := h3.c3
      have c4 := h3.c4
      have f3 := h3.free 3
      have f4 := h3.free 4
      have HE := (show Hid _ from crash_end h3)
      have HK := (show Hid _ from k3)
      clear h3 k3 HT
      go_wp2_with fail
      go_ret
      exact ⟨rfl, v', HE.out.1, ((Kept.refl _ w1).drew.trans HK.out (fun _ x => .inl x)).trans HE.out.2 (fun _ x => .inl x)⟩
  · have hmin := min_len kl d.Q.length
    rw [show min kl d.Q.length = 0 by rcases h0 with e | e <;> simp [e]] at hmin
    obtain ⟨m, em⟩ : ∃ m, d.Q.length = m := ⟨_, rfl⟩
    rw [em] at hmin hc2
    clear h hQ h0 em
    by_cases hc : c = 0
    · subst hc
      go_enter Try.func23, Try.ntmps23
      go_wp2_with fail
      refine Calls.mono H.out ?_; rintro e w1 ⟨rfl, rfl⟩
      go_wp2_with fail
      refine wp_region_still_lit (by kernel_rfl) (by kernel_rfl) ?_
      rw [show ({ w1 with drawn := w1.drawn + 1 } : World) = w1.drew from rfl]
      iterate 15 still_step
      refine wpStill_nil ?_
      go_wp2_with fail
      go_loopw [25] (fun i wr => i = .int .i64 0 ∧ wr = w1.drew) (fun i _ => 0)
      case atStart => exact ⟨rfl, rfl⟩
      case round =>
        obtain ⟨rfl, rfl⟩ := hrel
        clear hmin
        go_wp2_with fail
        refine Calls.mono HT.out ?_; rintro e w3 ⟨rfl, v', h3, k3⟩
        have c3 := h3.c3
        have c4 := h3.c4
        have f3 := h3.free 3
        have f4 := h3.free 4
        have HE := (show Hid _ from crash_end h3)
        have HK := (show Hid _ from k3)
        clear h3 k3 HT
        go_wp2_with fail
        go_ret
        exact ⟨rfl, v', HE.out.1, ((Kept.refl _ w1).drew.trans HK.out (fun _ x => .inl x)).trans HE.out.2 (fun _ x => .inl x)⟩
    · have hci : ¬ (c : Int) = 0 := by omega
      go_enter Try.func23, Try.ntmps23
      go_wp2_with fail
      refine Calls.mono H.out ?_; rintro e w1 ⟨rfl, rfl⟩
      go_wp2_with fail
      refine wp_region_still_lit (by kernel_rfl) (by kernel_rfl) ?_
      rw [show ({ w1 with drawn := w1.drawn + 1 } : World) = w1.drew from rfl]
      iterate 15 still_step
      refine wpStill_nil ?_
      go_wp2_with fail
      go_loopw [25] (fun i wr => i = .int .i64 0 ∧ wr = w1.drew) (fun i _ => 0)
      case atStart => exact ⟨rfl, rfl⟩
      case round =>
        obtain ⟨rfl, rfl⟩ := hrel
        clear hmin
        go_wp2_with fail
        refine Calls.mono HT.out ?_; rintro e w3 ⟨rfl, v', h3, k3⟩
        have c3 := h3.c3
        have c4 := h3.c4
        have f3 := h3.free 3
        have f4 := h3.free 4
        have HE := (show Hid _ from crash_end h3)
        have HK := (show Hid _ from k3)
        clear h3 k3 HT
        go_wp2_with fail
        go_ret
        exact ⟨rfl, v', HE.out.1, ((Kept.refl _ w1).drew.trans HK.out (fun _ x => .inl x)).trans HE.out.2 (fun _ x => .inl x)⟩

/-- Crash. -/
theorem crash_lies {w : World} {F : Nat → Prop} {p bs bl : Nat} {v : Value} {d : Dk} {L : Nat → List UInt8} (h : Lies w F p bs bl v d L) (hQ : d.Q.length ≤ 1048576) (u : Value) (ks : List Int) (hu : Ints w u ks)
    (hF : ∀ a n c, u = .slice (some a) n c → ¬ F a.block) (hkl : ks.length ≤ 9223372036854775807) :
    Calls Try.prog 23 #[.pointer (some ⟨p, 0, none⟩), u] w fun e w' => e = .returned (.int .i64 0) ∧
      ∃ v', Lies w' F p bs bl v' { d with S := torn d.S (d.Q.zip ks), Q := [], fuse := -1, off := false } (settled (torn d.S (d.Q.zip ks)) L d.Q) ∧ Kept F w w' := by
  have zero : ∀ ko kc, (ks = [] ∨ d.Q = []) → Calls Try.prog 23 #[.pointer (some ⟨p, 0, none⟩), .slice ko ks.length kc] w fun e w' => e = .returned (.int .i64 0) ∧
      ∃ v', Lies w' F p bs bl v' { d with S := torn d.S (d.Q.zip ks), Q := [], fuse := -1, off := false } (settled (torn d.S (d.Q.zip ks)) L d.Q) ∧ Kept F w w' := by
    intro ko kc h0
    have e : d.Q.zip ks = [] := by rcases h0 with e | e <;> simp [e]
    rw [e]
    exact crash_zero h hQ ko ks.length kc (h0.imp (fun e => by rw [e]; rfl) id)
  rcases hu with ⟨a, c, rfl, rfl⟩ | ⟨b, o, c, rfl, hb⟩
  · exact zero a c (.inl rfl)
  · by_cases hq : d.Q = []
    · exact zero _ _ (.inr hq)
    · rcases h.own.2 with ⟨_, e⟩ | ⟨g, cap, cur, e, _, _, hcap, _⟩
      · exact absurd (List.length_eq_zero_iff.1 e) hq
      · subst e
        have : 0 < d.Q.length := List.length_pos_iff.2 hq
        exact crash_one h (by omega) hQ b o c ks hb (hF _ _ _ rfl) hkl
end Go.Proofs.Ytbjijacpgklegaa
