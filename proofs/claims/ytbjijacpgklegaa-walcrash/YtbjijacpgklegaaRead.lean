/- Read, and the fields of a disk. -/
import Derived.Test.YtbjijacpgklegaaSmall
namespace Go.Proofs.Ytbjijacpgklegaa
open Go.ChangeShapes Go.WideShapes Go.ChangeAt Go.RowKit
set_option linter.unusedVariables false
set_option maxRecDepth 100000

theorem Disk.szd {w : World} {F : Nat → Prop} {p : Nat} {d : Dk} (h : Disk w F p d) : Szd w (.pointer (some ⟨p, 0, none⟩)) d.n := by
  obtain ⟨bs, bl, v, h⟩ := h
  exact .inr ⟨p, _, _, rfl, h.c1⟩

theorem Lies.field {w w' : World} {F : Nat → Prop} {p bs bl : Nat} {v : Value} {d : Dk} {L : Nat → List UInt8} (h : Lies w F p bs bl v d L) (k : Kept (fun i => i = p) w w')
    (e : ∀ j, j < 3 → w'.cell? ⟨p, j, none⟩ = w.cell? ⟨p, j, none⟩) (fr : ∀ j, w'.frozen? ⟨p, j, none⟩ = w.frozen? ⟨p, j, none⟩) (fuse : Int) (off : Bool)
    (c3 : w'.cell? ⟨p, 3, none⟩ = some (.int .i64 fuse)) (c4 : w'.cell? ⟨p, 4, none⟩ = some (.bool off)) (fu : -1 ≤ fuse ∧ fuse ≤ 9223372036854775807) :
    Lies w' F p bs bl v { d with fuse := fuse, off := off } L := by
  have hs := k.block bs (h.lt bs h.fs) (fun q => h.ps q.symm)
  have hl := k.block bl (h.lt bl h.fl) (fun q => h.pl q.symm)
  exact { c0 := (e 0 (by omega)).trans h.c0, c1 := (e 1 (by omega)).trans h.c1, c2 := (e 2 (by omega)).trans h.c2, c3 := c3, c4 := c4,
          free := fun j => (fr j).trans (h.free j), sure := h.sure.of_block hs, last := h.last.of_block hl,
          own := ownsRow_kept h.own (fun i hi => k.block i (h.lt i (h.fv i hi)) (fun q => h.pv (q ▸ hi))), ps := h.ps, pl := h.pl, sl := h.sl, pv := h.pv, sv := h.sv, lv := h.lv,
          fp := h.fp, fs := h.fs, fl := h.fl, fv := h.fv, lt := fun i hi => Nat.lt_of_lt_of_le (h.lt i hi) k.size, qs := h.qs, n1 := h.n1, n2 := h.n2, fu := fu }

theorem burn_fits (fuse : Int) (off : Bool) (h : -1 ≤ fuse ∧ fuse ≤ 9223372036854775807) : -1 ≤ (burn fuse off).1 ∧ (burn fuse off).1 ≤ 9223372036854775807 := by
  unfold burn
  split
  · simp
  · split
    · exact h
    · simp only
      split <;> omega

theorem spend_lies {w : World} {F : Nat → Prop} {p bs bl : Nat} {v : Value} {d : Dk} {L : Nat → List UInt8} (h : Lies w F p bs bl v d L) :
    Calls Try.prog 68 #[.pointer (some ⟨p, 0, none⟩)] w fun e w' => e = .returned (.bool (burn d.fuse d.off).2.2) ∧
      Lies w' F p bs bl v { d with fuse := (burn d.fuse d.off).1, off := (burn d.fuse d.off).2.1 } L ∧ Kept (fun i => i = p) w w' ∧ w'.heap.size = w.heap.size := by
  refine (spend_is p d.fuse d.off w h.c3 h.c4 h.free h.fu).mono ?_
  rintro e w' ⟨rfl, hw, h3, h4⟩
  rcases hw with rfl | ⟨u, rfl | rfl⟩
  · exact ⟨rfl, h.field (Kept.refl _ _) (fun _ _ => rfl) (fun _ => rfl) _ _ h3 h4 (burn_fits _ _ h.fu), Kept.refl _ _, rfl⟩
  · have k : Kept (fun i => i = p) w (w.setCell ⟨p, 3, none⟩ u) := (Kept.refl (fun i => i = p) w).setCell (p := ⟨p, 3, none⟩) (.inl rfl) u
    refine ⟨rfl, h.field k (fun j hj => ?_) (fun j => by simp) _ _ h3 h4 (burn_fits _ _ h.fu), k, by simp⟩
    rw [World.cell?_setCell_other _ _ _ _ (by simp <;> omega)]
  · have k : Kept (fun i => i = p) w ((w.setCell ⟨p, 4, none⟩ (.bool true)).setCell ⟨p, 3, none⟩ u) := ((Kept.refl (fun i => i = p) w).setCell (p := ⟨p, 4, none⟩) (.inl rfl) _).setCell (p := ⟨p, 3, none⟩) (.inl rfl) u
    refine ⟨rfl, h.field k (fun j hj => ?_) (fun j => by simp) _ _ h3 h4 (burn_fits _ _ h.fu), k, by simp⟩
    rw [World.cell?_setCell_other _ _ _ _ (by simp <;> omega), World.cell?_setCell_other _ _ _ _ (by simp <;> omega)]

theorem Secs.text {w : World} {b n : Nat} {S : Nat → List UInt8} (h : Secs w b n S) {a : Nat} (ha : a < n) (c : Nat) :
    (convert 80 9 (.slice (some ⟨b, a * 32, none⟩) 32 c)).run Try.prog w = .ok (.string ⟨(S a).toArray⟩) w := by
  have hl := h.len a ha
  have := run_convert_bytes_back (P := Try.prog) w 80 9 5 ⟨b, a * 32, none⟩ c (S a) Try.underlying80 Try.underlying5 Try.underlying9 (fun j hj => by
    rw [Go.WideShapes.add_plain]
    exact h.cell a ha j _ (by simp [bv, List.getElem?_eq_getElem hj]))
  rw [hl] at this
  exact this

theorem read_no (v : Value) (n : Nat) (at_ : Int) (w : World) (h : Szd w v n) (ha : ¬ (0 ≤ at_ ∧ at_ < (n : Int))) :
    Calls Try.prog 27 #[v, .int .i64 at_] w fun e w' => e = .returned (.tuple #[.string ⟨#[]⟩, .int .i64 1]) ∧ w' = w := by
  have H := (show Hid _ from has_is v n at_ w h)
  rw [decide_eq_false ha] at H
  clear h
  go_enter Try.func27, Try.ntmps27
  go_wp2_with fail
  refine Calls.mono H.out ?_; rintro e w1 ⟨rfl, rfl⟩
  go_wp2_with fail
  go_ret2
  exact ⟨rfl, rfl⟩

theorem read_is {w : World} {F : Nat → Prop} {p : Nat} {d : Dk} (h : Disk w F p d) (a : Nat) (ha : a < d.n) :
    Calls Try.prog 27 #[.pointer (some ⟨p, 0, none⟩), .int .i64 (a : Int)] w fun e w' => e = .returned (if d.off then .tuple #[.string ⟨#[]⟩, .int .i64 30] else .tuple #[.string ⟨(d.last a).toArray⟩, .int .i64 0]) ∧ w' = w := by
  have H := (show Hid _ from has_is _ d.n (a : Int) w h.szd)
  rw [decide_eq_true (by omega)] at H
  obtain ⟨bs, bl, v, h⟩ := h
  have ht := h.last.text ha 32
  have h1 := h.c1
  have h4 := h.c4
  have ha' : (a : Int) < (d.n : Int) := by omega
  generalize d.last a = T at *
  generalize d.off = off at *
  generalize d.n = n at *
  clear h
  cases off with
  | true =>
    go_enter Try.func27, Try.ntmps27
    go_wp2_with fail
    refine Calls.mono H.out ?_; rintro e w1 ⟨rfl, rfl⟩
    go_wp2_with fail
    go_ret2
    exact ⟨rfl, rfl⟩
  | false =>
    go_enter Try.func27, Try.ntmps27
    go_wp2_with fail
    refine Calls.mono H.out ?_; rintro e w1 ⟨rfl, rfl⟩
    go_wp2_with fail
    go_ret2
    exact ⟨rfl, rfl⟩
end Go.Proofs.Ytbjijacpgklegaa
