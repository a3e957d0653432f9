/- wal: a log's small methods. -/
import Derived.Test.YtbjijacpgklegaaOpen
namespace Go.Proofs.Ytbjijacpgklegaa
open Go.ChangeShapes Go.WideShapes Go.ChangeAt Go.RowKit
set_option linter.unusedVariables false
set_option maxRecDepth 100000

theorem LogAt.kept {w w' : World} {F G : Nat → Prop} {q p a b t used : Nat} {R : List ByteArray} {v : Value} (h : LogAt w F q p a b t R used v) (k : Kept G w w') (hq : ¬ G q) (hv : ∀ i, v.ownBlock = some i → ¬ G i) {F' : Nat → Prop} (hF : Grew F F' w) : LogAt w' F' q p a b t R used v :=
  ⟨k.cell h.c0 hq, k.cell h.c1 hq, k.cell h.c2 hq, k.cell h.c3 hq, k.cell h.c4 hq, k.cell h.c5 hq, fun j => (World.frozen?_of_block (w := w) (a := ⟨q, j, none⟩) (k.block q (World.block_lt_of_cell? w _ h.c0) hq)).trans (h.fz j),
    ownsRow_kept h.own (fun i hi => k.block i (h.own.lt i hi).2 (hv i hi)), fun z => (hF q z).elim h.fq (fun z => by have := World.block_lt_of_cell? w _ h.c0; simp at this; omega),
    fun i hi => ⟨fun z => (hF i z).elim (h.fv i hi).1 (fun z => by have := (h.own.lt i hi).2; omega), (h.fv i hi).2⟩⟩
theorem LogAt.step {w w' : World} {F : Nat → Prop} {q p a b t used : Nat} {R : List ByteArray} {v : Value} (h : LogAt w F q p a b t R used v) (k : Kept (fun _ => False) w w') : LogAt w' F q p a b t R used v := h.kept k (fun z => z) (fun _ _ z => z) (fun _ z => .inl z)

/-- Whether a log is open. -/
def Opened (w : World) (v : Value) (o : Bool) : Prop := (v = .pointer none ∧ o = false) ∨ ∃ q x, v = .pointer (some ⟨q, 0, none⟩) ∧ w.cell? ⟨q, 0, none⟩ = some (.pointer x) ∧ o = x.isSome
theorem isOpen_is (v : Value) (o : Bool) (w : World) (h : Opened w v o) : Calls Try.prog 46 #[v] w fun e w' => e = .returned (.bool o) ∧ w' = w := by
  rcases h with ⟨rfl, rfl⟩ | ⟨q, x, rfl, h, rfl⟩
  · go_enter Try.func46, Try.ntmps46
    go_wp2_with fail
    go_ret
    exact ⟨rfl, rfl⟩
  · cases x with
    | none =>
      go_enter Try.func46, Try.ntmps46
      go_wp2_with fail
      go_ret
      exact ⟨rfl, rfl⟩
    | some a =>
      go_enter Try.func46, Try.ntmps46
      go_wp2_with fail
      go_ret
      exact ⟨rfl, rfl⟩
theorem LogAt.opened {w : World} {F : Nat → Prop} {q p a b t used : Nat} {R : List ByteArray} {v : Value} (h : LogAt w F q p a b t R used v) : Opened w (.pointer (some ⟨q, 0, none⟩)) true := .inr ⟨q, _, rfl, h.c0, rfl⟩

theorem used_at {w : World} {F : Nat → Prop} {q p a b t used : Nat} {R : List ByteArray} {v : Value} (h : LogAt w F q p a b t R used v) : Calls Try.prog 26 #[.pointer (some ⟨q, 0, none⟩)] w fun e w' => e = .returned (.int .i64 (used : Int)) ∧ w' = w := by
  have HO := (show Hid _ from isOpen_is _ true w h.opened)
  have c5 := h.c5
  clear h
  go_enter Try.func26, Try.ntmps26
  go_wp2_with fail
  refine Calls.mono HO.out ?_; rintro e w1 ⟨rfl, rfl⟩
  go_wp2_with fail
  go_ret
  exact ⟨rfl, rfl⟩
theorem used_no (v : Value) (w : World) (h : Opened w v false) : Calls Try.prog 26 #[v] w fun e w' => e = .returned (.int .i64 0) ∧ w' = w := by
  have HO := (show Hid _ from isOpen_is _ false w h)
  clear h
  go_enter Try.func26, Try.ntmps26
  go_wp2_with fail
  refine Calls.mono HO.out ?_; rintro e w1 ⟨rfl, rfl⟩
  go_wp2_with fail
  go_ret
  exact ⟨rfl, rfl⟩
theorem sync_no (v : Value) (w : World) (h : Opened w v false) : Calls Try.prog 22 #[v] w fun e w' => e = .returned (.int .i64 1) ∧ w' = w := by
  have HO := (show Hid _ from isOpen_is _ false w h)
  clear h
  go_enter Try.func22, Try.ntmps22
  go_wp2_with fail
  refine Calls.mono HO.out ?_; rintro e w1 ⟨rfl, rfl⟩
  go_wp2_with fail
  go_ret
  exact ⟨rfl, rfl⟩
theorem records_no (v : Value) (w : World) (h : Opened w v false) : Calls Try.prog 24 #[v] w fun e w' => e = .returned (.slice none 0 0) ∧ w' = w := by
  have HO := (show Hid _ from isOpen_is _ false w h)
  clear h
  go_enter Try.func24, Try.ntmps24
  go_wp2_with fail
  refine Calls.mono HO.out ?_; rintro e w1 ⟨rfl, rfl⟩
  go_wp2_with fail
  go_ret
  exact ⟨rfl, rfl⟩
theorem add_no (v u : Value) (w : World) (h : Opened w v false) : Calls Try.prog 21 #[v, u] w fun e w' => e = .returned (.int .i64 1) ∧ w' = w := by
  have HO := (show Hid _ from isOpen_is _ false w h)
  clear h
  go_enter Try.func21, Try.ntmps21
  go_wp2_with fail
  refine Calls.mono HO.out ?_; rintro e w1 ⟨rfl, rfl⟩
  go_wp2_with fail
  go_ret
  exact ⟨rfl, rfl⟩

theorem sync_at {w : World} {F : Nat → Prop} {q p a b t used : Nat} {R : List ByteArray} {v : Value} {d : Dk} (h : LogAt w F q p a b t R used v) (hd : Disk w F p d) (hn : d.Q.length ≤ 1048576) :
    Calls Try.prog 22 #[.pointer (some ⟨q, 0, none⟩)] w fun e w' => e = .returned (.int .i64 (if d.on then 0 else 30)) ∧ Disk w' F p d.flush ∧ LogAt w' F q p a b t R used v ∧ Kept F w w' := by
  have HO := (show Hid _ from isOpen_is _ true w h.opened)
  have HF := (show Hid _ from disk_flush hd hn)
  have c0 := h.c0
  have HL := (show Hid _ from h)
  clear h hd
  generalize (if d.on = true then (0 : Int) else 30) = code at *
  go_enter Try.func22, Try.ntmps22
  go_wp2_with fail
  refine Calls.mono HO.out ?_; rintro e w1 ⟨rfl, rfl⟩
  go_wp2_with fail
  refine Calls.mono HF.out ?_; rintro e w2 ⟨rfl, k1, k2⟩
  have HE : Hid (Disk w2 F p d.flush ∧ LogAt w2 F q p a b t R used v ∧ Kept F w1 w2) := ⟨k1, HL.out.kept k2 HL.out.fq (fun i hi => (HL.out.fv i hi).1) (fun _ z => .inl z), k2⟩
  clear k1 k2 HF HL
  go_wp2_with fail
  go_ret
  exact ⟨rfl, HE.out⟩

theorem records_at {w : World} {F : Nat → Prop} {q p a b t used : Nat} {R : List ByteArray} {v : Value} (h : LogAt w F q p a b t R used v) (hR : R.length ≤ 1048576) :
    Calls Try.prog 24 #[.pointer (some ⟨q, 0, none⟩)] w fun e w' => ∃ v', e = .returned v' ∧ w'.ownsRow w.heap.size 9 1 v' R.length (sv R) ∧ Kept (fun _ => False) w w' := by
  have HO := (show Hid _ from isOpen_is _ true w h.opened)
  have c4 := h.c4
  have HC : Hid (Calls Try.prog 54 #[v] w fun e w' => ∃ v', e = .returned v' ∧ w'.ownsRow w.heap.size 9 1 v' R.length (sv R) ∧ Kept (fun _ => False) w w') := by
    rcases h.own.2 with ⟨rfl, hn⟩ | ⟨g, cap, cur, rfl, _⟩
    · obtain rfl := List.length_eq_zero_iff.1 hn
      refine (Try.slices_Clone_string_nil 0 0 w).mono ?_
      rintro e w' ⟨rfl, rfl⟩
      exact ⟨_, rfl, World.ownsRow_nil _ _ 9 1, Kept.refl _ _⟩
    · refine (Try.slices_Clone_string g 0 R.length cap R w (Nat.le_refl _) (by omega) (fun j hj => ?_)).mono ?_
      · rw [Nat.zero_add, h.own.cellAt j (by omega)]
        simp [sv, hj, List.getD]
      · rintro e w' ⟨v', rfl, o, _, k⟩
        rw [List.take_length] at o
        exact ⟨v', rfl, o, below_kept k⟩
  obtain ⟨vo, vc, rfl⟩ := own_form h.own
  clear h
  go_enter Try.func24, Try.ntmps24
  go_wp2_with fail
  refine Calls.mono HO.out ?_; rintro e w1 ⟨rfl, rfl⟩
  go_wp2_with fail
  refine Calls.mono HC.out ?_; rintro e w2 ⟨v', rfl, o, k⟩
  have HE := (show Hid _ from (⟨o, k⟩ : _ ∧ _))
  clear o k HC
  go_wp2_with fail
  go_ret
  exact ⟨v', rfl, HE.out⟩
end Go.Proofs.Ytbjijacpgklegaa
