/- wal: a log's small methods. wal: groups of records. wal: a group's bytes. wal: the sector that a place parts. -/
import Derived.Test.YthfhjfemcmdmfaaOpen
import Derived.Deep.QuietTactic
namespace Go.Proofs.Ythfhjfemcmdmfaa
open Go.ChangeShapes Go.WideShapes Go.ChangeAt Go.RowKit
set_option linter.unusedVariables false
set_option maxRecDepth 100000

theorem LogAt.kept {w w' : World} {F G : Nat → Prop} {q p a b t used : Nat} {R : List ByteArray} {v : Value} (h : LogAt w F q p a b t R used v) (k : Kept G w w') (hq : ¬ G q) (hv : ∀ i, v.ownBlock = some i → ¬ G i) {F' : Nat → Prop} (hF : Grew F F' w) : LogAt w' F' q p a b t R used v :=
  ⟨k.cell h.c0 hq, k.cell h.c1 hq, k.cell h.c2 hq, k.cell h.c3 hq, k.cell h.c4 hq, k.cell h.c5 hq, fun j => (World.frozen?_of_block (w := w) (a := ⟨q, j, none⟩) (k.block q (World.block_lt_of_cell? w _ h.c0) hq)).trans (h.fz j),
    ownsRow_kept h.own (fun i hi => k.block i (h.own.lt i hi).2 (hv i hi)), fun z => (hF q z).elim h.fq (fun z => by have := World.block_lt_of_cell? w _ h.c0; simp at this; omega),
    fun i hi => ⟨fun z => (hF i z).elim (h.fv i hi).1 (fun z => by have := (h.own.lt i hi).2; omega), (h.fv i hi).2⟩⟩
theorem LogAt.step {w w' : World} {F : Nat → Prop} {q p a b t used : Nat} {R : List ByteArray} {v : Value} (h : LogAt w F q p a b t R used v) (k : Kept (fun _ => False) w w') : LogAt w' F q p a b t R used v := h.kept k (fun z => z) (fun _ _ z => z) (fun _ z => .inl z)

/-- Whether a log is open. -/
def Opened (w : World) (v : Value) (o : Bool) : Prop := (v = .pointer none ∧ o = false) ∨ ∃ q x, v = .pointer (some ⟨q, 0, none⟩) ∧ w.cell? ⟨q, 0, none⟩ = some (.pointer x) ∧ o = x.isSome
theorem isOpen_is (v : Value) (o : Bool) (w : World) (h : Opened w v o) : Calls Try.prog 46 #[v] w fun e w' => e = .returned (.bool o) ∧ w' = w := by
  rcases h with ⟨rfl, rfl⟩ | ⟨q, x, rfl, h, rfl⟩
  · go_enter Try.func46, Try.ntmps46
    go_wp2_with fail
    go_ret
    exact ⟨rfl, rfl⟩
  · cases x with
    | none =>
      go_enter Try.func46, Try.ntmps46
      go_wp2_with fail
      go_ret
      exact ⟨rfl, rfl⟩
    | some a =>
      go_enter Try.func46, Try.ntmps46
      go_wp2_with fail
      go_ret
      exact ⟨rfl, rfl⟩
theorem LogAt.opened {w : World} {F : Nat → Prop} {q p a b t used : Nat} {R : List ByteArray} {v : Value} (h : LogAt w F q p a b t R used v) : Opened w (.pointer (some ⟨q, 0, none⟩)) true := .inr ⟨q, _, rfl, h.c0, rfl⟩

theorem used_at {w : World} {F : Nat → Prop} {q p a b t used : Nat} {R : List ByteArray} {v : Value} (h : LogAt w F q p a b t R used v) : Calls Try.prog 26 #[.pointer (some ⟨q, 0, none⟩)] w fun e w' => e = .returned (.int .i64 (used : Int)) ∧ w' = w := by
  have HO := (show Hid _ from isOpen_is _ true w h.opened)
  have c5 := h.c5
  clear h
  go_enter Try.func26, Try.ntmps26
  go_wp2_with fail
  refine Calls.mono HO.out ?_; rintro e w1 ⟨rfl, rfl⟩
  go_wp2_with fail
  go_ret
  exact ⟨rfl, rfl⟩
theorem used_no (v : Value) (w : World) (h : Opened w v false) : Calls Try.prog 26 #[v] w fun e w' => e = .returned (.int .i64 0) ∧ w' = w := by
  have HO := (show Hid _ from isOpen_is _ false w h)
  clear h
  go_enter Try.func26, Try.ntmps26
  go_wp2_with fail
  refine Calls.mono HO.out ?_; rintro e w1 ⟨rfl, rfl⟩
  go_wp2_with fail
  go_ret
  exact ⟨rfl, rfl⟩
theorem sync_no (v : Value) (w : World) (h : Opened w v false) : Calls Try.prog 22 #[v] w fun e w' => e = .returned (.int .i64 1) ∧ w' = w := by
  have HO := (show Hid _ from isOpen_is _ false w h)
  clear h
  go_enter Try.func22, Try.ntmps22
  go_wp2_with fail
  refine Calls.mono HO.out ?_; rintro e w1 ⟨rfl, rfl⟩
  go_wp2_with fail
  go_ret
  exact ⟨rfl, rfl⟩
theorem records_no (v : Value) (w : World) (h : Opened w v false) : Calls Try.prog 24 #[v] w fun e w' => e = .returned (.slice none 0 0) ∧ w' = w := by
  have HO := (show Hid _ from isOpen_is _ false w h)
  clear h
  go_enter Try.func24, Try.ntmps24
  go_wp2_with fail
  refine Calls.mono HO.out ?_; rintro e w1 ⟨rfl, rfl⟩
  go_wp2_with fail
  go_ret
  exact ⟨rfl, rfl⟩
theorem add_no (v u : Value) (w : World) (h : Opened w v false) : Calls Try.prog 21 #[v, u] w fun e w' => e = .returned (.int .i64 1) ∧ w' = w := by
  have HO := (show Hid _ from isOpen_is _ false w h)
  clear h
  go_enter Try.func21, Try.ntmps21
  go_wp2_with fail
  refine Calls.mono HO.out ?_; rintro e w1 ⟨rfl, rfl⟩
  go_wp2_with fail
  go_ret
  exact ⟨rfl, rfl⟩

theorem sync_at {w : World} {F : Nat → Prop} {q p a b t used : Nat} {R : List ByteArray} {v : Value} {d : Dk} (h : LogAt w F q p a b t R used v) (hd : Disk w F p d) (hn : d.Q.length ≤ 1048576) :
    Calls Try.prog 22 #[.pointer (some ⟨q, 0, none⟩)] w fun e w' => e = .returned (.int .i64 (if d.on then 0 else 30)) ∧ Disk w' F p d.flush ∧ LogAt w' F q p a b t R used v ∧ Kept F w w' := by
  have HO := (show Hid _ from isOpen_is _ true w h.opened)
  have HF := (show Hid _ from disk_flush hd hn)
  have c0 := h.c0
  have HL := (show Hid _ from h)
  clear h hd
  generalize (if d.on = true then (0 : Int) else 30) = code at *
  go_enter Try.func22, Try.ntmps22
  go_wp2_with fail
  refine Calls.mono HO.out ?_; rintro e w1 ⟨rfl, rfl⟩
  go_wp2_with fail
  refine Calls.mono HF.out ?_; rintro e w2 ⟨rfl, k1, k2⟩
  have HE : Hid (Disk w2 F p d.flush ∧ LogAt w2 F q p a b t R used v ∧ Kept F w1 w2) := ⟨k1, HL.out.kept k2 HL.out.fq (fun i hi => (HL.out.fv i hi).1) (fun _ z => .inl z), k2⟩
  clear k1 k2 HF HL
  go_wp2_with fail
  go_ret
  exact ⟨rfl, HE.out⟩

theorem records_at {w : World} {F : Nat → Prop} {q p a b t used : Nat} {R : List ByteArray} {v : Value} (h : LogAt w F q p a b t R used v) (hR : R.length ≤ 1048576) :
    Calls Try.prog 24 #[.pointer (some ⟨q, 0, none⟩)] w fun e w' => ∃ v', e = .returned v' ∧ w'.ownsRow w.heap.size 9 1 v' R.length (sv R) ∧ Kept (fun _ => False) w w' := by
  have HO := (show Hid _ from isOpen_is _ true w h.opened)
  have c4 := h.c4
  have HC : Hid (Calls Try.prog 54 #[v] w fun e w' => ∃ v', e = .returned v' ∧ w'.ownsRow w.heap.size 9 1 v' R.length (sv R) ∧ Kept (fun _ => False) w w') := by
    rcases h.own.2 with ⟨rfl, hn⟩ | ⟨g, cap, cur, rfl, _⟩
    · obtain rfl := List.length_eq_zero_iff.1 hn
      refine (Try.slices_Clone_string_nil 0 0 w).mono ?_
      rintro e w' ⟨rfl, rfl⟩
      exact ⟨_, rfl, World.ownsRow_nil _ _ 9 1, Kept.refl _ _⟩
    · refine (Try.slices_Clone_string g 0 R.length cap R w (Nat.le_refl _) (by omega) (fun j hj => ?_)).mono ?_
      · rw [Nat.zero_add, h.own.cellAt j (by omega)]
        simp [sv, hj, List.getD]
      · rintro e w' ⟨v', rfl, o, _, k⟩
        rw [List.take_length] at o
        exact ⟨v', rfl, o, below_kept k⟩
  obtain ⟨vo, vc, rfl⟩ := own_form h.own
  clear h
  go_enter Try.func24, Try.ntmps24
  go_wp2_with fail
  refine Calls.mono HO.out ?_; rintro e w1 ⟨rfl, rfl⟩
  go_wp2_with fail
  refine Calls.mono HC.out ?_; rintro e w2 ⟨v', rfl, o, k⟩
  have HE := (show Hid _ from (⟨o, k⟩ : _ ∧ _))
  clear o k HC
  go_wp2_with fail
  go_ret
  exact ⟨v', rfl, HE.out⟩
end Go.Proofs.Ythfhjfemcmdmfaa

namespace Go.Proofs.Ythfhjfemcmdmfaa
open Go.ChangeShapes Go.WideShapes Go.ChangeAt Go.RowKit
set_option linter.unusedVariables false
set_option maxRecDepth 100000

/-- A list of texts in memory. -/
def Texts (w : World) (v : Value) (g : List ByteArray) : Prop := (∃ a c, v = .slice a 0 c ∧ g = []) ∨ ∃ b o c, v = .slice (some ⟨b, o, none⟩) g.length c ∧ ∀ k (hk : k < g.length), w.cell? ⟨b, o + k, none⟩ = some (.string g[k])
theorem Texts.form {w : World} {v : Value} {g : List ByteArray} (h : Texts w v g) : ∃ a c, v = .slice a g.length c := by
  rcases h with ⟨a, c, rfl, rfl⟩ | ⟨b, o, c, rfl, _⟩
  · exact ⟨a, c, rfl⟩
  · exact ⟨_, c, rfl⟩
theorem Texts.cell {w : World} {a : Option Addr} {c : Nat} {g : List ByteArray} (h : Texts w (.slice a g.length c) g) (k : Nat) (hk : k < g.length) : ∃ b o, a = some ⟨b, o, none⟩ ∧ w.cell? ⟨b, o + k, none⟩ = some (.string g[k]) := by
  rcases h with ⟨_, _, _, rfl⟩ | ⟨b, o, _, e, h⟩
  · exact absurd hk (Nat.not_lt_zero k)
  · cases e; exact ⟨b, o, rfl, h k hk⟩
theorem Texts.kept {w w' : World} {v : Value} {g : List ByteArray} {G : Nat → Prop} (h : Texts w v g) (k : Kept G w w') (hG : ∀ a n c, v = .slice (some a) n c → ¬ G a.block) : Texts w' v g := by
  rcases h with h | ⟨b, o, c, e, h⟩
  · exact .inl h
  · exact .inr ⟨b, o, c, e, fun j hj => k.cell (h j hj) (hG ⟨b, o, none⟩ _ _ e)⟩

/-- A group that may be. -/
def mayG (g : List ByteArray) : Prop := ∀ s, s ∈ g → s.size ≠ 0 ∧ s.size ≤ 1024
instance (g : List ByteArray) : Decidable (mayG g) := by unfold mayG; infer_instance
/-- How many bytes a group has. -/
def sizeG : List ByteArray → Nat
  | [] => 0
  | s :: r => (10 + s.size) + sizeG r
theorem sizeG_append (a b : List ByteArray) : sizeG (a ++ b) = sizeG a + sizeG b := by
  induction a with
  | nil => simp [sizeG]
  | cons x r ih => rw [List.cons_append, sizeG, sizeG, ih]; omega
theorem sizeG_le (g : List ByteArray) (h : mayG g) : sizeG g ≤ 1034 * g.length := by
  induction g with
  | nil => exact Nat.le_refl 0
  | cons x r ih =>
    have h1 := h x (by simp)
    have h2 := ih (fun s hs => h s (by simp [hs]))
    rw [sizeG, List.length_cons]; omega
/-- A group's bytes. -/
def frames (t : Nat) : List ByteArray → List UInt8
  | [] => []
  | s :: r => (frameS t s).data.toList ++ frames t r
theorem frames_append (t : Nat) (a b : List ByteArray) : frames t (a ++ b) = frames t a ++ frames t b := by
  induction a with
  | nil => rfl
  | cons x r ih => rw [List.cons_append, frames, frames, ih, List.append_assoc]
theorem frames_len (t : Nat) (g : List ByteArray) : (frames t g).length = sizeG g := by
  induction g with
  | nil => rfl
  | cons x r ih =>
    rw [frames, List.length_append, ih, sizeG, show (frameS t x).data.toList.length = (frameS t x).size by simp, frameS_size]

theorem mayGroup_is (a : Option Addr) (c : Nat) (g : List ByteArray) (w : World) (h : Texts w (.slice a g.length c) g) (hm : ∀ s, s ∈ g → s.size ≤ 9223372036854775807) (hl : g.length ≤ 1048576) :
    Calls Try.prog 47 #[.slice a g.length c] w fun e w' => e = .returned (.bool (decide (mayG g))) ∧ w' = w := by
  have HC := (show Hid _ from fun k hk => h.cell k hk)
  have HM : Hid (∀ s, s ∈ g → ∀ w, Calls Try.prog 29 #[.string s] w fun e w' => e = .returned (.bool (decide (s.size ≠ 0 ∧ s.size ≤ 1024))) ∧ w' = w) := fun s hs w => mayRecord_is s w (hm s hs)
  clear h hm
  obtain ⟨r, hr⟩ : ∃ r, decide (mayG g) = r := ⟨_, rfl⟩
  have HR := (show Hid _ from hr)
  rw [hr]
  clear hr
  go_enter Try.func47, Try.ntmps47
  go_wp2_with fail
  go_loopw [7] (fun i wr => ∃ k : Nat, k ≤ g.length ∧ i = .int .i64 k ∧ wr = w ∧ Hid (mayG (g.take k)))
    (fun i _ => g.length - (intOf i).toNat)
  case atStart => exact ⟨0, Nat.zero_le _, rfl, rfl, fun s hs => by cases hs⟩
  case round =>
    obtain ⟨k, hk, rfl, rfl, HG⟩ := hrel
    by_cases hlt : k < g.length
    · have hlti : (k : Int) < (g.length : Int) := by omega
      obtain ⟨b, o, rfl, hc⟩ := HC.out k hlt
      have HX := (show Hid _ from HM.out g[k] (List.getElem_mem hlt))
      have HN : Hid (g.take (k + 1) = g.take k ++ [g[k]]) := List.take_succ_eq_append_getElem hlt
      have HME : Hid (g[k] ∈ g) := List.getElem_mem hlt
      generalize g[k] = s at *
      by_cases hs : s.size ≠ 0 ∧ s.size ≤ 1024
      · rw [decide_eq_true hs] at HX
        have H1 : Hid (mayG (g.take (k + 1))) := by
          rw [HN.out]
          intro x hx
          rcases List.mem_append.1 hx with hx | hx
          · exact HG.out x hx
          · rw [List.mem_singleton.1 hx]; exact hs
        clear hs
        go_wp2_with fail
        refine Calls.mono (HX.out _) ?_; rintro e w1 ⟨rfl, rfl⟩
        go_wp2_with fail
        go_roundw
        case rel => exact ⟨k + 1, by omega, by go_num, trivial, H1.out⟩
        case measure => simp [intOf]; omega
      · rw [decide_eq_false hs] at HX
        have H1 : Hid (r = false) := by rw [← HR.out, decide_eq_false (fun z => hs (z s HME.out))]; rfl
        clear hs
        go_wp2_with fail
        refine Calls.mono (HX.out _) ?_; rintro e w1 ⟨rfl, rfl⟩
        go_wp2_with fail
        go_ret
        exact ⟨by rw [H1.out]; rfl, rfl⟩
    · have hlti : ¬ (k : Int) < (g.length : Int) := by omega
      have H1 : Hid (r = true) := by
        have := HG.out
        rw [List.take_of_length_le (by omega)] at this
        rw [← HR.out, decide_eq_true this]; rfl
      go_wp2_with fail
      go_ret
      exact ⟨by rw [H1.out]; rfl, rfl⟩

theorem sizeOf_is (a : Option Addr) (c : Nat) (g : List ByteArray) (w : World) (h : Texts w (.slice a g.length c) g) (hm : mayG g) (hl : g.length ≤ 1024) :
    Calls Try.prog 48 #[.slice a g.length c] w fun e w' => e = .returned (.int .i64 (sizeG g : Int)) ∧ w' = w := by
  have HC := (show Hid _ from fun k hk => h.cell k hk)
  have HM := (show Hid _ from hm)
  clear h hm
  go_enter Try.func48, Try.ntmps48
  go_wp2_with fail
  go_loopw [3, 8] (fun s i wr => ∃ k : Nat, k ≤ g.length ∧ i = .int .i64 k ∧ s = .int .i64 (sizeG (g.take k) : Nat) ∧ wr = w)
    (fun _ i _ => g.length - (intOf i).toNat)
  case atStart => exact ⟨0, Nat.zero_le _, rfl, rfl, rfl⟩
  case round =>
    obtain ⟨k, hk, rfl, rfl, rfl⟩ := hrel
    by_cases hlt : k < g.length
    · have hlti : (k : Int) < (g.length : Int) := by omega
      obtain ⟨b, o, rfl, hc⟩ := HC.out k hlt
      have HN : Hid (sizeG (g.take (k + 1)) = sizeG (g.take k) + (10 + g[k].size)) := by
        show sizeG (g.take (k + 1)) = _
        rw [List.take_succ_eq_append_getElem hlt, sizeG_append]
        simp [sizeG]
      have hs := (HM.out g[k] (List.getElem_mem hlt)).2
      have hb : sizeG (g.take k) ≤ 1034 * k := by
        have := sizeG_le (g.take k) (fun s hs => HM.out s (List.mem_of_mem_take hs))
        rw [List.length_take] at this
        omega
      generalize g[k] = s at *
      generalize sizeG (g.take k) = z at *
      go_wp2_with fail
      go_roundw
      case rel => exact ⟨k + 1, by omega, by go_num, by rw [HN.out]; go_num, trivial⟩
      case measure => simp [intOf]; omega
    · have hlti : ¬ (k : Int) < (g.length : Int) := by omega
      have ek : g.take k = g := List.take_of_length_le (by omega)
      rw [ek]
      clear ek
      go_wp2_with fail
      go_ret
      exact ⟨rfl, rfl⟩
end Go.Proofs.Ythfhjfemcmdmfaa

namespace Go.Proofs.Ythfhjfemcmdmfaa
open Go.ChangeShapes Go.WideShapes Go.ChangeAt Go.RowKit
set_option linter.unusedVariables false
set_option maxRecDepth 100000

theorem builder_kept {T e B b : Nat} {bs : List Value} {w w' : World} (h : Lib.IsBuilder T e B b bs w) (k : Kept (fun _ => False) w w') : Lib.IsBuilder T e B b bs w' := by
  have key : ∀ p, Lib.BuilderAt T e B b p bs w → Lib.BuilderAt T e B b p bs w' := by
    rintro p ⟨h1, v, h2, h3, h4⟩
    exact ⟨h1, v, (k.block b (Array.getElem?_eq_some_iff.1 h2).1 (fun q => q)).trans h2, ownsRow_kept h3 (fun i hi => k.block i (h3.lt i hi).2 (fun q => q)), h4⟩
  exact h.imp (key _) (key _)

theorem framed_is {w : World} (q t : Nat) (hq : w.cell? ⟨q, 3, none⟩ = some (.int .i64 (t : Int))) (ht : 1 ≤ t ∧ t ≤ 2147483647) (a : Option Addr) (c : Nat) (g : List ByteArray) (h : Texts w (.slice a g.length c) g) (hm : mayG g) (hl : g.length ≤ 64) :
    Calls Try.prog 51 #[.pointer (some ⟨q, 0, none⟩), .slice a g.length c] w fun e w' => e = .returned (.string ⟨(frames t g).toArray⟩) ∧ Kept (fun _ => False) w w' := by
  have HC := (show Hid _ from fun k hk => h.cell k hk)
  have HM := (show Hid _ from hm)
  have HF : Hid (∀ s, s.size ≠ 0 ∧ s.size ≤ 1024 → ∀ w, Calls Try.prog 9 #[.int .i64 (t : Int), .string s] w fun e w' => e = .returned (.tuple #[.string (frameS t s), .int .i64 0]) ∧ Kept (fun _ => False) w w') := fun s hs w => frame_is t s ht hs w
  have hqw : q < w.heap.size := World.block_lt_of_cell? w _ hq
  have HQ := (show Hid _ from hq)
  have H0 : Hid (Lib.IsBuilder 83 5 w.heap.size w.heap.size (Lib.byteCells (frames t (g.take 0))) (w.alloc (.cells #[.pointer none, .slice none 0 0] 83)) ∧ Below w.heap.size w (w.alloc (.cells #[.pointer none, .slice none 0 0] 83))) := ⟨Lib.fresh_isBuilder 83 5 w, (Below.refl _ w).alloc (Nat.le_refl _) _⟩
  clear h hm hq
  go_enter Try.func51, Try.ntmps51
  go_wp2_with fail
  go_loopw [12] (fun i wr => ∃ k : Nat, k ≤ g.length ∧ i = .int .i64 k ∧ Hid (Lib.IsBuilder 83 5 w.heap.size w.heap.size (Lib.byteCells (frames t (g.take k))) wr ∧ Below w.heap.size w wr))
    (fun i _ => g.length - (intOf i).toNat)
  case atStart => exact ⟨0, Nat.zero_le _, rfl, H0.out⟩
  case round =>
    obtain ⟨k, hk, rfl, HG⟩ := hrel
    clear H0
    by_cases hlt : k < g.length
    · have hlti : (k : Int) < (g.length : Int) := by omega
      obtain ⟨b, o, rfl, hc⟩ := HC.out k hlt
      have hc' : wr.cell? ⟨b, o + k, none⟩ = some (.string g[k]) := (HG.out.2.cell (World.block_lt_of_cell? w _ hc)).trans hc
      have hq' : wr.cell? ⟨q, 3, none⟩ = some (.int .i64 (t : Int)) := (HG.out.2.cell hqw).trans HQ.out
      have HX := (show Hid _ from HF.out g[k] (HM.out _ (List.getElem_mem hlt)))
      have HN : Hid (Lib.byteCells (frames t (g.take k)) ++ Lib.strCells (frameS t g[k]) = Lib.byteCells (frames t (g.take (k + 1)))) := by
        show _ = Lib.byteCells (frames t (g.take (k + 1)))
        rw [List.take_succ_eq_append_getElem hlt, frames_append, Lib.strCells_eq]
        simp [Lib.byteCells, frames]
      have hs := (HM.out g[k] (List.getElem_mem hlt)).2
      have hfs : (frameS t g[k]).size ≤ 1034 := by rw [frameS_size]; omega
      have hb : (Lib.byteCells (frames t (g.take k))).length ≤ 1034 * k := by
        rw [Lib.byteCells_length, frames_len]
        have := sizeG_le (g.take k) (fun s hs => HM.out s (List.mem_of_mem_take hs))
        rw [List.length_take] at this
        omega
      have hlen : (Lib.byteCells (frames t (g.take k))).length + (frameS t g[k]).size ≤ 1048576 := by omega
      have HLEN := (show Hid _ from hlen)
      clear hc hlen hb hfs hs
      generalize frameS t g[k] = fs at *
      generalize g[k] = s at *
      go_wp2_with fail
      refine Calls.mono (HX.out _) ?_; rintro e w1 ⟨rfl, k1⟩
      have HB1 := (show Hid _ from builder_kept HG.out.1 k1)
      have HL1 : Hid (Below w.heap.size w w1) := HG.out.2.trans (k1.below HG.out.2.size (fun _ z => z.elim))
      have HW := (show Hid _ from build_write HB1.out fs HLEN.out HL1.out.size)
      clear k1 HG HX
      go_wp2_with fail
      refine Calls.mono HW.out ?_; rintro e w2 ⟨rfl, h1, h2⟩
      have H2 : Hid (Lib.IsBuilder 83 5 w.heap.size w.heap.size (Lib.byteCells (frames t (g.take (k + 1)))) w2 ∧ Below w.heap.size w w2) := ⟨.inr (by rw [← HN.out]; exact h1), HL1.out.trans h2⟩
      clear h1 h2 HW HB1 HL1
      go_wp2_with fail
      go_roundw
      case rel => exact ⟨k + 1, by omega, by go_num, H2.out⟩
      case measure => simp [intOf]; omega
    · have hlti : ¬ (k : Int) < (g.length : Int) := by omega
      have ek : g.take k = g := List.take_of_length_le (by omega)
      rw [ek] at HG
      have HS := (show Hid _ from Try.Builder_String_any w.heap.size w.heap.size (frames t g) wr HG.out.1 HG.out.2.size)
      clear ek
      go_wp2_with fail
      refine Calls.mono HS.out ?_; rintro e w1 ⟨rfl, k1⟩
      have HL1 : Hid (Below w.heap.size w w1) := HG.out.2.trans k1
      clear k1 HS
      go_wp2_with fail
      go_ret
      exact ⟨rfl, below_kept HL1.out⟩
end Go.Proofs.Ythfhjfemcmdmfaa

namespace Go.Proofs.Ythfhjfemcmdmfaa
open Go.ChangeShapes Go.WideShapes Go.ChangeAt Go.RowKit
set_option linter.unusedVariables false
set_option maxRecDepth 100000

theorem kept_drewN (w : World) (m : Nat) : Kept (fun _ => False) w (w.drewN m) := ⟨rfl, rfl, rfl, Nat.le_refl _, fun _ _ _ => rfl⟩

theorem parted_even {w : World} (q : Nat) (place : Nat) (hp : place ≤ 1048576) (h0 : place % 32 = 0) :
    Calls Try.prog 65 #[.pointer (some ⟨q, 0, none⟩), .int .i64 (place : Int)] w fun e w' => e = .returned (.tuple #[.string ⟨#[]⟩, .string ⟨#[]⟩, .int .i64 0]) ∧ w' = w := by
  have hm : (place : Int).tmod 32 = 0 := by rw [show ((32 : Int)) = ((32 : Nat) : Int) from rfl, ← Int.ofNat_tmod, h0]; rfl
  go_enter Try.func65, Try.ntmps65
  go_wp2_with fail
  go_ret3
  exact ⟨rfl, rfl⟩

theorem parted_in {w : World} {F : Nat → Prop} {q p a b t used : Nat} {R : List ByteArray} {v : Value} {d : Dk} (h : LogAt w F q p a b t R used v) (hd : Disk w F p d) (hoff : d.off = false) (place : Nat) (hp : place ≤ 1048576) (h0 : place % 32 ≠ 0) (hlt : a + place / 32 < d.n) :
    Calls Try.prog 65 #[.pointer (some ⟨q, 0, none⟩), .int .i64 (place : Int)] w fun e w' => e = .returned (.tuple #[.string ((⟨(d.last (a + place / 32)).toArray⟩ : ByteArray).extract 0 (place % 32)), .string ((⟨(d.last (a + place / 32)).toArray⟩ : ByteArray).extract (place % 32) 32), .int .i64 0]) ∧ ∃ m, w' = w.drewN m := by
  have hn := hd.sized.2
  have hm : (place : Int).tmod 32 = ((place % 32 : Nat) : Int) := (Int.ofNat_tmod place 32).symm
  have hdv : (place : Int).tdiv 32 = ((place / 32 : Nat) : Int) := (Int.ofNat_tdiv place 32).symm
  have h0i : (((place % 32 : Nat) : Int) == 0) = false := by simp; omega
  have HR : Hid (∀ m, Calls Try.prog 27 #[.pointer (some ⟨p, 0, none⟩), .int .i64 ((a : Int) + ((place / 32 : Nat) : Int))] (w.drewN m) fun e w' => e = .returned (.tuple #[.string ⟨(d.last (a + place / 32)).toArray⟩, .int .i64 0]) ∧ w' = w.drewN m) := fun m => by
    have := read_is (hd.kept (kept_drewN w m) (fun _ _ z => z)) (a + place / 32) hlt
    rw [hoff, if_neg (by simp)] at this
    exact this
  have hsz : (⟨(d.last (a + place / 32)).toArray⟩ : ByteArray).size = 32 := hd.lastLen _ hlt
  generalize (⟨(d.last (a + place / 32)).toArray⟩ : ByteArray) = x at *
  have c0 := h.c0
  have c1 := h.c1
  have hi : place % 32 < 32 := Nat.mod_lt _ (by omega)
  have hq' : place / 32 ≤ 32768 := by omega
  generalize place % 32 = i at *
  generalize place / 32 = j at *
  have hii : (i : Int) ≤ 32 := by omega
  clear h hd
  go_enter Try.func65, Try.ntmps65
  go_wp2_with fail
  go_quiet (first | with_reducible exact Calls.quiet_of_same (HR.out _))
  have HK : Hid (∃ m, (w.drewN nq).drew = w.drewN m) := ⟨nq + 1, rfl⟩
  generalize w.drewN nq = wd at *
  go_wp2_with fail
  refine wp_region_still_lit (by kernel_rfl) (by kernel_rfl) ?_
  rw [show ({ wd with drawn := wd.drawn + 1 } : World) = wd.drew from rfl]
  iterate 9 still_step
  refine wpStill_nil ?_
  generalize wd.drew = we at *
  go_wp2_with fail
  go_ret3
  exact ⟨rfl, HK.out⟩

/-- A sector ahead of a place, and from there on. -/
def partA (d : Dk) (a place : Nat) : ByteArray := if place % 32 = 0 then ⟨#[]⟩ else (⟨(d.last (a + place / 32)).toArray⟩ : ByteArray).extract 0 (place % 32)
def partB (d : Dk) (a place : Nat) : ByteArray := if place % 32 = 0 then ⟨#[]⟩ else (⟨(d.last (a + place / 32)).toArray⟩ : ByteArray).extract (place % 32) 32
theorem parted_is {w : World} {F : Nat → Prop} {q p a b t used : Nat} {R : List ByteArray} {v : Value} {d : Dk} (h : LogAt w F q p a b t R used v) (hd : Disk w F p d) (hoff : d.off = false) (place : Nat) (hp : place ≤ 1048576) (hlt : place % 32 ≠ 0 → a + place / 32 < d.n) (m : Nat) :
    Calls Try.prog 65 #[.pointer (some ⟨q, 0, none⟩), .int .i64 (place : Int)] (w.drewN m) fun e w' => e = .returned (.tuple #[.string (partA d a place), .string (partB d a place), .int .i64 0]) ∧ ∃ n, w' = w.drewN n := by
  have hk := kept_drewN w m
  unfold partA partB
  by_cases h0 : place % 32 = 0
  · rw [if_pos h0, if_pos h0]
    refine (parted_even q place hp h0).mono ?_
    rintro e w' ⟨rfl, rfl⟩
    exact ⟨rfl, m, rfl⟩
  · rw [if_neg h0, if_neg h0]
    refine (parted_in (h.step hk) (hd.kept hk (fun _ _ z => z)) hoff place hp h0 (hlt h0)).mono ?_
    rintro e w' ⟨rfl, n, rfl⟩
    exact ⟨rfl, m + n, by simp [World.drewN, Nat.add_assoc]⟩
theorem partA_size {w : World} {F : Nat → Prop} {p : Nat} {d : Dk} (hd : Disk w F p d) (a place : Nat) (hlt : place % 32 ≠ 0 → a + place / 32 < d.n) : (partA d a place).size = place % 32 := by
  unfold partA
  split
  · rename_i h; rw [h]; rfl
  · rename_i h
    have := hd.lastLen _ (hlt h)
    have hs : (⟨(d.last (a + place / 32)).toArray⟩ : ByteArray).size = 32 := this
    simp [hs]; omega
theorem partB_size {w : World} {F : Nat → Prop} {p : Nat} {d : Dk} (hd : Disk w F p d) (a place : Nat) (hlt : place % 32 ≠ 0 → a + place / 32 < d.n) : (partB d a place).size = (32 - place % 32) % 32 := by
  unfold partB
  split
  · rename_i h; rw [h]; rfl
  · rename_i h
    have := hd.lastLen _ (hlt h)
    have hs : (⟨(d.last (a + place / 32)).toArray⟩ : ByteArray).size = 32 := this
    simp [hs]; omega

/-- One sector is written. -/
theorem tell_write {w : World} {F : Nat → Prop} {p : Nat} {d : Dk} (hd : Disk w F p d) (N L q : Nat) (hN : w.cell? ⟨N, 0, none⟩ = some (.pointer (some ⟨q, 0, none⟩))) (hq : w.cell? ⟨q, 0, none⟩ = some (.pointer (some ⟨p, 0, none⟩))) (x : ByteArray) (hL : w.cell? ⟨L, 0, none⟩ = some (.string x)) (hLf : w.frozen? ⟨L, 0, none⟩ = false) (hLF : ¬ F L) (hLN : L ≠ N) (hLq : L ≠ q)
    (hx : 32 ≤ x.size) (hxs : x.size ≤ 1048576) (i : Nat) (hi : i < d.n) (hQ : d.Q.length < 1048576) :
    Calls Try.prog 66 #[.int .i64 (i : Int), .pointer (some ⟨L, 0, none⟩), .pointer (some ⟨N, 0, none⟩)] w fun e w' => e = .returned (.int .i64 (if d.on then 0 else 30)) ∧ ∃ F', Disk w' F' p (d.write i (x.extract 0 32).data.toList) ∧ w'.cell? ⟨L, 0, none⟩ = some (.string (x.extract 32 x.size)) ∧ w'.frozen? ⟨L, 0, none⟩ = false ∧ Kept (fun k => F k ∨ k = L) w w' ∧ Grew F F' w := by
  obtain ⟨W, hW⟩ : ∃ W, W = w.setCell ⟨L, 0, none⟩ (.string (x.extract 32 x.size)) := ⟨_, rfl⟩
  have kW : Kept (fun k => k = L) w W := by rw [hW]; exact (Kept.refl (fun k => k = L) w).setCell (p := ⟨L, 0, none⟩) (.inl rfl) _
  have hdW := hd.kept kW (fun k hk z => hLF (z ▸ hk))
  have HWr := (show Hid _ from disk_write hdW i hi (x.extract 0 32) (by simp; omega) hQ)
  have LW : W.cell? ⟨L, 0, none⟩ = some (.string (x.extract 32 x.size)) := by rw [hW]; exact World.cell?_setCell_same _ _ _ hL
  have LfW : W.frozen? ⟨L, 0, none⟩ = false := by rw [hW]; simpa using hLf
  have HW := (show Hid _ from hW)
  have HK : Hid (Kept (fun k => k = L) w W ∧ W.cell? ⟨L, 0, none⟩ = some (.string (x.extract 32 x.size)) ∧ W.frozen? ⟨L, 0, none⟩ = false ∧ ¬ F L ∧ L < W.heap.size) := ⟨kW, LW, LfW, hLF, World.block_lt_of_cell? W _ LW⟩
  have nW := kW.cell hN (fun z => hLN z.symm)
  have qW := kW.cell hq (fun z => hLq z.symm)
  generalize (if d.on = true then (0 : Int) else 30) = code at *
  have hx32 : (32 : Int) ≤ (x.size : Int) := by omega
  rw [hW] at nW qW
  clear hW kW LW LfW hd hdW hN hq
  go_enter Try.func66, Try.ntmps66
  go_wp2_with fail
  rw [← HW.out]
  refine Calls.mono HWr.out ?_; rintro e w2 ⟨rfl, F', k1, k2, k3⟩
  obtain ⟨z1, z2, z3, z4, z5⟩ := HK.out
  have HE : Hid (∃ F', Disk w2 F' p (d.write i (x.extract 0 32).data.toList) ∧ w2.cell? ⟨L, 0, none⟩ = some (.string (x.extract 32 x.size)) ∧ w2.frozen? ⟨L, 0, none⟩ = false ∧ Kept (fun k => F k ∨ k = L) w w2 ∧ Grew F F' w) :=
    ⟨F', k1, k2.cell z2 z4, (World.frozen?_of_block (w := W) (a := ⟨L, 0, none⟩) (k2.block L z5 z4)).trans z3, (z1.mono (fun _ z => .inr z)).trans k2 (fun _ z => .inl (.inl z)), fun k hk => (k3 k hk).imp id (fun z => Nat.le_trans z1.size z)⟩
  clear k1 k2 k3 HWr z1 z2 z3 z4 z5
  go_wp2_with fail
  go_ret
  exact ⟨rfl, HE.out⟩
end Go.Proofs.Ythfhjfemcmdmfaa
