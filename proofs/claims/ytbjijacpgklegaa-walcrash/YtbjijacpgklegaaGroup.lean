/- wal: groups of records. -/
import Derived.Test.YtbjijacpgklegaaLog
namespace Go.Proofs.Ytbjijacpgklegaa
open Go.ChangeShapes Go.WideShapes Go.ChangeAt Go.RowKit
set_option linter.unusedVariables false
set_option maxRecDepth 100000

/-- A list of texts in memory. -/
def Texts (w : World) (v : Value) (g : List ByteArray) : Prop := (∃ a c, v = .slice a 0 c ∧ g = []) ∨ ∃ b o c, v = .slice (some ⟨b, o, none⟩) g.length c ∧ ∀ k (hk : k < g.length), w.cell? ⟨b, o + k, none⟩ = some (.string g[k])
theorem Texts.form {w : World} {v : Value} {g : List ByteArray} (h : Texts w v g) : ∃ a c, v = .slice a g.length c := by
  rcases h with ⟨a, c, rfl, rfl⟩ | ⟨b, o, c, rfl, _⟩
  · exact ⟨a, c, rfl⟩
  · exact ⟨_, c, rfl⟩
theorem Texts.cell {w : World} {a : Option Addr} {c : Nat} {g : List ByteArray} (h : Texts w (.slice a g.length c) g) (k : Nat) (hk : k < g.length) : ∃ b o, a = some ⟨b, o, none⟩ ∧ w.cell? ⟨b, o + k, none⟩ = some (.string g[k]) := by
  rcases h with ⟨_, _, _, rfl⟩ | ⟨b, o, _, e, h⟩
  · exact absurd hk (Nat.not_lt_zero k)
  · cases e; exact ⟨b, o, rfl, h k hk⟩
theorem Texts.kept {w w' : World} {v : Value} {g : List ByteArray} {G : Nat → Prop} (h : Texts w v g) (k : Kept G w w') (hG : ∀ a n c, v = .slice (some a) n c → ¬ G a.block) : Texts w' v g := by
  rcases h with h | ⟨b, o, c, e, h⟩
  · exact .inl h
  · exact .inr ⟨b, o, c, e, fun j hj => k.cell (h j hj) (hG ⟨b, o, none⟩ _ _ e)⟩

/-- A group that may be. -/
def mayG (g : List ByteArray) : Prop := ∀ s, s ∈ g → s.size ≠ 0 ∧ s.size ≤ 1024
instance (g : List ByteArray) : Decidable (mayG g) := by unfold mayG; infer_instance
/-- How many bytes a group has. -/
def sizeG : List ByteArray → Nat
  | [] => 0
  | s :: r => (10 + s.size) + sizeG r
theorem sizeG_append (a b : List ByteArray) : sizeG (a ++ b) = sizeG a + sizeG b := by
  induction a with
  | nil => simp [sizeG]
  | cons x r ih => rw [List.cons_append, sizeG, sizeG, ih]; omega
theorem sizeG_le (g : List ByteArray) (h : mayG g) : sizeG g ≤ 1034 * g.length := by
  induction g with
  | nil => exact Nat.le_refl 0
  | cons x r ih =>
    have h1 := h x (by simp)
    have h2 := ih (fun s hs => h s (by simp [hs]))
    rw [sizeG, List.length_cons]; omega
/-- A group's bytes. -/
def frames (t : Nat) : List ByteArray → List UInt8
  | [] => []
  | s :: r => (frameS t s).data.toList ++ frames t r
theorem frames_append (t : Nat) (a b : List ByteArray) : frames t (a ++ b) = frames t a ++ frames t b := by
  induction a with
  | nil => rfl
  | cons x r ih => rw [List.cons_append, frames, frames, ih, List.append_assoc]
theorem frames_len (t : Nat) (g : List ByteArray) : (frames t g).length = sizeG g := by
  induction g with
  | nil => rfl
  | cons x r ih =>
    rw [frames, List.length_append, ih, sizeG, show (frameS t x).data.toList.length = (frameS t x).size by simp, frameS_size]

theorem mayGroup_is (a : Option Addr) (c : Nat) (g : List ByteArray) (w : World) (h : Texts w (.slice a g.length c) g) (hm : ∀ s, s ∈ g → s.size ≤ 9223372036854775807) (hl : g.length ≤ 1048576) :
    Calls Try.prog 47 #[.slice a g.length c] w fun e w' => e = .returned (.bool (decide (mayG g))) ∧ w' = w := by
  have HC := (show Hid _ from fun k hk => h.cell k hk)
  have HM : Hid (∀ s, s ∈ g → ∀ w, Calls Try.prog 29 #[.string s] w fun e w' => e = .returned (.bool (decide (s.size ≠ 0 ∧ s.size ≤ 1024))) ∧ w' = w) := fun s hs w => mayRecord_is s w (hm s hs)
  clear h hm
  obtain ⟨r, hr⟩ : ∃ r, decide (mayG g) = r := ⟨_, rfl⟩
  have HR := (show Hid _ from hr)
  rw [hr]
  clear hr
  go_enter Try.func47, Try.ntmps47
  go_wp2_with fail
  go_loopw [7] (fun i wr => ∃ k : Nat, k ≤ g.length ∧ i = .int .i64 k ∧ wr = w ∧ Hid (mayG (g.take k)))
    (fun i _ => g.length - (intOf i).toNat)
  case atStart => exact ⟨0, Nat.zero_le _, rfl, rfl, fun s hs => by cases hs⟩
  case round =>
    obtain ⟨k, hk, rfl, rfl, HG⟩ := hrel
    by_cases hlt : k < g.length
    · have hlti : (k : Int) < (g.length : Int) := by omega
      obtain ⟨b, o, rfl, hc⟩ := HC.out k hlt
      have HX := (show Hid _ from HM.out g[k] (List.getElem_mem hlt))
      have HN : Hid (g.take (k + 1) = g.take k ++ [g[k]]) := List.take_succ_eq_append_getElem hlt
      have HME : Hid (g[k] ∈ g) := List.getElem_mem hlt
      generalize g[k] = s at *
      by_cases hs : s.size ≠ 0 ∧ s.size ≤ 1024
      · rw [decide_eq_true hs] at HX
        have H1 : Hid (mayG (g.take (k + 1))) := by
          rw [HN.out]
          intro x hx
          rcases List.mem_append.1 hx with hx | hx
          · exact HG.out x hx
          · rw [List.mem_singleton.1 hx]; exact hs
        clear hs
        go_wp2_with fail
        refine Calls.mono (HX.out _) ?_; rintro e w1 ⟨rfl, rfl⟩
        go_wp2_with fail
        go_roundw
        case rel => exact ⟨k + 1, by omega, by go_num, trivial, H1.out⟩
        case measure => simp [intOf]; omega
      · rw [decide_eq_false hs] at HX
        have H1 : Hid (r = false) := by rw [← HR.out, decide_eq_false (fun z => hs (z s HME.out))]; rfl
        clear hs
        go_wp2_with fail
        refine Calls.mono (HX.out _) ?_; rintro e w1 ⟨rfl, rfl⟩
        go_wp2_with fail
        go_ret
        exact ⟨by rw [H1.out]; rfl, rfl⟩
    · have hlti : ¬ (k : Int) < (g.length : Int) := by omega
      have H1 : Hid (r = true) := by
        have := HG.out
        rw [List.take_of_length_le (by omega)] at this
        rw [← HR.out, decide_eq_true this]; rfl
      go_wp2_with fail
      go_ret
      exact ⟨by rw [H1.out]; rfl, rfl⟩

theorem sizeOf_is (a : Option Addr) (c : Nat) (g : List ByteArray) (w : World) (h : Texts w (.slice a g.length c) g) (hm : mayG g) (hl : g.length ≤ 1024) :
    Calls Try.prog 48 #[.slice a g.length c] w fun e w' => e = .returned (.int .i64 (sizeG g : Int)) ∧ w' = w := by
  have HC := (show Hid _ from fun k hk => h.cell k hk)
  have HM := (show Hid _ from hm)
  clear h hm
  go_enter Try.func48, Try.ntmps48
  go_wp2_with fail
  go_loopw [3, 8] (fun s i wr => ∃ k : Nat, k ≤ g.length ∧ i = .int .i64 k ∧ s = .int .i64 (sizeG (g.take k) : Nat) ∧ wr = w)
    (fun _ i _ => g.length - (intOf i).toNat)
  case atStart => exact ⟨0, Nat.zero_le _, rfl, rfl, rfl⟩
  case round =>
    obtain ⟨k, hk, rfl, rfl, rfl⟩ := hrel
    by_cases hlt : k < g.length
    · have hlti : (k : Int) < (g.length : Int) := by omega
      obtain ⟨b, o, rfl, hc⟩ := HC.out k hlt
      have HN : Hid (sizeG (g.take (k + 1)) = sizeG (g.take k) + (10 + g[k].size)) := by
        show sizeG (g.take (k + 1)) = _
        rw [List.take_succ_eq_append_getElem hlt, sizeG_append]
        simp [sizeG]
      have hs := (HM.out g[k] (List.getElem_mem hlt)).2
      have hb : sizeG (g.take k) ≤ 1034 * k := by
        have := sizeG_le (g.take k) (fun s hs => HM.out s (List.mem_of_mem_take hs))
        rw [List.length_take] at this
        omega
      generalize g[k] = s at *
      generalize sizeG (g.take k) = z at *
      go_wp2_with fail
      go_roundw
      case rel => exact ⟨k + 1, by omega, by go_num, by rw [HN.out]; go_num, trivial⟩
      case measure => simp [intOf]; omega
    · have hlti : ¬ (k : Int) < (g.length : Int) := by omega
      have ek : g.take k = g := List.take_of_length_le (by omega)
      rw [ek]
      clear ek
      go_wp2_with fail
      go_ret
      exact ⟨rfl, rfl⟩
end Go.Proofs.Ytbjijacpgklegaa
