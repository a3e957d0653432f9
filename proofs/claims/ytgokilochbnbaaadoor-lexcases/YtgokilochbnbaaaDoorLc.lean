/- Words of letters: no Go in sight. -/
import Derived.Test.YtgokilochbnbaaaDoorOb
import Derived.Test.YtgokilochbnbaaaDoorLb
namespace Go.Proofs.YtgokilochbnbaaaDoor
open Go.ChangeShapes Go.WideShapes Go.ChangeAt Go.RowKit
set_option linter.unusedVariables false
set_option maxRecDepth 100000

/-- A letter's number. -/
def lowL (ms : List Nat) : List UInt8 := ms.map (fun m => UInt8.ofNat (97 + m))
def highL (ms : List Nat) : List UInt8 := ms.map (fun m => UInt8.ofNat (65 + m))
def Ltr (ms : List Nat) : Prop := ∀ m ∈ ms, m < 26
theorem low_ok : ∀ m, m < 26 → ltB (UInt8.ofNat (97 + m)) = true ∧ Lib.upperB (UInt8.ofNat (97 + m)) = UInt8.ofNat (65 + m) ∧ (UInt8.ofNat (97 + m)).toNat = 97 + m := by decide
theorem high_ok : ∀ m, m < 26 → ltB (UInt8.ofNat (65 + m)) = true ∧ Lib.upperB (UInt8.ofNat (65 + m)) = UInt8.ofNat (65 + m) ∧ UInt8.ofNat (65 + m) ≠ 34 ∧ (UInt8.ofNat (65 + m)).toNat = 65 + m := by decide
theorem low_up {ms : List Nat} (h : Ltr ms) : up (lowL ms) = highL ms := by
  unfold up Lib.toUpperA lowL highL
  rw [List.map_map]
  exact List.map_congr_left (fun m hm => (low_ok m (h m hm)).2.1)
theorem high_up {ms : List Nat} (h : Ltr ms) : up (highL ms) = highL ms := by
  unfold up Lib.toUpperA highL
  rw [List.map_map]
  exact List.map_congr_left (fun m hm => (high_ok m (h m hm)).2.1)
theorem wd_lt {c : UInt8} (h : ltB c = true) : wdB c = true := by unfold wdB; rw [h]; rfl
theorem low_wd {ms : List Nat} (h : Ltr ms) : (lowL ms).all wdB = true := by
  rw [List.all_eq_true]
  intro c hc
  obtain ⟨m, hm, rfl⟩ := List.mem_map.1 hc
  exact wd_lt (low_ok m (h m hm)).1
theorem high_wd {ms : List Nat} (h : Ltr ms) : (highL ms).all wdB = true := by
  rw [List.all_eq_true]
  intro c hc
  obtain ⟨m, hm, rfl⟩ := List.mem_map.1 hc
  exact wd_lt (high_ok m (h m hm)).1
theorem tw_whole (p : UInt8 → Bool) (l : List UInt8) (h : l.all p = true) : l.takeWhile p = l := by
  have := List.takeWhile_append_of_pos (p := p) (l₁ := l) (l₂ := []) (by rw [List.all_eq_true] at h; exact h)
  simpa using this
/-- A text that is a word is one token. -/
theorem tok_word {l : List UInt8} (h0 : l ≠ []) (h1 : ltB (l.headD 0) = true) (h2 : l.all wdB = true) (h3 : l.length ≤ 64) :
    tokV l = ([((if keyB (up l) then ⟨2, up l, 0, l.length⟩ else ⟨1, l, 0, l.length⟩ : TK), 0), (endT, l.length)], 0, 0) := by
  have hg : gapN l = 0 := by
    cases l with
    | nil => exact absurd rfl h0
    | cons c t =>
      obtain ⟨a, b, d⟩ := lt_out h1
      exact gap0 c _ a b d
  have hf : firstV l = if keyB (up l) then ⟨2, up l, 0, l.length⟩ else ⟨1, l, 0, l.length⟩ := by
    unfold firstV
    rw [if_pos h1]
    unfold wordV
    rw [tw_whole wdB l h2, if_neg (by omega)]
  have hz : (firstV l).z = l.length := by rw [hf]; split <;> rfl
  have hl : 1 ≤ l.length := List.length_pos_iff.2 h0
  unfold tokV
  rw [if_neg (by omega)]
  obtain ⟨f, hff⟩ : ∃ f, l.length = f + 1 := ⟨l.length - 1, by omega⟩
  have e : lexF l.length l 0 = ([(firstV l, 0)], none) := by
    rw [show lexF l.length l 0 = lexF (f + 1) l 0 by rw [hff]]
    rw [lexF_tok h0 hg (by rw [hz]; omega), hz, List.drop_length, lexF_nil]
  rw [e, hf]
  rfl
theorem tok_quoted {l : List UInt8} (h0 : l ≠ []) (h2 : ∀ c ∈ l, c ≠ 34) (h3 : l.length ≤ 64) :
    tokV (34 :: (l ++ [34])) = ([((⟨1, l, 0, l.length + 2⟩ : TK), 0), (endT, l.length + 2)], 0, 0) := by
  have hg : gapN (34 :: (l ++ [34])) = 0 := gap0 34 _ (by decide) (by decide) (by decide)
  have hf : firstV (34 :: (l ++ [34])) = ⟨1, l, 0, l.length + 2⟩ := by
    unfold firstV
    rw [show (34 :: (l ++ [34])).headD 0 = 34 from rfl, if_neg (by decide), if_pos rfl]
    unfold nameV
    have : quo 34 ((34 :: (l ++ [34])).drop 1) = some (l, (dupL 34 l).length + 1) := by
      have := quo_dup 34 [] (by decide) l
      rw [dupL_none 34 l h2] at this ⊢
      exact this
    simp only [this]
    rw [if_neg (fun e => e.elim h0 (by omega)), dupL_none 34 l h2]
  have hlen : (34 :: (l ++ [34])).length = l.length + 2 := by simp
  unfold tokV
  rw [if_neg (by rw [hlen]; omega), hlen]
  have e : lexF (l.length + 2) (34 :: (l ++ [34])) 0 = ([(⟨1, l, 0, l.length + 2⟩, 0)], none) := by
    rw [lexF_tok (by simp) hg (by rw [hf]; simp), hf]
    simp only
    rw [List.drop_of_length_le (by rw [hlen]; omega), lexF_nil]
  rw [e]
  rfl
end Go.Proofs.YtgokilochbnbaaaDoor
