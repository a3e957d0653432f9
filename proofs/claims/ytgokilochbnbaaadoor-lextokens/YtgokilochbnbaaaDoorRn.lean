/- A text gone over rune by rune is gone over byte by byte. -/
import Derived.Test.YtgokilochbnbaaaDoorBs
namespace Go.Proofs.YtgokilochbnbaaaDoor
open Go.ChangeShapes Go.WideShapes Go.ChangeAt Go.RowKit
set_option linter.unusedVariables false
set_option maxRecDepth 100000

/-- A rune of several bytes has none below 128, and all of them stand in the text. -/
theorem at_of (s : ByteArray) (i : Nat) (h : i < s.size) : s.get! i = s[i] := by
  simp [ByteArray.get!, getElem!_pos, h]; rfl
theorem decode_span (s : ByteArray) (pos : Nat) (h : pos < s.size) (ha : 128 ≤ (s[pos]'h).toNat) :
    pos + (Utf8.decode s pos).2 ≤ s.size ∧ ∀ i (hi : i < s.size), pos ≤ i → i < pos + (Utf8.decode s pos).2 → 128 ≤ (s[i]).toNat := by
  have hn : ¬ (s[pos]'h).toNat < 128 := by omega
  have key : ∀ k, (pos + k < s.size ∧ (s.get! (pos + k)).toNat / 64 = 2) → ∀ (hi : pos + k < s.size), 128 ≤ (s[pos + k]).toNat := fun k q hi => by
    have := q.2
    rw [at_of s _ hi] at this
    omega
  have one : ∀ c : Nat, pos + (c, 1).2 ≤ s.size ∧ ∀ i (hi : i < s.size), pos ≤ i → i < pos + (c, 1).2 → 128 ≤ (s[i]).toNat := fun c => ⟨by simp; omega, fun i hi h1 h2 => by
    simp at h2
    obtain rfl : i = pos := by omega
    exact ha⟩
  simp only [Utf8.decode, get_at s pos h, hn, if_false]
  simp only [Bool.and_eq_true, decide_eq_true_eq, beq_iff_eq]
  split
  · rename_i c1
    split
    · refine ⟨by simp; omega, fun i hi h1 h2 => ?_⟩
      simp at h2
      rcases (show i = pos ∨ i = pos + 1 by omega) with rfl | rfl
      · exact ha
      · exact key 1 c1.2 hi
    · exact one _
  · split
    · rename_i c1
      split
      · refine ⟨by simp; omega, fun i hi h1 h2 => ?_⟩
        simp at h2
        rcases (show i = pos ∨ i = pos + 1 ∨ i = pos + 2 by omega) with rfl | rfl | rfl
        · exact ha
        · exact key 1 c1.1.2 hi
        · exact key 2 c1.2 hi
      · exact one _
    · split
      · rename_i c1
        split
        · refine ⟨by simp; omega, fun i hi h1 h2 => ?_⟩
          simp at h2
          rcases (show i = pos ∨ i = pos + 1 ∨ i = pos + 2 ∨ i = pos + 3 by omega) with rfl | rfl | rfl | rfl
          · exact ha
          · exact key 1 c1.1.1.2 hi
          · exact key 2 c1.1.2 hi
          · exact key 3 c1.2 hi
        · exact one _
      · exact one _

/-- How far a text is gone over, byte by byte, and the state there. -/
def scan {σ : Type} (f : σ → UInt8 → Option σ) (st : σ) : List UInt8 → Nat × σ
  | [] => (0, st)
  | c :: r => match f st c with
    | none => (0, st)
    | some st' => ((scan f st' r).1 + 1, (scan f st' r).2)
theorem scan_stop {σ : Type} {f : σ → UInt8 → Option σ} {st : σ} {c : UInt8} {r : List UInt8} (h : f st c = none) : scan f st (c :: r) = (0, st) := by rw [scan, h]
theorem scan_go {σ : Type} {f : σ → UInt8 → Option σ} {st st' : σ} {c : UInt8} {r : List UInt8} (h : f st c = some st') : scan f st (c :: r) = ((scan f st' r).1 + 1, (scan f st' r).2) := by rw [scan, h]
theorem scan_skip {σ : Type} {f : σ → UInt8 → Option σ} {st : σ} : ∀ (x r : List UInt8), (∀ c ∈ x, f st c = some st) → scan f st (x ++ r) = (x.length + (scan f st r).1, (scan f st r).2)
  | [], r, _ => by simp
  | c :: x, r, h => by
    rw [List.cons_append, scan_go (h c (by simp)), scan_skip x r (fun d hd => h d (by simp [hd]))]
    simp; omega
theorem scan_take {f : Unit → UInt8 → Option Unit} {p : UInt8 → Bool} (h : ∀ c, f () c = if p c then some () else none) : ∀ l, (scan f () l).1 = (l.takeWhile p).length
  | [] => rfl
  | c :: r => by
    by_cases hp : p c = true
    · rw [scan_go (st' := ()) (by rw [h, if_pos hp]), List.takeWhile_cons_of_pos hp]
      simp [scan_take h r]
    · rw [scan_stop (by rw [h, if_neg hp]), List.takeWhile_cons_of_neg hp]
      rfl
theorem drop_at (s : ByteArray) (i : Nat) (h : i < s.size) : s.data.toList.drop i = s[i] :: s.data.toList.drop (i + 1) := by
  rw [List.drop_eq_getElem_cons (by simpa using h)]; rfl
theorem drop_span (s : ByteArray) (i k : Nat) (h : i + k ≤ s.size) (P : UInt8 → Prop) (hp : ∀ j (hj : j < s.size), i ≤ j → j < i + k → P s[j]) : ∃ x : List UInt8, x.length = k ∧ s.data.toList.drop i = x ++ s.data.toList.drop (i + k) ∧ ∀ c ∈ x, P c := by
  refine ⟨(s.data.toList.drop i).take k, by simp; omega, ?_, fun c hc => ?_⟩
  · rw [← List.drop_drop, List.take_append_drop]
  · obtain ⟨j, hj, e⟩ := List.getElem_of_mem hc
    have hj' : j < k ∧ i + j < s.size := by simp at hj; omega
    have := hp (i + j) hj'.2 (by omega) (by omega)
    rw [List.getElem_take, List.getElem_drop] at e
    rw [← e]
    exact this
/-- The step of a closure that is asked of a rune: what it answers, and its state behind. -/
structure Steps {σ : Type} (f : σ → UInt8 → Option σ) (high : σ → Bool) : Prop where
  hi : ∀ st c, 128 ≤ c.toNat → f st c = if high st then some st else none
theorem step_high {σ : Type} {f : σ → UInt8 → Option σ} {high : σ → Bool} (H : Steps f high) (s : ByteArray) (pos : Nat) (st : σ) (h : pos < s.size) (ha : 128 ≤ (s[pos]'h).toNat) (hh : high st = true) :
    pos + (Utf8.decode s pos).2 ≤ s.size ∧ scan f st (s.data.toList.drop pos) = ((Utf8.decode s pos).2 + (scan f st (s.data.toList.drop (pos + (Utf8.decode s pos).2))).1, (scan f st (s.data.toList.drop (pos + (Utf8.decode s pos).2))).2) := by
  obtain ⟨h1, h2⟩ := decode_span s pos h ha
  obtain ⟨x, hx, e, hp⟩ := drop_span s pos _ h1 (fun c => 128 ≤ c.toNat) h2
  refine ⟨h1, ?_⟩
  rw [e, scan_skip x _ (fun c hc => by rw [H.hi st c (hp c hc), if_pos hh]), hx]
end Go.Proofs.YtgokilochbnbaaaDoor
