/- Items of numbers and texts. -/
import Derived.Test.YtgebionlkmjfnaaSMm
namespace Go.Proofs.Ytgebionlkmjfnaa.Sx
open Go.ChangeShapes Go.WideShapes Go.RowKit
set_option linter.unusedVariables false
set_option maxRecDepth 100000

open Go.Op (bytesLess)
theorem bl_self : ∀ l : List UInt8, bytesLess l l = false
  | [] => rfl
  | a :: x => by simp [bytesLess, bl_self x]
theorem bl_flip : ∀ {a b : List UInt8}, bytesLess a b = true → bytesLess b a = false
  | [], [], h => by simp [bytesLess] at h
  | [], b :: y, h => by simp [bytesLess]
  | a :: x, [], h => by simp [bytesLess] at h
  | a :: x, b :: y, h => by
    simp only [bytesLess, Bool.or_eq_true, decide_eq_true_eq, Bool.and_eq_true, beq_iff_eq] at h
    simp only [bytesLess, Bool.or_eq_false_iff, decide_eq_false_iff_not, Bool.and_eq_false_iff]
    rcases h with h | ⟨rfl, h⟩
    · exact ⟨fun g => absurd (UInt8.lt_trans h g) (UInt8.lt_irrefl _), .inl (beq_false_of_ne (fun e => UInt8.lt_irrefl _ (e ▸ h)))⟩
    · exact ⟨UInt8.lt_irrefl _, .inr (bl_flip h)⟩
theorem bl_same : ∀ {a b : List UInt8}, bytesLess a b = false → bytesLess b a = false → a = b
  | [], [], _, _ => rfl
  | [], b :: y, h, _ => by simp [bytesLess] at h
  | a :: x, [], _, h => by simp [bytesLess] at h
  | a :: x, b :: y, h, g => by
    simp only [bytesLess, Bool.or_eq_false_iff, decide_eq_false_iff_not, Bool.and_eq_false_iff] at h g
    have e : a = b := UInt8.le_antisymm (UInt8.not_lt.1 g.1) (UInt8.not_lt.1 h.1)
    subst e
    have h2 : bytesLess x y = false := h.2.resolve_left (by simp)
    have g2 : bytesLess y x = false := g.2.resolve_left (by simp)
    rw [bl_same h2 g2]
theorem bl_thru : ∀ {a b c : List UInt8}, bytesLess a b = true → bytesLess b c = true → bytesLess a c = true
  | _, _, [], _, k => by rw [bytesLess.eq_def] at k; simp at k
  | _, [], _ :: _, h, _ => by rw [bytesLess.eq_def] at h; simp at h
  | [], _ :: _, _ :: _, _, _ => by simp [bytesLess]
  | a :: x, b :: y, c :: z, h, k => by
    simp only [bytesLess, Bool.or_eq_true, decide_eq_true_eq, Bool.and_eq_true, beq_iff_eq] at h k ⊢
    rcases h with h | ⟨rfl, h⟩
    · rcases k with k | ⟨rfl, k⟩
      · exact .inl (UInt8.lt_trans h k)
      · exact .inl h
    · rcases k with k | ⟨rfl, k⟩
      · exact .inl k
      · exact .inr ⟨rfl, bl_thru h k⟩
theorem byte_inj {s s' : ByteArray} (h : s.toList = s'.toList) : s = s' := ByteArray.ext (Array.toList_inj.1 (by rw [← ByteArray.toList_eq, ← ByteArray.toList_eq]; exact h))
instance : KOrd ByteArray where
  kc a b := if bytesLess a.toList b.toList = true then -1 else if bytesLess b.toList a.toList = true then 1 else 0
  turn a b := by
    by_cases h : bytesLess a.toList b.toList = true
    · have g := bl_flip h
      rw [if_pos h, if_neg (by rw [g]; simp), if_pos h]
    · rw [if_neg h]
      by_cases g : bytesLess b.toList a.toList = true
      · rw [if_pos g, if_pos g]; rfl
      · rw [if_neg g, if_neg g, if_neg h]; rfl
  range a b := by
    by_cases h : bytesLess a.toList b.toList = true
    · exact .inl (if_pos h)
    · rw [if_neg h]
      by_cases g : bytesLess b.toList a.toList = true
      · exact .inr (.inr (if_pos g))
      · exact .inr (.inl (if_neg g))
  zero a b := by
    by_cases h : bytesLess a.toList b.toList = true
    · rw [if_pos h]; constructor
      · intro e; omega
      · intro e; subst e; rw [bl_self] at h; cases h
    · rw [if_neg h]
      by_cases g : bytesLess b.toList a.toList = true
      · rw [if_pos g]; constructor
        · intro e; omega
        · intro e; subst e; rw [bl_self] at g; cases g
      · rw [if_neg g]; constructor
        · intro _; exact byte_inj (bl_same (by simpa using h) (by simpa using g))
        · intro _; rfl
  thru a b c h k := by
    have h1 : bytesLess a.toList b.toList = true := by
      by_cases h' : bytesLess a.toList b.toList = true
      · exact h'
      · rw [if_neg h'] at h
        by_cases g : bytesLess b.toList a.toList = true
        · rw [if_pos g] at h; omega
        · rw [if_neg g] at h; omega
    have h2 : bytesLess b.toList c.toList = true := by
      by_cases h' : bytesLess b.toList c.toList = true
      · exact h'
      · rw [if_neg h'] at k
        by_cases g : bytesLess c.toList b.toList = true
        · rw [if_pos g] at k; omega
        · rw [if_neg g] at k; omega
    rw [if_pos (bl_thru h1 h2)]
theorem kc_str (a b : ByteArray) : kc a b = if bytesLess a.toList b.toList = true then -1 else if bytesLess b.toList a.toList = true then 1 else 0 := rfl
abbrev Itm := ByteArray × Int
def itv (x : Itm) : List Value := [.string x.1, .int .i64 x.2]
theorem itv_ne (x : Itm) : itv x ≠ [] := by simp [itv]
theorem itv_len (x : Itm) : (itv x).length = 2 := rfl
theorem itv_one (l : List Itm) : ∀ v ∈ l.flatMap itv, v.oneCell' = true := by
  intro v hv
  obtain ⟨x, _, h⟩ := List.mem_flatMap.1 hv
  simp only [itv, List.mem_cons, List.not_mem_nil, or_false] at h
  rcases h with rfl | rfl <;> rfl
theorem ptv_one (l : List Nat) : ∀ v ∈ l.flatMap ptv, v.oneCell' = true := by
  intro v hv
  obtain ⟨x, _, h⟩ := List.mem_flatMap.1 hv
  simp only [ptv, List.mem_cons, List.not_mem_nil, or_false] at h
  subst h; rfl
theorem info63 : (Try.prog.info? 75).map (fun i => (i.zero, i.size, i.bytes)) = some (some (.agg #[.string ⟨#[]⟩, .int .i64 0]), 2, 24) := by kernel_rfl
theorem info23 : (Try.prog.info? 51).map (fun i => (i.zero, i.size, i.bytes)) = some (some (.pointer none), 1, 8) := by kernel_rfl
theorem Sl.itm {w : World} {v : Value} {l : List Itm} (h : Sl itv 2 w v l) (hne : l ≠ []) : ∃ b o c, v = .slice (some ⟨b, o, none⟩) l.length c ∧ l.length ≤ c ∧ b < w.heap.size ∧ ∀ i (hi : i < l.length), w.cell? ⟨b, o + i * 2, none⟩ = some (.string l[i].1) ∧ w.cell? ⟨b, o + i * 2 + 1, none⟩ = some (.int .i64 l[i].2) := by
  obtain ⟨a, c, h1, h2, h3, h4⟩ := h
  obtain ⟨b, o, e, hc⟩ := h2 hne
  exact ⟨b, o, c, by rw [h1, e], h3, h2.lt itv_ne e hne, fun i hi => ⟨hc i _ (List.getElem?_eq_getElem hi) 0 _ rfl, hc i _ (List.getElem?_eq_getElem hi) 1 _ rfl⟩⟩
end Go.Proofs.Ytgebionlkmjfnaa.Sx
