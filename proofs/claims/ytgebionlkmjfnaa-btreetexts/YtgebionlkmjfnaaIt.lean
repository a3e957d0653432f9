/- Items of numbers and texts. -/
import Derived.Test.YtgebionlkmjfnaaMm
namespace Go.Proofs.Ytgebionlkmjfnaa
open Go.ChangeShapes Go.WideShapes Go.RowKit
set_option linter.unusedVariables false
set_option maxRecDepth 100000

instance : KOrd Int where
  kc a b := if a < b then -1 else if b < a then 1 else 0
  turn a b := by
    by_cases h : a < b
    · rw [if_pos h, if_neg (by omega), if_pos h]
    · rw [if_neg h]
      by_cases g : b < a
      · rw [if_pos g, if_pos g]; rfl
      · rw [if_neg g, if_neg g, if_neg h]; rfl
  range a b := by
    by_cases h : a < b
    · exact .inl (if_pos h)
    · rw [if_neg h]
      by_cases g : b < a
      · exact .inr (.inr (if_pos g))
      · exact .inr (.inl (if_neg g))
  zero a b := by
    by_cases h : a < b
    · rw [if_pos h]; constructor
      · intro e; omega
      · intro e; omega
    · rw [if_neg h]
      by_cases g : b < a
      · rw [if_pos g]; constructor
        · intro e; omega
        · intro e; omega
      · rw [if_neg g]; constructor
        · intro e; omega
        · intro e; rfl
  thru a b c h k := by
    have h1 : a < b := by
      by_cases h' : a < b
      · exact h'
      · rw [if_neg h'] at h
        by_cases g : b < a
        · rw [if_pos g] at h; omega
        · rw [if_neg g] at h; omega
    have h2 : b < c := by
      by_cases h' : b < c
      · exact h'
      · rw [if_neg h'] at k
        by_cases g : c < b
        · rw [if_pos g] at k; omega
        · rw [if_neg g] at k; omega
    rw [if_pos (by omega)]
theorem kc_int (a b : Int) : kc a b = if a < b then -1 else if b < a then 1 else 0 := rfl
theorem kc_lt {a b : Int} : kc a b = -1 ↔ a < b := by
  rw [kc_int]
  by_cases h : a < b
  · rw [if_pos h]; simp [h]
  · rw [if_neg h]
    by_cases g : b < a
    · rw [if_pos g]; simp [h]
    · rw [if_neg g]; simp [h]
abbrev Itm := Int × ByteArray
def itv (x : Itm) : List Value := [.int .i64 x.1, .string x.2]
theorem itv_ne (x : Itm) : itv x ≠ [] := by simp [itv]
theorem itv_len (x : Itm) : (itv x).length = 2 := rfl
theorem itv_one (l : List Itm) : ∀ v ∈ l.flatMap itv, v.oneCell' = true := by
  intro v hv
  obtain ⟨x, _, h⟩ := List.mem_flatMap.1 hv
  simp only [itv, List.mem_cons, List.not_mem_nil, or_false] at h
  rcases h with rfl | rfl <;> rfl
theorem ptv_one (l : List Nat) : ∀ v ∈ l.flatMap ptv, v.oneCell' = true := by
  intro v hv
  obtain ⟨x, _, h⟩ := List.mem_flatMap.1 hv
  simp only [ptv, List.mem_cons, List.not_mem_nil, or_false] at h
  subst h; rfl
theorem info63 : (Try.prog.info? 63).map (fun i => (i.zero, i.size, i.bytes)) = some (some (.agg #[.int .i64 0, .string ⟨#[]⟩]), 2, 24) := by kernel_rfl
theorem info23 : (Try.prog.info? 23).map (fun i => (i.zero, i.size, i.bytes)) = some (some (.pointer none), 1, 8) := by kernel_rfl
theorem Sl.itm {w : World} {v : Value} {l : List Itm} (h : Sl itv 2 w v l) (hne : l ≠ []) : ∃ b o c, v = .slice (some ⟨b, o, none⟩) l.length c ∧ l.length ≤ c ∧ b < w.heap.size ∧ ∀ i (hi : i < l.length), w.cell? ⟨b, o + i * 2, none⟩ = some (.int .i64 l[i].1) ∧ w.cell? ⟨b, o + i * 2 + 1, none⟩ = some (.string l[i].2) := by
  obtain ⟨a, c, h1, h2, h3, h4⟩ := h
  obtain ⟨b, o, e, hc⟩ := h2 hne
  exact ⟨b, o, c, by rw [h1, e], h3, h2.lt itv_ne e hne, fun i hi => ⟨hc i _ (List.getElem?_eq_getElem hi) 0 _ rfl, hc i _ (List.getElem?_eq_getElem hi) 1 _ rfl⟩⟩
end Go.Proofs.Ytgebionlkmjfnaa
