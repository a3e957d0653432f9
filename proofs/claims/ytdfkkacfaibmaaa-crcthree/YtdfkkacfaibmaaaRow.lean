/- A row of bytes in memory: what it holds, how it is written, and the two conversions between it and a text. -/
import Derived.Test.YtdfkkacfaibmaaaPut
namespace Go.Proofs.Ytdfkkacfaibmaaa
open Go.ChangeShapes Go.WideShapes Go.ChangeAt Go.RowKit
set_option linter.unusedVariables false

theorem bnext {w w1 w2 : World} (h : Below w.heap.size w w1) (k : Below w1.heap.size w1 w2) : Below w.heap.size w w2 := h.trans (k.mono h.size)

structure Row (w : World) (B : Nat) (L : List UInt8) : Prop where
  cells : ∀ k (hk : k < L.length), w.cell? ⟨B, k, none⟩ = some (.int .u8 (L[k].toNat : Int))
  free : ∀ k, k < L.length → w.frozen? ⟨B, k, none⟩ = false

theorem Row.put {w : World} {B : Nat} {L : List UInt8} (h : Row w B L) (k : Nat) (hk : k < L.length) (v : UInt8) :
    Row (w.setCell ⟨B, k, none⟩ (.int .u8 (v.toNat : Int))) B (L.set k v) := by
  have hv := h.cells k hk
  refine ⟨fun j hj => ?_, fun j hj => ?_⟩
  · rw [List.length_set] at hj
    by_cases e : j = k
    · subst e
      simp [go_sem, hv]
    · have := h.cells j hj
      have e' : ¬ k = j := fun h => e h.symm
      simp [go_sem, this, e']
  · rw [List.length_set] at hj
    have := h.free j hj
    simp [go_sem, this]

theorem Row.drewN {w : World} {B : Nat} {L : List UInt8} (h : Row w B L) (n : Nat) : Row (w.drewN n) B L := ⟨h.cells, h.free⟩

theorem row_text {W : World} {B : Nat} {L : List UInt8} (h : Row W B L) (n C : Nat) (hn : n = L.length) :
    (convert 30 9 (.slice (some ⟨B, 0, none⟩) n C)).run Try.prog W = .ok (.string ⟨L.toArray⟩) W := by
  subst hn
  exact run_convert_bytes_back (P := Try.prog) W 30 9 5 ⟨B, 0, none⟩ C L Try.underlying30 Try.underlying5 Try.underlying9 (fun j hj => by rw [Go.WideShapes.add_plain, Nat.zero_add]; exact h.cells j hj)

theorem cell_mark (w : World) (C : Array Value) (t : TypeId) (m : Nat × Nat) (k : Nat) : (w.drew.alloc (.cells C t m)).cell? ⟨w.heap.size, k, none⟩ = C[k]? := by
  have : (w.drew.alloc (.cells C t m)).heap[w.heap.size]? = some (.cells C t m) := by
    show (w.heap.push (.cells C t m))[w.heap.size]? = _
    simp
  unfold World.cell?
  simp only [this]
  rfl
theorem frozen_mark (w : World) (C : Array Value) (t : TypeId) (lo hi : Nat) (k : Nat) : (w.drew.alloc (.cells C t (lo, hi))).frozen? ⟨w.heap.size, k, none⟩ = (decide (lo ≤ k) && decide (k < hi)) := by
  have : (w.drew.alloc (.cells C t (lo, hi))).heap[w.heap.size]? = some (.cells C t (lo, hi)) := by
    show (w.heap.push (.cells C t (lo, hi)))[w.heap.size]? = _
    simp
  unfold World.frozen?
  simp only [this]

theorem text_row (s : ByteArray) (w : World) : ∃ (C : Nat) (W : World), (convert 9 30 (.string s)).run Try.prog w = .ok (.slice (some ⟨w.heap.size, 0, none⟩) s.size C) W ∧ Row W w.heap.size s.data.toList ∧ Below w.heap.size w W := by
  refine ⟨_, _, run_bytes_of_string (P := Try.prog) w 9 30 5 s Try.underlying9 Try.underlying30 Try.underlying5, ⟨fun k hk => ?_, fun k hk => ?_⟩, ?_⟩
  · have hd : k < s.data.size := by simpa using hk
    rw [cell_mark]
    unfold bytesRow
    rw [Array.getElem?_append_left (by simpa using hd), Array.getElem?_map, Array.getElem?_eq_getElem hd]
    rfl
  · have hd : k < s.data.size := by simpa using hk
    rw [frozen_mark]
    have : ¬ (bytesRow s (grownCap w s.size 0 5)).size ≤ k := by
      have e : s.data.size = s.size := rfl
      unfold bytesRow; simp; omega
    rw [decide_eq_false this, Bool.false_and]
  · exact ((Below.refl _ _).trans ⟨rfl, rfl, rfl, Nat.le_refl _, fun _ _ => rfl⟩ : Below w.heap.size w w.drew).alloc (Nat.le_refl _) _
end Go.Proofs.Ytdfkkacfaibmaaa
