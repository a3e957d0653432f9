/- Rows of bytes of one's own. -/
import Derived.Test.YtgokilochbnbaaaDoorPb
import Derived.Maps.AppendAt
import Derived.Laws.BytesString
import Derived.Laws.IdiomStrings
namespace Go.Proofs.YtgokilochbnbaaaDoor
open Go.ChangeShapes Go.WideShapes Go.ChangeAt Go.RowKit
set_option linter.unusedVariables false
set_option maxRecDepth 100000

theorem info5 : (Tryd.prog.info? 5).map (fun i => (i.zero, i.size, i.bytes)) = some (some (.int .u8 0), 1, 1) := by kernel_rfl
/-- A row of bytes of the call's own. -/
def bvs (l : List UInt8) : List Value := l.map fun c => Value.int .u8 (c.toNat : Int)
theorem bvs_len (l : List UInt8) : (bvs l).length = l.length := by unfold bvs; simp
theorem bvs_snoc (l : List UInt8) (c : UInt8) : bvs (l ++ [c]) = bvs l ++ [Value.int .u8 (c.toNat : Int)] := by unfold bvs; simp
theorem bvs_at (l : List UInt8) (k : Nat) (h : k < l.length) : (bvs l)[k]? = some (Value.int .u8 (l[k].toNat : Int)) := by unfold bvs; simp [h]
def OwnB (w : World) (B : Nat) (v : Value) (l : List UInt8) : Prop := w.ownsRow B 5 1 v l.length (bvs l)
theorem OwnB.nil (w : World) (B : Nat) : OwnB w B (.slice none 0 0) [] := ⟨by simp [bvs], .inl ⟨rfl, rfl⟩⟩
theorem OwnB.far {w w' : World} {B : Nat} {v : Value} {r : List UInt8} (h : OwnB w B v r) (k : ∀ g, v.ownBlock = some g → w'.heap[g]? = w.heap[g]?) : OwnB w' B v r := by
  refine ⟨h.1, ?_⟩
  rcases h.2 with q | ⟨g, cap, cur, e, hg, hh, q⟩
  · exact .inl q
  · exact .inr ⟨g, cap, cur, e, hg, (k g (by rw [e]; rfl)).trans hh, q⟩
theorem OwnB.next {w w' : World} {B : Nat} {v : Value} {r : List UInt8} (h : OwnB w B v r) (k : Below w.heap.size w w') : OwnB w' B v r := h.far (fun g hg => k.block g (World.ownsRow.lt h g hg).2)
/-- Whose block a row is: none's, or one that is behind. -/
def NewOr (n : Nat) (v v' : Value) : Prop := v'.ownBlock = v.ownBlock ∨ ∃ k, v'.ownBlock = some k ∧ n ≤ k
theorem append_byte {w : World} {v : Value} {r : List UInt8} {B : Nat} (h : OwnB w B v r) (c : UInt8) (hs : r.length ≤ 1000000) (hb : B ≤ w.heap.size) :
    ∃ v' w', (Builtin.append_ #[35, 35] 35 #[v, .slice (some ⟨w.heap.size, 0, none⟩) 1 1]).run Tryd.prog (w.alloc (.cells #[.int .u8 (c.toNat : Int)] 5)) = .ok v' w' ∧ OwnB w' B v' (r ++ [c]) ∧ Below B w w' ∧
      (∀ k, k < w.heap.size → some k ≠ v.ownBlock → w'.heap[k]? = w.heap[k]?) ∧ NewOr w.heap.size v v' := by
  obtain ⟨i, hi, hz, h1, h2⟩ := info_of info5
  obtain ⟨v', w', a1, a2, a3, a4, a5⟩ := run_append_own_at (P := Tryd.prog) (w.alloc (.cells #[.int .u8 (c.toNat : Int)] 5)) B 35 35 5 i _ 1 1 Tryd.underlying35 hi hz h1 h2 (by simp [Value.cells]) (by omega) v r.length (bvs r) (World.ownsRow.alloc h _) ⟨w.heap.size, 0, none⟩ 1 1 (bvs [c]) (by simp [bvs])
    (fun j u hu => by
      rw [Go.WideShapes.add_plain, Nat.zero_add]
      match j, hu with
      | 0, hu => cases hu; simp) (fun u hu => by
        have : u = .int .u8 (c.toNat : Int) := by simpa [bvs] using hu
        rw [this]; rfl) (by unfold maxLen; omega) (by omega) (Nat.le_trans hb (by simp))
  refine ⟨v', w', a1, ?_, ((Below.refl B w).alloc hb _).grown a3 (Nat.le_trans hb (by simp)) (fun k hk => (World.ownsRow.lt h k hk).1), fun k hk hne => ?_, ?_⟩
  · unfold OwnB
    rw [List.length_append]
    have : bvs (r ++ [c]) = bvs r ++ bvs [c] := by unfold bvs; simp
    rw [this]
    exact a2
  · exact (a3.block k (by simp; omega) hne).trans ((below1 w _).block k hk)
  · rcases a5 with a5 | a5
    · exact .inl a5
    · exact .inr ⟨_, a5, by simp⟩
theorem OwnB.str {w : World} {B : Nat} {v : Value} {l : List UInt8} (h : OwnB w B v l) : (convert 35 9 v).run Tryd.prog w = .ok (.string ⟨l.toArray⟩) w := by
  by_cases hl : l = []
  · subst hl
    rcases h.2 with ⟨rfl, _⟩ | ⟨g, cap, cur, rfl, _⟩
    · show (convert 35 9 (.slice none 0 0)).run Tryd.prog w = _
      rw [run_convert_bytes_string w 35 9 5 none 0 0 Tryd.underlying35 Tryd.underlying5 Tryd.underlying9]
      rfl
    · show (convert 35 9 (.slice (some ⟨g, 0, none⟩) 0 cap)).run Tryd.prog w = _
      rw [run_convert_bytes_string w 35 9 5 _ 0 cap Tryd.underlying35 Tryd.underlying5 Tryd.underlying9]
      rfl
  · have h0 : l.length ≠ 0 := fun e => hl (List.eq_nil_of_length_eq_zero e)
    rcases h.2 with ⟨_, e⟩ | ⟨g, cap, cur, rfl, _⟩
    · exact absurd e h0
    · exact run_convert_bytes_back w 35 9 5 ⟨g, 0, none⟩ cap l Tryd.underlying35 Tryd.underlying5 Tryd.underlying9 (fun j hj => by
        rw [Go.WideShapes.add_plain, Nat.zero_add, World.ownsRow.cellAt h j (by simpa using hj), bvs_at _ j hj])
end Go.Proofs.YtgokilochbnbaaaDoor
