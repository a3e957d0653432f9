/- ValueRows: its columns, turned. -/
import Derived.Test.YtmjajlmknncggaaDoorLight
namespace Go.Proofs.YtmjajlmknncggaaDoor
open Go.ChangeShapes Go.WideShapes Go.RowKit
set_option linter.unusedVariables false
set_option maxRecDepth 100000

theorem info34 : (Tryd.prog.info? 34).map (fun i => (i.zero, i.size, i.bytes)) = some (some (.agg #[.int .i64 0, .bool false]), 2, 16) := by kernel_rfl
def kv (x : Int × Bool) : List Value := [.int .i64 x.1, .bool x.2]
theorem kv_len (r : List (Int × Bool)) : (r.flatMap kv).length = r.length * 2 := by
  induction r with
  | nil => rfl
  | cons x r ih => rw [List.flatMap_cons, List.length_append, ih, List.length_cons]; simp [kv]; omega
theorem kv_one (r : List (Int × Bool)) : ∀ v ∈ r.flatMap kv, v.oneCell' = true := by
  intro v hv
  obtain ⟨x, _, hx⟩ := List.mem_flatMap.1 hv
  simp only [kv, List.mem_cons, List.mem_nil_iff, or_false] at hx
  rcases hx with rfl | rfl <;> rfl
theorem kv_at (r : List (Int × Bool)) (i : Nat) (h : i < r.length) : (r.flatMap kv)[i * 2]? = some (.int .i64 r[i].1) ∧ (r.flatMap kv)[i * 2 + 1]? = some (.bool r[i].2) := by
  induction r generalizing i with
  | nil => cases h
  | cons x r ih =>
    cases i with
    | zero => simp [kv]
    | succ i =>
      have := ih i (by simpa using h)
      rw [List.flatMap_cons, show (i + 1) * 2 = i * 2 + 2 by omega, show i * 2 + 2 + 1 = (i * 2 + 1) + 2 by omega]
      simpa [kv] using this
def OwnK (w : World) (B : Nat) (v : Value) (r : List (Int × Bool)) : Prop := w.ownsRow B 34 2 v r.length (r.flatMap kv)
theorem OwnK.keys {w : World} {B : Nat} {v : Value} {r : List (Int × Bool)} (h : OwnK w B v r) : ∃ a c, v = .slice a r.length c ∧ Keys w (.slice a r.length c) r := by
  by_cases h0 : r.length = 0
  · have hl : r = [] := List.eq_nil_of_length_eq_zero h0
    subst hl
    rcases h.2 with ⟨rfl, _⟩ | ⟨g, cap, cur, rfl, _⟩
    · exact ⟨none, 0, rfl, .inl ⟨_, _, rfl, rfl⟩⟩
    · exact ⟨_, cap, rfl, .inl ⟨_, _, rfl, rfl⟩⟩
  · obtain ⟨g, c, rfl⟩ : ∃ g c, v = .slice (some ⟨g, 0, none⟩) r.length c := by
      rcases h.2 with ⟨_, e⟩ | ⟨g, cap, cur, rfl, _⟩
      · exact absurd e h0
      · exact ⟨g, cap, rfl⟩
    refine ⟨_, c, rfl, .inr ⟨g, 0, c, rfl, fun i hi => ?_⟩⟩
    have hr := kv_at r i hi
    refine ⟨?_, ?_⟩
    · rw [Nat.zero_add, World.ownsRow.cellAt h (i * 2) (by omega)]; exact hr.1
    · rw [Nat.zero_add, World.ownsRow.cellAt h (i * 2 + 1) (by omega)]; exact hr.2
theorem Keys.next {w w' : World} {v : Value} {r : List (Int × Bool)} (h : Keys w v r) (hb : Below w.heap.size w w') : Keys w' v r := by
  rcases h with h | ⟨b, o, c, rfl, h⟩
  · exact .inl h
  · exact .inr ⟨b, o, c, rfl, fun i hi => ⟨(hb.cell (World.block_lt_of_cell? w _ (h i hi).1)).trans (h i hi).1, (hb.cell (World.block_lt_of_cell? w _ (h i hi).2)).trans (h i hi).2⟩⟩
theorem append_key {w : World} {v : Value} {r : List (Int × Bool)} {B : Nat} (h : OwnK w B v r) (x : Int × Bool) (hs : r.length ≤ 1000) (hb : B ≤ w.heap.size) :
    ∃ v' w', (Builtin.append_ #[31, 31] 31 #[v, .slice (some ⟨w.heap.size, 0, none⟩) 1 1]).run Tryd.prog (w.alloc (.cells #[.int .i64 x.1, .bool x.2] 34)) = .ok v' w' ∧ OwnK w' B v' (r ++ [x]) ∧ Below B w w' := by
  obtain ⟨i, hi, hz, h1, h2⟩ := info_of info34
  obtain ⟨v', w', a1, a2, a3, a4⟩ := run_append_own (P := Tryd.prog) (w.alloc (.cells #[.int .i64 x.1, .bool x.2] 34)) B 31 31 34 i _ 2 16 Tryd.underlying31 hi hz h1 h2 (by simp [Value.cells]) (by omega) v r.length (r.flatMap kv) (World.ownsRow.alloc h _) ⟨w.heap.size, 0, none⟩ 1 1 ([x].flatMap kv) (kv_len [x])
    (fun j u hu => by
      rw [Go.WideShapes.add_plain, Nat.zero_add]
      have e : [x].flatMap kv = [.int .i64 x.1, .bool x.2] := rfl
      rw [e] at hu
      match j, hu with
      | 0, hu => cases hu; simp
      | 1, hu => cases hu; simp) (kv_one [x]) (by unfold maxLen; omega) (by omega) (Nat.le_trans hb (by simp))
  refine ⟨v', w', a1, ?_, ((Below.refl B w).alloc hb _).grown a3 (Nat.le_trans hb (by simp)) (fun k hk => (World.ownsRow.lt h k hk).1)⟩
  unfold OwnK
  rw [List.length_append, List.flatMap_append]
  exact a2
end Go.Proofs.YtmjajlmknncggaaDoor
