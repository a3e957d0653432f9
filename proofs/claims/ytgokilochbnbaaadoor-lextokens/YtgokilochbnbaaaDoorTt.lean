/- Tokens in a row; the tokens of a text: no Go in sight. -/
import Derived.Test.YtgokilochbnbaaaDoorAs
import Derived.Laws.AppendOwn
import Derived.Maps.AppendAt
import Derived.OwnWalk
namespace Go.Proofs.YtgokilochbnbaaaDoor
open Go.ChangeShapes Go.WideShapes Go.ChangeAt Go.RowKit
set_option linter.unusedVariables false
set_option maxRecDepth 100000

theorem st_append {P : Program} {ops : Array Oper} {rest : List Oper} {o : Oper} {a : Act} {w w' : World} {Q : Exit → Act → World → Prop} {v : Value} {x y : Operand} {t u : TypeId} (hgd : o.guard = none) (ho : o.op = .call { callee := .builtin .append, args := #[x, y], argTypes := #[t, u] }) (hr : (Builtin.append_ #[t, u] o.type #[a.eval x, a.eval y]).run P w = .ok v w') (h : wpList P ops Q rest (a.put o.dst v) w') : wpList P ops Q (o :: rest) a w :=
  wpList_plain hgd fun _ hK => by
    unfold Oper.wp execOp
    simp only [ho, resolve, invoke, builtin, Sem.run_bind, Sem.run_pure, Result.andThen_ok, List.map_toArray, List.map_cons, List.map_nil, hr]
    exact hK _ _ h

theorem gapN_le (l : List UInt8) : gapN l ≤ l.length := by
  unfold gapN
  split
  · exact (List.takeWhile_prefix _).length_le
  · split
    · rename_i h
      have h2 : 2 ≤ l.length := by
        have := List.IsPrefix.length_le (List.isPrefixOf_iff_prefix.1 h)
        simpa using this
      unfold remN
      split
      · omega
      · have hr := Lib.index_room (l.drop 2) [42, 47] (by omega)
        rw [List.length_drop] at hr
        simp at hr
        omega
    · exact (List.takeWhile_prefix _).length_le
theorem quo_len (q : UInt8) {r t : List UInt8} {m : Nat} (h : quo q r = some (t, m)) : m ≤ r.length := by
  obtain ⟨h1, r', h2, _⟩ := quo_some q r t m h
  rw [h2, h1]; simp
theorem first_le (l : List UInt8) (hl : l ≠ []) : (firstV l).z ≤ l.length := by
  have htw : ∀ p : UInt8 → Bool, (l.takeWhile p).length ≤ l.length := fun p => (List.takeWhile_prefix _).length_le
  have h1 : 1 ≤ l.length := by
    cases l with
    | nil => exact absurd rfl hl
    | cons => simp
  unfold firstV
  split
  · unfold wordV
    split
    · exact Nat.zero_le _
    · split <;> exact htw _
  · split
    · unfold nameV
      split
      · rename_i t m h
        have := quo_len 34 h
        rw [List.length_drop] at this
        split
        · exact Nat.zero_le _
        · show m + 1 ≤ _; omega
      · exact Nat.zero_le _
    · split
      · unfold digV
        split
        · exact htw _
        · exact Nat.zero_le _
      · split
        · unfold textV
          split
          · rename_i t m h
            have := quo_len 39 h
            rw [List.length_drop] at this
            split
            · exact Nat.zero_le _
            · show m + 1 ≤ _; omega
          · exact Nat.zero_le _
        · unfold signV
          split
          · exact Nat.zero_le _
          · exact signN_le l hl
/-- The tokens of what is left of a text, each where it begins; where there is none, if there is none. -/
def lexF : Nat → List UInt8 → Nat → List (TK × Nat) × Option Nat
  | 0, _, _ => ([], none)
  | f + 1, l, a =>
    if l = [] then ([], none)
    else if 0 < gapN l then lexF f (l.drop (gapN l)) (a + gapN l)
    else if (firstV l).z = 0 then ([], some a)
    else ((firstV l, a) :: (lexF f (l.drop (firstV l).z) (a + (firstV l).z)).1, (lexF f (l.drop (firstV l).z) (a + (firstV l).z)).2)
def endT : TK := ⟨0, [], 0, 0⟩
/-- What Tokens answers. -/
def tokV (l : List UInt8) : List (TK × Nat) × Int × Int :=
  if 4096 < l.length then ([], 0, 2)
  else match (lexF l.length l 0).2 with
    | none => ((lexF l.length l 0).1 ++ [(endT, l.length)], 0, 0)
    | some p => ([], (p : Int), 160)
theorem lexF_nil (f : Nat) (a : Nat) : lexF f [] a = ([], none) := by
  cases f with
  | zero => rfl
  | succ f => rw [lexF, if_pos rfl]
theorem lexF_gap {f : Nat} {l : List UInt8} {a : Nat} (hl : l ≠ []) (hg : 0 < gapN l) : lexF (f + 1) l a = lexF f (l.drop (gapN l)) (a + gapN l) := by
  rw [lexF, if_neg hl, if_pos hg]
theorem lexF_bad {f : Nat} {l : List UInt8} {a : Nat} (hl : l ≠ []) (hg : gapN l = 0) (hz : (firstV l).z = 0) : lexF (f + 1) l a = ([], some a) := by
  rw [lexF, if_neg hl, if_neg (by omega), if_pos hz]
theorem lexF_tok {f : Nat} {l : List UInt8} {a : Nat} (hl : l ≠ []) (hg : gapN l = 0) (hz : (firstV l).z ≠ 0) :
    lexF (f + 1) l a = ((firstV l, a) :: (lexF f (l.drop (firstV l).z) (a + (firstV l).z)).1, (lexF f (l.drop (firstV l).z) (a + (firstV l).z)).2) := by
  rw [lexF, if_neg hl, if_neg (by omega), if_neg hz]

theorem info29 : (Tryd.prog.info? 29).map (fun i => (i.zero, i.size, i.bytes)) = some (some (.agg #[.int .i64 0, .string ⟨#[]⟩, .int .i64 0, .int .i64 0]), 4, 40) := by kernel_rfl
/-- The cells of a token in a row. -/
def rt (x : TK × Nat) : List Value := [.int .i64 x.1.k, .string ⟨x.1.t.toArray⟩, .int .i64 x.1.n, .int .i64 (x.2 : Int)]
theorem rt_len (r : List (TK × Nat)) : (r.flatMap rt).length = r.length * 4 := by
  induction r with
  | nil => rfl
  | cons x r ih => rw [List.flatMap_cons, List.length_append, ih, List.length_cons]; simp [rt]; omega
theorem rt_one (r : List (TK × Nat)) : ∀ v ∈ r.flatMap rt, v.oneCell' = true := by
  intro v hv
  obtain ⟨x, _, hx⟩ := List.mem_flatMap.1 hv
  simp only [rt, List.mem_cons, List.mem_nil_iff, or_false] at hx
  rcases hx with rfl | rfl | rfl | rfl <;> rfl
theorem rt_at (r : List (TK × Nat)) (i : Nat) (h : i < r.length) : (r.flatMap rt)[i * 4]? = some (.int .i64 r[i].1.k) ∧ (r.flatMap rt)[i * 4 + 1]? = some (.string ⟨r[i].1.t.toArray⟩) ∧ (r.flatMap rt)[i * 4 + 2]? = some (.int .i64 r[i].1.n) ∧ (r.flatMap rt)[i * 4 + 3]? = some (.int .i64 (r[i].2 : Int)) := by
  induction r generalizing i with
  | nil => cases h
  | cons x r ih =>
    cases i with
    | zero => simp [rt]
    | succ i =>
      have := ih i (by simpa using h)
      rw [List.flatMap_cons, show (i + 1) * 4 = i * 4 + 4 by omega, show i * 4 + 4 + 1 = (i * 4 + 1) + 4 by omega, show i * 4 + 4 + 2 = (i * 4 + 2) + 4 by omega, show i * 4 + 4 + 3 = (i * 4 + 3) + 4 by omega]
      simpa [rt] using this
/-- A row of tokens of the call's own. -/
def OwnT (w : World) (B : Nat) (v : Value) (r : List (TK × Nat)) : Prop := w.ownsRow B 29 4 v r.length (r.flatMap rt)
theorem OwnT.nil (w : World) (B : Nat) : OwnT w B (.slice none 0 0) [] := ⟨by simp, .inl ⟨rfl, rfl⟩⟩
theorem OwnT.far {w w' : World} {B : Nat} {v : Value} {r : List (TK × Nat)} (h : OwnT w B v r) (k : ∀ g, v.ownBlock = some g → w'.heap[g]? = w.heap[g]?) : OwnT w' B v r := by
  refine ⟨h.1, ?_⟩
  rcases h.2 with q | ⟨g, cap, cur, e, hg, hh, q⟩
  · exact .inl q
  · exact .inr ⟨g, cap, cur, e, hg, (k g (by rw [e]; rfl)).trans hh, q⟩
theorem OwnT.next {w w' : World} {B : Nat} {v : Value} {r : List (TK × Nat)} (h : OwnT w B v r) (k : Below w.heap.size w w') : OwnT w' B v r := h.far (fun g hg => k.block g (World.ownsRow.lt h g hg).2)
theorem append_tok {w : World} {v : Value} {r : List (TK × Nat)} {B : Nat} (h : OwnT w B v r) (x : TK × Nat) (hs : r.length ≤ 5000) (hb : B ≤ w.heap.size) :
    ∃ v' w', (Builtin.append_ #[23, 23] 23 #[v, .slice (some ⟨w.heap.size, 0, none⟩) 1 1]).run Tryd.prog (w.alloc (.cells #[.int .i64 x.1.k, .string ⟨x.1.t.toArray⟩, .int .i64 x.1.n, .int .i64 (x.2 : Int)] 29)) = .ok v' w' ∧ OwnT w' B v' (r ++ [x]) ∧ Below B w w' := by
  obtain ⟨i, hi, hz, h1, h2⟩ := info_of info29
  obtain ⟨v', w', a1, a2, a3, a4⟩ := run_append_own (P := Tryd.prog) (w.alloc (.cells #[.int .i64 x.1.k, .string ⟨x.1.t.toArray⟩, .int .i64 x.1.n, .int .i64 (x.2 : Int)] 29)) B 23 23 29 i _ 4 40 Tryd.underlying23 hi hz h1 h2 (by simp [Value.cells]) (by omega) v r.length (r.flatMap rt) (World.ownsRow.alloc h _) ⟨w.heap.size, 0, none⟩ 1 1 ([x].flatMap rt) (rt_len [x])
    (fun j u hu => by
      rw [Go.WideShapes.add_plain, Nat.zero_add]
      have e : [x].flatMap rt = [.int .i64 x.1.k, .string ⟨x.1.t.toArray⟩, .int .i64 x.1.n, .int .i64 (x.2 : Int)] := rfl
      rw [e] at hu
      match j, hu with
      | 0, hu => cases hu; simp
      | 1, hu => cases hu; simp
      | 2, hu => cases hu; simp
      | 3, hu => cases hu; simp) (rt_one [x]) (by unfold maxLen; omega) (by omega) (Nat.le_trans hb (by simp))
  refine ⟨v', w', a1, ?_, ((Below.refl B w).alloc hb _).grown a3 (Nat.le_trans hb (by simp)) (fun k hk => (World.ownsRow.lt h k hk).1)⟩
  unfold OwnT
  rw [List.length_append, List.flatMap_append]
  exact a2
theorem str_tail (s : ByteArray) (lo : Nat) (h2 : lo ≤ s.size) (W : World) : (Instr.sliceAt 9 (.string s) (some (.int .i64 (lo : Int))) none none).run Tryd.prog W = .ok (.string (s.extract lo s.size)) W := by
  rw [run_sliceAt_string W 9 _ _ _ _ Tryd.underlying9]
  have h0 : (0 : Int) ≤ (lo : Int) ∧ (lo : Int) ≤ (s.size : Int) := by omega
  simp [go_sem, Tryd.underlying9, h0]
theorem tail_data (s : ByteArray) (a : Nat) : (s.extract a s.size).data.toList = s.data.toList.drop a := by
  rw [ext_list, List.take_of_length_le (by simp)]
end Go.Proofs.YtgokilochbnbaaaDoor
