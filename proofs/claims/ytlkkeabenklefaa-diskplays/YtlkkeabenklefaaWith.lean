/- The document's disk: with. -/
import Derived.Test.YtlkkeabenklefaaBurns
namespace Go.Proofs.Ytlkkeabenklefaa
open Go.ChangeShapes Go.WideShapes Go.ChangeAt Go.RowKit
set_option linter.unusedVariables false

theorem st_append {P : Program} {ops : Array Oper} {rest : List Oper} {o : Oper} {a : Act} {w w' : World} {Q : Exit → Act → World → Prop} {v : Value} {x y : Operand} {t u : TypeId} (hgd : o.guard = none) (ho : o.op = .call { callee := .builtin .append, args := #[x, y], argTypes := #[t, u] }) (hr : (Builtin.append_ #[t, u] o.type #[a.eval x, a.eval y]).run P w = .ok v w') (h : wpList P ops Q rest (a.put o.dst v) w') : wpList P ops Q (o :: rest) a w :=
  wpList_plain hgd fun _ hK => by
    unfold Oper.wp execOp
    simp only [ho, resolve, invoke, builtin, Sem.run_bind, Sem.run_pure, Result.andThen_ok, List.map_toArray, List.map_cons, List.map_nil, hr]
    exact hK _ _ h

def sv (l : List ByteArray) : List Value := l.map Value.string
theorem sv_len (l : List ByteArray) : (sv l).length = l.length := by simp [sv]
theorem sv_one (l : List ByteArray) : ∀ v ∈ sv l, v.oneCell' = true := by
  intro v hv
  obtain ⟨x, _, rfl⟩ := List.mem_map.1 hv
  rfl
theorem Try.info9 : (Try.prog.info? 9).map (fun i => (i.zero, i.size, i.bytes)) = some (some (.string ⟨#[]⟩), 1, 16) := by kernel_rfl

theorem append_strs {w : World} {v : Value} {l : List ByteArray} {base : Nat} (h : w.ownsRow base 9 1 v l.length (sv l)) (b o c : Nat) (m : List ByteArray) (hm : ∀ k (hk : k < m.length), w.cell? ⟨b, o + k, none⟩ = some (.string m[k])) (hs : l.length + m.length ≤ 8192) (hb : base ≤ w.heap.size) :
    ∃ v' w', (Builtin.append_ #[27, 27] 27 #[v, .slice (some ⟨b, o, none⟩) m.length c]).run Try.prog w = .ok v' w' ∧ w'.ownsRow base 9 1 v' (l ++ m).length (sv (l ++ m)) ∧ w.grownBy w' v.ownBlock ∧ (∀ k, v'.ownBlock = some k → v.ownBlock = some k ∨ k = w.heap.size) := by
  obtain ⟨i, hi, hz, h1, h2⟩ := info_of Try.info9
  obtain ⟨v', w', a1, a2, a3, a4, a5⟩ := run_append_own_at (P := Try.prog) w base 27 27 9 i _ 1 16 Try.underlying27 hi hz h1 h2 (by simp [Value.cells]) (by omega) v l.length (sv l) h ⟨b, o, none⟩ m.length c (sv m) (by rw [sv_len]; omega)
    (fun j u hu => by
      rw [Go.WideShapes.add_plain]
      have hj : j < m.length := by have := (List.getElem?_eq_some_iff.1 hu).1; rwa [sv_len] at this
      rw [hm j hj]
      rw [← hu]
      simp [sv, hj]) (sv_one m) (by unfold maxLen; omega) (by omega) hb
  refine ⟨v', w', a1, ?_, a3, fun k hk => ?_⟩
  · rw [List.length_append]
    simpa [sv] using a2
  · rcases a5 with e | e
    · exact .inl (e ▸ hk)
    · rw [e] at hk; cases hk; exact .inr rfl

theorem ref_with {w : World} (l : List ByteArray) (b c : Nat) (h : w.ownsRow 0 9 1 (.slice (some ⟨b, 0, none⟩) l.length c) l.length (sv l)) (a : Nat) (ha : a < l.length) (hl : l.length ≤ 4096) (s : ByteArray) :
    Calls Try.prog 28 #[.slice (some ⟨b, 0, none⟩) l.length c, .int .i64 (a : Int), .string s] w fun e w' =>
      ∃ v', e = .returned v' ∧ w'.ownsRow w.heap.size 9 1 v' l.length (sv (l.set a s)) ∧ Kept (fun _ => False) w w' := by
  have hcell : ∀ k (hk : k < l.length), w.cell? ⟨b, k, none⟩ = some (.string l[k]) := fun k hk => by
    rw [h.cellAt k (by omega)]
    simp [sv, hk]
  have hb : b < w.heap.size := World.block_lt_of_cell? w _ (hcell a ha)
  have hcap : l.length ≤ c := by
    rcases h.2 with ⟨e, _⟩ | ⟨g, cap, cur, e, _, _, hc, _⟩
    · cases e
    · cases e; exact hc
  have hcm : c ≤ 9223372036854775807 := by
    rcases h.2 with ⟨e, _⟩ | ⟨g, cap, cur, e, _, _, _, hc, _⟩
    · cases e
    · cases e; unfold maxLen at hc; omega
  obtain ⟨v1, W1, r1, o1, g1, _⟩ := append_strs (base := w.heap.size) (w := w) (v := .slice none 0 0) (l := []) (World.ownsRow_nil w _ 9 1) b 0 c (l.take a) (fun k hk => by
    rw [List.length_take] at hk
    rw [Nat.zero_add, hcell k (by omega), List.getElem_take]) (by simp; omega) (Nat.le_refl _)
  rw [List.length_take, Nat.min_eq_left (by omega)] at r1
  rw [List.nil_append] at o1
  have k1 : Kept (fun _ => False) w W1 := (Kept.refl _ w).grown g1 (fun k hk => by cases hk)
  have k1' := k1.alloc (.cells #[.string s] 9)
  obtain ⟨v2, W2, r2, o2, g2, _⟩ := append_strs (o1.alloc (.cells #[.string s] 9)) W1.heap.size 0 1 [s] (fun k hk => by
    have : k = 0 := by simpa using hk
    subst this
    simp) (by simp; omega) (Nat.le_trans k1.size (by simp))
  have k2 : Kept (fun _ => False) w W2 := k1'.grown g2 (fun k hk => .inr (o1.lt k hk).1)
  obtain ⟨v3, W3, r3, o3, g3, _⟩ := append_strs o2 b (if c = a + 1 then 0 else a + 1) (c - (a + 1)) (l.drop (a + 1)) (fun k hk => by
    rw [List.length_drop] at hk
    rw [if_neg (by omega), k2.cell (hcell (a + 1 + k) (by omega)) (fun q => q), List.getElem_drop]) (by simp; omega) k2.size
  have k3 : Kept (fun _ => False) w W3 := k2.grown g3 (fun k hk => .inr (o2.lt k hk).1)
  rw [List.length_drop] at r3
  have e : l.take a ++ [s] ++ l.drop (a + 1) = l.set a s := by
    rw [List.set_eq_take_append_cons_drop, if_pos ha, List.append_assoc]
    rfl
  rw [e, List.length_set] at o3
  have HE := (show Hid _ from (⟨o3, k3⟩ : _ ∧ _))
  clear o1 o2 o3 g1 g2 g3 k1 k1' k2 k3 e hcell hb h
  generalize l.set a s = l' at *
  have hai : (a : Int) ≤ (c : Int) := by omega
  generalize l.length = n at *
  clear l
  have r2' : (Builtin.append_ #[27, 27] 27 #[v1, .slice (some ⟨W1.heap.size, 0, none⟩) 1 1]).run Try.prog (W1.alloc (.cells #[.string s] 9)) = .ok v2 W2 := r2
  clear r2
  by_cases hc : c = a + 1
  · subst hc
    rw [if_pos rfl, Nat.sub_self, show n - (a + 1) = 0 by omega] at r3
    go_enter Try.func28, Try.ntmps28
    go_wp2_with (first | ((with_reducible apply st_append (x := .tmp 8)); (case ho => rfl); (case hgd => rfl); (case hr => exact r1)) | ((with_reducible apply st_append (x := .tmp 13)); (case ho => rfl); (case hgd => rfl); (case hr => exact r2')) | ((with_reducible apply st_append (x := .tmp 17)); (case ho => rfl); (case hgd => rfl); (case hr => exact r3)))
    go_ret
    exact ⟨v3, rfl, HE.out⟩
  · rw [if_neg hc] at r3
    go_enter Try.func28, Try.ntmps28
    go_wp2_with (first | ((with_reducible apply st_append (x := .tmp 8)); (case ho => rfl); (case hgd => rfl); (case hr => exact r1)) | ((with_reducible apply st_append (x := .tmp 13)); (case ho => rfl); (case hgd => rfl); (case hr => exact r2')) | ((with_reducible apply st_append (x := .tmp 17)); (case ho => rfl); (case hgd => rfl); (case hr => exact r3)))
    go_ret
    exact ⟨v3, rfl, HE.out⟩
end Go.Proofs.Ytlkkeabenklefaa
