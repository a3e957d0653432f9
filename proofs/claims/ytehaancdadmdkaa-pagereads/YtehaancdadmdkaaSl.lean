/- Lists of cells in memory. -/
import Derived.Test.YtehaancdadmdkaaNw
import Derived.Test.YtehaancdadmdkaaPv
import Derived.Maps.AppendAt
import Derived.Laws.ResultCell
namespace Go.Proofs.Ytehaancdadmdkaa
open Go.ChangeShapes Go.WideShapes Go.ChangeAt Go.RowKit
set_option linter.unusedVariables false
set_option maxRecDepth 100000

def Rw {α : Type} (f : α → List Value) (k : Nat) (w : World) (a : Option Addr) (l : List α) : Prop :=
  l ≠ [] → ∃ b o, a = some ⟨b, o, none⟩ ∧ ∀ i x, l[i]? = some x → ∀ j u, (f x)[j]? = some u → w.cell? ⟨b, o + i * k + j, none⟩ = some u
theorem Rw.nil {α : Type} (f : α → List Value) (k : Nat) (w : World) (a : Option Addr) : Rw f k w a [] := fun h => absurd rfl h
theorem Rw.far {α : Type} {f : α → List Value} {k : Nat} {w w' : World} {a : Option Addr} {l : List α} (h : Rw f k w a l) (hb : ∀ b o, a = some ⟨b, o, none⟩ → l ≠ [] → w'.heap[b]? = w.heap[b]?) : Rw f k w' a l := fun hl => by
  obtain ⟨b, o, e, hc⟩ := h hl
  exact ⟨b, o, e, fun i x hx j u hu => (World.cell?_of_block (a := ⟨b, o + i * k + j, none⟩) (hb b o e hl)).trans (hc i x hx j u hu)⟩
theorem Rw.lt {α : Type} {f : α → List Value} {k : Nat} {w : World} {a : Option Addr} {l : List α} (h : Rw f k w a l) (hf : ∀ x, f x ≠ []) {b o : Nat} (e : a = some ⟨b, o, none⟩) (hl : l ≠ []) : b < w.heap.size := by
  obtain ⟨b', o', e', hc⟩ := h hl
  rw [e] at e'
  cases e'
  cases l with
  | nil => exact absurd rfl hl
  | cons x r =>
    cases hx : f x with
    | nil => exact absurd hx (hf x)
    | cons u q => exact World.block_lt_of_cell? w _ (hc 0 x rfl 0 u (by rw [hx]; rfl))
theorem own_form {w : World} {base e size : Nat} {v : Value} {n : Nat} {xs : List Value} (h : w.ownsRow base e size v n xs) : ∃ o c, v = .slice o n c := by
  rcases h.2 with ⟨rfl, rfl⟩ | ⟨g, cap, cur, rfl, _⟩
  · exact ⟨_, _, rfl⟩
  · exact ⟨_, _, rfl⟩
theorem rw_cells {α : Type} {f : α → List Value} {k : Nat} (hf : ∀ x, (f x).length = k) {w : World} {b o : Nat} {l : List α} (hc : ∀ i x, l[i]? = some x → ∀ j u, (f x)[j]? = some u → w.cell? ⟨b, o + i * k + j, none⟩ = some u) : ∀ j u, (l.flatMap f)[j]? = some u → w.cell? ⟨b, o + j, none⟩ = some u := by
  induction l generalizing o with
  | nil => intro j u h; simp at h
  | cons x r ih =>
    intro j u h
    rw [List.flatMap_cons] at h
    by_cases hj : j < (f x).length
    · rw [List.getElem?_append_left hj] at h
      have := hc 0 x rfl j u h
      rwa [Nat.zero_mul, Nat.add_zero] at this
    · rw [List.getElem?_append_right (by omega)] at h
      have := ih (o := o + k) (fun i y hy j u hu => by
        have := hc (i + 1) y hy j u hu
        rwa [show o + (i + 1) * k + j = o + k + i * k + j by rw [Nat.succ_mul]; omega] at this) _ u h
      rw [hf x] at this hj
      rwa [show o + k + (j - k) = o + j by omega] at this
theorem flat_len {α : Type} {f : α → List Value} {k : Nat} (hf : ∀ x, (f x).length = k) (l : List α) : (l.flatMap f).length = l.length * k := by
  induction l with
  | nil => simp
  | cons x r ih => rw [List.flatMap_cons, List.length_append, ih, List.length_cons, hf, Nat.succ_mul]; omega
theorem own_rw {α : Type} {f : α → List Value} {k : Nat} (hf : ∀ x, (f x).length = k) {w : World} {e : Nat} {v : Value} {l : List α} (h : w.ownsRow 0 e k v l.length (l.flatMap f)) : ∃ a c, v = .slice a l.length c ∧ Rw f k w a l ∧ l.length ≤ c ∧ (a = none → c = 0) := by
  rcases h.2 with ⟨rfl, h0⟩ | ⟨g, cap, cur, rfl, _, hg, hcap, hmax, hsz, htk⟩
  · exact ⟨none, 0, by rw [h0], fun hl => absurd (List.eq_nil_of_length_eq_zero h0) hl, by omega, fun _ => rfl⟩
  · refine ⟨_, cap, rfl, fun hl => ⟨g, 0, rfl, fun i x hx j u hu => ?_⟩, hcap, fun e => by cases e⟩
    have hj : j < k := by
      have := (List.getElem?_eq_some_iff.1 hu).1
      rwa [hf x] at this
    have hi : i < l.length := (List.getElem?_eq_some_iff.1 hx).1
    have hflat : ∀ (l : List α) (i : Nat) (x : α), l[i]? = some x → ∀ j u, (f x)[j]? = some u → (l.flatMap f)[i * k + j]? = some u := by
      intro l
      induction l with
      | nil => intro i x hx; simp at hx
      | cons y r ih =>
        intro i x hx j u hu
        have hjj : j < k := by
          have := (List.getElem?_eq_some_iff.1 hu).1
          rwa [hf x] at this
        rw [List.flatMap_cons]
        cases i with
        | zero =>
          have e : y = x := by simpa using hx
          subst e
          rw [Nat.zero_mul, Nat.zero_add, List.getElem?_append_left (by rw [hf]; exact hjj)]
          exact hu
        | succ i =>
          rw [List.getElem?_append_right (by rw [hf, Nat.succ_mul]; omega), hf, show (i + 1) * k + j - k = i * k + j by rw [Nat.succ_mul]; omega]
          exact ih i x (by simpa using hx) j u hu
    have h1 := hflat l i x hx j u hu
    have hlt : i * k + j < l.length * k := by
      have : (i + 1) * k ≤ l.length * k := Nat.mul_le_mul_right _ hi
      rw [Nat.succ_mul] at this; omega
    rw [← htk] at h1
    rw [List.getElem?_take_of_lt hlt] at h1
    rw [Nat.zero_add]
    simp only [World.cell?, hg]
    simpa using h1
theorem end_cell_tmp {fn : Func} {p u : Tmp} {ty : TypeId} {b : Addr} {v : Value} {tmps : Array Value} {w : World} (h : fn.results = #[.cell p ty, .tmp u]) (hp : tmps.getD p undef = .pointer (some b)) (hl : (loadVar ty b).run Try.prog w = .ok v w) :
    (results fn tmps).run Try.prog w = .ok (.tuple #[v, tmps.getD u undef]) w := by
  rw [results_cell_tmp h, hp]
  simp [asAddr, hl, Result.andThen]
theorem loads {w : World} {b o n : Nat} (cs : List Value) (hn : cs.length = n) (h : ∀ j x, cs[j]? = some x → w.cell? ⟨b, o + j, none⟩ = some x) : (loadCellsFrom ⟨b, o, none⟩ 0 n #[]).run Try.prog w = .ok cs.toArray w := by
  have := run_loadCells_list (P := Try.prog) w ⟨b, o, none⟩ cs (fun j x hx => by rw [Go.WideShapes.add_plain]; exact h j x hx)
  rw [hn] at this
  exact this
theorem st_append {P : Program} {ops : Array Oper} {rest : List Oper} {o : Oper} {a : Act} {w w' : World} {Q : Exit → Act → World → Prop} {v : Value} {x y : Operand} {t u : TypeId} (hgd : o.guard = none) (ho : o.op = .call { callee := .builtin .append, args := #[x, y], argTypes := #[t, u] }) (hr : (Builtin.append_ #[t, u] o.type #[a.eval x, a.eval y]).run P w = .ok v w') (h : wpList P ops Q rest (a.put o.dst v) w') : wpList P ops Q (o :: rest) a w :=
  wpList_plain hgd fun _ hK => by
    unfold Oper.wp execOp
    simp only [ho, resolve, invoke, builtin, Sem.run_bind, Sem.run_pure, Result.andThen_ok, List.map_toArray, List.map_cons, List.map_nil, hr]
    exact hK _ _ h
def Sl {α : Type} (f : α → List Value) (k : Nat) (w : World) (v : Value) (l : List α) : Prop := ∃ a c, v = .slice a l.length c ∧ Rw f k w a l ∧ l.length ≤ c ∧ (a = none → c = 0)
theorem Sl.nil {α : Type} (f : α → List Value) (k : Nat) (w : World) : Sl f k w (.slice none 0 0) ([] : List α) := ⟨none, 0, rfl, Rw.nil _ _ _ _, Nat.le_refl _, fun _ => rfl⟩
theorem Rw.take {α : Type} {f : α → List Value} {k : Nat} {w : World} {a : Option Addr} {l : List α} (h : Rw f k w a l) (i : Nat) : Rw f k w a (l.take i) := fun hl => by
  obtain ⟨b, o, e, hc⟩ := h (fun e => hl (by rw [e, List.take_nil]))
  refine ⟨b, o, e, fun j x hx => hc j x ?_⟩
  obtain ⟨hj, rfl⟩ := List.getElem?_eq_some_iff.1 hx
  rw [List.getElem_take]
  exact List.getElem?_eq_getElem _
theorem Rw.drop {α : Type} {f : α → List Value} {k : Nat} {w : World} {b o : Nat} {l : List α} (h : Rw f k w (some ⟨b, o, none⟩) l) (i : Nat) : Rw f k w (some ⟨b, o + i * k, none⟩) (l.drop i) := fun hl => by
  obtain ⟨b', o', e, hc⟩ := h (fun e => hl (by rw [e, List.drop_nil]))
  cases e
  refine ⟨b, o + i * k, rfl, fun j x hx m u hu => ?_⟩
  rw [List.getElem?_drop] at hx
  have := hc (i + j) x hx m u hu
  rwa [show o + (i + j) * k + m = o + i * k + j * k + m by rw [Nat.add_mul]; omega] at this
theorem rw_lit {α : Type} {f : α → List Value} {k : Nat} (hf : ∀ x, (f x).length = k) {w : World} {b : Nat} {l : List α} (h : CellsF w b (l.flatMap f)) : Rw f k w (some ⟨b, 0, none⟩) l := fun hl => by
  refine ⟨b, 0, rfl, fun i x hx j u hu => ?_⟩
  rw [Nat.zero_add]
  refine h.cs _ _ ?_
  have hflat : ∀ (l : List α) (i : Nat) (x : α), l[i]? = some x → ∀ j u, (f x)[j]? = some u → (l.flatMap f)[i * k + j]? = some u := by
    intro l
    induction l with
    | nil => intro i x hx; simp at hx
    | cons y r ih =>
      intro i x hx j u hu
      have hjj : j < k := by
        have := (List.getElem?_eq_some_iff.1 hu).1
        rwa [hf x] at this
      rw [List.flatMap_cons]
      cases i with
      | zero =>
        have e : y = x := by simpa using hx
        subst e
        rw [Nat.zero_mul, Nat.zero_add, List.getElem?_append_left (by rw [hf]; exact hjj)]
        exact hu
      | succ i =>
        rw [List.getElem?_append_right (by rw [hf, Nat.succ_mul]; omega), hf, show (i + 1) * k + j - k = i * k + j by rw [Nat.succ_mul]; omega]
        exact ih i x (by simpa using hx) j u hu
  exact hflat l i x hx j u hu
theorem Sl.head {α : Type} {f : α → List Value} {k : Nat} {w : World} {a : Option Addr} {n c : Nat} {l : List α} (h : Sl f k w (.slice a n c) l) (i : Nat) (hi : i ≤ l.length) : Sl f k w (.slice a i c) (l.take i) := by
  obtain ⟨a', c', e, h2, h3, h4⟩ := h
  cases e
  exact ⟨a, c, by rw [List.length_take, Nat.min_eq_left hi], h2.take i, by rw [List.length_take]; omega, h4⟩
theorem Sl.tail {α : Type} {f : α → List Value} {k : Nat} {w : World} {b o n c : Nat} {l : List α} (h : Sl f k w (.slice (some ⟨b, o, none⟩) n c) l) (j : Nat) (hj : j ≤ l.length) : Sl f k w (.slice (some ⟨b, o + j * k, none⟩) (l.length - j) (c - j)) (l.drop j) := by
  obtain ⟨a', c', e, h2, h3, h4⟩ := h
  cases e
  exact ⟨_, c - j, by rw [List.length_drop], h2.drop j, by rw [List.length_drop]; omega, fun e => by cases e⟩

theorem Sl.kept {α : Type} {f : α → List Value} {k : Nat} {F : Nat → Prop} {w w' : World} {v : Value} {l : List α} (h : Sl f k w v l) (hf : ∀ x, f x ≠ []) (b : Kept F w w') (hF : ∀ g, g < w.heap.size → ¬ F g) : Sl f k w' v l := by
  obtain ⟨a, c, h1, h2, h3, h4⟩ := h
  exact ⟨a, c, h1, h2.far (fun g o e hl => b.block g (h2.lt hf e hl) (hF g (h2.lt hf e hl))), h3, h4⟩
theorem Sl.step {α : Type} {f : α → List Value} {k : Nat} {w w' : World} {v : Value} {l : List α} (h : Sl f k w v l) (hf : ∀ x, f x ≠ []) (b : Kept (fun _ => False) w w') : Sl f k w' v l := h.kept hf b (fun _ _ z => z)
/-- The cells of a cell. -/
def cv (c : Cel) : List Value := [.string ⟨c.1.toArray⟩, .string ⟨c.2.toArray⟩]
theorem cv_ne (x : Cel) : cv x ≠ [] := by simp [cv]
theorem cv_len (x : Cel) : (cv x).length = 2 := rfl
theorem cv_one (l : List Cel) : ∀ v ∈ l.flatMap cv, v.oneCell' = true := by
  intro v hv
  obtain ⟨x, _, h⟩ := List.mem_flatMap.1 hv
  simp only [cv, List.mem_cons, List.not_mem_nil, or_false] at h
  rcases h with rfl | rfl <;> rfl
theorem info74 : (Try.prog.info? 74).map (fun i => (i.zero, i.size, i.bytes)) = some (some (.agg #[.string ⟨#[]⟩, .string ⟨#[]⟩]), 2, 32) := by kernel_rfl
/-- Cells are appended to a row of one's own. -/
theorem appC_is {w : World} {v : Value} {l l' : List Cel} (h : w.ownsRow 0 74 2 v l.length (l.flatMap cv)) (u : Value) (hu : Sl cv 2 w u l') (hs : (l ++ l').length ≤ 1000) :
    ∃ v' w', (Builtin.append_ #[27, 27] 27 #[v, u]).run Try.prog w = .ok v' w' ∧ w'.ownsRow 0 74 2 v' (l ++ l').length ((l ++ l').flatMap cv) ∧ w.grownBy w' v.ownBlock ∧ (v'.ownBlock = v.ownBlock ∨ v'.ownBlock = some w.heap.size) := by
  obtain ⟨inf, hi0, hz0, hzs, hzb⟩ := info_of info74
  obtain ⟨a, c, rfl, hr, hc, hz⟩ := hu
  rw [List.length_append] at hs ⊢
  cases a with
  | none =>
    have hc0 := hz rfl
    have hl0 : l' = [] := List.eq_nil_of_length_eq_zero (by omega)
    subst hl0
    subst hc0
    obtain ⟨o, cc, rfl⟩ := own_form h
    have hr := run_append_owned_none (P := Try.prog) w 0 27 27 74 inf 2 Try.underlying27 hi0 _ _ _ h
    refine ⟨_, w, ?_, by rw [List.append_nil]; exact h, ⟨rfl, rfl, rfl, Nat.le_refl _, fun _ _ _ => rfl⟩, .inl rfl⟩
    exact hr
  | some a =>
    obtain ⟨v', w', r1, r2, r3, r4, r5⟩ := run_append_own_at (P := Try.prog) w 0 27 27 74 inf _ 2 32 Try.underlying27 hi0 hz0 hzs hzb (by simp [Value.cells]) (by omega) v l.length (l.flatMap cv) h a l'.length c (l'.flatMap cv) (flat_len cv_len l') (fun j x hx => by
      have hne : l' ≠ [] := fun e => by rw [e] at hx; simp at hx
      obtain ⟨b, o, e, hcc⟩ := hr hne
      cases e
      rw [Go.WideShapes.add_plain]
      exact rw_cells (f := cv) (k := 2) cv_len hcc j x hx) (cv_one l') (by unfold maxLen; omega) (by omega) (Nat.zero_le _)
    exact ⟨v', w', r1, by rw [List.flatMap_append]; exact r2, r3, r5⟩
/-- The document's page. -/
abbrev rpg (kd : Int) (v : Value) : Value := .agg #[.int .i64 kd, v]
theorem load29 {w : World} {b : Nat} {c0 c1 : Value} (h0 : w.cell? ⟨b, 0, none⟩ = some c0) (h1 : w.cell? ⟨b, 1, none⟩ = some c1) : (loadVar 29 ⟨b, 0, none⟩).run Try.prog w = .ok (.agg #[c0, c1]) w := by
  have hl := loads [c0, c1] (n := 2) (w := w) (b := b) (o := 0) rfl (fun j x hx => by
    match j, hx with
    | 0, hx => cases hx; simpa using h0
    | 1, hx => cases hx; simpa using h1)
  simp [loadVar, Sem.run_bind, loadCells, hl]
theorem Kept.put2 {F : Nat → Prop} {a w : World} {b : Nat} (h : Kept F a w) (hb : a.heap.size ≤ b) (u v : Value) : Kept F a ((w.setCell ⟨b, 0, none⟩ u).setCell ⟨b, 1, none⟩ v) := Kept.setCell (p := ⟨b, 1, none⟩) (Kept.setCell (p := ⟨b, 0, none⟩) h (.inr hb) u) (.inr hb) v
theorem rnew_is (kd : Nat) (h1 : 1 ≤ kd) (h2 : kd ≤ 255) (w : World) : Calls Try.prog 10 #[.int .i64 (kd : Int)] w fun e w' => e = .returned (.tuple #[rpg (kd : Int) (.slice none 0 0), .int .i64 0]) ∧ Kept (fun _ => False) w w' := by
  go_enter Try.func10, Try.ntmps10
  go_wp2
  refine bodyPost_ret (end_cell_tmp rfl rfl (load29 (by simp [go_sem]; rfl) (by simp [go_sem]; rfl))) rfl ?_
  refine ⟨rfl, ?_⟩
  exact (Kept.refl _ w).alloc _
theorem rnew_no (kd : Int) (h : kd < 1 ∨ 255 < kd) (w : World) : Calls Try.prog 10 #[.int .i64 kd] w fun e w' => e = .returned (.tuple #[rpg 0 (.slice none 0 0), .int .i64 1]) ∧ Kept (fun _ => False) w w' := by
  by_cases c : kd < 1
  · go_enter Try.func10, Try.ntmps10
    go_wp2
    refine bodyPost_ret (end_cell_tmp rfl rfl (load29 (by simp [go_sem]; rfl) (by simp [go_sem]; rfl))) rfl ?_
    exact ⟨rfl, (Kept.refl _ w).alloc _⟩
  · have c2 : 255 < kd := by omega
    go_enter Try.func10, Try.ntmps10
    go_wp2
    refine bodyPost_ret (end_cell_tmp rfl rfl (load29 (by simp [go_sem]; rfl) (by simp [go_sem]; rfl))) rfl ?_
    exact ⟨rfl, (Kept.refl _ w).alloc _⟩
end Go.Proofs.Ytehaancdadmdkaa
