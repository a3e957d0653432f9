/- Lists of the call's own: appending to them. -/
import Derived.Test.YtflbcheofmljeaaSeen
namespace Go.Proofs.Ytflbcheofmljeaa
open Go.ChangeShapes Go.WideShapes Go.RowKit
set_option linter.unusedVariables false
set_option maxRecDepth 100000

theorem st_append {P : Program} {ops : Array Oper} {rest : List Oper} {o : Oper} {a : Act} {w w' : World} {Q : Exit → Act → World → Prop} {v : Value} {x y : Operand} {t u : TypeId} (hgd : o.guard = none) (ho : o.op = .call { callee := .builtin .append, args := #[x, y], argTypes := #[t, u] }) (hr : (Builtin.append_ #[t, u] o.type #[a.eval x, a.eval y]).run P w = .ok v w') (h : wpList P ops Q rest (a.put o.dst v) w') : wpList P ops Q (o :: rest) a w :=
  wpList_plain hgd fun _ hK => by
    unfold Oper.wp execOp
    simp only [ho, resolve, invoke, builtin, Sem.run_bind, Sem.run_pure, Result.andThen_ok, List.map_toArray, List.map_cons, List.map_nil, hr]
    exact hK _ _ h
theorem dr_append {P : Program} {ops : Array Oper} {o : Oper} {a : Act} {w w' : World} {Q : Exit → Act → World → Prop} {K : Act → World → Prop} {E : Prop} {v : Value} {x y : Operand} {t u : TypeId} (hgd : o.guard = none) (ho : o.op = .call { callee := .builtin .append, args := #[x, y], argTypes := #[t, u] }) (hr : (Builtin.append_ #[t, u] o.type #[a.eval x, a.eval y]).run P w = .ok v w')
    (hK : K (a.put o.dst v) w') : if Region.wanted o (yielded ops a.tmps) = true then Oper.wp P o a w K Q else E := by
  have hw : Region.wanted o (yielded ops a.tmps) = true := by simp [Region.wanted, hgd]
  rw [if_pos hw]
  unfold Oper.wp execOp
  simp only [ho, resolve, invoke, builtin, Sem.run_bind, Sem.run_pure, Result.andThen_ok, List.map_toArray, List.map_cons, List.map_nil, hr]
  exact hK
theorem info_of {t : TypeId} {z : Value} {n b : Nat} (h : (Try.prog.info? t).map (fun i => (i.zero, i.size, i.bytes)) = some (some z, n, b)) : ∃ i, Try.prog.info? t = some i ∧ i.zero = some z ∧ i.size = n ∧ i.bytes = b := by
  cases hi : Try.prog.info? t with
  | none => rw [hi] at h; cases h
  | some i =>
    rw [hi] at h
    simp only [Option.map_some, Option.some.injEq, Prod.mk.injEq] at h
    exact ⟨i, rfl, h.1, h.2.1, h.2.2⟩
theorem info3 : (Try.prog.info? 3).map (fun i => (i.zero, i.size, i.bytes)) = some (some (.int .i64 0), 1, 8) := by kernel_rfl
theorem info64 : (Try.prog.info? 64).map (fun i => (i.zero, i.size, i.bytes)) = some (some (.slice none 0 0), 1, 24) := by kernel_rfl
theorem info50 : (Try.prog.info? 50).map (fun i => (i.zero, i.size, i.bytes)) = some (some (.agg #[.string ⟨#[]⟩, .string ⟨#[]⟩, .int .i64 0, .int .i64 0]), 4, 48) := by kernel_rfl
theorem info44 : (Try.prog.info? 44).map (fun i => (i.zero, i.size, i.bytes)) = some (some (.agg #[.int .i64 0, .string ⟨#[]⟩, .string ⟨#[]⟩, .int .i64 0, .int .i64 0, .int .i64 0]), 6, 64) := by kernel_rfl
theorem info42 : (Try.prog.info? 42).map (fun i => (i.zero, i.size, i.bytes)) = some (some (.agg #[.int .i64 0, .string ⟨#[]⟩, .string ⟨#[]⟩, .int .i64 0, .int .i64 0, .int .i64 0]), 6, 64) := by kernel_rfl

theorem ownsRow_kept {w w' : World} {base : Nat} {e : TypeId} {size : Nat} {v : Value} {n : Nat} {xs : List Value} (h : w.ownsRow base e size v n xs) (hb : ∀ k, v.ownBlock = some k → w'.heap[k]? = w.heap[k]?) : w'.ownsRow base e size v n xs := by
  refine ⟨h.1, ?_⟩
  rcases h.2 with hn | ⟨g, cap, cur, rfl, hg, hh, rest⟩
  · exact .inl hn
  · exact .inr ⟨g, cap, cur, rfl, hg, (hb g rfl).trans hh, rest⟩
theorem own_form {w : World} {base e size : Nat} {v : Value} {n : Nat} {xs : List Value} (h : w.ownsRow base e size v n xs) : ∃ o c, v = .slice o n c := by
  rcases h.2 with ⟨rfl, rfl⟩ | ⟨g, cap, cur, rfl, _⟩
  · exact ⟨_, _, rfl⟩
  · exact ⟨_, _, rfl⟩
/-- Numbers as cells. -/
def ivs (l : List Int) : List Value := l.map (fun x => Value.int .i64 x)
theorem append_int {w : World} {v : Value} {l : List Int} (h : w.ownsRow 0 3 1 v l.length (ivs l)) (B : Nat) (x : Int) (hx : w.cell? ⟨B, 0, none⟩ = some (.int .i64 x)) (hs : l.length ≤ 1000000) :
    ∃ g cap w', (Builtin.append_ #[64, 64] 64 #[v, .slice (some ⟨B, 0, none⟩) 1 1]).run Try.prog w = .ok (.slice (some ⟨g, 0, none⟩) (l.length + 1) cap) w' ∧
      w'.ownsRow 0 3 1 (.slice (some ⟨g, 0, none⟩) (l.length + 1) cap) (l ++ [x]).length (ivs (l ++ [x])) ∧ w.grownBy w' v.ownBlock ∧ (v.ownBlock = some g ∨ g = w.heap.size) ∧ g < w'.heap.size := by
  obtain ⟨i, hi, hz, h1, h2⟩ := info_of info3
  obtain ⟨g, cap, w', a1, a2, a3, a4, a5⟩ := run_append_lies (P := Try.prog) w 64 64 0 3 i _ 1 8 Try.underlying64 hi hz h1 h2 (by simp [Value.cells]) (by omega) v l.length (ivs l) h ⟨B, 0, none⟩ 1 1 [.int .i64 x] rfl (fun j u hu => by
    rw [Go.WideShapes.add_plain, Nat.zero_add]
    match j, hu with
    | 0, hu => cases hu; exact hx) (fun u hu => by rw [List.mem_singleton] at hu; subst hu; rfl) (by omega) (by unfold maxLen; omega) (by omega) (Nat.zero_le _) w.heap.size rfl
  refine ⟨g, cap, w', a1, ?_, a3, a4, a5⟩
  rw [List.length_append, show ivs (l ++ [x]) = ivs l ++ [.int .i64 x] by simp [ivs]]
  exact a2

/-- Lists of numbers, in a list. -/
structure Lists (w : World) (E : Nat → Prop) (p n : Nat) (f : Nat → List Int) : Prop where
  out : ¬ E p
  fz : ∀ j, w.frozen? ⟨p, j, none⟩ = false
  lt : p < w.heap.size
  vs : ∃ V : Nat → Value, (∀ k, k < n → w.cell? ⟨p, k, none⟩ = some (V k) ∧ w.ownsRow 0 3 1 (V k) (f k).length (ivs (f k)) ∧ ∀ g, (V k).ownBlock = some g → ¬ E g ∧ g ≠ p) ∧ ∀ i j g, i < n → j < n → i ≠ j → (V i).ownBlock = some g → ¬ (V j).ownBlock = some g
theorem Lists.stay {w w' : World} {E E' : Nat → Prop} {p n : Nat} {f : Nat → List Int} (h : Lists w E p n f) (hs : Stay E' w w') (hE : ∀ k, k < w.heap.size → ¬ E k → E' k) : Lists w' E p n f := by
  obtain ⟨ho, hf, hl, V, h1, h2⟩ := h
  have hp := hs.block p (hE p hl ho)
  refine ⟨ho, fun j => (World.frozen?_of_block (a := ⟨p, j, none⟩) hp).trans (hf j), Nat.lt_of_lt_of_le hl hs.size, V, fun k hk => ?_, h2⟩
  obtain ⟨a, b, c⟩ := h1 k hk
  exact ⟨(World.cell?_of_block (a := ⟨p, k, none⟩) hp).trans a, ownsRow_kept b (fun g hg => hs.block g (hE g (World.ownsRow.lt b g hg).2 (c g hg).1)), c⟩
theorem Lists.next {w w' : World} {E : Nat → Prop} {p n : Nat} {f : Nat → List Int} (h : Lists w E p n f) (hs : Below w.heap.size w w') : Lists w' E p n f :=
  h.stay (stay_of_below (E := fun k => k < w.heap.size) hs (fun i hi => hi)) (fun k hk _ => hk)
theorem Lists.mono {w : World} {E E' : Nat → Prop} {p n : Nat} {f : Nat → List Int} (h : Lists w E p n f) (hE : ∀ k, E' k → E k) : Lists w E' p n f := by
  obtain ⟨ho, hf, hl, V, h1, h2⟩ := h
  exact ⟨fun q => ho (hE _ q), hf, hl, V, fun k hk => ⟨(h1 k hk).1, (h1 k hk).2.1, fun g hg => ⟨fun q => ((h1 k hk).2.2 g hg).1 (hE _ q), ((h1 k hk).2.2 g hg).2⟩⟩, h2⟩
/-- One more number in one of them. -/
def more1 (f : Nat → List Int) (k : Nat) (x : Int) : Nat → List Int := fun j => if j = k then f j ++ [x] else f j
theorem Lists.append {w : World} {E : Nat → Prop} {p n : Nat} {f : Nat → List Int} (h : Lists w E p n f) (hE : ∀ k, E k → k < w.heap.size) (k : Nat) (hk : k < n) (x : Int) (hs : (f k).length ≤ 1000000) :
    ∃ o c v w1, w.cell? ⟨p, k, none⟩ = some (.slice o (f k).length c) ∧ (Builtin.append_ #[64, 64] 64 #[.slice o (f k).length c, .slice (some ⟨w.heap.size, 0, none⟩) 1 1]).run Try.prog (w.alloc (.cells #[.int .i64 x] 3)) = .ok v w1 ∧
      (w1.cell? ⟨p, k, none⟩).isSome = true ∧ w1.frozen? ⟨p, k, none⟩ = false ∧ (∃ g m d, v = .slice (some ⟨g, 0, none⟩) m d) ∧ Lists (w1.setCell ⟨p, k, none⟩ v) E p n (more1 f k x) ∧ Stay E w (w1.setCell ⟨p, k, none⟩ v) := by
  obtain ⟨ho, hf, hl, V, h1, h2⟩ := h
  obtain ⟨hc, hw, hg⟩ := h1 k hk
  obtain ⟨o, c, hv⟩ := own_form hw
  have hw2 : (w.alloc (.cells #[.int .i64 x] 3)).ownsRow 0 3 1 (V k) (f k).length (ivs (f k)) := World.ownsRow.alloc hw _
  obtain ⟨g, cap, w1, a1, a2, a3, a4, a5⟩ := append_int hw2 w.heap.size x ((CellsF.at (w := w) [.int .i64 x] 3 (by simp) rfl).cs 0 _ rfl) hs
  have hz : (w.alloc (.cells #[.int .i64 x] 3)).heap.size = w.heap.size + 1 := by simp
  have hb1 : ∀ b, b < w.heap.size → (V k).ownBlock ≠ some b → w1.heap[b]? = w.heap[b]? := fun b hb hne =>
    (a3.block b (by rw [hz]; omega) (fun e => hne e.symm)).trans (Below.heap_alloc _ _ _ hb)
  have hpk : (V k).ownBlock ≠ some p := fun e => (hg p e).2 rfl
  have hp1 := hb1 p hl hpk
  have hgp : g ≠ p := by
    rcases a4 with e | e
    · exact (hg g e).2
    · rw [hz] at e; omega
  have hgE : ¬ E g := by
    rcases a4 with e | e
    · exact (hg g e).1
    · intro q; have := hE g q; rw [hz] at e; omega
  rw [hv] at a1 hc
  refine ⟨o, c, _, w1, hc, a1, ?_, (World.frozen?_of_block (a := ⟨p, k, none⟩) hp1).trans (hf k), ⟨_, _, _, rfl⟩, ⟨ho, fun j => ?_, ?_, fun j => if j = k then .slice (some ⟨g, 0, none⟩) ((f k).length + 1) cap else V j, fun j hj => ?_, ?_⟩, ?_⟩
  · rw [World.cell?_of_block (w := w) (a := ⟨p, k, none⟩) hp1, hc]; rfl
  · exact (World.frozen?_setCells p [_] k w1 _).trans ((World.frozen?_of_block (a := ⟨p, j, none⟩) hp1).trans (hf j))
  · have : p < w1.heap.size := by have := a3.size; rw [hz] at this; omega
    simpa using this
  · dsimp only
    by_cases hjk : j = k
    · subst hjk
      rw [if_pos rfl]
      refine ⟨World.cell?_setCell_same' _ _ _ (by rw [World.cell?_of_block (w := w) (a := ⟨p, j, none⟩) hp1, hc]; rfl), ?_, fun g' hg' => ?_⟩
      · unfold more1
        rw [if_pos rfl]
        exact ownsRow_kept a2 (fun b hb => Below.heap_setCell _ _ _ _ (by cases hb; exact hgp))
      · cases hg'; exact ⟨hgE, hgp⟩
    · rw [if_neg hjk]
      obtain ⟨d1, d2, d3⟩ := h1 j hj
      refine ⟨(cell_put _ (fun q => hjk q.2.symm)).trans ((World.cell?_of_block (a := ⟨p, j, none⟩) hp1).trans d1), ?_, d3⟩
      unfold more1
      rw [if_neg hjk]
      exact ownsRow_kept d2 (fun b hb => (Below.heap_setCell _ _ _ _ (d3 b hb).2).trans (hb1 b (World.ownsRow.lt d2 b hb).2 (h2 j k b hj hk hjk hb)))
  · intro i j g' hi hj hij e1 e2
    dsimp only at e1 e2
    by_cases hik : i = k
    · subst hik
      rw [if_pos rfl] at e1
      rw [if_neg (Ne.symm hij)] at e2
      cases e1
      rcases a4 with e | e
      · exact h2 i j g hi hj hij e e2
      · have h9 : g < w.heap.size := (World.ownsRow.lt (h1 j hj).2.1 _ e2).2; rw [hz] at e; omega
    · rw [if_neg hik] at e1
      by_cases hjk : j = k
      · subst hjk
        rw [if_pos rfl] at e2
        cases e2
        rcases a4 with e | e
        · exact h2 i j g hi hj hij e1 e
        · have h9 : g < w.heap.size := (World.ownsRow.lt (h1 i hi).2.1 _ e1).2; rw [hz] at e; omega
      · rw [if_neg hjk] at e2
        exact h2 i j g' hi hj hij e1 e2
  · refine Stay.setCell ?_ (p := ⟨p, k, none⟩) ho _
    exact ((Stay.refl E w).alloc hE _).grown a3 hE (fun b hb => (hg b hb).1)

set_option maxHeartbeats 2000000 in
theorem put_no (a : Option Addr) (c n : Nat) (l : List Stk) (hn : l.length = n) (hs : Rises l) (hm : n ≤ 1000000000000) (sku loc : ByteArray) (x : Int) (v : Value) (p m d sb fb : Nat) (w : World) (hv : v = .slice (some ⟨p, 0, none⟩) m d) (hF : w.cell? ⟨fb, 0, none⟩ = some (.func (.func 81) #[] #[.pointer (some ⟨sb, 0, none⟩)])) (hB : w.cell? ⟨sb, 0, none⟩ = some (.slice a n c)) (hr : Rw stv 4 w a l) (hk : hasK l sku loc = false) :
    Calls Try.prog 65 #[v, .string sku, .string loc, .int .i64 x, .pointer (some ⟨fb, 0, none⟩)] w fun e w' => e = .returned (.bool false) ∧ Below w.heap.size w w' := by
  subst hv
  have HG : Hid _ := found_is a c n l hn hs hm sku loc sb w hB hr
  rw [hk] at HG
  obtain ⟨q, hq⟩ : ∃ q, posK l sku loc = q := ⟨_, rfl⟩
  rw [hq] at HG
  clear hq hn hs hr hk
  go_enter Try.func65, Try.ntmps65
  go_wp2_with fail
  refine Calls.mono HG.out ?_; rintro e w1 ⟨rfl, k1⟩
  have HB : Hid (Below w.heap.size w w1) := k1
  clear k1
  go_wp2_with fail
  go_ret
  exact ⟨rfl, HB.out⟩
set_option maxHeartbeats 2000000 in
theorem put_yes (a : Option Addr) (c n : Nat) (l : List Stk) (hn : l.length = n) (hs : Rises l) (hm : n ≤ 1000000000000) (sku loc : ByteArray) (x : Int) (p sb fb : Nat) (w : World) (hF : w.cell? ⟨fb, 0, none⟩ = some (.func (.func 81) #[] #[.pointer (some ⟨sb, 0, none⟩)])) (hB : w.cell? ⟨sb, 0, none⟩ = some (.slice a n c)) (hr : Rw stv 4 w a l) (hk : hasK l sku loc = true)
    (E : Nat → Prop) (f : Nat → List Int) (hL : Lists w E p n f) (hE : ∀ k, E k → k < w.heap.size) (hf : ∀ k, (f k).length ≤ 1000000) :
    Calls Try.prog 65 #[.slice (some ⟨p, 0, none⟩) n n, .string sku, .string loc, .int .i64 x, .pointer (some ⟨fb, 0, none⟩)] w fun e w' => e = .returned (.bool true) ∧ Lists w' E p n (more1 f (posK l sku loc) x) ∧ Stay E w w' := by
  have HG : Hid _ := found_is a c n l hn hs hm sku loc sb w hB hr
  rw [hk] at HG
  have hqn : posK l sku loc < n := by rw [← hn]; exact ((hasK_iff hs sku loc).1 hk).1
  obtain ⟨q, hq⟩ : ∃ q, posK l sku loc = q := ⟨_, rfl⟩
  rw [hq] at HG hqn ⊢
  have HA : Hid _ := fun (w1 : World) (h : Lists w1 E p n f) (g : ∀ k, E k → k < w1.heap.size) => Lists.append h g q hqn x (hf q)
  have HLE : Hid (Lists w E p n f ∧ ∀ k, E k → k < w.heap.size) := ⟨hL, hE⟩
  clear hq hn hs hr hk hL hE hf
  go_enter Try.func65, Try.ntmps65
  go_wp2_with fail
  refine Calls.mono HG.out ?_; rintro e w1 ⟨rfl, k1⟩
  have hL1 := HLE.out.1.next k1
  have hE1 : ∀ k, E k → k < w1.heap.size := fun k hk => Nat.lt_of_lt_of_le (HLE.out.2 k hk) k1.size
  obtain ⟨o, d, v, w2, r1, r2, r3, r4, ⟨g, m, dd, rfl⟩, r5, r6⟩ := HA.out w1 hL1 hE1
  have RA : Hid ((Builtin.append_ #[64, 64] 64 #[.slice o (f q).length d, .slice (some ⟨w1.heap.size, 0, none⟩) 1 1]).run Try.prog (w1.alloc (.cells #[.int .i64 x] 3)) = .ok (.slice (some ⟨g, 0, none⟩) m dd) w2) := r2
  have HR : Hid (Lists (w2.setCell ⟨p, q, none⟩ (.slice (some ⟨g, 0, none⟩) m dd)) E p n (more1 f q x) ∧ Stay E w (w2.setCell ⟨p, q, none⟩ (.slice (some ⟨g, 0, none⟩) m dd))) := ⟨r5, (stay_of_below k1 HLE.out.2).trans r6⟩
  obtain ⟨u, hu⟩ : ∃ u, w2.cell? ⟨p, q, none⟩ = some u := Option.isSome_iff_exists.1 r3
  clear k1 r2 r5 r6 r3 hL1 hE1
  go_wp2_with (first | ((with_reducible apply st_append (x := .tmp 25)); (case ho => rfl); (case hgd => rfl); (case hr => exact RA.out)))
  go_ret
  exact ⟨rfl, HR.out⟩
theorem isSum_is (n : Int) (hn : i64b n) (v : Value) (l : List Int) (w : World) (h : w.ownsRow 0 3 1 v l.length (ivs l)) (hl : l.length ≤ 1000000) (hz : ∀ x, x ∈ l → i64b x) : Calls Try.prog 66 #[.int .i64 n, v] w fun e w' => e = .returned (.bool (decide (l.sum = n))) ∧ w' = w := by
  have HS : Hid (Calls Try.prog 83 #[v] w fun e w' => e = .returned (.tuple #[.int .i64 (vl l.sum), .int .i64 (er l.sum)]) ∧ w' = w) := by
    rcases h.2 with ⟨rfl, h0⟩ | ⟨g, cap, cur, rfl, _, hg, hcap, hmax, hsz, htk⟩
    · have : l = [] := List.eq_nil_of_length_eq_zero h0
      subst this
      exact sum_none none 0 w
    · refine sum_row g 0 cap l w (by omega) (fun k hk => ?_) (fun k hk => ?_)
      · have := World.ownsRow.cellAt h k (by omega)
        rw [Nat.zero_add, this]
        simp [ivs, hk]
      · have := hz _ (List.getElem_mem hk)
        rw [List.getElem?_eq_getElem hk]
        exact this
  obtain ⟨o, c, rfl⟩ := own_form h
  by_cases hin : -9223372036854775808 ≤ l.sum ∧ l.sum ≤ 9223372036854775807
  · rw [(vl_in hin).1, (vl_in hin).2] at HS
    have HD : Hid (∀ b : Bool, b = (l.sum == n) → b = decide (l.sum = n)) := fun b hb => by rw [hb]; by_cases e : l.sum = n <;> simp [e]
    obtain ⟨z, hz⟩ : ∃ z, decide (l.sum = n) = z := ⟨_, rfl⟩
    rw [hz] at HD ⊢
    clear hz
    go_enter Try.func66, Try.ntmps66
    go_wp2_with fail
    refine Calls.mono HS.out ?_; rintro e w1 ⟨rfl, rfl⟩
    go_wp2_with fail
    go_ret
    exact ⟨by rw [← HD.out _ rfl]; rfl, rfl⟩
  · rw [(vl_out hin).1, (vl_out hin).2] at HS
    have HD : Hid (decide (l.sum = n) = false) := decide_eq_false (fun e => hin (by rw [e]; exact hn))
    obtain ⟨z, hz⟩ : ∃ z, decide (l.sum = n) = z := ⟨_, rfl⟩
    rw [hz] at HD ⊢
    clear hz
    go_enter Try.func66, Try.ntmps66
    go_wp2_with fail
    refine Calls.mono HS.out ?_; rintro e w1 ⟨rfl, rfl⟩
    go_wp2_with fail
    go_ret
    exact ⟨by rw [HD.out]; rfl, rfl⟩
end Go.Proofs.Ytflbcheofmljeaa
