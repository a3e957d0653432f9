/- slices.DeleteFunc of entries. -/
import Derived.Test.YtgjeobmbfeinnaaSta
import Derived.Test.YtgjeobmbfeinnaaIxf
import Derived.WalkSmall
namespace Go.Proofs.Ytgjeobmbfeinnaa
open Go.ChangeShapes Go.WideShapes Go.RowKit
set_option linter.unusedVariables false
set_option maxRecDepth 100000

theorem gb_below {w w' w'' : World} {r : Option Nat} (h : w.grownBy w' r) (b : Below w'.heap.size w' w'') : w.grownBy w'' r :=
  ⟨b.os.trans h.os, b.tape.trans h.tape, b.output.trans h.output, Nat.le_trans h.size b.size, fun k hk hne => (b.block k (Nat.lt_of_lt_of_le hk h.size)).trans (h.block k hk hne)⟩
theorem gb_set {w w' : World} {g : Nat} (h : w.grownBy w' (some g)) (j : Nat) (u : Value) : w.grownBy (w'.setCell ⟨g, j, none⟩ u) (some g) :=
  ⟨h.os, h.tape, h.output, by simpa using h.size, fun k hk hne => (Below.heap_setCell w' ⟨g, j, none⟩ u k (fun e => hne (by rw [e]))).trans (h.block k hk hne)⟩
theorem gb_refl (w : World) (r : Option Nat) : w.grownBy w r := ⟨rfl, rfl, rfl, Nat.le_refl _, fun _ _ _ => rfl⟩
theorem gb_trans {w w' w'' : World} {r : Option Nat} (h : w.grownBy w' r) (k : w'.grownBy w'' r) : w.grownBy w'' r :=
  ⟨k.os.trans h.os, k.tape.trans h.tape, k.output.trans h.output, Nat.le_trans h.size k.size, fun i hi hne => (k.block i (Nat.lt_of_lt_of_le hi h.size) hne).trans (h.block i hi hne)⟩
theorem At.grown {w w' : World} {r : Option Nat} {b o : Nat} {k n : Int} {s : ByteArray} (h : At w b o k n s) (g : w.grownBy w' r) (hr : r ≠ some b) : At w' b o k n s := h.far (g.block b h.lt (fun e => hr e.symm))
theorem flat_set4 (e : Ent) : ∀ (X : List Ent) (i : Nat), i < X.length → ((((X.flatMap ev).set (i * 4) (.int .i64 e.v.k)).set (i * 4 + 1) (.int .i64 e.v.n)).set (i * 4 + 2) (.string e.v.s)).set (i * 4 + 3) (.slice e.a e.n e.c) = (X.set i e).flatMap ev
  | [], i, h => by simp at h
  | x :: r, 0, h => by
    rw [List.set_cons_zero, List.flatMap_cons, List.flatMap_cons]
    simp [ev]
  | x :: r, i + 1, h => by
    have ih := flat_set4 e r i (by simpa using h)
    rw [List.set_cons_succ, List.flatMap_cons, List.flatMap_cons, ← ih]
    have e1 : (i + 1) * 4 = i * 4 + 4 := by omega
    rw [e1]
    simp [ev]
theorem flat_at4 : ∀ (X : List Ent) (i : Nat) (x : Ent), X[i]? = some x → (X.flatMap ev)[i * 4]? = some (.int .i64 x.v.k) ∧ (X.flatMap ev)[i * 4 + 1]? = some (.int .i64 x.v.n) ∧ (X.flatMap ev)[i * 4 + 2]? = some (.string x.v.s) ∧ (X.flatMap ev)[i * 4 + 3]? = some (.slice x.a x.n x.c)
  | [], i, x, h => by simp at h
  | y :: r, 0, x, h => by
    simp at h; subst h
    simp [ev]
  | y :: r, i + 1, x, h => by
    have ih := flat_at4 r i x (by simpa using h)
    have e1 : (i + 1) * 4 = i * 4 + 4 := by omega
    rw [e1]
    simpa [ev] using ih
theorem set_at {α : Type} (A : List α) (x y : α) (B : List α) (m : Nat) (h : A.length = m) : (A ++ x :: B).set m y = A ++ y :: B := by
  subst h
  simp
theorem shift_set {α : Type} (es : List α) (i0 m : Nat) (h0 : i0 ≤ m) (h1 : m + 1 < es.length) : (((es.eraseIdx i0).take m) ++ es.drop m).set m es[m + 1] = (es.eraseIdx i0).take (m + 1) ++ es.drop (m + 1) := by
  have hl : (es.eraseIdx i0).length = es.length - 1 := by rw [List.length_eraseIdx, if_pos (by omega)]
  have hm : m < (es.eraseIdx i0).length := by omega
  have e1 : (es.eraseIdx i0)[m] = es[m + 1] := List.getElem_eraseIdx_of_ge hm h0
  rw [List.drop_eq_getElem_cons (show m < es.length by omega), set_at _ _ _ _ m (by rw [List.length_take]; omega), List.take_add_one, List.getElem?_eq_getElem hm, e1]
  simp
theorem shift_start {α : Type} (es : List α) (i0 : Nat) (h : i0 ≤ es.length) : (es.eraseIdx i0).take i0 ++ es.drop i0 = es := by
  rw [List.eraseIdx_eq_take_drop_succ, List.take_append]
  rw [List.take_take, Nat.min_self, List.length_take, Nat.min_eq_left h, Nat.sub_self, List.take_zero, List.append_nil, List.take_append_drop]
theorem shift_end {α : Type} (es : List α) (i0 m : Nat) (h0 : i0 ≤ m) (h1 : m + 1 = es.length) : (es.eraseIdx i0).take m ++ es.drop m = es.eraseIdx i0 ++ [es[m]] := by
  have hl : (es.eraseIdx i0).length = m := by rw [List.length_eraseIdx, if_pos (by omega)]; omega
  rw [List.take_of_length_le (by omega), List.drop_eq_getElem_cons (show m < es.length by omega), List.drop_eq_nil_of_le (by omega)]
theorem st_clear {P : Program} {ops : Array Oper} {rest : List Oper} {o : Oper} {a : Act} {w w' : World} {Q : Exit → Act → World → Prop} {v : Value} {x : Operand} {t : TypeId} (hgd : o.guard = none) (ho : o.op = .call { callee := .builtin .clear, args := #[x], argTypes := #[t] }) (hr : (Builtin.clear_ #[t] o.type #[a.eval x]).run P w = .ok v w') (h : wpList P ops Q rest (a.put o.dst v) w') : wpList P ops Q (o :: rest) a w :=
  wpList_plain hgd fun _ hK => by
    unfold Oper.wp execOp
    simp only [ho, resolve, invoke, builtin, Sem.run_bind, Sem.run_pure, Result.andThen_ok, List.map_toArray, List.map_cons, List.map_nil, hr]
    exact hK _ _ h
theorem zero_run {P : Program} {t : TypeId} {i : TypeInfo} {v : Value} (hi : P.info? t = some i) (hz : i.zero = some v) (w : World) : (zeroValue t).run P w = .ok v w := by
  simp [zeroValue, typeInfo, hi, hz]
theorem run_clear_rows {P : Program} {w W : World} (t e ty : TypeId) (z : Value) (ht : P.underlying t = some (.slice e)) (hv : (zeroValue e).run P w = .ok z w) (b o n c : Nat)
    (hst : (storeCells ⟨b, o, none⟩ (Builtin.zeroCells z.cells (n + 1)).toList 0).run P w = .ok () W) : (Builtin.clear_ #[t] ty #[.slice (some ⟨b, o, none⟩) (n + 1) c]).run P w = .ok (.tuple #[]) W := by
  simp [Builtin.clear_, run_underlying ht, hv, hst]
/-- The last entry is cleared. -/
theorem clear_last {w : World} {g m cap : Nat} {E : List Ent} {x : Ent} (hE : E.length = m) (h : w.ownsRow 0 61 4 (.slice (some ⟨g, 0, none⟩) (m + 1) cap) (m + 1) ((E ++ [x]).flatMap ev)) :
    ∃ W, (∀ c, (Builtin.clear_ #[64] 0 #[.slice (some ⟨g, m * 4, none⟩) 1 c]).run Try.prog w = .ok (.tuple #[]) W) ∧ W.ownsRow 0 61 4 (.slice (some ⟨g, 0, none⟩) m cap) m (E.flatMap ev) ∧ w.grownBy W (some g) := by
  obtain ⟨i, hi, hz, h1, h2⟩ := info_of info61
  have hat := flat_at4 (E ++ [x]) m x (by rw [List.getElem?_append_right (by omega), hE, Nat.sub_self]; rfl)
  have hc := h.cells (g := g) rfl
  have hc' : ∀ j u, ((E ++ [x]).flatMap ev)[j]? = some u → w.cell? ⟨g, j, none⟩ = some u := fun j u hu => by
    have := hc j u hu
    rwa [Go.WideShapes.add_plain, Nat.zero_add] at this
  have hf : ∀ j, w.frozen? ⟨g, j, none⟩ = false := fun j => by
    rcases h.2 with ⟨e, _⟩ | ⟨g', cap', cur, e, _, hg, _⟩
    · cases e
    · cases e; exact frozen_of_row w g j cur 61 hg
  have hst := run_storeCells_cells (P := Try.prog) g (m * 4) [.int .i64 0, .int .i64 0, .string ⟨#[]⟩, .slice none 0 0] 0 w (fun j hj => by
      rw [Nat.add_zero]
      match j, hj with
      | 0, _ => rw [Nat.add_zero, hc' _ _ hat.1]; rfl
      | 1, _ => rw [hc' _ _ hat.2.1]; rfl
      | 2, _ => rw [hc' _ _ hat.2.2.1]; rfl
      | 3, _ => rw [hc' _ _ hat.2.2.2]; rfl) (fun j _ => hf _) (by
      intro v hv
      simp only [List.mem_cons, List.not_mem_nil, or_false] at hv
      rcases hv with rfl | rfl | rfl | rfl <;> rfl)
  rw [Nat.add_zero] at hst
  have hzc : (Builtin.zeroCells (Value.agg #[.int .i64 0, .int .i64 0, .string ⟨#[]⟩, .slice none 0 0]).cells (0 + 1)).toList = [.int .i64 0, .int .i64 0, .string ⟨#[]⟩, .slice none 0 0] := by
    simp [Builtin.zeroCells, Value.cells]
    rfl
  refine ⟨_, fun c => run_clear_rows 64 61 0 _ Try.underlying64 (zero_run hi hz w) g (m * 4) 0 c (by rw [hzc]; exact hst), ?_, ?_⟩
  · have s1 := (h.stored (m * 4) (.int .i64 0)).1
    have s2 := (s1.stored (m * 4 + 1) (.int .i64 0)).1
    have s3 := (s2.stored (m * 4 + 2) (.string ⟨#[]⟩)).1
    have s4 := (s3.stored (m * 4 + 3) (.slice none 0 0)).1
    rw [flat_set4 ⟨⟨0, 0, ⟨#[]⟩⟩, none, 0, 0⟩ (E ++ [x]) m (by simp; omega), set_at E x _ [] m hE, List.flatMap_append] at s4
    exact ownsRow_pop (by rw [flat_len ev_len, hE]) s4
  · exact gb_set (gb_set (gb_set (gb_set (gb_refl _ _) _ _) _ _) _ _) _ _

set_option maxHeartbeats 8000000 in
theorem delete_is (u : Value) (es : List Ent) (hm : es.length ≤ 1000) (v : Val) (c : Nat) (w : World) (hu : w.ownsRow 0 61 4 u es.length (es.flatMap ev)) (hd : es.Pairwise (fun x y => x.v ≠ y.v)) (hc : At w c 0 v.k v.n v.s) (hcu : u.ownBlock ≠ some c) :
    Calls Try.prog 33 #[u, .func (.func 35) #[] #[.pointer (some ⟨c, 0, none⟩)]] w fun e w' => ∃ (r : Int) (v' : Value), e = .returned v' ∧ Spot (es.map Ent.v) v r ∧ w'.ownsRow 0 61 4 v' (if r = -1 then es else es.eraseIdx r.toNat).length ((if r = -1 then es else es.eraseIdx r.toNat).flatMap ev) ∧ w.grownBy w' u.ownBlock ∧ v'.ownBlock = u.ownBlock := by
  have HIX : Hid _ := idx35_is u es hm v c w (own_rw ev_len hu) hc
  have HU : Hid (w.ownsRow 0 61 4 u es.length (es.flatMap ev)) := hu
  have HC : Hid (At w c 0 v.k v.n v.s) := hc
  have HD : Hid (es.Pairwise (fun x y => x.v ≠ y.v)) := hd
  have HCU : Hid (u.ownBlock ≠ some c) := hcu
  have HO : Hid (∀ (e : Ent) (w' : World), At w' c 0 v.k v.n v.s → Calls Try.prog 35 #[e.val, .pointer (some ⟨c, 0, none⟩)] w' fun r w'' => r = .returned (.bool (decide (e.v = v))) ∧ Below w'.heap.size w' w'') := fun e w' h => clo35_is e v c w' h
  obtain ⟨n, hn⟩ : ∃ n, es.length = n := ⟨_, rfl⟩
  have HL : Hid (es.length = n) := hn
  obtain ⟨oa, oc, hv⟩ := own_form hu
  rw [hn] at hv hm
  subst hv
  clear hn hc hd hcu hu
  go_enter Try.func33, Try.ntmps33
  go_wp2_with fail
  refine Calls.mono HIX.out ?_; rintro e w1 ⟨r, rfl, hsp, k1⟩
  have HSP : Hid (Spot (es.map Ent.v) v r) := hsp
  clear HIX
  rcases hsp with ⟨rfl, hno⟩ | ⟨i0, rfl, hi0⟩
  · have HE : Hid (w1.ownsRow 0 61 4 (.slice oa n oc) es.length (es.flatMap ev) ∧ w.grownBy w1 (Value.slice oa n oc).ownBlock) := ⟨ownsRow_kept HU.out (fun g hg => k1.block g (World.ownsRow.lt HU.out g hg).2), gb_below (gb_refl w _) k1⟩
    clear hno k1 HO
    go_wp2_with fail
    go_ret
    exact ⟨-1, _, rfl, HSP.out, by rw [if_pos rfl]; exact HE.out.1, HE.out.2, rfl⟩
  · have hi0l : i0 < n := by have := getD_lt hi0; rw [List.length_map, HL.out] at this; exact this
    -- the row lies in a block of its own
    obtain ⟨g, hg⟩ : ∃ g, oa = some ⟨g, 0, none⟩ := by
      rcases HU.out.2 with ⟨e, h0⟩ | ⟨g, cap, cur, e, _⟩
      · have := HL.out; omega
      · cases e; exact ⟨g, rfl⟩
    subst hg
    have hgc : g ≠ c := fun e => HCU.out (by rw [e]; rfl)
    have HW1 : Hid (w1.ownsRow 0 61 4 (.slice (some ⟨g, 0, none⟩) n oc) n (((es.eraseIdx i0).take i0 ++ es.drop i0).flatMap ev) ∧ w.grownBy w1 (some g)) := by
      rw [shift_start es i0 (by have := HL.out; omega)]
      have := ownsRow_kept HU.out (fun g' hg => k1.block g' (World.ownsRow.lt HU.out g' hg).2)
      rw [HL.out] at this
      exact ⟨this, gb_below (gb_refl w _) k1⟩
    have HV : Hid (∀ m, i0 < m → ∀ (h : m < es.length), es[m].v ≠ v) := fun m hm' h => by
      rw [List.getElem?_map] at hi0
      obtain ⟨x, hx, ex⟩ := Option.map_eq_some_iff.1 hi0
      obtain ⟨hl, e⟩ := List.getElem?_eq_some_iff.1 hx
      have := List.pairwise_iff_getElem.1 HD.out i0 m hl h hm'
      rw [e, ex] at this
      exact fun q => this q.symm
    have hne1 : ((i0 : Int) == -1) = false := by simp
    clear k1 hi0 HU HD
    go_wp2_with fail
    go_loopw [5, 6] (fun v5 v6 wr => ∃ m : Nat, i0 ≤ m ∧ m + 1 ≤ n ∧ v5 = .int .i64 m ∧ v6 = .int .i64 ((m : Int) + 1) ∧ Hid (wr.ownsRow 0 61 4 (.slice (some ⟨g, 0, none⟩) n oc) n (((es.eraseIdx i0).take m ++ es.drop m).flatMap ev) ∧ w.grownBy wr (some g)))
      (fun _ v6 _ => n - (intOf v6).toNat)
    case atStart => exact ⟨i0, Nat.le_refl _, by omega, rfl, by go_num, HW1.out⟩
    case round =>
      clear HW1
      obtain ⟨m, him, hmn, rfl, rfl, HI⟩ := hrel
      by_cases hlt : m + 1 < n
      · have hlti : (m : Int) + 1 < (n : Int) := by omega
        have hml : m + 1 < es.length := by have := HL.out; omega
        have hXm1 : ((es.eraseIdx i0).take m ++ es.drop m)[m + 1]? = some es[m + 1] := by
          have hl : (es.eraseIdx i0).length = es.length - 1 := by rw [List.length_eraseIdx, if_pos (by omega)]
          rw [List.getElem?_append_right (by rw [List.length_take]; omega), List.length_take, List.getElem?_drop, show m + (m + 1 - min m (es.eraseIdx i0).length) = m + 1 by omega]
          exact List.getElem?_eq_getElem hml
        obtain ⟨z0, hz0⟩ : ∃ z0, ((es.eraseIdx i0).take m ++ es.drop m)[m]? = some z0 := by
          have hl : (es.eraseIdx i0).length = es.length - 1 := by rw [List.length_eraseIdx, if_pos (by omega)]
          refine ⟨_, List.getElem?_eq_getElem ?_⟩
          rw [List.length_append, List.length_take, List.length_drop]; omega
        obtain ⟨a0, a1, a2, a3⟩ := flat_at4 _ (m + 1) _ hXm1
        obtain ⟨b0, b1, b2, b3⟩ := flat_at4 _ m _ hz0
        have hcell : ∀ j u, (((es.eraseIdx i0).take m ++ es.drop m).flatMap ev)[j]? = some u → wr.cell? ⟨g, j, none⟩ = some u := fun j u hu => by
          have := HI.out.1.cells (g := g) rfl j u hu
          rwa [Go.WideShapes.add_plain, Nat.zero_add] at this
        have hfz : ∀ j, wr.frozen? ⟨g, j, none⟩ = false := fun j => by
          rcases HI.out.1.2 with ⟨e, _⟩ | ⟨g', cap', cur, e, _, hg, _⟩
          · cases e
          · cases e; exact frozen_of_row wr g j cur 61 hg
        have y0 := hcell _ _ a0
        have y1 := hcell _ _ a1
        have y2 := hcell _ _ a2
        have y3 := hcell _ _ a3
        have hgl : g < wr.heap.size := World.block_lt_of_cell? wr _ y0
        have HCE : Hid ((wr.cell? ⟨g, m * 4, none⟩ = some (.int .i64 z0.v.k) ∧ wr.cell? ⟨g, m * 4 + 1, none⟩ = some (.int .i64 z0.v.n) ∧ wr.cell? ⟨g, m * 4 + 2, none⟩ = some (.string z0.v.s) ∧ wr.cell? ⟨g, m * 4 + 3, none⟩ = some (.slice z0.a z0.n z0.c)) ∧ (∀ j, wr.frozen? ⟨g, j, none⟩ = false) ∧ g < wr.heap.size) := ⟨⟨hcell _ _ b0, hcell _ _ b1, hcell _ _ b2, hcell _ _ b3⟩, hfz, hgl⟩
        have HK : Hid (∀ w', Below wr.heap.size wr w' → Calls Try.prog 35 #[es[m + 1].val, .pointer (some ⟨c, 0, none⟩)] w' fun r w'' => r = .returned (.bool false) ∧ Below w'.heap.size w' w'') := fun w' hb => by
          have := HO.out es[m + 1] w' ((HC.out.grown HI.out.2 (fun e => hgc (by cases e; rfl))).next hb)
          rw [decide_eq_false (HV.out (m + 1) (by omega) hml)] at this
          exact this
        have HSET : Hid (((es.eraseIdx i0).take m ++ es.drop m).set m es[m + 1] = (es.eraseIdx i0).take (m + 1) ++ es.drop (m + 1)) := shift_set es i0 m him hml
        have HLEN : Hid (m < ((es.eraseIdx i0).take m ++ es.drop m).length) := getD_lt hz0
        have hmni : (m : Int) < (n : Int) := by omega
        generalize es[m + 1] = x at *
        obtain ⟨⟨k', n', s'⟩, xa, xn, xc⟩ := x
        have HB0 : Hid (∀ t, Below wr.heap.size wr (wr.alloc t)) := fun t => below1 _ _
        have HNEW : Hid (CellsF (wr.alloc (.cells #[.int .i64 k', .int .i64 n', .string s', .slice xa xn xc] 61)) wr.heap.size [.int .i64 k', .int .i64 n', .string s', .slice xa xn xc]) := CellsF.new wr [.int .i64 k', .int .i64 n', .string s', .slice xa xn xc] 61 (by simp)
        clear a0 a1 a2 a3 b0 b1 b2 b3 hcell hfz hXm1 hz0 hml hgl HO
        go_wp2_with fail
        refine Calls.mono (HK.out _ (HB0.out _)) ?_; rintro e w2 ⟨rfl, k2⟩
        have hB2 : Below wr.heap.size wr w2 := Below.next (HB0.out _) k2
        obtain ⟨⟨c0, c1, c2, c3⟩, cf, cg⟩ := HCE.out
        have q0 := (hB2.cell (p := ⟨g, m * 4, none⟩) cg).trans c0
        have q1 := (hB2.cell (p := ⟨g, m * 4 + 1, none⟩) cg).trans c1
        have q2 := (hB2.cell (p := ⟨g, m * 4 + 2, none⟩) cg).trans c2
        have q3 := (hB2.cell (p := ⟨g, m * 4 + 3, none⟩) cg).trans c3
        have qf := fun j => (World.frozen?_of_block (a := ⟨g, j, none⟩) (hB2.block g cg)).trans (cf j)
        have hN := HNEW.out.next k2
        have p0 := hN.cs 0 _ rfl
        have p1 := hN.cs 1 _ rfl
        have p2 := hN.cs 2 _ rfl
        have p3 := hN.cs 3 _ rfl
        have HR : Hid (((((w2.setCell ⟨g, m * 4, none⟩ (.int .i64 k')).setCell ⟨g, m * 4 + 1, none⟩ (.int .i64 n')).setCell ⟨g, m * 4 + 2, none⟩ (.string s')).setCell ⟨g, m * 4 + 3, none⟩ (.slice xa xn xc)).ownsRow 0 61 4 (.slice (some ⟨g, 0, none⟩) n oc) n (((es.eraseIdx i0).take (m + 1) ++ es.drop (m + 1)).flatMap ev) ∧ w.grownBy ((((w2.setCell ⟨g, m * 4, none⟩ (.int .i64 k')).setCell ⟨g, m * 4 + 1, none⟩ (.int .i64 n')).setCell ⟨g, m * 4 + 2, none⟩ (.string s')).setCell ⟨g, m * 4 + 3, none⟩ (.slice xa xn xc)) (some g)) := by
          have h0 : w2.ownsRow 0 61 4 (.slice (some ⟨g, 0, none⟩) n oc) n (((es.eraseIdx i0).take m ++ es.drop m).flatMap ev) := ownsRow_kept HI.out.1 (fun g' hg => hB2.block g' (World.ownsRow.lt HI.out.1 g' hg).2)
          have s4 := ((((h0.stored (m * 4) (.int .i64 k')).1.stored (m * 4 + 1) (.int .i64 n')).1.stored (m * 4 + 2) (.string s')).1.stored (m * 4 + 3) (.slice xa xn xc)).1
          have e4 := flat_set4 ⟨⟨k', n', s'⟩, xa, xn, xc⟩ ((es.eraseIdx i0).take m ++ es.drop m) m HLEN.out
          simp only at e4
          rw [e4, HSET.out] at s4
          exact ⟨s4, gb_set (gb_set (gb_set (gb_set (gb_below HI.out.2 hB2) _ _) _ _) _ _) _ _⟩
        clear k2 hB2 c0 c1 c2 c3 cf cg hN y0 y1 y2 y3 HK
        go_wp2_with fail
        go_roundw
        case rel => exact ⟨m + 1, by omega, by omega, by go_num, by go_num, HR.out⟩
        case measure => simp [intOf]; omega
      · have hlti : ¬ (m : Int) + 1 < (n : Int) := by omega
        have hmn' : m + 1 = n := by omega
        subst hmn'
        have hEl : (es.eraseIdx i0).length = m := by rw [List.length_eraseIdx, if_pos (by have := HL.out; omega)]; have := HL.out; omega
        have hrow := HI.out.1
        rw [shift_end es i0 m him HL.out.symm] at hrow
        obtain ⟨W, hcl, hown, hgr⟩ := clear_last hEl hrow
        have RC : Hid (∀ c, (Builtin.clear_ #[64] 0 #[.slice (some ⟨g, m * 4, none⟩) 1 c]).run Try.prog wr = .ok (.tuple #[]) W) := hcl
        have HE : Hid (W.ownsRow 0 61 4 (.slice (some ⟨g, 0, none⟩) m oc) (es.eraseIdx i0).length ((es.eraseIdx i0).flatMap ev) ∧ w.grownBy W (some g)) := ⟨by rw [hEl]; exact hown, gb_trans HI.out.2 hgr⟩
        have hcap : m + 1 ≤ oc := by
          rcases HI.out.1.2 with ⟨e, _⟩ | ⟨g', cap', cur, e, _, hg, hh, _⟩
          · cases e
          · cases e; exact hh
        have hcm : oc ≤ 9223372036854775807 := by
          rcases HI.out.1.2 with ⟨e, _⟩ | ⟨g', cap', cur, e, _, hg, hh, hh2, _⟩
          · cases e
          · cases e; unfold maxLen at hh2; omega
        have hcapi : (m : Int) + 1 ≤ (oc : Int) := by omega
        have hmi : ¬ oc = m := by omega
        clear hrow hcl hown hgr HI HO HV HC
        go_wp2_with (first | ((with_reducible apply st_clear); (case ho => rfl); (case hgd => rfl); (case hr => first | exact RC.out _ | (simp; exact RC.out _))))
        go_ret
        exact ⟨i0, _, rfl, HSP.out, by rw [if_neg (by omega), Int.toNat_natCast]; exact HE.out.1, HE.out.2, rfl⟩
end Go.Proofs.Ytgjeobmbfeinnaa
