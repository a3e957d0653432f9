/- slices.Insert of a stock into stocks of the call's own. -/
import Derived.Test.YtflbcheofmljeaaOwn
import Derived.Lib.Overlaps
import Derived.Lib.AppendZerosOnto
import Derived.Laws.CopyRow
import Derived.Laws.Externs
namespace Go.Proofs.Ytflbcheofmljeaa
open Go.ChangeShapes Go.WideShapes Go.RowKit
set_option linter.unusedVariables false
set_option maxRecDepth 100000

theorem run_copy_rows {P : Program} (w : World) (dT sT ty elem : TypeId) (g o dLen dCap : Nat) (a : Addr) (sLen sCap k : Nat) (cur : Array Value) (t : TypeId) (cs : List Value)
    (hu : P.underlying dT = some (.slice elem)) (hs : (P.info? elem).map (·.size) = some k)
    (hg : w.heap[g]? = some (.cells cur t (0, 0))) (hn : cs.length = Nat.min sLen dLen * k)
    (hsrc : ∀ j v, cs[j]? = some v → w.cell? (a.add j) = some v) (hfit : o + cs.length ≤ cur.size) (h1 : ∀ v ∈ cs, v.oneCell' = true) :
    (Builtin.copy_ #[dT, sT] ty #[.slice (some ⟨g, o, none⟩) dLen dCap, .slice (some a) sLen sCap]).run P w =
      .ok (goInt (Nat.min sLen dLen)) (w.setRow g (cur.toList.take o ++ cs ++ cur.toList.drop (o + cs.length)).toArray) := by
  have hl := run_loadCells_list (P := P) w a cs hsrc
  have hst := run_storeCells_at P g o t cs 0 cur w hg (by simpa using hfit) h1
  cases hq : P.info? elem with
  | none => simp [hq] at hs
  | some i =>
    have hi : i.size = k := by simpa [hq] using hs
    simp [Builtin.copy_, run_underlying hu, Builtin.lenOf, Builtin.firstCells, sizeOf, typeInfo, hq, hi, ← hn, hl, hst]
theorem stv_flat_len (l : List Stk) : (l.flatMap stv).length = l.length * 4 := by
  induction l with
  | nil => rfl
  | cons x r ih => rw [List.flatMap_cons, List.length_append, ih, List.length_cons]; simp [stv]; omega
theorem stv_flat_take (l : List Stk) (i : Nat) : (l.take i).flatMap stv = (l.flatMap stv).take (i * 4) := by
  induction l generalizing i with
  | nil => simp
  | cons x r ih =>
    cases i with
    | zero => simp
    | succ i =>
      rw [List.take_succ_cons, List.flatMap_cons, List.flatMap_cons, ih, show (i + 1) * 4 = (stv x).length + i * 4 by simp [stv]; omega, List.take_length_add_append]
theorem stv_flat_drop (l : List Stk) (i : Nat) : (l.drop i).flatMap stv = (l.flatMap stv).drop (i * 4) := by
  induction l generalizing i with
  | nil => simp
  | cons x r ih =>
    cases i with
    | zero => simp
    | succ i =>
      rw [List.drop_succ_cons, List.flatMap_cons, ih, show (i + 1) * 4 = (stv x).length + i * 4 by simp [stv]; omega, List.drop_length_add_append]
theorem stv_one (l : List Stk) : ∀ v ∈ l.flatMap stv, v.oneCell' = true := by
  intro v hv
  obtain ⟨x, _, hx⟩ := List.mem_flatMap.1 hv
  simp only [stv, List.mem_cons, List.mem_nil_iff, or_false] at hx
  rcases hx with rfl | rfl | rfl | rfl <;> rfl
theorem st_copy {P : Program} {ops : Array Oper} {rest : List Oper} {o : Oper} {a : Act} {w w' : World} {Q : Exit → Act → World → Prop} {v : Value} {x y : Operand} {t u : TypeId} (hgd : o.guard = none) (ho : o.op = .call { callee := .builtin .copy, args := #[x, y], argTypes := #[t, u] }) (hr : (Builtin.copy_ #[t, u] o.type #[a.eval x, a.eval y]).run P w = .ok v w') (h : wpList P ops Q rest (a.put o.dst v) w') : wpList P ops Q (o :: rest) a w :=
  wpList_plain hgd fun _ hK => by
    unfold Oper.wp execOp
    simp only [ho, resolve, invoke, builtin, Sem.run_bind, Sem.run_pure, Result.andThen_ok, List.map_toArray, List.map_cons, List.map_nil, hr]
    exact hK _ _ h
theorem dr_copy {P : Program} {ops : Array Oper} {o : Oper} {a : Act} {w w' : World} {Q : Exit → Act → World → Prop} {K : Act → World → Prop} {E : Prop} {v : Value} {x y : Operand} {t u : TypeId} (hgd : o.guard = none) (ho : o.op = .call { callee := .builtin .copy, args := #[x, y], argTypes := #[t, u] }) (hr : (Builtin.copy_ #[t, u] o.type #[a.eval x, a.eval y]).run P w = .ok v w')
    (hK : K (a.put o.dst v) w') : if Region.wanted o (yielded ops a.tmps) = true then Oper.wp P o a w K Q else E := by
  have hw : Region.wanted o (yielded ops a.tmps) = true := by simp [Region.wanted, hgd]
  rw [if_pos hw]
  unfold Oper.wp execOp
  simp only [ho, resolve, invoke, builtin, Sem.run_bind, Sem.run_pure, Result.andThen_ok, List.map_toArray, List.map_cons, List.map_nil, hr]
  exact hK
/-- One more, in a place. -/
def insAt (l : List Stk) (i : Nat) (x : Stk) : List Stk := l.take i ++ x :: l.drop i
theorem insAt_flat (l : List Stk) (i : Nat) (x : Stk) : (insAt l i x).flatMap stv = (l.flatMap stv).take (i * 4) ++ stv x ++ (l.flatMap stv).drop (i * 4) := by
  unfold insAt
  rw [List.flatMap_append, List.flatMap_cons, stv_flat_take, stv_flat_drop, List.append_assoc]
theorem insAt_len (l : List Stk) (i : Nat) (x : Stk) (h : i ≤ l.length) : (insAt l i x).length = l.length + 1 := by
  unfold insAt
  rw [List.length_append, List.length_take, List.length_cons, List.length_drop]
  omega
theorem setRow_row (w : World) (g : Nat) (cur cs : Array Value) (t : TypeId) (fr : Nat × Nat) (hg : w.heap[g]? = some (.cells cur t fr)) : (w.setRow g cs).heap[g]? = some (.cells cs t fr) := setRow_heap w g cur cs t fr hg
theorem setRow_far (w : World) (g k : Nat) (cs : Array Value) (h : k ≠ g) : (w.setRow g cs).heap[k]? = w.heap[k]? := by
  simp only [World.setRow, Array.getElem?_modify]
  rw [if_neg (by omega)]
theorem setRow_size (w : World) (g : Nat) (cs : Array Value) : (w.setRow g cs).heap.size = w.heap.size := by simp [World.setRow]
theorem size50 : (Try.prog.info? 50).map (·.size) = some 4 := by
  obtain ⟨i, hi, hz, h1, h2⟩ := info_of info50
  rw [hi]; simp [h1]
theorem ins_list (L F sx : List Value) (n i : Nat) (hi : i < n) (hL : (n + 1) * 4 ≤ L.length) (hF : L.take (n * 4) = F) (hFl : F.length = n * 4) (hs : sx.length = 4) :
    let A1 := L.take ((i + 1) * 4) ++ F.drop (i * 4) ++ L.drop ((i + 1) * 4 + (F.drop (i * 4)).length)
    (A1.take (i * 4) ++ sx ++ A1.drop (i * 4 + sx.length)).take ((n + 1) * 4) = F.take (i * 4) ++ sx ++ F.drop (i * 4) ∧ (A1.take (i * 4) ++ sx ++ A1.drop (i * 4 + sx.length)).length = L.length ∧ A1.length = L.length := by
  intro A1
  have hd : (F.drop (i * 4)).length = (n - i) * 4 := by rw [List.length_drop, hFl, Nat.sub_mul]
  have h1 : A1.length = L.length := by
    show (L.take ((i + 1) * 4) ++ F.drop (i * 4) ++ L.drop ((i + 1) * 4 + (F.drop (i * 4)).length)).length = _
    rw [List.length_append, List.length_append, hd, List.length_take, List.length_drop]
    omega
  have ht : A1.take (i * 4) = F.take (i * 4) := by
    show (L.take ((i + 1) * 4) ++ F.drop (i * 4) ++ L.drop _).take (i * 4) = _
    rw [List.append_assoc, List.take_append_of_le_length (by rw [List.length_take]; omega), List.take_take, ← hF, List.take_take]
    congr 1
    omega
  have hdr : A1.drop (i * 4 + sx.length) = F.drop (i * 4) ++ L.drop ((i + 1) * 4 + (F.drop (i * 4)).length) := by
    show (L.take ((i + 1) * 4) ++ F.drop (i * 4) ++ L.drop _).drop (i * 4 + sx.length) = _
    have e : i * 4 + sx.length = (L.take ((i + 1) * 4)).length := by rw [List.length_take, hs]; omega
    rw [e, List.append_assoc, List.drop_left]
  refine ⟨?_, ?_, h1⟩
  · rw [ht, hdr, ← List.append_assoc]
    have e : (n + 1) * 4 = (F.take (i * 4) ++ sx ++ F.drop (i * 4)).length := by
      rw [List.length_append, List.length_append, List.length_take, hd, hs, hFl]
      omega
    rw [e, List.take_left]
  · rw [List.length_append, List.length_append, List.length_take, List.length_drop, h1, hs]
    omega
theorem overlaps_no (w : World) (g vb o lb cb : Nat) (cur cv : Array Value) (hg : w.heap[g]? = some (.cells cur 50 (0, 0))) (hv : w.heap[vb]? = some (.cells cv 50 (0, 0))) (hne : vb ≠ g) (h0 : cur.size ≠ 0) :
    (callFunc 103 #[.slice (some ⟨vb, 0, none⟩) 1 1, .slice (some ⟨g, o, none⟩) lb cb]).run Try.prog w = .ok (.value (.bool false)) w := by
  rw [run_callFunc_extern Try.func103 (by kernel_rfl) (by kernel_rfl) (by kernel_rfl) (e := Extern.SlicesOverlaps.overlaps #[22, 22] #[4]) (by kernel_rfl),
    Lib.run_overlaps_apart w 22 4 50 Try.underlying22 4 Try.sizeOf50 ⟨vb, 0, none⟩ ⟨g, o, none⟩ 1 1 lb cb hne 50 50 cv.size cur.size (by simp [World.shape?, hv]) (by simp [World.shape?, hg]) h0 (by simp [World.frozen?, hv]) (by simp [World.frozen?, hv])]
  rfl
set_option maxHeartbeats 4000000 in
theorem insert_room (g n c i vb : Nat) (cur : Array Value) (l : List Stk) (x : Stk) (w : World) (hn : l.length = n) (hi : i < n) (hroom : n + 1 ≤ c) (hc : c ≤ 9223372036854775807) (hg : w.heap[g]? = some (.cells cur 50 (0, 0))) (hsz : cur.size = c * 4) (hcs : cur.toList.take (n * 4) = l.flatMap stv)
    (hv : w.heap[vb]? = some (.cells #[.string x.sku, .string x.loc, .int .i64 x.on, .int .i64 x.held] 50 (0, 0))) (hne : vb ≠ g) :
    Calls Try.prog 102 #[.slice (some ⟨g, 0, none⟩) n c, .int .i64 (i : Int), .slice (some ⟨vb, 0, none⟩) 1 1] w fun e w' =>
      e = .returned (.slice (some ⟨g, 0, none⟩) (n + 1) c) ∧ w'.ownsRow 0 50 4 (.slice (some ⟨g, 0, none⟩) (n + 1) c) (n + 1) ((insAt l i x).flatMap stv) ∧ w.grownBy w' (some g) := by
  have hz2 : ¬ ((i : Int) = (n : Int)) := by omega
  have hz3 : ¬ ((c : Int) < (n : Int) + 1) := by omega
  have hb4 : ¬ (c = i) := by omega
  have hb2 : ¬ (c = i + 1) := by omega
  have hin : i ≤ n := by omega
  have hw1 : IntKind.i64.wrap ((i : Int) + 1) = (i : Int) + 1 := by rw [IntKind.wrap_i64]; omega
  have htn : ((i : Int) + 1).toNat = i + 1 := by omega
  have hb1 : (0 : Int) ≤ (i : Int) + 1 := by omega
  have hb3 : (i : Int) ≤ (n : Int) := by omega
  have hb5 : (i : Int) ≤ (n : Int) + 1 := by omega
  have hFl : (l.flatMap stv).length = n * 4 := by rw [stv_flat_len, hn]
  have hLl : cur.toList.length = c * 4 := by rw [Array.length_toList, hsz]
  obtain ⟨hA, hAl, hA1⟩ := ins_list cur.toList (l.flatMap stv) (stv x) n i hi (by omega) hcs hFl rfl
  obtain ⟨A1, hA1e⟩ : ∃ A1, A1 = cur.toList.take ((i + 1) * 4) ++ (l.flatMap stv).drop (i * 4) ++ cur.toList.drop ((i + 1) * 4 + ((l.flatMap stv).drop (i * 4)).length) := ⟨_, rfl⟩
  rw [← hA1e] at hA hAl hA1
  have hd : ((l.flatMap stv).drop (i * 4)).length = (n - i) * 4 := by rw [List.length_drop, hFl, Nat.sub_mul]
  have hmin : Nat.min (n + 1 - i) (n - i) = n - i := Nat.min_eq_right (by omega)
  have hmin1 : Nat.min 1 (n + 1 - i) = 1 := Nat.min_eq_left (by omega)
  have c1 : ∀ ty dc sc, (Builtin.copy_ #[22, 22] ty #[.slice (some ⟨g, (i + 1) * 4, none⟩) (n - i) dc, .slice (some ⟨g, i * 4, none⟩) (n + 1 - i) sc]).run Try.prog w.drew = .ok (goInt ((n - i : Nat) : Int)) (w.drew.setRow g A1.toArray) := fun ty dc sc => by
    have := run_copy_rows (P := Try.prog) w.drew 22 22 ty 50 g ((i + 1) * 4) (n - i) dc ⟨g, i * 4, none⟩ (n + 1 - i) sc 4 cur 50 ((l.flatMap stv).drop (i * 4)) Try.underlying22 size50 hg (by rw [hmin, hd]) (fun j v hj => by
      rw [Go.WideShapes.add_plain, cell_of_row w.drew g (i * 4 + j) cur 50 (0, 0) hg]
      rw [List.getElem?_drop, ← hcs, List.getElem?_take] at hj
      split at hj
      · rw [← Array.getElem?_toList]; exact hj
      · cases hj) (by rw [hd, hsz, show (i + 1) * 4 + (n - i) * 4 = (n + 1) * 4 by omega]; omega) (fun v hv => stv_one l v (List.mem_of_mem_drop hv))
    rw [hmin, ← hA1e] at this
    exact this
  have hg1 : (w.drew.setRow g A1.toArray).heap[g]? = some (.cells A1.toArray 50 (0, 0)) := setRow_row w.drew g cur _ 50 (0, 0) hg
  have c2 : ∀ ty dc, (Builtin.copy_ #[22, 22] ty #[.slice (some ⟨g, i * 4, none⟩) (n + 1 - i) dc, .slice (some ⟨vb, 0, none⟩) 1 1]).run Try.prog (w.drew.setRow g A1.toArray) = .ok (goInt 1) ((w.drew.setRow g A1.toArray).setRow g (A1.take (i * 4) ++ stv x ++ A1.drop (i * 4 + (stv x).length)).toArray) := fun ty dc => by
    have := run_copy_rows (P := Try.prog) (w.drew.setRow g A1.toArray) 22 22 ty 50 g (i * 4) (n + 1 - i) dc ⟨vb, 0, none⟩ 1 1 4 A1.toArray 50 (stv x) Try.underlying22 size50 hg1 (by rw [hmin1]; rfl) (fun j v hj => by
      rw [Go.WideShapes.add_plain, Nat.zero_add, cell_of_row _ vb j _ 50 (0, 0) ((setRow_far w.drew g vb _ hne).trans hv)]
      rw [← Array.getElem?_toList]; exact hj) (by rw [List.size_toArray, hA1, hLl]; simp [stv]; omega) (fun v hv => stv_one [x] v (by simpa using hv))
    rw [hmin1] at this
    exact this
  have hov := fun o lb cb => overlaps_no w g vb o lb cb cur _ hg hv hne (by rw [hsz]; omega)
  have HO : Hid (∀ w', w' = (w.drew.setRow g A1.toArray).setRow g (A1.take (i * 4) ++ stv x ++ A1.drop (i * 4 + (stv x).length)).toArray → w'.ownsRow 0 50 4 (.slice (some ⟨g, 0, none⟩) (n + 1) c) (n + 1) ((insAt l i x).flatMap stv) ∧ w.grownBy w' (some g)) := fun w' e => by
    subst e
    refine ⟨⟨?_, .inr ⟨g, c, _, rfl, Nat.zero_le _, setRow_row _ g _ _ 50 (0, 0) hg1, hroom, by unfold maxLen; omega, ?_, ?_⟩⟩, rfl, rfl, rfl, ?_, fun k hk hkg => ?_⟩
    · rw [stv_flat_len, insAt_len l i x (by omega), hn]
    · rw [List.size_toArray, hAl, hLl]
    · rw [insAt_flat]; exact hA
    · rw [setRow_size, setRow_size]; exact Nat.le_refl _
    · have hkg' : k ≠ g := fun e => hkg (by rw [e])
      rw [setRow_far _ g k _ hkg', setRow_far _ g k _ hkg']; rfl
  have C1 : Hid _ := c1
  have C2 : Hid _ := c2
  generalize (w.drew.setRow g A1.toArray) = W1 at *
  generalize hW2 : W1.setRow g (A1.take (i * 4) ++ stv x ++ A1.drop (i * 4 + (stv x).length)).toArray = W2 at *
  clear c1 c2 hg1 hA hAl hA1 hA1e hd hmin hmin1 hFl hLl hcs hsz hv hg hne hn hW2
  go_enter Try.func102, Try.ntmps102
  go_wp2_with (simp only [hov])
  have r1 := C1.out 3 (c - (i + 1)) (c - i)
  go_region
  clear r1
  have r2 := C2.out 3 (c - i)
  go_wp2_with fail
  go_ret
  exact ⟨rfl, HO.out _ rfl⟩
end Go.Proofs.Ytflbcheofmljeaa
