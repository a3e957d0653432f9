/- value: the row of bytes. -/
import Derived.Test.YtaoboleifdgonaaCut
import Derived.Laws.MakeOwn
namespace Go.Proofs.Ytaoboleifdgonaa
open Go.ChangeShapes Go.WideShapes Go.RowKit
set_option linter.unusedVariables false
set_option maxRecDepth 100000
set_option maxRecDepth 100000

theorem info23 : (Try.prog.info? 56).map (fun i => (i.zero, i.size, i.bytes)) = some (some (.agg #[.int .i64 0, .int .i64 0, .string ⟨#[]⟩]), 3, 32) := by kernel_rfl
/-- The cells of a value. -/
def rv (x : V) : List Value := [.int .i64 x.k, .int .i64 x.n, .string x.s]
theorem rv_len (r : List V) : (r.flatMap rv).length = r.length * 3 := by
  induction r with
  | nil => rfl
  | cons x r ih => rw [List.flatMap_cons, List.length_append, ih, List.length_cons]; simp [rv]; omega
theorem rv_one (r : List V) : ∀ v ∈ r.flatMap rv, v.oneCell' = true := by
  intro v hv
  obtain ⟨x, _, hx⟩ := List.mem_flatMap.1 hv
  simp only [rv, List.mem_cons, List.mem_nil_iff, or_false] at hx
  rcases hx with rfl | rfl | rfl <;> rfl
theorem rv_at (r : List V) (i : Nat) (h : i < r.length) : (r.flatMap rv)[i * 3]? = some (.int .i64 r[i].k) ∧ (r.flatMap rv)[i * 3 + 1]? = some (.int .i64 r[i].n) ∧ (r.flatMap rv)[i * 3 + 2]? = some (.string r[i].s) := by
  induction r generalizing i with
  | nil => cases h
  | cons x r ih =>
    cases i with
    | zero => simp [rv]
    | succ i =>
      have := ih i (by simpa using h)
      rw [List.flatMap_cons, show (i + 1) * 3 = i * 3 + 3 by omega, show i * 3 + 3 + 1 = (i * 3 + 1) + 3 by omega, show i * 3 + 3 + 2 = (i * 3 + 2) + 3 by omega]
      simpa [rv] using this
/-- A row of the call's own. -/
def OwnR (w : World) (B : Nat) (v : Value) (r : List V) : Prop := w.ownsRow B 56 3 v r.length (r.flatMap rv)
theorem OwnR.row {w : World} {B : Nat} {v : Value} {r : List V} (h : OwnR w B v r) : ∃ a c, v = .slice a r.length c ∧ Row w (.slice a r.length c) r := by
  by_cases h0 : r.length = 0
  · have hl : r = [] := List.eq_nil_of_length_eq_zero h0
    subst hl
    rcases h.2 with ⟨rfl, _⟩ | ⟨g, cap, cur, rfl, _⟩
    · exact ⟨none, 0, rfl, .inl ⟨_, _, rfl, rfl⟩⟩
    · exact ⟨_, cap, rfl, .inl ⟨_, _, rfl, rfl⟩⟩
  · obtain ⟨g, c, rfl⟩ : ∃ g c, v = .slice (some ⟨g, 0, none⟩) r.length c := by
      rcases h.2 with ⟨_, e⟩ | ⟨g, cap, cur, rfl, _⟩
      · exact absurd e h0
      · exact ⟨g, cap, rfl⟩
    refine ⟨_, c, rfl, .inr ⟨g, 0, c, rfl, fun i hi => ?_⟩⟩
    have hr := rv_at r i hi
    refine ⟨?_, ?_, ?_⟩
    · rw [Nat.zero_add, World.ownsRow.cellAt h (i * 3) (by omega)]; exact hr.1
    · rw [Nat.zero_add, World.ownsRow.cellAt h (i * 3 + 1) (by omega)]; exact hr.2.1
    · rw [Nat.zero_add, World.ownsRow.cellAt h (i * 3 + 2) (by omega)]; exact hr.2.2
theorem OwnR.far {w w' : World} {B : Nat} {v : Value} {r : List V} (h : OwnR w B v r) (k : ∀ g, v.ownBlock = some g → w'.heap[g]? = w.heap[g]?) : OwnR w' B v r := by
  refine ⟨h.1, ?_⟩
  rcases h.2 with q | ⟨g, cap, cur, e, hg, hh, q⟩
  · exact .inl q
  · exact .inr ⟨g, cap, cur, e, hg, (k g (by rw [e]; rfl)).trans hh, q⟩
theorem OwnR.next {w w' : World} {B : Nat} {v : Value} {r : List V} (h : OwnR w B v r) (k : Below w.heap.size w w') : OwnR w' B v r := h.far (fun g hg => k.block g (World.ownsRow.lt h g hg).2)
theorem append_val {w : World} {v : Value} {r : List V} {B : Nat} (h : OwnR w B v r) (x : V) (hs : r.length ≤ 1000) (hb : B ≤ w.heap.size) :
    ∃ v' w', (Builtin.append_ #[36, 36] 36 #[v, .slice (some ⟨w.heap.size, 0, none⟩) 1 1]).run Try.prog (w.alloc (.cells #[.int .i64 x.k, .int .i64 x.n, .string x.s] 56)) = .ok v' w' ∧ OwnR w' B v' (r ++ [x]) ∧ Below B w w' := by
  obtain ⟨i, hi, hz, h1, h2⟩ := info_of info23
  have hA := At.new w x.k x.n x.s
  obtain ⟨v', w', a1, a2, a3, a4⟩ := run_append_own (P := Try.prog) (w.alloc (.cells #[.int .i64 x.k, .int .i64 x.n, .string x.s] 56)) B 36 36 56 i _ 3 32 Try.underlying36 hi hz h1 h2 (by simp [Value.cells]) (by omega) v r.length (r.flatMap rv) (World.ownsRow.alloc h _) ⟨w.heap.size, 0, none⟩ 1 1 ([x].flatMap rv) (rv_len [x])
    (fun j u hu => by
      rw [Go.WideShapes.add_plain, Nat.zero_add]
      have e : [x].flatMap rv = [.int .i64 x.k, .int .i64 x.n, .string x.s] := rfl
      rw [e] at hu
      match j, hu with
      | 0, hu => cases hu; exact hA.c0
      | 1, hu => cases hu; exact hA.c1
      | 2, hu => cases hu; exact hA.c2) (rv_one [x]) (by unfold maxLen; omega) (by omega) (Nat.le_trans hb (by simp))
  refine ⟨v', w', a1, ?_, ((Below.refl B w).alloc hb _).grown a3 (Nat.le_trans hb (by simp)) (fun k hk => (World.ownsRow.lt h k hk).1)⟩
  unfold OwnR
  rw [List.length_append, List.flatMap_append]
  exact a2
theorem make_row (w : World) (c : Nat) (hc : c ≤ 255) (B : Nat) (hB : B ≤ w.heap.size) :
    ∃ w', (Instr.makeSlice 36 (.int .i64 0) (.int .i64 (c : Int))).run Try.prog w = .ok (.slice (some ⟨w.heap.size, 0, none⟩) 0 c) w' ∧ OwnR w' B (.slice (some ⟨w.heap.size, 0, none⟩) 0 c) [] ∧ Below w.heap.size w w' := by
  obtain ⟨i, hi, hz, h1, h2⟩ := info_of info23
  obtain ⟨w', a, b, g⟩ := run_makeSlice_owned (P := Try.prog) (w := w) B 36 56 i _ 3 Try.underlying36 hi hz h1 .i64 .i64 c (by omega) (by rw [h2]; omega) (by unfold maxLen; omega) hB
  exact ⟨w', a, b, (Below.refl _ w).grown g (Nat.le_refl _) (fun k hk => by cases hk)⟩

/-- So many values of some bytes. -/
def takeL : Nat → ByteArray → Bool → List V → Option (List V × ByteArray × Bool)
  | 0, left, short, acc => some (acc, left, short)
  | c + 1, left, short, acc => if (cutV left short).v.may then takeL c (cutV left short).left (cutV left short).short (acc ++ [(cutV left short).v]) else none
/-- The row of bytes. -/
def takeR (s : ByteArray) : Option (List V) :=
  match takeL (firstN s 1).toNat (rest s 1) (fewer false s 1) [] with
  | none => none
  | some (r, left, short) => if short = true ∨ left.size ≠ 0 then none else some r
theorem cutV_size (left : ByteArray) (short : Bool) : (cutV left short).left.size ≤ left.size ∧ (cutV left short).v.s.size ≤ left.size := by
  have h1 : ∀ x n, (rest x n).size ≤ x.size := fun x n => ext_size _ _ _
  unfold cutV
  simp only
  split
  · exact ⟨Nat.le_trans (h1 _ _) (h1 _ _), Nat.zero_le _⟩
  · split
    · exact ⟨Nat.le_trans (h1 _ _) (Nat.le_trans (h1 _ _) (h1 _ _)), Nat.le_trans (ext_size _ _ _) (Nat.le_trans (h1 _ _) (h1 _ _))⟩
    · split
      · exact ⟨Nat.le_trans (h1 _ _) (h1 _ _), Nat.zero_le _⟩
      · exact ⟨h1 _ _, Nat.zero_le _⟩

/-- What Take answers. -/
def Took (T : Option (List V)) (e : Ending) (w' : World) : Prop := match T with
  | none => e = .returned (.tuple #[.slice none 0 0, .int .i64 50])
  | some r => ∃ a c, e = .returned (.tuple #[.slice a r.length c, .int .i64 0]) ∧ Row w' (.slice a r.length c) r
def close (T : Option (List V × ByteArray × Bool)) : Option (List V) := match T with
  | none => none
  | some (r, left, short) => if short = true ∨ left.size ≠ 0 then none else some r
theorem takeR_is (s : ByteArray) : takeR s = close (takeL (firstN s 1).toNat (rest s 1) (fewer false s 1) []) := rfl
/-- Take at a round's beginning. -/
def Mid (w wr : World) (row : Value) (m : Nat) (T : Option (List V × ByteArray × Bool)) : Prop :=
  ∃ left short acc, Cuts wr w.heap.size (w.heap.size + 1) left short ∧ OwnR wr (w.heap.size + 2) row acc ∧ acc.length + m ≤ 255 ∧ Below w.heap.size w wr ∧ w.heap.size + 2 ≤ wr.heap.size ∧ left.size ≤ 1000000 ∧ T = takeL m left short acc
theorem Cuts.low {w w' : World} {B pl ps : Nat} {left : ByteArray} {short : Bool} (h : Cuts w pl ps left short) (k : Below B w w') (h1 : pl < B) (h2 : ps < B) : Cuts w' pl ps left short :=
  ⟨(k.cell (p := ⟨pl, 0, none⟩) h1).trans h.c0, (k.cell (p := ⟨ps, 0, none⟩) h2).trans h.c1, (k.frozen (p := ⟨pl, 0, none⟩) h1).trans h.f0, (k.frozen (p := ⟨ps, 0, none⟩) h2).trans h.f1, h.ne⟩

set_option maxHeartbeats 2000000 in
theorem take_is (s : ByteArray) (hs : s.size ≤ 1000000) (w : World) : Calls Try.prog 37 #[.string s] w fun e w' => Took (takeR s) e w' ∧ Below w.heap.size w w' := by
  have HC0 : Cuts ((w.alloc (.cells #[.string s] 9)).alloc (.cells #[.bool false] 4)) w.heap.size (w.heap.size + 1) s false := ⟨by simp, by simp, by simp, by simp, by omega⟩
  have H1 : Hid _ := cut_is s false w.heap.size (w.heap.size + 1) 1 _ HC0
  have HN : Hid _ := numberOf_is (s.extract 0 1) (Nat.le_trans (ext_size _ _ _) hs)
  obtain ⟨c, hc, ek⟩ := num_few (s.extract 0 1).data.toList (ext_few _ _ _)
  rw [ek] at HN
  have HR : Hid (takeR s = close (takeL c (rest s 1) (fewer false s 1) [])) := by
    show takeR s = _
    have ek' : firstN s 1 = (c : Int) := ek
    rw [takeR_is, ek']
    rfl
  rw [HR.out]
  obtain ⟨T, hT⟩ : ∃ T, takeL c (rest s 1) (fewer false s 1) [] = T := ⟨_, rfl⟩
  rw [hT]
  have HT : Hid _ := hT
  clear hT HR ek HC0
  go_enter Try.func37, Try.ntmps37
  go_wp2_with fail
  refine Calls.mono H1.out ?_; rintro e w1 ⟨rfl, u1, k1⟩
  have z1 : w.heap.size + 2 ≤ w1.heap.size := by have := k1.size; simp at this; omega
  have HB1 : Hid (Below w.heap.size w w1 ∧ Cuts w1 w.heap.size (w.heap.size + 1) (rest s 1) (fewer false s 1)) := ⟨(below2 _ _ _).trans (k1.below (by simp; omega) (Nat.le_refl _) (by omega)), u1⟩
  clear u1 k1 H1
  go_wp2_with fail
  refine Calls.mono (HN.out _) ?_; rintro e w2 ⟨rfl, rfl⟩
  obtain ⟨w3, mk, o3, b3⟩ := make_row w2 c (by omega) (w.heap.size + 2) z1
  have HM3 : Hid (Mid w w3 (.slice (some ⟨w2.heap.size, 0, none⟩) 0 c) c T) := ⟨rest s 1, fewer false s 1, [], HB1.out.2.next b3, o3, by simp; omega, HB1.out.1.trans (b3.mono (by omega)), Nat.le_trans z1 b3.size, Nat.le_trans (ext_size _ _ _) hs, HT.out.symm⟩
  clear o3 b3 HB1 HT HN
  go_wp2_with fail
  go_loopw [8, 18] (fun row i wr => ∃ j : Nat, j ≤ c ∧ i = .int .i64 j ∧ Hid (Mid w wr row (c - j) T))
    (fun _ i _ => c - (intOf i).toNat)
  case atStart => exact ⟨0, Nat.zero_le _, rfl, HM3.out⟩
  case round =>
    obtain ⟨j, hj, rfl, HI⟩ := hrel
    obtain ⟨left, short, acc, i1, i2, i3, i4, i5, i6, i7⟩ := HI.out
    by_cases hlt : j < c
    · have hlti : (j : Int) < (c : Int) := by omega
      have hcj : c - j = (c - (j + 1)) + 1 := by omega
      rw [hcj, takeL] at i7
      have hsz := cutV_size left short
      have HCV : Hid _ := cutValue_is left short i6 _ _ wr i1
      generalize cutV left short = X at *
      obtain ⟨⟨xk, xn, xs⟩, l', sh'⟩ := X
      have HIn : Hid (OwnR wr (w.heap.size + 2) u8 acc ∧ Below w.heap.size w wr ∧ l'.size ≤ 1000000 ∧ acc.length + (c - (j + 1)) + 1 ≤ 255) := ⟨i2, i4, Nat.le_trans hsz.1 i6, by omega⟩
      have H7 : Hid (T = if (V.mk xk xn xs).may then takeL (c - (j + 1)) l' sh' (acc ++ [⟨xk, xn, xs⟩]) else none) := i7
      have hxs : xs.size ≤ 9223372036854775807 := by have : xs.size ≤ left.size := hsz.2; omega
      have HM : Hid _ := may_is xk xn xs hxs
      clear i1 i2 i3 i4 i6 i7 hsz HI
      go_wp2_with fail
      refine Calls.mono HCV.out ?_; rintro e w4 ⟨rfl, u4, k4⟩
      have z4 := k4.size
      have HU4 : Hid (Cuts w4 w.heap.size (w.heap.size + 1) l' sh' ∧ OwnR w4 (w.heap.size + 2) u8 acc ∧ Below w.heap.size w w4) := ⟨u4, HIn.out.1.far (fun g hg => by have := World.ownsRow.lt HIn.out.1 g hg; exact k4.block g this.2 (by omega) (by omega)), HIn.out.2.1.trans (k4.below (by omega) (Nat.le_refl _) (by omega))⟩
      clear u4 k4 HCV
      by_cases hm : mayV xk xn xs
      · have HM' : Hid (∀ w, Calls Try.prog 53 #[vv xk xn xs] w fun e w' => e = .returned (.bool true) ∧ Below w.heap.size w w') := by
          have := HM.out
          simp only [decide_eq_true hm] at this
          exact this
        clear HM
        go_wp2_with fail
        refine Calls.mono (HM'.out _) ?_; rintro e w5 ⟨rfl, k5⟩
        obtain ⟨d0, d1, d2⟩ := (At.new w4 xk xn xs).next k5
        have K5 : Below w4.heap.size w4 w5 := Below.next (below1 _ _) k5
        have z5 := K5.size
        have O5 := HU4.out.2.1.next K5
        obtain ⟨v6, w6, ra, o6, b6⟩ := append_val O5 ⟨xk, xn, xs⟩ (by have := HIn.out.2.2.2; omega) (by omega)
        have RA : Hid ((Builtin.append_ #[36, 36] 36 #[u8, .slice (some ⟨w5.heap.size, 0, none⟩) 1 1]).run Try.prog (w5.alloc (.cells #[.int .i64 xk, .int .i64 xn, .string xs] 56)) = .ok v6 w6) := ra
        have HM6 : Hid (Mid w w6 v6 (c - (j + 1)) T) := by
          refine ⟨l', sh', acc ++ [⟨xk, xn, xs⟩], (HU4.out.1.next K5).low b6 (by omega) (by omega), o6, by rw [List.length_append]; simp; have := HIn.out.2.2.2; omega, (HU4.out.2.2.trans (K5.mono (by omega))).trans (b6.mono (by omega)), Nat.le_trans (by omega) b6.size, HIn.out.2.2.1, ?_⟩
          rw [H7.out, if_pos (show (V.mk xk xn xs).may from hm)]
        clear ra o6 b6 k5 K5 O5 HU4 HM'
        go_wp2_with (first | ((with_reducible apply st_append (x := .tmp 25)); (case ho => rfl); (case hgd => rfl); (case hr => exact RA.out)))
        go_roundw
        case rel => exact ⟨j + 1, by omega, by go_num, HM6.out⟩
        case measure => simp [intOf]; omega
      · have HM' : Hid (∀ w, Calls Try.prog 53 #[vv xk xn xs] w fun e w' => e = .returned (.bool false) ∧ Below w.heap.size w w') := by
          have := HM.out
          simp only [decide_eq_false hm] at this
          exact this
        clear HM
        go_wp2_with fail
        refine Calls.mono (HM'.out _) ?_; rintro e w5 ⟨rfl, k5⟩
        have HB5 : Hid (Below w.heap.size w w5) := HU4.out.2.2.trans ((Below.next (below1 _ _) k5).mono (by omega))
        have HT7 : Hid (close T = none) := by show close T = none; rw [H7.out, if_neg (show ¬ (V.mk xk xn xs).may from hm)]; rfl
        clear k5
        go_wp2_with fail
        go_ret2
        exact ⟨by rw [HT7.out]; rfl, HB5.out⟩
    · have hlti : ¬ (j : Int) < (c : Int) := by omega
      have hcj : c - j = 0 := by omega
      rw [hcj, takeL] at i7
      obtain ⟨d0, d1, _, _, _⟩ := i1
      obtain ⟨ra, rc, rfl, rw1⟩ := i2.row
      have HE : Hid (Row wr (.slice ra acc.length rc) acc ∧ Below w.heap.size w wr) := ⟨rw1, i4⟩
      have HT7 : Hid (close T = if short = true ∨ left.size ≠ 0 then none else some acc) := by show close T = _; rw [i7]; rfl
      clear HI i2 i3 i4 i6 i7 rw1
      cases short with
      | true =>
        have HT8 : Hid (close T = none) := by show close T = none; rw [HT7.out, if_pos (.inl rfl)]
        go_wp2_with fail
        go_ret2
        exact ⟨by rw [HT8.out]; rfl, HE.out.2⟩
      | false =>
        by_cases h0 : left.size = 0
        · have e0 := empty_of h0
          have HT8 : Hid (close T = some acc) := by show close T = _; rw [HT7.out, if_neg (by simp [h0])]
          subst e0
          go_wp2_with fail
          go_ret2
          exact ⟨by rw [HT8.out]; exact ⟨ra, rc, rfl, HE.out.1⟩, HE.out.2⟩
        · have hl0 := not_nil h0
          have hl1 : left.toList.isEmpty = false := by simpa using hl0
          have HT8 : Hid (close T = none) := by show close T = none; rw [HT7.out, if_pos (.inr h0)]
          go_wp2_with fail
          go_ret2
          exact ⟨by rw [HT8.out]; rfl, HE.out.2⟩
end Go.Proofs.Ytaoboleifdgonaa
