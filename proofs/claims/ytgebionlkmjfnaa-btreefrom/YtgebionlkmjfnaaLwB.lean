/- The law's own with. -/
import Derived.Test.YtgebionlkmjfnaaLwA
import Derived.BigQuiet
namespace Go.Proofs.Ytgebionlkmjfnaa
open Go.ChangeShapes Go.WideShapes Go.RowKit
set_option linter.unusedVariables false
set_option maxRecDepth 100000

theorem kc_gt {a b : Int} (h : b < a) : kc b a = -1 := kc_lt.2 h
theorem insL_low {P : List Itm} {k : Int} (v : ByteArray) (h : Low P k) (M : List Itm) : insL (P ++ M) k v = P ++ insL M k v := by
  have := insL_mid (P := P) (M := M) (S := []) v h (fun x hx => by cases hx)
  simpa using this
theorem insL_high {P : List Itm} {k : Int} (v : ByteArray) {x : Itm} (h : k < x.1) : insL (P ++ [x]) k v = insL P k v ++ [x] := by
  have := insL_mid (P := []) (M := P) (S := [x]) v (fun x hx => by cases hx) (fun y hy => by simp at hy; subst hy; exact kc_gt h)
  simpa using this
theorem insL_le (l : List Itm) (k : Int) (v : ByteArray) : (insL l k v).length ≤ l.length + 1 := by
  unfold insL
  rw [List.length_append, List.length_cons]
  have h : ∀ l : List Itm, (l.filter (lessK k)).length + (l.filter (moreK k)).length ≤ l.length := by
    intro l
    induction l with
    | nil => simp
    | cons x r ih =>
      have : ¬ (lessK k x = true ∧ moreK k x = true) := by
        rintro ⟨h1, h2⟩
        unfold lessK at h1
        unfold moreK at h2
        have h1 := of_decide_eq_true h1
        have h2 := of_decide_eq_true h2
        have := KOrd.turn k x.1
        omega
      by_cases a : lessK k x = true
      · have b : ¬ moreK k x = true := fun b => this ⟨a, b⟩
        rw [List.filter_cons_of_pos a, List.filter_cons_of_neg b]; simp only [List.length_cons]; omega
      · rw [List.filter_cons_of_neg a]
        by_cases b : moreK k x = true
        · rw [List.filter_cons_of_pos b]; simp only [List.length_cons]; omega
        · rw [List.filter_cons_of_neg b]; simp only [List.length_cons]; omega
  have := h l
  omega
/-- How far the law's with is. -/
def Wst (l : List Itm) (k : Int) (v : ByteArray) (j : Nat) (dn : Bool) (O : List Itm) : Prop :=
  match dn with
  | false => Low (l.take j) k ∧ O = l.take j
  | true => (∃ y, y ∈ l.take j ∧ k ≤ y.1) ∧ O = insL (l.take j) k v
theorem Wst.low {l : List Itm} {k : Int} {v : ByteArray} {j : Nat} {O : List Itm} (h : Wst l k v j false O) (hj : j < l.length) (hx : l[j].1 < k) : Wst l k v (j + 1) false (O ++ [l[j]]) := by
  obtain ⟨h1, h2⟩ := h
  rw [Wst, take_snoc hj]
  refine ⟨fun y hy => ?_, by rw [h2]⟩
  rcases List.mem_append.1 hy with hy | hy
  · exact h1 y hy
  · simp at hy; subst hy; exact kc_lt.2 hx
theorem Wst.same {l : List Itm} {k : Int} {v : ByteArray} {j : Nat} {O : List Itm} (h : Wst l k v j false O) (hj : j < l.length) (hx : l[j].1 = k) : Wst l k v (j + 1) true (O ++ [(k, v)]) := by
  obtain ⟨h1, h2⟩ := h
  rw [Wst, take_snoc hj]
  refine ⟨⟨l[j], List.mem_append_right _ (List.mem_singleton.2 rfl), by omega⟩, ?_⟩
  rw [insL_low v h1, h2]
  congr 1
  generalize l[j] = x at *
  obtain ⟨x1, x2⟩ := x
  cases hx
  exact (insL_one _ _ _).symm
theorem Wst.more {l : List Itm} {k : Int} {v : ByteArray} {j : Nat} {O : List Itm} (h : Wst l k v j false O) (hj : j < l.length) (hx : k < l[j].1) : Wst l k v (j + 1) true (O ++ [(k, v)] ++ [l[j]]) := by
  obtain ⟨h1, h2⟩ := h
  rw [Wst, take_snoc hj]
  refine ⟨⟨l[j], List.mem_append_right _ (List.mem_singleton.2 rfl), by omega⟩, ?_⟩
  rw [insL_high v hx, h2]
  congr 1
  have := insL_low v h1 []
  rw [List.append_nil] at this
  rw [this]; rfl
theorem Wst.past {l : List Itm} {k : Int} {v : ByteArray} {j : Nat} {O : List Itm} (hs : Sorted l) (h : Wst l k v j true O) (hj : j < l.length) : k < l[j].1 ∧ Wst l k v (j + 1) true (O ++ [l[j]]) := by
  obtain ⟨⟨y, hy, hk⟩, h2⟩ := h
  have hlt : k < l[j].1 := by
    have hp : Sorted (l.take j ++ [l[j]]) := by rw [← take_snoc hj]; exact hs.sublist (List.take_sublist _ _)
    have := (List.pairwise_append.1 hp).2.2 y hy l[j] (by simp)
    have := kc_lt.1 this
    omega
  refine ⟨hlt, ?_⟩
  rw [Wst, take_snoc hj]
  exact ⟨⟨y, List.mem_append_left _ hy, hk⟩, by rw [insL_high v hlt, h2]⟩
theorem Wst.len {l : List Itm} {k : Int} {v : ByteArray} {j : Nat} {dn : Bool} {O : List Itm} (h : Wst l k v j dn O) : O.length ≤ l.length + 1 := by
  have ht : (l.take j).length ≤ l.length := by rw [List.length_take]; omega
  cases dn with
  | false => obtain ⟨_, rfl⟩ := h; omega
  | true => obtain ⟨_, rfl⟩ := h; have := insL_le (l.take j) k v; omega
theorem Wst.done {l : List Itm} {k : Int} {v : ByteArray} {j : Nat} {O : List Itm} (hj : l.length ≤ j) (h : Wst l k v j true O) : O = insL l k v := by
  obtain ⟨_, rfl⟩ := h
  rw [List.take_of_length_le hj]
theorem Wst.last {l : List Itm} {k : Int} {v : ByteArray} {j : Nat} {O : List Itm} (hj : l.length ≤ j) (h : Wst l k v j false O) : O ++ [(k, v)] = insL l k v := by
  obtain ⟨h1, rfl⟩ := h
  rw [List.take_of_length_le hj] at h1 ⊢
  have := insL_low v h1 []
  rw [List.append_nil] at this
  rw [this]; rfl
set_option maxHeartbeats 8000000 in
theorem lwith_is (a : Option Addr) (c : Nat) (l : List Itm) (k : Int) (s : ByteArray) (w : World) (hs : Sl itv 2 w (.slice a l.length c) l) (hso : Sorted l) (hn : l.length ≤ 900) :
    Calls Try.prog 8 #[.slice a l.length c, .agg #[.int .i64 k, .string s]] w fun e w' => ∃ v', e = .returned v' ∧ Below w.heap.size w w' ∧ Sl itv 2 w' v' (insL l k s) := by
  obtain ⟨w0, hw0⟩ : ∃ w0, w.alloc (.cells #[.int .i64 k, .string s] 32) = w0 := ⟨_, rfl⟩
  have HW : Hid (Below w.heap.size w w0 ∧ Sl itv 2 w0 (.slice a l.length c) l) := by
    show _ ∧ _
    rw [← hw0]
    exact ⟨below1 _ _, hs.next itv_ne (below1 _ _)⟩
  have hC : CellsF w0 w.heap.size [.int .i64 k, .string s] := by rw [← hw0]; exact CellsF.at _ 32 (by simp) rfl
  have HC : Hid (∀ w', Below w0.heap.size w0 w' → w'.cell? ⟨w.heap.size, 0, none⟩ = some (.int .i64 k) ∧ w'.cell? ⟨w.heap.size, 1, none⟩ = some (.string s)) := fun w' kk => ⟨(hC.next kk).cs 0 _ rfl, (hC.next kk).cs 1 _ rfl⟩
  have HSO : Hid (Sorted l) := hso
  have HO0 : Hid (Own w0 [] w0 (.slice none 0 0) ∧ Wst l k s 0 false []) := ⟨Own.nil w0, fun x hx => by simp at hx, by simp⟩
  have HW0 : Hid _ := hw0
  clear hw0 hs hC hso
  go_enter Try.func8, Try.ntmps8
  go_wp2_with fail
  rw [HW0.out]
  go_loopw [5, 6, 7] (fun v5 v6 vi wr => ∃ (j : Nat) (vv : Value) (dn : Bool) (O : List Itm), j ≤ l.length ∧ vi = .int .i64 j ∧ vv = v5 ∧ v6 = .bool dn ∧ Hid (Own w0 O wr vv ∧ Wst l k s j dn O))
    (fun _ _ vi _ => l.length - (intOf vi).toNat)
  case atStart => exact ⟨0, _, false, [], Nat.zero_le _, rfl, rfl, rfl, HO0.out⟩
  case round =>
    clear HO0 HW0
    obtain ⟨j, vv, dn, O, hj, rfl, rfl, rfl, HO⟩ := hrel
    have hln := HO.out.2.len
    by_cases hlt : j < l.length
    · have hlti : (j : Int) < (l.length : Int) := by omega
      have hsl := HW.out.2
      obtain ⟨yb, yo, yc, hsv, hyc, hyb, hyt⟩ := hsl.itm (fun e => by rw [e] at hlt; simp at hlt)
      cases hsv
      obtain ⟨y0, y1⟩ := hyt j hlt
      have HY : Hid (∀ w', Below w0.heap.size w0 w' → w'.cell? ⟨yb, yo + j * 2, none⟩ = some (.int .i64 l[j].1) ∧ w'.cell? ⟨yb, yo + j * 2 + 1, none⟩ = some (.string l[j].2)) := fun w' kk => ⟨(kk.cell (p := ⟨yb, yo + j * 2, none⟩) hyb).trans y0, (kk.cell (p := ⟨yb, yo + j * 2 + 1, none⟩) hyb).trans y1⟩
      clear y0 y1 hyt hsl
      obtain ⟨y0, y1⟩ := HY.out _ HO.out.1.bel
      obtain ⟨x0, x1⟩ := HC.out _ HO.out.1.bel
      cases dn with
      | true =>
        obtain ⟨hk, hst⟩ := HO.out.2.past HSO.out hlt
        generalize l[j] = x at *
        have HST : Hid _ := hst
        have hge : k ≤ x.1 := by omega
        have hne : ¬ x.1 = k := by omega
        have hneb : (x.1 == k) = false := by simpa using hne
        have hnbb : (x.1 != k) = true := by simpa using hne
        clear hst
        go_wp2_with fail
        go_quiet (fail)
        have HO1 := HO.out.1.draws nq
        generalize wr.drewN nq = w1 at HO1 ⊢
        have HO2 : Hid _ := HO1
        clear HO1 HO x0 x1 y0 y1
        obtain ⟨x0, x1⟩ := HC.out _ HO2.out.bel
        obtain ⟨y0, y1⟩ := HY.out _ HO2.out.bel
        go_wp2_with fail
        go_quiet (fail)
        obtain ⟨v', w', r1, r2⟩ := (HO2.out.draws nq).push x (by omega)
        have RA : Hid _ := r1
        have HN : Hid (Own w0 (O ++ [x]) w' v') := r2
        clear HO2 HY r1 r2
        go_wp2_with (first | ((with_reducible apply st_append (x := .tmp 38)); (case ho => rfl); (case hgd => rfl); (case hr => exact RA.out)))
        go_roundw
        case rel => exact ⟨j + 1, _, true, _, by omega, by go_num, rfl, rfl, HN.out, HST.out⟩
        case measure => simp [intOf]; omega
      | false =>
        have hlow := HO.out.2.low hlt
        have hsame := HO.out.2.same hlt
        have hmore := HO.out.2.more hlt
        generalize l[j] = x at *
        by_cases hk : x.1 < k
        · have HST : Hid _ := hlow hk
          have hge : ¬ k ≤ x.1 := by omega
          have hne : ¬ x.1 = k := by omega
          have hneb : (x.1 == k) = false := by simpa using hne
          have hnbb : (x.1 != k) = true := by simpa using hne
          clear hlow hsame hmore
          go_wp2_with fail
          go_quiet (fail)
          have HO1 := HO.out.1.draws nq
          generalize wr.drewN nq = w1 at HO1 ⊢
          have HO2 : Hid _ := HO1
          clear HO1 HO x0 x1 y0 y1
          obtain ⟨x0, x1⟩ := HC.out _ HO2.out.bel
          obtain ⟨y0, y1⟩ := HY.out _ HO2.out.bel
          go_wp2_with fail
          go_quiet (fail)
          obtain ⟨v', w', r1, r2⟩ := (HO2.out.draws nq).push x (by omega)
          have RA : Hid _ := r1
          have HN : Hid (Own w0 (O ++ [x]) w' v') := r2
          clear HO2 HY r1 r2
          go_wp2_with (first | ((with_reducible apply st_append (x := .tmp 38)); (case ho => rfl); (case hgd => rfl); (case hr => exact RA.out)))
          go_roundw
          case rel => exact ⟨j + 1, _, false, _, by omega, by go_num, rfl, rfl, HN.out, HST.out⟩
          case measure => simp [intOf]; omega
        · have hge : k ≤ x.1 := by omega
          by_cases he : x.1 = k
          · have HST : Hid _ := hsame he
            have hnbb : (x.1 != k) = false := by simpa using he
            clear hlow hsame hmore hk
            go_wp2_with fail
            go_quiet (fail)
            obtain ⟨v', w', r1, r2⟩ := (HO.out.1.draws nq).push (k, s) (by omega)
            have RA : Hid _ := r1
            clear r1
            go_wp2_with (first | ((with_reducible apply st_append (x := .tmp 26)); (case ho => rfl); (case hgd => rfl); (case hr => exact RA.out)))
            clear RA x0 x1 y0 y1
            obtain ⟨x0, x1⟩ := HC.out _ r2.bel
            obtain ⟨y0, y1⟩ := HY.out _ r2.bel
            have HN1 : Hid (Own w0 (O ++ [(k, s)]) w' v') := r2
            clear r2
            go_quiet (fail)
            have HN : Hid (Own w0 (O ++ [(k, s)]) (w'.drewN nq) v') := HN1.out.draws nq
            clear HN1 HY HO
            go_wp2_with fail
            go_roundw
            case rel => exact ⟨j + 1, _, true, _, by omega, by go_num, rfl, rfl, HN.out, HST.out⟩
            case measure => simp [intOf]; omega
          · have HST : Hid _ := hmore (by omega)
            have hnbb : (x.1 != k) = true := by simpa using he
            clear hlow hsame hmore hk
            go_wp2_with fail
            go_quiet (fail)
            obtain ⟨v', w', r1, r2⟩ := (HO.out.1.draws nq).push (k, s) (by omega)
            have RA : Hid _ := r1
            clear r1
            go_wp2_with (first | ((with_reducible apply st_append (x := .tmp 26)); (case ho => rfl); (case hgd => rfl); (case hr => exact RA.out)))
            clear RA x0 x1 y0 y1
            obtain ⟨x0, x1⟩ := HC.out _ r2.bel
            obtain ⟨y0, y1⟩ := HY.out _ r2.bel
            have HN1 : Hid (Own w0 (O ++ [(k, s)]) w' v') := r2
            clear r2
            go_quiet (fail)
            obtain ⟨v2, w2, r1, r2⟩ := (HN1.out.draws nq).push x (by rw [List.length_append]; simp; omega)
            have RA : Hid _ := r1
            have HN : Hid (Own w0 (O ++ [(k, s)] ++ [x]) w2 v2) := r2
            clear r1 r2 HN1 HY HO
            go_wp2_with (first | ((with_reducible apply st_append (x := .tmp 38)); (case ho => rfl); (case hgd => rfl); (case hr => exact RA.out)))
            go_roundw
            case rel => exact ⟨j + 1, _, true, _, by omega, by go_num, rfl, rfl, HN.out, HST.out⟩
            case measure => simp [intOf]; omega
    · have hlti : ¬ (j : Int) < (l.length : Int) := by omega
      obtain ⟨x0, x1⟩ := HC.out _ HO.out.1.bel
      cases dn with
      | true =>
        have HE : Hid (Own w0 (insL l k s) wr vv) := by
          have := HO.out.1
          rw [HO.out.2.done (by omega)] at this
          exact this
        clear HO
        go_wp2_with fail
        go_ret
        exact ⟨vv, rfl, Below.next HW.out.1 HE.out.bel, HE.out.sl⟩
      | false =>
        obtain ⟨v', w', r1, r2⟩ := HO.out.1.push (k, s) (by omega)
        rw [HO.out.2.last (by omega)] at r2
        have RA : Hid _ := r1
        have HE : Hid (Own w0 (insL l k s) w' v') := r2
        clear HO r1 r2
        go_wp2_with (first | ((with_reducible apply st_append (x := .tmp 47)); (case ho => rfl); (case hgd => rfl); (case hr => exact RA.out)))
        go_ret
        exact ⟨v', rfl, Below.next HW.out.1 HE.out.bel, HE.out.sl⟩
end Go.Proofs.Ytgebionlkmjfnaa
