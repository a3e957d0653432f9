/- Whether two rows of tokens are the same. -/
import Derived.Test.YtgokilochbnbaaaDoorPb
import Derived.Test.YtgokilochbnbaaaDoorAw
import Derived.LoopTactic
import Derived.BigQuiet
namespace Go.Proofs.YtgokilochbnbaaaDoor
open Go.ChangeShapes Go.WideShapes Go.ChangeAt Go.RowKit
set_option linter.unusedVariables false
set_option maxRecDepth 100000

/-- A row of tokens in memory, whoever's it is. -/
def RowT (w : World) (v : Value) (r : List (TK × Nat)) : Prop := ∃ a c, v = .slice a r.length c ∧ (r = [] ∨ ∃ g, a = some ⟨g, 0, none⟩ ∧ ∀ j u, (r.flatMap rt)[j]? = some u → w.cell? ⟨g, j, none⟩ = some u)
theorem OwnT.row {w : World} {B : Nat} {v : Value} {r : List (TK × Nat)} (h : OwnT w B v r) : RowT w v r := by
  by_cases hr : r = []
  · subst hr
    rcases h.2 with ⟨rfl, _⟩ | ⟨g, cap, cur, rfl, _⟩
    · exact ⟨none, 0, rfl, .inl rfl⟩
    · exact ⟨_, cap, rfl, .inl rfl⟩
  · obtain ⟨g, c, rfl, hc, _⟩ := OwnT.cells h hr
    exact ⟨_, c, rfl, .inr ⟨g, rfl, hc⟩⟩
theorem RowT.next {w w' : World} {v : Value} {r : List (TK × Nat)} (h : RowT w v r) (k : Below w.heap.size w w') : RowT w' v r := by
  obtain ⟨a, c, rfl, h⟩ := h
  refine ⟨a, c, rfl, ?_⟩
  rcases h with h | ⟨g, rfl, hc⟩
  · exact .inl h
  · exact .inr ⟨g, rfl, fun j u hu => (k.cell (p := ⟨g, j, none⟩) (World.block_lt_of_cell? w _ (hc j u hu))).trans (hc j u hu)⟩
theorem RowT.drew {w : World} {v : Value} {r : List (TK × Nat)} (h : RowT w v r) : RowT w.drew v r := by
  obtain ⟨a, c, rfl, h⟩ := h
  exact ⟨a, c, rfl, h⟩
theorem rt_get (r : List (TK × Nat)) (i : Nat) (h : i < r.length) {w : World} {g : Nat} (hc : ∀ j u, (r.flatMap rt)[j]? = some u → w.cell? ⟨g, j, none⟩ = some u) :
    w.cell? ⟨g, i * 4, none⟩ = some (.int .i64 r[i].1.k) ∧ w.cell? ⟨g, i * 4 + 1, none⟩ = some (.string ⟨r[i].1.t.toArray⟩) ∧ w.cell? ⟨g, i * 4 + 2, none⟩ = some (.int .i64 r[i].1.n) ∧ w.cell? ⟨g, i * 4 + 3, none⟩ = some (.int .i64 (r[i].2 : Int)) := by
  obtain ⟨h0, h1, h2, h3⟩ := rt_at r i h
  exact ⟨hc _ _ h0, hc _ _ h1, hc _ _ h2, hc _ _ h3⟩
def sameB (r r' : List (TK × Nat)) : Bool := decide (r.map corep = r'.map corep)
theorem same_len {r r' : List (TK × Nat)} (h : r.length ≠ r'.length) : sameB r r' = false := by
  unfold sameB
  rw [decide_eq_false_iff_not]
  intro e
  have := congrArg List.length e
  rw [List.length_map, List.length_map] at this
  exact h this
theorem same_long (r r' : List (TK × Nat)) (h : ((r.length : Int) != (r'.length : Int)) = true) (a a' : Option Addr) (c c' : Nat) (w : World) :
    Calls Tryd.prog 11 #[.slice a r.length c, .slice a' r'.length c'] w fun e w' => e = .returned (.bool false) ∧ w' = w := by
  go_enter Tryd.func11, Tryd.ntmps11
  go_wp2
  go_ret
  exact ⟨rfl, rfl⟩
theorem same_none (a a' : Option Addr) (c c' : Nat) (w : World) :
    Calls Tryd.prog 11 #[.slice a 0 c, .slice a' 0 c'] w fun e w' => e = .returned (.bool true) ∧ w' = w := by
  go_enter Tryd.func11, Tryd.ntmps11
  go_wp2
  go_loop [5] (fun i => i = .int .i64 0) (fun i => 0)
  case atStart => rfl
  case round =>
    obtain rfl := hrel
    go_wp2
    go_ret
    exact ⟨rfl, rfl⟩
theorem same_at {r r' : List (TK × Nat)} {i : Nat} (h : i < r.length) (h' : i < r'.length) (n : ¬ (r[i].1.k = r'[i].1.k ∧ r[i].1.t = r'[i].1.t ∧ r[i].1.n = r'[i].1.n)) : sameB r r' = false := by
  unfold sameB
  rw [decide_eq_false_iff_not]
  intro e
  have h1 : (r.map corep)[i]? = (r'.map corep)[i]? := by rw [e]
  rw [List.getElem?_map, List.getElem?_map, List.getElem?_eq_getElem h, List.getElem?_eq_getElem h'] at h1
  simp only [Option.map_some, Option.some.injEq, corep, core, Prod.mk.injEq] at h1
  exact n h1
theorem same_all {r r' : List (TK × Nat)} (hl : r.length = r'.length) (h : ∀ i (h : i < r.length) (h' : i < r'.length), r[i].1.k = r'[i].1.k ∧ r[i].1.t = r'[i].1.t ∧ r[i].1.n = r'[i].1.n) : sameB r r' = true := by
  unfold sameB
  rw [decide_eq_true_eq]
  apply List.ext_getElem
  · simpa using hl
  · intro i h1 h2
    rw [List.getElem_map, List.getElem_map]
    rw [List.length_map] at h1 h2
    obtain ⟨a, b, c⟩ := h i h1 h2
    show (_, _, _) = (_, _, _)
    rw [a, b, c]
theorem t_ne {t t' : List UInt8} (h : ¬ t = t') : ¬ (⟨t.toArray⟩ : ByteArray).toList = (⟨t'.toArray⟩ : ByteArray).toList := by rw [toList_ba, toList_ba]; exact h
set_option maxHeartbeats 800000 in
theorem same_some (n : Nat) (r r' : List (TK × Nat)) (hn : r.length = n) (hn' : r'.length = n) (hm : n ≤ 5000) (g g' c c' : Nat) (w : World) (h1 : ∀ j u, (r.flatMap rt)[j]? = some u → w.cell? ⟨g, j, none⟩ = some u) (h2 : ∀ j u, (r'.flatMap rt)[j]? = some u → w.cell? ⟨g', j, none⟩ = some u) :
    Calls Tryd.prog 11 #[.slice (some ⟨g, 0, none⟩) n c, .slice (some ⟨g', 0, none⟩) n c'] w fun e w' => e = .returned (.bool (sameB r r')) ∧ ∃ k, w' = w.drewN k := by
  obtain ⟨B, hB⟩ : ∃ B, sameB r r' = B := ⟨_, rfl⟩
  rw [hB]
  have HB : Hid (sameB r r' = B) := hB
  have H1 : Hid (∀ j u, (r.flatMap rt)[j]? = some u → w.cell? ⟨g, j, none⟩ = some u) := h1
  have H2 : Hid (∀ j u, (r'.flatMap rt)[j]? = some u → w.cell? ⟨g', j, none⟩ = some u) := h2
  have HN : Hid (r.length = n ∧ r'.length = n) := ⟨hn, hn'⟩
  clear hB h1 h2 hn hn'
  go_enter Tryd.func11, Tryd.ntmps11
  go_wp2
  go_loopw [5] (fun i wr => ∃ (j : Nat), j ≤ n ∧ i = .int .i64 (j : Int) ∧ Hid (∃ k, wr = w.drewN k) ∧ Hid (∀ i (h : i < r.length) (h' : i < r'.length), i < j → r[i].1.k = r'[i].1.k ∧ r[i].1.t = r'[i].1.t ∧ r[i].1.n = r'[i].1.n)) (fun i _ => n - (intOf i).toNat)
  case atStart => exact ⟨0, Nat.zero_le _, rfl, ⟨0, rfl⟩, fun i h h' hi => by omega⟩
  case round =>
    obtain ⟨j, hj, rfl, HW, HA⟩ := hrel
    by_cases hlt : j < n
    · have hlti : (j : Int) < (n : Int) := by omega
      have hr : j < r.length := by have := HN.out; omega
      have hr' : j < r'.length := by have := HN.out; omega
      obtain ⟨c0, c1, c2, _⟩ := rt_get r j hr (w := wr) (g := g) (by obtain ⟨k, hk⟩ := HW.out; rw [hk]; exact H1.out)
      obtain ⟨d0, d1, d2, _⟩ := rt_get r' j hr' (w := wr) (g := g') (by obtain ⟨k, hk⟩ := HW.out; rw [hk]; exact H2.out)
      obtain ⟨x, hx⟩ : ∃ x, r[j].1 = x := ⟨_, rfl⟩
      obtain ⟨y, hy⟩ : ∃ y, r'[j].1 = y := ⟨_, rfl⟩
      rw [hx] at c0 c1 c2
      rw [hy] at d0 d1 d2
      have HE : Hid (x.k = y.k ∧ x.t = y.t ∧ x.n = y.n → ∀ i (h : i < r.length) (h' : i < r'.length), i < j + 1 → r[i].1.k = r'[i].1.k ∧ r[i].1.t = r'[i].1.t ∧ r[i].1.n = r'[i].1.n) := fun q i h h' hi => by
        by_cases e : i = j
        · subst e; rw [hx, hy]; exact q
        · exact HA.out i h h' (by omega)
      have HF : Hid (¬ (x.k = y.k ∧ x.t = y.t ∧ x.n = y.n) → B = false) := fun q => by
        rw [← HB.out]
        exact same_at hr hr' (by rw [hx, hy]; exact q)
      generalize r[j].1 = x0 at *
      generalize r'[j].1 = y0 at *
      subst hx hy
      clear HA
      obtain ⟨xk, xt, xn, xz⟩ := x0
      obtain ⟨yk, yt, yn, yz⟩ := y0
      simp only at c0 c1 c2 d0 d1 d2 HE HF
      by_cases q0 : xk = yk
      · subst q0
        by_cases q1 : xt = yt
        · subst q1
          by_cases q2 : xn = yn
          · subst q2
            have HE2 : Hid (∀ i (h : i < r.length) (h' : i < r'.length), i < j + 1 → r[i].1.k = r'[i].1.k ∧ r[i].1.t = r'[i].1.t ∧ r[i].1.n = r'[i].1.n) := HE.out ⟨rfl, rfl, rfl⟩
            clear HE HF
            go_wp2_with fail
            go_quiet (fail)
            have HW2 : Hid (∃ k, wr.drewN nq = w.drewN k) := by
              obtain ⟨k, hk⟩ := HW.out
              exact ⟨k + nq, by rw [hk]; exact World.drewN_drewN _ _ _⟩
            generalize wr.drewN nq = wq at *
            clear c0 c1 c2 d0 d1 d2
            go_wp2_with fail
            go_roundw
            case rel => exact ⟨j + 1, by omega, by go_num, HW2, HE2.out⟩
            case measure => simp [intOf]; omega
          · have b0 : (xn == yn) = false := by simpa using q2
            have b1 : (xn != yn) = true := by simpa using q2
            have HF2 : Hid (B = false) := HF.out (fun q => q2 q.2.2)
            clear HE HF
            go_wp2_with fail
            go_quiet (fail)
            have HW2 : Hid (∃ k, wr.drewN nq = w.drewN k) := by
              obtain ⟨k, hk⟩ := HW.out
              exact ⟨k + nq, by rw [hk]; exact World.drewN_drewN _ _ _⟩
            generalize wr.drewN nq = wq at *
            clear c0 c1 c2 d0 d1 d2
            go_wp2_with fail
            go_ret
            exact ⟨ret_b HF2.out.symm, HW2.out⟩
        · have b0 := t_ne q1
          have HF2 : Hid (B = false) := HF.out (fun q => q1 q.2.1)
          clear HE HF
          go_wp2_with fail
          go_quiet (fail)
          have HW2 : Hid (∃ k, wr.drewN nq = w.drewN k) := by
            obtain ⟨k, hk⟩ := HW.out
            exact ⟨k + nq, by rw [hk]; exact World.drewN_drewN _ _ _⟩
          generalize wr.drewN nq = wq at *
          clear c0 c1 c2 d0 d1 d2
          go_wp2_with fail
          go_ret
          exact ⟨ret_b HF2.out.symm, HW2.out⟩
      · have b0 : (xk == yk) = false := by simpa using q0
        have b1 : (xk != yk) = true := by simpa using q0
        have HF2 : Hid (B = false) := HF.out (fun q => q0 q.1)
        clear HE HF
        go_wp2_with fail
        go_quiet (fail)
        have HW2 : Hid (∃ k, wr.drewN nq = w.drewN k) := by
          obtain ⟨k, hk⟩ := HW.out
          exact ⟨k + nq, by rw [hk]; exact World.drewN_drewN _ _ _⟩
        generalize wr.drewN nq = wq at *
        clear c0 c1 c2 d0 d1 d2
        go_wp2_with fail
        go_ret
        exact ⟨ret_b HF2.out.symm, HW2.out⟩
    · have HB2 : Hid (B = true) := by
        show _ = _
        rw [← HB.out]
        exact same_all (by have := HN.out; omega) (fun i h h' => HA.out i h h' (by have := HN.out; omega))
      have hlti : ¬ (j : Int) < (n : Int) := by omega
      go_wp2_with fail
      go_ret
      exact ⟨ret_b HB2.out.symm, HW.out⟩
theorem same_is {r r' : List (TK × Nat)} {v v' : Value} {w : World} (h : RowT w v r) (h' : RowT w v' r') (hm : r.length ≤ 5000) : Calls Tryd.prog 11 #[v, v'] w fun e w' => e = .returned (.bool (sameB r r')) ∧ ∃ k, w' = w.drewN k := by
  obtain ⟨a, c, rfl, h⟩ := h
  obtain ⟨a', c', rfl, h'⟩ := h'
  by_cases hl : r.length = r'.length
  · rcases h with rfl | ⟨g, rfl, hc⟩
    · have : r' = [] := List.eq_nil_of_length_eq_zero hl.symm
      subst this
      exact (same_none a a' c c' w).mono (fun e w' k => ⟨k.1, 0, k.2⟩)
    · rcases h' with rfl | ⟨g', rfl, hc'⟩
      · have : r = [] := List.eq_nil_of_length_eq_zero hl
        subst this
        exact (same_none _ a' c c' w).mono (fun e w' k => ⟨k.1, 0, k.2⟩)
      · rw [← hl]
        exact same_some r.length r r' rfl hl.symm hm g g' c c' w hc hc'
  · rw [same_len hl]
    exact (same_long r r' (by simp; omega) a a' c c' w).mono (fun e w' k => ⟨k.1, 0, k.2⟩)
end Go.Proofs.YtgokilochbnbaaaDoor
