/- LexBack walked. -/
import Derived.Test.YtgokilochbnbaaaDoorLp
namespace Go.Proofs.YtgokilochbnbaaaDoor
open Go.ChangeShapes Go.WideShapes Go.ChangeAt Go.RowKit
set_option linter.unusedVariables false
set_option maxRecDepth 100000

/-- The cells of a row of tokens, in a block. -/
def Cells (w : World) (g : Nat) (r : List (TK × Nat)) : Prop := ∀ j u, (r.flatMap rt)[j]? = some u → w.cell? ⟨g, j, none⟩ = some u
theorem Cells.next {w w' : World} {g : Nat} {r : List (TK × Nat)} (h : Cells w g r) (k : Below w.heap.size w w') : Cells w' g r := fun j u hu => (k.cell (p := ⟨g, j, none⟩) (World.block_lt_of_cell? w _ (h j u hu))).trans (h j u hu)
abbrev fullR (l : List UInt8) (ts : List (TK × Nat)) : List (TK × Nat) := ts ++ [(endT, l.length)]
theorem tokens_has (s : ByteArray) {ts : List (TK × Nat)} (h : HasT s.data.toList ts) (w : World) (hg : Glob w) :
    Calls Tryd.prog 9 #[.string s] w fun e w' => ∃ g c, e = .returned (.tuple #[.slice (some ⟨g, 0, none⟩) (fullR s.data.toList ts).length c, .int .i64 0, .int .i64 0]) ∧ Cells w' g (fullR s.data.toList ts) ∧ Below w.heap.size w w' := by
  refine (tokens_is s w hg).mono ?_
  rintro e w' ⟨v, rfl, o, k⟩
  rw [h.eq] at o ⊢
  obtain ⟨g, c, rfl, hc, _⟩ := OwnT.cells o (by simp)
  exact ⟨g, c, rfl, hc, k⟩
theorem tokens_not (s : ByteArray) (h1 : (tokV s.data.toList).1 = []) (w : World) (hg : Glob w) :
    Calls Tryd.prog 9 #[.string s] w fun e w' => ∃ a c, e = .returned (.tuple #[.slice a 0 c, .int .i64 (tokV s.data.toList).2.1, .int .i64 (tokV s.data.toList).2.2]) ∧ Below w.heap.size w w' := by
  refine (tokens_is s w hg).mono ?_
  rintro e w' ⟨v, rfl, o, k⟩
  rw [h1] at o
  obtain ⟨a, c, rfl, _⟩ := o.row
  exact ⟨a, c, rfl, k⟩
theorem drewN_below (w : World) (k : Nat) : Below w.heap.size w (w.drewN k) := ⟨rfl, rfl, rfl, Nat.le_refl _, fun _ _ => rfl⟩
def AwkC : Prop := ∀ w, Glob w → Calls Tryd.prog 8 #[] w fun e w' => e = .returned (.bool true) ∧ Below w.heap.size w w'
theorem awk_c : AwkC := fun w hg => awake_is w hg
/-! ### LexBack -/
theorem back_long (s : ByteArray) (h : 512 < (s.size : Int)) (w : World) (hg : Glob w) : Calls Tryd.prog 5 #[.string s] w fun e w' => e = .returned (.bool true) ∧ Below w.heap.size w w' := by
  have HA : Hid AwkC := awk_c
  have HG : Hid (Glob w) := hg
  clear hg
  go_enter Tryd.func5, Tryd.ntmps5
  go_wp2_with fail
  refine Calls.mono (HA.out _ HG.out) ?_; rintro e w1 ⟨rfl, k1⟩
  have HK : Hid (Below w.heap.size w w1) := k1
  clear k1
  go_wp2_with fail
  go_ret
  exact ⟨rfl, HK.out⟩
theorem back_none (s : ByteArray) (h : ¬ 512 < (s.size : Int)) (p e0 : Int) (he : (e0 != 0) = true) (H : Hid (∀ w, Glob w → Calls Tryd.prog 9 #[.string s] w fun e w' => ∃ a c, e = .returned (.tuple #[.slice a 0 c, .int .i64 p, .int .i64 e0]) ∧ Below w.heap.size w w')) (w : World) (hg : Glob w) :
    Calls Tryd.prog 5 #[.string s] w fun e w' => e = .returned (.bool true) ∧ Below w.heap.size w w' := by
  have HA : Hid AwkC := awk_c
  have HG : Hid (Glob w) := hg
  clear hg
  go_enter Tryd.func5, Tryd.ntmps5
  go_wp2_with fail
  refine Calls.mono (H.out _ HG.out) ?_; rintro e w1 ⟨a, c, rfl, k1⟩
  have HK : Hid (Below w.heap.size w w1) := k1
  have HG1 : Hid (Glob w1) := HG.out.next k1
  clear k1
  go_wp2_with fail
  refine Calls.mono (HA.out _ HG1.out) ?_; rintro e w2 ⟨rfl, k2⟩
  have HK2 : Hid (Below w.heap.size w w2) := Below.next HK.out k2
  clear k2
  go_wp2_with fail
  go_ret
  exact ⟨rfl, HK2.out⟩
theorem back_some (s D : ByteArray) (h : ¬ 512 < (s.size : Int)) (r r' : List (TK × Nat)) (n n' : Nat) (hn : ((n : Int) == 0) = false) (hD : ¬ 4096 < (D.size : Int))
    (H1 : Hid (∀ w, Glob w → Calls Tryd.prog 9 #[.string s] w fun e w' => ∃ g c, e = .returned (.tuple #[.slice (some ⟨g, 0, none⟩) n c, .int .i64 0, .int .i64 0]) ∧ Cells w' g r ∧ Below w.heap.size w w'))
    (H2 : Hid (∀ w g c, Glob w → Cells w g r → Calls Tryd.prog 18 #[.slice (some ⟨g, 0, none⟩) n c, .string ⟨#[32]⟩] w fun e w' => e = .returned (.string D) ∧ Below w.heap.size w w'))
    (H3 : Hid (∀ w, Glob w → Calls Tryd.prog 9 #[.string D] w fun e w' => ∃ g c, e = .returned (.tuple #[.slice (some ⟨g, 0, none⟩) n' c, .int .i64 0, .int .i64 0]) ∧ Cells w' g r' ∧ Below w.heap.size w w'))
    (H4 : Hid (∀ w g c g' c', Cells w g r → Cells w g' r' → Calls Tryd.prog 11 #[.slice (some ⟨g, 0, none⟩) n c, .slice (some ⟨g', 0, none⟩) n' c'] w fun e w' => e = .returned (.bool true) ∧ Below w.heap.size w w')) (w : World) (hg : Glob w) :
    Calls Tryd.prog 5 #[.string s] w fun e w' => e = .returned (.bool true) ∧ Below w.heap.size w w' := by
  have HA : Hid AwkC := awk_c
  have HG : Hid (Glob w) := hg
  clear hg
  go_enter Tryd.func5, Tryd.ntmps5
  go_wp2_with fail
  refine Calls.mono (H1.out _ HG.out) ?_; rintro e w1 ⟨g, c, rfl, hc, k1⟩
  have HK : Hid (Below w.heap.size w w1) := k1
  have HG1 : Hid (Glob w1) := HG.out.next k1
  have HC : Hid (Cells w1 g r) := hc
  clear k1 hc
  go_wp2_with fail
  refine Calls.mono (H2.out _ _ _ HG1.out HC.out) ?_; rintro e w2 ⟨rfl, k2⟩
  have HK2 : Hid (Below w.heap.size w w2) := Below.next HK.out k2
  have HG2 : Hid (Glob w2) := HG1.out.next k2
  have HC2 : Hid (Cells w2 g r) := HC.out.next k2
  clear k2
  go_wp2_with fail
  refine Calls.mono (H3.out _ HG2.out) ?_; rintro e w3 ⟨g', c', rfl, hc', k3⟩
  have HK3 : Hid (Below w.heap.size w w3) := Below.next HK2.out k3
  have HG3 : Hid (Glob w3) := HG2.out.next k3
  have HC3 : Hid (Cells w3 g r) := HC2.out.next k3
  have HC3' : Hid (Cells w3 g' r') := hc'
  clear k3 hc'
  go_wp2_with fail
  refine Calls.mono (H4.out _ _ _ _ _ HC3.out HC3'.out) ?_; rintro e w4 ⟨rfl, k4⟩
  have HK4 : Hid (Below w.heap.size w w4) := Below.next HK3.out k4
  have HG4 : Hid (Glob w4) := HG3.out.next k4
  clear k4
  go_wp2_with fail
  refine Calls.mono (HA.out _ HG4.out) ?_; rintro e w5 ⟨rfl, k5⟩
  have HK5 : Hid (Below w.heap.size w w5) := Below.next HK4.out k5
  clear k5
  go_wp2_with fail
  go_ret
  exact ⟨rfl, HK5.out⟩
theorem back_full (s D : ByteArray) (h : ¬ 512 < (s.size : Int)) (r : List (TK × Nat)) (n : Nat) (hn : ((n : Int) == 0) = false) (hD : 4096 < (D.size : Int))
    (H1 : Hid (∀ w, Glob w → Calls Tryd.prog 9 #[.string s] w fun e w' => ∃ g c, e = .returned (.tuple #[.slice (some ⟨g, 0, none⟩) n c, .int .i64 0, .int .i64 0]) ∧ Cells w' g r ∧ Below w.heap.size w w'))
    (H2 : Hid (∀ w g c, Glob w → Cells w g r → Calls Tryd.prog 18 #[.slice (some ⟨g, 0, none⟩) n c, .string ⟨#[32]⟩] w fun e w' => e = .returned (.string D) ∧ Below w.heap.size w w'))
    (H3 : Hid (∀ w, Glob w → Calls Tryd.prog 9 #[.string D] w fun e w' => ∃ a c, e = .returned (.tuple #[.slice a 0 c, .int .i64 0, .int .i64 2]) ∧ Below w.heap.size w w')) (w : World) (hg : Glob w) :
    Calls Tryd.prog 5 #[.string s] w fun e w' => e = .returned (.bool true) ∧ Below w.heap.size w w' := by
  have HA : Hid AwkC := awk_c
  have HG : Hid (Glob w) := hg
  clear hg
  go_enter Tryd.func5, Tryd.ntmps5
  go_wp2_with fail
  refine Calls.mono (H1.out _ HG.out) ?_; rintro e w1 ⟨g, c, rfl, hc, k1⟩
  have HK : Hid (Below w.heap.size w w1) := k1
  have HG1 : Hid (Glob w1) := HG.out.next k1
  have HC : Hid (Cells w1 g r) := hc
  clear k1 hc
  go_wp2_with fail
  refine Calls.mono (H2.out _ _ _ HG1.out HC.out) ?_; rintro e w2 ⟨rfl, k2⟩
  have HK2 : Hid (Below w.heap.size w w2) := Below.next HK.out k2
  have HG2 : Hid (Glob w2) := HG1.out.next k2
  clear k2
  go_wp2_with fail
  refine Calls.mono (H3.out _ HG2.out) ?_; rintro e w3 ⟨a', c', rfl, k3⟩
  have HK3 : Hid (Below w.heap.size w w3) := Below.next HK2.out k3
  have HG3 : Hid (Glob w3) := HG2.out.next k3
  clear k3
  go_wp2_with fail
  refine Calls.mono (HA.out _ HG3.out) ?_; rintro e w5 ⟨rfl, k5⟩
  have HK5 : Hid (Below w.heap.size w w5) := Below.next HK3.out k5
  clear k5
  go_wp2_with fail
  go_ret
  exact ⟨rfl, HK5.out⟩
theorem put_c {l : List UInt8} {ts : List (TK × Nat)} (h : HasT l ts) (hl : l.length ≤ 512) (b : ByteArray) (hb : b.size ≤ 100) (w : World) (g c : Nat) (hg : Glob w) (hc : Cells w g (fullR l ts)) :
    Calls Tryd.prog 18 #[.slice (some ⟨g, 0, none⟩) (fullR l ts).length c, .string b] w fun e w' => e = .returned (.string ⟨(catL b.data.toList (fullR l ts)).toArray⟩) ∧ Below w.heap.size w w' :=
  put_all (fullR l ts).length (fullR l ts) rfl (by have := h.len; simp; omega) (h.fine _) b hb g c w hg hc
theorem same_c {r r' : List (TK × Nat)} (hs : sameB r r' = true) (hr : r.length ≤ 5000) (w : World) (g c g' c' : Nat) (h : Cells w g r) (h' : Cells w g' r') :
    Calls Tryd.prog 11 #[.slice (some ⟨g, 0, none⟩) r.length c, .slice (some ⟨g', 0, none⟩) r'.length c'] w fun e w' => e = .returned (.bool true) ∧ Below w.heap.size w w' := by
  refine (same_is (w := w) ⟨_, c, rfl, .inr ⟨g, rfl, h⟩⟩ ⟨_, c', rfl, .inr ⟨g', rfl, h'⟩⟩ hr).mono ?_
  rintro e w' ⟨rfl, k, rfl⟩
  exact ⟨by rw [hs], drewN_below w k⟩
theorem walk_back (s : ByteArray) (w : World) (hg : Glob w) : Calls Tryd.prog 5 #[.string s] w fun e w' => e = .returned (.bool true) ∧ Below w.heap.size w w' := by
  by_cases h : 512 < s.size
  · exact back_long s (by omega) w hg
  · rcases tokV_cases s.data.toList with ⟨ts, ht⟩ | ⟨h1, h2⟩
    · have hl : s.data.toList.length ≤ 512 := by rw [len_of]; omega
      have hn : (((fullR s.data.toList ts).length : Int) == 0) = false := by simp; omega
      have hlen := ht.len
      by_cases hD : (catL [32] (fullR s.data.toList ts)).length ≤ 4096
      · obtain ⟨us, hu, hs⟩ := again ht sep_nil hD
        have e : (⟨(catL [32] (fullR s.data.toList ts)).toArray⟩ : ByteArray).data.toList = catL [32] (fullR s.data.toList ts) := by simp
        refine back_some s ⟨(catL [32] (fullR s.data.toList ts)).toArray⟩ (by omega) (fullR s.data.toList ts) (fullR (catL [32] (fullR s.data.toList ts)) us) _ _ hn (by rw [size_ba]; omega) (fun w hg => tokens_has s ht w hg)
          (fun w g c hg hc => put_c ht hl ⟨#[32]⟩ (by decide) w g c hg hc) (fun w hg => ?_) (fun w g c g' c' hc hc' => same_c hs (by simp; omega) w g c g' c' hc hc') w hg
        exact tokens_has ⟨(catL [32] (fullR s.data.toList ts)).toArray⟩ hu w hg
      · refine back_full s ⟨(catL [32] (fullR s.data.toList ts)).toArray⟩ (by omega) (fullR s.data.toList ts) _ hn (by rw [size_ba]; omega) (fun w hg => tokens_has s ht w hg)
          (fun w g c hg hc => put_c ht hl ⟨#[32]⟩ (by decide) w g c hg hc) (fun w hg => ?_) w hg
        have e := too_long (l := catL [32] (fullR s.data.toList ts)) (by omega)
        have := tokens_not ⟨(catL [32] (fullR s.data.toList ts)).toArray⟩ (by show (tokV (catL [32] (fullR s.data.toList ts))).1 = []; rw [e]) w hg
        refine this.mono ?_
        rintro e' w' ⟨a, c, rfl, k⟩
        refine ⟨a, c, ?_, k⟩
        show Ending.returned (.tuple #[_, .int .i64 (tokV (catL [32] (fullR s.data.toList ts))).2.1, .int .i64 (tokV (catL [32] (fullR s.data.toList ts))).2.2]) = _
        rw [e]
    · exact back_none s (by omega) _ _ (by simpa using h2) (fun w hg => tokens_not s h1 w hg) w hg
end Go.Proofs.YtgokilochbnbaaaDoor
