/- What must come, whatever the arguments are. -/
import Derived.Test.YtgokilochbnbaaaDoorPu
namespace Go.Proofs.YtgokilochbnbaaaDoor
open Go.ChangeShapes Go.WideShapes Go.ChangeAt Go.RowKit
set_option linter.unusedVariables false
set_option maxRecDepth 100000

theorem tokens_is (s : ByteArray) (w : World) (hg : Glob w) : Calls Tryd.prog 9 #[.string s] w fun e w' => TokR w w' s.data.toList e := by
  by_cases h : s.size ≤ 4096
  · exact tokens_some s h w hg
  · exact tokens_full s (by omega) w
/-- The cells of a row that has something. -/
theorem OwnT.cells {w : World} {B : Nat} {v : Value} {r : List (TK × Nat)} (h : OwnT w B v r) (hr : r ≠ []) : ∃ g c, v = .slice (some ⟨g, 0, none⟩) r.length c ∧ (∀ j u, (r.flatMap rt)[j]? = some u → w.cell? ⟨g, j, none⟩ = some u) ∧ B ≤ g ∧ g < w.heap.size := by
  have h0 : r.length ≠ 0 := fun e => hr (List.eq_nil_of_length_eq_zero e)
  obtain ⟨g, c, rfl⟩ : ∃ g c, v = .slice (some ⟨g, 0, none⟩) r.length c := by
    rcases h.2 with ⟨_, e⟩ | ⟨g, cap, cur, rfl, _⟩
    · exact absurd e h0
    · exact ⟨g, cap, rfl⟩
  refine ⟨g, c, rfl, fun j u hu => ?_, World.ownsRow.lt h g rfl⟩
  have hj : j < (r.flatMap rt).length := (List.getElem?_eq_some_iff.1 hu).1
  rw [World.ownsRow.cellAt h j (by rw [rt_len] at hj; omega)]
  exact hu
def awkT : List (TK × Nat) := [(⟨2, [83, 69, 76, 69, 67, 84], 0, 6⟩, 0), (⟨1, [97], 0, 1⟩, 7), (⟨5, [46], 0, 1⟩, 8), (⟨1, [98], 0, 1⟩, 9), (⟨5, [62, 61], 0, 2⟩, 11), (⟨3, [], 3, 1⟩, 14), (⟨0, [], 0, 0⟩, 20)]
theorem awk_tok : tokV [115, 101, 108, 101, 99, 116, 32, 97, 46, 98, 32, 62, 61, 32, 51, 32, 45, 45, 32, 120] = (awkT, 0, 0) := by decide +kernel
theorem awk_word : wordB [97] = true := by decide +kernel
theorem awk_put : putV 1 [102, 114, 111, 109] 0 = [34, 102, 114, 111, 109, 34] := by decide +kernel
theorem awk_key : keyB [70, 82, 79, 77] = true := by decide +kernel
set_option maxHeartbeats 1000000 in
theorem awake_is (w : World) (hg : Glob w) : Calls Tryd.prog 8 #[] w fun e w' => e = .returned (.bool true) ∧ Below w.heap.size w w' := by
  have HG : Hid (Glob w) := hg
  have HT : Hid (∀ w, Glob w → Calls Tryd.prog 9 #[.string ⟨#[115, 101, 108, 101, 99, 116, 32, 97, 46, 98, 32, 62, 61, 32, 51, 32, 45, 45, 32, 120]⟩] w fun e w' => ∃ g c, e = .returned (.tuple #[.slice (some ⟨g, 0, none⟩) 7 c, .int .i64 0, .int .i64 0]) ∧ (∀ j u, (awkT.flatMap rt)[j]? = some u → w'.cell? ⟨g, j, none⟩ = some u) ∧ Below w.heap.size w w') := fun w hg => by
    refine (tokens_is ⟨#[115, 101, 108, 101, 99, 116, 32, 97, 46, 98, 32, 62, 61, 32, 51, 32, 45, 45, 32, 120]⟩ w hg).mono ?_
    rintro e w' ⟨v, rfl, o, k⟩
    have e1 : tokV (⟨#[115, 101, 108, 101, 99, 116, 32, 97, 46, 98, 32, 62, 61, 32, 51, 32, 45, 45, 32, 120]⟩ : ByteArray).data.toList = (awkT, 0, 0) := awk_tok
    rw [e1] at o ⊢
    obtain ⟨g, c, rfl, hc, _⟩ := o.cells (by simp [awkT])
    exact ⟨g, c, rfl, hc, k⟩
  have HK : Hid (∀ w, Calls Tryd.prog 14 #[.string ⟨#[70, 82, 79, 77]⟩] w fun e w' => e = .returned (.bool true) ∧ w' = w) := fun w => by
    have := key_is ⟨#[70, 82, 79, 77]⟩ w
    rw [ByteArray.toList_eq] at this
    exact awk_key ▸ this
  have HW : Hid (∀ w, Glob w → Calls Tryd.prog 16 #[.string ⟨#[97]⟩] w fun e w' => e = .returned (.bool true) ∧ Below w.heap.size w w') := fun w hg => awk_word ▸ word_is' ⟨#[97]⟩ (by decide) w hg
  have HP : Hid (∀ w, Glob w → Calls Tryd.prog 12 #[tv 1 ⟨#[102, 114, 111, 109]⟩ 0 0] w fun e w' => e = .returned (.string ⟨#[34, 102, 114, 111, 109, 34]⟩) ∧ Below w.heap.size w w') := fun w hg => by
    have := put_is ⟨#[102, 114, 111, 109]⟩ (by decide) 1 0 0 (by omega) w hg
    have e1 : putV 1 (⟨#[102, 114, 111, 109]⟩ : ByteArray).data.toList 0 = [34, 102, 114, 111, 109, 34] := awk_put
    rw [e1] at this
    exact this
  clear hg
  go_enter Tryd.func8, Tryd.ntmps8
  go_wp2_with fail
  refine Calls.mono (HT.out _ HG.out) ?_; rintro e w1 ⟨g, c, rfl, hc, k1⟩
  have HB : Hid (Below w.heap.size w w1) := k1
  have HG1 : Hid (Glob w1) := HG.out.next k1
  have c0 := hc 0 _ rfl
  have c1 := hc 1 _ rfl
  have c2 := hc 2 _ rfl
  have c3 := hc 3 _ rfl
  have c4 := hc 4 _ rfl
  have c5 := hc 5 _ rfl
  have c6 := hc 6 _ rfl
  have c7 := hc 7 _ rfl
  have c17 := hc 17 _ rfl
  have c22 := hc 22 _ rfl
  have c27 := hc 27 _ rfl
  clear hc k1
  go_wp2_with fail
  refine Calls.mono (HK.out _) ?_; rintro e w2 ⟨rfl, rfl⟩
  go_wp2_with fail
  refine Calls.mono (HW.out _ HG1.out) ?_; rintro e w3 ⟨rfl, k3⟩
  have HB3 : Hid (Below w.heap.size w w3) := Below.next HB.out k3
  have HG3 : Hid (Glob w3) := HG1.out.next k3
  clear k3
  go_wp2_with fail
  refine Calls.mono (HP.out _ HG3.out) ?_; rintro e w4 ⟨rfl, k4⟩
  have HB4 : Hid (Below w.heap.size w w4) := Below.next HB3.out k4
  clear k4
  go_wp2_with fail
  go_ret
  exact ⟨rfl, HB4.out⟩
end Go.Proofs.YtgokilochbnbaaaDoor
