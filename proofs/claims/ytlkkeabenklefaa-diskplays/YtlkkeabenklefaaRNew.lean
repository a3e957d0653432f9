/- The document's disk: New. -/
import Derived.Test.YtlkkeabenklefaaRRead
namespace Go.Proofs.Ytlkkeabenklefaa
open Go.ChangeShapes Go.WideShapes Go.ChangeAt Go.RowKit
set_option linter.unusedVariables false

theorem ref_new_no (x : Int) (hx : x < 1 ∨ 4096 < x) (w : World) : Calls Try.prog 8 #[.int .i64 x] w fun e w' =>
    e = .returned (.tuple #[.agg #[.slice none 0 0, .slice none 0 0, .int .i64 0, .bool false], .int .i64 1]) ∧ Kept (fun _ => False) w w' := by
  by_cases h1 : x < 1
  · go_enter Try.func8, Try.ntmps8
    go_wp2_with fail
    refine bodyPost_ret (end_cell_tmp rfl rfl (load30 (by simp [go_sem]; rfl) (by simp [go_sem]; rfl) (by simp [go_sem]; rfl) (by simp [go_sem]; rfl))) rfl ?_
    exact ⟨rfl, (Kept.refl _ w).alloc _⟩
  · have h2 : 4096 < x := hx.resolve_left h1
    go_enter Try.func8, Try.ntmps8
    go_wp2_with fail
    refine bodyPost_ret (end_cell_tmp rfl rfl (load30 (by simp [go_sem]; rfl) (by simp [go_sem]; rfl) (by simp [go_sem]; rfl) (by simp [go_sem]; rfl))) rfl ?_
    exact ⟨rfl, (Kept.refl _ w).alloc _⟩

/-- The first i of n texts are sectors of noughts. -/
def made (n i : Nat) : List ByteArray := List.replicate i (fill 0) ++ List.replicate (n - i) ⟨#[]⟩
theorem made_len (n i : Nat) (h : i ≤ n) : (made n i).length = n := by unfold made; simp; omega
theorem made_step (n i : Nat) (h : i < n) : (made n i).set i (fill 0) = made n (i + 1) := by
  unfold made
  rw [List.set_append_right _ _ (by simp), List.length_replicate, Nat.sub_self, show n - i = (n - (i + 1)) + 1 by omega, List.replicate_succ, List.set_cons_zero, List.replicate_succ', List.append_assoc]
  rfl
theorem fill_zero : (⟨(List.replicate 32 0).toArray⟩ : ByteArray) = fill 0 := rfl

theorem ref_new {w : World} (n : Nat) (h1 : 1 ≤ n) (h2 : n ≤ 4096) : Calls Try.prog 8 #[.int .i64 (n : Int)] w fun e w' =>
    ∃ b, e = .returned (.tuple #[.agg #[.slice (some ⟨b, 0, none⟩) n n, .slice none 0 0, .int .i64 (-1), .bool false], .int .i64 0]) ∧ w'.ownsRow w.heap.size 9 1 (.slice (some ⟨b, 0, none⟩) n n) n (sv (made n n)) ∧ Kept (fun _ => False) w w' := by
  obtain ⟨W, hW⟩ : ∃ W, W = w.alloc (.cells #[.slice none 0 0, .slice none 0 0, .int .i64 0, .bool false] 30) := ⟨_, rfl⟩
  have kW : Kept (fun _ => False) w W := by rw [hW]; exact (Kept.refl _ w).alloc _
  have sW : W.heap.size = w.heap.size + 1 := by rw [hW]; simp
  obtain ⟨i, hi, hz, hs1, hs2⟩ := info_of Try.info9
  obtain ⟨V, hmk, hown, hg⟩ := run_make_full (P := Try.prog) W (w.heap.size + 1) 27 9 i _ 1 Try.underlying27 hi hz hs1 .i64 .i64 n (by rw [hs2]; omega) (by unfold maxLen; omega) (by omega)
  have kV : Kept (fun _ => False) W V := (Kept.refl _ W).grown hg (fun k hk => by cases hk)
  have hown' : V.ownsRow (w.heap.size + 1) 9 1 (.slice (some ⟨W.heap.size, 0, none⟩) n n) n (sv (made n 0)) := by
    have e : (madeCells (Value.cells (.string ⟨#[]⟩)) (n * 1)).toList = sv (made n 0) := by
      rw [show Value.cells (.string ⟨#[]⟩) = #[.string ⟨#[]⟩] from rfl, toList_madeCells_one]
      simp [sv, made]
    rw [← e]
    exact hown
  rw [sW] at hown' hmk
  rw [hW] at hmk
  obtain ⟨N, hN⟩ : ∃ N, w.heap.size = N := ⟨_, rfl⟩
  have HIn : Hid (∀ wr j, j < n → wr.ownsRow (N + 1) 9 1 (.slice (some ⟨N + 1, 0, none⟩) n n) n (sv (made n j)) → ∃ W1 : World, (Instr.makeSlice 59 (.int .i64 32) (.int .i64 32)).run Try.prog wr = .ok (.slice (some ⟨wr.heap.size, 0, none⟩) 32 32) W1 ∧ (convert 59 9 (.slice (some ⟨wr.heap.size, 0, none⟩) 32 32)).run Try.prog W1 = .ok (.string (fill 0)) W1 ∧
      W1.cell? ⟨N + 1, j, none⟩ = some (.string ⟨#[]⟩) ∧ W1.frozen? ⟨N + 1, j, none⟩ = false ∧ Kept (fun i => i = N + 1) wr (W1.setCell ⟨N + 1, j, none⟩ (.string (fill 0))) ∧ (W1.setCell ⟨N + 1, j, none⟩ (.string (fill 0))).ownsRow (N + 1) 9 1 (.slice (some ⟨N + 1, 0, none⟩) n n) n (sv (made n (j + 1)))) := by
    intro wr j hj ho
    obtain ⟨W1, m1, m2, m3, m4⟩ := make_row 32 (by omega) wr
    have ho1 : W1.ownsRow (N + 1) 9 1 (.slice (some ⟨N + 1, 0, none⟩) n n) n (sv (made n j)) := ownsRow_kept ho (fun i hi => m3.block i (ho.lt i hi).2 (fun q => q))
    refine ⟨W1, m1, row_text m2 32 32 (by simp), ?_, ho1.frozenAt j, (m3.mono (F' := fun i => i = N + 1) (fun _ q => q.elim)).setCell (p := ⟨N + 1, j, none⟩) (.inl rfl) _, ?_⟩
    · rw [ho1.cellAt j (by omega)]
      simp [sv, made]
      rw [List.getElem?_append_right (by simp), List.length_replicate, Nat.sub_self, List.getElem?_replicate, if_pos (by omega)]
    · have := (ho1.stored j (.string (fill 0))).1
      rw [show (sv (made n j)).set j (.string (fill 0)) = sv (made n (j + 1)) by rw [← made_step n j hj]; simp [sv, List.map_set]] at this
      exact this
  have H0 : Hid (V.ownsRow (N + 1) 9 1 (.slice (some ⟨N + 1, 0, none⟩) n n) n (sv (made n 0)) ∧ Kept (fun i => i = N + 1) W V) := by rw [← hN]; exact ⟨hown', kV.mono (fun _ q => q.elim)⟩
  have HW : Hid (Kept (fun _ => False) w W ∧ W.heap.size = N + 1 ∧ (∀ V : World, Kept (fun i => i = N + 1) W V → V.cell? ⟨N, 0, none⟩ = some (.slice none 0 0) ∧ V.cell? ⟨N, 1, none⟩ = some (.slice none 0 0) ∧ V.cell? ⟨N, 2, none⟩ = some (.int .i64 0) ∧ V.cell? ⟨N, 3, none⟩ = some (.bool false) ∧ ∀ j, V.frozen? ⟨N, j, none⟩ = false)) := by
    refine ⟨kW, by omega, fun V kV => ?_⟩
    have hc : ∀ j x, W.cell? ⟨N, j, none⟩ = some x → V.cell? ⟨N, j, none⟩ = some x := fun j x h => kV.cell h (by simp)
    refine ⟨hc _ _ ?_, hc _ _ ?_, hc _ _ ?_, hc _ _ ?_, fun j => (World.frozen?_of_block (w := W) (a := ⟨N, j, none⟩) (kV.block N (by omega) (by simp))).trans ?_⟩ <;> (rw [hW, ← hN]; simp [go_sem])
  clear hown hown' hg kV kW sW hW hi hz hs1 hs2 i
  have g1 : ¬ (n : Int) < 1 := by omega
  have g2 : ¬ 4096 < (n : Int) := by omega
  rw [hN] at hmk
  have HN := (show Hid _ from hN)
  clear hN
  go_enter Try.func8, Try.ntmps8
  rw [HN.out]
  go_wp2_with fail
  go_loopw [5] (fun i wr => ∃ j : Nat, j ≤ n ∧ i = .int .i64 j ∧ Hid (wr.ownsRow (N + 1) 9 1 (.slice (some ⟨N + 1, 0, none⟩) n n) n (sv (made n j)) ∧ Kept (fun i => i = N + 1) W wr))
    (fun i _ => n - (intOf i).toNat)
  case atStart => exact ⟨0, Nat.zero_le _, rfl, H0.out⟩
  case round =>
    obtain ⟨j, hj, rfl, HR⟩ := hrel
    clear hmk H0
    by_cases hjn : j < n
    · have hji : (j : Int) < (n : Int) := by omega
      obtain ⟨W1, m1, m2, m3, m4, m5, m6⟩ := HIn.out wr j hjn HR.out.1
      have HR2 : Hid ((W1.setCell ⟨N + 1, j, none⟩ (.string (fill 0))).ownsRow (N + 1) 9 1 (.slice (some ⟨N + 1, 0, none⟩) n n) n (sv (made n (j + 1))) ∧ Kept (fun i => i = N + 1) W (W1.setCell ⟨N + 1, j, none⟩ (.string (fill 0)))) := ⟨m6, HR.out.2.trans m5 (fun _ q => .inl q)⟩
      clear m5 m6 HR HIn
      generalize fill 0 = z at *
      go_wp2_with fail
      go_roundw
      case rel => exact ⟨j + 1, by omega, by go_num, HR2.out⟩
      case measure => simp [intOf]; omega
    · have hji : ¬ (j : Int) < (n : Int) := by omega
      have ej : j = n := by omega
      subst ej
      obtain rfl := HN.out
      obtain ⟨p0, p1, p2, p3, pf⟩ := HW.out.2.2 wr HR.out.2
      go_wp2_with fail
      try simp only [Exit.inBlock, Exit.then]
      refine bodyPost_ret (end_cell_tmp rfl rfl (load30 (by simp [go_sem, p0]; rfl) (by simp [go_sem, p1]; rfl) (by simp [go_sem, p2]; rfl) (by simp [go_sem, p3]; rfl))) rfl ?_
      have kf := (((((Kept.refl (fun i => i = w.heap.size) wr).setCell (p := ⟨w.heap.size, 0, none⟩) (.inl rfl) (.slice (some ⟨w.heap.size + 1, 0, none⟩) j j)).setCell (p := ⟨w.heap.size, 1, none⟩) (.inl rfl) (.slice none 0 0)).setCell (p := ⟨w.heap.size, 2, none⟩) (.inl rfl) (.int .i64 (-1))).setCell (p := ⟨w.heap.size, 3, none⟩) (.inl rfl) (.bool false))
      obtain ⟨h1, h2⟩ := HR.out
      refine ⟨w.heap.size + 1, rfl, ?_, (HW.out.1.trans h2 (fun i hi => .inr (by omega))).trans kf (fun i hi => .inr (by omega))⟩
      exact own_weak (ownsRow_kept h1 (fun i hi => kf.block i (h1.lt i hi).2 (fun q => by have := (h1.lt i hi).1; omega))) (by omega)
end Go.Proofs.Ytlkkeabenklefaa
