/- New. -/
import Derived.Test.YtbjijacpgklegaaRead
import Derived.Laws.MakeOwn
namespace Go.Proofs.Ytbjijacpgklegaa
open Go.ChangeShapes Go.WideShapes Go.ChangeAt Go.RowKit
set_option linter.unusedVariables false
set_option maxRecDepth 100000

theorem Try.info101 : (Try.prog.info? 101).map (fun i => (i.zero, i.size, i.bytes)) = some (some (.agg (Array.replicate 32 (.int .u8 0))), 32, 32) := by kernel_rfl

theorem make_secs (n : Nat) (hn : n ≤ 4096) : ∃ Z : Array Value, (∀ w, (Instr.makeSlice 66 (.int .i64 n) (.int .i64 n)).run Try.prog w = .ok (.slice (some ⟨w.heap.size, 0, none⟩) n n) (w.alloc (.cells Z 101))) ∧
    ∀ j, j < n * 32 → Z[j]? = some (.int .u8 0) := by
  obtain ⟨i, hi, hz, h1, h2⟩ : ∃ i, Try.prog.info? 101 = some i ∧ i.zero = some (.agg (Array.replicate 32 (.int .u8 0))) ∧ i.size = 32 ∧ i.bytes = 32 := by
    have h := Try.info101
    cases hi : Try.prog.info? 101 with
    | none => rw [hi] at h; cases h
    | some i =>
      rw [hi] at h
      simp only [Option.map_some, Option.some.injEq, Prod.mk.injEq] at h
      exact ⟨i, rfl, h⟩
  refine ⟨madeCells (Array.replicate 32 (.int .u8 0)) (n * 32), fun w => ?_, fun j hj => ?_⟩
  · have hr := run_make (P := Try.prog) w 66 101 i _ Try.underlying66 hi hz .i64 .i64 n n (by omega) (Int.le_refl _) (by rw [h2]; omega) (by omega)
    rw [Int.toNat_natCast, h1] at hr
    exact hr
  · unfold madeCells
    rw [Array.getElem?_map, Array.getElem?_eq_getElem (by simpa using hj)]
    have hm : j % 32 < 32 := Nat.mod_lt _ (by omega)
    simp [hm]

theorem new_no (n : Int) (w : World) (h : ¬ (1 ≤ n ∧ n ≤ 4096)) : Calls Try.prog 14 #[.int .i64 n] w fun e w' => e = .returned (.tuple #[.pointer none, .int .i64 1]) ∧ w' = w := by
  by_cases c : n < 1
  · go_enter Try.func14, Try.ntmps14
    go_wp2
    go_ret2
    exact ⟨rfl, rfl⟩
  · have c' : 4096 < n := by omega
    go_enter Try.func14, Try.ntmps14
    go_wp2
    go_ret2
    exact ⟨rfl, rfl⟩

/-- A disk as it is made. -/
def fresh (n : Nat) : Dk := { n := n, S := fun _ => List.replicate 32 0, Q := [], fuse := -1, off := false }

theorem fresh_lies (n : Nat) (h1 : 1 ≤ n) (h2 : n ≤ 4096) (w : World) (Z : Array Value) (hZ : ∀ j, j < n * 32 → Z[j]? = some (.int .u8 0)) (bs bl : Nat)
    (hb : (bs = w.heap.size ∧ bl = w.heap.size + 1) ∨ (bl = w.heap.size ∧ bs = w.heap.size + 1)) :
    ∃ F, Disk (((w.alloc (.cells Z 101)).alloc (.cells Z 101)).alloc (.cells #[.slice (some ⟨bs, 0, none⟩) n n, .slice (some ⟨bl, 0, none⟩) n n, .slice none 0 0, .int .i64 (-1), .bool false] 69)).drew F (w.heap.size + 1 + 1) (fresh n) ∧
      ∀ k, F k → w.heap.size ≤ k := by
  generalize hC : (#[.slice (some ⟨bs, 0, none⟩) n n, .slice (some ⟨bl, 0, none⟩) n n, .slice none 0 0, .int .i64 (-1), .bool false] : Array Value) = C
  generalize hW : (((w.alloc (.cells Z 101)).alloc (.cells Z 101)).alloc (.cells C 69)).drew = W
  have hs : W.heap.size = w.heap.size + 3 := by rw [← hW]; simp
  have b0 : W.heap[w.heap.size]? = some (.cells Z 101) := by
    rw [← hW]
    show (Array.push (Array.push (Array.push w.heap (.cells Z 101)) (.cells Z 101)) (.cells C 69))[w.heap.size]? = _
    simp [Array.getElem?_push]
    omega
  have b1 : W.heap[w.heap.size + 1]? = some (.cells Z 101) := by
    rw [← hW]
    show (Array.push (Array.push (Array.push w.heap (.cells Z 101)) (.cells Z 101)) (.cells C 69))[w.heap.size + 1]? = _
    rw [Array.getElem?_push, Array.size_push, Array.size_push]
    rw [if_neg (by omega), Array.getElem?_push, Array.size_push, if_pos rfl]
  have b2 : W.heap[w.heap.size + 1 + 1]? = some (.cells C 69) := by
    rw [← hW]
    show (Array.push (Array.push (Array.push w.heap (.cells Z 101)) (.cells Z 101)) (.cells C 69))[w.heap.size + 1 + 1]? = _
    rw [Array.getElem?_push, Array.size_push, Array.size_push]
    rw [if_pos rfl]
  have sec : ∀ b, W.heap[b]? = some (.cells Z 101) → Secs W b n (fun _ => List.replicate 32 0) := by
    intro b hb
    refine ⟨fun i hi j x hx => ?_, fun j => frozen_of_row W b j Z 101 hb, fun i hi => by simp⟩
    rw [cell_of_row W b _ Z 101 (0, 0) hb]
    obtain ⟨hj, e⟩ := List.getElem?_eq_some_iff.1 hx
    rw [bv_len, List.length_replicate] at hj
    rw [hZ _ (by omega), ← hx]
    simp only [bv, List.getElem?_map, List.getElem?_replicate, hj, if_true, Option.map_some]
    rfl
  refine ⟨fun k => w.heap.size ≤ k ∧ k < w.heap.size + 3, ⟨bs, bl, .slice none 0 0, ?_⟩, fun k hk => hk.1⟩
  have cc : ∀ j, W.cell? ⟨w.heap.size + 1 + 1, j, none⟩ = C[j]? := fun j => cell_of_row W _ j C 69 (0, 0) b2
  exact { c0 := by rw [cc, ← hC]; rfl, c1 := by rw [cc, ← hC]; rfl, c2 := by rw [cc, ← hC]; rfl, c3 := by rw [cc, ← hC]; rfl, c4 := by rw [cc, ← hC]; rfl,
          free := fun j => frozen_of_row W _ j C 69 b2, sure := by rcases hb with ⟨e, _⟩ | ⟨_, e⟩ <;> (rw [e]; exact sec _ (by assumption)),
          last := by rcases hb with ⟨_, e⟩ | ⟨e, _⟩ <;> (rw [e]; exact sec _ (by assumption)),
          own := World.ownsRow_nil _ _ _ _, ps := by omega, pl := by omega, sl := by omega, pv := by simp [Value.ownBlock], sv := by simp [Value.ownBlock], lv := by simp [Value.ownBlock],
          fp := by omega, fs := by omega, fl := by omega, fv := (fun k hk => by cases hk), lt := (fun k hk => by omega), qs := (fun q hq => by cases hq), n1 := h1, n2 := h2, fu := by simp [fresh] }

theorem new_is (n : Nat) (h1 : 1 ≤ n) (h2 : n ≤ 4096) (w : World) :
    Calls Try.prog 14 #[.int .i64 (n : Int)] w fun e w' => ∃ p F, e = .returned (.tuple #[.pointer (some ⟨p, 0, none⟩), .int .i64 0]) ∧ Disk w' F p (fresh n) ∧ Below w.heap.size w w' ∧ ∀ k, F k → w.heap.size ≤ k := by
  obtain ⟨Z, hmk, hZ⟩ := make_secs n h2
  have HZ := (show Hid _ from hZ)
  clear hZ
  have c1 : ¬ (n : Int) < 1 := by omega
  have c2 : ¬ (4096 : Int) < (n : Int) := by omega
  go_enter Try.func14, Try.ntmps14
  go_wp2_with fail
  go_region
  all_goals
    go_wp2
    go_ret2
  · obtain ⟨F, hF, hk⟩ := fresh_lies n h1 h2 w Z HZ.out _ _ (.inl ⟨rfl, rfl⟩)
    exact ⟨_, F, rfl, hF, ((((Below.refl _ w).alloc (Nat.le_refl _) _).alloc (by simp) _).alloc (by simp; omega) _).drew, hk⟩
  · obtain ⟨F, hF, hk⟩ := fresh_lies n h1 h2 w Z HZ.out _ _ (.inr ⟨rfl, rfl⟩)
    exact ⟨_, F, rfl, hF, ((((Below.refl _ w).alloc (Nat.le_refl _) _).alloc (by simp) _).alloc (by simp; omega) _).drew, hk⟩
end Go.Proofs.Ytbjijacpgklegaa
