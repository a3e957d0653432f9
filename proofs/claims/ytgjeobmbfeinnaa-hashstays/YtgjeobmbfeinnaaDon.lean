/- done. -/
import Derived.Test.YtgjeobmbfeinnaaRel
namespace Go.Proofs.Ytgjeobmbfeinnaa
open Go.ChangeShapes Go.WideShapes Go.RowKit
set_option linter.unusedVariables false
set_option maxRecDepth 100000

set_option maxHeartbeats 4000000 in
theorem done_with (p : Option Addr) (c : Int) (kd n : Int) (x : Val) (hk : ¬ kd = 1) (w : World) (Q : World → Option Addr → Int → Prop)
    (hq : ∀ w1 w2 p' c' R, Q w1 p' c' → Blk w1 R 27 [.pointer none, .int .i64 0] → (∀ k, k ≠ R → w2.heap[k]? = w1.heap[k]?) → Q w2 p' c')
    (hc : ∀ w', Below w.heap.size w w' → Calls Try.prog 15 #[.agg #[.pointer p, .int .i64 c], x.v, .int .i64 n] w' fun e w'' => ∃ p' c', e = .returned (.agg #[.pointer p', .int .i64 c']) ∧ Q w'' p' c' ∧ Below w'.heap.size w' w'') :
    Calls Try.prog 8 #[.agg #[.pointer p, .int .i64 c], .agg #[.int .i64 kd, .int .i64 n, .int .i64 x.k, .int .i64 x.n, .string x.s]] w fun e w' => ∃ p' c', e = .returned (.agg #[.pointer p', .int .i64 c']) ∧ Q w' p' c' ∧ Below w.heap.size w w' := by
  obtain ⟨k, m, s⟩ := x
  have HC : Hid (∀ w', Below w.heap.size w w' → Calls Try.prog 15 #[.agg #[.pointer p, .int .i64 c], .agg #[.int .i64 k, .int .i64 m, .string s], .int .i64 n] w' fun e w'' => ∃ p' c', e = .returned (.agg #[.pointer p', .int .i64 c']) ∧ Q w'' p' c' ∧ Below w'.heap.size w' w'') := hc
  have HQ : Hid (∀ w1 w2 p' c' R, Q w1 p' c' → Blk w1 R 27 [.pointer none, .int .i64 0] → (∀ k, k ≠ R → w2.heap[k]? = w1.heap[k]?) → Q w2 p' c') := hq
  have hkb : (kd == 1) = false := by simpa using hk
  have HB0 : Hid (∀ a b d, Below w.heap.size w (((w.alloc a).alloc b).alloc d)) := fun a b d => below3 _ _ _ _
  have HR0 : Hid (∀ a b, Blk (((w.alloc a).alloc b).alloc (.cells #[.pointer none, .int .i64 0] 27)) (w.heap.size + 1 + 1) 27 [.pointer none, .int .i64 0]) := fun a b => by
    have := Blk.new ((w.alloc a).alloc b) 27 [.pointer none, .int .i64 0]
    rwa [size_alloc, size_alloc] at this
  clear hc hq
  go_enter Try.func8, Try.ntmps8
  go_wp2_with fail
  refine Calls.mono (HC.out _ (HB0.out _ _ _)) ?_; rintro e w1 ⟨p1, c1, rfl, hq1, k1⟩
  have HR1 : Hid (Blk w1 (w.heap.size + 1 + 1) 27 [.pointer none, .int .i64 0]) := (HR0.out _ _).next k1
  have HB1 : Hid (Below w.heap.size w w1) := Below.next (HB0.out _ _ _) k1
  have HQ1 : Hid (Q w1 p1 c1) := hq1
  have r0 := HR1.out.cell (i := 0) rfl
  have r1 := HR1.out.cell (i := 1) rfl
  have rf := HR1.out.fz
  obtain ⟨w2, hw2⟩ : ∃ w2, (w1.setCell ⟨w.heap.size + 1 + 1, 0, none⟩ (.pointer p1)).setCell ⟨w.heap.size + 1 + 1, 1, none⟩ (.int .i64 c1) = w2 := ⟨_, rfl⟩
  have HW2 : Hid ((w1.setCell ⟨w.heap.size + 1 + 1, 0, none⟩ (.pointer p1)).setCell ⟨w.heap.size + 1 + 1, 1, none⟩ (.int .i64 c1) = w2) := hw2
  have hb := (HR1.out.set 0 (.pointer p1)).set 1 (.int .i64 c1)
  rw [hw2] at hb
  have HL : Hid ((loadVar 27 ⟨w.heap.size + 1 + 1, 0, none⟩).run Try.prog w2 = .ok (.agg #[.pointer p1, .int .i64 c1]) w2) := load27 (hb.cell (i := 0) rfl) (hb.cell (i := 1) rfl)
  have HE : Hid (Q w2 p1 c1 ∧ Below w.heap.size w w2) := ⟨HQ.out w1 w2 p1 c1 _ HQ1.out HR1.out (fun k hk => by rw [← hw2]; exact (heap_set _ _ _ hk).trans (heap_set _ _ _ hk)), by rw [← hw2]; exact below_set (below_set HB1.out _ _ _ (by omega)) _ _ _ (by omega)⟩
  clear hq1 k1 hw2 hb
  go_wp2_with fail
  rw [HW2.out]
  refine bodyPost_ret (end_cell rfl rfl HL.out) rfl ?_
  exact ⟨_, _, rfl, HE.out⟩

set_option maxHeartbeats 4000000 in
theorem done_wo (p : Option Addr) (c : Int) (kd n : Int) (x : Val) (hk : kd = 1) (w : World) (Q : World → Option Addr → Int → Prop)
    (hq : ∀ w1 w2 p' c' R, Q w1 p' c' → Blk w1 R 27 [.pointer none, .int .i64 0] → (∀ k, k ≠ R → w2.heap[k]? = w1.heap[k]?) → Q w2 p' c')
    (hc : ∀ w', Below w.heap.size w w' → Calls Try.prog 16 #[.agg #[.pointer p, .int .i64 c], x.v, .int .i64 n] w' fun e w'' => ∃ p' c', e = .returned (.agg #[.pointer p', .int .i64 c']) ∧ Q w'' p' c' ∧ Below w'.heap.size w' w'') :
    Calls Try.prog 8 #[.agg #[.pointer p, .int .i64 c], .agg #[.int .i64 kd, .int .i64 n, .int .i64 x.k, .int .i64 x.n, .string x.s]] w fun e w' => ∃ p' c', e = .returned (.agg #[.pointer p', .int .i64 c']) ∧ Q w' p' c' ∧ Below w.heap.size w w' := by
  obtain ⟨k, m, s⟩ := x
  have HC : Hid (∀ w', Below w.heap.size w w' → Calls Try.prog 16 #[.agg #[.pointer p, .int .i64 c], .agg #[.int .i64 k, .int .i64 m, .string s], .int .i64 n] w' fun e w'' => ∃ p' c', e = .returned (.agg #[.pointer p', .int .i64 c']) ∧ Q w'' p' c' ∧ Below w'.heap.size w' w'') := hc
  have HQ : Hid (∀ w1 w2 p' c' R, Q w1 p' c' → Blk w1 R 27 [.pointer none, .int .i64 0] → (∀ k, k ≠ R → w2.heap[k]? = w1.heap[k]?) → Q w2 p' c') := hq
  subst hk
  have HB0 : Hid (∀ a b d, Below w.heap.size w (((w.alloc a).alloc b).alloc d)) := fun a b d => below3 _ _ _ _
  have HR0 : Hid (∀ a b, Blk (((w.alloc a).alloc b).alloc (.cells #[.pointer none, .int .i64 0] 27)) (w.heap.size + 1 + 1) 27 [.pointer none, .int .i64 0]) := fun a b => by
    have := Blk.new ((w.alloc a).alloc b) 27 [.pointer none, .int .i64 0]
    rwa [size_alloc, size_alloc] at this
  clear hc hq
  go_enter Try.func8, Try.ntmps8
  go_wp2_with fail
  refine Calls.mono (HC.out _ (HB0.out _ _ _)) ?_; rintro e w1 ⟨p1, c1, rfl, hq1, k1⟩
  have HR1 : Hid (Blk w1 (w.heap.size + 1 + 1) 27 [.pointer none, .int .i64 0]) := (HR0.out _ _).next k1
  have HB1 : Hid (Below w.heap.size w w1) := Below.next (HB0.out _ _ _) k1
  have HQ1 : Hid (Q w1 p1 c1) := hq1
  have r0 := HR1.out.cell (i := 0) rfl
  have r1 := HR1.out.cell (i := 1) rfl
  have rf := HR1.out.fz
  obtain ⟨w2, hw2⟩ : ∃ w2, (w1.setCell ⟨w.heap.size + 1 + 1, 0, none⟩ (.pointer p1)).setCell ⟨w.heap.size + 1 + 1, 1, none⟩ (.int .i64 c1) = w2 := ⟨_, rfl⟩
  have HW2 : Hid ((w1.setCell ⟨w.heap.size + 1 + 1, 0, none⟩ (.pointer p1)).setCell ⟨w.heap.size + 1 + 1, 1, none⟩ (.int .i64 c1) = w2) := hw2
  have hb := (HR1.out.set 0 (.pointer p1)).set 1 (.int .i64 c1)
  rw [hw2] at hb
  have HL : Hid ((loadVar 27 ⟨w.heap.size + 1 + 1, 0, none⟩).run Try.prog w2 = .ok (.agg #[.pointer p1, .int .i64 c1]) w2) := load27 (hb.cell (i := 0) rfl) (hb.cell (i := 1) rfl)
  have HE : Hid (Q w2 p1 c1 ∧ Below w.heap.size w w2) := ⟨HQ.out w1 w2 p1 c1 _ HQ1.out HR1.out (fun k hk => by rw [← hw2]; exact (heap_set _ _ _ hk).trans (heap_set _ _ _ hk)), by rw [← hw2]; exact below_set (below_set HB1.out _ _ _ (by omega)) _ _ _ (by omega)⟩
  clear hq1 k1 hw2 hb
  go_wp2_with fail
  rw [HW2.out]
  refine bodyPost_ret (end_cell rfl rfl HL.out) rfl ?_
  exact ⟨_, _, rfl, HE.out⟩
end Go.Proofs.Ytgjeobmbfeinnaa
