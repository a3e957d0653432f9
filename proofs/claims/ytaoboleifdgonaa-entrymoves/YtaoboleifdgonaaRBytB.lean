/- The document's bytes of a value: the other kinds. -/
import Derived.Test.YtaoboleifdgonaaRByt
namespace Go.Proofs.Ytaoboleifdgonaa
open Go.ChangeShapes Go.WideShapes Go.RowKit
set_option linter.unusedVariables false
set_option maxRecDepth 100000
set_option maxRecDepth 100000

theorem kind_new (w : World) (k n : Int) (s : ByteArray) {y : Int} (x : UInt8) (hy : (x.toNat : Int) = y) :
    Own ((w.alloc (.cells #[.int .i64 k, .int .i64 n, .string s] 56)).alloc (.cells #[.int .u8 y] 5)) (w.heap.size + 1) (.slice (some ⟨w.heap.size + 1, 0, none⟩) 1 1) [x] ∧ At ((w.alloc (.cells #[.int .i64 k, .int .i64 n, .string s] 56)).alloc (.cells #[.int .u8 y] 5)) w.heap.size 0 k n s := by
  have := own_new (w.alloc (.cells #[.int .i64 k, .int .i64 n, .string s] 56)) x hy
  rw [show (w.alloc (.cells #[.int .i64 k, .int .i64 n, .string s] 56)).heap.size = w.heap.size + 1 by simp] at this
  exact ⟨this, (At.new w k n s).next (below1 _ _)⟩
set_option maxHeartbeats 1000000 in
theorem refBytes_null (s : ByteArray) (w : World) : Calls Try.prog 57 #[vv 0 0 s] w fun e w' => e = .returned (.string ⟨(valB 0 0 s).toArray⟩) ∧ Below w.heap.size w w' := by
  have k1 : bits .and .i64 0 255 = 0 := by decide
  have hk := kind_new w 0 0 s (lowB 0) (y := 0) (by decide)
  obtain ⟨W, hW⟩ : ∃ W, (w.alloc (.cells #[.int .i64 0, .int .i64 0, .string s] 56)).alloc (.cells #[.int .u8 0] 5) = W := ⟨_, rfl⟩
  have HB : Hid (Below w.heap.size w W) := hW ▸ below2 _ _ _
  rw [hW] at hk
  obtain ⟨g, m, cc, e, hcv⟩ := own_str hk.1 (by simp)
  cases e
  have HV : Hid (valB 0 0 s = [lowB 0]) := rfl
  obtain ⟨a0, a1, a2⟩ := hk.2
  clear hk
  go_enter Try.func57, Try.ntmps57
  go_wp2_with fail
  go_ret
  exact ⟨by rw [HV.out]; rfl, HB.out⟩
set_option maxHeartbeats 1000000 in
theorem refBytes_bool (n : Int) (s : ByteArray) (w : World) : Calls Try.prog 57 #[vv 3 n s] w fun e w' => e = .returned (.string ⟨(valB 3 n s).toArray⟩) ∧ Below w.heap.size w w' := by
  have k1 : bits .and .i64 3 255 = 3 := by decide
  have ab := and_byte
  have hk := kind_new w 3 n s (lowB 3) (y := 3) (by decide)
  obtain ⟨W, hW⟩ : ∃ W, (w.alloc (.cells #[.int .i64 3, .int .i64 n, .string s] 56)).alloc (.cells #[.int .u8 3] 5) = W := ⟨_, rfl⟩
  have hB : Below w.heap.size w W := hW ▸ below2 _ _ _
  rw [hW] at hk
  have hsz : w.heap.size + 1 ≤ W.heap.size := hk.2.lt
  obtain ⟨v2, w2, ra, o2, b2, _, _, _⟩ := own_byte (y := n % 256) hk.1 (lowB n) (by simp) hsz (lowB_is n)
  obtain ⟨g, m, cc, rfl, hcv⟩ := own_str o2 (by simp)
  have HV : Hid (valB 3 n s = [lowB 3] ++ [lowB n]) := rfl
  have HB : Hid (Below w.heap.size w w2) := hB.trans (b2.mono (by omega))
  have RA : Hid _ := ra
  obtain ⟨a0, a1, a2⟩ := hk.2
  clear hk ra o2 b2 hB
  go_enter Try.func57, Try.ntmps57
  go_wp2_with (first | ((with_reducible apply st_append (x := .tmp 50)); (case ho => rfl); (case hgd => rfl); (case hr => exact RA.out)))
  go_ret
  exact ⟨by rw [HV.out]; rfl, HB.out⟩
set_option maxHeartbeats 1000000 in
theorem refBytes_text (s : ByteArray) (hs : s.size ≤ 100000) (w : World) : Calls Try.prog 57 #[vv 2 0 s] w fun e w' => e = .returned (.string ⟨(valB 2 0 s).toArray⟩) ∧ Below w.heap.size w w' := by
  have k1 : bits .and .i64 2 255 = 2 := by decide
  have ab := and_byte
  have hk := kind_new w 2 0 s (lowB 2) (y := 2) (by decide)
  obtain ⟨W, hW⟩ : ∃ W, (w.alloc (.cells #[.int .i64 2, .int .i64 0, .string s] 56)).alloc (.cells #[.int .u8 2] 5) = W := ⟨_, rfl⟩
  have hB : Below w.heap.size w W := hW ▸ below2 _ _ _
  rw [hW] at hk
  have hsz : w.heap.size + 1 ≤ W.heap.size := hk.2.lt
  obtain ⟨v2, w2, ra, o2, b2, _, sz2, _⟩ := own_byte (y := (s.size : Int) % 256) hk.1 (lowB s.size) (by simp) hsz (lowB_is s.size)
  obtain ⟨v3, w3, ra3, o3, g3⟩ := append_text o2 s (by simp; omega) (by omega)
  have HB : Hid (Below w.heap.size w w3) := (hB.trans (b2.mono (by omega))).grown g3 (by omega) (fun k hk => by have := (World.ownsRow.lt o2 k hk).1; omega)
  obtain ⟨g, m, cc, rfl, hcv⟩ := own_str o3 (by simp)
  have HV : Hid (valB 2 0 s = [lowB 2] ++ [lowB (s.size : Int)] ++ s.data.toList) := rfl
  have RA : Hid _ := ra
  have RA3 : Hid _ := ra3
  have A2 := hk.2.below b2 (by omega)
  obtain ⟨a0, a1, a2⟩ := hk.2
  obtain ⟨c0, c1, c2⟩ := A2
  clear hk ra o2 b2 hB ra3 o3 g3
  go_enter Try.func57, Try.ntmps57
  go_wp2_with (first | ((with_reducible apply st_append (x := .tmp 36)); (case ho => rfl); (case hgd => rfl); (case hr => exact RA.out)) | ((with_reducible apply st_append (x := .tmp 44)); (case ho => rfl); (case hgd => rfl); (case hr => exact RA3.out)))
  go_ret
  exact ⟨by rw [HV.out]; rfl, HB.out⟩
end Go.Proofs.Ytaoboleifdgonaa
