/- key, room, used, mayCell, At. -/
import Derived.Test.YtehaancdadmdkaaPm
namespace Go.Proofs.Ytehaancdadmdkaa
open Go.ChangeShapes Go.WideShapes Go.ChangeAt Go.RowKit
set_option linter.unusedVariables false
set_option maxRecDepth 100000

/-- Where a slice of a page begins: at the end of all it is told from the beginning. -/
def offB (lo : Nat) : Nat := if lo = 256 then 0 else lo
theorem offB_lt {lo : Nat} (h : lo < 256) : offB lo = lo := by unfold offB; rw [if_neg (by omega)]
theorem cells5 : Try.prog.cellsOf 5 = 1 := by kernel_rfl
theorem size5 (w : World) : (sizeOf 5).run Try.prog w = .ok 1 w := by
  simp [go_sem]
theorem page_lh (w : World) (p lo hi : Nat) (h1 : lo ≤ hi) (h2 : hi ≤ 256) : (Instr.sliceAt 56 (.pointer (some ⟨p, 0, none⟩)) (some (.int .i64 (lo : Int))) (some (.int .i64 (hi : Int))) none).run Try.prog w = .ok (.slice (some ⟨p, offB lo, none⟩) (hi - lo) (256 - lo)) w := by
  have e : Try.prog.arrayLen 56 = 256 := by kernel_rfl
  have e5 : Try.prog.elem 56 = 5 := by kernel_rfl
  rw [run_sliceAt_array_lh w 56 ⟨p, 0, none⟩ (by kernel_rfl) .i64 .i64 lo hi (by omega) (by omega) (by rw [e]; omega), e, e5, size5]
  simp only [Result.andThen_ok, slicedAt, Int.toNat_natCast, Nat.mul_one]
  unfold offB
  by_cases c : lo = 256
  · rw [if_pos c.symm, if_pos c]
  · rw [if_neg (fun q => c q.symm), if_neg c, Go.WideShapes.add_plain, Nat.zero_add]
theorem page_l (w : World) (p lo : Nat) (h1 : lo ≤ 256) : (Instr.sliceAt 56 (.pointer (some ⟨p, 0, none⟩)) (some (.int .i64 (lo : Int))) none none).run Try.prog w = .ok (.slice (some ⟨p, offB lo, none⟩) (256 - lo) (256 - lo)) w := by
  have e : Try.prog.arrayLen 56 = 256 := by kernel_rfl
  have e5 : Try.prog.elem 56 = 5 := by kernel_rfl
  rw [run_sliceAt_array_l w 56 ⟨p, 0, none⟩ (by kernel_rfl) .i64 lo (by omega) (by rw [e]; omega), e, e5, size5]
  simp only [Result.andThen_ok, slicedAt, Int.toNat_natCast, Nat.mul_one]
  unfold offB
  by_cases c : lo = 256
  · rw [if_pos c.symm, if_pos c]
  · rw [if_neg (fun q => c q.symm), if_neg c, Go.WideShapes.add_plain, Nat.zero_add]
theorem elem46 : Try.prog.elem 46 = 5 := by kernel_rfl
theorem slice_h (w : World) (p x n c y : Nat) (hc : 0 < c) (hy : y ≤ c) : (Instr.slice 46 (.slice (some ⟨p, x, none⟩) n c) none (some (.int .i64 (y : Int))) none).run Try.prog w = .ok (.slice (some ⟨p, x, none⟩) y c) w := by
  rw [run_slice_h w 46 (some ⟨p, x, none⟩) n c (by rw [elem46]; exact Try.underlying46) .i64 y (by omega) (by omega), elem46, size5]
  simp only [Result.andThen_ok, sliced, Int.toNat_natCast, Nat.sub_zero]
  rw [if_neg (by omega)]
  simp [Addr.add]
theorem convert_page {w : World} {p : Nat} {B : List UInt8} (h : Pg w p B) (lo n c : Nat) (hn : lo + n ≤ 256) : (convert 46 9 (.slice (some ⟨p, lo, none⟩) n c)).run Try.prog w = .ok (.string ⟨((B.drop lo).take n).toArray⟩) w := by
  have hl : ((B.drop lo).take n).length = n := by rw [List.length_take, List.length_drop, h.len]; omega
  have := run_convert_bytes_back (P := Try.prog) w 46 9 5 ⟨p, lo, none⟩ c ((B.drop lo).take n) Try.underlying46 Try.underlying5 Try.underlying9 (fun j hj => by
    have hj' : j < n := by rw [hl] at hj; exact hj
    show w.cell? ((⟨p, lo, none⟩ : Addr).add j) = _
    rw [Go.WideShapes.add_plain, h.cell (lo + j) (by omega)]
    have hb : lo + j < B.length := by rw [h.len]; omega
    simp [byteAt, hb])
  rw [hl] at this
  exact this
/-- A cell's key. -/
def keyB (B : List UInt8) (k : Nat) : List UInt8 := (B.drop (byteAt B (8 + 2 * k))).take (byteAt B (9 + 2 * k))
set_option maxHeartbeats 2000000 in
theorem key_is {w : World} {p : Nat} {B : List UInt8} (h : Pg w p B) (k : Nat) (hk : 9 + 2 * k < 256) (hs : byteAt B (8 + 2 * k) + byteAt B (9 + 2 * k) ≤ 256) : Calls Try.prog 40 #[.pointer (some ⟨p, 0, none⟩), .int .i64 (k : Int)] w fun e w' => e = .returned (.string ⟨(keyB B k).toArray⟩) ∧ ∃ m, w' = w.drewN m := by
  have HB : Hid (∀ n, Calls Try.prog 41 #[.pointer (some ⟨p, 0, none⟩), .int .i64 (k : Int)] (w.drewN n) fun e w' => e = .returned (.int .i64 (byteAt B (8 + 2 * k) : Int)) ∧ ∃ m, w' = (w.drewN n).drewN m) := fun n => begin_is (h.dr n) k (by omega)
  have HK : Hid (∀ n, Calls Try.prog 42 #[.pointer (some ⟨p, 0, none⟩), .int .i64 (k : Int)] (w.drewN n) fun e w' => e = .returned (.int .i64 (byteAt B (9 + 2 * k) : Int)) ∧ ∃ m, w' = (w.drewN n).drewN m) := fun n => keySize_is (h.dr n) k hk
  have hb := byteAt_lt B (8 + 2 * k)
  have hb2 := byteAt_lt B (9 + 2 * k)
  have hcv : ∀ n c, (convert 46 9 (.slice (some ⟨p, byteAt B (8 + 2 * k), none⟩) (byteAt B (9 + 2 * k)) c)).run Try.prog (w.drewN n) = .ok (.string ⟨(keyB B k).toArray⟩) (w.drewN n) := fun n c => convert_page (h.dr n) _ _ _ hs
  have hsl : ∀ n, (Instr.sliceAt 56 (.pointer (some ⟨p, 0, none⟩)) (some (.int .i64 (byteAt B (8 + 2 * k) : Int))) none none).run Try.prog (w.drewN n) = .ok (.slice (some ⟨p, byteAt B (8 + 2 * k), none⟩) (256 - byteAt B (8 + 2 * k)) (256 - byteAt B (8 + 2 * k))) (w.drewN n) := fun n => by
    rw [page_l _ p _ (by omega), offB_lt hb]
  have hs2 : ∀ n, (Instr.slice 46 (.slice (some ⟨p, byteAt B (8 + 2 * k), none⟩) (256 - byteAt B (8 + 2 * k)) (256 - byteAt B (8 + 2 * k))) none (some (.int .i64 (byteAt B (9 + 2 * k) : Int))) none).run Try.prog (w.drewN n) = .ok (.slice (some ⟨p, byteAt B (8 + 2 * k), none⟩) (byteAt B (9 + 2 * k)) (256 - byteAt B (8 + 2 * k))) (w.drewN n) := fun n => slice_h _ _ _ _ _ _ (by omega) (by omega)
  generalize byteAt B (8 + 2 * k) = x at *
  generalize byteAt B (9 + 2 * k) = y at *
  generalize (ByteArray.mk (keyB B k).toArray) = S at *
  obtain ⟨z, hz⟩ : ∃ z, 256 - x = z := ⟨_, rfl⟩
  rw [hz] at hsl hs2
  have hyz : (y : Int) ≤ (z : Int) := by omega
  have hz0 : ¬ z = 0 := by omega
  clear h hs hz hs2
  go_enter Try.func40, Try.ntmps40
  go_wp2_with fail
  go_quiet (first | with_reducible exact Calls.quiet_of (HB.out _) | with_reducible exact Calls.quiet_of (HK.out _))
  go_wp2_with fail
  go_ret
  exact ⟨rfl, _, rfl⟩
end Go.Proofs.Ytehaancdadmdkaa
