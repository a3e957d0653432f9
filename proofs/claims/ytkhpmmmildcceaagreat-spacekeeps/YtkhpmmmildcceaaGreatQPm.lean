/- Memory: a page is a block of 256 bytes. key, room, used, mayCell, At. room, used, mayCell, Free, noughts. -/
import Derived.Test.YtkhpmmmildcceaaGreatQRest
import Derived.WalkKit
import Derived.ProofKit
import Derived.OpenShut
import Derived.WalkSpells
import Derived.Handy
import Derived.Below
import Derived.Laws.IdiomCopy
import Derived.Laws.OwnMore
import Derived.Laws.AppendOwn
import Derived.Lib.LazyBuf
import Derived.BigQuiet
import Derived.Deep.RegionHeld
import Derived.Test.YtkhpmmmildcceaaGreatQCPoly
namespace Go.Proofs.YtkhpmmmildcceaaGreat
open Go.ChangeShapes Go.WideShapes Go.ChangeAt Go.RowKit
set_option linter.unusedVariables false
set_option maxRecDepth 100000
set_option maxRecDepth 100000

theorem own_kept {w w' : World} {B e size : Nat} {v : Value} {n : Nat} {xs : List Value} (h : w.ownsRow B e size v n xs) (k : Kept (fun _ => False) w w') : w'.ownsRow B e size v n xs := by
  refine ⟨h.1, ?_⟩
  rcases h.2 with q | ⟨g, cap, cur, e, hg, hh, q⟩
  · exact .inl q
  · have hlt : g < w.heap.size := by
      rcases Nat.lt_or_ge g w.heap.size with q | q
      · exact q
      · rw [Array.getElem?_eq_none (by omega)] at hh; cases hh
    exact .inr ⟨g, cap, cur, e, hg, (k.block g hlt (fun z => z)).trans hh, q⟩
/-- Cells of a block, and that they may be written. -/
structure CellsF (w : World) (b : Nat) (l : List Value) : Prop where
  cs : ∀ i v, l[i]? = some v → w.cell? ⟨b, i, none⟩ = some v
  fz : ∀ j, w.frozen? ⟨b, j, none⟩ = false
  ne : l ≠ []
theorem CellsF.lt {w : World} {b : Nat} {l : List Value} (h : CellsF w b l) : b < w.heap.size := by
  cases l with
  | nil => exact absurd rfl h.ne
  | cons x r => exact World.block_lt_of_cell? w _ (h.cs 0 x rfl)
theorem CellsF.far {w w' : World} {b : Nat} {l : List Value} (h : CellsF w b l) (hb : w'.heap[b]? = w.heap[b]?) : CellsF w' b l :=
  ⟨fun i v q => (World.cell?_of_block (a := ⟨b, i, none⟩) hb).trans (h.cs i v q), fun j => (World.frozen?_of_block (a := ⟨b, j, none⟩) hb).trans (h.fz j), h.ne⟩
theorem CellsF.kept {w w' : World} {b : Nat} {l : List Value} {F : Nat → Prop} (h : CellsF w b l) (k : Kept F w w') (hn : ¬ F b) : CellsF w' b l := h.far (k.block b h.lt hn)
theorem CellsF.step {w w' : World} {b : Nat} {l : List Value} (h : CellsF w b l) (k : Kept (fun _ => False) w w') : CellsF w' b l := h.kept k (fun z => z)
theorem CellsF.new (w : World) (l : List Value) (t : TypeId) (hl : l ≠ []) : CellsF (w.alloc (.cells l.toArray t)) w.heap.size l :=
  ⟨fun i v q => by simp [q], fun j => by simp, hl⟩
theorem CellsF.set {w : World} {b : Nat} {l : List Value} (h : CellsF w b l) (i : Nat) (v : Value) (hi : i < l.length) : CellsF (w.setCell ⟨b, i, none⟩ v) b (l.set i v) := by
  refine ⟨fun j u q => ?_, fun j => (World.frozen?_setCells b [v] i w _).trans (h.fz j), fun e => ?_⟩
  · by_cases hij : j = i
    · subst hij
      rw [List.getElem?_set_self hi] at q
      cases q
      obtain ⟨x, hx⟩ : ∃ x, l[j]? = some x := ⟨l[j], List.getElem?_eq_getElem hi⟩
      exact World.cell?_setCell_same' _ _ _ (by rw [h.cs j x hx]; rfl)
    · rw [List.getElem?_set_ne (Ne.symm hij)] at q
      exact (World.cell?_setCell_other _ _ _ _ (fun e => hij (by cases e; rfl))).trans (h.cs j u q)
  · have := congrArg List.length e
    rw [List.length_set] at this
    exact h.ne (List.eq_nil_of_length_eq_zero this)

theorem Kept.drewN {F : Nat → Prop} {a w : World} (h : Kept F a w) (n : Nat) : Kept F a (w.drewN n) := ⟨h.os, h.tape, h.output, h.size, h.block⟩
/-- A byte of a list of bytes, as a number. -/
def byteAt (B : List UInt8) (i : Nat) : Nat := (B[i]?.getD 0).toNat
theorem byteAt_lt (B : List UInt8) (i : Nat) : byteAt B i < 256 := UInt8.toNat_lt _
/-- A page in memory: its bytes, as they stand in its block. -/
structure Pg (w : World) (p : Nat) (B : List UInt8) : Prop where
  blk : w.heap[p]? = some (.cells (bv B).toArray 158 (0, 0))
  len : B.length = 256
theorem Pg.cell {w : World} {p : Nat} {B : List UInt8} (h : Pg w p B) (i : Nat) (hi : i < 256) : w.cell? ⟨p, i, none⟩ = some (.int .u8 (byteAt B i : Int)) := by
  rw [cell_of_row w p i _ 158 (0, 0) h.blk]
  have hl : i < B.length := by rw [h.len]; exact hi
  simp [bv, byteAt, hl]
theorem Pg.fz {w : World} {p : Nat} {B : List UInt8} (h : Pg w p B) (j : Nat) : w.frozen? ⟨p, j, none⟩ = false := frozen_of_row w p j _ 158 h.blk
theorem Pg.lt {w : World} {p : Nat} {B : List UInt8} (h : Pg w p B) : p < w.heap.size := by
  rcases Nat.lt_or_ge p w.heap.size with q | q
  · exact q
  · have := h.blk
    rw [Array.getElem?_eq_none (by omega)] at this; cases this
theorem Pg.kept {F : Nat → Prop} {w w' : World} {p : Nat} {B : List UInt8} (h : Pg w p B) (k : Kept F w w') (hn : ¬ F p) : Pg w' p B := ⟨(k.block p h.lt hn).trans h.blk, h.len⟩
theorem Pg.step {w w' : World} {p : Nat} {B : List UInt8} (h : Pg w p B) (k : Kept (fun _ => False) w w') : Pg w' p B := h.kept k (fun z => z)
theorem Pg.dr {w : World} {p : Nat} {B : List UInt8} (h : Pg w p B) (n : Nat) : Pg (w.drewN n) p B := ⟨h.blk, h.len⟩
/-- Where a cell ends. -/
def endB (B : List UInt8) (k : Nat) : Nat := if k = 0 then 256 else byteAt B (8 + 2 * (k - 1))
theorem endB_le (B : List UInt8) (k : Nat) : endB B k ≤ 256 := by
  unfold endB
  split
  · omega
  · exact Nat.le_of_lt (byteAt_lt _ _)

theorem kind_is {w : World} {p : Nat} {B : List UInt8} (h : Pg w p B) : Calls Tryz.prog 137 #[.pointer (some ⟨p, 0, none⟩)] w fun e w' => e = .returned (.int .i64 (byteAt B 0 : Int)) ∧ ∃ m, w' = w.drewN m := by
  have c := h.cell 0 (by decide)
  have hb := byteAt_lt B 0
  generalize byteAt B 0 = x at *
  go_enter Tryz.func137, Tryz.ntmps137
  go_wp2
  go_ret
  exact ⟨rfl, 0, rfl⟩
theorem kind_nil (w : World) : Calls Tryz.prog 137 #[.pointer none] w fun e w' => e = .returned (.int .i64 0) ∧ ∃ m, w' = w.drewN m := by
  go_enter Tryz.func137, Tryz.ntmps137
  go_wp2
  go_ret
  exact ⟨rfl, 0, rfl⟩
theorem len_is {w : World} {p : Nat} {B : List UInt8} (h : Pg w p B) : Calls Tryz.prog 123 #[.pointer (some ⟨p, 0, none⟩)] w fun e w' => e = .returned (.int .i64 (byteAt B 1 : Int)) ∧ ∃ m, w' = w.drewN m := by
  have c := h.cell 1 (by decide)
  have hb := byteAt_lt B 1
  generalize byteAt B 1 = x at *
  go_enter Tryz.func123, Tryz.ntmps123
  go_wp2
  go_ret
  exact ⟨rfl, 0, rfl⟩
theorem len_nil (w : World) : Calls Tryz.prog 123 #[.pointer none] w fun e w' => e = .returned (.int .i64 0) ∧ ∃ m, w' = w.drewN m := by
  go_enter Tryz.func123, Tryz.ntmps123
  go_wp2
  go_ret
  exact ⟨rfl, 0, rfl⟩
theorem is_is {w : World} {p : Nat} {B : List UInt8} (h : Pg w p B) : Calls Tryz.prog 111 #[.pointer (some ⟨p, 0, none⟩)] w fun e w' => e = .returned (.bool (byteAt B 0 != 0)) ∧ ∃ m, w' = w.drewN m := by
  have H : Hid (Calls Tryz.prog 137 #[.pointer (some ⟨p, 0, none⟩)] w fun e w' => e = .returned (.int .i64 (byteAt B 0 : Int)) ∧ ∃ m, w' = w.drewN m) := kind_is h
  clear h
  generalize byteAt B 0 = x at *
  go_enter Tryz.func111, Tryz.ntmps111
  go_wp2_with fail
  refine Calls.mono H.out ?_; rintro e w1 ⟨rfl, m, rfl⟩
  go_wp2_with fail
  go_ret
  refine ⟨?_, m, rfl⟩
  show Ending.returned (.bool ((x : Int) != 0)) = Ending.returned (.bool (x != 0))
  have e : ((x : Int) != 0) = (x != 0) := by
    rw [Bool.eq_iff_iff]
    simp
  rw [e]
theorem is_nil (w : World) : Calls Tryz.prog 111 #[.pointer none] w fun e w' => e = .returned (.bool false) ∧ ∃ m, w' = w.drewN m := by
  have H : Hid (Calls Tryz.prog 137 #[.pointer none] w fun e w' => e = .returned (.int .i64 0) ∧ ∃ m, w' = w.drewN m) := kind_nil w
  go_enter Tryz.func111, Tryz.ntmps111
  go_wp2_with fail
  refine Calls.mono H.out ?_; rintro e w1 ⟨rfl, m, rfl⟩
  go_wp2_with fail
  go_ret
  exact ⟨rfl, m, rfl⟩
theorem placeOf_is (k : Nat) (hk : k ≤ 1000000) (w : World) : Calls Tryz.prog 141 #[.int .i64 (k : Int)] w fun e w' => e = .returned (.int .i64 ((8 + 2 * k : Nat) : Int)) ∧ ∃ m, w' = w.drewN m := by
  go_enter Tryz.func141, Tryz.ntmps141
  go_wp2
  go_ret
  exact ⟨by congr 2, 0, rfl⟩
set_option maxHeartbeats 1000000 in
theorem begin_is {w : World} {p : Nat} {B : List UInt8} (h : Pg w p B) (k : Nat) (hk : 8 + 2 * k < 256) : Calls Tryz.prog 116 #[.pointer (some ⟨p, 0, none⟩), .int .i64 (k : Int)] w fun e w' => e = .returned (.int .i64 (byteAt B (8 + 2 * k) : Int)) ∧ ∃ m, w' = w.drewN m := by
  have c := h.cell (8 + 2 * k) hk
  have hb := byteAt_lt B (8 + 2 * k)
  have HP : Hid (∀ n, Calls Tryz.prog 141 #[.int .i64 (k : Int)] (w.drewN n) fun e w' => e = .returned (.int .i64 ((8 + 2 * k : Nat) : Int)) ∧ ∃ m, w' = (w.drewN n).drewN m) := fun n => placeOf_is k (by omega) _
  generalize byteAt B (8 + 2 * k) = x at *
  obtain ⟨j, hj⟩ : ∃ j, 8 + 2 * k = j := ⟨_, rfl⟩
  rw [hj] at c hk HP
  have hj2 : (j : Int) < 256 := by omega
  clear h hj
  go_enter Tryz.func116, Tryz.ntmps116
  go_wp2_with fail
  go_quiet (with_reducible exact Calls.quiet_of (HP.out _))
  go_wp2_with fail
  go_ret
  exact ⟨rfl, _, rfl⟩
set_option maxHeartbeats 1000000 in
theorem keySize_is {w : World} {p : Nat} {B : List UInt8} (h : Pg w p B) (k : Nat) (hk : 9 + 2 * k < 256) : Calls Tryz.prog 145 #[.pointer (some ⟨p, 0, none⟩), .int .i64 (k : Int)] w fun e w' => e = .returned (.int .i64 (byteAt B (9 + 2 * k) : Int)) ∧ ∃ m, w' = w.drewN m := by
  have c := h.cell (9 + 2 * k) hk
  have hb := byteAt_lt B (9 + 2 * k)
  have HP : Hid (∀ n, Calls Tryz.prog 141 #[.int .i64 (k : Int)] (w.drewN n) fun e w' => e = .returned (.int .i64 ((8 + 2 * k : Nat) : Int)) ∧ ∃ m, w' = (w.drewN n).drewN m) := fun n => placeOf_is k (by omega) _
  generalize byteAt B (9 + 2 * k) = x at *
  obtain ⟨j, hj⟩ : ∃ j, 8 + 2 * k = j := ⟨_, rfl⟩
  have hj1 : 9 + 2 * k = j + 1 := by omega
  rw [hj] at HP
  rw [hj1] at c hk
  have hj2 : (j : Int) + 1 < 256 := by omega
  clear h hj hj1
  go_enter Tryz.func145, Tryz.ntmps145
  go_wp2_with fail
  go_quiet (with_reducible exact Calls.quiet_of (HP.out _))
  go_wp2_with fail
  go_ret
  exact ⟨rfl, _, rfl⟩
theorem end_is {w : World} {p : Nat} {B : List UInt8} (h : Pg w p B) (k : Nat) (hk : 6 + 2 * k < 256) : Calls Tryz.prog 115 #[.pointer (some ⟨p, 0, none⟩), .int .i64 (k : Int)] w fun e w' => e = .returned (.int .i64 (endB B k : Int)) ∧ ∃ m, w' = w.drewN m := by
  cases k with
  | zero =>
    go_enter Tryz.func115, Tryz.ntmps115
    go_wp2
    go_ret
    exact ⟨rfl, 0, rfl⟩
  | succ k =>
    have HB : Hid (Calls Tryz.prog 116 #[.pointer (some ⟨p, 0, none⟩), .int .i64 (k : Int)] w fun e w' => e = .returned (.int .i64 (byteAt B (8 + 2 * k) : Int)) ∧ ∃ m, w' = w.drewN m) := begin_is h k (by omega)
    have HE : Hid (endB B (k + 1) = byteAt B (8 + 2 * k)) := rfl
    rw [HE.out]
    obtain ⟨y, hy⟩ : ∃ y : Int, ((k + 1 : Nat) : Int) = y := ⟨_, rfl⟩
    have e1 : (k : Int) = y - 1 := by omega
    have e2 : 1 ≤ y ∧ y ≤ 200 := by omega
    rw [hy]
    rw [e1] at HB
    obtain ⟨e3, e4⟩ := e2
    clear h hy e1 HE
    generalize byteAt B (8 + 2 * k) = x at *
    clear hk
    go_enter Tryz.func115, Tryz.ntmps115
    go_wp2_with fail
    refine Calls.mono HB.out ?_; rintro e w1 ⟨rfl, m, rfl⟩
    go_wp2_with fail
    go_ret
    exact ⟨rfl, m, rfl⟩
end Go.Proofs.YtkhpmmmildcceaaGreat

namespace Go.Proofs.YtkhpmmmildcceaaGreat
open Go.ChangeShapes Go.WideShapes Go.ChangeAt Go.RowKit
set_option linter.unusedVariables false
set_option maxRecDepth 100000
set_option maxRecDepth 100000

/-- Where a slice of a page begins: at the end of all it is told from the beginning. -/
def offB (lo : Nat) : Nat := if lo = 256 then 0 else lo
theorem offB_lt {lo : Nat} (h : lo < 256) : offB lo = lo := by unfold offB; rw [if_neg (by omega)]
theorem cells5 : Tryz.prog.cellsOf 5 = 1 := by kernel_rfl
theorem size5 (w : World) : (sizeOf 5).run Tryz.prog w = .ok 1 w := by
  simp [go_sem]
theorem page_lh (w : World) (p lo hi : Nat) (h1 : lo ≤ hi) (h2 : hi ≤ 256) : (Instr.sliceAt 156 (.pointer (some ⟨p, 0, none⟩)) (some (.int .i64 (lo : Int))) (some (.int .i64 (hi : Int))) none).run Tryz.prog w = .ok (.slice (some ⟨p, offB lo, none⟩) (hi - lo) (256 - lo)) w := by
  have e : Tryz.prog.arrayLen 156 = 256 := by kernel_rfl
  have e5 : Tryz.prog.elem 156 = 5 := by kernel_rfl
  rw [run_sliceAt_array_lh w 156 ⟨p, 0, none⟩ (by kernel_rfl) .i64 .i64 lo hi (by omega) (by omega) (by rw [e]; omega), e, e5, size5]
  simp only [Result.andThen_ok, slicedAt, Int.toNat_natCast, Nat.mul_one]
  unfold offB
  by_cases c : lo = 256
  · rw [if_pos c.symm, if_pos c]
  · rw [if_neg (fun q => c q.symm), if_neg c, Go.WideShapes.add_plain, Nat.zero_add]
theorem page_l (w : World) (p lo : Nat) (h1 : lo ≤ 256) : (Instr.sliceAt 156 (.pointer (some ⟨p, 0, none⟩)) (some (.int .i64 (lo : Int))) none none).run Tryz.prog w = .ok (.slice (some ⟨p, offB lo, none⟩) (256 - lo) (256 - lo)) w := by
  have e : Tryz.prog.arrayLen 156 = 256 := by kernel_rfl
  have e5 : Tryz.prog.elem 156 = 5 := by kernel_rfl
  rw [run_sliceAt_array_l w 156 ⟨p, 0, none⟩ (by kernel_rfl) .i64 lo (by omega) (by rw [e]; omega), e, e5, size5]
  simp only [Result.andThen_ok, slicedAt, Int.toNat_natCast, Nat.mul_one]
  unfold offB
  by_cases c : lo = 256
  · rw [if_pos c.symm, if_pos c]
  · rw [if_neg (fun q => c q.symm), if_neg c, Go.WideShapes.add_plain, Nat.zero_add]
theorem elem46 : Tryz.prog.elem 98 = 5 := by kernel_rfl
theorem slice_h (w : World) (p x n c y : Nat) (hc : 0 < c) (hy : y ≤ c) : (Instr.slice 98 (.slice (some ⟨p, x, none⟩) n c) none (some (.int .i64 (y : Int))) none).run Tryz.prog w = .ok (.slice (some ⟨p, x, none⟩) y c) w := by
  rw [run_slice_h w 98 (some ⟨p, x, none⟩) n c (by rw [elem46]; exact Tryz.underlying98) .i64 y (by omega) (by omega), elem46, size5]
  simp only [Result.andThen_ok, sliced, Int.toNat_natCast, Nat.sub_zero]
  rw [if_neg (by omega)]
  simp [Addr.add]
theorem convert_page {w : World} {p : Nat} {B : List UInt8} (h : Pg w p B) (lo n c : Nat) (hn : lo + n ≤ 256) : (convert 98 9 (.slice (some ⟨p, lo, none⟩) n c)).run Tryz.prog w = .ok (.string ⟨((B.drop lo).take n).toArray⟩) w := by
  have hl : ((B.drop lo).take n).length = n := by rw [List.length_take, List.length_drop, h.len]; omega
  have := run_convert_bytes_back (P := Tryz.prog) w 98 9 5 ⟨p, lo, none⟩ c ((B.drop lo).take n) Tryz.underlying98 Tryz.underlying5 Tryz.underlying9 (fun j hj => by
    have hj' : j < n := by rw [hl] at hj; exact hj
    show w.cell? ((⟨p, lo, none⟩ : Addr).add j) = _
    rw [Go.WideShapes.add_plain, h.cell (lo + j) (by omega)]
    have hb : lo + j < B.length := by rw [h.len]; omega
    simp [byteAt, hb])
  rw [hl] at this
  exact this
/-- A cell's key. -/
def keyB (B : List UInt8) (k : Nat) : List UInt8 := (B.drop (byteAt B (8 + 2 * k))).take (byteAt B (9 + 2 * k))
set_option maxHeartbeats 2000000 in
theorem key_is {w : World} {p : Nat} {B : List UInt8} (h : Pg w p B) (k : Nat) (hk : 9 + 2 * k < 256) (hs : byteAt B (8 + 2 * k) + byteAt B (9 + 2 * k) ≤ 256) : Calls Tryz.prog 140 #[.pointer (some ⟨p, 0, none⟩), .int .i64 (k : Int)] w fun e w' => e = .returned (.string ⟨(keyB B k).toArray⟩) ∧ ∃ m, w' = w.drewN m := by
  have HB : Hid (∀ n, Calls Tryz.prog 116 #[.pointer (some ⟨p, 0, none⟩), .int .i64 (k : Int)] (w.drewN n) fun e w' => e = .returned (.int .i64 (byteAt B (8 + 2 * k) : Int)) ∧ ∃ m, w' = (w.drewN n).drewN m) := fun n => begin_is (h.dr n) k (by omega)
  have HK : Hid (∀ n, Calls Tryz.prog 145 #[.pointer (some ⟨p, 0, none⟩), .int .i64 (k : Int)] (w.drewN n) fun e w' => e = .returned (.int .i64 (byteAt B (9 + 2 * k) : Int)) ∧ ∃ m, w' = (w.drewN n).drewN m) := fun n => keySize_is (h.dr n) k hk
  have hb := byteAt_lt B (8 + 2 * k)
  have hb2 := byteAt_lt B (9 + 2 * k)
  have hcv : ∀ n c, (convert 98 9 (.slice (some ⟨p, byteAt B (8 + 2 * k), none⟩) (byteAt B (9 + 2 * k)) c)).run Tryz.prog (w.drewN n) = .ok (.string ⟨(keyB B k).toArray⟩) (w.drewN n) := fun n c => convert_page (h.dr n) _ _ _ hs
  have hsl : ∀ n, (Instr.sliceAt 156 (.pointer (some ⟨p, 0, none⟩)) (some (.int .i64 (byteAt B (8 + 2 * k) : Int))) none none).run Tryz.prog (w.drewN n) = .ok (.slice (some ⟨p, byteAt B (8 + 2 * k), none⟩) (256 - byteAt B (8 + 2 * k)) (256 - byteAt B (8 + 2 * k))) (w.drewN n) := fun n => by
    rw [page_l _ p _ (by omega), offB_lt hb]
  have hs2 : ∀ n, (Instr.slice 98 (.slice (some ⟨p, byteAt B (8 + 2 * k), none⟩) (256 - byteAt B (8 + 2 * k)) (256 - byteAt B (8 + 2 * k))) none (some (.int .i64 (byteAt B (9 + 2 * k) : Int))) none).run Tryz.prog (w.drewN n) = .ok (.slice (some ⟨p, byteAt B (8 + 2 * k), none⟩) (byteAt B (9 + 2 * k)) (256 - byteAt B (8 + 2 * k))) (w.drewN n) := fun n => slice_h _ _ _ _ _ _ (by omega) (by omega)
  generalize byteAt B (8 + 2 * k) = x at *
  generalize byteAt B (9 + 2 * k) = y at *
  generalize (ByteArray.mk (keyB B k).toArray) = S at *
  obtain ⟨z, hz⟩ : ∃ z, 256 - x = z := ⟨_, rfl⟩
  rw [hz] at hsl hs2
  have hyz : (y : Int) ≤ (z : Int) := by omega
  have hz0 : ¬ z = 0 := by omega
  clear h hs hz hs2
  go_enter Tryz.func140, Tryz.ntmps140
  go_wp2_with fail
  go_quiet (first | with_reducible exact Calls.quiet_of (HB.out _) | with_reducible exact Calls.quiet_of (HK.out _))
  go_wp2_with fail
  go_ret
  exact ⟨rfl, _, rfl⟩
end Go.Proofs.YtkhpmmmildcceaaGreat

namespace Go.Proofs.YtkhpmmmildcceaaGreat
open Go.ChangeShapes Go.WideShapes Go.ChangeAt Go.RowKit
set_option linter.unusedVariables false
set_option maxRecDepth 100000
set_option maxRecDepth 100000

theorem drewN0 (w : World) : w = w.drewN 0 := rfl
set_option maxHeartbeats 1000000 in
theorem room_is {w : World} {p : Nat} {B : List UInt8} (h : Pg w p B) (hn : 8 + 2 * byteAt B 1 ≤ 256) : Calls Tryz.prog 114 #[.pointer (some ⟨p, 0, none⟩)] w fun e w' => e = .returned (.int .i64 ((endB B (byteAt B 1) : Int) - ((8 + 2 * byteAt B 1 : Nat) : Int))) ∧ ∃ m, w' = w.drewN m := by
  have H19 : Hid (∀ n, Calls Tryz.prog 123 #[.pointer (some ⟨p, 0, none⟩)] (w.drewN n) fun e w' => e = .returned (.int .i64 (byteAt B 1 : Int)) ∧ ∃ m, w' = (w.drewN n).drewN m) := fun n => len_is (h.dr n)
  have H43 : Hid (∀ n, Calls Tryz.prog 115 #[.pointer (some ⟨p, 0, none⟩), .int .i64 (byteAt B 1 : Int)] (w.drewN n) fun e w' => e = .returned (.int .i64 (endB B (byteAt B 1) : Int)) ∧ ∃ m, w' = (w.drewN n).drewN m) := fun n => end_is (h.dr n) _ (by omega)
  have H58 : Hid (∀ n, Calls Tryz.prog 141 #[.int .i64 (byteAt B 1 : Int)] (w.drewN n) fun e w' => e = .returned (.int .i64 ((8 + 2 * byteAt B 1 : Nat) : Int)) ∧ ∃ m, w' = (w.drewN n).drewN m) := fun n => placeOf_is _ (by omega) _
  have he := endB_le B (byteAt B 1)
  generalize byteAt B 1 = x at *
  generalize endB B x = y at *
  obtain ⟨z, hz⟩ : ∃ z, 8 + 2 * x = z := ⟨_, rfl⟩
  rw [hz] at H58 hn ⊢
  clear h hz
  rw [drewN0 w]
  go_enter Tryz.func114, Tryz.ntmps114
  go_wp2_with fail
  refine Calls.mono (H19.out _) ?_; rintro e w1 ⟨rfl, m1, rfl⟩
  go_wp2_with fail
  refine Calls.mono (H43.out _) ?_; rintro e w1 ⟨rfl, m2, rfl⟩
  go_wp2_with fail
  refine Calls.mono (H19.out _) ?_; rintro e w1 ⟨rfl, m3, rfl⟩
  go_wp2_with fail
  refine Calls.mono (H58.out _) ?_; rintro e w1 ⟨rfl, m4, rfl⟩
  go_wp2_with fail
  go_ret
  exact ⟨rfl, _, rfl⟩
theorem mayCell_is (x y : Nat) (hx : x ≤ 9223372036854775807) (hy : y ≤ 9223372036854775807) (w : World) : Calls Tryz.prog 112 #[.int .i64 (x : Int), .int .i64 (y : Int)] w fun e w' => e = .returned (.bool (decide (1 ≤ x ∧ x ≤ 80 ∧ x ≤ y ∧ y ≤ 100))) ∧ ∃ m, w' = w.drewN m := by
  by_cases c1 : (1 : Int) ≤ x
  · by_cases c2 : (x : Int) ≤ 80
    · by_cases c3 : (x : Int) ≤ y
      · by_cases c4 : (y : Int) ≤ 100
        · rw [decide_eq_true (by omega)]
          go_enter Tryz.func112, Tryz.ntmps112
          go_wp2
          go_ret
          exact ⟨rfl, 0, rfl⟩
        · rw [decide_eq_false (by omega)]
          go_enter Tryz.func112, Tryz.ntmps112
          go_wp2
          go_ret
          exact ⟨rfl, 0, rfl⟩
      · rw [decide_eq_false (by omega)]
        go_enter Tryz.func112, Tryz.ntmps112
        go_wp2
        go_ret
        exact ⟨rfl, 0, rfl⟩
    · rw [decide_eq_false (by omega)]
      go_enter Tryz.func112, Tryz.ntmps112
      go_wp2
      go_ret
      exact ⟨rfl, 0, rfl⟩
  · rw [decide_eq_false (by omega)]
    go_enter Tryz.func112, Tryz.ntmps112
    go_wp2
    go_ret
    exact ⟨rfl, 0, rfl⟩
theorem used_is {w : World} {p : Nat} {B : List UInt8} (h : Pg w p B) : Calls Tryz.prog 150 #[.pointer (some ⟨p, 0, none⟩)] w fun e w' => e = .returned (.int .i64 ((byteAt B 2 + byteAt B 3 * 256 : Nat) : Int)) ∧ ∃ m, w' = w.drewN m := by
  have c2 := h.cell 2 (by decide)
  have c3 := h.cell 3 (by decide)
  have hb2 := byteAt_lt B 2
  have hb3 := byteAt_lt B 3
  generalize byteAt B 2 = x at *
  generalize byteAt B 3 = y at *
  have ho := or_next x y 256 8 (by omega) (by decide) (by decide) hb3
  obtain ⟨z, hz⟩ : ∃ z, x + y * 256 = z := ⟨_, rfl⟩
  rw [hz] at ho ⊢
  have ho2 : bits .or .i64 (x : Int) ((y : Int) * 256) = (z : Int) := by rw [← ho]; congr 1
  clear h hz ho
  go_enter Tryz.func150, Tryz.ntmps150
  go_wp2_with fail
  go_quiet (fail)
  go_wp2_with fail
  go_ret
  exact ⟨rfl, _, rfl⟩
end Go.Proofs.YtkhpmmmildcceaaGreat
