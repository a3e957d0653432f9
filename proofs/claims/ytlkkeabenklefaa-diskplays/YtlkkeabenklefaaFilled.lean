/- filled: a sector of one byte. -/
import Derived.Test.YtlkkeabenklefaaDsk
namespace Go.Proofs.Ytlkkeabenklefaa
open Go.ChangeShapes Go.WideShapes Go.ChangeAt Go.RowKit
set_option linter.unusedVariables false

structure Row (w : World) (B : Nat) (L : List UInt8) : Prop where
  cells : ∀ k (hk : k < L.length), w.cell? ⟨B, k, none⟩ = some (.int .u8 (L[k].toNat : Int))
  free : ∀ k, k < L.length → w.frozen? ⟨B, k, none⟩ = false

theorem Row.put {w : World} {B : Nat} {L : List UInt8} (h : Row w B L) (k : Nat) (hk : k < L.length) (v : UInt8) :
    Row (w.setCell ⟨B, k, none⟩ (.int .u8 (v.toNat : Int))) B (L.set k v) := by
  have hv := h.cells k hk
  refine ⟨fun j hj => ?_, fun j hj => ?_⟩
  · rw [List.length_set] at hj
    by_cases e : j = k
    · subst e
      simp [go_sem, hv]
    · have := h.cells j hj
      have e' : ¬ k = j := fun h => e h.symm
      simp [go_sem, this, e']
  · rw [List.length_set] at hj
    have := h.free j hj
    simp [go_sem, this]

theorem row_text {W : World} {B : Nat} {L : List UInt8} (h : Row W B L) (n C : Nat) (hn : n = L.length) :
    (convert 59 9 (.slice (some ⟨B, 0, none⟩) n C)).run Try.prog W = .ok (.string ⟨L.toArray⟩) W := by
  subst hn
  exact run_convert_bytes_back (P := Try.prog) W 59 9 5 ⟨B, 0, none⟩ C L Try.underlying59 Try.underlying5 Try.underlying9 (fun j hj => by rw [Go.WideShapes.add_plain, Nat.zero_add]; exact h.cells j hj)

theorem Try.info5 : (Try.prog.info? 5).map (fun i => (i.zero, i.size, i.bytes)) = some (some (.int .u8 0), 1, 1) := by kernel_rfl

theorem make_row (n : Nat) (hn : n ≤ 256) (w : World) : ∃ W : World, (Instr.makeSlice 59 (.int .i64 n) (.int .i64 n)).run Try.prog w = .ok (.slice (some ⟨w.heap.size, 0, none⟩) n n) W ∧ Row W w.heap.size (List.replicate n 0) ∧ Kept (fun _ => False) w W ∧ W.heap.size = w.heap.size + 1 := by
  obtain ⟨i, hi, hz, h1, h2⟩ := info_of Try.info5
  have hr := run_make (P := Try.prog) w 59 5 i (.int .u8 0) Try.underlying59 hi hz .i64 .i64 n n (by omega) (Int.le_refl _) (by rw [h2]; omega) (by omega)
  rw [Int.toNat_natCast, h1] at hr
  refine ⟨_, hr, ⟨fun k hk => ?_, fun k hk => ?_⟩, (Kept.refl _ _).alloc _, by simp⟩
  · have hk' : k < n := by simpa using hk
    simp [go_sem, madeCells, Value.cells, hk']
    rw [Nat.mod_one]
    rfl
  · simp [go_sem]

/-- A sector of one byte. -/
def fill (c : UInt8) : ByteArray := ⟨(List.replicate 32 c).toArray⟩
theorem fill_size (c : UInt8) : (fill c).size = 32 := by simp [fill, ByteArray.size]
theorem fill_list (c : UInt8) : (fill c).data.toList = List.replicate 32 c := rfl
/-- The first i bytes are there. -/
def part (c : UInt8) (i : Nat) : List UInt8 := List.replicate i c ++ List.replicate (32 - i) 0
theorem part_len (c : UInt8) (i : Nat) (h : i ≤ 32) : (part c i).length = 32 := by unfold part; simp; omega
theorem part_step (c : UInt8) (i : Nat) (h : i < 32) : (part c i).set i c = part c (i + 1) := by
  unfold part
  rw [List.set_append_right _ _ (by simp), List.length_replicate, Nat.sub_self, show 32 - i = (32 - (i + 1)) + 1 by omega, List.replicate_succ, List.set_cons_zero, List.replicate_succ', List.append_assoc]
  rfl

theorem filled_is (c : UInt8) (w : World) : Calls Try.prog 10 #[.int .u8 (c.toNat : Int)] w fun e w' => e = .returned (.string (fill c)) ∧ Kept (fun _ => False) w w' := by
  obtain ⟨W, hmk, hrow, hk, hsz⟩ := make_row 32 (by omega) w
  replace hmk : (Instr.makeSlice 59 (.int .i64 32) (.int .i64 32)).run Try.prog w = .ok (.slice (some ⟨w.heap.size, 0, none⟩) 32 32) W := hmk
  have HR := (show Hid _ from hrow)
  have HK := (show Hid _ from hk)
  obtain ⟨B, hB⟩ : ∃ B, w.heap.size = B := ⟨_, rfl⟩
  have HB := (show Hid _ from hB)
  rw [hB] at hmk HR
  clear hrow hk hsz hB
  obtain ⟨fc, hfc⟩ : ∃ fc, fc = fill c := ⟨_, rfl⟩
  have HFC := (show Hid _ from hfc)
  rw [← hfc]
  clear hfc
  obtain ⟨x, hx⟩ : ∃ x, x = c.toNat := ⟨_, rfl⟩
  have HX := (show Hid _ from hx)
  rw [← hx]
  clear hx
  go_enter Try.func10, Try.ntmps10
  go_wp2_with fail
  go_loopw [4] (fun i wr => ∃ j : Nat, j ≤ 32 ∧ i = .int .i64 j ∧ Hid (Row wr B (part c j)) ∧ Kept (fun _ => False) w wr)
    (fun i _ => 32 - (intOf i).toNat)
  case atStart => exact ⟨0, Nat.zero_le _, rfl, HR.out, HK.out⟩
  case round =>
    obtain ⟨j, hj, rfl, HW, KB⟩ := hrel
    have HKB := (show Hid _ from KB)
    clear KB
    by_cases d : j < 32
    · have hlt : j < (part c j).length := by rw [part_len c j hj]; omega
      have HP := (show Hid _ from HW.out.put j hlt c)
      rw [part_step c j d, ← HX.out] at HP
      have hcell := HW.out.cells j hlt
      have hf := HW.out.free j hlt
      generalize ((part c j)[j]'hlt).toNat = v at *
      have HKP := (show Hid (Kept (fun _ => False) w (wr.setCell ⟨B, j, none⟩ (.int .u8 (x : Int)))) from HKB.out.setCell (p := ⟨B, j, none⟩) (.inr (by have := HB.out; simp; omega)) _)
      clear hlt
      go_wp2_with fail
      go_roundw
      case rel => exact ⟨j + 1, by omega, by go_num, HP.out, HKP.out⟩
      case measure => simp [intOf]; omega
    · have ej : j = 32 := by omega
      subst ej
      have ht := row_text HW.out 32 32 (by rw [part_len c 32 hj])
      have e1 : (⟨(part c 32).toArray⟩ : ByteArray) = fc := by rw [HFC.out]; unfold part fill; simp
      rw [e1] at ht
      clear e1
      go_wp2_with fail
      go_ret
      exact ⟨rfl, HKB.out⟩
end Go.Proofs.Ytlkkeabenklefaa
