/- value: Hash. -/
import Derived.Test.YtgjeobmbfeinnaaVal
import Derived.Test.YtgjeobmbfeinnaaMay
import Derived.Test.YtgjeobmbfeinnaaCSum
namespace Go.Proofs.Ytgjeobmbfeinnaa
open Go.ChangeShapes Go.WideShapes Go.RowKit
set_option linter.unusedVariables false
set_option maxRecDepth 100000

theorem own_str {w : World} {B : Nat} {v : Value} {l : List UInt8} (h : Own w B v l) (h0 : l ≠ []) : ∃ g m c, v = .slice (some ⟨g, 0, none⟩) m c ∧ (convert 82 9 (.slice (some ⟨g, 0, none⟩) m c)).run Try.prog w = .ok (.string ⟨l.toArray⟩) w := by
  obtain ⟨g, c, rfl⟩ : ∃ g c, v = .slice (some ⟨g, 0, none⟩) l.length c := by
    rcases h.2 with ⟨_, e⟩ | ⟨g, cap, cur, rfl, _⟩
    · exact absurd (List.eq_nil_of_length_eq_zero e) h0
    · exact ⟨g, cap, rfl⟩
  refine ⟨g, _, c, rfl, run_convert_bytes_back w 82 9 5 ⟨g, 0, none⟩ c l Try.underlying82 Try.underlying5 Try.underlying9 (fun j hj => ?_)⟩
  rw [Go.WideShapes.add_plain, Nat.zero_add, World.ownsRow.cellAt h j (by omega)]
  simp [bv, hj]

theorem valB_len (k n : Int) (s : ByteArray) (h : mayV k n s) : (valB k n s).length ≤ 66 := by
  unfold valB tailB
  rcases h with ⟨rfl, _, h⟩ | ⟨rfl, h⟩ | ⟨rfl, _, h⟩ | ⟨rfl, _, h⟩
  · simp
  · rw [if_pos rfl, List.length_cons, bytesOf_len]; omega
  · rw [if_neg (by omega), if_pos rfl]
    have : s.data.toList.length = s.size := by simp
    simp only [List.length_cons, this]; omega
  · simp
/-- A value's number. -/
def hashN (k n : Int) (s : ByteArray) : Int := if mayV k n s then (Crc.sumOf (valB k n s) : Int) else 0

theorem may_size {k n : Int} {s : ByteArray} (h : mayV k n s) : s.size ≤ 64 := by unfold mayV at h; omega
theorem hash_is (k n : Int) (s : ByteArray) (hs : s.size ≤ 9223372036854775807) (w : World) : Calls Try.prog 38 #[vv k n s] w fun e w' => e = .returned (.int .i64 (hashN k n s)) ∧ Below w.heap.size w w' := by
  have HM0 := may_is k n s hs
  by_cases hm : mayV k n s
  · simp only [decide_eq_true hm] at HM0
    have HM : Hid _ := HM0
    have HH : Hid (hashN k n s = (Crc.sumOf (valB k n s) : Int)) := if_pos hm
    have hvl : (valB k n s).length ≤ 66 := valB_len k n s hm
    have HC : Hid (∀ w, Calls Try.prog 41 #[.string ⟨(valB k n s).toArray⟩] w fun e w' => e = .returned (.int .i64 (Crc.sumOf (valB k n s) : Int)) ∧ w' = w) := fun w => by
      have := Crc.sum_is ⟨(valB k n s).toArray⟩ (by show (valB k n s).toArray.size ≤ _; simp; omega) w
      exact this
    clear HM0
    go_enter Try.func38, Try.ntmps38
    go_wp2_with fail
    refine Calls.mono (HM.out _) ?_; rintro e w1 ⟨rfl, k1⟩
    have HK : Hid (Below w.heap.size w w1) := Below.next (below1 _ _) k1
    obtain ⟨d0, d1, d2⟩ := (At.new w k n s).next k1
    have HA : Hid _ := appendValue_is (w := w1) (v := .slice none 0 0) (l := []) (B := w1.heap.size) (World.ownsRow_nil _ _ _ _) k n s (by have := may_size hm; omega) (by simp) (Nat.le_refl _)
    clear k1 hvl
    go_wp2_with fail
    refine Calls.mono HA.out ?_; rintro e w2 ⟨v2, rfl, o2, k2⟩
    rw [List.nil_append] at o2
    have HK2 : Hid (Below w.heap.size w w2) := Below.next HK.out k2
    obtain ⟨g, m, cc, rfl, hcv⟩ := own_str o2 (by simp [valB])
    obtain ⟨L, hL⟩ : ∃ L, valB k n s = L := ⟨_, rfl⟩
    rw [hL] at hcv HC HH
    clear k2 o2 hL HA
    go_wp2_with fail
    refine Calls.mono (HC.out _) ?_; rintro e w3 ⟨rfl, rfl⟩
    go_wp2_with fail
    go_ret
    exact ⟨by rw [HH.out]; rfl, HK2.out⟩
  · simp only [decide_eq_false hm] at HM0
    have HM : Hid _ := HM0
    have HH : Hid (hashN k n s = 0) := if_neg hm
    clear HM0
    go_enter Try.func38, Try.ntmps38
    go_wp2_with fail
    refine Calls.mono (HM.out _) ?_; rintro e w1 ⟨rfl, k1⟩
    have HK : Hid (Below w.heap.size w w1) := Below.next (below1 _ _) k1
    clear k1
    go_wp2_with fail
    go_ret
    exact ⟨by rw [HH.out]; rfl, HK.out⟩

theorem hashN_range (k n : Int) (s : ByteArray) : 0 ≤ hashN k n s ∧ hashN k n s < 4294967296 := by
  unfold hashN
  split
  · have := Crc.sumOf_lt (valB k n s); omega
  · omega
end Go.Proofs.Ytgjeobmbfeinnaa
