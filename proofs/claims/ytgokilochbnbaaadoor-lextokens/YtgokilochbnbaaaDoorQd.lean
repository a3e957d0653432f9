/- Quoted texts. -/
import Derived.Test.YtgokilochbnbaaaDoorPx
import Derived.Test.YtgokilochbnbaaaDoorRq
import Derived.Lib.Strings
import Derived.Lib.IndexBytes
import Derived.Deep.RegionHeld
import Derived.BigQuiet
import Derived.Laws.DeepStrings4
namespace Go.Proofs.YtgokilochbnbaaaDoor
open Go.ChangeShapes Go.WideShapes Go.ChangeAt Go.RowKit
set_option linter.unusedVariables false
set_option maxRecDepth 100000

theorem clone_is (s : ByteArray) (w : World) (hlim : s.size ≤ 281474976710656) : Calls Tryd.prog 24 #[.string s] w fun e w' => e = .returned (.string s) ∧ Below w.heap.size w w' := by
  have H : Hid (∀ w, Calls Tryd.prog 52 #[.string s] w fun e w' => e = .returned (.string s) ∧ Below w.heap.size w w') := fun w => Tryd.stringslite_Clone s w hlim
  clear hlim
  go_enter Tryd.func24, Tryd.ntmps24
  go_wp2_with fail
  refine Calls.mono (H.out _) ?_; rintro e w1 ⟨rfl, k1⟩
  have HK : Hid (Below w.heap.size w w1) := k1
  clear k1
  go_wp2_with fail
  go_ret
  exact ⟨rfl, HK.out⟩
theorem ext_list (s : ByteArray) (a b : Nat) : (s.extract a b).data.toList = (s.data.toList.take b).drop a := by
  rw [Lib.extract_data, List.drop_take]
theorem ba_ext {s t : ByteArray} (h : s.data.toList = t.data.toList) : s = t := ByteArray.ext (Array.toList_inj.1 h)
theorem ba_of (s : ByteArray) : s = ⟨s.data.toList.toArray⟩ := ba_ext (by simp)
/-- Two quotes in place of one, turned back by the library. -/
theorem back_is (q : UInt8) (S : ByteArray) (t : List UInt8) (hS : S.data.toList = dupL q t) (hs : S.size ≤ 100000) (w : World) (hg : Glob w) :
    Calls Tryd.prog 51 #[.string S, .string ⟨#[q, q]⟩, .string ⟨#[q]⟩] w fun e w' => e = .returned (.string ⟨t.toArray⟩) ∧ Below w.heap.size w w' := by
  obtain ⟨m, hm⟩ := hg
  have e1 : (⟨#[q]⟩ : ByteArray).size = 1 := rfl
  have e2 : (⟨#[q, q]⟩ : ByteArray).size = 2 := rfl
  have hcn := Lib.countB_le ⟨#[q, q]⟩ (by rw [e2]; omega) S.size S (Nat.le_refl _)
  have H := Tryd.strings_ReplaceAll S ⟨#[q, q]⟩ ⟨#[q]⟩ m w (by omega) hm (by rw [e2]; omega) (by rw [e1]; omega)
  have e3 : Lib.replaceAll S.data.toList (⟨#[q, q]⟩ : ByteArray).data.toList (⟨#[q]⟩ : ByteArray).data.toList = t := by
    rw [hS]; exact replace_back q t
  rw [e3] at H
  exact H
theorem quoted_no (s : ByteArray) (hs : s.size ≤ 100000) (q : UInt8) (hq : q.toNat < 128) (r : List UInt8) (hl : s.data.toList = q :: r) (hn : quo q r = none) (w : World) :
    Calls Tryd.prog 63 #[.string s] w fun e w' => e = .returned (.tuple #[.string ⟨#[]⟩, .int .i64 0]) ∧ Below w.heap.size w w' := by
  have h1 : 1 ≤ s.size := by rw [← len_of, hl]; simp
  have hx : s.extract 0 1 = ⟨#[q]⟩ := ba_ext (by rw [ext_list, hl]; simp)
  have hz : (scan (fq q) false s.data.toList).2 = true := by
    rw [hl, scan_go (st' := true) (by unfold fq; rw [if_pos rfl]; rfl)]
    rcases quo_scan q r with ⟨t, m, a, _⟩ | ⟨_, a⟩
    · rw [hn] at a; cases a
    · exact a
  have HR : Hid (∀ (W : World) (B B1 B2 : Nat), W.cell? ⟨B1, 0, none⟩ = some (.string ⟨#[q]⟩) → W.cell? ⟨B2, 0, none⟩ = some (.bool false) → W.frozen? ⟨B2, 0, none⟩ = false → B ≤ B1 ∧ B ≤ B2 ∧ B1 < W.heap.size ∧ B2 < W.heap.size ∧ B1 ≠ B2 →
      Calls Tryd.prog 35 #[.string s, .func (.func 78) #[] #[.pointer (some ⟨B1, 0, none⟩), .pointer (some ⟨B2, 0, none⟩)]] W fun e w' => e = .returned (.int .i64 ((scan (fq q) false s.data.toList).1 : Int)) ∧ Below B W w' ∧ w'.cell? ⟨B1, 0, none⟩ = some (.string ⟨#[q]⟩) ∧ w'.cell? ⟨B2, 0, none⟩ = some (.bool true)) :=
    fun W B B1 B2 a b c d => hz ▸ run_q s (by omega) q hq W B B1 B2 a b c d
  generalize (scan (fq q) false s.data.toList).1 = N at *
  clear hl hn hz
  go_enter Tryd.func63, Tryd.ntmps63
  go_wp2_with fail
  refine Calls.mono (HR.out _ w.heap.size w.heap.size (w.heap.size + 1) (by simp) (by simp) (by simp) (by simp; omega)) ?_; rintro e w1 ⟨rfl, k1, c1, c2⟩
  have HK : Hid (Below w.heap.size w w1) := (below2 w _ _).trans k1
  clear k1
  go_wp2_with fail
  go_ret2
  exact ⟨rfl, HK.out⟩

theorem str_slice (s : ByteArray) (lo hi : Nat) (h1 : lo ≤ hi) (h2 : hi ≤ s.size) (W : World) : (Instr.sliceAt 9 (.string s) (some (.int .i64 (lo : Int))) (some (.int .i64 (hi : Int))) none).run Tryd.prog W = .ok (.string (s.extract lo hi)) W := by
  rw [run_sliceAt_string W 9 _ _ _ _ Tryd.underlying9]
  have := run_slice_string_if (P := Tryd.prog) (w := W) 9 s .i64 .i64 (lo : Int) (hi : Int) Tryd.underlying9
  rw [this, if_pos (by omega), if_pos (by omega)]
  simp
set_option maxHeartbeats 800000 in
theorem quoted_yes (s : ByteArray) (hs : s.size ≤ 100000) (q : UInt8) (hq : q.toNat < 128) (r t : List UInt8) (m : Nat) (hl : s.data.toList = q :: r) (hn : quo q r = some (t, m)) (w : World) (hg : Glob w) :
    Calls Tryd.prog 63 #[.string s] w fun e w' => e = .returned (.tuple #[.string ⟨t.toArray⟩, .int .i64 ((m + 1 : Nat) : Int)]) ∧ Below w.heap.size w w' := by
  have h1 : 1 ≤ s.size := by rw [← len_of, hl]; simp
  have hx : s.extract 0 1 = ⟨#[q]⟩ := ba_ext (by rw [ext_list, hl]; simp)
  obtain ⟨hm, r', hr, _⟩ := quo_some q r t m hn
  have hz : scan (fq q) false s.data.toList = (m + 1, false) := by
    rw [hl, scan_go (st' := true) (by unfold fq; rw [if_pos rfl]; rfl)]
    rcases quo_scan q r with ⟨t', m', a, b⟩ | ⟨a, _⟩
    · rw [hn] at a
      cases a
      rw [b]
    · rw [hn] at a; cases a
  have hms : m + 1 ≤ s.size := by
    rw [← len_of, hl, hr, hm]; simp
  have hm1 : 1 ≤ m := by omega
  have htl : t.length ≤ 100000 := by
    have := (dupL_len q t).1
    omega
  have hS : (s.extract 1 m).data.toList = dupL q t := by
    rw [ext_list, hl, hr, hm]
    simp
  have HR : Hid (∀ (W : World) (B B1 B2 : Nat), W.cell? ⟨B1, 0, none⟩ = some (.string ⟨#[q]⟩) → W.cell? ⟨B2, 0, none⟩ = some (.bool false) → W.frozen? ⟨B2, 0, none⟩ = false → B ≤ B1 ∧ B ≤ B2 ∧ B1 < W.heap.size ∧ B2 < W.heap.size ∧ B1 ≠ B2 →
      Calls Tryd.prog 35 #[.string s, .func (.func 78) #[] #[.pointer (some ⟨B1, 0, none⟩), .pointer (some ⟨B2, 0, none⟩)]] W fun e w' => e = .returned (.int .i64 ((m + 1 : Nat) : Int)) ∧ Below B W w' ∧ w'.cell? ⟨B1, 0, none⟩ = some (.string ⟨#[q]⟩) ∧ w'.cell? ⟨B2, 0, none⟩ = some (.bool false)) :=
    fun W B B1 B2 a b c d => by
      have := run_q s (by omega) q hq W B B1 B2 a b c d
      rw [hz] at this
      exact this
  have HB : Hid (∀ w, Glob w → Calls Tryd.prog 51 #[.string (s.extract 1 m), .string (⟨#[q]⟩ ++ ⟨#[q]⟩), .string ⟨#[q]⟩] w fun e w' => e = .returned (.string ⟨t.toArray⟩) ∧ Below w.heap.size w w') :=
    fun w hg => by rw [show (⟨#[q]⟩ ++ ⟨#[q]⟩ : ByteArray) = ⟨#[q, q]⟩ from ba_ext (by simp [ByteArray.data_append])]; exact back_is q (s.extract 1 m) t hS (by simp; omega) w hg
  have HC : Hid (∀ w, Calls Tryd.prog 24 #[.string ⟨t.toArray⟩] w fun e w' => e = .returned (.string ⟨t.toArray⟩) ∧ Below w.heap.size w w') :=
    fun w => clone_is ⟨t.toArray⟩ w (by show t.toArray.size ≤ _; rw [List.size_toArray]; omega)
  have HG : Hid (Glob w) := hg
  have HQQ : Hid ((⟨#[q]⟩ ++ ⟨#[q]⟩ : ByteArray) = ⟨#[q, q]⟩) := ba_ext (by simp [ByteArray.data_append])
  have hsz : (⟨#[q]⟩ : ByteArray).size = 1 := rfl
  obtain ⟨n, hnn⟩ : ∃ n : Nat, n = m + 1 := ⟨_, rfl⟩
  rw [← hnn] at HR ⊢
  have hn2 : wrap64 ((n : Int) - 1) = (m : Int) := by unfold wrap64; omega
  have hn3 : IntKind.i64.wrap ((n : Int) - 1) = (m : Int) := by rw [IntKind.wrap_i64]; omega
  clear hnn
  have hA1 : (1 : Int) ≤ (m : Int) := by omega
  have hA2 : (m : Int) ≤ (s.size : Int) := by omega
  have hSL : ∀ W, (Instr.sliceAt 9 (.string s) (some (.int .i64 1)) (some (.int .i64 (m : Int))) none).run Tryd.prog W = .ok (.string (s.extract 1 m)) W := fun W => str_slice s 1 m hm1 (by omega) W
  clear hl hz hr hm hS htl hg
  go_enter Tryd.func63, Tryd.ntmps63
  go_wp2_with fail
  refine Calls.mono (HR.out _ w.heap.size w.heap.size (w.heap.size + 1) (by simp) (by simp) (by simp) (by simp; omega)) ?_; rintro e w1 ⟨rfl, k1, c1, c2⟩
  have HK : Hid (Below w.heap.size w w1) := (below2 w _ _).trans k1
  have HG1 : Hid (Glob w1) := HG.out.next HK.out
  clear k1
  have HS0 : Hid ((Below w.heap.size w w1.drew ∧ Glob w1.drew) ∧ w1.drew.cell? ⟨w.heap.size, 0, none⟩ = some (.string ⟨#[q]⟩)) := ⟨⟨HK.out.drew, HG1.out⟩, c1⟩
  have HB2 : Hid (∀ w', ((Below w.heap.size w w' ∧ Glob w') ∧ w'.cell? ⟨w.heap.size, 0, none⟩ = some (.string ⟨#[q]⟩)) → Calls Tryd.prog 51 #[.string (s.extract 1 m), .string (⟨#[q]⟩ ++ ⟨#[q]⟩), .string ⟨#[q]⟩] w' fun e w'' => e = .returned (.string ⟨t.toArray⟩) ∧ ((Below w.heap.size w w'' ∧ Glob w'') ∧ w''.cell? ⟨w.heap.size, 0, none⟩ = some (.string ⟨#[q]⟩))) :=
    fun w' h => (HB.out w' h.1.2).mono (fun e w'' k => ⟨k.1, ⟨Below.less h.1.1 k.2 h.1.1.size, h.1.2.next k.2⟩, (k.2.cell (p := ⟨w.heap.size, 0, none⟩) (World.block_lt_of_cell? w' _ h.2)).trans h.2⟩)
  have HC2 : Hid (∀ w', ((Below w.heap.size w w' ∧ Glob w') ∧ w'.cell? ⟨w.heap.size, 0, none⟩ = some (.string ⟨#[q]⟩)) → Calls Tryd.prog 24 #[.string ⟨t.toArray⟩] w' fun e w'' => e = .returned (.string ⟨t.toArray⟩) ∧ ((Below w.heap.size w w'' ∧ Glob w'') ∧ w''.cell? ⟨w.heap.size, 0, none⟩ = some (.string ⟨#[q]⟩))) :=
    fun w' h => (HC.out w').mono (fun e w'' k => ⟨k.1, ⟨Below.less h.1.1 k.2 h.1.1.size, h.1.2.next k.2⟩, (k.2.cell (p := ⟨w.heap.size, 0, none⟩) (World.block_lt_of_cell? w' _ h.2)).trans h.2⟩)
  clear HB HC HR HG HG1
  go_wp2_with fail
  go_region_held (fun (w' : World) => (Below w.heap.size w w' ∧ Glob w') ∧ w'.cell? ⟨w.heap.size, 0, none⟩ = some (.string ⟨#[q]⟩)) (first | exact HS0.out | with_reducible assumption)
    (first
    | ((with_reducible refine Calls.mono (HB2.out _ (by with_reducible assumption)) ?_); rintro e w2 ⟨rfl, hS2⟩)
    | ((with_reducible refine Calls.mono (HC2.out _ (by with_reducible assumption)) ?_); rintro e w3 ⟨rfl, hS3⟩))
  all_goals have HB3 : Hid (Below w.heap.size w w3) := hS3.1.1
  all_goals clear hS2 hS3
  all_goals go_wp2_with fail
  all_goals go_ret2
  all_goals exact ⟨rfl, HB3.out⟩
end Go.Proofs.YtgokilochbnbaaaDoor
