/- value: rows that are the same; a text as it is written. -/
import Derived.Test.YtmjajlmknncggaaDoorTake
import Derived.BigQuiet
namespace Go.Proofs.YtmjajlmknncggaaDoor
open Go.ChangeShapes Go.WideShapes Go.RowKit
set_option linter.unusedVariables false
set_option maxRecDepth 100000

theorem same_is (a b : Option Addr) (c d n : Nat) (r : List V) (hn : r.length = n) (hl : n ≤ 1000000) (w : World) (h : Row w (.slice a r.length c) r) (h' : Row w (.slice b r.length d) r) :
    Calls Tryd.prog 20 #[.slice a n c, .slice b n d] w fun e w' => e = .returned (.bool true) ∧ Below w.heap.size w w' := by
  have HA : Hid (Row w (.slice a r.length c) r) := h
  have HB : Hid (Row w (.slice b r.length d) r) := h'
  have HN : Hid _ := hn
  clear h h' hn
  go_enter Tryd.func20, Tryd.ntmps20
  go_wp2_with fail
  go_loopw [5] (fun i wr => ∃ k : Nat, k ≤ n ∧ i = .int .i64 k ∧ Hid (Below w.heap.size w wr))
    (fun i _ => n - (intOf i).toNat)
  case atStart => exact ⟨0, Nat.zero_le _, rfl, Below.refl _ _⟩
  case round =>
    obtain ⟨k, hk, rfl, HI⟩ := hrel
    by_cases hlt : k < n
    · have hlti : (k : Int) < (n : Int) := by omega
      have hkl : k < r.length := by have := HN.out; omega
      obtain ⟨b1, o1, rfl, A1⟩ := HA.out.at k hkl
      obtain ⟨b2, o2, rfl, A2⟩ := HB.out.at k hkl
      obtain ⟨c0, c1, c2⟩ := A1.below HI.out A1.lt
      obtain ⟨e0, e1, e2⟩ := A2.below HI.out A2.lt
      generalize r[k] = x at *
      obtain ⟨xk, xn, xs⟩ := x
      clear A1 A2
      go_wp2_with fail
      go_quiet (fail)
      have HE : Hid (Below w.heap.size w (wr.drewN nq)) := ⟨HI.out.os, HI.out.tape, HI.out.output, HI.out.size, HI.out.block⟩
      generalize wr.drewN nq = wq at *
      clear c0 c1 c2 e0 e1 e2
      go_wp2_with fail
      go_roundw
      case rel => exact ⟨k + 1, by omega, by go_num, HE.out⟩
      case measure => simp [intOf]; omega
    · have hlti : ¬ (k : Int) < (n : Int) := by omega
      go_wp2_with fail
      go_ret
      exact ⟨rfl, HI.out⟩

theorem replaceK_len (old new : List UInt8) (k : Nat) : ∀ s : List UInt8, (Lib.replaceK old new k s).length ≤ s.length + k * new.length := by
  induction k with
  | zero => intro s; simp [Lib.replaceK]
  | succ k ih =>
    intro s
    rw [Lib.replaceK]
    split
    · omega
    · have h := ih (s.drop ((Lib.index s old).toNat + old.length))
      rw [List.length_append, List.length_append, List.length_take]
      rw [List.length_drop] at h
      have e : (k + 1) * new.length = k * new.length + new.length := by rw [Nat.add_mul, Nat.one_mul]
      omega
theorem replace_len (s : ByteArray) (hs : s.size ≤ 1000) : (Lib.replaceAll s.data.toList [39] [39, 39]).length ≤ 3000 := by
  have hcn := Lib.countB_mul_le ⟨#[39]⟩ (by decide) s.size s (Nat.le_refl _)
  have e1 : (⟨#[39]⟩ : ByteArray).size = 1 := rfl
  rw [e1] at hcn
  have hc : Lib.count s.data.toList [39] ≤ s.size := by
    have : Lib.countB s ⟨#[39]⟩ = Lib.count s.data.toList [39] := rfl
    omega
  unfold Lib.replaceAll Lib.replace
  split
  · rw [len_size]; omega
  · have h := replaceK_len [39] [39, 39] (Lib.replaceNum s.data.toList [39] (-1)) s.data.toList
    have e : Lib.replaceNum s.data.toList [39] (-1) = Lib.count s.data.toList [39] := by unfold Lib.replaceNum; rw [if_pos (.inl (by omega))]
    rw [e] at h ⊢
    rw [len_size] at h
    have e2 : ([39, 39] : List UInt8).length = 2 := rfl
    rw [e2] at h
    omega
theorem show_text (s : ByteArray) (hs : s.size ≤ 64) (w : World) (hg : Glob w) :
    Calls Tryd.prog 21 #[vv 2 0 s] w fun e w' => e = .returned (.string ⟨(39 :: (Lib.replaceAll s.data.toList [39] [39, 39] ++ [39])).toArray⟩) ∧ Below w.heap.size w w' := by
  have HM : Hid (∀ w, Calls Tryd.prog 28 #[vv 2 0 s] w fun e w' => e = .returned (.bool true) ∧ Below w.heap.size w w') := by
    have := may_is 2 0 s (by omega)
    simp only [decide_eq_true (show mayV 2 0 s from .inr (.inr (.inl ⟨rfl, rfl, hs⟩)))] at this
    exact this
  go_enter Tryd.func21, Tryd.ntmps21
  go_wp2_with fail
  refine Calls.mono (HM.out _) ?_; rintro e w1 ⟨rfl, k1⟩
  obtain ⟨d0, d1, d2⟩ := (At.new w 2 0 s).next k1
  have hg1 : Glob w1 := hg.next (Below.next (below1 _ _) k1)
  obtain ⟨m, hm⟩ := hg1
  have hcn := Lib.countB_mul_le ⟨#[39]⟩ (by decide) s.size s (Nat.le_refl _)
  have HR : Hid _ := Tryd.strings_ReplaceAll s ⟨#[39]⟩ ⟨#[39, 39]⟩ m w1 (by omega) hm (by decide) (by have e1 : (⟨#[39]⟩ : ByteArray).size = 1 := rfl; have e2 : (⟨#[39, 39]⟩ : ByteArray).size = 2 := rfl; rw [e1] at hcn; rw [e2]; omega)
  have HK : Hid (Below w.heap.size w w1) := Below.next (below1 _ _) k1
  clear hm hcn k1
  go_wp2_with fail
  refine Calls.mono HR.out ?_; rintro e w2 ⟨rfl, k2⟩
  have HK2 : Hid (Below w.heap.size w w2) := Below.next HK.out k2
  obtain ⟨R, hR⟩ : ∃ R, Lib.replaceAll s.data.toList (⟨#[39]⟩ : ByteArray).data.toList (⟨#[39, 39]⟩ : ByteArray).data.toList = R := ⟨_, rfl⟩
  have HRR : Hid (Lib.replaceAll s.data.toList [39] [39, 39] = R) := hR
  have hrl : R.length ≤ 3000 := by rw [← HRR.out]; exact replace_len s (by omega)
  rw [hR]
  clear k2 hR
  have HQ : Hid ((⟨#[39]⟩ ++ ⟨R.toArray⟩ ++ ⟨#[39]⟩ : ByteArray) = ⟨(39 :: (R ++ [39])).toArray⟩) := by
    show (⟨#[39]⟩ ++ ⟨R.toArray⟩ ++ ⟨#[39]⟩ : ByteArray) = _
    apply bytes_ext
    simp [ByteArray.data_append]
  go_wp2_with fail
  go_ret
  exact ⟨by rw [HRR.out, ← HQ.out]; rfl, HK2.out⟩
end Go.Proofs.YtmjajlmknncggaaDoor
