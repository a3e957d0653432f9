/- The document's tokens as text. -/
import Derived.Test.YtgokilochbnbaaaDoorRl
import Derived.Test.YtgokilochbnbaaaDoorNf
namespace Go.Proofs.YtgokilochbnbaaaDoor
open Go.ChangeShapes Go.WideShapes Go.ChangeAt Go.RowKit
set_option linter.unusedVariables false
set_option maxRecDepth 100000

theorem rmay_yes (s : ByteArray) (hs : (s.size : Int) ≤ 64) (w : World) : Calls Tryd.prog 56 #[vv 2 0 s] w fun e w' => e = .returned (.bool true) ∧ Below w.heap.size w w' := by
  go_enter Tryd.func56, Tryd.ntmps56
  go_wp2
  go_ret
  exact ⟨rfl, below1 _ _⟩
theorem rmay_no (s : ByteArray) (hs : ¬ (s.size : Int) ≤ 64) (w : World) : Calls Tryd.prog 56 #[vv 2 0 s] w fun e w' => e = .returned (.bool false) ∧ Below w.heap.size w w' := by
  go_enter Tryd.func56, Tryd.ntmps56
  go_wp2
  go_ret
  exact ⟨rfl, below1 _ _⟩
theorem rshow_not (s : ByteArray) (hs : ¬ (s.size : Int) ≤ 64) (w : World) : Calls Tryd.prog 28 #[vv 2 0 s] w fun e w' => e = .returned (.string ⟨#[110, 117, 108, 108]⟩) ∧ Below w.heap.size w w' := by
  have HM : Hid (∀ w, Calls Tryd.prog 56 #[vv 2 0 s] w fun e w' => e = .returned (.bool false) ∧ Below w.heap.size w w') := fun w => rmay_no s hs w
  go_enter Tryd.func28, Tryd.ntmps28
  go_wp2_with fail
  refine Calls.mono (HM.out _) ?_; rintro e w1 ⟨rfl, k1⟩
  have HK : Hid (Below w.heap.size w w1) := Below.next (below1 _ _) k1
  clear k1
  go_wp2_with fail
  go_ret
  exact ⟨rfl, HK.out⟩
set_option maxHeartbeats 1000000 in
theorem rshow_text (s : ByteArray) (hs : (s.size : Int) ≤ 64) (w : World) : Calls Tryd.prog 28 #[vv 2 0 s] w fun e w' => e = .returned (.string ⟨(39 :: dupL 39 s.data.toList ++ [39]).toArray⟩) ∧ Below w.heap.size w w' := by
  have HM : Hid (∀ w, Calls Tryd.prog 56 #[vv 2 0 s] w fun e w' => e = .returned (.bool true) ∧ Below w.heap.size w w') := fun w => rmay_yes s hs w
  have HALL : Hid (s.data.toList.take s.size = s.data.toList) := List.take_of_length_le (by rw [len_of]; exact Nat.le_refl _)
  go_enter Tryd.func28, Tryd.ntmps28
  go_wp2_with fail
  refine Calls.mono (HM.out _) ?_; rintro e w1 ⟨rfl, k1⟩
  have HAt : Hid (At w1 w.heap.size 0 2 0 s) := (At.new w 2 0 s).next k1
  obtain ⟨d0, d1, d2⟩ := HAt.out
  have HK : Hid (Below w.heap.size w w1) := Below.next (below1 _ _) k1
  have z1 : w.heap.size < w1.heap.size := HAt.out.lt
  have HO : Hid (OwnB (w1.alloc (.cells #[.int .u8 39] 5)) w1.heap.size (.slice (some ⟨w1.heap.size, 0, none⟩) 1 1) [39]) := OwnB.new w1 39 rfl
  have HA1 : Hid (At (w1.alloc (.cells #[.int .u8 39] 5)) w.heap.size 0 2 0 s) := HAt.out.next (below1 _ _)
  have HKeep : Hid (∀ (V W : World), Below w1.heap.size V W → At V w.heap.size 0 2 0 s → At W w.heap.size 0 2 0 s) := fun V W k h => h.below k z1
  clear k1
  go_wp2_with fail
  go_loopw [3, 4] (fun out i wr => ∃ k : Nat, k ≤ s.size ∧ i = .int .i64 k ∧ Hid (OwnB wr w1.heap.size out (39 :: dupL 39 (s.data.toList.take k)) ∧ At wr w.heap.size 0 2 0 s ∧ Below w.heap.size w wr ∧ w1.heap.size ≤ wr.heap.size))
    (fun _ i _ => s.size - (intOf i).toNat)
  case atStart => exact ⟨0, Nat.zero_le _, rfl, HO.out, HA1.out, HK.out.alloc HK.out.size _, by simp⟩
  case round =>
    obtain ⟨k, hk, rfl, HI⟩ := hrel
    obtain ⟨a0, a1, a2⟩ := HI.out.2.1
    have hln : (39 :: dupL 39 (s.data.toList.take k)).length ≤ 3000 := by
      have := (dupL_len 39 (s.data.toList.take k)).2
      rw [List.length_take, len_of] at this
      rw [List.length_cons]
      omega
    have HLn : Hid ((39 :: dupL 39 (s.data.toList.take k)).length ≤ 3000) := hln
    clear hln
    by_cases hlt : k < s.size
    · have hlti : (k : Int) < (s.size : Int) := by omega
      have HT : Hid (s.data.toList.take (k + 1) = s.data.toList.take k ++ [s[k]]) := take_byte s k hlt
      obtain ⟨c, hc⟩ : ∃ c, s[k] = c := ⟨_, rfl⟩
      rw [hc] at HT
      by_cases hq : c = 39
      · have hqn : s[k].toNat = 39 := by rw [hc, hq]; rfl
        obtain ⟨v2, w2, ra, o2, b2, _, _⟩ := append_byte HI.out.1 39 (by have := HLn.out; omega) HI.out.2.2.2
        have z2 := b2.size
        obtain ⟨v3, w3, rb, o3, b3, _, _⟩ := append_byte o2 39 (by rw [List.length_append]; have := HLn.out; simp at *; omega) (Nat.le_trans HI.out.2.2.2 z2)
        have RA : Hid ((Builtin.append_ #[35, 35] 35 #[u3, .slice (some ⟨wr.heap.size, 0, none⟩) 1 1]).run Tryd.prog (wr.alloc (.cells #[.int .u8 39] 5)) = .ok v2 w2) := ra
        have RB : Hid ((Builtin.append_ #[35, 35] 35 #[v2, .slice (some ⟨w2.heap.size, 0, none⟩) 1 1]).run Tryd.prog (w2.alloc (.cells #[.int .u8 39] 5)) = .ok v3 w3) := rb
        have hb2 := b2.mono (B := w1.heap.size) (by omega : w1.heap.size ≤ w1.heap.size)
        obtain ⟨e0, e1, e2⟩ := HKeep.out wr w2 b2 HI.out.2.1
        have HE : Hid (OwnB w3 w1.heap.size v3 (39 :: dupL 39 (s.data.toList.take (k + 1))) ∧ At w3 w.heap.size 0 2 0 s ∧ Below w.heap.size w w3 ∧ w1.heap.size ≤ w3.heap.size) := by
          refine ⟨?_, HKeep.out w2 w3 b3 (HKeep.out wr w2 b2 HI.out.2.1), (HI.out.2.2.1.trans (b2.mono (by omega))).trans (b3.mono (by omega)), Nat.le_trans HI.out.2.2.2 (Nat.le_trans z2 b3.size)⟩
          rw [HT.out, dupL_snoc, if_pos hq]
          have : (39 :: (dupL 39 (s.data.toList.take k) ++ [39, 39]) : List UInt8) = (39 :: dupL 39 (s.data.toList.take k) ++ [39]) ++ [39] := by simp
          rw [this]
          exact o3
        clear ra rb o2 o3 b2 b3 hb2 hc HT
        go_wp2_with (first | ((with_reducible apply st_append (x := .tmp 30)); (case ho => rfl); (case hgd => rfl); (case hr => exact RA.out)) | ((with_reducible apply st_append (x := .tmp 33)); (case ho => rfl); (case hgd => rfl); (case hr => exact RB.out)))
        go_roundw
        case rel => exact ⟨k + 1, by omega, by go_num, HE⟩
        case measure => simp [intOf]; omega
      · have hqn : ¬ s[k].toNat = 39 := fun e => hq (by rw [← hc]; exact UInt8.toNat_inj.1 e)
        have hqb : ((s[k].toNat : Int) == 39) = false := by simp; omega
        have hqi : ¬ (s[k].toNat : Int) = 39 := by omega
        obtain ⟨v2, w2, ra, o2, b2, _, _⟩ := append_byte HI.out.1 c (by have := HLn.out; omega) HI.out.2.2.2
        rw [← hc] at ra
        have RA : Hid ((Builtin.append_ #[35, 35] 35 #[u3, .slice (some ⟨wr.heap.size, 0, none⟩) 1 1]).run Tryd.prog (wr.alloc (.cells #[.int .u8 (s[k].toNat : Int)] 5)) = .ok v2 w2) := ra
        have HE : Hid (OwnB w2 w1.heap.size v2 (39 :: dupL 39 (s.data.toList.take (k + 1))) ∧ At w2 w.heap.size 0 2 0 s ∧ Below w.heap.size w w2 ∧ w1.heap.size ≤ w2.heap.size) := by
          refine ⟨?_, HKeep.out wr w2 b2 HI.out.2.1, HI.out.2.2.1.trans (b2.mono (by omega)), Nat.le_trans HI.out.2.2.2 b2.size⟩
          rw [HT.out, dupL_snoc, if_neg hq]
          exact o2
        clear ra o2 b2 hc HT
        go_wp2_with (first | ((with_reducible apply st_append (x := .tmp 33)); (case ho => rfl); (case hgd => rfl); (case hr => exact RA.out)))
        go_roundw
        case rel => exact ⟨k + 1, by omega, by go_num, HE⟩
        case measure => simp [intOf]; omega
    · have hlti : ¬ (k : Int) < (s.size : Int) := by omega
      obtain rfl : k = s.size := by omega
      obtain ⟨v2, w2, ra, o2, b2, _, _⟩ := append_byte HI.out.1 39 (by have := HLn.out; omega) HI.out.2.2.2
      rw [HALL.out] at o2
      have RA : Hid ((Builtin.append_ #[35, 35] 35 #[u3, .slice (some ⟨wr.heap.size, 0, none⟩) 1 1]).run Tryd.prog (wr.alloc (.cells #[.int .u8 39] 5)) = .ok v2 w2) := ra
      have hcv := o2.str
      have HB : Hid (Below w.heap.size w w2) := HI.out.2.2.1.trans (b2.mono (by omega))
      clear ra o2 b2
      go_wp2_with (first | ((with_reducible apply st_append (x := .tmp 40)); (case ho => rfl); (case hgd => rfl); (case hr => exact RA.out)))
      go_ret
      exact ⟨rfl, HB.out⟩

/-- A token that lies in a block of its own. -/
structure AtK (w : World) (b : Nat) (k : Int) (s : ByteArray) (n a : Int) : Prop where
  c0 : w.cell? ⟨b, 0, none⟩ = some (.int .i64 k)
  c1 : w.cell? ⟨b, 1, none⟩ = some (.string s)
  c2 : w.cell? ⟨b, 2, none⟩ = some (.int .i64 n)
  c3 : w.cell? ⟨b, 3, none⟩ = some (.int .i64 a)
theorem AtK.new (w : World) (k : Int) (s : ByteArray) (n a : Int) : AtK (w.alloc (.cells #[.int .i64 k, .string s, .int .i64 n, .int .i64 a] 29)) w.heap.size k s n a := ⟨by simp, by simp, by simp, by simp⟩
theorem AtK.lt {w : World} {b : Nat} {k : Int} {s : ByteArray} {n a : Int} (h : AtK w b k s n a) : b < w.heap.size := World.block_lt_of_cell? w _ h.c0
theorem AtK.below {B : Nat} {w w' : World} {b : Nat} {k : Int} {s : ByteArray} {n a : Int} (h : AtK w b k s n a) (hb : Below B w w') (hB : b < B) : AtK w' b k s n a :=
  ⟨(hb.cell (p := ⟨b, 0, none⟩) hB).trans h.c0, (hb.cell (p := ⟨b, 1, none⟩) hB).trans h.c1, (hb.cell (p := ⟨b, 2, none⟩) hB).trans h.c2, (hb.cell (p := ⟨b, 3, none⟩) hB).trans h.c3⟩
theorem AtK.next {w w' : World} {b : Nat} {k : Int} {s : ByteArray} {n a : Int} (h : AtK w b k s n a) (hb : Below w.heap.size w w') : AtK w' b k s n a := h.below hb h.lt
def RPut (k : Int) (s : ByteArray) (n a : Int) (R : ByteArray) (w : World) : Prop := Calls Tryd.prog 13 #[tv k s n a] w fun e w' => e = .returned (.string R) ∧ Below w.heap.size w w'
theorem rput_word (s : ByteArray) (n a : Int) (H : Hid (∀ w, Calls Tryd.prog 17 #[.string s] w fun e w' => e = .returned (.bool true) ∧ Below w.heap.size w w')) (w : World) : RPut 1 s n a s w := by
  unfold RPut
  go_enter Tryd.func13, Tryd.ntmps13
  go_wp2_with fail
  refine Calls.mono (H.out _) ?_; rintro e w1 ⟨rfl, k1⟩
  have HK : Hid (Below w.heap.size w w1) := Below.next (below1 _ _) k1
  obtain ⟨d0, d1, d2, d3⟩ := (AtK.new w 1 s n a).next k1
  clear k1
  go_wp2_with fail
  go_ret
  exact ⟨rfl, HK.out⟩
set_option maxHeartbeats 1000000 in
theorem rput_name (s : ByteArray) (hs : s.size ≤ 1000) (n a : Int) (H : Hid (∀ w, Calls Tryd.prog 17 #[.string s] w fun e w' => e = .returned (.bool false) ∧ Below w.heap.size w w')) (w : World) : RPut 1 s n a ⟨(34 :: dupL 34 s.data.toList ++ [34]).toArray⟩ w := by
  unfold RPut
  have HALL : Hid (s.data.toList.take s.size = s.data.toList) := List.take_of_length_le (by rw [len_of]; exact Nat.le_refl _)
  go_enter Tryd.func13, Tryd.ntmps13
  go_wp2_with fail
  refine Calls.mono (H.out _) ?_; rintro e w1 ⟨rfl, k1⟩
  have HAt : Hid (AtK w1 w.heap.size 1 s n a) := (AtK.new w 1 s n a).next k1
  obtain ⟨d0, d1, d2, d3⟩ := HAt.out
  have HK : Hid (Below w.heap.size w w1) := Below.next (below1 _ _) k1
  have z1 : w.heap.size < w1.heap.size := HAt.out.lt
  have HO : Hid (OwnB (w1.alloc (.cells #[.int .u8 34] 5)) w1.heap.size (.slice (some ⟨w1.heap.size, 0, none⟩) 1 1) [34]) := OwnB.new w1 34 rfl
  have HA1 : Hid (AtK (w1.alloc (.cells #[.int .u8 34] 5)) w.heap.size 1 s n a) := HAt.out.next (below1 _ _)
  have HKeep : Hid (∀ (V W : World), Below w1.heap.size V W → AtK V w.heap.size 1 s n a → AtK W w.heap.size 1 s n a) := fun V W k h => h.below k z1
  clear k1
  go_wp2_with fail
  go_loopw [3, 4] (fun out i wr => ∃ k : Nat, k ≤ s.size ∧ i = .int .i64 k ∧ Hid (OwnB wr w1.heap.size out (34 :: dupL 34 (s.data.toList.take k)) ∧ AtK wr w.heap.size 1 s n a ∧ Below w.heap.size w wr ∧ w1.heap.size ≤ wr.heap.size))
    (fun _ i _ => s.size - (intOf i).toNat)
  case atStart => exact ⟨0, Nat.zero_le _, rfl, HO.out, HA1.out, HK.out.alloc HK.out.size _, by simp⟩
  case round =>
    obtain ⟨k, hk, rfl, HI⟩ := hrel
    obtain ⟨a0, a1, a2, a3⟩ := HI.out.2.1
    have hln : (34 :: dupL 34 (s.data.toList.take k)).length ≤ 3000 := by
      have := (dupL_len 34 (s.data.toList.take k)).2
      rw [List.length_take, len_of] at this
      rw [List.length_cons]
      omega
    have HLn : Hid ((34 :: dupL 34 (s.data.toList.take k)).length ≤ 3000) := hln
    clear hln
    by_cases hlt : k < s.size
    · have hlti : (k : Int) < (s.size : Int) := by omega
      have HT : Hid (s.data.toList.take (k + 1) = s.data.toList.take k ++ [s[k]]) := take_byte s k hlt
      obtain ⟨c, hc⟩ : ∃ c, s[k] = c := ⟨_, rfl⟩
      rw [hc] at HT
      by_cases hq : c = 34
      · have hqn : s[k].toNat = 34 := by rw [hc, hq]; rfl
        obtain ⟨v2, w2, ra, o2, b2, _, _⟩ := append_byte HI.out.1 34 (by have := HLn.out; omega) HI.out.2.2.2
        have z2 := b2.size
        obtain ⟨v3, w3, rb, o3, b3, _, _⟩ := append_byte o2 34 (by rw [List.length_append]; have := HLn.out; simp at *; omega) (Nat.le_trans HI.out.2.2.2 z2)
        have RA : Hid ((Builtin.append_ #[35, 35] 35 #[u3, .slice (some ⟨wr.heap.size, 0, none⟩) 1 1]).run Tryd.prog (wr.alloc (.cells #[.int .u8 34] 5)) = .ok v2 w2) := ra
        have RB : Hid ((Builtin.append_ #[35, 35] 35 #[v2, .slice (some ⟨w2.heap.size, 0, none⟩) 1 1]).run Tryd.prog (w2.alloc (.cells #[.int .u8 34] 5)) = .ok v3 w3) := rb
        have hb2 := b2.mono (B := w1.heap.size) (by omega : w1.heap.size ≤ w1.heap.size)
        obtain ⟨e0, e1, e2, e3⟩ := HKeep.out wr w2 b2 HI.out.2.1
        have HE : Hid (OwnB w3 w1.heap.size v3 (34 :: dupL 34 (s.data.toList.take (k + 1))) ∧ AtK w3 w.heap.size 1 s n a ∧ Below w.heap.size w w3 ∧ w1.heap.size ≤ w3.heap.size) := by
          refine ⟨?_, HKeep.out w2 w3 b3 (HKeep.out wr w2 b2 HI.out.2.1), (HI.out.2.2.1.trans (b2.mono (by omega))).trans (b3.mono (by omega)), Nat.le_trans HI.out.2.2.2 (Nat.le_trans z2 b3.size)⟩
          rw [HT.out, dupL_snoc, if_pos hq]
          have : (34 :: (dupL 34 (s.data.toList.take k) ++ [34, 34]) : List UInt8) = (34 :: dupL 34 (s.data.toList.take k) ++ [34]) ++ [34] := by simp
          rw [this]
          exact o3
        clear ra rb o2 o3 b2 b3 hb2 hc HT
        go_wp2_with (first | ((with_reducible apply st_append (x := .tmp 27)); (case ho => rfl); (case hgd => rfl); (case hr => exact RA.out)) | ((with_reducible apply st_append (x := .tmp 30)); (case ho => rfl); (case hgd => rfl); (case hr => exact RB.out)))
        go_roundw
        case rel => exact ⟨k + 1, by omega, by go_num, HE⟩
        case measure => simp [intOf]; omega
      · have hqn : ¬ s[k].toNat = 34 := fun e => hq (by rw [← hc]; exact UInt8.toNat_inj.1 e)
        have hqb : ((s[k].toNat : Int) == 34) = false := by simp; omega
        have hqi : ¬ (s[k].toNat : Int) = 34 := by omega
        obtain ⟨v2, w2, ra, o2, b2, _, _⟩ := append_byte HI.out.1 c (by have := HLn.out; omega) HI.out.2.2.2
        rw [← hc] at ra
        have RA : Hid ((Builtin.append_ #[35, 35] 35 #[u3, .slice (some ⟨wr.heap.size, 0, none⟩) 1 1]).run Tryd.prog (wr.alloc (.cells #[.int .u8 (s[k].toNat : Int)] 5)) = .ok v2 w2) := ra
        have HE : Hid (OwnB w2 w1.heap.size v2 (34 :: dupL 34 (s.data.toList.take (k + 1))) ∧ AtK w2 w.heap.size 1 s n a ∧ Below w.heap.size w w2 ∧ w1.heap.size ≤ w2.heap.size) := by
          refine ⟨?_, HKeep.out wr w2 b2 HI.out.2.1, HI.out.2.2.1.trans (b2.mono (by omega)), Nat.le_trans HI.out.2.2.2 b2.size⟩
          rw [HT.out, dupL_snoc, if_neg hq]
          exact o2
        clear ra o2 b2 hc HT
        go_wp2_with (first | ((with_reducible apply st_append (x := .tmp 30)); (case ho => rfl); (case hgd => rfl); (case hr => exact RA.out)))
        go_roundw
        case rel => exact ⟨k + 1, by omega, by go_num, HE⟩
        case measure => simp [intOf]; omega
    · have hlti : ¬ (k : Int) < (s.size : Int) := by omega
      obtain rfl : k = s.size := by omega
      obtain ⟨v2, w2, ra, o2, b2, _, _⟩ := append_byte HI.out.1 34 (by have := HLn.out; omega) HI.out.2.2.2
      rw [HALL.out] at o2
      have RA : Hid ((Builtin.append_ #[35, 35] 35 #[u3, .slice (some ⟨wr.heap.size, 0, none⟩) 1 1]).run Tryd.prog (wr.alloc (.cells #[.int .u8 34] 5)) = .ok v2 w2) := ra
      have hcv := o2.str
      have HB : Hid (Below w.heap.size w w2) := HI.out.2.2.1.trans (b2.mono (by omega))
      clear ra o2 b2
      go_wp2_with (first | ((with_reducible apply st_append (x := .tmp 37)); (case ho => rfl); (case hgd => rfl); (case hr => exact RA.out)))
      go_ret
      exact ⟨rfl, HB.out⟩
theorem rput_key (s : ByteArray) (n a : Int) (w : World) : RPut 2 s n a s w := by
  unfold RPut
  go_enter Tryd.func13, Tryd.ntmps13
  go_wp2_with fail
  go_ret
  exact ⟨rfl, below1 _ _⟩
theorem rput_sign (s : ByteArray) (n a : Int) (w : World) : RPut 5 s n a s w := by
  unfold RPut
  go_enter Tryd.func13, Tryd.ntmps13
  go_wp2_with fail
  go_ret
  exact ⟨rfl, below1 _ _⟩
theorem rput_int (s R : ByteArray) (n a : Int) (H : Hid (∀ w, Calls Tryd.prog 27 #[.int .i64 n] w fun e w' => e = .returned (.string R) ∧ Below w.heap.size w w')) (w : World) : RPut 3 s n a R w := by
  unfold RPut
  go_enter Tryd.func13, Tryd.ntmps13
  go_wp2_with fail
  refine Calls.mono (H.out _) ?_; rintro e w1 ⟨rfl, k1⟩
  have HK : Hid (Below w.heap.size w w1) := Below.next (below1 _ _) k1
  clear k1
  go_wp2_with fail
  go_ret
  exact ⟨rfl, HK.out⟩
theorem rput_text (s R : ByteArray) (n a : Int) (H : Hid (∀ w, Calls Tryd.prog 28 #[vv 2 0 s] w fun e w' => e = .returned (.string R) ∧ Below w.heap.size w w')) (w : World) : RPut 4 s n a R w := by
  unfold RPut
  go_enter Tryd.func13, Tryd.ntmps13
  go_wp2_with fail
  refine Calls.mono (H.out _) ?_; rintro e w1 ⟨rfl, k1⟩
  have HK : Hid (Below w.heap.size w w1) := Below.next (below1 _ _) k1
  clear k1
  go_wp2_with fail
  go_ret
  exact ⟨rfl, HK.out⟩
theorem rput_none (s : ByteArray) (k n a : Int) (h1 : (k == 1) = false) (h2 : (k == 2) = false) (h3 : (k == 3) = false) (h4 : (k == 4) = false) (h5 : (k == 5) = false) (w : World) : RPut k s n a ⟨#[]⟩ w := by
  unfold RPut
  go_enter Tryd.func13, Tryd.ntmps13
  go_wp2_with fail
  go_ret
  exact ⟨rfl, below1 _ _⟩
theorem rput_is (s : ByteArray) (hs : s.size ≤ 1000) (k n a : Int) (hn : -9223372036854775808 ≤ n ∧ n ≤ 9223372036854775807) (w : World) : RPut k s n a ⟨(putV k s.data.toList n).toArray⟩ w := by
  unfold putV
  by_cases h1 : k = 1
  · subst h1
    rw [if_pos rfl]
    have hw := fun w => word_ref s (by omega) w
    cases hb : wordB s.data.toList
    · rw [hb] at hw
      exact rput_name s hs n a hw w
    · rw [hb] at hw
      simp only [if_true]
      rw [← ba_of s]
      exact rput_word s n a hw w
  · rw [if_neg h1]
    by_cases h2 : k = 2
    · subst h2
      rw [if_pos rfl, ← ba_of s]
      exact rput_key s n a w
    · rw [if_neg h2]
      by_cases h5 : k = 5
      · subst h5
        rw [if_pos rfl, ← ba_of s]
        exact rput_sign s n a w
      · rw [if_neg h5]
        by_cases h3 : k = 3
        · subst h3
          rw [if_pos rfl]
          exact rput_int s _ n a (fun w => Num.refText_any n hn w) w
        · rw [if_neg h3]
          by_cases h4 : k = 4
          · subst h4
            rw [if_pos rfl, len_of]
            by_cases hl : s.size ≤ 64
            · rw [if_pos hl]
              exact rput_text s _ n a (fun w => rshow_text s (by omega) w) w
            · rw [if_neg hl]
              exact rput_text s _ n a (fun w => rshow_not s (by omega) w) w
          · rw [if_neg h4]
            exact rput_none s k n a (by simpa using h1) (by simpa using h2) (by simpa using h3) (by simpa using h4) (by simpa using h5) w
end Go.Proofs.YtgokilochbnbaaaDoor
