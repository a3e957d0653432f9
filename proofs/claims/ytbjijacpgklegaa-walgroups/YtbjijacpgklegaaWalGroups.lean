/- Proved: for every list l of texts and every number part, quaysidelaw04.WalGroups(l, part) returns true and the arguments read as before (no condition). -/
import Derived.Test.YtbjijacpgklegaaRows
import Derived.WalkKit
import Derived.Test.YtbjijacpgklegaaWake
import Derived.Test.YtbjijacpgklegaaTwin
import Derived.ProofKit
import Derived.OpenShut
import Derived.ShutString
import Derived.ChangeOld
import Derived.Below
import Derived.Deep.Slices
namespace Go.Proofs.Ytbjijacpgklegaa.walGroups
open Go.ChangeShapes Go.WideShapes Go.ChangeAt Go.RowKit
open Go.ChangeMaps (open_string shut_string)
set_option linter.unusedVariables false

theorem own : ownKnob Try.prog.godebug = none := by kernel_rfl
theorem laidOut : laidOutB Try.prog = true := by kernel_rfl

theorem twin_new {W w1 w2 w3 w4 : World} {F F' Z Y : Nat → Prop} {q p q' p' : Nat} (d1 : Disk w1 F p (fresh 40)) (b1 : Below W.heap.size W w1) (f1 : ∀ k, F k → W.heap.size ≤ k)
    (d2 : Disk w2 F' p' (fresh 40)) (b2 : Below w1.heap.size w1 w2) (f2 : ∀ k, F' k → w1.heap.size ≤ k)
    (r3 : Rig w3 Z q p []) (k3 : Kept (fun _ => False) w2 w3) (z3 : ∀ k, Z k → F k ∨ w2.heap.size ≤ k)
    (r4 : Rig w4 Y q' p' []) (k4 : Kept (fun _ => False) w3 w4) (z4 : ∀ k, Y k → F' k ∨ w3.heap.size ≤ k) : Twin W w4 q p q' p' [] [] := by
  have hZ : ∀ k, Z k → k < w3.heap.size := by
    obtain ⟨_, _, _, _, _, _, q4, _⟩ := r3
    exact q4
  have s1 := b1.size
  have s2 := b2.size
  have s3 := k3.size
  have e1 := d1.bound
  have e2 := d2.bound
  refine ⟨Z, Y, r3.kept k4 (fun _ _ z => z), r4, fun k hz hy => ?_, fun k hz => ?_, fun k hy => ?_, b1.trans ((b2.mono s1).trans ((k3.below (Nat.le_trans s1 s2) (fun _ z => z.elim)).trans (k4.below (Nat.le_trans s1 (Nat.le_trans s2 s3)) (fun _ z => z.elim))))⟩
  · have a1 := hZ k hz
    rcases z3 k hz with x | x <;> rcases z4 k hy with y | y
    · have := e1 k x; have := f2 k y; omega
    · omega
    · have := e2 k y; omega
    · omega
  · rcases z3 k hz with x | x
    · exact f1 k x
    · omega
  · rcases z4 k hy with x | x
    · have := f2 k x; omega
    · omega

def small (g : List ByteArray) : Prop := ∀ s, s ∈ g → s.size ≠ 0 ∧ s.size ≤ 60
theorem small_may {g : List ByteArray} (h : small g) : mayG g := fun s hs => ⟨(h s hs).1, Nat.le_trans (h s hs).2 (by omega)⟩
theorem small_size {g : List ByteArray} (h : small g) : sizeG g ≤ 70 * g.length := by
  induction g with
  | nil => exact Nat.le_refl _
  | cons x r ih =>
    have h1 := ih (fun s hs => h s (List.mem_cons_of_mem _ hs))
    have h2 := (h x List.mem_cons_self).2
    rw [sizeG, List.length_cons]
    omega
theorem one_take {l : List ByteArray} {k : Nat} (hk : k < l.length) : (l.drop k).take 1 = [l[k]] := by
  rw [List.drop_eq_getElem_cons hk]
  rfl

theorem part_is (part : Int) (n : Nat) : ∃ k : Nat, k ≤ n ∧ (bits .and .i64 part 255).tmod ((n : Int) + 1) = (k : Int) := by
  rw [and_byte, Int.tmod_eq_emod_of_nonneg (by omega)]
  exact ⟨((part % 256) % ((n : Int) + 1)).toNat, by have := Int.emod_lt_of_pos (part % 256) (show (0 : Int) < (n : Int) + 1 by omega); omega, by have := Int.emod_nonneg (part % 256) (show (n : Int) + 1 ≠ 0 by omega); omega⟩
theorem empty_is {s : ByteArray} (h : s.size = 0) : s.toList.isEmpty = true := by
  rw [ByteArray.toList_eq, List.isEmpty_iff]
  exact List.length_eq_zero_iff.1 h

set_option maxRecDepth 100000 in
set_option maxHeartbeats 1000000 in
theorem walk (a : Option Addr) (c n : Nat) (l : List ByteArray) (hn : l.length = n) (part : Int) (W : World) (hl : Texts W (.slice a l.length c) l) (hcap : n ≤ c) (ha : c = 0 ∨ ∃ b o, a = some ⟨b, o, none⟩) (hc : c ≤ 9223372036854775807) (hs : ∀ s, s ∈ l → s.size ≤ 9223372036854775807) (w1 : (Lit.int .i64 part).wf = true) :
    Calls Try.prog 6 #[.slice a n c, .int .i64 part] W fun e w' => e = .returned (.bool true) ∧ Below W.heap.size W w' := by
  have HA := (show Hid _ from awake_is)
  have HN1 := (show Hid _ from new_is 40 (by omega) (by omega) W)
  have HL : Hid (Texts W (.slice a l.length c) l) := hl
  have HNN := (show Hid _ from hn)
  have HS := (show Hid _ from hs)
  clear hl hs hn
  by_cases h8 : 8 < n
  · have h8i : 8 < (n : Int) := by omega
    go_enter Try.func6, Try.ntmps6
    go_wp2_with fail
    refine Calls.mono HN1.out ?_; rintro e wa ⟨p, F, rfl, d1, b1, f1⟩
    have HN2 := (show Hid _ from new_is 40 (by omega) (by omega) wa)
    have H1 : Hid (Disk wa F p (fresh 40) ∧ Below W.heap.size W wa ∧ ∀ k, F k → W.heap.size ≤ k) := ⟨d1, b1, f1⟩
    clear d1 b1 f1 HN1
    go_wp2_with fail
    refine Calls.mono HN2.out ?_; rintro e wb ⟨p', F', rfl, d2, b2, f2⟩
    have H2 : Hid (Disk wb F' p' (fresh 40) ∧ Below wa.heap.size wa wb ∧ ∀ k, F' k → wa.heap.size ≤ k) := ⟨d2, b2, f2⟩
    have HO1 := (show Hid _ from rig_open (H1.out.1.kept (below_kept b2) (fun _ _ z => z)))
    clear d2 b2 f2 HN2
    go_wp2_with fail
    refine Calls.mono HO1.out ?_; rintro e wc ⟨q, Z, rfl, r3, k3, z3⟩
    have H3 : Hid (Rig wc Z q p [] ∧ Kept (fun _ => False) wb wc ∧ ∀ k, Z k → F k ∨ wb.heap.size ≤ k) := ⟨r3, k3, z3⟩
    have HO2 := (show Hid _ from rig_open (H2.out.1.kept k3 (fun _ _ z => z)))
    clear r3 k3 z3 HO1
    go_wp2_with fail
    refine Calls.mono HO2.out ?_; rintro e wd ⟨q', Y, rfl, r4, k4, z4⟩
    have HT : Hid (Twin W wd q p q' p' [] []) := twin_new H1.out.1 H1.out.2.1 H1.out.2.2 H2.out.1 H2.out.2.1 H2.out.2.2 H3.out.1 H3.out.2.1 H3.out.2.2 r4 k4 z4
    clear r4 k4 z4 HO2 H1 H2 H3
    go_wp2_with fail
    refine Calls.mono (HA.out _) ?_; rintro e w8 ⟨rfl, k8⟩
    have HB : Hid (Below W.heap.size W w8) := HT.out.bel.trans (k8.mono HT.out.bel.size)
    clear k8
    go_wp2_with fail
    go_ret
    exact ⟨rfl, HB.out⟩
  · have h8i : ¬ 8 < (n : Int) := by omega
    go_enter Try.func6, Try.ntmps6
    go_wp2_with fail
    refine Calls.mono HN1.out ?_; rintro e wa ⟨p, F, rfl, d1, b1, f1⟩
    have HN2 := (show Hid _ from new_is 40 (by omega) (by omega) wa)
    have H1 : Hid (Disk wa F p (fresh 40) ∧ Below W.heap.size W wa ∧ ∀ k, F k → W.heap.size ≤ k) := ⟨d1, b1, f1⟩
    clear d1 b1 f1 HN1
    go_wp2_with fail
    refine Calls.mono HN2.out ?_; rintro e wb ⟨p', F', rfl, d2, b2, f2⟩
    have H2 : Hid (Disk wb F' p' (fresh 40) ∧ Below wa.heap.size wa wb ∧ ∀ k, F' k → wa.heap.size ≤ k) := ⟨d2, b2, f2⟩
    have HO1 := (show Hid _ from rig_open (H1.out.1.kept (below_kept b2) (fun _ _ z => z)))
    clear d2 b2 f2 HN2
    go_wp2_with fail
    refine Calls.mono HO1.out ?_; rintro e wc ⟨q, Z, rfl, r3, k3, z3⟩
    have H3 : Hid (Rig wc Z q p [] ∧ Kept (fun _ => False) wb wc ∧ ∀ k, Z k → F k ∨ wb.heap.size ≤ k) := ⟨r3, k3, z3⟩
    have HO2 := (show Hid _ from rig_open (H2.out.1.kept k3 (fun _ _ z => z)))
    clear r3 k3 z3 HO1
    go_wp2_with fail
    refine Calls.mono HO2.out ?_; rintro e wd ⟨q', Y, rfl, r4, k4, z4⟩
    have HT : Hid (Twin W wd q p q' p' [] []) := twin_new H1.out.1 H1.out.2.1 H1.out.2.2 H2.out.1 H2.out.2.1 H2.out.2.2 H3.out.1 H3.out.2.1 H3.out.2.2 r4 k4 z4
    clear r4 k4 z4 HO2 H1 H2 H3
    go_wp2_with fail
    go_loopw [13] (fun i wr => ∃ k : Nat, k ≤ n ∧ i = .int .i64 k ∧ Hid (Twin W wr q p q' p' [] (l.take k) ∧ small (l.take k)))
      (fun i _ => n - (intOf i).toNat)
    case atStart => exact ⟨0, Nat.zero_le _, rfl, HT.out, fun s hs => by cases hs⟩
    case round =>
      obtain ⟨k, hk, rfl, HI⟩ := hrel
      by_cases hlt : k < n
      · have hlti : (k : Int) < (n : Int) := by omega
        have hkl : k < l.length := by have := HNN.out; omega
        obtain ⟨b, o, rfl, c1⟩ := (HL.out.below HI.out.1.bel).cell k hkl
        have T1 : Hid (l.take (k + 1) = l.take k ++ [l[k]]) := List.take_succ_eq_append_getElem hkl
        have T2 : Hid (Texts W (.slice (some ⟨b, o + k, none⟩) 1 (c - k)) [l[k]]) := by
          have := HL.out.back k 1 (c - k) (by omega) (by omega)
          rw [one_take hkl] at this
          exact this
        have hsz := HS.out l[k] (List.getElem_mem hkl)
        generalize l[k] = s at *
        by_cases hbig : 60 < s.size
        · have hbigi : 60 < (s.size : Int) := by omega
          by_cases hs0 : s.toList.isEmpty = true
          · go_wp2_with fail
            refine Calls.mono (HA.out _) ?_; rintro e w8 ⟨rfl, k8⟩
            have HB : Hid (Below W.heap.size W w8) := HI.out.1.bel.trans (k8.mono HI.out.1.bel.size)
            clear k8
            go_wp2_with fail
            go_ret
            exact ⟨rfl, HB.out⟩
          · have hs1 : s.toList.isEmpty = false := by simpa using hs0
            go_wp2_with fail
            refine Calls.mono (HA.out _) ?_; rintro e w8 ⟨rfl, k8⟩
            have HB : Hid (Below W.heap.size W w8) := HI.out.1.bel.trans (k8.mono HI.out.1.bel.size)
            clear k8
            go_wp2_with fail
            go_ret
            exact ⟨rfl, HB.out⟩
        · have hbigi : ¬ 60 < (s.size : Int) := by omega
          by_cases hz : s.size = 0
          · have hs0 := empty_is hz
            go_wp2_with fail
            refine Calls.mono (HA.out _) ?_; rintro e w8 ⟨rfl, k8⟩
            have HB : Hid (Below W.heap.size W w8) := HI.out.1.bel.trans (k8.mono HI.out.1.bel.size)
            clear k8
            go_wp2_with fail
            go_ret
            exact ⟨rfl, HB.out⟩
          · have hs1 := not_empty hz
            have hkc : (k : Int) + 1 ≤ (c : Int) := by omega
            have H1 : Hid (small (l.take (k + 1))) := by
              show small (l.take (k + 1))
              rw [T1.out]
              intro x hx
              rcases List.mem_append.1 hx with hx | hx
              · exact HI.out.2 x hx
              · obtain rfl := List.mem_singleton.1 hx
                exact ⟨hz, by omega⟩
            have HAd : Hid (Calls Try.prog 21 #[.pointer (some ⟨q', 0, none⟩), .slice (some ⟨b, o + k, none⟩) 1 (c - k)] wr fun e w' => e = .returned (.int .i64 0) ∧ Twin W w' q p q' p' [] (l.take (k + 1))) := by
              have hm : mayG [s] := fun x hx => by obtain rfl := List.mem_singleton.1 hx; exact ⟨hz, by omega⟩
              have hlen : (l.take k).length ≤ 8 := by rw [List.length_take]; omega
              have hsz1 := small_size H1.out
              rw [T1.out] at hsz1
              have hlen1 : (l.take k ++ [s]).length = (l.take k).length + 1 := by simp
              have := twin_add HI.out.1.swap (some ⟨b, o + k, none⟩) (c - k) [s] T2.out hm (by show _ + 1 ≤ 64; omega) (by omega)
              refine this.mono ?_
              rintro e w' ⟨rfl, t⟩
              rw [T1.out]
              exact ⟨rfl, t.swap⟩
            go_wp2_with fail
            refine Calls.mono HAd.out ?_; rintro e w5 ⟨rfl, t5⟩
            have HT5 := (show Hid (Twin W w5 q p q' p' [] (l.take (k + 1))) from t5)
            clear t5 HAd c1
            go_wp2_with fail
            go_roundw
            case rel => exact ⟨k + 1, by omega, by go_num, HT5.out, H1.out⟩
            case measure => simp [intOf]; omega
      · have hlti : ¬ (k : Int) < (n : Int) := by omega
        obtain rfl : k = n := by omega
        obtain ⟨kk, hkk, hki⟩ := part_is part k
        have hkn : k = l.length := HNN.out.symm
        have HSm : Hid (small l) := by have := HI.out.2; rw [hkn, List.take_length] at this; exact this
        have HTw : Hid (Twin W wr q p q' p' [] l) := by have := HI.out.1; rw [hkn, List.take_length] at this; exact this
        have hzz : sizeG l ≤ 560 := by have := small_size HSm.out; omega
        have HZ := (show Hid _ from hzz)
        have HA1 : Hid (Calls Try.prog 21 #[.pointer (some ⟨q, 0, none⟩), .slice a kk c] wr fun e w' => e = .returned (.int .i64 0) ∧ Twin W w' q p q' p' (l.take kk) l) := by
          have hlen : (l.take kk).length = kk := by rw [List.length_take]; omega
          have hsm : small (l.take kk) := fun s hs => HSm.out s (List.mem_of_mem_take hs)
          have hf := HL.out.front kk (by omega)
          have hz1 := small_size hsm
          have := twin_add HTw.out a c (l.take kk) hf (small_may hsm) (by show 0 + _ ≤ 64; omega) (by rw [List.nil_append]; omega)
          rw [hlen] at this
          exact this
        have HA2 : Hid (∀ w2, Twin W w2 q p q' p' (l.take kk) l → ∀ a2 m m', m = k - kk → m' = c - kk → (c = kk ∨ ∃ b o, a = some ⟨b, o, none⟩ ∧ a2 = some ⟨b, o + kk, none⟩) → Calls Try.prog 21 #[.pointer (some ⟨q, 0, none⟩), .slice a2 m m'] w2 fun e w' => e = .returned (.int .i64 0) ∧ Twin W w' q p q' p' l l) := by
          rintro w2 t2 a2 m m' rfl rfl h2
          have hlen : (l.drop kk).length = k - kk := by rw [List.length_drop]; omega
          have hsm : small (l.drop kk) := fun s hs => HSm.out s (List.mem_of_mem_drop hs)
          have hf : Texts W (.slice a2 (l.drop kk).length (c - kk)) (l.drop kk) := by
            rcases h2 with h2 | ⟨b, o, rfl, rfl⟩
            · have : l.drop kk = [] := List.length_eq_zero_iff.1 (by omega)
              rw [this]
              exact .inl ⟨_, _, rfl, rfl⟩
            · have := HL.out.back kk (k - kk) (c - kk) (by omega) (by omega)
              rw [List.take_of_length_le (by omega)] at this
              exact this
          have hlt : (l.take kk).length = kk := by rw [List.length_take]; omega
          have := twin_add t2 a2 (c - kk) (l.drop kk) hf (small_may hsm) (by omega) (by rw [List.take_append_drop]; omega)
          rw [hlen, List.take_append_drop] at this
          exact this
        have HRec : Hid (∀ w2 q p q' p', Twin W w2 q p q' p' l l → Calls Try.prog 24 #[.pointer (some ⟨q, 0, none⟩)] w2 fun e w' => ∃ va vc, e = .returned (.slice va k vc) ∧ Twin W w' q p q' p' l l ∧ Calls Try.prog 13 #[.slice va k vc, .slice a k c] w' fun e w'' => e = .returned (.bool true) ∧ Twin W w'' q p q' p' l l) := by
          intro w2 q p q' p' t2
          have := twin_records t2 (by omega) a c l HL.out rfl
          rw [← hkn] at this
          exact this
        clear hzz hkn HI
        by_cases hck : c = kk
        · have hk2 : kk = k := by omega
          subst hk2
          subst hck
          go_wp2_with fail
          refine Calls.mono HA1.out ?_; rintro e wx ⟨rfl, t1⟩
          have HT1 : Hid (Twin W wx q p q' p' (l.take c) l) := t1
          clear t1 HA1
          go_wp2_with fail
          refine Calls.mono (HA2.out _ HT1.out _ _ _ (by omega) (by omega) (.inl trivial)) ?_; rintro e wy ⟨rfl, t2⟩
          have HT2 : Hid (Twin W wy q p q' p' l l) := t2
          clear t2 HA2 HT1
          go_wp2_with fail
          refine Calls.mono (HRec.out _ _ _ _ _ HT2.out) ?_; rintro e wz ⟨va, vc, rfl, t3, s3⟩
          have HS3 := (show Hid _ from s3)
          clear t3 s3
          go_wp2_with fail
          refine Calls.mono HS3.out ?_; rintro e wu ⟨rfl, t4⟩
          have HT4 : Hid (Twin W wu q p q' p' l l) := t4
          clear t4 HS3 HT2
          go_wp2_with fail
          refine Calls.mono (HRec.out _ _ _ _ _ HT4.out.swap) ?_; rintro e wv ⟨vb, vd, rfl, t5, s5⟩
          have HS5 := (show Hid _ from s5)
          clear t5 s5
          go_wp2_with fail
          refine Calls.mono HS5.out ?_; rintro e ww ⟨rfl, t6⟩
          have HT6 : Hid (Twin W ww q p q' p' l l) := t6.swap
          have HU1 := (show Hid _ from twin_used HT6.out)
          have HU2 := (show Hid _ from twin_used HT6.out.swap)
          clear t6 HS5 HT4
          generalize sizeG l = u at HU1 HU2
          go_wp2_with fail
          refine Calls.mono HU1.out ?_; rintro e w9 ⟨rfl, rfl⟩
          go_wp2_with fail
          refine Calls.mono HU2.out ?_; rintro e w9 ⟨rfl, rfl⟩
          go_wp2_with fail
          go_loopw [15] (fun i wr => ∃ j : Nat, j ≤ 40 ∧ i = .int .i64 j ∧ Hid (Twin W wr q p q' p' l l))
            (fun i _ => 40 - (intOf i).toNat)
          case atStart => exact ⟨0, by omega, rfl, HT6.out⟩
          case round =>
            obtain ⟨j, hj, rfl, HI⟩ := hrel
            by_cases hlt : j < 40
            · have hlti : (j : Int) < 40 := by omega
              obtain ⟨s, r1, r2⟩ := twin_read HI.out j hlt
              have HR1 := (show Hid _ from r1)
              have HR2 := (show Hid _ from r2)
              clear r1 r2
              go_wp2_with fail
              refine Calls.mono HR1.out ?_; rintro e w9 ⟨rfl, rfl⟩
              go_wp2_with fail
              refine Calls.mono HR2.out ?_; rintro e w9 ⟨rfl, rfl⟩
              go_wp2_with fail
              go_roundw
              case rel => exact ⟨j + 1, by omega, by go_num, HI.out⟩
              case measure => simp [intOf]; omega
            · have hlti : ¬ (j : Int) < 40 := by omega
              go_wp2_with fail
              refine Calls.mono (HA.out _) ?_; rintro e w8 ⟨rfl, k8⟩
              have HB : Hid (Below W.heap.size W w8) := HI.out.bel.trans (k8.mono HI.out.bel.size)
              clear k8
              go_wp2_with fail
              go_ret
              exact ⟨rfl, HB.out⟩
        · have hcki : ¬ (c : Int) = (kk : Int) := by omega
          obtain ⟨b, o, rfl⟩ : ∃ b o, a = some ⟨b, o, none⟩ := ha.resolve_left (by omega)
          go_wp2_with fail
          refine Calls.mono HA1.out ?_; rintro e wx ⟨rfl, t1⟩
          have HT1 : Hid (Twin W wx q p q' p' (l.take kk) l) := t1
          clear t1 HA1
          go_wp2_with fail
          refine Calls.mono (HA2.out _ HT1.out _ _ _ (by omega) (by omega) (.inr ⟨_, _, rfl, rfl⟩)) ?_; rintro e wy ⟨rfl, t2⟩
          have HT2 : Hid (Twin W wy q p q' p' l l) := t2
          clear t2 HA2 HT1
          go_wp2_with fail
          refine Calls.mono (HRec.out _ _ _ _ _ HT2.out) ?_; rintro e wz ⟨va, vc, rfl, t3, s3⟩
          have HS3 := (show Hid _ from s3)
          clear t3 s3
          go_wp2_with fail
          refine Calls.mono HS3.out ?_; rintro e wu ⟨rfl, t4⟩
          have HT4 : Hid (Twin W wu q p q' p' l l) := t4
          clear t4 HS3 HT2
          go_wp2_with fail
          refine Calls.mono (HRec.out _ _ _ _ _ HT4.out.swap) ?_; rintro e wv ⟨vb, vd, rfl, t5, s5⟩
          have HS5 := (show Hid _ from s5)
          clear t5 s5
          go_wp2_with fail
          refine Calls.mono HS5.out ?_; rintro e ww ⟨rfl, t6⟩
          have HT6 : Hid (Twin W ww q p q' p' l l) := t6.swap
          have HU1 := (show Hid _ from twin_used HT6.out)
          have HU2 := (show Hid _ from twin_used HT6.out.swap)
          clear t6 HS5 HT4
          generalize sizeG l = u at HU1 HU2
          go_wp2_with fail
          refine Calls.mono HU1.out ?_; rintro e w9 ⟨rfl, rfl⟩
          go_wp2_with fail
          refine Calls.mono HU2.out ?_; rintro e w9 ⟨rfl, rfl⟩
          go_wp2_with fail
          go_loopw [15] (fun i wr => ∃ j : Nat, j ≤ 40 ∧ i = .int .i64 j ∧ Hid (Twin W wr q p q' p' l l))
            (fun i _ => 40 - (intOf i).toNat)
          case atStart => exact ⟨0, by omega, rfl, HT6.out⟩
          case round =>
            obtain ⟨j, hj, rfl, HI⟩ := hrel
            by_cases hlt : j < 40
            · have hlti : (j : Int) < 40 := by omega
              obtain ⟨s, r1, r2⟩ := twin_read HI.out j hlt
              have HR1 := (show Hid _ from r1)
              have HR2 := (show Hid _ from r2)
              clear r1 r2
              go_wp2_with fail
              refine Calls.mono HR1.out ?_; rintro e w9 ⟨rfl, rfl⟩
              go_wp2_with fail
              refine Calls.mono HR2.out ?_; rintro e w9 ⟨rfl, rfl⟩
              go_wp2_with fail
              go_roundw
              case rel => exact ⟨j + 1, by omega, by go_num, HI.out⟩
              case measure => simp [intOf]; omega
            · have hlti : ¬ (j : Int) < 40 := by omega
              go_wp2_with fail
              refine Calls.mono (HA.out _) ?_; rintro e w8 ⟨rfl, k8⟩
              have HB : Hid (Below W.heap.size W w8) := HI.out.bel.trans (k8.mono HI.out.bel.size)
              clear k8
              go_wp2_with fail
              go_ret
              exact ⟨rfl, HB.out⟩

theorem cells9 : Try.prog.cellsOf 9 = 1 := by kernel_rfl
theorem open_texts {H : Type} {enc : TypeId × Value → H} {W : World} {a1 : Option Addr} {len1 cap1 : Nat} {d : DataW H} {ps : List MemPlace} (h : DataW.Trod enc Try.prog W 0 (fun _ => true) true 26 (.slice a1 len1 cap1) d ps) :
    ∃ l : List ByteArray, l.length = len1 ∧ Texts W (.slice a1 l.length cap1) l ∧ len1 ≤ cap1 ∧ (cap1 = 0 ∨ ∃ b o, a1 = some ⟨b, o, none⟩) ∧ cap1 ≤ 9223372036854775807 ∧ ∀ s, s ∈ l → s.size ≤ 9223372036854775807 := by
  obtain ⟨fuel, hf⟩ := h
  rcases Deep.open_slice1 Try.underlying26 cells9 hf with ⟨hcs, _⟩ | ⟨a, len, cap, m, n, V, D, Pl, hcs, _, hl, hm, hmm, _, hx⟩
  · simp [Value.cells] at hcs
    obtain ⟨rfl, rfl, rfl⟩ := hcs
    exact ⟨[], rfl, .inl ⟨_, _, rfl, rfl⟩, Nat.le_refl _, .inl rfl, Nat.zero_le _, fun s hs => by cases hs⟩
  · simp [Value.cells] at hcs
    obtain ⟨rfl, rfl, rfl⟩ := hcs
    simp only [if_true] at hmm
    subst hmm
    unfold maxLen at hm
    have hv : ∀ i, i < m → ∃ s : ByteArray, V i = .string s ∧ s.size ≤ maxLen := fun i hi => by
      obtain ⟨s, e, _, w⟩ := DataW.trod_string Try.underlying9 (hx i hi).2
      exact ⟨s, by simpa using e, w⟩
    have hspot : m = 0 ∨ ∃ b o, (some a : Option Addr) = some ⟨b, o, none⟩ := by
      by_cases h0 : m = 0
      · exact .inl h0
      · right
        have h1 := World.cell?_spot (hx 0 (by omega)).1
        obtain ⟨b, o, spot⟩ := a
        have : spot = none := by simpa [Addr.add] using h1
        subst this
        exact ⟨b, o, rfl⟩
    have hlen : ((List.range len1).map fun i => match V i with | .string s => s | _ => (⟨#[]⟩ : ByteArray)).length = len1 := by simp
    refine ⟨(List.range len1).map fun i => match V i with | .string s => s | _ => ⟨#[]⟩, hlen, ?_, hl, hspot, by omega, ?_⟩
    · by_cases h0 : len1 = 0
      · subst h0
        exact .inl ⟨_, _, rfl, rfl⟩
      · obtain ⟨b, o, e⟩ := hspot.resolve_left (by omega)
        cases e
        refine .inr ⟨b, o, m, rfl, fun k hk => ?_⟩
        have hk1 : k < len1 := by rw [hlen] at hk; exact hk
        obtain ⟨s, hs, _⟩ := hv k (by omega)
        have h1 := (hx k (by omega)).1
        rw [Go.WideShapes.add_plain, hs] at h1
        rw [h1]
        simp [hs]
    · intro s hs
      obtain ⟨i, hi, rfl⟩ := List.mem_map.1 hs
      obtain ⟨s, hs1, hs2⟩ := hv i (by have := List.mem_range.1 hi; omega)
      rw [hs1]
      unfold maxLen at hs2
      exact Nat.le_trans hs2 (by omega)

/-! ### The row's step. -/
set_option maxRecDepth 100000 in
theorem lifted (os : Os) (started : os.Started) (H : Type) (enc : TypeId × Value → H) :
    ReturnsInHanded {} Try.checked os 6 .any (Rows.walGroupsSpec.pre6 enc Try.prog Try.f6 Rows.walGroupsRow.domain false) (Rows.walGroupsSpec.post enc Try.prog Try.f6 false true false false) := by
  refine returnsInHanded_of_change (C := Try.checked) own started (by kernel_rfl) Try.func6
    (ChangeSpec.witness6 (enc := enc) (C := Try.checked) false ⟨#[], #[.slice none 0 0, .int .i64 0], []⟩ 8 (by kernel_rfl) (by kernel_rfl) (by kernel_rfl) (by kernel_rfl)) ?_
  intro W base args ds gs before hval0 hW hcnd _
  have hval : ∀ (j : Nat) t v, Try.f6.params[j]? = some t → args[j]? = some v → Value.okWide Try.prog W .any base t v := hval0
  have hW' := hW
  obtain ⟨p, q, hA0, hV, rfl, hfz, hnd⟩ := hW
  have hA : DataW.TrodAll enc Try.prog W 0 (fun _ => true) true Try.f6.params.toList args.toList ds p := hA0
  rw [Try.params6] at hA hval
  obtain ⟨v0, vs0, d0, ds0, p0, q0, hargs, rfl, rfl, h0, r0⟩ := trodAll_cons hA
  obtain ⟨v1, vs1, d1, ds1, p1, q1, rfl, rfl, rfl, h1, r1⟩ := trodAll_cons r0
  obtain ⟨rfl, rfl, rfl⟩ := trodAll_nil r1
  obtain rfl : args = #[v0, v1] := by cases args; simp_all
  obtain ⟨rfl, rfl⟩ := trodVars_none hV
  obtain ⟨a0, len0, cap0, rfl⟩ := okWide_slice Try.underlying26 (hval 0 26 v0 rfl rfl)
  obtain ⟨a1, rfl, rfl, rfl, w1⟩ := open_int Try.underlying3 (hval 1 3 v1 rfl rfl) h1
  have k0 := h0
  have lt0 : ∀ x ∈ p0, x.block < W.heap.size := by obtain ⟨m, hm⟩ := k0; exact DataW.trod_lt m _ _ _ hm
  obtain ⟨l, hl, ht, hlc, ha, hc, hs⟩ := open_texts h0
  clear hA0 hval0
  simp only [List.append_nil] at hW'
  refine (walk a0 cap0 len0 l hl a1 W ht hlc ha hc hs w1).mono fun e W' ⟨he, bel⟩ => ?_
  subst he
  exact ⟨_, rfl, _, _, _, [], _, [], hW', trodAll_mk1 (shut_bool Try.underlying4 _), (trodAll_cons_mk (Below.trod laidOut (by kernel_rfl) (of_decide_eq_true (by kernel_rfl)) k0 bel lt0) (trodAll_cons_mk (shut_int Try.underlying3 w1) trodAll_mk0)), rfl, bel.frame _, fun h => by cases h⟩

theorem over : Rows.walGroupsRow.holds Try.pinned (OpenSpec.ofChange Rows.walGroupsSpec) :=
  OpenClaim.holds_of_wide 6 Try.f6 rfl rfl rfl rfl rfl rfl rfl ⟨rfl, rfl, rfl, rfl, rfl⟩ rfl rfl rfl rfl rfl (by kernel_rfl) Try.func6 (by kernel_rfl)
    (of_decide_eq_true (by kernel_rfl)) (by unfold Func.isWrapper; first | (rw [if_pos (by decide +kernel)]; kernel_rfl) | (rw [if_neg (by decide +kernel)]; exact ⟨rfl, rfl⟩))
    (fun os started H enc _ => lifted os started H enc)

/-- ████ THE STATEMENT ████ -/
theorem proved : Rows.WalGroupsSaid := over
#print axioms proved
end Go.Proofs.Ytbjijacpgklegaa.walGroups
