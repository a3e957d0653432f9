/- For every list of records, every word of syncs and every list of survivors the law WalCrash returns true and leaves its arguments as they were: behind a crash a log has, from the first on, at least the records that were synced. -/
import Derived.Test.YtbjijacpgklegaaRows
import Derived.WalkKit
import Derived.Test.YtbjijacpgklegaaWake
import Derived.Test.YtbjijacpgklegaaJetNew
import Derived.Test.YtbjijacpgklegaaOpens
import Derived.ProofKit
import Derived.OpenShut
import Derived.ShutString
import Derived.ChangeOld
import Derived.Below
import Derived.Deep.Slices
import Derived.BigQuiet
namespace Go.Proofs.Ytbjijacpgklegaa.walCrash
open Go.ChangeShapes Go.WideShapes Go.ChangeAt Go.RowKit
open Go.ChangeMaps (open_string shut_string)
set_option linter.unusedVariables false

theorem own : ownKnob Try.prog.godebug = none := by kernel_rfl
theorem laidOut : laidOutB Try.prog = true := by kernel_rfl

def small (g : List ByteArray) : Prop := ∀ s, s ∈ g → s.size ≠ 0 ∧ s.size ≤ 60
theorem small_may {g : List ByteArray} (h : small g) : mayG g := fun s hs => ⟨(h s hs).1, Nat.le_trans (h s hs).2 (by omega)⟩
theorem empty_is {s : ByteArray} (h : s.size = 0) : s.toList.isEmpty = true := by
  rw [ByteArray.toList_eq, List.isEmpty_iff]
  exact List.length_eq_zero_iff.1 h
theorem bits_le (x y : Int) : bits .and .i64 x y ≤ 9223372036854775807 := by
  show IntKind.i64.wrap ((BitVec.ofInt 64 x &&& BitVec.ofInt 64 y).toNat : Nat) ≤ _
  rw [IntKind.wrap_i64]
  omega
theorem Sunk.brk {W w : World} {p : Nat} {va : Value} {l : List ByteArray} {k m : Nat} (hk : k < l.length) (h20 : l.length ≤ 20) (hm : m ≤ k) (hw : Wreck W w p va (l.take (k + 1)) ((l.take k).take m)) (hs : small (l.take (k + 1))) (hz : sizeG (l.take k) ≤ 1280) : Sunk W w p va (l.take (k + 1)) m := by
  have e : (l.take k).take m = (l.take (k + 1)).take m := by rw [List.take_take, List.take_take, Nat.min_eq_left hm, Nat.min_eq_left (by omega)]
  have hz2 : sizeG ((l.take k).take m) ≤ 1280 := by
    have := sizeG_append ((l.take k).take m) ((l.take k).drop m)
    rw [List.take_append_drop] at this
    omega
  rw [e] at hw hz2
  have hl : (l.take (k + 1)).length = k + 1 := by rw [List.length_take]; omega
  exact ⟨hw, by omega, by omega, small_may hs, hz2⟩
theorem Sunk.fin {W w : World} {q p : Nat} {va : Value} {l : List ByteArray} {m : Nat} (h20 : l.length ≤ 20) (hm : m ≤ l.length) (hw : Ship W w q p va l l m) (hs : small l) (hz : sizeG l ≤ 1280) : Sunk W w p va l m := by
  have hz2 : sizeG (l.take m) ≤ 1280 := by
    have := sizeG_append (l.take m) (l.drop m)
    rw [List.take_append_drop] at this
    omega
  exact ⟨hw.wreck (by omega), hm, h20, small_may hs, hz2⟩
theorem Ints.tail {W : World} {b o c : Nat} {ks : List Int} (h : Ints W (.slice (some ⟨b, o, none⟩) ks.length c) ks) (c' : Nat) (h0 : 0 < ks.length) : Ints W (.slice (some ⟨b, o + 1, none⟩) (ks.length - 1) c') (ks.drop 1) := by
  rcases h with ⟨_, _, e, rfl⟩ | ⟨b', o', _, e, h⟩
  · cases h0
  · cases e
    refine .inr ⟨b, o + 1, c', by rw [List.length_drop], fun k hk => ?_⟩
    rw [List.length_drop] at hk
    rw [Nat.add_assoc, h (1 + k) (by omega), List.getElem_drop]
theorem Ints.cell {W : World} {a : Option Addr} {c : Nat} {ks : List Int} (h : Ints W (.slice a ks.length c) ks) (k : Nat) (hk : k < ks.length) : ∃ b o, a = some ⟨b, o, none⟩ ∧ W.cell? ⟨b, o + k, none⟩ = some (.int .i64 ks[k]) := by
  rcases h with ⟨_, _, _, rfl⟩ | ⟨b, o, _, e, h⟩
  · exact absurd hk (Nat.not_lt_zero k)
  · cases e; exact ⟨b, o, rfl, h k hk⟩

set_option maxRecDepth 100000 in
set_option maxHeartbeats 4000000 in
theorem walk_many (a : Option Addr) (c n : Nat) (l : List ByteArray) (hn : l.length = n) (syncs : Int) (ko : Option Addr) (kc kn : Nat) (ks : List Int) (hkn : ks.length = kn) (W : World) (hl : Texts W (.slice a l.length c) l) (hs : ∀ s, s ∈ l → s.size ≤ 9223372036854775807) (w1 : (Lit.int .i64 syncs).wf = true) (hk : Ints W (.slice ko ks.length kc) ks) (hkc : kn ≤ kc) (hkl : kc ≤ 9223372036854775807) (h20 : 20 < n) :
    Calls Try.prog 5 #[.slice a n c, .int .i64 syncs, .slice ko kn kc] W fun e w' => e = .returned (.bool true) ∧ Below W.heap.size W w' := by
  have HA := (show Hid _ from awake_is)
  have HN1 := (show Hid _ from new_is 40 (by omega) (by omega) W)
  have HL : Hid (Texts W (.slice a l.length c) l) := hl
  have HK : Hid (Ints W (.slice ko ks.length kc) ks) := hk
  have HNN := (show Hid _ from hn)
  have HS := (show Hid _ from hs)
  clear hl hs hn hk
  have h20i : 20 < (n : Int) := by omega
  go_enter Try.func5, Try.ntmps5
  go_wp2_with fail
  refine Calls.mono HN1.out ?_; rintro e wa ⟨p, F, rfl, d1, b1, f1⟩
  have HO1 : Hid _ := jet_open d1 f1 b1
  clear d1 b1 f1 HN1
  go_wp2_with fail
  refine Calls.mono HO1.out ?_; rintro e wb ⟨q, Z, rfl, j1⟩
  have HJ : Hid (Jet W wb Z q p [] 0) := j1
  clear j1 HO1
  have HBB : Hid (Below W.heap.size W wb) := (jet_ship HJ.out).bel
  go_wp2_with fail
  refine Calls.mono (HA.out _) ?_; rintro e w8 ⟨rfl, k8⟩
  have HB : Hid (Below W.heap.size W w8) := HBB.out.trans (k8.mono HBB.out.size)
  clear k8
  go_wp2_with fail
  go_ret
  exact ⟨rfl, HB.out⟩
set_option maxRecDepth 100000 in
set_option maxHeartbeats 4000000 in
theorem walk_none (a : Option Addr) (c n : Nat) (l : List ByteArray) (hn : l.length = n) (syncs : Int) (ko : Option Addr) (kc kn : Nat) (ks : List Int) (hkn : ks.length = kn) (W : World) (hl : Texts W (.slice a l.length c) l) (hs : ∀ s, s ∈ l → s.size ≤ 9223372036854775807) (w1 : (Lit.int .i64 syncs).wf = true) (hk : Ints W (.slice ko ks.length kc) ks) (hkc : kn ≤ kc) (hkl : kc ≤ 9223372036854775807) (h20 : ¬ 20 < n) (h0 : kn = 0) :
    Calls Try.prog 5 #[.slice a n c, .int .i64 syncs, .slice ko kn kc] W fun e w' => e = .returned (.bool true) ∧ Below W.heap.size W w' := by
  have HA := (show Hid _ from awake_is)
  have HN1 := (show Hid _ from new_is 40 (by omega) (by omega) W)
  have HL : Hid (Texts W (.slice a l.length c) l) := hl
  have HK : Hid (Ints W (.slice ko ks.length kc) ks) := hk
  have HNN := (show Hid _ from hn)
  have HS := (show Hid _ from hs)
  clear hl hs hn hk
  have h20i : ¬ 20 < (n : Int) := by omega
  subst h0
  go_enter Try.func5, Try.ntmps5
  go_wp2_with fail
  refine Calls.mono HN1.out ?_; rintro e wa ⟨p, F, rfl, d1, b1, f1⟩
  have HO1 : Hid _ := jet_open d1 f1 b1
  clear d1 b1 f1 HN1
  go_wp2_with fail
  refine Calls.mono HO1.out ?_; rintro e wb ⟨q, Z, rfl, j1⟩
  have HJ : Hid (Jet W wb Z q p [] 0) := j1
  clear j1 HO1
  have HSh : Hid (Ship W wb q p (.slice none 0 0) [] [] 0) := jet_ship HJ.out
  clear HJ
  go_wp2_with fail
  go_loopw [11, 12, 13] (fun added sure i wr => ∃ k m : Nat, k ≤ n ∧ m ≤ k ∧ i = .int .i64 k ∧ sure = .int .i64 m ∧ Hid (Ship W wr q p added (l.take k) (l.take k) m ∧ small (l.take k) ∧ sizeG (l.take k) ≤ 1280))
    (fun _ _ i _ => n - (intOf i).toNat)
  case atStart => exact ⟨0, 0, Nat.zero_le _, Nat.le_refl _, rfl, rfl, HSh.out, (fun s hs => by simp at hs), Nat.zero_le _⟩
  case round =>
    obtain ⟨k, m, hk, hmk, rfl, rfl, HI⟩ := hrel
    by_cases hlt : k < n
    · have hlti : (k : Int) < (n : Int) := by omega
      have hkl : k < l.length := by have := HNN.out; omega
      obtain ⟨b, o, rfl, c0⟩ := HL.out.cell k hkl
      have c1 : wr.cell? ⟨b, o + k, none⟩ = some (.string l[k]) := (HI.out.1.bel.cell (p := ⟨b, o + k, none⟩) (World.block_lt_of_cell? W _ c0)).trans c0
      have T1 : Hid (l.take (k + 1) = l.take k ++ [l[k]]) := List.take_succ_eq_append_getElem hkl
      have hsz := HS.out l[k] (List.getElem_mem hkl)
      generalize l[k] = s at *
      by_cases hbig : 60 < s.size
      · have hbigi : 60 < (s.size : Int) := by omega
        by_cases hs0 : s.toList.isEmpty = true
        · go_wp2_with fail
          refine Calls.mono (HA.out _) ?_; rintro e w8 ⟨rfl, k8⟩
          have HB : Hid (Below W.heap.size W w8) := HI.out.1.bel.trans (k8.mono HI.out.1.bel.size)
          clear k8
          go_wp2_with fail
          go_ret
          exact ⟨rfl, HB.out⟩
        · have hs1 : s.toList.isEmpty = false := by simpa using hs0
          go_wp2_with fail
          refine Calls.mono (HA.out _) ?_; rintro e w8 ⟨rfl, k8⟩
          have HB : Hid (Below W.heap.size W w8) := HI.out.1.bel.trans (k8.mono HI.out.1.bel.size)
          clear k8
          go_wp2_with fail
          go_ret
          exact ⟨rfl, HB.out⟩
      · have hbigi : ¬ 60 < (s.size : Int) := by omega
        by_cases hz : s.size = 0
        · have hs0 := empty_is hz
          go_wp2_with fail
          refine Calls.mono (HA.out _) ?_; rintro e w8 ⟨rfl, k8⟩
          have HB : Hid (Below W.heap.size W w8) := HI.out.1.bel.trans (k8.mono HI.out.1.bel.size)
          clear k8
          go_wp2_with fail
          go_ret
          exact ⟨rfl, HB.out⟩
        · have hs1 := not_empty hz
          have hlk : (l.take k).length = k := by rw [List.length_take]; omega
          have hlk1 : (l.take (k + 1)).length = k + 1 := by rw [List.length_take]; omega
          have HSm : Hid (small (l.take (k + 1))) := by
            show small (l.take (k + 1))
            rw [T1.out]
            intro x hx
            rcases List.mem_append.1 hx with hx | hx
            · exact HI.out.2.1 x hx
            · obtain rfl := List.mem_singleton.1 hx
              exact ⟨hz, by omega⟩
          obtain ⟨v2, W2, ra, sh⟩ := ship_append HI.out.1 s (by omega)
          rw [← T1.out] at sh
          obtain ⟨x, y, rfl⟩ := sh.form
          rw [hlk1] at sh ra
          have RA : Hid _ := ra
          have H2 : Hid (Ship W W2 q p (.slice x (k + 1) y) (l.take (k + 1)) (l.take k) m) := sh
          have c2 : W2.cell? ⟨b, o + k, none⟩ = some (.string s) := (H2.out.bel.cell (p := ⟨b, o + k, none⟩) (World.block_lt_of_cell? W _ c0)).trans c0
          have HOne : Hid _ := ship_one H2.out (by omega) s ⟨hz, by omega⟩ (by omega) HI.out.2.2
          rw [← T1.out] at HOne
          have HLL : Hid ((l.take (k + 1)).length = k + 1) := hlk1
          have hkk := hkl
          clear ra sh hlk hlk1 c0
          go_wp2_with (first | ((with_reducible apply st_append (x := .tmp 88)); (case ho => rfl); (case hgd => rfl); (case hr => exact RA.out)))
          refine Calls.mono HOne.out ?_; rintro e w5 (⟨rfl, sh5, hz5⟩ | ⟨cc, hcc, rfl, wk⟩)
          · have H5 : Hid (Ship W w5 q p (.slice x (k + 1) y) (l.take (k + 1)) (l.take (k + 1)) m ∧ sizeG (l.take (k + 1)) ≤ 1280) := ⟨sh5, hz5⟩
            clear sh5 hz5 HOne RA H2 c1 c2
            have HSy : Hid _ := ship_sync H5.out.1 (by have := HLL.out; omega)
            rw [HLL.out] at HSy
            go_wp2_with fail
            · refine Calls.mono HSy.out ?_; rintro e w6 (⟨rfl, s6⟩ | ⟨rfl, s6⟩)
              · have H6 : Hid (Ship W w6 q p (.slice x (k + 1) y) (l.take (k + 1)) (l.take (k + 1)) (k + 1)) := s6
                clear s6 HSy
                go_wp2_with fail
                go_roundw
                case rel => exact ⟨k + 1, k + 1, by omega, by omega, by go_num, by go_num, H6.out, HSm.out, H5.out.2⟩
                case measure => simp [intOf]; omega
              · have H6 : Hid (Ship W w6 q p (.slice x (k + 1) y) (l.take (k + 1)) (l.take (k + 1)) m) := s6
                clear s6 HSy
                go_wp2_with fail
                go_roundw
                case rel => exact ⟨k + 1, m, by omega, by omega, by go_num, by go_num, H6.out, HSm.out, H5.out.2⟩
                case measure => simp [intOf]; omega
            · go_roundw
              case rel => exact ⟨k + 1, m, by omega, by omega, by go_num, by go_num, H5.out.1, HSm.out, H5.out.2⟩
              case measure => simp [intOf]; omega
          · have HX : Hid (Sunk W w5 p (.slice x (k + 1) y) (l.take (k + 1)) m) := Sunk.brk hkk (by have := HNN.out; omega) hmk wk HSm.out HI.out.2.2
            clear wk HOne RA H2 c1 c2
            have HC : Hid _ := sunk_crash HX.out (.slice none 0 0) [] (.inl ⟨_, _, rfl, rfl⟩) (fun a n c e => by cases e) (by simp)
            clear HX
            go_wp2_with fail
            refine Calls.mono HC.out ?_; rintro e wx ⟨rfl, o1⟩
            have HO1 : Hid _ := o1
            clear o1 HC
            go_wp2_with fail
            refine Calls.mono HO1.out ?_; rintro e wy ⟨q2, rfl, r1⟩
            have HR1 : Hid _ := r1
            clear r1 HO1
            go_wp2_with fail
            refine Calls.mono HR1.out ?_; rintro e wz ⟨x2, y2, bz, cz, z, hva, rfl, rs⟩
            rw [HLL.out] at hva
            cases hva
            have HRs : Hid (Risen W wz x y bz cz (l.take (k + 1)) z m) := rs
            clear rs HR1
            obtain ⟨nz, hnz⟩ : ∃ nz, z.length = nz := ⟨_, rfl⟩
            have hmz : m ≤ nz := by have := HRs.out.2.2.2.1; omega
            have hzz : nz ≤ 1280 := by have := HRs.out.2.2.2.2.2.1; omega
            have hmzi : (m : Int) ≤ (nz : Int) := by omega
            have hml : m ≤ (k + 1) := by have := HRs.out.2.2.2.2.1; have := HLL.out; omega
            rw [hnz]
            have HNZ : Hid _ := hnz
            clear hnz
            go_wp2_with fail
            go_loopw [18] (fun i wr => ∃ j : Nat, j ≤ nz ∧ i = .int .i64 j ∧ Hid (Risen W wr x y bz cz (l.take (k + 1)) z m))
              (fun i _ => nz - (intOf i).toNat)
            case atStart => exact ⟨0, Nat.zero_le _, rfl, HRs.out⟩
            case round =>
              obtain ⟨j, hj, rfl, HI⟩ := hrel
              by_cases hlt : j < nz
              · have hlti : (j : Int) < (nz : Int) := by omega
                have hjz : j < z.length := by have := HNZ.out; omega
                obtain ⟨b1, o1, rfl, c1⟩ := HI.out.2.1.cell j hjz
                by_cases hj2 : j < (k + 1)
                · have hj2i : (j : Int) < ((k : Int) + 1) := by omega
                  have hj3i : ¬ ((k : Int) + 1) ≤ (j : Int) := by omega
                  have hjl : j < (l.take (k + 1)).length := by have := HLL.out; omega
                  obtain ⟨b2, o2, rfl, c2⟩ := HI.out.1.cell j hjl
                  by_cases hzl : z[j] = (l.take (k + 1))[j]
                  · rw [← hzl] at c2
                    have hb : (z[j].toList == z[j].toList) = true := beq_self_eq_true _
                    clear hzl
                    generalize z[j] = sz at c1 c2 hb
                    go_wp2_with fail
                    go_quiet (fail)
                    obtain ⟨wd, hwd⟩ : ∃ wd, wr.drewN nq = wd := ⟨_, rfl⟩
                    have HW : Hid (Risen W wd (some ⟨b2, o2, none⟩) y (some ⟨b1, o1, none⟩) cz (l.take (k + 1)) z m) := by have := HI.out.step (kept_drewN wr nq); rw [hwd] at this; exact this
                    rw [hwd]
                    clear hwd HI
                    clear c1 c2
                    go_wp2_with fail
                    go_roundw
                    case rel => exact ⟨j + 1, by omega, by go_num, HW.out⟩
                    case measure => simp [intOf]; omega
                  · have hb : (z[j].toList == (l.take (k + 1))[j].toList) = false := by rw [beq_bytes, decide_eq_false hzl]
                    have hmj := (HI.out.chance j hjz (fun _ _ => hzl)).1
                    have HZL : Hid _ := hzl
                    have hmji : (m : Int) ≤ (j : Int) := by omega
                    clear hzl
                    generalize hsz : z[j] = sz at c1 c2 hb
                    generalize hsl : (l.take (k + 1))[j] = sl at c1 c2 hb
                    have HSZ : Hid _ := hsz
                    have HSL : Hid _ := hsl
                    clear hsz hsl
                    go_wp2_with fail
                    go_quiet (fail)
                    obtain ⟨wd, hwd⟩ : ∃ wd, wr.drewN nq = wd := ⟨_, rfl⟩
                    have HW : Hid (Risen W wd (some ⟨b2, o2, none⟩) y (some ⟨b1, o1, none⟩) cz (l.take (k + 1)) z m) := by have := HI.out.step (kept_drewN wr nq); rw [hwd] at this; exact this
                    rw [hwd]
                    clear hwd HI
                    have ch := (HW.out.chance j hjz (fun _ _ => HZL.out)).2
                    rw [HNZ.out, HLL.out] at ch
                    have HCh : Hid _ := ch
                    clear ch c1 c2
                    go_wp2_with fail
                    refine Calls.mono HCh.out ?_; rintro e w7 ⟨rfl, r7⟩
                    have H7 : Hid (Below W.heap.size W w7) := r7.2.2.2.2.2.2.2.2.2
                    clear r7
                    go_wp2_with fail
                    refine Calls.mono (HA.out _) ?_; rintro e w8 ⟨rfl, k8⟩
                    have HB : Hid (Below W.heap.size W w8) := H7.out.trans (k8.mono H7.out.size)
                    clear k8
                    go_wp2_with fail
                    go_ret
                    exact ⟨rfl, HB.out⟩
                · have hj2i : ¬ (j : Int) < ((k : Int) + 1) := by omega
                  have hj3i : ((k : Int) + 1) ≤ (j : Int) := by omega
                  have hmji : (m : Int) ≤ (j : Int) := by omega
                  go_wp2_with fail
                  go_quiet (fail)
                  obtain ⟨wd, hwd⟩ : ∃ wd, wr.drewN nq = wd := ⟨_, rfl⟩
                  have HW : Hid (Risen W wd x y (some ⟨b1, o1, none⟩) cz (l.take (k + 1)) z m) := by have := HI.out.step (kept_drewN wr nq); rw [hwd] at this; exact this
                  rw [hwd]
                  clear hwd HI
                  have ch := (HW.out.chance j hjz (fun _ q => absurd q (by have := HLL.out; omega))).2
                  rw [HNZ.out, HLL.out] at ch
                  have HCh : Hid _ := ch
                  clear ch c1
                  go_wp2_with fail
                  refine Calls.mono HCh.out ?_; rintro e w7 ⟨rfl, r7⟩
                  have H7 : Hid (Below W.heap.size W w7) := r7.2.2.2.2.2.2.2.2.2
                  clear r7
                  go_wp2_with fail
                  refine Calls.mono (HA.out _) ?_; rintro e w8 ⟨rfl, k8⟩
                  have HB : Hid (Below W.heap.size W w8) := H7.out.trans (k8.mono H7.out.size)
                  clear k8
                  go_wp2_with fail
                  go_ret
                  exact ⟨rfl, HB.out⟩
              · have hlti : ¬ (j : Int) < (nz : Int) := by omega
                go_wp2_with fail
                refine Calls.mono (HA.out _) ?_; rintro e w8 ⟨rfl, k8⟩
                have HB : Hid (Below W.heap.size W w8) := HI.out.2.2.2.2.2.2.2.2.2.trans (k8.mono HI.out.2.2.2.2.2.2.2.2.2.size)
                clear k8
                go_wp2_with fail
                go_ret
                exact ⟨rfl, HB.out⟩
    · have hlti : ¬ (k : Int) < (n : Int) := by omega
      obtain rfl : k = n := by omega
      have hll : l.take k = l := List.take_of_length_le (by have := HNN.out; omega)
      have HII : Hid (Ship W wr q p u11 l l m ∧ small l ∧ sizeG l ≤ 1280) := by have := HI.out; rw [hll] at this; exact this
      obtain ⟨x, y, rfl⟩ := HII.out.1.form
      have HLL : Hid (l.length = k) := HNN.out
      have HX : Hid (Sunk W wr p (.slice x k y) l m) := by have := Sunk.fin (by have := HNN.out; omega) (by have := HNN.out; omega) HII.out.1 HII.out.2.1 HII.out.2.2; rw [HNN.out] at this; exact this
      rw [HNN.out]
      clear HI HII hll
      have HC : Hid _ := sunk_crash HX.out (.slice none 0 0) [] (.inl ⟨_, _, rfl, rfl⟩) (fun a n c e => by cases e) (by simp)
      clear HX
      go_wp2_with fail
      refine Calls.mono HC.out ?_; rintro e wx ⟨rfl, o1⟩
      have HO1 : Hid _ := o1
      clear o1 HC
      go_wp2_with fail
      refine Calls.mono HO1.out ?_; rintro e wy ⟨q2, rfl, r1⟩
      have HR1 : Hid _ := r1
      clear r1 HO1
      go_wp2_with fail
      refine Calls.mono HR1.out ?_; rintro e wz ⟨x2, y2, bz, cz, z, hva, rfl, rs⟩
      rw [HLL.out] at hva
      cases hva
      have HRs : Hid (Risen W wz x y bz cz (l) z m) := rs
      clear rs HR1
      obtain ⟨nz, hnz⟩ : ∃ nz, z.length = nz := ⟨_, rfl⟩
      have hmz : m ≤ nz := by have := HRs.out.2.2.2.1; omega
      have hzz : nz ≤ 1280 := by have := HRs.out.2.2.2.2.2.1; omega
      have hmzi : (m : Int) ≤ (nz : Int) := by omega
      have hml : m ≤ k := by have := HRs.out.2.2.2.2.1; have := HLL.out; omega
      rw [hnz]
      have HNZ : Hid _ := hnz
      clear hnz
      go_wp2_with fail
      go_loopw [18] (fun i wr => ∃ j : Nat, j ≤ nz ∧ i = .int .i64 j ∧ Hid (Risen W wr x y bz cz (l) z m))
        (fun i _ => nz - (intOf i).toNat)
      case atStart => exact ⟨0, Nat.zero_le _, rfl, HRs.out⟩
      case round =>
        obtain ⟨j, hj, rfl, HI⟩ := hrel
        by_cases hlt : j < nz
        · have hlti : (j : Int) < (nz : Int) := by omega
          have hjz : j < z.length := by have := HNZ.out; omega
          obtain ⟨b1, o1, rfl, c1⟩ := HI.out.2.1.cell j hjz
          by_cases hj2 : j < k
          · have hj2i : (j : Int) < (k : Int) := by omega
            have hj3i : ¬ (k : Int) ≤ (j : Int) := by omega
            have hjl : j < (l).length := by have := HLL.out; omega
            obtain ⟨b2, o2, rfl, c2⟩ := HI.out.1.cell j hjl
            by_cases hzl : z[j] = (l)[j]
            · rw [← hzl] at c2
              have hb : (z[j].toList == z[j].toList) = true := beq_self_eq_true _
              clear hzl
              generalize z[j] = sz at c1 c2 hb
              go_wp2_with fail
              go_quiet (fail)
              obtain ⟨wd, hwd⟩ : ∃ wd, wr.drewN nq = wd := ⟨_, rfl⟩
              have HW : Hid (Risen W wd (some ⟨b2, o2, none⟩) y (some ⟨b1, o1, none⟩) cz (l) z m) := by have := HI.out.step (kept_drewN wr nq); rw [hwd] at this; exact this
              rw [hwd]
              clear hwd HI
              clear c1 c2
              go_wp2_with fail
              go_roundw
              case rel => exact ⟨j + 1, by omega, by go_num, HW.out⟩
              case measure => simp [intOf]; omega
            · have hb : (z[j].toList == (l)[j].toList) = false := by rw [beq_bytes, decide_eq_false hzl]
              have hmj := (HI.out.chance j hjz (fun _ _ => hzl)).1
              have HZL : Hid _ := hzl
              have hmji : (m : Int) ≤ (j : Int) := by omega
              clear hzl
              generalize hsz : z[j] = sz at c1 c2 hb
              generalize hsl : (l)[j] = sl at c1 c2 hb
              have HSZ : Hid _ := hsz
              have HSL : Hid _ := hsl
              clear hsz hsl
              go_wp2_with fail
              go_quiet (fail)
              obtain ⟨wd, hwd⟩ : ∃ wd, wr.drewN nq = wd := ⟨_, rfl⟩
              have HW : Hid (Risen W wd (some ⟨b2, o2, none⟩) y (some ⟨b1, o1, none⟩) cz (l) z m) := by have := HI.out.step (kept_drewN wr nq); rw [hwd] at this; exact this
              rw [hwd]
              clear hwd HI
              have ch := (HW.out.chance j hjz (fun _ _ => HZL.out)).2
              rw [HNZ.out, HLL.out] at ch
              have HCh : Hid _ := ch
              clear ch c1 c2
              go_wp2_with fail
              refine Calls.mono HCh.out ?_; rintro e w7 ⟨rfl, r7⟩
              have H7 : Hid (Below W.heap.size W w7) := r7.2.2.2.2.2.2.2.2.2
              clear r7
              go_wp2_with fail
              refine Calls.mono (HA.out _) ?_; rintro e w8 ⟨rfl, k8⟩
              have HB : Hid (Below W.heap.size W w8) := H7.out.trans (k8.mono H7.out.size)
              clear k8
              go_wp2_with fail
              go_ret
              exact ⟨rfl, HB.out⟩
          · have hj2i : ¬ (j : Int) < (k : Int) := by omega
            have hj3i : (k : Int) ≤ (j : Int) := by omega
            have hmji : (m : Int) ≤ (j : Int) := by omega
            go_wp2_with fail
            go_quiet (fail)
            obtain ⟨wd, hwd⟩ : ∃ wd, wr.drewN nq = wd := ⟨_, rfl⟩
            have HW : Hid (Risen W wd x y (some ⟨b1, o1, none⟩) cz (l) z m) := by have := HI.out.step (kept_drewN wr nq); rw [hwd] at this; exact this
            rw [hwd]
            clear hwd HI
            have ch := (HW.out.chance j hjz (fun _ q => absurd q (by have := HLL.out; omega))).2
            rw [HNZ.out, HLL.out] at ch
            have HCh : Hid _ := ch
            clear ch c1
            go_wp2_with fail
            refine Calls.mono HCh.out ?_; rintro e w7 ⟨rfl, r7⟩
            have H7 : Hid (Below W.heap.size W w7) := r7.2.2.2.2.2.2.2.2.2
            clear r7
            go_wp2_with fail
            refine Calls.mono (HA.out _) ?_; rintro e w8 ⟨rfl, k8⟩
            have HB : Hid (Below W.heap.size W w8) := H7.out.trans (k8.mono H7.out.size)
            clear k8
            go_wp2_with fail
            go_ret
            exact ⟨rfl, HB.out⟩
        · have hlti : ¬ (j : Int) < (nz : Int) := by omega
          go_wp2_with fail
          refine Calls.mono (HA.out _) ?_; rintro e w8 ⟨rfl, k8⟩
          have HB : Hid (Below W.heap.size W w8) := HI.out.2.2.2.2.2.2.2.2.2.trans (k8.mono HI.out.2.2.2.2.2.2.2.2.2.size)
          clear k8
          go_wp2_with fail
          go_ret
          exact ⟨rfl, HB.out⟩
set_option maxRecDepth 100000 in
set_option maxHeartbeats 4000000 in
theorem walk_one (a : Option Addr) (c n : Nat) (l : List ByteArray) (hn : l.length = n) (syncs : Int) (ko : Option Addr) (kc kn : Nat) (ks : List Int) (hkn : ks.length = kn) (W : World) (hl : Texts W (.slice a l.length c) l) (hs : ∀ s, s ∈ l → s.size ≤ 9223372036854775807) (w1 : (Lit.int .i64 syncs).wf = true) (hk : Ints W (.slice ko ks.length kc) ks) (hkc : kn ≤ kc) (hkl : kc ≤ 9223372036854775807) (h20 : ¬ 20 < n) (h0 : ¬ kn = 0) (hc1 : kc = 1) :
    Calls Try.prog 5 #[.slice a n c, .int .i64 syncs, .slice ko kn kc] W fun e w' => e = .returned (.bool true) ∧ Below W.heap.size W w' := by
  have HA := (show Hid _ from awake_is)
  have HN1 := (show Hid _ from new_is 40 (by omega) (by omega) W)
  have HL : Hid (Texts W (.slice a l.length c) l) := hl
  have HK : Hid (Ints W (.slice ko ks.length kc) ks) := hk
  have HNN := (show Hid _ from hn)
  have HS := (show Hid _ from hs)
  clear hl hs hn hk
  have h20i : ¬ 20 < (n : Int) := by omega
  have h0i : 0 < (kn : Int) := by omega
  obtain ⟨kb, kof, rfl, kc0⟩ := Ints.cell HK.out 0 (by omega)
  have hkb : kb < W.heap.size := World.block_lt_of_cell? W _ kc0
  generalize ks[0] = k0 at kc0
  have HFu : Hid (bits .and .i64 k0 127 ≤ 9223372036854775807) := bits_le _ _
  have HKT : Hid (∀ c', Ints W (.slice (some ⟨kb, kof + 1, none⟩) (kn - 1) c') (ks.drop 1)) := fun c' => by have := Ints.tail HK.out c' (by omega); rw [hkn] at this; exact this
  have HKL : Hid ((ks.drop 1).length ≤ 9223372036854775807) := by show (ks.drop 1).length ≤ _; rw [List.length_drop]; omega
  subst hc1
  obtain rfl : kn = 1 := by omega
  go_enter Try.func5, Try.ntmps5
  go_wp2_with fail
  refine Calls.mono HN1.out ?_; rintro e wa ⟨p, F, rfl, d1, b1, f1⟩
  have HO1 : Hid _ := jet_open d1 f1 b1
  clear d1 b1 f1 HN1
  go_wp2_with fail
  refine Calls.mono HO1.out ?_; rintro e wb ⟨q, Z, rfl, j1⟩
  have HJ : Hid (Jet W wb Z q p [] 0) := j1
  clear j1 HO1
  have kc1 : wb.cell? ⟨kb, kof + 0, none⟩ = some (.int .i64 k0) := ((jet_ship HJ.out).bel.cell (p := ⟨kb, kof + 0, none⟩) hkb).trans kc0
  rw [Nat.add_zero] at kc1
  have HF1 : Hid _ := jet_fuse HJ.out (bits .and .i64 k0 127) HFu.out
  clear HJ
  go_wp2_with fail
  refine Calls.mono HF1.out ?_; rintro e wf ⟨rfl, j2, _⟩
  have HSh : Hid (Ship W wf q p (.slice none 0 0) [] [] 0) := jet_ship j2
  clear j2 HF1 kc1
  go_wp2_with fail
  go_loopw [11, 12, 13] (fun added sure i wr => ∃ k m : Nat, k ≤ n ∧ m ≤ k ∧ i = .int .i64 k ∧ sure = .int .i64 m ∧ Hid (Ship W wr q p added (l.take k) (l.take k) m ∧ small (l.take k) ∧ sizeG (l.take k) ≤ 1280))
    (fun _ _ i _ => n - (intOf i).toNat)
  case atStart => exact ⟨0, 0, Nat.zero_le _, Nat.le_refl _, rfl, rfl, HSh.out, (fun s hs => by simp at hs), Nat.zero_le _⟩
  case round =>
    obtain ⟨k, m, hk, hmk, rfl, rfl, HI⟩ := hrel
    by_cases hlt : k < n
    · have hlti : (k : Int) < (n : Int) := by omega
      have hkl : k < l.length := by have := HNN.out; omega
      obtain ⟨b, o, rfl, c0⟩ := HL.out.cell k hkl
      have c1 : wr.cell? ⟨b, o + k, none⟩ = some (.string l[k]) := (HI.out.1.bel.cell (p := ⟨b, o + k, none⟩) (World.block_lt_of_cell? W _ c0)).trans c0
      have T1 : Hid (l.take (k + 1) = l.take k ++ [l[k]]) := List.take_succ_eq_append_getElem hkl
      have hsz := HS.out l[k] (List.getElem_mem hkl)
      generalize l[k] = s at *
      by_cases hbig : 60 < s.size
      · have hbigi : 60 < (s.size : Int) := by omega
        by_cases hs0 : s.toList.isEmpty = true
        · go_wp2_with fail
          refine Calls.mono (HA.out _) ?_; rintro e w8 ⟨rfl, k8⟩
          have HB : Hid (Below W.heap.size W w8) := HI.out.1.bel.trans (k8.mono HI.out.1.bel.size)
          clear k8
          go_wp2_with fail
          go_ret
          exact ⟨rfl, HB.out⟩
        · have hs1 : s.toList.isEmpty = false := by simpa using hs0
          go_wp2_with fail
          refine Calls.mono (HA.out _) ?_; rintro e w8 ⟨rfl, k8⟩
          have HB : Hid (Below W.heap.size W w8) := HI.out.1.bel.trans (k8.mono HI.out.1.bel.size)
          clear k8
          go_wp2_with fail
          go_ret
          exact ⟨rfl, HB.out⟩
      · have hbigi : ¬ 60 < (s.size : Int) := by omega
        by_cases hz : s.size = 0
        · have hs0 := empty_is hz
          go_wp2_with fail
          refine Calls.mono (HA.out _) ?_; rintro e w8 ⟨rfl, k8⟩
          have HB : Hid (Below W.heap.size W w8) := HI.out.1.bel.trans (k8.mono HI.out.1.bel.size)
          clear k8
          go_wp2_with fail
          go_ret
          exact ⟨rfl, HB.out⟩
        · have hs1 := not_empty hz
          have hlk : (l.take k).length = k := by rw [List.length_take]; omega
          have hlk1 : (l.take (k + 1)).length = k + 1 := by rw [List.length_take]; omega
          have HSm : Hid (small (l.take (k + 1))) := by
            show small (l.take (k + 1))
            rw [T1.out]
            intro x hx
            rcases List.mem_append.1 hx with hx | hx
            · exact HI.out.2.1 x hx
            · obtain rfl := List.mem_singleton.1 hx
              exact ⟨hz, by omega⟩
          obtain ⟨v2, W2, ra, sh⟩ := ship_append HI.out.1 s (by omega)
          rw [← T1.out] at sh
          obtain ⟨x, y, rfl⟩ := sh.form
          rw [hlk1] at sh ra
          have RA : Hid _ := ra
          have H2 : Hid (Ship W W2 q p (.slice x (k + 1) y) (l.take (k + 1)) (l.take k) m) := sh
          have c2 : W2.cell? ⟨b, o + k, none⟩ = some (.string s) := (H2.out.bel.cell (p := ⟨b, o + k, none⟩) (World.block_lt_of_cell? W _ c0)).trans c0
          have HOne : Hid _ := ship_one H2.out (by omega) s ⟨hz, by omega⟩ (by omega) HI.out.2.2
          rw [← T1.out] at HOne
          have HLL : Hid ((l.take (k + 1)).length = k + 1) := hlk1
          have hkk := hkl
          clear ra sh hlk hlk1 c0
          go_wp2_with (first | ((with_reducible apply st_append (x := .tmp 88)); (case ho => rfl); (case hgd => rfl); (case hr => exact RA.out)))
          refine Calls.mono HOne.out ?_; rintro e w5 (⟨rfl, sh5, hz5⟩ | ⟨cc, hcc, rfl, wk⟩)
          · have H5 : Hid (Ship W w5 q p (.slice x (k + 1) y) (l.take (k + 1)) (l.take (k + 1)) m ∧ sizeG (l.take (k + 1)) ≤ 1280) := ⟨sh5, hz5⟩
            clear sh5 hz5 HOne RA H2 c1 c2
            have HSy : Hid _ := ship_sync H5.out.1 (by have := HLL.out; omega)
            rw [HLL.out] at HSy
            go_wp2_with fail
            · refine Calls.mono HSy.out ?_; rintro e w6 (⟨rfl, s6⟩ | ⟨rfl, s6⟩)
              · have H6 : Hid (Ship W w6 q p (.slice x (k + 1) y) (l.take (k + 1)) (l.take (k + 1)) (k + 1)) := s6
                clear s6 HSy
                go_wp2_with fail
                go_roundw
                case rel => exact ⟨k + 1, k + 1, by omega, by omega, by go_num, by go_num, H6.out, HSm.out, H5.out.2⟩
                case measure => simp [intOf]; omega
              · have H6 : Hid (Ship W w6 q p (.slice x (k + 1) y) (l.take (k + 1)) (l.take (k + 1)) m) := s6
                clear s6 HSy
                go_wp2_with fail
                go_roundw
                case rel => exact ⟨k + 1, m, by omega, by omega, by go_num, by go_num, H6.out, HSm.out, H5.out.2⟩
                case measure => simp [intOf]; omega
            · go_roundw
              case rel => exact ⟨k + 1, m, by omega, by omega, by go_num, by go_num, H5.out.1, HSm.out, H5.out.2⟩
              case measure => simp [intOf]; omega
          · have HX : Hid (Sunk W w5 p (.slice x (k + 1) y) (l.take (k + 1)) m) := Sunk.brk hkk (by have := HNN.out; omega) hmk wk HSm.out HI.out.2.2
            clear wk HOne RA H2 c1 c2
            have HC : Hid _ := sunk_crash HX.out (.slice (some ⟨kb, kof, none⟩) 0 0) [] (.inl ⟨_, _, rfl, rfl⟩) (fun a n c e => by cases e; exact hkb) (by simp)
            clear HX
            go_wp2_with fail
            refine Calls.mono HC.out ?_; rintro e wx ⟨rfl, o1⟩
            have HO1 : Hid _ := o1
            clear o1 HC
            go_wp2_with fail
            refine Calls.mono HO1.out ?_; rintro e wy ⟨q2, rfl, r1⟩
            have HR1 : Hid _ := r1
            clear r1 HO1
            go_wp2_with fail
            refine Calls.mono HR1.out ?_; rintro e wz ⟨x2, y2, bz, cz, z, hva, rfl, rs⟩
            rw [HLL.out] at hva
            cases hva
            have HRs : Hid (Risen W wz x y bz cz (l.take (k + 1)) z m) := rs
            clear rs HR1
            obtain ⟨nz, hnz⟩ : ∃ nz, z.length = nz := ⟨_, rfl⟩
            have hmz : m ≤ nz := by have := HRs.out.2.2.2.1; omega
            have hzz : nz ≤ 1280 := by have := HRs.out.2.2.2.2.2.1; omega
            have hmzi : (m : Int) ≤ (nz : Int) := by omega
            have hml : m ≤ (k + 1) := by have := HRs.out.2.2.2.2.1; have := HLL.out; omega
            rw [hnz]
            have HNZ : Hid _ := hnz
            clear hnz
            go_wp2_with fail
            go_loopw [18] (fun i wr => ∃ j : Nat, j ≤ nz ∧ i = .int .i64 j ∧ Hid (Risen W wr x y bz cz (l.take (k + 1)) z m))
              (fun i _ => nz - (intOf i).toNat)
            case atStart => exact ⟨0, Nat.zero_le _, rfl, HRs.out⟩
            case round =>
              obtain ⟨j, hj, rfl, HI⟩ := hrel
              by_cases hlt : j < nz
              · have hlti : (j : Int) < (nz : Int) := by omega
                have hjz : j < z.length := by have := HNZ.out; omega
                obtain ⟨b1, o1, rfl, c1⟩ := HI.out.2.1.cell j hjz
                by_cases hj2 : j < (k + 1)
                · have hj2i : (j : Int) < ((k : Int) + 1) := by omega
                  have hj3i : ¬ ((k : Int) + 1) ≤ (j : Int) := by omega
                  have hjl : j < (l.take (k + 1)).length := by have := HLL.out; omega
                  obtain ⟨b2, o2, rfl, c2⟩ := HI.out.1.cell j hjl
                  by_cases hzl : z[j] = (l.take (k + 1))[j]
                  · rw [← hzl] at c2
                    have hb : (z[j].toList == z[j].toList) = true := beq_self_eq_true _
                    clear hzl
                    generalize z[j] = sz at c1 c2 hb
                    go_wp2_with fail
                    go_quiet (fail)
                    obtain ⟨wd, hwd⟩ : ∃ wd, wr.drewN nq = wd := ⟨_, rfl⟩
                    have HW : Hid (Risen W wd (some ⟨b2, o2, none⟩) y (some ⟨b1, o1, none⟩) cz (l.take (k + 1)) z m) := by have := HI.out.step (kept_drewN wr nq); rw [hwd] at this; exact this
                    rw [hwd]
                    clear hwd HI
                    clear c1 c2
                    go_wp2_with fail
                    go_roundw
                    case rel => exact ⟨j + 1, by omega, by go_num, HW.out⟩
                    case measure => simp [intOf]; omega
                  · have hb : (z[j].toList == (l.take (k + 1))[j].toList) = false := by rw [beq_bytes, decide_eq_false hzl]
                    have hmj := (HI.out.chance j hjz (fun _ _ => hzl)).1
                    have HZL : Hid _ := hzl
                    have hmji : (m : Int) ≤ (j : Int) := by omega
                    clear hzl
                    generalize hsz : z[j] = sz at c1 c2 hb
                    generalize hsl : (l.take (k + 1))[j] = sl at c1 c2 hb
                    have HSZ : Hid _ := hsz
                    have HSL : Hid _ := hsl
                    clear hsz hsl
                    go_wp2_with fail
                    go_quiet (fail)
                    obtain ⟨wd, hwd⟩ : ∃ wd, wr.drewN nq = wd := ⟨_, rfl⟩
                    have HW : Hid (Risen W wd (some ⟨b2, o2, none⟩) y (some ⟨b1, o1, none⟩) cz (l.take (k + 1)) z m) := by have := HI.out.step (kept_drewN wr nq); rw [hwd] at this; exact this
                    rw [hwd]
                    clear hwd HI
                    have ch := (HW.out.chance j hjz (fun _ _ => HZL.out)).2
                    rw [HNZ.out, HLL.out] at ch
                    have HCh : Hid _ := ch
                    clear ch c1 c2
                    go_wp2_with fail
                    refine Calls.mono HCh.out ?_; rintro e w7 ⟨rfl, r7⟩
                    have H7 : Hid (Below W.heap.size W w7) := r7.2.2.2.2.2.2.2.2.2
                    clear r7
                    go_wp2_with fail
                    refine Calls.mono (HA.out _) ?_; rintro e w8 ⟨rfl, k8⟩
                    have HB : Hid (Below W.heap.size W w8) := H7.out.trans (k8.mono H7.out.size)
                    clear k8
                    go_wp2_with fail
                    go_ret
                    exact ⟨rfl, HB.out⟩
                · have hj2i : ¬ (j : Int) < ((k : Int) + 1) := by omega
                  have hj3i : ((k : Int) + 1) ≤ (j : Int) := by omega
                  have hmji : (m : Int) ≤ (j : Int) := by omega
                  go_wp2_with fail
                  go_quiet (fail)
                  obtain ⟨wd, hwd⟩ : ∃ wd, wr.drewN nq = wd := ⟨_, rfl⟩
                  have HW : Hid (Risen W wd x y (some ⟨b1, o1, none⟩) cz (l.take (k + 1)) z m) := by have := HI.out.step (kept_drewN wr nq); rw [hwd] at this; exact this
                  rw [hwd]
                  clear hwd HI
                  have ch := (HW.out.chance j hjz (fun _ q => absurd q (by have := HLL.out; omega))).2
                  rw [HNZ.out, HLL.out] at ch
                  have HCh : Hid _ := ch
                  clear ch c1
                  go_wp2_with fail
                  refine Calls.mono HCh.out ?_; rintro e w7 ⟨rfl, r7⟩
                  have H7 : Hid (Below W.heap.size W w7) := r7.2.2.2.2.2.2.2.2.2
                  clear r7
                  go_wp2_with fail
                  refine Calls.mono (HA.out _) ?_; rintro e w8 ⟨rfl, k8⟩
                  have HB : Hid (Below W.heap.size W w8) := H7.out.trans (k8.mono H7.out.size)
                  clear k8
                  go_wp2_with fail
                  go_ret
                  exact ⟨rfl, HB.out⟩
              · have hlti : ¬ (j : Int) < (nz : Int) := by omega
                go_wp2_with fail
                refine Calls.mono (HA.out _) ?_; rintro e w8 ⟨rfl, k8⟩
                have HB : Hid (Below W.heap.size W w8) := HI.out.2.2.2.2.2.2.2.2.2.trans (k8.mono HI.out.2.2.2.2.2.2.2.2.2.size)
                clear k8
                go_wp2_with fail
                go_ret
                exact ⟨rfl, HB.out⟩
    · have hlti : ¬ (k : Int) < (n : Int) := by omega
      obtain rfl : k = n := by omega
      have hll : l.take k = l := List.take_of_length_le (by have := HNN.out; omega)
      have HII : Hid (Ship W wr q p u11 l l m ∧ small l ∧ sizeG l ≤ 1280) := by have := HI.out; rw [hll] at this; exact this
      obtain ⟨x, y, rfl⟩ := HII.out.1.form
      have HLL : Hid (l.length = k) := HNN.out
      have HX : Hid (Sunk W wr p (.slice x k y) l m) := by have := Sunk.fin (by have := HNN.out; omega) (by have := HNN.out; omega) HII.out.1 HII.out.2.1 HII.out.2.2; rw [HNN.out] at this; exact this
      rw [HNN.out]
      clear HI HII hll
      have HC : Hid _ := sunk_crash HX.out (.slice (some ⟨kb, kof, none⟩) 0 0) [] (.inl ⟨_, _, rfl, rfl⟩) (fun a n c e => by cases e; exact hkb) (by simp)
      clear HX
      go_wp2_with fail
      refine Calls.mono HC.out ?_; rintro e wx ⟨rfl, o1⟩
      have HO1 : Hid _ := o1
      clear o1 HC
      go_wp2_with fail
      refine Calls.mono HO1.out ?_; rintro e wy ⟨q2, rfl, r1⟩
      have HR1 : Hid _ := r1
      clear r1 HO1
      go_wp2_with fail
      refine Calls.mono HR1.out ?_; rintro e wz ⟨x2, y2, bz, cz, z, hva, rfl, rs⟩
      rw [HLL.out] at hva
      cases hva
      have HRs : Hid (Risen W wz x y bz cz (l) z m) := rs
      clear rs HR1
      obtain ⟨nz, hnz⟩ : ∃ nz, z.length = nz := ⟨_, rfl⟩
      have hmz : m ≤ nz := by have := HRs.out.2.2.2.1; omega
      have hzz : nz ≤ 1280 := by have := HRs.out.2.2.2.2.2.1; omega
      have hmzi : (m : Int) ≤ (nz : Int) := by omega
      have hml : m ≤ k := by have := HRs.out.2.2.2.2.1; have := HLL.out; omega
      rw [hnz]
      have HNZ : Hid _ := hnz
      clear hnz
      go_wp2_with fail
      go_loopw [18] (fun i wr => ∃ j : Nat, j ≤ nz ∧ i = .int .i64 j ∧ Hid (Risen W wr x y bz cz (l) z m))
        (fun i _ => nz - (intOf i).toNat)
      case atStart => exact ⟨0, Nat.zero_le _, rfl, HRs.out⟩
      case round =>
        obtain ⟨j, hj, rfl, HI⟩ := hrel
        by_cases hlt : j < nz
        · have hlti : (j : Int) < (nz : Int) := by omega
          have hjz : j < z.length := by have := HNZ.out; omega
          obtain ⟨b1, o1, rfl, c1⟩ := HI.out.2.1.cell j hjz
          by_cases hj2 : j < k
          · have hj2i : (j : Int) < (k : Int) := by omega
            have hj3i : ¬ (k : Int) ≤ (j : Int) := by omega
            have hjl : j < (l).length := by have := HLL.out; omega
            obtain ⟨b2, o2, rfl, c2⟩ := HI.out.1.cell j hjl
            by_cases hzl : z[j] = (l)[j]
            · rw [← hzl] at c2
              have hb : (z[j].toList == z[j].toList) = true := beq_self_eq_true _
              clear hzl
              generalize z[j] = sz at c1 c2 hb
              go_wp2_with fail
              go_quiet (fail)
              obtain ⟨wd, hwd⟩ : ∃ wd, wr.drewN nq = wd := ⟨_, rfl⟩
              have HW : Hid (Risen W wd (some ⟨b2, o2, none⟩) y (some ⟨b1, o1, none⟩) cz (l) z m) := by have := HI.out.step (kept_drewN wr nq); rw [hwd] at this; exact this
              rw [hwd]
              clear hwd HI
              clear c1 c2
              go_wp2_with fail
              go_roundw
              case rel => exact ⟨j + 1, by omega, by go_num, HW.out⟩
              case measure => simp [intOf]; omega
            · have hb : (z[j].toList == (l)[j].toList) = false := by rw [beq_bytes, decide_eq_false hzl]
              have hmj := (HI.out.chance j hjz (fun _ _ => hzl)).1
              have HZL : Hid _ := hzl
              have hmji : (m : Int) ≤ (j : Int) := by omega
              clear hzl
              generalize hsz : z[j] = sz at c1 c2 hb
              generalize hsl : (l)[j] = sl at c1 c2 hb
              have HSZ : Hid _ := hsz
              have HSL : Hid _ := hsl
              clear hsz hsl
              go_wp2_with fail
              go_quiet (fail)
              obtain ⟨wd, hwd⟩ : ∃ wd, wr.drewN nq = wd := ⟨_, rfl⟩
              have HW : Hid (Risen W wd (some ⟨b2, o2, none⟩) y (some ⟨b1, o1, none⟩) cz (l) z m) := by have := HI.out.step (kept_drewN wr nq); rw [hwd] at this; exact this
              rw [hwd]
              clear hwd HI
              have ch := (HW.out.chance j hjz (fun _ _ => HZL.out)).2
              rw [HNZ.out, HLL.out] at ch
              have HCh : Hid _ := ch
              clear ch c1 c2
              go_wp2_with fail
              refine Calls.mono HCh.out ?_; rintro e w7 ⟨rfl, r7⟩
              have H7 : Hid (Below W.heap.size W w7) := r7.2.2.2.2.2.2.2.2.2
              clear r7
              go_wp2_with fail
              refine Calls.mono (HA.out _) ?_; rintro e w8 ⟨rfl, k8⟩
              have HB : Hid (Below W.heap.size W w8) := H7.out.trans (k8.mono H7.out.size)
              clear k8
              go_wp2_with fail
              go_ret
              exact ⟨rfl, HB.out⟩
          · have hj2i : ¬ (j : Int) < (k : Int) := by omega
            have hj3i : (k : Int) ≤ (j : Int) := by omega
            have hmji : (m : Int) ≤ (j : Int) := by omega
            go_wp2_with fail
            go_quiet (fail)
            obtain ⟨wd, hwd⟩ : ∃ wd, wr.drewN nq = wd := ⟨_, rfl⟩
            have HW : Hid (Risen W wd x y (some ⟨b1, o1, none⟩) cz (l) z m) := by have := HI.out.step (kept_drewN wr nq); rw [hwd] at this; exact this
            rw [hwd]
            clear hwd HI
            have ch := (HW.out.chance j hjz (fun _ q => absurd q (by have := HLL.out; omega))).2
            rw [HNZ.out, HLL.out] at ch
            have HCh : Hid _ := ch
            clear ch c1
            go_wp2_with fail
            refine Calls.mono HCh.out ?_; rintro e w7 ⟨rfl, r7⟩
            have H7 : Hid (Below W.heap.size W w7) := r7.2.2.2.2.2.2.2.2.2
            clear r7
            go_wp2_with fail
            refine Calls.mono (HA.out _) ?_; rintro e w8 ⟨rfl, k8⟩
            have HB : Hid (Below W.heap.size W w8) := H7.out.trans (k8.mono H7.out.size)
            clear k8
            go_wp2_with fail
            go_ret
            exact ⟨rfl, HB.out⟩
        · have hlti : ¬ (j : Int) < (nz : Int) := by omega
          go_wp2_with fail
          refine Calls.mono (HA.out _) ?_; rintro e w8 ⟨rfl, k8⟩
          have HB : Hid (Below W.heap.size W w8) := HI.out.2.2.2.2.2.2.2.2.2.trans (k8.mono HI.out.2.2.2.2.2.2.2.2.2.size)
          clear k8
          go_wp2_with fail
          go_ret
          exact ⟨rfl, HB.out⟩
set_option maxRecDepth 100000 in
set_option maxHeartbeats 4000000 in
theorem walk_more (a : Option Addr) (c n : Nat) (l : List ByteArray) (hn : l.length = n) (syncs : Int) (ko : Option Addr) (kc kn : Nat) (ks : List Int) (hkn : ks.length = kn) (W : World) (hl : Texts W (.slice a l.length c) l) (hs : ∀ s, s ∈ l → s.size ≤ 9223372036854775807) (w1 : (Lit.int .i64 syncs).wf = true) (hk : Ints W (.slice ko ks.length kc) ks) (hkc : kn ≤ kc) (hkl : kc ≤ 9223372036854775807) (h20 : ¬ 20 < n) (h0 : ¬ kn = 0) (hc1 : ¬ kc = 1) :
    Calls Try.prog 5 #[.slice a n c, .int .i64 syncs, .slice ko kn kc] W fun e w' => e = .returned (.bool true) ∧ Below W.heap.size W w' := by
  have HA := (show Hid _ from awake_is)
  have HN1 := (show Hid _ from new_is 40 (by omega) (by omega) W)
  have HL : Hid (Texts W (.slice a l.length c) l) := hl
  have HK : Hid (Ints W (.slice ko ks.length kc) ks) := hk
  have HNN := (show Hid _ from hn)
  have HS := (show Hid _ from hs)
  clear hl hs hn hk
  have h20i : ¬ 20 < (n : Int) := by omega
  have h0i : 0 < (kn : Int) := by omega
  obtain ⟨kb, kof, rfl, kc0⟩ := Ints.cell HK.out 0 (by omega)
  have hkb : kb < W.heap.size := World.block_lt_of_cell? W _ kc0
  generalize ks[0] = k0 at kc0
  have HFu : Hid (bits .and .i64 k0 127 ≤ 9223372036854775807) := bits_le _ _
  have HKT : Hid (∀ c', Ints W (.slice (some ⟨kb, kof + 1, none⟩) (kn - 1) c') (ks.drop 1)) := fun c' => by have := Ints.tail HK.out c' (by omega); rw [hkn] at this; exact this
  have HKL : Hid ((ks.drop 1).length ≤ 9223372036854775807) := by show (ks.drop 1).length ≤ _; rw [List.length_drop]; omega
  have hc1i : ¬ (kc : Int) = 1 := by omega
  go_enter Try.func5, Try.ntmps5
  go_wp2_with fail
  refine Calls.mono HN1.out ?_; rintro e wa ⟨p, F, rfl, d1, b1, f1⟩
  have HO1 : Hid _ := jet_open d1 f1 b1
  clear d1 b1 f1 HN1
  go_wp2_with fail
  refine Calls.mono HO1.out ?_; rintro e wb ⟨q, Z, rfl, j1⟩
  have HJ : Hid (Jet W wb Z q p [] 0) := j1
  clear j1 HO1
  have kc1 : wb.cell? ⟨kb, kof + 0, none⟩ = some (.int .i64 k0) := ((jet_ship HJ.out).bel.cell (p := ⟨kb, kof + 0, none⟩) hkb).trans kc0
  rw [Nat.add_zero] at kc1
  have HF1 : Hid _ := jet_fuse HJ.out (bits .and .i64 k0 127) HFu.out
  clear HJ
  go_wp2_with fail
  refine Calls.mono HF1.out ?_; rintro e wf ⟨rfl, j2, _⟩
  have HSh : Hid (Ship W wf q p (.slice none 0 0) [] [] 0) := jet_ship j2
  clear j2 HF1 kc1
  go_wp2_with fail
  go_loopw [11, 12, 13] (fun added sure i wr => ∃ k m : Nat, k ≤ n ∧ m ≤ k ∧ i = .int .i64 k ∧ sure = .int .i64 m ∧ Hid (Ship W wr q p added (l.take k) (l.take k) m ∧ small (l.take k) ∧ sizeG (l.take k) ≤ 1280))
    (fun _ _ i _ => n - (intOf i).toNat)
  case atStart => exact ⟨0, 0, Nat.zero_le _, Nat.le_refl _, rfl, rfl, HSh.out, (fun s hs => by simp at hs), Nat.zero_le _⟩
  case round =>
    obtain ⟨k, m, hk, hmk, rfl, rfl, HI⟩ := hrel
    by_cases hlt : k < n
    · have hlti : (k : Int) < (n : Int) := by omega
      have hkl : k < l.length := by have := HNN.out; omega
      obtain ⟨b, o, rfl, c0⟩ := HL.out.cell k hkl
      have c1 : wr.cell? ⟨b, o + k, none⟩ = some (.string l[k]) := (HI.out.1.bel.cell (p := ⟨b, o + k, none⟩) (World.block_lt_of_cell? W _ c0)).trans c0
      have T1 : Hid (l.take (k + 1) = l.take k ++ [l[k]]) := List.take_succ_eq_append_getElem hkl
      have hsz := HS.out l[k] (List.getElem_mem hkl)
      generalize l[k] = s at *
      by_cases hbig : 60 < s.size
      · have hbigi : 60 < (s.size : Int) := by omega
        by_cases hs0 : s.toList.isEmpty = true
        · go_wp2_with fail
          refine Calls.mono (HA.out _) ?_; rintro e w8 ⟨rfl, k8⟩
          have HB : Hid (Below W.heap.size W w8) := HI.out.1.bel.trans (k8.mono HI.out.1.bel.size)
          clear k8
          go_wp2_with fail
          go_ret
          exact ⟨rfl, HB.out⟩
        · have hs1 : s.toList.isEmpty = false := by simpa using hs0
          go_wp2_with fail
          refine Calls.mono (HA.out _) ?_; rintro e w8 ⟨rfl, k8⟩
          have HB : Hid (Below W.heap.size W w8) := HI.out.1.bel.trans (k8.mono HI.out.1.bel.size)
          clear k8
          go_wp2_with fail
          go_ret
          exact ⟨rfl, HB.out⟩
      · have hbigi : ¬ 60 < (s.size : Int) := by omega
        by_cases hz : s.size = 0
        · have hs0 := empty_is hz
          go_wp2_with fail
          refine Calls.mono (HA.out _) ?_; rintro e w8 ⟨rfl, k8⟩
          have HB : Hid (Below W.heap.size W w8) := HI.out.1.bel.trans (k8.mono HI.out.1.bel.size)
          clear k8
          go_wp2_with fail
          go_ret
          exact ⟨rfl, HB.out⟩
        · have hs1 := not_empty hz
          have hlk : (l.take k).length = k := by rw [List.length_take]; omega
          have hlk1 : (l.take (k + 1)).length = k + 1 := by rw [List.length_take]; omega
          have HSm : Hid (small (l.take (k + 1))) := by
            show small (l.take (k + 1))
            rw [T1.out]
            intro x hx
            rcases List.mem_append.1 hx with hx | hx
            · exact HI.out.2.1 x hx
            · obtain rfl := List.mem_singleton.1 hx
              exact ⟨hz, by omega⟩
          obtain ⟨v2, W2, ra, sh⟩ := ship_append HI.out.1 s (by omega)
          rw [← T1.out] at sh
          obtain ⟨x, y, rfl⟩ := sh.form
          rw [hlk1] at sh ra
          have RA : Hid _ := ra
          have H2 : Hid (Ship W W2 q p (.slice x (k + 1) y) (l.take (k + 1)) (l.take k) m) := sh
          have c2 : W2.cell? ⟨b, o + k, none⟩ = some (.string s) := (H2.out.bel.cell (p := ⟨b, o + k, none⟩) (World.block_lt_of_cell? W _ c0)).trans c0
          have HOne : Hid _ := ship_one H2.out (by omega) s ⟨hz, by omega⟩ (by omega) HI.out.2.2
          rw [← T1.out] at HOne
          have HLL : Hid ((l.take (k + 1)).length = k + 1) := hlk1
          have hkk := hkl
          clear ra sh hlk hlk1 c0
          go_wp2_with (first | ((with_reducible apply st_append (x := .tmp 88)); (case ho => rfl); (case hgd => rfl); (case hr => exact RA.out)))
          refine Calls.mono HOne.out ?_; rintro e w5 (⟨rfl, sh5, hz5⟩ | ⟨cc, hcc, rfl, wk⟩)
          · have H5 : Hid (Ship W w5 q p (.slice x (k + 1) y) (l.take (k + 1)) (l.take (k + 1)) m ∧ sizeG (l.take (k + 1)) ≤ 1280) := ⟨sh5, hz5⟩
            clear sh5 hz5 HOne RA H2 c1 c2
            have HSy : Hid _ := ship_sync H5.out.1 (by have := HLL.out; omega)
            rw [HLL.out] at HSy
            go_wp2_with fail
            · refine Calls.mono HSy.out ?_; rintro e w6 (⟨rfl, s6⟩ | ⟨rfl, s6⟩)
              · have H6 : Hid (Ship W w6 q p (.slice x (k + 1) y) (l.take (k + 1)) (l.take (k + 1)) (k + 1)) := s6
                clear s6 HSy
                go_wp2_with fail
                go_roundw
                case rel => exact ⟨k + 1, k + 1, by omega, by omega, by go_num, by go_num, H6.out, HSm.out, H5.out.2⟩
                case measure => simp [intOf]; omega
              · have H6 : Hid (Ship W w6 q p (.slice x (k + 1) y) (l.take (k + 1)) (l.take (k + 1)) m) := s6
                clear s6 HSy
                go_wp2_with fail
                go_roundw
                case rel => exact ⟨k + 1, m, by omega, by omega, by go_num, by go_num, H6.out, HSm.out, H5.out.2⟩
                case measure => simp [intOf]; omega
            · go_roundw
              case rel => exact ⟨k + 1, m, by omega, by omega, by go_num, by go_num, H5.out.1, HSm.out, H5.out.2⟩
              case measure => simp [intOf]; omega
          · have HX : Hid (Sunk W w5 p (.slice x (k + 1) y) (l.take (k + 1)) m) := Sunk.brk hkk (by have := HNN.out; omega) hmk wk HSm.out HI.out.2.2
            clear wk HOne RA H2 c1 c2
            have HC : Hid _ := sunk_crash HX.out (.slice (some ⟨kb, kof + 1, none⟩) (kn - 1) (kc - 1)) (ks.drop 1) (HKT.out _) (fun a n c e => by cases e; exact hkb) HKL.out
            clear HX
            go_wp2_with fail
            refine Calls.mono HC.out ?_; rintro e wx ⟨rfl, o1⟩
            have HO1 : Hid _ := o1
            clear o1 HC
            go_wp2_with fail
            refine Calls.mono HO1.out ?_; rintro e wy ⟨q2, rfl, r1⟩
            have HR1 : Hid _ := r1
            clear r1 HO1
            go_wp2_with fail
            refine Calls.mono HR1.out ?_; rintro e wz ⟨x2, y2, bz, cz, z, hva, rfl, rs⟩
            rw [HLL.out] at hva
            cases hva
            have HRs : Hid (Risen W wz x y bz cz (l.take (k + 1)) z m) := rs
            clear rs HR1
            obtain ⟨nz, hnz⟩ : ∃ nz, z.length = nz := ⟨_, rfl⟩
            have hmz : m ≤ nz := by have := HRs.out.2.2.2.1; omega
            have hzz : nz ≤ 1280 := by have := HRs.out.2.2.2.2.2.1; omega
            have hmzi : (m : Int) ≤ (nz : Int) := by omega
            have hml : m ≤ (k + 1) := by have := HRs.out.2.2.2.2.1; have := HLL.out; omega
            rw [hnz]
            have HNZ : Hid _ := hnz
            clear hnz
            go_wp2_with fail
            go_loopw [18] (fun i wr => ∃ j : Nat, j ≤ nz ∧ i = .int .i64 j ∧ Hid (Risen W wr x y bz cz (l.take (k + 1)) z m))
              (fun i _ => nz - (intOf i).toNat)
            case atStart => exact ⟨0, Nat.zero_le _, rfl, HRs.out⟩
            case round =>
              obtain ⟨j, hj, rfl, HI⟩ := hrel
              by_cases hlt : j < nz
              · have hlti : (j : Int) < (nz : Int) := by omega
                have hjz : j < z.length := by have := HNZ.out; omega
                obtain ⟨b1, o1, rfl, c1⟩ := HI.out.2.1.cell j hjz
                by_cases hj2 : j < (k + 1)
                · have hj2i : (j : Int) < ((k : Int) + 1) := by omega
                  have hj3i : ¬ ((k : Int) + 1) ≤ (j : Int) := by omega
                  have hjl : j < (l.take (k + 1)).length := by have := HLL.out; omega
                  obtain ⟨b2, o2, rfl, c2⟩ := HI.out.1.cell j hjl
                  by_cases hzl : z[j] = (l.take (k + 1))[j]
                  · rw [← hzl] at c2
                    have hb : (z[j].toList == z[j].toList) = true := beq_self_eq_true _
                    clear hzl
                    generalize z[j] = sz at c1 c2 hb
                    go_wp2_with fail
                    go_quiet (fail)
                    obtain ⟨wd, hwd⟩ : ∃ wd, wr.drewN nq = wd := ⟨_, rfl⟩
                    have HW : Hid (Risen W wd (some ⟨b2, o2, none⟩) y (some ⟨b1, o1, none⟩) cz (l.take (k + 1)) z m) := by have := HI.out.step (kept_drewN wr nq); rw [hwd] at this; exact this
                    rw [hwd]
                    clear hwd HI
                    clear c1 c2
                    go_wp2_with fail
                    go_roundw
                    case rel => exact ⟨j + 1, by omega, by go_num, HW.out⟩
                    case measure => simp [intOf]; omega
                  · have hb : (z[j].toList == (l.take (k + 1))[j].toList) = false := by rw [beq_bytes, decide_eq_false hzl]
                    have hmj := (HI.out.chance j hjz (fun _ _ => hzl)).1
                    have HZL : Hid _ := hzl
                    have hmji : (m : Int) ≤ (j : Int) := by omega
                    clear hzl
                    generalize hsz : z[j] = sz at c1 c2 hb
                    generalize hsl : (l.take (k + 1))[j] = sl at c1 c2 hb
                    have HSZ : Hid _ := hsz
                    have HSL : Hid _ := hsl
                    clear hsz hsl
                    go_wp2_with fail
                    go_quiet (fail)
                    obtain ⟨wd, hwd⟩ : ∃ wd, wr.drewN nq = wd := ⟨_, rfl⟩
                    have HW : Hid (Risen W wd (some ⟨b2, o2, none⟩) y (some ⟨b1, o1, none⟩) cz (l.take (k + 1)) z m) := by have := HI.out.step (kept_drewN wr nq); rw [hwd] at this; exact this
                    rw [hwd]
                    clear hwd HI
                    have ch := (HW.out.chance j hjz (fun _ _ => HZL.out)).2
                    rw [HNZ.out, HLL.out] at ch
                    have HCh : Hid _ := ch
                    clear ch c1 c2
                    go_wp2_with fail
                    refine Calls.mono HCh.out ?_; rintro e w7 ⟨rfl, r7⟩
                    have H7 : Hid (Below W.heap.size W w7) := r7.2.2.2.2.2.2.2.2.2
                    clear r7
                    go_wp2_with fail
                    refine Calls.mono (HA.out _) ?_; rintro e w8 ⟨rfl, k8⟩
                    have HB : Hid (Below W.heap.size W w8) := H7.out.trans (k8.mono H7.out.size)
                    clear k8
                    go_wp2_with fail
                    go_ret
                    exact ⟨rfl, HB.out⟩
                · have hj2i : ¬ (j : Int) < ((k : Int) + 1) := by omega
                  have hj3i : ((k : Int) + 1) ≤ (j : Int) := by omega
                  have hmji : (m : Int) ≤ (j : Int) := by omega
                  go_wp2_with fail
                  go_quiet (fail)
                  obtain ⟨wd, hwd⟩ : ∃ wd, wr.drewN nq = wd := ⟨_, rfl⟩
                  have HW : Hid (Risen W wd x y (some ⟨b1, o1, none⟩) cz (l.take (k + 1)) z m) := by have := HI.out.step (kept_drewN wr nq); rw [hwd] at this; exact this
                  rw [hwd]
                  clear hwd HI
                  have ch := (HW.out.chance j hjz (fun _ q => absurd q (by have := HLL.out; omega))).2
                  rw [HNZ.out, HLL.out] at ch
                  have HCh : Hid _ := ch
                  clear ch c1
                  go_wp2_with fail
                  refine Calls.mono HCh.out ?_; rintro e w7 ⟨rfl, r7⟩
                  have H7 : Hid (Below W.heap.size W w7) := r7.2.2.2.2.2.2.2.2.2
                  clear r7
                  go_wp2_with fail
                  refine Calls.mono (HA.out _) ?_; rintro e w8 ⟨rfl, k8⟩
                  have HB : Hid (Below W.heap.size W w8) := H7.out.trans (k8.mono H7.out.size)
                  clear k8
                  go_wp2_with fail
                  go_ret
                  exact ⟨rfl, HB.out⟩
              · have hlti : ¬ (j : Int) < (nz : Int) := by omega
                go_wp2_with fail
                refine Calls.mono (HA.out _) ?_; rintro e w8 ⟨rfl, k8⟩
                have HB : Hid (Below W.heap.size W w8) := HI.out.2.2.2.2.2.2.2.2.2.trans (k8.mono HI.out.2.2.2.2.2.2.2.2.2.size)
                clear k8
                go_wp2_with fail
                go_ret
                exact ⟨rfl, HB.out⟩
    · have hlti : ¬ (k : Int) < (n : Int) := by omega
      obtain rfl : k = n := by omega
      have hll : l.take k = l := List.take_of_length_le (by have := HNN.out; omega)
      have HII : Hid (Ship W wr q p u11 l l m ∧ small l ∧ sizeG l ≤ 1280) := by have := HI.out; rw [hll] at this; exact this
      obtain ⟨x, y, rfl⟩ := HII.out.1.form
      have HLL : Hid (l.length = k) := HNN.out
      have HX : Hid (Sunk W wr p (.slice x k y) l m) := by have := Sunk.fin (by have := HNN.out; omega) (by have := HNN.out; omega) HII.out.1 HII.out.2.1 HII.out.2.2; rw [HNN.out] at this; exact this
      rw [HNN.out]
      clear HI HII hll
      have HC : Hid _ := sunk_crash HX.out (.slice (some ⟨kb, kof + 1, none⟩) (kn - 1) (kc - 1)) (ks.drop 1) (HKT.out _) (fun a n c e => by cases e; exact hkb) HKL.out
      clear HX
      go_wp2_with fail
      refine Calls.mono HC.out ?_; rintro e wx ⟨rfl, o1⟩
      have HO1 : Hid _ := o1
      clear o1 HC
      go_wp2_with fail
      refine Calls.mono HO1.out ?_; rintro e wy ⟨q2, rfl, r1⟩
      have HR1 : Hid _ := r1
      clear r1 HO1
      go_wp2_with fail
      refine Calls.mono HR1.out ?_; rintro e wz ⟨x2, y2, bz, cz, z, hva, rfl, rs⟩
      rw [HLL.out] at hva
      cases hva
      have HRs : Hid (Risen W wz x y bz cz (l) z m) := rs
      clear rs HR1
      obtain ⟨nz, hnz⟩ : ∃ nz, z.length = nz := ⟨_, rfl⟩
      have hmz : m ≤ nz := by have := HRs.out.2.2.2.1; omega
      have hzz : nz ≤ 1280 := by have := HRs.out.2.2.2.2.2.1; omega
      have hmzi : (m : Int) ≤ (nz : Int) := by omega
      have hml : m ≤ k := by have := HRs.out.2.2.2.2.1; have := HLL.out; omega
      rw [hnz]
      have HNZ : Hid _ := hnz
      clear hnz
      go_wp2_with fail
      go_loopw [18] (fun i wr => ∃ j : Nat, j ≤ nz ∧ i = .int .i64 j ∧ Hid (Risen W wr x y bz cz (l) z m))
        (fun i _ => nz - (intOf i).toNat)
      case atStart => exact ⟨0, Nat.zero_le _, rfl, HRs.out⟩
      case round =>
        obtain ⟨j, hj, rfl, HI⟩ := hrel
        by_cases hlt : j < nz
        · have hlti : (j : Int) < (nz : Int) := by omega
          have hjz : j < z.length := by have := HNZ.out; omega
          obtain ⟨b1, o1, rfl, c1⟩ := HI.out.2.1.cell j hjz
          by_cases hj2 : j < k
          · have hj2i : (j : Int) < (k : Int) := by omega
            have hj3i : ¬ (k : Int) ≤ (j : Int) := by omega
            have hjl : j < (l).length := by have := HLL.out; omega
            obtain ⟨b2, o2, rfl, c2⟩ := HI.out.1.cell j hjl
            by_cases hzl : z[j] = (l)[j]
            · rw [← hzl] at c2
              have hb : (z[j].toList == z[j].toList) = true := beq_self_eq_true _
              clear hzl
              generalize z[j] = sz at c1 c2 hb
              go_wp2_with fail
              go_quiet (fail)
              obtain ⟨wd, hwd⟩ : ∃ wd, wr.drewN nq = wd := ⟨_, rfl⟩
              have HW : Hid (Risen W wd (some ⟨b2, o2, none⟩) y (some ⟨b1, o1, none⟩) cz (l) z m) := by have := HI.out.step (kept_drewN wr nq); rw [hwd] at this; exact this
              rw [hwd]
              clear hwd HI
              clear c1 c2
              go_wp2_with fail
              go_roundw
              case rel => exact ⟨j + 1, by omega, by go_num, HW.out⟩
              case measure => simp [intOf]; omega
            · have hb : (z[j].toList == (l)[j].toList) = false := by rw [beq_bytes, decide_eq_false hzl]
              have hmj := (HI.out.chance j hjz (fun _ _ => hzl)).1
              have HZL : Hid _ := hzl
              have hmji : (m : Int) ≤ (j : Int) := by omega
              clear hzl
              generalize hsz : z[j] = sz at c1 c2 hb
              generalize hsl : (l)[j] = sl at c1 c2 hb
              have HSZ : Hid _ := hsz
              have HSL : Hid _ := hsl
              clear hsz hsl
              go_wp2_with fail
              go_quiet (fail)
              obtain ⟨wd, hwd⟩ : ∃ wd, wr.drewN nq = wd := ⟨_, rfl⟩
              have HW : Hid (Risen W wd (some ⟨b2, o2, none⟩) y (some ⟨b1, o1, none⟩) cz (l) z m) := by have := HI.out.step (kept_drewN wr nq); rw [hwd] at this; exact this
              rw [hwd]
              clear hwd HI
              have ch := (HW.out.chance j hjz (fun _ _ => HZL.out)).2
              rw [HNZ.out, HLL.out] at ch
              have HCh : Hid _ := ch
              clear ch c1 c2
              go_wp2_with fail
              refine Calls.mono HCh.out ?_; rintro e w7 ⟨rfl, r7⟩
              have H7 : Hid (Below W.heap.size W w7) := r7.2.2.2.2.2.2.2.2.2
              clear r7
              go_wp2_with fail
              refine Calls.mono (HA.out _) ?_; rintro e w8 ⟨rfl, k8⟩
              have HB : Hid (Below W.heap.size W w8) := H7.out.trans (k8.mono H7.out.size)
              clear k8
              go_wp2_with fail
              go_ret
              exact ⟨rfl, HB.out⟩
          · have hj2i : ¬ (j : Int) < (k : Int) := by omega
            have hj3i : (k : Int) ≤ (j : Int) := by omega
            have hmji : (m : Int) ≤ (j : Int) := by omega
            go_wp2_with fail
            go_quiet (fail)
            obtain ⟨wd, hwd⟩ : ∃ wd, wr.drewN nq = wd := ⟨_, rfl⟩
            have HW : Hid (Risen W wd x y (some ⟨b1, o1, none⟩) cz (l) z m) := by have := HI.out.step (kept_drewN wr nq); rw [hwd] at this; exact this
            rw [hwd]
            clear hwd HI
            have ch := (HW.out.chance j hjz (fun _ q => absurd q (by have := HLL.out; omega))).2
            rw [HNZ.out, HLL.out] at ch
            have HCh : Hid _ := ch
            clear ch c1
            go_wp2_with fail
            refine Calls.mono HCh.out ?_; rintro e w7 ⟨rfl, r7⟩
            have H7 : Hid (Below W.heap.size W w7) := r7.2.2.2.2.2.2.2.2.2
            clear r7
            go_wp2_with fail
            refine Calls.mono (HA.out _) ?_; rintro e w8 ⟨rfl, k8⟩
            have HB : Hid (Below W.heap.size W w8) := H7.out.trans (k8.mono H7.out.size)
            clear k8
            go_wp2_with fail
            go_ret
            exact ⟨rfl, HB.out⟩
        · have hlti : ¬ (j : Int) < (nz : Int) := by omega
          go_wp2_with fail
          refine Calls.mono (HA.out _) ?_; rintro e w8 ⟨rfl, k8⟩
          have HB : Hid (Below W.heap.size W w8) := HI.out.2.2.2.2.2.2.2.2.2.trans (k8.mono HI.out.2.2.2.2.2.2.2.2.2.size)
          clear k8
          go_wp2_with fail
          go_ret
          exact ⟨rfl, HB.out⟩
theorem walk (a : Option Addr) (c n : Nat) (l : List ByteArray) (hn : l.length = n) (syncs : Int) (ko : Option Addr) (kc kn : Nat) (ks : List Int) (hkn : ks.length = kn) (W : World) (hl : Texts W (.slice a l.length c) l) (hs : ∀ s, s ∈ l → s.size ≤ 9223372036854775807) (w1 : (Lit.int .i64 syncs).wf = true) (hk : Ints W (.slice ko ks.length kc) ks) (hkc : kn ≤ kc) (hkl : kc ≤ 9223372036854775807) :
    Calls Try.prog 5 #[.slice a n c, .int .i64 syncs, .slice ko kn kc] W fun e w' => e = .returned (.bool true) ∧ Below W.heap.size W w' := by
  by_cases h20 : 20 < n
  · exact walk_many a c n l hn syncs ko kc kn ks hkn W hl hs w1 hk hkc hkl h20
  · by_cases h0 : kn = 0
    · exact walk_none a c n l hn syncs ko kc kn ks hkn W hl hs w1 hk hkc hkl h20 h0
    · by_cases hc1 : kc = 1
      · exact walk_one a c n l hn syncs ko kc kn ks hkn W hl hs w1 hk hkc hkl h20 h0 hc1
      · exact walk_more a c n l hn syncs ko kc kn ks hkn W hl hs w1 hk hkc hkl h20 h0 hc1

/-! ### The row's step. -/
set_option maxRecDepth 100000 in
theorem lifted (os : Os) (started : os.Started) (H : Type) (enc : TypeId × Value → H) :
    ReturnsInHanded {} Try.checked os 5 .any (Rows.walCrashSpec.pre6 enc Try.prog Try.f5 Rows.walCrashRow.domain false) (Rows.walCrashSpec.post enc Try.prog Try.f5 false true false false) := by
  refine returnsInHanded_of_change (C := Try.checked) own started (by kernel_rfl) Try.func5
    (ChangeSpec.witness6 (enc := enc) (C := Try.checked) false ⟨#[], #[.slice none 0 0, .int .i64 0, .slice none 0 0], []⟩ 8 (by kernel_rfl) (by kernel_rfl) (by kernel_rfl) (by kernel_rfl)) ?_
  intro W base args ds gs before hval0 hW hcnd _
  have hval : ∀ (j : Nat) t v, Try.f5.params[j]? = some t → args[j]? = some v → Value.okWide Try.prog W .any base t v := hval0
  have hW' := hW
  obtain ⟨p, q, hA0, hV, rfl, hfz, hnd⟩ := hW
  have hA : DataW.TrodAll enc Try.prog W 0 (fun _ => true) true Try.f5.params.toList args.toList ds p := hA0
  rw [Try.params5] at hA hval
  obtain ⟨v0, vs0, d0, ds0, p0, q0, hargs, rfl, rfl, h0, r0⟩ := trodAll_cons hA
  obtain ⟨v1, vs1, d1, ds1, p1, q1, rfl, rfl, rfl, h1, r1⟩ := trodAll_cons r0
  obtain ⟨v2, vs2, d2, ds2, p2, q2, rfl, rfl, rfl, h2, r2⟩ := trodAll_cons r1
  obtain ⟨rfl, rfl, rfl⟩ := trodAll_nil r2
  obtain rfl : args = #[v0, v1, v2] := by cases args; simp_all
  obtain ⟨rfl, rfl⟩ := trodVars_none hV
  obtain ⟨a0, len0, cap0, rfl⟩ := okWide_slice Try.underlying26 (hval 0 26 v0 rfl rfl)
  obtain ⟨a1, rfl, rfl, rfl, w1⟩ := open_int Try.underlying3 (hval 1 3 v1 rfl rfl) h1
  have k0 := h0
  have lt0 : ∀ x ∈ p0, x.block < W.heap.size := by obtain ⟨m, hm⟩ := k0; exact DataW.trod_lt m _ _ _ hm
  obtain ⟨l, hl, ht, hlc, ha, hc, hs⟩ := opens.open_texts h0
  have k2 := h2
  have lt2 : ∀ x ∈ p2, x.block < W.heap.size := by obtain ⟨m, hm⟩ := k2; exact DataW.trod_lt m _ _ _ hm
  obtain ⟨a2, len2, cap2, rfl⟩ := okWide_slice Try.underlying51 (hval 2 51 v2 rfl rfl)
  obtain ⟨fuel2, hf2⟩ := h2
  simp only [Value.cells] at hf2
  obtain ⟨ko, kc, ks, e2, hks, hkc, hkl⟩ := opens.open_keep hf2
  obtain ⟨rfl, rfl, rfl⟩ : a2 = ko ∧ len2 = ks.length ∧ cap2 = kc := by cases e2; exact ⟨rfl, rfl, rfl⟩
  clear hA0 hval0
  simp only [List.append_nil] at hW'
  refine (walk a0 cap0 len0 l hl a1 a2 cap2 _ ks rfl W ht hs w1 hks hkc hkl).mono fun e W' ⟨he, bel⟩ => ?_
  subst he
  exact ⟨_, rfl, _, _, _, [], _, [], hW', trodAll_mk1 (shut_bool Try.underlying4 _), (trodAll_cons_mk (Below.trod laidOut (by kernel_rfl) (of_decide_eq_true (by kernel_rfl)) k0 bel lt0) (trodAll_cons_mk (shut_int Try.underlying3 w1) (trodAll_cons_mk (Below.trod laidOut (by kernel_rfl) (of_decide_eq_true (by kernel_rfl)) k2 bel lt2) trodAll_mk0))), rfl, bel.frame _, fun h => by cases h⟩

theorem over : Rows.walCrashRow.holds Try.pinned (OpenSpec.ofChange Rows.walCrashSpec) :=
  OpenClaim.holds_of_wide 5 Try.f5 rfl rfl rfl rfl rfl rfl rfl ⟨rfl, rfl, rfl, rfl, rfl⟩ rfl rfl rfl rfl rfl (by kernel_rfl) Try.func5 (by kernel_rfl)
    (of_decide_eq_true (by kernel_rfl)) (by unfold Func.isWrapper; first | (rw [if_pos (by decide +kernel)]; kernel_rfl) | (rw [if_neg (by decide +kernel)]; exact ⟨rfl, rfl⟩))
    (fun os started H enc _ => lifted os started H enc)

/-- ████ THE STATEMENT ████ -/
theorem proved : Rows.WalCrashSaid := over
#print axioms proved
end Go.Proofs.Ytbjijacpgklegaa.walCrash
