/- The law WalPlays: its walk. -/
import Derived.Test.YthfhjfemcmdmfaaMg
import Derived.Test.YthfhjfemcmdmfaaFew
import Derived.Test.YthfhjfemcmdmfaaWake
namespace Go.Proofs.Ythfhjfemcmdmfaa
open Go.ChangeShapes Go.WideShapes Go.ChangeAt Go.RowKit
set_option linter.unusedVariables false
set_option maxRecDepth 100000

set_option maxHeartbeats 4000000 in
theorem walk (fr tz : Int) (hfr : -9223372036854775808 ≤ fr ∧ fr ≤ 9223372036854775807) (htz : -9223372036854775808 ≤ tz ∧ tz ≤ 9223372036854775807) (a1 : Option Addr) (len1 cap1 : Nat) (l : List Wac) (hl : l.length = len1) (hl2 : len1 ≤ 9223372036854775807) (w : World) (hx : ∀ i (hi : i < l.length), ∃ b o, a1 = some ⟨b, o, none⟩ ∧ l[i].ok w ∧ w.cell? ⟨b, o + i * 5, none⟩ = some (.int .i64 l[i].kd) ∧ w.cell? ⟨b, o + i * 5 + 1, none⟩ = some (.int .i64 l[i].n) ∧ w.cell? ⟨b, o + i * 5 + 2, none⟩ = some (.slice l[i].go l[i].g.length l[i].gc) ∧ w.cell? ⟨b, o + i * 5 + 3, none⟩ = some (.slice l[i].ko l[i].ks.length l[i].kc) ∧ w.cell? ⟨b, o + i * 5 + 4, none⟩ = some (.bool l[i].mo)) :
    Calls Try.prog 4 #[.int .i64 fr, .int .i64 tz, .slice a1 len1 cap1] w fun e w' => e = .returned (.bool true) ∧ Below w.heap.size w w' := by
  have HX : Hid _ := hx
  have HLL : Hid (l.length = len1) := hl
  have HAW : Hid (∀ W, Calls Try.prog 8 #[] W fun e w' => e = .returned (.bool true) ∧ Hid (Kept (fun _ => False) W w')) := fun W => (awake_is W).mono fun e w' ⟨q1, q2⟩ => ⟨q1, Below.kept q2⟩
  have HNW : Hid (Calls Try.prog 14 #[.int .i64 24] w fun e w' => ∃ p, e = .returned (.tuple #[.pointer (some ⟨p, 0, none⟩), .int .i64 0]) ∧ Hid (∃ F, Disk w' F p (fresh 24) ∧ Kept (fun _ => False) w w' ∧ ∀ k, F k → w.heap.size ≤ k)) := (new_is 24 (by decide) (by decide) w).mono fun e w' ⟨p, F, q1, q2, q3, q4⟩ => ⟨p, q1, F, q2, Below.kept q3, q4⟩
  have HRN : Hid (∀ w1, Calls Try.prog 15 #[.int .i64 24] w1 fun e w' => ∃ b, e = .returned (.tuple #[.agg #[.slice (some ⟨b, 0, none⟩) 24 24, .slice none 0 0, .int .i64 (-1), .bool false], .int .i64 0]) ∧ Hid (w'.ownsRow w1.heap.size 9 1 (.slice (some ⟨b, 0, none⟩) 24 24) 24 (sv (made 24 24)) ∧ Kept (fun _ => False) w1 w')) := fun w1 => (ref_new (w := w1) 24 (by decide) (by decide)).mono fun e w' ⟨b, q1, q2, q3⟩ => ⟨b, q1, q2, q3⟩
  clear hx hl
  go_enter Try.func4, Try.ntmps4
  go_wp2_with fail
  refine Calls.mono HNW.out ?_; rintro e w1 ⟨p, rfl, HM1⟩
  go_wp2_with fail
  refine Calls.mono (HRN.out w1) ?_; rintro e w2 ⟨b, rfl, HM2⟩
  clear HNW HRN
  obtain ⟨W3, hW3⟩ : ∃ W3, (w2.alloc (.cells #[.slice (some ⟨b, 0, none⟩) 24 24, .slice none 0 0, .int .i64 (-1), .bool false] 37)) = W3 := ⟨_, rfl⟩
  have HW3 : Hid ((w2.alloc (.cells #[.slice (some ⟨b, 0, none⟩) 24 24, .slice none 0 0, .int .i64 (-1), .bool false] 37)) = W3) := hW3
  have hk3 : Kept (fun _ => False) w2 W3 := hW3 ▸ (Kept.refl _ w2).alloc _
  have hc3 : CellsF W3 w2.heap.size [.slice (some ⟨b, 0, none⟩) 24 24, .slice none 0 0, .int .i64 (-1), .bool false] := hW3 ▸ CellsF.new w2 [.slice (some ⟨b, 0, none⟩) 24 24, .slice none 0 0, .int .i64 (-1), .bool false] 37 (by simp)
  have d0 := hc3.cs 0 _ rfl
  have d1 := hc3.cs 1 _ rfl
  have d2 := hc3.cs 2 _ rfl
  have d3 := hc3.cs 3 _ rfl
  have HK3 : Hid (Kept (fun _ => False) w2 W3) := hk3
  clear hk3 hc3 hW3
  go_upto_region 5 with fail
  rw [HW3.out]
  clear HW3
  obtain ⟨W4, hW4⟩ : ∃ W4, (W3.alloc (.cells #[.pointer (some ⟨p, 0, none⟩), .pointer none, .slice (some ⟨b, 0, none⟩) 24 24, .slice none 0 0, .int .i64 (-1), .bool false, .int .i64 0, .int .i64 0, .int .i64 0, .slice none 0 0, .string ⟨#[]⟩, .int .i64 fr, .int .i64 tz] 46)) = W4 := ⟨_, rfl⟩
  have HW4 : Hid ((W3.alloc (.cells #[.pointer (some ⟨p, 0, none⟩), .pointer none, .slice (some ⟨b, 0, none⟩) 24 24, .slice none 0 0, .int .i64 (-1), .bool false, .int .i64 0, .int .i64 0, .int .i64 0, .slice none 0 0, .string ⟨#[]⟩, .int .i64 fr, .int .i64 tz] 46)) = W4) := hW4
  have HK4 : Hid (Kept (fun _ => False) W3 W4) := hW4 ▸ (Kept.refl _ W3).alloc _
  have HN4 : Hid (CellsF W4 W3.heap.size [.pointer (some ⟨p, 0, none⟩), .pointer none, .slice (some ⟨b, 0, none⟩) 24 24, .slice none 0 0, .int .i64 (-1), .bool false, .int .i64 0, .int .i64 0, .int .i64 0, .slice none 0 0, .string ⟨#[]⟩, .int .i64 fr, .int .i64 tz]) := hW4 ▸ CellsF.new W3 [.pointer (some ⟨p, 0, none⟩), .pointer none, .slice (some ⟨b, 0, none⟩) 24 24, .slice none 0 0, .int .i64 (-1), .bool false, .int .i64 0, .int .i64 0, .int .i64 0, .slice none 0 0, .string ⟨#[]⟩, .int .i64 fr, .int .i64 tz] 46 (by simp)
  have HO4 : Hid (Other W4 W3.heap.size) := hW4 ▸ ⟨_, 46, (0, 0), heap_alloc_new W3 _, by decide, by decide⟩
  clear hW4
  obtain ⟨N, hN⟩ : ∃ N, W3.heap.size = N := ⟨_, rfl⟩
  have HNN : Hid (W3.heap.size = N) := hN
  rw [hN] at HN4 HO4
  clear hN
  go_upto_region 6 with fail
  rw [HW4.out, HNN.out]
  clear HW4 d0 d1 d2 d3
  have HB : Hid (∃ F, Disk W4 F p (fresh 24) ∧ Kept (fun _ => False) w W4 ∧ (∀ k, F k → w.heap.size ≤ k) ∧ Rd W4 b 24 none 0 (fresh 24) ∧ ¬ F b ∧ ¬ F N ∧ w.heap.size ≤ N) := by
    obtain ⟨F, q1, q2, q3⟩ := HM1.out
    have k14 := HM2.out.2.trans (HK3.out.trans HK4.out (fun _ z => z.elim)) (fun _ z => z.elim)
    have hbl := (HM2.out.1.lt b rfl).1
    refine ⟨F, q1.kept k14 (fun _ _ z => z), q2.trans k14 (fun _ z => z.elim), q3, ⟨?_, World.ownsRow_nil _ _ _ _⟩, fun z => by have := q1.bound _ z; omega, fun z => ?_, ?_⟩
    · have e : secs 24 (fresh 24).S = made 24 24 := fresh_secs 24
      show W4.ownsRow 0 9 1 (.slice (some ⟨b, 0, none⟩) 24 24) 24 (sv (secs 24 (fresh 24).S))
      rw [e]
      exact own_weak (own_kept HM2.out.1 (HK3.out.trans HK4.out (fun _ z => z.elim))) (Nat.zero_le _)
    · have h1 := q1.bound _ z
      have h2 := HM2.out.2.size
      have h3 := HK3.out.size
      have := HNN.out
      omega
    · have h1 := q2.size
      have h2 := HM2.out.2.size
      have h3 := HK3.out.size
      have := HNN.out
      omega
  clear HM1 HM2 HK3 HK4
  by_cases hbad : fr < 0 ∨ 24 < tz ∨ tz ≤ fr
  · have HON : Hid (Calls Try.prog 16 #[.pointer (some ⟨p, 0, none⟩), .int .i64 fr, .int .i64 tz, .int .i64 1] W4 fun e w' => e = .returned (.tuple #[.pointer none, .int .i64 1]) ∧ Hid (Kept (fun _ => False) w w')) := by
      obtain ⟨F, q1, q2, q3⟩ := HB.out
      obtain ⟨bs, bl, v, hli⟩ := q1
      exact (open_no _ (.inr ⟨p, rfl⟩) 24 fr tz 1 (fun h => by unfold mayOpen at h; omega) W4 (.inr ⟨p, _, _, rfl, hli.c1⟩)).mono fun e w' ⟨q4, q5⟩ => ⟨q4, q2.trans q5 (fun _ z => z.elim)⟩
    have hdone : ∀ b1 b2 b3 : Bool, True := fun _ _ _ => trivial
    clear HB HN4 HO4 hdone
    by_cases c1 : fr < 0
    · go_wp2_with fail
      refine Calls.mono HON.out ?_; rintro e w5 ⟨rfl, HK5⟩
      go_wp2_with fail
      refine Calls.mono (HAW.out w5) ?_; rintro e w6 ⟨rfl, HK6⟩
      go_wp2_with fail
      go_ret
      exact ⟨rfl, (HK5.out.trans HK6.out (fun _ z => z.elim)).below (Nat.le_refl _) (fun _ z => z.elim)⟩
    · by_cases c2 : 24 < tz
      · go_wp2_with fail
        refine Calls.mono HON.out ?_; rintro e w5 ⟨rfl, HK5⟩
        go_wp2_with fail
        refine Calls.mono (HAW.out w5) ?_; rintro e w6 ⟨rfl, HK6⟩
        go_wp2_with fail
        go_ret
        exact ⟨rfl, (HK5.out.trans HK6.out (fun _ z => z.elim)).below (Nat.le_refl _) (fun _ z => z.elim)⟩
      · have c3 : tz ≤ fr := by omega
        go_wp2_with fail
        refine Calls.mono HON.out ?_; rintro e w5 ⟨rfl, HK5⟩
        go_wp2_with fail
        refine Calls.mono (HAW.out w5) ?_; rintro e w6 ⟨rfl, HK6⟩
        go_wp2_with fail
        go_ret
        exact ⟨rfl, (HK5.out.trans HK6.out (fun _ z => z.elim)).below (Nat.le_refl _) (fun _ z => z.elim)⟩
  · have c1 : ¬ fr < 0 := by omega
    have c2 : ¬ 24 < tz := by omega
    have c3 : ¬ tz ≤ fr := by omega
    obtain ⟨a, ha⟩ : ∃ a : Nat, fr = (a : Int) := ⟨fr.toNat, by omega⟩
    obtain ⟨B, hB⟩ : ∃ B : Nat, tz = (B : Int) := ⟨tz.toNat, by omega⟩
    have HAB : Hid (a < B ∧ B ≤ 24) := ⟨by omega, by omega⟩
    have HOP : Hid (Calls Try.prog 17 #[.pointer (some ⟨N, 0, none⟩), .int .i64 1] W4 fun e w' => e = .returned (.bool true) ∧ Hid (Side w.heap.size N p a B 0 w' ∧ Kept (fun i => w.heap.size ≤ i) w w')) := by
      obtain ⟨F, q1, q2, q3, q4, q5, q6, q7⟩ := HB.out
      have hc := HN4.out
      rw [ha, hB] at hc
      exact (opens_to (d := fresh 24) hc q6 q5 HO4.out q1 ⟨rfl, by simp [fresh], by simp [fresh]⟩ q4 rfl rfl HAB.out.1 HAB.out.2 q7 q3 q2.size).mono fun e w' ⟨g1, g2, g3⟩ => ⟨g1, g2, (q2.mono (fun _ z => z.elim)).trans g3 (fun _ hi => .inl hi)⟩
    clear HB HN4 HO4 hbad ha hB
    go_wp2_with fail
    refine Calls.mono HOP.out ?_; rintro e w5 ⟨rfl, HM5⟩
    clear HOP c1 c2 c3
    go_wp2_with fail
    go_loopw [14] (fun v14 wr => ∃ i : Nat, i ≤ len1 ∧ i ≤ 30 ∧ v14 = .int .i64 i ∧ Hid (Side w.heap.size N p a B i wr ∧ Kept (fun i => w.heap.size ≤ i) w wr))
      (fun v14 _ => 30 - (intOf v14).toNat)
    case atStart => exact ⟨0, Nat.zero_le _, Nat.zero_le _, rfl, HM5.out⟩
    case round =>
      obtain ⟨i, hi, hi30, rfl, HI⟩ := hrel
      clear HM5
      by_cases hgo : i < len1 ∧ i < 30
      · obtain ⟨h1, h2⟩ := hgo
        have h1i : (i : Int) < (len1 : Int) := by omega
        have h2i : (i : Int) < 30 := by omega
        have hil : i < l.length := by rw [HLL.out]; exact h1
        obtain ⟨bb, o, rfl, hok, x0, x1, x2, x3, x4⟩ := HX.out i hil
        have hblt : bb < w.heap.size := World.block_lt_of_cell? w _ x0
        have hnb : ¬ w.heap.size ≤ bb := by omega
        have HAR : Hid (Ar wr w.heap.size l[i]) := (Ar.of hok).kept HI.out.2
        have HOK : Hid (l[i].ok w) := hok
        have HFW : Hid (Calls Try.prog 18 #[.slice l[i].go l[i].g.length l[i].gc] wr fun e w' => FewO l[i].g wr e w') := few_is _ _ _ wr HAR.out.g hok.gl hok.gs
        have HDO : Hid (l[i].g.length ≤ 8 ∧ (∀ s, s ∈ l[i].g → s.size ≤ 4096) → Calls Try.prog 19 #[.pointer (some ⟨N, 0, none⟩), .agg #[.int .i64 l[i].kd, .int .i64 l[i].n, .slice l[i].go l[i].g.length l[i].gc, .slice l[i].ko l[i].ks.length l[i].kc, .bool l[i].mo]] wr fun e w' => e = .returned (.bool true) ∧ Hid (Side w.heap.size N p a B (i + 1) w' ∧ Kept (fun i => w.heap.size ≤ i) w w')) := fun hfew => (side_does HI.out.1 (by omega) HAB.out.1 HAB.out.2 HI.out.2.size l[i] HAR.out hok.kl hok.gz hfew.1 hfew.2 hok.n).mono fun e w' ⟨g1, g2, g3⟩ => ⟨g1, g2, HI.out.2.up g3⟩
        have y0 := HI.out.2.cell x0 hnb
        have y1 := HI.out.2.cell x1 hnb
        have y2 := HI.out.2.cell x2 hnb
        have y3 := HI.out.2.cell x3 hnb
        have y4 := HI.out.2.cell x4 hnb
        obtain ⟨X, hX⟩ : ∃ X, l[i] = X := ⟨_, rfl⟩
        rw [hX] at y0 y1 y2 y3 y4 HFW HDO
        obtain ⟨kd, nn, go, gc, g, ko, kc, ks, mo⟩ := X
        obtain ⟨gl, hgl⟩ : ∃ gl, g.length = gl := ⟨_, rfl⟩
        obtain ⟨kl, hkl⟩ : ∃ kl, ks.length = kl := ⟨_, rfl⟩
        have HFW' : Hid (Calls Try.prog 18 #[.slice go gl gc] wr fun e w' => ∃ r : Bool, e = .returned (.bool r) ∧ w' = wr ∧ Hid (r = true → g.length ≤ 8 ∧ ∀ s, s ∈ g → s.size ≤ 4096)) := by rw [← hgl]; exact HFW.out
        have HDO' : Hid (g.length ≤ 8 ∧ (∀ s, s ∈ g → s.size ≤ 4096) → Calls Try.prog 19 #[.pointer (some ⟨N, 0, none⟩), .agg #[.int .i64 kd, .int .i64 nn, .slice go gl gc, .slice ko kl kc, .bool mo]] wr fun e w' => e = .returned (.bool true) ∧ Hid (Side w.heap.size N p a B (i + 1) w' ∧ Kept (fun i => w.heap.size ≤ i) w w')) := by rw [← hgl, ← hkl]; exact HDO.out
        dsimp only at y0 y1 y2 y3 y4
        rw [hgl] at y2
        rw [hkl] at y3
        clear HFW HDO HAR HOK hok x0 x1 x2 x3 x4 hX hgl hkl hblt hnb hil
        go_wp2_with fail
        refine Calls.mono HFW'.out ?_; rintro e w7 ⟨r, rfl, hw7, HR⟩
        subst hw7
        cases r with
        | false =>
          go_wp2_with fail
          refine Calls.mono (HAW.out _) ?_; rintro e w8 ⟨rfl, HK8⟩
          go_wp2_with fail
          go_ret
          exact ⟨rfl, ((HI.out.2.trans HK8.out (fun _ z => z.elim)).below (Nat.le_refl _) (fun _ z => z))⟩
        | true =>
          have HD2 : Hid (Calls Try.prog 19 #[.pointer (some ⟨N, 0, none⟩), .agg #[.int .i64 kd, .int .i64 nn, .slice go gl gc, .slice ko kl kc, .bool mo]] w7 fun e w' => e = .returned (.bool true) ∧ Hid (Side w.heap.size N p a B (i + 1) w' ∧ Kept (fun i => w.heap.size ≤ i) w w')) := HDO'.out (HR.out rfl)
          clear HDO' HFW' HR
          go_wp2_with fail
          refine Calls.mono HD2.out ?_; rintro e w8 ⟨rfl, HM8⟩
          clear y0 y1 y2 y3 y4 HD2
          go_wp2_with fail
          go_roundw
          case rel => exact ⟨i + 1, by omega, by omega, by go_num, HM8.out⟩
          case measure => simp [intOf]; omega
      · have hout : (i : Int) < (len1 : Int) → ¬ (i : Int) < 30 := fun h1 h2 => hgo ⟨by omega, by omega⟩
        have HKI : Hid (Kept (fun i => w.heap.size ≤ i) w wr) := HI.out.2
        clear HI hgo HX
        by_cases h1i : (i : Int) < (len1 : Int)
        · have h2i := hout h1i
          clear hout
          go_wp2_with fail
          refine Calls.mono (HAW.out _) ?_; rintro e w8 ⟨rfl, HK8⟩
          go_wp2_with fail
          go_ret
          exact ⟨rfl, ((HKI.out.trans HK8.out (fun _ z => z.elim)).below (Nat.le_refl _) (fun _ z => z))⟩
        · clear hout
          go_wp2_with fail
          refine Calls.mono (HAW.out _) ?_; rintro e w8 ⟨rfl, HK8⟩
          go_wp2_with fail
          go_ret
          exact ⟨rfl, ((HKI.out.trans HK8.out (fun _ z => z.elim)).below (Nat.le_refl _) (fun _ z => z))⟩
end Go.Proofs.Ythfhjfemcmdmfaa
