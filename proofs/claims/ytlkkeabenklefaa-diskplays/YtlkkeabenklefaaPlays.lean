/- DiskPlays: the walk. -/
import Derived.Test.YtlkkeabenklefaaBoth
import Derived.Deep.QuietTactic
namespace Go.Proofs.Ytlkkeabenklefaa
open Go.ChangeShapes Go.WideShapes Go.ChangeAt Go.RowKit
set_option linter.unusedVariables false

theorem Both'.bel {E : Nat → Prop} {w0 w : World} {p NB : Nat} {dP dR : Dk} {b c : Nat} {u : Option Addr} {uc : Nat} {f : Int} (h : Both' E w0 w p NB dP dR b c u uc f) : Below w0.heap.size w0 w := by
  obtain ⟨F, h⟩ := h
  exact h.bel
theorem Both'.parts {E : Nat → Prop} {w0 w : World} {p NB : Nat} {dP dR : Dk} {b c : Nat} {u : Option Addr} {uc : Nat} {f : Int} (h : Both' E w0 w p NB dP dR b c u uc f) : (∀ q, q ∈ dP.Q → q.1 < dP.n ∧ q.2.length = 32) ∧ (∀ i, i < dP.n → (dP.S i).length = 32) ∧ dP.n ≤ 4096 ∧ (-1 ≤ f ∧ f ≤ 9223372036854775807) := by
  obtain ⟨F, h⟩ := h
  exact ⟨h.disk.parts.1, h.disk.parts.2, h.disk.sized.2, h.ref.lo⟩
theorem fresh_secs (n : Nat) : secs n (fresh n).S = made n n := by
  apply List.ext_getElem
  · simp [secs, made]
  · intro i h1 h2
    simp [secs, made, fresh, fill]

/-- An act that came in. -/
structure Ac (w : World) (a1 : Option Addr) (i : Nat) (b o : Nat) (kind at_ : Int) (cc : UInt8) (s : ByteArray) (ko : Option Addr) (kc : Nat) (ks : List Int) : Prop where
  a : a1 = some ⟨b, o, none⟩
  c0 : w.cell? ⟨b, o + i * 5, none⟩ = some (.int .i64 kind)
  c1 : w.cell? ⟨b, o + i * 5 + 1, none⟩ = some (.int .i64 at_)
  c2 : w.cell? ⟨b, o + i * 5 + 2, none⟩ = some (.int .u8 (cc.toNat : Int))
  c3 : w.cell? ⟨b, o + i * 5 + 3, none⟩ = some (.string s)
  c4 : w.cell? ⟨b, o + i * 5 + 4, none⟩ = some (.slice ko ks.length kc)
  li : Ints w (.slice ko ks.length kc) ks
  kl : ks.length ≤ 9223372036854775807
  at1 : -9223372036854775808 ≤ at_ ∧ at_ ≤ 9223372036854775807

/-- What the round's last look asks. -/
theorem Both'.looks {E : Nat → Prop} {w0 w : World} {p NB : Nat} {dP dR : Dk} {b c : Nat} {u : Option Addr} {uc : Nat} {f : Int} (h : Both' E w0 w p NB dP dR b c u uc f) (m : Nat) :
    (Calls Try.prog 21 #[.pointer (some ⟨p, 0, none⟩)] (w.drewN m) fun e w' => e = .returned (.bool dP.off) ∧ w' = w.drewN m) ∧ (Calls Try.prog 22 #[.pointer (some ⟨p, 0, none⟩)] (w.drewN m) fun e w' => e = .returned (.int .i64 (dP.Q.length : Int)) ∧ w' = w.drewN m) ∧
    (Calls Try.prog 23 #[.pointer (some ⟨p, 0, none⟩)] (w.drewN m) fun e w' => e = .returned (.int .i64 (dP.n : Int)) ∧ w' = w.drewN m) := by
  obtain ⟨F, h⟩ := h
  have k : Kept (fun _ => False) w (w.drewN m) := ⟨rfl, rfl, rfl, Nat.le_refl _, fun _ _ _ => rfl⟩
  have hd := h.disk.kept k (fun _ _ q => q)
  exact ⟨disk_off hd, disk_waits hd, disk_size hd⟩
theorem wres_q (d : Dk) (x : Int) (s : ByteArray) : (wres d x s).n = d.n ∧ (wres d x s).Q.length ≤ d.Q.length + 1 := by
  unfold wres
  split
  · exact ⟨rfl, Nat.le_succ _⟩
  · unfold Dk.write
    split
    · exact ⟨rfl, by simp⟩
    · exact ⟨rfl, Nat.le_succ _⟩
theorem flush_q (d : Dk) : d.flush.n = d.n ∧ d.flush.Q.length ≤ d.Q.length + 1 := by
  unfold Dk.flush
  split
  · exact ⟨rfl, by simp⟩
  · exact ⟨rfl, Nat.le_succ _⟩

theorem Box.fill {w : World} {N : Nat} {v0 v1 : Value} {f : Int} {off : Bool} (h : Box w N v0 v1 f off) (a0 a1 : Value) (f' : Int) (off' : Bool) :
    Box ((((w.setCell ⟨N, 0, none⟩ a0).setCell ⟨N, 1, none⟩ a1).setCell ⟨N, 2, none⟩ (.int .i64 f')).setCell ⟨N, 3, none⟩ (.bool off')) N a0 a1 f' off' ∧ Kept (fun i => i = N) w ((((w.setCell ⟨N, 0, none⟩ a0).setCell ⟨N, 1, none⟩ a1).setCell ⟨N, 2, none⟩ (.int .i64 f')).setCell ⟨N, 3, none⟩ (.bool off')) := by
  have hc0 := h.c0
  have hc1 := h.c1
  have hc2 := h.c2
  have hc3 := h.c3
  refine ⟨⟨by simp [go_sem, hc0], by simp [go_sem, hc1], by simp [go_sem, hc2], by simp [go_sem, hc3], fun j => by simp [h.fz]⟩, ?_⟩
  exact ((((Kept.refl (fun i => i = N) w).setCell (p := ⟨N, 0, none⟩) (.inl rfl) _).setCell (p := ⟨N, 1, none⟩) (.inl rfl) _).setCell (p := ⟨N, 2, none⟩) (.inl rfl) _).setCell (p := ⟨N, 3, none⟩) (.inl rfl) _
theorem kept_drewN (w : World) (m : Nat) : Kept (fun _ => False) w (w.drewN m) := ⟨rfl, rfl, rfl, Nat.le_refl _, fun _ _ _ => rfl⟩

/-- Where a round stands. -/
def Rd (w wr : World) (p NB n k : Nat) : Prop := ∃ d b c u uc f, d.n = n ∧ d.Q.length ≤ k ∧ Both' (fun i => i = NB) w wr p NB d d b c u uc f ∧ Box wr NB (.slice (some ⟨b, 0, none⟩) d.n c) (.slice u d.Q.length uc) f d.off


set_option maxHeartbeats 4000000 in
set_option maxRecDepth 100000 in
theorem plays_loop (n : Nat) (h1 : 1 ≤ n) (h2 : n ≤ 64) (a1 : Option Addr) (len1 cap1 : Nat) (w : World) (hlm : len1 ≤ 9223372036854775807)
    (HACT : Hid (∀ i, i < len1 → ∃ b o kind at_ cc s ko kc ks, Ac w a1 i b o kind at_ cc s ko kc ks)) :
    Calls Try.prog 3 #[.int .i64 (n : Int), .slice a1 len1 cap1] w fun e w' => e = .returned (.bool true) ∧ Below w.heap.size w w' := by
  have HN := (show Hid _ from new_is n h1 (by omega) w)
  have HAW := (show Hid _ from awake_is)
  have g64 : ¬ 64 < (n : Int) := by omega
  go_enter Try.func3, Try.ntmps3
  go_wp2_with fail
  refine Calls.mono HN.out ?_; rintro e w1 ⟨p, F, rfl, g1, g2, g3⟩
  have HRN := (show Hid _ from ref_new (w := w1) n h1 (by omega))
  have HD1 : Hid (Disk w1 F p (fresh n) ∧ Below w.heap.size w w1 ∧ ∀ k, F k → w.heap.size ≤ k) := ⟨g1, g2, g3⟩
  clear g1 g2 g3 HN
  go_wp2_with fail
  refine Calls.mono HRN.out ?_; rintro e w2 ⟨b, rfl, o2, k2⟩
  have H0 : Hid (Rd w (w2.alloc (.cells #[.slice (some ⟨b, 0, none⟩) n n, .slice none 0 0, .int .i64 (-1), .bool false] 30)) p w2.heap.size n 0) := by
    obtain ⟨g1, g2, g3⟩ := HD1.out
    have k3 : Kept (fun _ => False) w2 (w2.alloc (.cells #[.slice (some ⟨b, 0, none⟩) n n, .slice none 0 0, .int .i64 (-1), .bool false] 30)) := (Kept.refl _ w2).alloc _
    have hb := o2.lt b rfl
    have hsz := k2.size
    have gsz := g2.size
    refine ⟨fresh n, b, n, none, 0, -1, rfl, Nat.le_refl _, ⟨F, (g1.kept k2 (fun _ _ q => q)).kept k3 (fun _ _ q => q), ⟨?_, World.ownsRow_nil _ 0 68 2, fun q => ?_, by omega, fun i hi => (by cases hi), fun _ => rfl, by omega⟩, fun q => ?_, by omega, by simp, k3.toBelow (k2.toBelow g2 (fun _ q => q.elim)) (fun _ q => q.elim), g3, fun i hi => ⟨fun q => ?_, ?_⟩⟩, ⟨by simp; rfl, by simp; rfl, by simp, by simp; rfl, fun j => by simp [go_sem]⟩⟩
    · have := own_weak (o2.alloc (.cells #[.slice (some ⟨b, 0, none⟩) n n, .slice none 0 0, .int .i64 (-1), .bool false] 30)) (Nat.zero_le _)
      rw [← fresh_secs] at this
      exact this
    · have := g1.bound b q; omega
    · have := g1.bound _ q; omega
    · subst hi; have := g1.bound _ q; omega
    · subst hi; simp
  clear o2 k2 HD1 HRN
  go_wp2_with fail
  generalize w2.heap.size = NB at *
  go_loopw [9] (fun i wr => ∃ k : Nat, k ≤ 80 ∧ i = .int .i64 k ∧ Hid (Rd w wr p NB n k))
    (fun i _ => 80 - (intOf i).toNat)
  case atStart => exact ⟨0, by omega, rfl, H0.out⟩
  case round =>
    obtain ⟨k, hk, rfl, HR⟩ := hrel
    clear H0
    obtain ⟨d, b1, c1, u, uc, f, hdn, hdq, hB, hX⟩ := HR.out
    have HB : Hid (Both' (fun i => i = NB) w wr p NB d d b1 c1 u uc f) := hB
    have HX : Hid (Box wr NB (.slice (some ⟨b1, 0, none⟩) d.n c1) (.slice u d.Q.length uc) f d.off) := hX
    have HQ : Hid (d.Q.length ≤ k ∧ d.n = n) := ⟨hdq, hdn⟩
    clear HR hB hX hdn hdq
    by_cases hkl : k < len1
    · have hkli : (k : Int) < (len1 : Int) := by omega
      by_cases hk80 : k < 80
      · have hk80i : (k : Int) < 80 := by omega
        obtain ⟨b0, o0, kind, at_, cc, s, ko, kc, ks, hA⟩ := HACT.out k hkl
        obtain rfl := hA.a
        have hbw : b0 < w.heap.size := World.block_lt_of_cell? w _ hA.c0
        have hlow : Below w.heap.size w wr := HB.out.bel
        have x0 := (hlow.cell hbw).trans hA.c0
        have x1 := (hlow.cell hbw).trans hA.c1
        have x2 := (hlow.cell hbw).trans hA.c2
        have x3 := (hlow.cell hbw).trans hA.c3
        have x4 := (hlow.cell hbw).trans hA.c4
        have HAC := (show Hid _ from hA)
        have hat := hA.at1
        clear hlow hA hbw
        have HCC : Hid (∀ w', Calls Try.prog 10 #[.int .u8 (cc.toNat : Int)] w' fun e w'' => e = .returned (.string (fill cc)) ∧ Kept (fun _ => False) w' w'') := filled_is cc
        generalize cc.toNat = ci at *
        have HB1 : Hid (Both' (fun i => i = NB ∨ i = wr.heap.size) w (wr.alloc (.cells #[.int .i64 kind, .int .i64 at_, .int .u8 (ci : Int), .string s, .slice ko ks.length kc] 36)) p NB d d b1 c1 u uc f) := HB.out.alloc _
        have HX1 : Hid (Box (wr.alloc (.cells #[.int .i64 kind, .int .i64 at_, .int .u8 (ci : Int), .string s, .slice ko ks.length kc] 36)) NB (.slice (some ⟨b1, 0, none⟩) d.n c1) (.slice u d.Q.length uc) f d.off) := HX.out.kept ((Kept.refl (fun _ => False) wr).alloc _) (fun q => q)
        have HY1 : Hid ((wr.alloc (.cells #[.int .i64 kind, .int .i64 at_, .int .u8 (ci : Int), .string s, .slice ko ks.length kc] 36)).cell? ⟨wr.heap.size, 1, none⟩ = some (.int .i64 at_) ∧ (wr.alloc (.cells #[.int .i64 kind, .int .i64 at_, .int .u8 (ci : Int), .string s, .slice ko ks.length kc] 36)).cell? ⟨wr.heap.size, 4, none⟩ = some (.slice ko ks.length kc)) := ⟨by simp, by simp⟩
        clear HB HX
        have HQ' : Hid (d.Q.length < 1048576) := Nat.lt_of_le_of_lt HQ.out.1 (by omega)
        by_cases h100 : 100 < s.size
        · have h100i : (100 : Int) < (s.size : Int) := by omega
          go_wp2_with fail
          refine Calls.mono (HAW.out _) ?_; rintro e w8 ⟨rfl, k8⟩
          have HK8 := (show Hid _ from k8)
          have HB6 : Hid (Below w.heap.size w (wr.alloc (.cells #[.int .i64 kind, .int .i64 at_, .int .u8 (ci : Int), .string s, .slice ko ks.length kc] 36))) := HB1.out.bel
          clear k8
          go_wp2_with fail
          go_ret
          exact ⟨rfl, HB6.out.trans (HK8.out.mono HB6.out.size)⟩
        · have h100i : ¬ (100 : Int) < (s.size : Int) := by omega
          by_cases hk1 : kind = 1
          · subst hk1
            by_cases hse : s.size = 0
            · have hsE : s = ⟨#[]⟩ := by
                apply ByteArray.ext
                exact Array.size_eq_zero_iff.1 hse
              subst hsE
              go_wp2_with fail
              refine Calls.mono (HCC.out _) ?_; rintro e w3 ⟨rfl, k3⟩
              replace HB1 : Hid (Both' (fun i => i = NB ∨ i = wr.heap.size) w w3 p NB d d b1 c1 u uc f) := HB1.out.step k3
              replace HX1 : Hid (Box w3 NB (.slice (some ⟨b1, 0, none⟩) d.n c1) (.slice u d.Q.length uc) f d.off) := HX1.out.kept k3 (fun q => q)
              have y1 : w3.cell? ⟨wr.heap.size, 1, none⟩ = some (.int .i64 at_) := k3.cell HY1.out.1 (fun q => q)
              replace HY1 : Hid (w3.cell? ⟨wr.heap.size, 1, none⟩ = some (.int .i64 at_)) := y1
              clear k3
              generalize fill cc = t at *
              go_wp2_with fail
              refine Calls.mono (both_write HB1.out at_ t HQ'.out) ?_; rintro e w4 ⟨rfl, g1, g2⟩
              have HB2 : Hid (Both' (fun i => i = NB ∨ i = wr.heap.size) w w4 p NB (wres d at_ t) d b1 c1 u uc f) := g1
              have HX2 : Hid (Box w4 NB (.slice (some ⟨b1, 0, none⟩) d.n c1) (.slice u d.Q.length uc) f d.off) := g2.box (.inl rfl) HX1.out
              have y2 := g2.cell (.inr rfl) HY1.out
              obtain ⟨z0, z1, z2, z3, zf⟩ := HX2.out
              clear g1 g2 HB1 HX1 HY1
              have HWC := (show Hid _ from wres_q d at_ t)
              have HRW := (show Hid _ from both_rwrite HB2.out at_ t HQ'.out)
              clear HB2
              generalize wcode d at_ t = code at *
              generalize wres d at_ t = d2 at *
              go_wp2_with fail
              refine Calls.mono HRW.out ?_; rintro e w5 ⟨u2, uc2, f2, rfl, g1, g2⟩
              have HB3 : Hid (Both' (fun i => i = NB ∨ i = wr.heap.size) w w5 p NB d2 d2 b1 c1 u2 uc2 f2) := g1
              obtain ⟨v0, v1, v2, v3, vf⟩ := HX2.out.kept g2 (fun q => q)
              clear g1 g2 HRW z0 z1 z2 z3 zf
              go_wp2_with fail
              have HT : Hid (Box ((((w5.setCell ⟨NB, 0, none⟩ (.slice (some ⟨b1, 0, none⟩) d.n c1)).setCell ⟨NB, 1, none⟩ (.slice u2 d2.Q.length uc2)).setCell ⟨NB, 2, none⟩ (.int .i64 f2)).setCell ⟨NB, 3, none⟩ (.bool d2.off)) NB (.slice (some ⟨b1, 0, none⟩) d.n c1) (.slice u2 d2.Q.length uc2) f2 d2.off ∧ Kept (fun i => i = NB) w5 ((((w5.setCell ⟨NB, 0, none⟩ (.slice (some ⟨b1, 0, none⟩) d.n c1)).setCell ⟨NB, 1, none⟩ (.slice u2 d2.Q.length uc2)).setCell ⟨NB, 2, none⟩ (.int .i64 f2)).setCell ⟨NB, 3, none⟩ (.bool d2.off))) := Box.fill ⟨v0, v1, v2, v3, vf⟩ _ _ _ _
              have HBt : Hid (Both' (fun i => i = NB) w ((((w5.setCell ⟨NB, 0, none⟩ (.slice (some ⟨b1, 0, none⟩) d.n c1)).setCell ⟨NB, 1, none⟩ (.slice u2 d2.Q.length uc2)).setCell ⟨NB, 2, none⟩ (.int .i64 f2)).setCell ⟨NB, 3, none⟩ (.bool d2.off)) p NB d2 d2 b1 c1 u2 uc2 f2) := (Both'.store HB3.out HT.out.2).mono (fun i hi => .inl hi)
              clear v0 v1 v2 v3 vf HB3
              generalize ((((w5.setCell ⟨NB, 0, none⟩ (.slice (some ⟨b1, 0, none⟩) d.n c1)).setCell ⟨NB, 1, none⟩ (.slice u2 d2.Q.length uc2)).setCell ⟨NB, 2, none⟩ (.int .i64 f2)).setCell ⟨NB, 3, none⟩ (.bool d2.off)) = wt at *
              replace HT : Hid (Box wt NB (.slice (some ⟨b1, 0, none⟩) d.n c1) (.slice u2 d2.Q.length uc2) f2 d2.off) := HT.out.1
              obtain ⟨t0, t1, t2, t3, tf⟩ := HT.out
              have HO : Hid (∀ m, Calls Try.prog 21 #[.pointer (some ⟨p, 0, none⟩)] (wt.drewN m) fun e w' => e = .returned (.bool d2.off) ∧ w' = wt.drewN m) := fun m => (HBt.out.looks m).1
              have HWA : Hid (∀ m, Calls Try.prog 22 #[.pointer (some ⟨p, 0, none⟩)] (wt.drewN m) fun e w' => e = .returned (.int .i64 (d2.Q.length : Int)) ∧ w' = wt.drewN m) := fun m => (HBt.out.looks m).2.1
              have HZ : Hid (∀ m, Calls Try.prog 23 #[.pointer (some ⟨p, 0, none⟩)] (wt.drewN m) fun e w' => e = .returned (.int .i64 (d.n : Int)) ∧ w' = wt.drewN m) := fun m => by
                rw [← HWC.out.1]
                exact (HBt.out.looks m).2.2
              go_quiet (first | with_reducible exact Calls.quiet_of_same (HO.out _) | with_reducible exact Calls.quiet_of_same (HWA.out _) | with_reducible exact Calls.quiet_of_same (HZ.out _))
              go_wp2_with fail
              go_roundw
              case rel =>
                refine ⟨k + 1, by omega, by go_num, d2, b1, c1, u2, uc2, f2, HWC.out.1.trans HQ.out.2, Nat.le_trans HWC.out.2 (Nat.succ_le_succ HQ.out.1), HBt.out.step (kept_drewN wt nq), ?_⟩
                rw [HWC.out.1]
                exact HT.out.kept (kept_drewN wt nq) (fun q => q)
              case measure => simp [intOf]; omega
            · have hsz : (s.size : Int) ≠ 0 := by omega
              replace HY1 : Hid ((wr.alloc (.cells #[.int .i64 1, .int .i64 at_, .int .u8 (ci : Int), .string s, .slice ko ks.length kc] 36)).cell? ⟨wr.heap.size, 1, none⟩ = some (.int .i64 at_)) := HY1.out.1
              have hne : s.toList.isEmpty = false := by
                cases hl : s.toList with
                | nil =>
                  rw [ByteArray.toList_eq] at hl
                  exact absurd (show s.data.toList.length = 0 by rw [hl]; rfl) hse
                | cons a r => rfl
              go_wp2_with fail
              refine Calls.mono (both_write HB1.out at_ s HQ'.out) ?_; rintro e w4 ⟨rfl, g1, g2⟩
              have HB2 : Hid (Both' (fun i => i = NB ∨ i = wr.heap.size) w w4 p NB (wres d at_ s) d b1 c1 u uc f) := g1
              have HX2 : Hid (Box w4 NB (.slice (some ⟨b1, 0, none⟩) d.n c1) (.slice u d.Q.length uc) f d.off) := g2.box (.inl rfl) HX1.out
              have y2 := g2.cell (.inr rfl) HY1.out
              obtain ⟨z0, z1, z2, z3, zf⟩ := HX2.out
              clear g1 g2 HB1 HX1 HY1
              have HWC := (show Hid _ from wres_q d at_ s)
              have HRW := (show Hid _ from both_rwrite HB2.out at_ s HQ'.out)
              clear HB2
              generalize wcode d at_ s = code at *
              generalize wres d at_ s = d2 at *
              go_wp2_with fail
              refine Calls.mono HRW.out ?_; rintro e w5 ⟨u2, uc2, f2, rfl, g1, g2⟩
              have HB3 : Hid (Both' (fun i => i = NB ∨ i = wr.heap.size) w w5 p NB d2 d2 b1 c1 u2 uc2 f2) := g1
              obtain ⟨v0, v1, v2, v3, vf⟩ := HX2.out.kept g2 (fun q => q)
              clear g1 g2 HRW z0 z1 z2 z3 zf
              go_wp2_with fail
              have HT : Hid (Box ((((w5.setCell ⟨NB, 0, none⟩ (.slice (some ⟨b1, 0, none⟩) d.n c1)).setCell ⟨NB, 1, none⟩ (.slice u2 d2.Q.length uc2)).setCell ⟨NB, 2, none⟩ (.int .i64 f2)).setCell ⟨NB, 3, none⟩ (.bool d2.off)) NB (.slice (some ⟨b1, 0, none⟩) d.n c1) (.slice u2 d2.Q.length uc2) f2 d2.off ∧ Kept (fun i => i = NB) w5 ((((w5.setCell ⟨NB, 0, none⟩ (.slice (some ⟨b1, 0, none⟩) d.n c1)).setCell ⟨NB, 1, none⟩ (.slice u2 d2.Q.length uc2)).setCell ⟨NB, 2, none⟩ (.int .i64 f2)).setCell ⟨NB, 3, none⟩ (.bool d2.off))) := Box.fill ⟨v0, v1, v2, v3, vf⟩ _ _ _ _
              have HBt : Hid (Both' (fun i => i = NB) w ((((w5.setCell ⟨NB, 0, none⟩ (.slice (some ⟨b1, 0, none⟩) d.n c1)).setCell ⟨NB, 1, none⟩ (.slice u2 d2.Q.length uc2)).setCell ⟨NB, 2, none⟩ (.int .i64 f2)).setCell ⟨NB, 3, none⟩ (.bool d2.off)) p NB d2 d2 b1 c1 u2 uc2 f2) := (Both'.store HB3.out HT.out.2).mono (fun i hi => .inl hi)
              clear v0 v1 v2 v3 vf HB3
              generalize ((((w5.setCell ⟨NB, 0, none⟩ (.slice (some ⟨b1, 0, none⟩) d.n c1)).setCell ⟨NB, 1, none⟩ (.slice u2 d2.Q.length uc2)).setCell ⟨NB, 2, none⟩ (.int .i64 f2)).setCell ⟨NB, 3, none⟩ (.bool d2.off)) = wt at *
              replace HT : Hid (Box wt NB (.slice (some ⟨b1, 0, none⟩) d.n c1) (.slice u2 d2.Q.length uc2) f2 d2.off) := HT.out.1
              obtain ⟨t0, t1, t2, t3, tf⟩ := HT.out
              have HO : Hid (∀ m, Calls Try.prog 21 #[.pointer (some ⟨p, 0, none⟩)] (wt.drewN m) fun e w' => e = .returned (.bool d2.off) ∧ w' = wt.drewN m) := fun m => (HBt.out.looks m).1
              have HWA : Hid (∀ m, Calls Try.prog 22 #[.pointer (some ⟨p, 0, none⟩)] (wt.drewN m) fun e w' => e = .returned (.int .i64 (d2.Q.length : Int)) ∧ w' = wt.drewN m) := fun m => (HBt.out.looks m).2.1
              have HZ : Hid (∀ m, Calls Try.prog 23 #[.pointer (some ⟨p, 0, none⟩)] (wt.drewN m) fun e w' => e = .returned (.int .i64 (d.n : Int)) ∧ w' = wt.drewN m) := fun m => by
                rw [← HWC.out.1]
                exact (HBt.out.looks m).2.2
              go_quiet (first | with_reducible exact Calls.quiet_of_same (HO.out _) | with_reducible exact Calls.quiet_of_same (HWA.out _) | with_reducible exact Calls.quiet_of_same (HZ.out _))
              go_wp2_with fail
              go_roundw
              case rel =>
                refine ⟨k + 1, by omega, by go_num, d2, b1, c1, u2, uc2, f2, HWC.out.1.trans HQ.out.2, Nat.le_trans HWC.out.2 (Nat.succ_le_succ HQ.out.1), HBt.out.step (kept_drewN wt nq), ?_⟩
                rw [HWC.out.1]
                exact HT.out.kept (kept_drewN wt nq) (fun q => q)
              case measure => simp [intOf]; omega
          · have hk1b : (kind == 1) = false := by simp [hk1]
            by_cases hk2 : kind = 2
            · subst hk2
              have HRD := (show Hid _ from both_read HB1.out at_)
              have HRR := (show Hid _ from both_rread HB1.out at_ (Nat.le_of_lt HQ'.out))
              generalize rtext d at_ = rt at *
              generalize rcode d at_ = rc at *
              obtain ⟨z0, z1, z2, z3, zf⟩ := HX1.out
              go_wp2_with fail
              refine Calls.mono HRD.out ?_; rintro e w4 ⟨rfl, rfl⟩
              go_wp2_with fail
              refine Calls.mono HRR.out ?_; rintro e w5 ⟨rfl, g2⟩
              have HB3 : Hid (Both' (fun i => i = NB ∨ i = wr.heap.size) w w5 p NB d d b1 c1 u uc f) := HB1.out.step g2
              obtain ⟨v0, v1, v2, v3, vf⟩ := HX1.out.kept g2 (fun q => q)
              clear g2 HRD HRR z0 z1 z2 z3 zf HB1 HX1
              go_wp2_with fail
              have HT : Hid (Box w5 NB (.slice (some ⟨b1, 0, none⟩) d.n c1) (.slice u d.Q.length uc) f d.off) := ⟨v0, v1, v2, v3, vf⟩
              have HBt : Hid (Both' (fun i => i = NB) w w5 p NB d d b1 c1 u uc f) := HB3.out.mono (fun i hi => .inl hi)
              clear v0 v1 v2 v3 vf HB3
              generalize w5 = wt at *
              obtain ⟨t0, t1, t2, t3, tf⟩ := HT.out
              have HO : Hid (∀ m, Calls Try.prog 21 #[.pointer (some ⟨p, 0, none⟩)] (wt.drewN m) fun e w' => e = .returned (.bool d.off) ∧ w' = wt.drewN m) := fun m => (HBt.out.looks m).1
              have HWA : Hid (∀ m, Calls Try.prog 22 #[.pointer (some ⟨p, 0, none⟩)] (wt.drewN m) fun e w' => e = .returned (.int .i64 (d.Q.length : Int)) ∧ w' = wt.drewN m) := fun m => (HBt.out.looks m).2.1
              have HZ : Hid (∀ m, Calls Try.prog 23 #[.pointer (some ⟨p, 0, none⟩)] (wt.drewN m) fun e w' => e = .returned (.int .i64 (d.n : Int)) ∧ w' = wt.drewN m) := fun m => (HBt.out.looks m).2.2
              go_quiet (first | with_reducible exact Calls.quiet_of_same (HO.out _) | with_reducible exact Calls.quiet_of_same (HWA.out _) | with_reducible exact Calls.quiet_of_same (HZ.out _))
              go_wp2_with fail
              go_roundw
              case rel =>
                refine ⟨k + 1, by omega, by go_num, d, b1, c1, u, uc, f, HQ.out.2, Nat.le_succ_of_le HQ.out.1, HBt.out.step (kept_drewN wt nq), ?_⟩
                exact HT.out.kept (kept_drewN wt nq) (fun q => q)
              case measure => simp [intOf]; omega
            · have hk2b : (kind == 2) = false := by simp [hk2]
              by_cases hk3 : kind = 3
              · subst hk3
                go_wp2_with fail
                refine Calls.mono (both_flush HB1.out (Nat.le_of_lt HQ'.out)) ?_; rintro e w4 ⟨rfl, g1, g2⟩
                have HB2 : Hid (Both' (fun i => i = NB ∨ i = wr.heap.size) w w4 p NB d.flush d b1 c1 u uc f) := g1
                have HX2 : Hid (Box w4 NB (.slice (some ⟨b1, 0, none⟩) d.n c1) (.slice u d.Q.length uc) f d.off) := g2.box (.inl rfl) HX1.out
                obtain ⟨z0, z1, z2, z3, zf⟩ := HX2.out
                have HPT := (show Hid _ from HB1.out.parts)
                have HRF := (show Hid _ from both_rflush HB2.out (Nat.le_of_lt HQ'.out) (fun q hq => (HPT.out.1 q hq).1) HPT.out.2.2.1)
                clear g1 g2 HB1 HX1 HY1 HB2 HPT
                have HWC := (show Hid _ from flush_q d)
                generalize (if d.on then (0 : Int) else 30) = code at *
                generalize d.flush = d2 at *
                go_wp2_with fail
                refine Calls.mono HRF.out ?_; rintro e w5 ⟨b2, c2, u2, uc2, f2, rfl, g1, g2⟩
                have HB3 : Hid (Both' (fun i => i = NB ∨ i = wr.heap.size) w w5 p NB d2 d2 b2 c2 u2 uc2 f2) := g1
                obtain ⟨v0, v1, v2, v3, vf⟩ := HX2.out.kept g2 (fun q => q)
                clear g1 g2 HRF z0 z1 z2 z3 zf
                go_wp2_with fail
                have HT : Hid (Box ((((w5.setCell ⟨NB, 0, none⟩ (.slice (some ⟨b2, 0, none⟩) d.n c2)).setCell ⟨NB, 1, none⟩ (.slice u2 d2.Q.length uc2)).setCell ⟨NB, 2, none⟩ (.int .i64 f2)).setCell ⟨NB, 3, none⟩ (.bool d2.off)) NB (.slice (some ⟨b2, 0, none⟩) d.n c2) (.slice u2 d2.Q.length uc2) f2 d2.off ∧ Kept (fun i => i = NB) w5 ((((w5.setCell ⟨NB, 0, none⟩ (.slice (some ⟨b2, 0, none⟩) d.n c2)).setCell ⟨NB, 1, none⟩ (.slice u2 d2.Q.length uc2)).setCell ⟨NB, 2, none⟩ (.int .i64 f2)).setCell ⟨NB, 3, none⟩ (.bool d2.off))) := Box.fill ⟨v0, v1, v2, v3, vf⟩ _ _ _ _
                have HBt : Hid (Both' (fun i => i = NB) w ((((w5.setCell ⟨NB, 0, none⟩ (.slice (some ⟨b2, 0, none⟩) d.n c2)).setCell ⟨NB, 1, none⟩ (.slice u2 d2.Q.length uc2)).setCell ⟨NB, 2, none⟩ (.int .i64 f2)).setCell ⟨NB, 3, none⟩ (.bool d2.off)) p NB d2 d2 b2 c2 u2 uc2 f2) := (Both'.store HB3.out HT.out.2).mono (fun i hi => .inl hi)
                clear v0 v1 v2 v3 vf HB3
                generalize ((((w5.setCell ⟨NB, 0, none⟩ (.slice (some ⟨b2, 0, none⟩) d.n c2)).setCell ⟨NB, 1, none⟩ (.slice u2 d2.Q.length uc2)).setCell ⟨NB, 2, none⟩ (.int .i64 f2)).setCell ⟨NB, 3, none⟩ (.bool d2.off)) = wt at *
                replace HT : Hid (Box wt NB (.slice (some ⟨b2, 0, none⟩) d.n c2) (.slice u2 d2.Q.length uc2) f2 d2.off) := HT.out.1
                obtain ⟨t0, t1, t2, t3, tf⟩ := HT.out
                have HO : Hid (∀ m, Calls Try.prog 21 #[.pointer (some ⟨p, 0, none⟩)] (wt.drewN m) fun e w' => e = .returned (.bool d2.off) ∧ w' = wt.drewN m) := fun m => (HBt.out.looks m).1
                have HWA : Hid (∀ m, Calls Try.prog 22 #[.pointer (some ⟨p, 0, none⟩)] (wt.drewN m) fun e w' => e = .returned (.int .i64 (d2.Q.length : Int)) ∧ w' = wt.drewN m) := fun m => (HBt.out.looks m).2.1
                have HZ : Hid (∀ m, Calls Try.prog 23 #[.pointer (some ⟨p, 0, none⟩)] (wt.drewN m) fun e w' => e = .returned (.int .i64 (d.n : Int)) ∧ w' = wt.drewN m) := fun m => by
                  rw [← HWC.out.1]
                  exact (HBt.out.looks m).2.2
                go_quiet (first | with_reducible exact Calls.quiet_of_same (HO.out _) | with_reducible exact Calls.quiet_of_same (HWA.out _) | with_reducible exact Calls.quiet_of_same (HZ.out _))
                go_wp2_with fail
                go_roundw
                case rel =>
                  refine ⟨k + 1, by omega, by go_num, d2, b2, c2, u2, uc2, f2, HWC.out.1.trans HQ.out.2, Nat.le_trans HWC.out.2 (Nat.succ_le_succ HQ.out.1), HBt.out.step (kept_drewN wt nq), ?_⟩
                  rw [HWC.out.1]
                  exact HT.out.kept (kept_drewN wt nq) (fun q => q)
                case measure => simp [intOf]; omega
              · have hk3b : (kind == 3) = false := by simp [hk3]
                by_cases hk4 : kind = 4
                · subst hk4
                  go_wp2_with fail
                  refine Calls.mono (both_fuse HB1.out at_ hat.2) ?_; rintro e w4 ⟨rfl, g1, g2⟩
                  have HB2 : Hid (Both' (fun i => i = NB ∨ i = wr.heap.size) w w4 p NB (d.setFuse at_) d b1 c1 u uc f) := g1
                  have HX2 : Hid (Box w4 NB (.slice (some ⟨b1, 0, none⟩) d.n c1) (.slice u d.Q.length uc) f d.off) := g2.box (.inl rfl) HX1.out
                  have y2 := g2.cell (.inr rfl) HY1.out.1
                  obtain ⟨z0, z1, z2, z3, zf⟩ := HX2.out
                  have HRF := (show Hid _ from both_rfuse HB2.out at_ hat.2)
                  clear g1 g2 HB1 HX1 HY1 HB2
                  have HWC : Hid ((d.setFuse at_).n = d.n ∧ (d.setFuse at_).Q.length ≤ d.Q.length + 1) := ⟨rfl, Nat.le_succ _⟩
                  go_wp2_with fail
                  refine Calls.mono HRF.out ?_; rintro e w5 ⟨rfl, g1, g2⟩
                  have HB3 : Hid (Both' (fun i => i = NB ∨ i = wr.heap.size) w w5 p NB (d.setFuse at_) (d.setFuse at_) b1 c1 u uc (max at_ (-1))) := g1
                  obtain ⟨v0, v1, v2, v3, vf⟩ := HX2.out.kept g2 (fun q => q)
                  clear g1 g2 HRF z0 z1 z2 z3 zf
                  generalize max at_ (-1) = f2 at *
                  go_wp2_with fail
                  have HT : Hid (Box ((((w5.setCell ⟨NB, 0, none⟩ (.slice (some ⟨b1, 0, none⟩) d.n c1)).setCell ⟨NB, 1, none⟩ (.slice u d.Q.length uc)).setCell ⟨NB, 2, none⟩ (.int .i64 f2)).setCell ⟨NB, 3, none⟩ (.bool d.off)) NB (.slice (some ⟨b1, 0, none⟩) d.n c1) (.slice u d.Q.length uc) f2 d.off ∧ Kept (fun i => i = NB) w5 ((((w5.setCell ⟨NB, 0, none⟩ (.slice (some ⟨b1, 0, none⟩) d.n c1)).setCell ⟨NB, 1, none⟩ (.slice u d.Q.length uc)).setCell ⟨NB, 2, none⟩ (.int .i64 f2)).setCell ⟨NB, 3, none⟩ (.bool d.off))) := Box.fill ⟨v0, v1, v2, v3, vf⟩ _ _ _ _
                  have HBt : Hid (Both' (fun i => i = NB) w ((((w5.setCell ⟨NB, 0, none⟩ (.slice (some ⟨b1, 0, none⟩) d.n c1)).setCell ⟨NB, 1, none⟩ (.slice u d.Q.length uc)).setCell ⟨NB, 2, none⟩ (.int .i64 f2)).setCell ⟨NB, 3, none⟩ (.bool d.off)) p NB (d.setFuse at_) (d.setFuse at_) b1 c1 u uc f2) := (Both'.store HB3.out HT.out.2).mono (fun i hi => .inl hi)
                  clear v0 v1 v2 v3 vf HB3
                  generalize ((((w5.setCell ⟨NB, 0, none⟩ (.slice (some ⟨b1, 0, none⟩) d.n c1)).setCell ⟨NB, 1, none⟩ (.slice u d.Q.length uc)).setCell ⟨NB, 2, none⟩ (.int .i64 f2)).setCell ⟨NB, 3, none⟩ (.bool d.off)) = wt at *
                  replace HT : Hid (Box wt NB (.slice (some ⟨b1, 0, none⟩) d.n c1) (.slice u d.Q.length uc) f2 d.off) := HT.out.1
                  obtain ⟨t0, t1, t2, t3, tf⟩ := HT.out
                  have HO : Hid (∀ m, Calls Try.prog 21 #[.pointer (some ⟨p, 0, none⟩)] (wt.drewN m) fun e w' => e = .returned (.bool d.off) ∧ w' = wt.drewN m) := fun m => (HBt.out.looks m).1
                  have HWA : Hid (∀ m, Calls Try.prog 22 #[.pointer (some ⟨p, 0, none⟩)] (wt.drewN m) fun e w' => e = .returned (.int .i64 (d.Q.length : Int)) ∧ w' = wt.drewN m) := fun m => (HBt.out.looks m).2.1
                  have HZ : Hid (∀ m, Calls Try.prog 23 #[.pointer (some ⟨p, 0, none⟩)] (wt.drewN m) fun e w' => e = .returned (.int .i64 (d.n : Int)) ∧ w' = wt.drewN m) := fun m => by
                    rw [← HWC.out.1]
                    exact (HBt.out.looks m).2.2
                  go_quiet (first | with_reducible exact Calls.quiet_of_same (HO.out _) | with_reducible exact Calls.quiet_of_same (HWA.out _) | with_reducible exact Calls.quiet_of_same (HZ.out _))
                  go_wp2_with fail
                  go_roundw
                  case rel =>
                    refine ⟨k + 1, by omega, by go_num, (d.setFuse at_), b1, c1, u, uc, f2, HWC.out.1.trans HQ.out.2, Nat.le_trans HWC.out.2 (Nat.succ_le_succ HQ.out.1), HBt.out.step (kept_drewN wt nq), ?_⟩
                    rw [HWC.out.1]
                    exact HT.out.kept (kept_drewN wt nq) (fun q => q)
                  case measure => simp [intOf]; omega
                · have hk4b : (kind == 4) = false := by simp [hk4]
                  have HAL : Hid (Ints w (.slice ko ks.length kc) ks ∧ ks.length ≤ 9223372036854775807) := ⟨HAC.out.li, HAC.out.kl⟩
                  go_wp2_with fail
                  refine Calls.mono (both_crash HB1.out (Nat.le_of_lt HQ'.out) _ ks HAL.out.1 HAL.out.2) ?_; rintro e w4 ⟨rfl, g1, g2⟩
                  have HB2 : Hid (Both' (fun i => i = NB ∨ i = wr.heap.size) w w4 p NB (d.crash ks) d b1 c1 u uc f) := g1
                  have HX2 : Hid (Box w4 NB (.slice (some ⟨b1, 0, none⟩) d.n c1) (.slice u d.Q.length uc) f d.off) := g2.box (.inl rfl) HX1.out
                  have y2 := g2.cell (.inr rfl) HY1.out.2
                  obtain ⟨z0, z1, z2, z3, zf⟩ := HX2.out
                  have HPT := (show Hid _ from HB1.out.parts)
                  have HRF := (show Hid _ from both_rcrash HB2.out (Nat.le_of_lt HQ'.out) HPT.out.1 HPT.out.2.1 HPT.out.2.2.1 ko kc ks HAL.out.1 HAL.out.2)
                  clear g1 g2 HB1 HX1 HY1 HB2 HPT
                  have HWC : Hid ((d.crash ks).n = d.n ∧ (d.crash ks).Q.length ≤ d.Q.length + 1) := ⟨rfl, Nat.zero_le _⟩
                  go_wp2_with fail
                  refine Calls.mono HRF.out ?_; rintro e w5 ⟨b2, c2, rfl, g1, g2⟩
                  have HB3 : Hid (Both' (fun i => i = NB ∨ i = wr.heap.size) w w5 p NB (d.crash ks) (d.crash ks) b2 c2 none 0 (-1)) := g1
                  obtain ⟨v0, v1, v2, v3, vf⟩ := HX2.out.kept g2 (fun q => q)
                  clear g1 g2 HRF z0 z1 z2 z3 zf
                  go_wp2_with fail
                  have HT : Hid (Box ((((w5.setCell ⟨NB, 0, none⟩ (.slice (some ⟨b2, 0, none⟩) d.n c2)).setCell ⟨NB, 1, none⟩ (.slice none 0 0)).setCell ⟨NB, 2, none⟩ (.int .i64 (-1))).setCell ⟨NB, 3, none⟩ (.bool false)) NB (.slice (some ⟨b2, 0, none⟩) d.n c2) (.slice none 0 0) (-1) false ∧ Kept (fun i => i = NB) w5 ((((w5.setCell ⟨NB, 0, none⟩ (.slice (some ⟨b2, 0, none⟩) d.n c2)).setCell ⟨NB, 1, none⟩ (.slice none 0 0)).setCell ⟨NB, 2, none⟩ (.int .i64 (-1))).setCell ⟨NB, 3, none⟩ (.bool false))) := Box.fill ⟨v0, v1, v2, v3, vf⟩ _ _ _ _
                  have HBt : Hid (Both' (fun i => i = NB) w ((((w5.setCell ⟨NB, 0, none⟩ (.slice (some ⟨b2, 0, none⟩) d.n c2)).setCell ⟨NB, 1, none⟩ (.slice none 0 0)).setCell ⟨NB, 2, none⟩ (.int .i64 (-1))).setCell ⟨NB, 3, none⟩ (.bool false)) p NB (d.crash ks) (d.crash ks) b2 c2 none 0 (-1)) := (Both'.store HB3.out HT.out.2).mono (fun i hi => .inl hi)
                  clear v0 v1 v2 v3 vf HB3
                  generalize ((((w5.setCell ⟨NB, 0, none⟩ (.slice (some ⟨b2, 0, none⟩) d.n c2)).setCell ⟨NB, 1, none⟩ (.slice none 0 0)).setCell ⟨NB, 2, none⟩ (.int .i64 (-1))).setCell ⟨NB, 3, none⟩ (.bool false)) = wt at *
                  replace HT : Hid (Box wt NB (.slice (some ⟨b2, 0, none⟩) d.n c2) (.slice none 0 0) (-1) false) := HT.out.1
                  obtain ⟨t0, t1, t2, t3, tf⟩ := HT.out
                  have HO : Hid (∀ m, Calls Try.prog 21 #[.pointer (some ⟨p, 0, none⟩)] (wt.drewN m) fun e w' => e = .returned (.bool false) ∧ w' = wt.drewN m) := fun m => (HBt.out.looks m).1
                  have HWA : Hid (∀ m, Calls Try.prog 22 #[.pointer (some ⟨p, 0, none⟩)] (wt.drewN m) fun e w' => e = .returned (.int .i64 (0 : Int)) ∧ w' = wt.drewN m) := fun m => (HBt.out.looks m).2.1
                  have HZ : Hid (∀ m, Calls Try.prog 23 #[.pointer (some ⟨p, 0, none⟩)] (wt.drewN m) fun e w' => e = .returned (.int .i64 (d.n : Int)) ∧ w' = wt.drewN m) := fun m => by
                    rw [← HWC.out.1]
                    exact (HBt.out.looks m).2.2
                  go_quiet (first | with_reducible exact Calls.quiet_of_same (HO.out _) | with_reducible exact Calls.quiet_of_same (HWA.out _) | with_reducible exact Calls.quiet_of_same (HZ.out _))
                  go_wp2_with fail
                  go_roundw
                  case rel =>
                    refine ⟨k + 1, by omega, by go_num, (d.crash ks), b2, c2, none, 0, (-1), HWC.out.1.trans HQ.out.2, Nat.le_trans HWC.out.2 (Nat.succ_le_succ HQ.out.1), HBt.out.step (kept_drewN wt nq), ?_⟩
                    rw [HWC.out.1]
                    exact HT.out.kept (kept_drewN wt nq) (fun q => q)
                  case measure => simp [intOf]; omega
      · have hk80i : ¬ (k : Int) < 80 := by omega
        go_wp2_with fail
        refine Calls.mono (HAW.out _) ?_; rintro e w8 ⟨rfl, k8⟩
        have HK8 := (show Hid _ from k8)
        have HB6 := (show Hid _ from HB.out.bel)
        clear k8
        go_wp2_with fail
        go_ret
        exact ⟨rfl, HB6.out.trans (HK8.out.mono HB6.out.size)⟩
    · have hkli : ¬ (k : Int) < (len1 : Int) := by omega
      go_wp2_with fail
      refine Calls.mono (HAW.out _) ?_; rintro e w8 ⟨rfl, k8⟩
      have HK8 := (show Hid _ from k8)
      have HB6 := (show Hid _ from HB.out.bel)
      clear k8
      go_wp2_with fail
      go_ret
      exact ⟨rfl, HB6.out.trans (HK8.out.mono HB6.out.size)⟩
end Go.Proofs.Ytlkkeabenklefaa
