/- crash: both disks crash, and both logs are opened. -/
import Derived.Test.YthfhjfemcmdmfaaOpn
namespace Go.Proofs.Ythfhjfemcmdmfaa
open Go.ChangeShapes Go.WideShapes Go.ChangeAt Go.RowKit
set_option linter.unusedVariables false
set_option maxRecDepth 100000

theorem disk_crash0 {w : World} {F : Nat → Prop} {p : Nat} {d : Dk} (h : Disk w F p d) (hn : d.Q.length ≤ 1048576) (a : Option Addr) (c : Nat) : Calls Try.prog 23 #[.pointer (some ⟨p, 0, none⟩), .slice a 0 c] w fun e w' => e = .returned (.int .i64 0) ∧ Disk w' F p (d.crash []) ∧ Kept F w w' := by
  obtain ⟨bs, bl, v, hl⟩ := h
  refine (crash_zero hl hn a 0 c (.inl rfl)).mono ?_
  rintro e w' ⟨rfl, v', k1, k2⟩
  have e1 : settled d.S d.last d.Q = Dk.last { d with Q := [], fuse := -1, off := false } := by
    have := settle_torn d.S d.Q []
    simp only [List.zip_nil_right] at this
    exact this
  rw [e1] at k1
  have e2 : d.crash [] = { d with Q := [], fuse := -1, off := false } := by unfold Dk.crash; rw [List.zip_nil_right]; rfl
  rw [e2]
  exact ⟨rfl, ⟨bs, bl, v', k1⟩, k2⟩
theorem crash_side {w : World} {F : Nat → Prop} {N p a B t us b c n m k rl : Nat} {u : Option Addr} {df : Int} {of : Bool} {R : List ByteArray} {d : Dk} {UB X : ByteArray} {l0 m0 m1 m2 m3 m4 : Value} {ko : Option Addr} {kc kl : Nat} {ks : List Int} (hN : CellsF w N [.pointer (some ⟨p, 0, none⟩), l0, .slice (some ⟨b, 0, none⟩) n c, .slice u m k, .int .i64 df, .bool of, m0, m1, m2, m3, m4, .int .i64 (a : Int), .int .i64 (B : Int)]) (hNF : ¬ F N) (hbF : ¬ F b) (hNO : Other w N) (hd : Disk w F p d) (hr : Rd w b c u k d) (hQ : d.Q.length ≤ 1000000) (hn : d.n = n) (hm : d.Q.length = m) (hdf : d.fuse = df) (hof : d.off = of) (hn2 : n ≤ 256) (hab : a < B) (hB : B ≤ n) (ht : 1 ≤ t ∧ t ≤ 2147483647)
    (hks : Ints w (.slice ko ks.length kc) ks) (hkl : ks.length ≤ 9223372036854775807) (hkl2 : ks.length = kl) (hkF : ks ≠ [] → ∀ x, ko = some x → ¬ F x.block ∧ x.block ≠ N)
    (hX : (⟨(cat (d.crash ks) a (B - a)).toArray⟩ : ByteArray) = X) (hsc : scanS (t : Int) X = (R, us)) (hRl : R.length = rl) (hR2 : rl ≤ 100000) (hUB : X.extract 0 us = UB) (hub : UB.size = us) :
    Calls Try.prog 45 #[.pointer (some ⟨N, 0, none⟩), .slice ko kl kc, .int .i64 (t : Int)] w fun e w' => e = .returned (.bool true) ∧ ∃ q la lc v b1 c1, CellsF w' N [.pointer (some ⟨p, 0, none⟩), .pointer (some ⟨q, 0, none⟩), .slice (some ⟨b1, 0, none⟩) n c1, .slice none 0 0, .int .i64 (-1), .bool false, .int .i64 (a : Int), .int .i64 (B : Int), .int .i64 (t : Int), .slice la rl lc, .string UB, .int .i64 (a : Int), .int .i64 (B : Int)] ∧ LogAt w' F q p a B t R us v ∧ Disk w' F p (d.crash ks) ∧ Rd w' b1 c1 none 0 (d.crash ks) ∧ Kept (fun i => F i ∨ i = N) w w' ∧ w'.ownsRow 0 9 1 (.slice la rl lc) rl (sv R) ∧ w.heap.size ≤ q ∧ (∀ i, v.ownBlock = some i → w.heap.size ≤ i) ∧ (b1 = b ∨ w.heap.size ≤ b1) ∧ (b1 ≠ q ∧ v.ownBlock ≠ some b1) ∧ (∀ i, (Value.slice la rl lc).ownBlock = some i → w.heap.size ≤ i ∧ i ≠ q ∧ v.ownBlock ≠ some i) ∧ Other w' N := by
  have HN : Hid (CellsF w N [.pointer (some ⟨p, 0, none⟩), l0, .slice (some ⟨b, 0, none⟩) n c, .slice u m k, .int .i64 df, .bool of, m0, m1, m2, m3, m4, .int .i64 (a : Int), .int .i64 (B : Int)]) := hN
  have HC64 : Hid (Calls Try.prog 64 #[.agg #[.slice (some ⟨b, 0, none⟩) n c, .slice u m k, .int .i64 df, .bool of], .slice ko kl kc] w fun e w' => ∃ b1 c1, e = .returned (.agg #[.slice (some ⟨b1, 0, none⟩) n c1, .slice none 0 0, .int .i64 (-1), .bool false]) ∧ Hid (w'.ownsRow 0 9 1 (.slice (some ⟨b1, 0, none⟩) n c1) n (sv (secs n (torn d.S (d.Q.zip ks)))) ∧ Kept (fun _ => False) w w' ∧ (b1 = b ∨ w.heap.size ≤ b1))) := by
    obtain ⟨bs, bl, vv, hli⟩ := hd
    have q := ref_crash b u d.n c k d.fuse d.off d.S d.Q hr.sure hr.wait (by omega) hli.qs hli.sure.len (by omega) ko kc ks hks hkl
    rw [hn, hm, hdf, hof, hkl2] at q
    exact q.mono fun e w' ⟨b1, c1, q1, q2, q4, q3⟩ => ⟨b1, c1, q1, q2, q3, q4⟩
  have HC23 : Hid (∀ w1, Kept (fun i => i = N) w w1 → Calls Try.prog 23 #[.pointer (some ⟨p, 0, none⟩), .slice ko kl kc] w1 fun e w2 => e = .returned (.int .i64 0) ∧ Hid (Disk w2 F p (d.crash ks) ∧ Kept F w1 w2)) := fun w1 kk => by
    have hd1 := hd.kept kk (fun i hi e => hNF (by rw [← e]; exact hi))
    by_cases hke : ks = []
    · subst hke
      subst hkl2
      exact (disk_crash0 hd1 (by omega) ko kc).mono fun e w2 ⟨q1, q2, q3⟩ => ⟨q1, q2, q3⟩
    · have hk1 : Ints w1 (.slice ko ks.length kc) ks := by
        rcases hks with h | ⟨b', o', c', e', hc'⟩
        · exact .inl h
        · refine .inr ⟨b', o', c', e', fun j hj => kk.cell (hc' j hj) ?_⟩
          have e2 := (Value.slice.inj e').1
          exact (hkF hke _ e2).2
      have q := disk_crash hd1 (by omega) (.slice ko ks.length kc) ks hk1 (fun x _ _ e => by have e2 := (Value.slice.inj e).1; exact (hkF hke _ e2).1) hkl
      rw [hkl2] at q
      exact q.mono fun e w2 ⟨q1, q2, q3⟩ => ⟨q1, q2, q3⟩
  have HC17 : Hid (∀ w2 b1 c1, CellsF w2 N [.pointer (some ⟨p, 0, none⟩), l0, .slice (some ⟨b1, 0, none⟩) n c1, .slice none 0 0, .int .i64 (-1), .bool false, m0, m1, m2, m3, m4, .int .i64 (a : Int), .int .i64 (B : Int)] → Other w2 N → Disk w2 F p (d.crash ks) → Rd w2 b1 c1 none 0 (d.crash ks) → Calls Try.prog 17 #[.pointer (some ⟨N, 0, none⟩), .int .i64 (t : Int)] w2 fun e w' => e = .returned (.bool true) ∧ Hid (∃ q la lc v, CellsF w' N [.pointer (some ⟨p, 0, none⟩), .pointer (some ⟨q, 0, none⟩), .slice (some ⟨b1, 0, none⟩) n c1, .slice none 0 0, .int .i64 (-1), .bool false, .int .i64 (a : Int), .int .i64 (B : Int), .int .i64 (t : Int), .slice la rl lc, .string UB, .int .i64 (a : Int), .int .i64 (B : Int)] ∧ LogAt w' F q p a B t R us v ∧ Kept (fun i => i = N) w2 w' ∧ w'.ownsRow 0 9 1 (.slice la rl lc) rl (sv R) ∧ w2.heap.size ≤ q ∧ (∀ i, v.ownBlock = some i → w2.heap.size ≤ i) ∧ (∀ i, (Value.slice la rl lc).ownBlock = some i → w2.heap.size ≤ i ∧ i ≠ q ∧ v.ownBlock ≠ some i) ∧ Other w' N)) := fun w2 b1 c1 h1 h2 h3 h4 => side_opens h1 hNF h2 h3 rfl h4 (Nat.zero_le _) hn rfl rfl hn2 hab hB ht hX hsc hRl hR2 hUB hub
  have HNO : Hid (Other w N ∧ ¬ F N ∧ d.n = n ∧ ¬ F b) := ⟨hNO, hNF, hn, hbF⟩
  have HBD : Hid (∀ i, F i → i < w.heap.size) := hd.bound
  have x0 := hN.cs 0 _ rfl
  have x2 := hN.cs 2 _ rfl
  have x3 := hN.cs 3 _ rfl
  have x4 := hN.cs 4 _ rfl
  have x5 := hN.cs 5 _ rfl
  clear hbF hN hd hr hQ hn hm hdf hof hks hkl hkl2 hkF hX hsc hUB hub hNF hNO
  go_enter Try.func45, Try.ntmps45
  go_wp2_with fail
  refine Calls.mono HC64.out ?_; rintro e w1 ⟨b1, c1, rfl, HM1⟩
  have hN1 := HN.out.step HM1.out.2.1
  have y2 := hN1.cs 2 _ rfl
  have y3 := hN1.cs 3 _ rfl
  have y4 := hN1.cs 4 _ rfl
  have y5 := hN1.cs 5 _ rfl
  have yf := hN1.fz
  have kk : Kept (fun i => i = N) w1 ((((w1.setCell ⟨N, 2, none⟩ (.slice (some ⟨b1, 0, none⟩) n c1)).setCell ⟨N, 3, none⟩ (.slice none 0 0)).setCell ⟨N, 4, none⟩ (.int .i64 (-1))).setCell ⟨N, 5, none⟩ (.bool false)) := by
    have h1 := (Kept.refl (fun i => i = N) w1).setCell (p := ⟨N, 2, none⟩) (.inl rfl) (.slice (some ⟨b1, 0, none⟩) n c1)
    have h2 := h1.setCell (p := ⟨N, 3, none⟩) (.inl rfl) (.slice none 0 0)
    have h3 := h2.setCell (p := ⟨N, 4, none⟩) (.inl rfl) (.int .i64 (-1))
    exact h3.setCell (p := ⟨N, 5, none⟩) (.inl rfl) (.bool false)
  have hC2 : CellsF ((((w1.setCell ⟨N, 2, none⟩ (.slice (some ⟨b1, 0, none⟩) n c1)).setCell ⟨N, 3, none⟩ (.slice none 0 0)).setCell ⟨N, 4, none⟩ (.int .i64 (-1))).setCell ⟨N, 5, none⟩ (.bool false)) N [.pointer (some ⟨p, 0, none⟩), l0, .slice (some ⟨b1, 0, none⟩) n c1, .slice none 0 0, .int .i64 (-1), .bool false, m0, m1, m2, m3, m4, .int .i64 (a : Int), .int .i64 (B : Int)] := (((hN1.set 2 _ (by simp)).set 3 _ (by simp)).set 4 _ (by simp)).set 5 _ (by simp)
  have hO2 : Other ((((w1.setCell ⟨N, 2, none⟩ (.slice (some ⟨b1, 0, none⟩) n c1)).setCell ⟨N, 3, none⟩ (.slice none 0 0)).setCell ⟨N, 4, none⟩ (.int .i64 (-1))).setCell ⟨N, 5, none⟩ (.bool false)) N := ((((HNO.out.1.kept HM1.out.2.1).set 2 _).set 3 _).set 4 _).set 5 _
  obtain ⟨W2, hW2⟩ : ∃ W2, ((((w1.setCell ⟨N, 2, none⟩ (.slice (some ⟨b1, 0, none⟩) n c1)).setCell ⟨N, 3, none⟩ (.slice none 0 0)).setCell ⟨N, 4, none⟩ (.int .i64 (-1))).setCell ⟨N, 5, none⟩ (.bool false)) = W2 := ⟨_, rfl⟩
  have HW2 : Hid (((((w1.setCell ⟨N, 2, none⟩ (.slice (some ⟨b1, 0, none⟩) n c1)).setCell ⟨N, 3, none⟩ (.slice none 0 0)).setCell ⟨N, 4, none⟩ (.int .i64 (-1))).setCell ⟨N, 5, none⟩ (.bool false)) = W2) := hW2
  rw [hW2] at kk hC2 hO2
  have HB2 : Hid (CellsF W2 N [.pointer (some ⟨p, 0, none⟩), l0, .slice (some ⟨b1, 0, none⟩) n c1, .slice none 0 0, .int .i64 (-1), .bool false, m0, m1, m2, m3, m4, .int .i64 (a : Int), .int .i64 (B : Int)] ∧ Other W2 N ∧ Kept (fun i => i = N) w W2 ∧ W2.ownsRow 0 9 1 (.slice (some ⟨b1, 0, none⟩) n c1) n (sv (secs n (torn d.S (d.Q.zip ks))))) := ⟨hC2, hO2, (HM1.out.2.1.mono (fun _ x => x.elim)).trans kk (fun i hi => .inl hi), own_other HM1.out.1 (.inl rfl) kk (fun i hi => by rw [hi]; exact HNO.out.1.kept HM1.out.2.1)⟩
  have z0 := HB2.out.1.cs 0 _ rfl
  have HB1 : Hid (b1 = b ∨ w.heap.size ≤ b1) := HM1.out.2.2
  clear hN1 kk hC2 hO2 hW2 HM1 HC64 x0 x2 x3 x4 x5
  go_upto_region 2 with fail
  rw [HW2.out]
  clear HW2 y2 y3 y4 y5 yf
  go_wp2_with fail
  refine Calls.mono (HC23.out _ HB2.out.2.2.1) ?_; rintro e w3 ⟨rfl, HM3⟩
  have HB3 : Hid (CellsF w3 N [.pointer (some ⟨p, 0, none⟩), l0, .slice (some ⟨b1, 0, none⟩) n c1, .slice none 0 0, .int .i64 (-1), .bool false, m0, m1, m2, m3, m4, .int .i64 (a : Int), .int .i64 (B : Int)] ∧ Other w3 N ∧ Disk w3 F p (d.crash ks) ∧ Rd w3 b1 c1 none 0 (d.crash ks) ∧ Kept (fun i => F i ∨ i = N) w w3) := by
    have hO : Other w3 N := by
      obtain ⟨cur, tt, fz, e, h1, h2⟩ := HB2.out.2.1
      exact ⟨cur, tt, fz, (HM3.out.2.block N (Array.getElem?_eq_some_iff.1 e).1 HNO.out.2.1).trans e, h1, h2⟩
    refine ⟨HB2.out.1.kept HM3.out.2 HNO.out.2.1, hO, HM3.out.1, ⟨?_, World.ownsRow_nil _ _ _ _⟩, (HB2.out.2.2.1.mono (fun i hi => .inr hi)).trans HM3.out.2 (fun i hi => .inl (.inl hi))⟩
    have hbf : ¬ F b1 := fun q => by
      rcases HB1.out with e | e
      · rw [e] at q; exact HNO.out.2.2.2 q
      · have := HBD.out b1 q; omega
    have hrow : w3.ownsRow 0 9 1 (.slice (some ⟨b1, 0, none⟩) n c1) n (sv (secs n (torn d.S (d.Q.zip ks)))) := ownsRow_kept HB2.out.2.2.2 (fun i hi => by
      have e : i = b1 := by simpa [Value.ownBlock] using hi.symm
      subst e
      exact HM3.out.2.block i (HB2.out.2.2.2.lt i hi).2 hbf)
    show w3.ownsRow 0 9 1 (.slice (some ⟨b1, 0, none⟩) d.n c1) d.n (sv (secs d.n (torn d.S (d.Q.zip ks))))
    rw [HNO.out.2.2.1]
    exact hrow
  clear HM3 HB2 HC23 z0
  go_wp2_with fail
  refine Calls.mono (HC17.out _ _ _ HB3.out.1 HB3.out.2.1 HB3.out.2.2.1 HB3.out.2.2.2.1) ?_; rintro e w4 ⟨rfl, HM4⟩
  have HE : Hid (∃ q la lc v b1 c1, CellsF w4 N [.pointer (some ⟨p, 0, none⟩), .pointer (some ⟨q, 0, none⟩), .slice (some ⟨b1, 0, none⟩) n c1, .slice none 0 0, .int .i64 (-1), .bool false, .int .i64 (a : Int), .int .i64 (B : Int), .int .i64 (t : Int), .slice la rl lc, .string UB, .int .i64 (a : Int), .int .i64 (B : Int)] ∧ LogAt w4 F q p a B t R us v ∧ Disk w4 F p (d.crash ks) ∧ Rd w4 b1 c1 none 0 (d.crash ks) ∧ Kept (fun i => F i ∨ i = N) w w4 ∧ w4.ownsRow 0 9 1 (.slice la rl lc) rl (sv R) ∧ w.heap.size ≤ q ∧ (∀ i, v.ownBlock = some i → w.heap.size ≤ i) ∧ (b1 = b ∨ w.heap.size ≤ b1) ∧ (b1 ≠ q ∧ v.ownBlock ≠ some b1) ∧ (∀ i, (Value.slice la rl lc).ownBlock = some i → w.heap.size ≤ i ∧ i ≠ q ∧ v.ownBlock ≠ some i) ∧ Other w4 N) := by
    obtain ⟨q, la, lc, v, e1, e2, e3, e4, e5, e6, e7, e8⟩ := HM4.out
    have hb3 : b1 < w3.heap.size := (HB3.out.2.2.2.1.sure.lt b1 rfl).2
    have hs := HB3.out.2.2.2.2.size
    refine ⟨q, la, lc, v, b1, c1, e1, e2, HB3.out.2.2.1.kept e3 (fun i hi e => HNO.out.2.1 (by rw [← e]; exact hi)), ⟨own_other HB3.out.2.2.2.1.sure (.inl rfl) e3 (fun i hi => by rw [hi]; exact HB3.out.2.1), World.ownsRow_nil _ _ _ _⟩, HB3.out.2.2.2.2.trans e3 (fun i hi => .inl (.inr hi)), e4, Nat.le_trans hs e5, fun i hi => Nat.le_trans hs (e6 i hi), HB1.out, ⟨by omega, fun e => by have := e6 b1 e; omega⟩, fun i hi => ⟨Nat.le_trans hs (e7 i hi).1, (e7 i hi).2⟩, e8⟩
  clear HM4 HB3 HC17
  go_wp2_with fail
  go_ret
  exact ⟨rfl, HE.out⟩
end Go.Proofs.Ythfhjfemcmdmfaa
