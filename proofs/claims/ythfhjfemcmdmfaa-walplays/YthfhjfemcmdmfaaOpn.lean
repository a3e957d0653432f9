/- opens: both logs are opened. -/
import Derived.Test.YthfhjfemcmdmfaaSds
import Derived.Test.YthfhjfemcmdmfaaMf
import Derived.Deep.DeepCutAuto
import Derived.ControlIn
namespace Go.Proofs.Ythfhjfemcmdmfaa
open Go.ChangeShapes Go.WideShapes Go.ChangeAt Go.RowKit
set_option linter.unusedVariables false
set_option maxRecDepth 100000

theorem set6_kept (w : World) (N : Nat) (v1 v6 v7 v8 v9 v10 : Value) : Kept (fun i => i = N) w ((((((w.setCell ⟨N, 1, none⟩ v1).setCell ⟨N, 6, none⟩ v6).setCell ⟨N, 7, none⟩ v7).setCell ⟨N, 8, none⟩ v8).setCell ⟨N, 9, none⟩ v9).setCell ⟨N, 10, none⟩ v10) := by
  have h1 := (Kept.refl (fun i => i = N) w).setCell (p := ⟨N, 1, none⟩) (.inl rfl) v1
  have h2 := h1.setCell (p := ⟨N, 6, none⟩) (.inl rfl) v6
  have h3 := h2.setCell (p := ⟨N, 7, none⟩) (.inl rfl) v7
  have h4 := h3.setCell (p := ⟨N, 8, none⟩) (.inl rfl) v8
  have h5 := h4.setCell (p := ⟨N, 9, none⟩) (.inl rfl) v9
  exact h5.setCell (p := ⟨N, 10, none⟩) (.inl rfl) v10
set_option maxHeartbeats 8000000 in
theorem side_opens {w : World} {F : Nat → Prop} {N p a B t us b c n m k rl : Nat} {u : Option Addr} {df : Int} {R : List ByteArray} {d : Dk} {UB X : ByteArray} {l0 m0 m1 m2 m3 m4 : Value} (hN : CellsF w N [.pointer (some ⟨p, 0, none⟩), l0, .slice (some ⟨b, 0, none⟩) n c, .slice u m k, .int .i64 df, .bool false, m0, m1, m2, m3, m4, .int .i64 (a : Int), .int .i64 (B : Int)]) (hNF : ¬ F N) (hNO : Other w N) (hd : Disk w F p d) (hoff : d.off = false) (hr : Rd w b c u k d) (hQ : d.Q.length ≤ 1000000) (hn : d.n = n) (hm : d.Q.length = m) (hdf : d.fuse = df) (hn2 : n ≤ 256) (hab : a < B) (hB : B ≤ n) (ht : 1 ≤ t ∧ t ≤ 2147483647)
    (hX : (⟨(cat d a (B - a)).toArray⟩ : ByteArray) = X) (hsc : scanS (t : Int) X = (R, us)) (hRl : R.length = rl) (hR2 : rl ≤ 100000) (hUB : X.extract 0 us = UB) (hub : UB.size = us) :
    Calls Try.prog 17 #[.pointer (some ⟨N, 0, none⟩), .int .i64 (t : Int)] w fun e w' => e = .returned (.bool true) ∧ ∃ q la lc v, CellsF w' N [.pointer (some ⟨p, 0, none⟩), .pointer (some ⟨q, 0, none⟩), .slice (some ⟨b, 0, none⟩) n c, .slice u m k, .int .i64 df, .bool false, .int .i64 (a : Int), .int .i64 (B : Int), .int .i64 (t : Int), .slice la rl lc, .string UB, .int .i64 (a : Int), .int .i64 (B : Int)] ∧ LogAt w' F q p a B t R us v ∧ Kept (fun i => i = N) w w' ∧ w'.ownsRow 0 9 1 (.slice la rl lc) rl (sv R) ∧ w.heap.size ≤ q ∧ (∀ i, v.ownBlock = some i → w.heap.size ≤ i) ∧ (∀ i, (Value.slice la rl lc).ownBlock = some i → w.heap.size ≤ i ∧ i ≠ q ∧ v.ownBlock ≠ some i) ∧ Other w' N := by
  have HN : Hid (CellsF w N [.pointer (some ⟨p, 0, none⟩), l0, .slice (some ⟨b, 0, none⟩) n c, .slice u m k, .int .i64 df, .bool false, m0, m1, m2, m3, m4, .int .i64 (a : Int), .int .i64 (B : Int)]) := hN
  have HO1 : Hid (Calls Try.prog 16 #[.pointer (some ⟨p, 0, none⟩), .int .i64 (a : Int), .int .i64 (B : Int), .int .i64 (t : Int)] w.drew fun e w'' => ∃ q v, e = .returned (.tuple #[.pointer (some ⟨q, 0, none⟩), .int .i64 0]) ∧ Hid (LogAt w'' F q p a B t R us v ∧ Kept (fun _ => False) w w'' ∧ w.heap.size ≤ q ∧ ∀ i, v.ownBlock = some i → w.heap.size ≤ i) ∧ (w''.cell? ⟨N, 0, none⟩ = some (.pointer (some ⟨p, 0, none⟩)) ∧ w''.cell? ⟨N, 11, none⟩ = some (.int .i64 (a : Int)) ∧ w''.cell? ⟨N, 12, none⟩ = some (.int .i64 (B : Int)))) := by
    have kd : Kept (fun _ => False) w w.drew := (Kept.refl _ w).drew
    have q := open_on (hd.kept kd (fun _ _ z => z)) hoff a B t hab (by rw [hn]; exact hB) ht
    rw [hX, hsc] at q
    refine q.mono fun e w'' ⟨q, v, q1, q2, q3, q4, q5⟩ => ⟨q, v, q1, ⟨q2, kd.trans q3 (fun _ x => x.elim), q4, q5⟩, ?_⟩
    have hc := HN.out.step (kd.trans q3 (fun _ x => x.elim))
    exact ⟨hc.cs 0 _ rfl, hc.cs 11 _ rfl, hc.cs 12 _ rfl⟩
  have HS0 : Hid (w.drew.cell? ⟨N, 0, none⟩ = some (.pointer (some ⟨p, 0, none⟩)) ∧ w.drew.cell? ⟨N, 11, none⟩ = some (.int .i64 (a : Int)) ∧ w.drew.cell? ⟨N, 12, none⟩ = some (.int .i64 (B : Int))) := ⟨HN.out.cs 0 _ rfl, HN.out.cs 11 _ rfl, HN.out.cs 12 _ rfl⟩
  have hS0 := HS0.out
  have HO2 : Hid (∀ w1 W, Kept (fun _ => False) w w1 → Kept (fun _ => False) w1 W → Calls Try.prog 40 #[.agg #[.slice (some ⟨b, 0, none⟩) n c, .slice u m k, .int .i64 df, .bool false], .agg #[.int .i64 (a : Int), .int .i64 (B : Int)], .int .i64 (t : Int)] W fun e w'' => ∃ la lc, e = .returned (.tuple #[.agg #[.int .i64 (a : Int), .int .i64 (B : Int), .int .i64 (t : Int), .slice la rl lc, .string UB], .int .i64 0]) ∧ Hid (w''.ownsRow 0 9 1 (.slice la rl lc) rl (sv R) ∧ Kept (fun _ => False) W w'' ∧ Kept (fun _ => False) w1 w'' ∧ ∀ i, (Value.slice la rl lc).ownBlock = some i → w1.heap.size ≤ i) ∧ (w''.cell? ⟨N, 2, none⟩ = some (.slice (some ⟨b, 0, none⟩) n c) ∧ w''.cell? ⟨N, 3, none⟩ = some (.slice u m k) ∧ w''.cell? ⟨N, 4, none⟩ = some (.int .i64 df) ∧ w''.cell? ⟨N, 5, none⟩ = some (.bool false) ∧ w''.cell? ⟨N, 11, none⟩ = some (.int .i64 (a : Int)) ∧ w''.cell? ⟨N, 12, none⟩ = some (.int .i64 (B : Int)))) := fun w1 W k1 k2 => by
    have kk := k1.trans k2 (fun _ x => x.elim)
    have q := ref_open (hr.step kk) (by omega) hoff (by omega) (fun i hi => hd.lastLen i hi) a B t hab (by omega) ht X hX R us hsc
    rw [hn, hm, hdf, hRl, hUB] at q
    refine q.mono fun e w'' ⟨la, lc, q1, q2, q3⟩ => ⟨la, lc, q1, ⟨own_weak q2 (Nat.zero_le _), q3, k2.trans q3 (fun _ x => x.elim), fun i hi => Nat.le_trans k2.size (q2.lt i hi).1⟩, ?_⟩
    have hc := HN.out.step (kk.trans q3 (fun _ x => x.elim))
    exact ⟨hc.cs 2 _ rfl, hc.cs 3 _ rfl, hc.cs 4 _ rfl, hc.cs 5 _ rfl, hc.cs 11 _ rfl, hc.cs 12 _ rfl⟩
  have HSM : Hid (∀ w' q la lc v, CellsF w' N [.pointer (some ⟨p, 0, none⟩), .pointer (some ⟨q, 0, none⟩), .slice (some ⟨b, 0, none⟩) n c, .slice u m k, .int .i64 df, .bool false, .int .i64 (a : Int), .int .i64 (B : Int), .int .i64 (t : Int), .slice la rl lc, .string UB, .int .i64 (a : Int), .int .i64 (B : Int)] → LogAt w' F q p a B t R us v → Kept (fun i => i = N) w w' → w'.ownsRow 0 9 1 (.slice la rl lc) rl (sv R) → Calls Try.prog 41 #[.pointer (some ⟨N, 0, none⟩)] w' fun e w'' => e = .returned (.bool true) ∧ Kept (fun _ => False) w' w'') := fun w' q la lc v h1 h2 h3 h4 => by
    have hd' := hd.kept h3 (fun i hi e => hNF (by rw [← e]; exact hi))
    have hr' : Rd w' b c u k d := ⟨own_other hr.sure (.inl rfl) h3 (fun i hi => by rw [hi]; exact hNO), own_other hr.wait (.inr rfl) h3 (fun i hi => by rw [hi]; exact hNO)⟩
    exact side_same h1 h2 hd' hoff hr' hQ hn hm hdf hn2 h4 hRl hR2 hub
  have HBS : Hid (∀ i, F i → i < w.heap.size) := hd.bound
  have HNO : Hid (Other w N ∧ ¬ F N) := ⟨hNO, hNF⟩
  clear hN hd hr hQ hn hm hdf hX hsc hUB hub hNF hNO hoff
  go_enter Try.func17, Try.ntmps17
  go_wp2_with fail
  go_region_held (fun (w' : World) => (w'.cell? ⟨N, 0, none⟩ = some (.pointer (some ⟨p, 0, none⟩)) ∧ w'.cell? ⟨N, 11, none⟩ = some (.int .i64 (a : Int)) ∧ w'.cell? ⟨N, 12, none⟩ = some (.int .i64 (B : Int)))) (first | (with_reducible assumption) | (with_reducible exact HS0.out))
    (first | ((with_reducible refine Calls.mono HO1.out ?_); rintro e w1 ⟨q, v, rfl, HM1, hS1⟩))
  clear HO1 HS0 hS0 hS1
  try simp only [Exit.then]
  have HSW : Hid (∀ W, Kept (fun _ => False) w1 W → (W.cell? ⟨N, 2, none⟩ = some (.slice (some ⟨b, 0, none⟩) n c) ∧ W.cell? ⟨N, 3, none⟩ = some (.slice u m k) ∧ W.cell? ⟨N, 4, none⟩ = some (.int .i64 df) ∧ W.cell? ⟨N, 5, none⟩ = some (.bool false) ∧ W.cell? ⟨N, 11, none⟩ = some (.int .i64 (a : Int)) ∧ W.cell? ⟨N, 12, none⟩ = some (.int .i64 (B : Int)))) := fun W kk => by
    have hc := HN.out.step (HM1.out.2.1.trans kk (fun _ x => x.elim))
    exact ⟨hc.cs 2 _ rfl, hc.cs 3 _ rfl, hc.cs 4 _ rfl, hc.cs 5 _ rfl, hc.cs 11 _ rfl, hc.cs 12 _ rfl⟩
  have HS0 : Hid (w1.drew.cell? ⟨N, 2, none⟩ = some (.slice (some ⟨b, 0, none⟩) n c) ∧ w1.drew.cell? ⟨N, 3, none⟩ = some (.slice u m k) ∧ w1.drew.cell? ⟨N, 4, none⟩ = some (.int .i64 df) ∧ w1.drew.cell? ⟨N, 5, none⟩ = some (.bool false) ∧ w1.drew.cell? ⟨N, 11, none⟩ = some (.int .i64 (a : Int)) ∧ w1.drew.cell? ⟨N, 12, none⟩ = some (.int .i64 (B : Int))) := HSW.out _ (Kept.refl _ _).drew
  have HSA : Hid (∀ z, ((w1.alloc z).cell? ⟨N, 2, none⟩ = some (.slice (some ⟨b, 0, none⟩) n c) ∧ (w1.alloc z).cell? ⟨N, 3, none⟩ = some (.slice u m k) ∧ (w1.alloc z).cell? ⟨N, 4, none⟩ = some (.int .i64 df) ∧ (w1.alloc z).cell? ⟨N, 5, none⟩ = some (.bool false) ∧ (w1.alloc z).cell? ⟨N, 11, none⟩ = some (.int .i64 (a : Int)) ∧ (w1.alloc z).cell? ⟨N, 12, none⟩ = some (.int .i64 (B : Int)))) := fun z => HSW.out _ ((Kept.refl _ _).alloc z)
  have HSB : Hid (∀ z, ((w1.alloc z).drew.cell? ⟨N, 2, none⟩ = some (.slice (some ⟨b, 0, none⟩) n c) ∧ (w1.alloc z).drew.cell? ⟨N, 3, none⟩ = some (.slice u m k) ∧ (w1.alloc z).drew.cell? ⟨N, 4, none⟩ = some (.int .i64 df) ∧ (w1.alloc z).drew.cell? ⟨N, 5, none⟩ = some (.bool false) ∧ (w1.alloc z).drew.cell? ⟨N, 11, none⟩ = some (.int .i64 (a : Int)) ∧ (w1.alloc z).drew.cell? ⟨N, 12, none⟩ = some (.int .i64 (B : Int)))) := fun z => HSW.out _ ((Kept.refl _ _).alloc z).drew
  have HSX : Hid (∀ (W : World) (z : Obj), (W.cell? ⟨N, 2, none⟩ = some (.slice (some ⟨b, 0, none⟩) n c) ∧ W.cell? ⟨N, 3, none⟩ = some (.slice u m k) ∧ W.cell? ⟨N, 4, none⟩ = some (.int .i64 df) ∧ W.cell? ⟨N, 5, none⟩ = some (.bool false) ∧ W.cell? ⟨N, 11, none⟩ = some (.int .i64 (a : Int)) ∧ W.cell? ⟨N, 12, none⟩ = some (.int .i64 (B : Int))) → ((W.alloc z).cell? ⟨N, 2, none⟩ = some (.slice (some ⟨b, 0, none⟩) n c) ∧ (W.alloc z).cell? ⟨N, 3, none⟩ = some (.slice u m k) ∧ (W.alloc z).cell? ⟨N, 4, none⟩ = some (.int .i64 df) ∧ (W.alloc z).cell? ⟨N, 5, none⟩ = some (.bool false) ∧ (W.alloc z).cell? ⟨N, 11, none⟩ = some (.int .i64 (a : Int)) ∧ (W.alloc z).cell? ⟨N, 12, none⟩ = some (.int .i64 (B : Int)))) := fun W z h => by
    have f : ∀ {a : Addr} {u : Value}, W.cell? a = some u → (W.alloc z).cell? a = some u := fun {a u} q => ((Kept.refl (fun _ => False) W).alloc z).cell q (fun x => x)
    exact ⟨f h.1, f h.2.1, f h.2.2.1, f h.2.2.2.1, f h.2.2.2.2.1, f h.2.2.2.2.2⟩
  have hNlt : N ≠ w1.heap.size := Nat.ne_of_lt (Nat.lt_of_lt_of_le HN.out.lt HM1.out.2.1.size)
  have HNL : Hid (N ≠ w1.heap.size) := hNlt
  have HSY : Hid (∀ (W : World) (v0 v1 v2 v3 v4 : Value), (W.cell? ⟨N, 2, none⟩ = some (.slice (some ⟨b, 0, none⟩) n c) ∧ W.cell? ⟨N, 3, none⟩ = some (.slice u m k) ∧ W.cell? ⟨N, 4, none⟩ = some (.int .i64 df) ∧ W.cell? ⟨N, 5, none⟩ = some (.bool false) ∧ W.cell? ⟨N, 11, none⟩ = some (.int .i64 (a : Int)) ∧ W.cell? ⟨N, 12, none⟩ = some (.int .i64 (B : Int))) → ((((((W.setCell ⟨w1.heap.size, 0, none⟩ (v0)).setCell ⟨w1.heap.size, 1, none⟩ (v1)).setCell ⟨w1.heap.size, 2, none⟩ (v2)).setCell ⟨w1.heap.size, 3, none⟩ (v3)).setCell ⟨w1.heap.size, 4, none⟩ (v4)).cell? ⟨N, 2, none⟩ = some (.slice (some ⟨b, 0, none⟩) n c) ∧ (((((W.setCell ⟨w1.heap.size, 0, none⟩ (v0)).setCell ⟨w1.heap.size, 1, none⟩ (v1)).setCell ⟨w1.heap.size, 2, none⟩ (v2)).setCell ⟨w1.heap.size, 3, none⟩ (v3)).setCell ⟨w1.heap.size, 4, none⟩ (v4)).cell? ⟨N, 3, none⟩ = some (.slice u m k) ∧ (((((W.setCell ⟨w1.heap.size, 0, none⟩ (v0)).setCell ⟨w1.heap.size, 1, none⟩ (v1)).setCell ⟨w1.heap.size, 2, none⟩ (v2)).setCell ⟨w1.heap.size, 3, none⟩ (v3)).setCell ⟨w1.heap.size, 4, none⟩ (v4)).cell? ⟨N, 4, none⟩ = some (.int .i64 df) ∧ (((((W.setCell ⟨w1.heap.size, 0, none⟩ (v0)).setCell ⟨w1.heap.size, 1, none⟩ (v1)).setCell ⟨w1.heap.size, 2, none⟩ (v2)).setCell ⟨w1.heap.size, 3, none⟩ (v3)).setCell ⟨w1.heap.size, 4, none⟩ (v4)).cell? ⟨N, 5, none⟩ = some (.bool false) ∧ (((((W.setCell ⟨w1.heap.size, 0, none⟩ (v0)).setCell ⟨w1.heap.size, 1, none⟩ (v1)).setCell ⟨w1.heap.size, 2, none⟩ (v2)).setCell ⟨w1.heap.size, 3, none⟩ (v3)).setCell ⟨w1.heap.size, 4, none⟩ (v4)).cell? ⟨N, 11, none⟩ = some (.int .i64 (a : Int)) ∧ (((((W.setCell ⟨w1.heap.size, 0, none⟩ (v0)).setCell ⟨w1.heap.size, 1, none⟩ (v1)).setCell ⟨w1.heap.size, 2, none⟩ (v2)).setCell ⟨w1.heap.size, 3, none⟩ (v3)).setCell ⟨w1.heap.size, 4, none⟩ (v4)).cell? ⟨N, 12, none⟩ = some (.int .i64 (B : Int)))) := fun W v0 v1 v2 v3 v4 h => by
    have kk := set5_kept W w1.heap.size v0 v1 v2 v3 v4
    have f : ∀ {j : Nat} {u : Value}, W.cell? ⟨N, j, none⟩ = some u → (((((W.setCell ⟨w1.heap.size, 0, none⟩ (v0)).setCell ⟨w1.heap.size, 1, none⟩ (v1)).setCell ⟨w1.heap.size, 2, none⟩ (v2)).setCell ⟨w1.heap.size, 3, none⟩ (v3)).setCell ⟨w1.heap.size, 4, none⟩ (v4)).cell? ⟨N, j, none⟩ = some u := fun {j u} q => kk.cell q HNL.out
    exact ⟨f h.1, f h.2.1, f h.2.2.1, f h.2.2.2.1, f h.2.2.2.2.1, f h.2.2.2.2.2⟩
  have HZB : Hid (CellsF (w1.alloc (.cells #[.int .i64 0, .int .i64 0, .int .i64 0, .slice none 0 0, .string ⟨#[]⟩] 44)) w1.heap.size [.int .i64 0, .int .i64 0, .int .i64 0, .slice none 0 0, .string ⟨#[]⟩]) := CellsF.new w1 [.int .i64 0, .int .i64 0, .int .i64 0, .slice none 0 0, .string ⟨#[]⟩] 44 (by simp)
  have HOB : Hid (Other (w1.alloc (.cells #[.int .i64 0, .int .i64 0, .int .i64 0, .slice none 0 0, .string ⟨#[]⟩] 44)) w1.heap.size) := ⟨_, 44, (0, 0), heap_alloc_new w1 _, by decide, by decide⟩
  have HZD : Hid (CellsF (w1.alloc (.cells #[.int .i64 0, .int .i64 0, .int .i64 0, .slice none 0 0, .string ⟨#[]⟩] 44)).drew w1.heap.size [.int .i64 0, .int .i64 0, .int .i64 0, .slice none 0 0, .string ⟨#[]⟩]) := HZB.out.far rfl
  have hS0 := HSW.out w1 (Kept.refl _ _)
  have HC40 : Hid _ := fun W kk => HO2.out w1 W HM1.out.2.1 kk
  clear hNlt HO2
  go_wp2_with fail
  go_cut [7, 8] (fun s7 s8 wx => ∃ x la lc, s7 = .pointer (some ⟨x, 0, none⟩) ∧ s8 = .int .i64 0 ∧ Hid (CellsF wx x [.int .i64 (a : Int), .int .i64 (B : Int), .int .i64 (t : Int), .slice la rl lc, .string UB] ∧ wx.ownsRow 0 9 1 (.slice la rl lc) rl (sv R) ∧ Kept (fun _ => False) w1 wx ∧ w1.heap.size ≤ x ∧ ∀ i, (Value.slice la rl lc).ownBlock = some i → w1.heap.size ≤ i))
  case first =>
    go_region_held (fun (w' : World) => (w'.cell? ⟨N, 2, none⟩ = some (.slice (some ⟨b, 0, none⟩) n c) ∧ w'.cell? ⟨N, 3, none⟩ = some (.slice u m k) ∧ w'.cell? ⟨N, 4, none⟩ = some (.int .i64 df) ∧ w'.cell? ⟨N, 5, none⟩ = some (.bool false) ∧ w'.cell? ⟨N, 11, none⟩ = some (.int .i64 (a : Int)) ∧ w'.cell? ⟨N, 12, none⟩ = some (.int .i64 (B : Int)))) (first | (with_reducible assumption) | (with_reducible exact HS0.out) | (with_reducible exact HSA.out _) | (with_reducible exact HSB.out _) | (with_reducible exact HSX.out _ _ (by with_reducible assumption)) | (with_reducible exact HSY.out _ _ _ _ _ _ (by with_reducible assumption)))
      (first | ((with_reducible refine Calls.mono (HC40.out _ (by first | exact (Kept.refl _ _).drew | exact (Kept.refl _ _).alloc _ | exact ((Kept.refl _ _).alloc _).drew)) ?_); rintro e w3 ⟨la, lc, rfl, HM3, hS3⟩; (try (have hz : CellsF w3 w1.heap.size [.int .i64 0, .int .i64 0, .int .i64 0, .slice none 0 0, .string ⟨#[]⟩] := (by first | exact HZB.out.step HM3.out.2.1 | exact HZD.out.step HM3.out.2.1); have hoz : Other w3 w1.heap.size := (by first | exact HOB.out.kept HM3.out.2.1 | exact Other.kept (w := (w1.alloc (.cells #[.int .i64 0, .int .i64 0, .int .i64 0, .slice none 0 0, .string ⟨#[]⟩] 44)).drew) HOB.out HM3.out.2.1); have z0 := hz.cs 0 _ rfl; have z1 := hz.cs 1 _ rfl; have z2 := hz.cs 2 _ rfl; have z3 := hz.cs 3 _ rfl; have z4 := hz.cs 4 _ rfl; have zf := hz.fz; have HZC : Hid (CellsF w3 w1.heap.size [.int .i64 0, .int .i64 0, .int .i64 0, .slice none 0 0, .string ⟨#[]⟩] ∧ Other w3 w1.heap.size) := ⟨hz, hoz⟩; clear hz hoz))))
    all_goals (try simp only [Exit.then])
    all_goals (try go_wp2_with fail)
    all_goals go_meet
    all_goals first
      | exact ⟨w3.heap.size, la, lc, rfl, rfl, CellsF.new w3 [.int .i64 (a : Int), .int .i64 (B : Int), .int .i64 (t : Int), .slice la rl lc, .string UB] 44 (by simp), own_kept HM3.out.1 ((Kept.refl _ _).alloc _), HM3.out.2.2.1.trans ((Kept.refl (fun _ => False) _).alloc _) (fun _ x => x.elim), HM3.out.2.2.1.size, HM3.out.2.2.2⟩
      | exact ⟨w1.heap.size, la, lc, rfl, rfl, HZC.out.1.five rfl _ _ _ _ _, own_other HM3.out.1 (.inl rfl) (set5_kept w3 w1.heap.size _ _ _ _ _) (fun i hi => by rw [hi]; exact HZC.out.2), HM3.out.2.2.1.trans (set5_kept w3 w1.heap.size _ _ _ _ _) (fun i hi => .inr (Nat.le_of_eq hi.symm)), Nat.le_refl _, HM3.out.2.2.2⟩
  obtain ⟨x, la, lc, rfl, rfl, HX⟩ := hcut
  rename_i hK0
  refine hK0 _ _ ?_
  clear hK0
  have hNc := HN.out.step (HM1.out.2.1.trans HX.out.2.2.1 (fun _ x => x.elim))
  have HNC : Hid (CellsF wc N [.pointer (some ⟨p, 0, none⟩), l0, .slice (some ⟨b, 0, none⟩) n c, .slice u m k, .int .i64 df, .bool false, m0, m1, m2, m3, m4, .int .i64 (a : Int), .int .i64 (B : Int)]) := hNc
  have kw := set6_kept wc N (.pointer (some ⟨q, 0, none⟩)) (.int .i64 (a : Int)) (.int .i64 (B : Int)) (.int .i64 (t : Int)) (.slice la rl lc) (.string UB)
  have hNw : N < w.heap.size := HN.out.lt
  have kall : Kept (fun i => i = N) w ((((((wc.setCell ⟨N, 1, none⟩ (.pointer (some ⟨q, 0, none⟩))).setCell ⟨N, 6, none⟩ (.int .i64 (a : Int))).setCell ⟨N, 7, none⟩ (.int .i64 (B : Int))).setCell ⟨N, 8, none⟩ (.int .i64 (t : Int))).setCell ⟨N, 9, none⟩ (.slice la rl lc)).setCell ⟨N, 10, none⟩ (.string UB)) := ((HM1.out.2.1.trans HX.out.2.2.1 (fun _ x => x.elim)).mono (fun _ x => x.elim)).trans kw (fun i hi => .inl hi)
  have HW9 : Hid (CellsF ((((((wc.setCell ⟨N, 1, none⟩ (.pointer (some ⟨q, 0, none⟩))).setCell ⟨N, 6, none⟩ (.int .i64 (a : Int))).setCell ⟨N, 7, none⟩ (.int .i64 (B : Int))).setCell ⟨N, 8, none⟩ (.int .i64 (t : Int))).setCell ⟨N, 9, none⟩ (.slice la rl lc)).setCell ⟨N, 10, none⟩ (.string UB)) N [.pointer (some ⟨p, 0, none⟩), .pointer (some ⟨q, 0, none⟩), .slice (some ⟨b, 0, none⟩) n c, .slice u m k, .int .i64 df, .bool false, .int .i64 (a : Int), .int .i64 (B : Int), .int .i64 (t : Int), .slice la rl lc, .string UB, .int .i64 (a : Int), .int .i64 (B : Int)] ∧ LogAt ((((((wc.setCell ⟨N, 1, none⟩ (.pointer (some ⟨q, 0, none⟩))).setCell ⟨N, 6, none⟩ (.int .i64 (a : Int))).setCell ⟨N, 7, none⟩ (.int .i64 (B : Int))).setCell ⟨N, 8, none⟩ (.int .i64 (t : Int))).setCell ⟨N, 9, none⟩ (.slice la rl lc)).setCell ⟨N, 10, none⟩ (.string UB)) F q p a B t R us v ∧ Kept (fun i => i = N) w ((((((wc.setCell ⟨N, 1, none⟩ (.pointer (some ⟨q, 0, none⟩))).setCell ⟨N, 6, none⟩ (.int .i64 (a : Int))).setCell ⟨N, 7, none⟩ (.int .i64 (B : Int))).setCell ⟨N, 8, none⟩ (.int .i64 (t : Int))).setCell ⟨N, 9, none⟩ (.slice la rl lc)).setCell ⟨N, 10, none⟩ (.string UB)) ∧ (((((((wc.setCell ⟨N, 1, none⟩ (.pointer (some ⟨q, 0, none⟩))).setCell ⟨N, 6, none⟩ (.int .i64 (a : Int))).setCell ⟨N, 7, none⟩ (.int .i64 (B : Int))).setCell ⟨N, 8, none⟩ (.int .i64 (t : Int))).setCell ⟨N, 9, none⟩ (.slice la rl lc)).setCell ⟨N, 10, none⟩ (.string UB))).ownsRow 0 9 1 (.slice la rl lc) rl (sv R) ∧ Other (((((((wc.setCell ⟨N, 1, none⟩ (.pointer (some ⟨q, 0, none⟩))).setCell ⟨N, 6, none⟩ (.int .i64 (a : Int))).setCell ⟨N, 7, none⟩ (.int .i64 (B : Int))).setCell ⟨N, 8, none⟩ (.int .i64 (t : Int))).setCell ⟨N, 9, none⟩ (.slice la rl lc)).setCell ⟨N, 10, none⟩ (.string UB))) N) := by
    have hO : Other wc N := HNO.out.1.kept (HM1.out.2.1.trans HX.out.2.2.1 (fun _ x => x.elim))
    refine ⟨(((((hNc.set 1 _ (by simp)).set 6 _ (by simp)).set 7 _ (by simp)).set 8 _ (by simp)).set 9 _ (by simp)).set 10 _ (by simp), (HM1.out.1.step HX.out.2.2.1).kept kw (fun e => by have := HM1.out.2.2.1; omega) (fun i hi e => by have := HM1.out.2.2.2 i hi; omega) (fun _ h => .inl h), kall, own_other HX.out.2.1 (.inl rfl) kw (fun i hi => by rw [hi]; exact hO), (((((hO.set 1 _).set 6 _).set 7 _).set 8 _).set 9 _).set 10 _⟩
  have HQV : Hid (w.heap.size ≤ q ∧ (∀ i, v.ownBlock = some i → w.heap.size ≤ i) ∧ (∀ i, (Value.slice la rl lc).ownBlock = some i → w.heap.size ≤ i ∧ i ≠ q ∧ v.ownBlock ≠ some i)) := ⟨HM1.out.2.2.1, HM1.out.2.2.2, fun i hi => by
    have h1 := HX.out.2.2.2.2 i hi
    have h2 := HM1.out.2.1.size
    have h3 := World.block_lt_of_cell? w1 _ HM1.out.1.c0
    refine ⟨by omega, fun e => ?_, fun e => ?_⟩
    · have h4 : q < w1.heap.size := h3
      omega
    · have := (HM1.out.1.own.lt i e).2
      omega⟩
  have hxN : ¬ x = N := fun e => by have := HX.out.2.2.2.1; have := HM1.out.2.1.size; omega
  have hNx : ¬ N = x := fun e => hxN e.symm
  have x0 := HX.out.1.cs 0 _ rfl
  have x1 := HX.out.1.cs 1 _ rfl
  have x2 := HX.out.1.cs 2 _ rfl
  have x3 := HX.out.1.cs 3 _ rfl
  have x4 := HX.out.1.cs 4 _ rfl
  have y1 := HNC.out.cs 1 _ rfl
  have y6 := HNC.out.cs 6 _ rfl
  have y7 := HNC.out.cs 7 _ rfl
  have y8 := HNC.out.cs 8 _ rfl
  have y9 := HNC.out.cs 9 _ rfl
  have y10 := HNC.out.cs 10 _ rfl
  have yf := HNC.out.fz
  obtain ⟨WF, hWF⟩ : ∃ WF, ((((((wc.setCell ⟨N, 1, none⟩ (.pointer (some ⟨q, 0, none⟩))).setCell ⟨N, 6, none⟩ (.int .i64 (a : Int))).setCell ⟨N, 7, none⟩ (.int .i64 (B : Int))).setCell ⟨N, 8, none⟩ (.int .i64 (t : Int))).setCell ⟨N, 9, none⟩ (.slice la rl lc)).setCell ⟨N, 10, none⟩ (.string UB)) = WF := ⟨_, rfl⟩
  have HWF : Hid (((((((wc.setCell ⟨N, 1, none⟩ (.pointer (some ⟨q, 0, none⟩))).setCell ⟨N, 6, none⟩ (.int .i64 (a : Int))).setCell ⟨N, 7, none⟩ (.int .i64 (B : Int))).setCell ⟨N, 8, none⟩ (.int .i64 (t : Int))).setCell ⟨N, 9, none⟩ (.slice la rl lc)).setCell ⟨N, 10, none⟩ (.string UB)) = WF) := hWF
  rw [hWF] at HW9
  clear hNc kw hNw kall HX HM1 hWF HSW HSA HSB HSX HSY HZB HZD HOB HC40 HS0 hS0 HN HBS HNO HNC
  go_wp2_with fail
  rw [HWF.out]
  refine Calls.mono (HSM.out _ q la lc v HW9.out.1 HW9.out.2.1 HW9.out.2.2.1 HW9.out.2.2.2.1) ?_; rintro e w8 ⟨rfl, k8⟩
  have HE : Hid (CellsF w8 N [.pointer (some ⟨p, 0, none⟩), .pointer (some ⟨q, 0, none⟩), .slice (some ⟨b, 0, none⟩) n c, .slice u m k, .int .i64 df, .bool false, .int .i64 (a : Int), .int .i64 (B : Int), .int .i64 (t : Int), .slice la rl lc, .string UB, .int .i64 (a : Int), .int .i64 (B : Int)] ∧ LogAt w8 F q p a B t R us v ∧ Kept (fun i => i = N) w w8 ∧ w8.ownsRow 0 9 1 (.slice la rl lc) rl (sv R) ∧ Other w8 N) := ⟨HW9.out.1.step k8, HW9.out.2.1.step k8, HW9.out.2.2.1.trans (k8.mono (fun _ x => x.elim)) (fun i hi => .inl hi), own_kept HW9.out.2.2.2.1 k8, HW9.out.2.2.2.2.kept k8⟩
  clear k8 HW9 HSM HWF x0 x1 x2 x3 x4 y1 y6 y7 y8 y9 y10 yf hxN hNx
  go_wp2_with fail
  go_ret
  exact ⟨rfl, q, la, lc, v, HE.out.1, HE.out.2.1, HE.out.2.2.1, HE.out.2.2.2.1, HQV.out.1, HQV.out.2.1, HQV.out.2.2, HE.out.2.2.2.2⟩
end Go.Proofs.Ythfhjfemcmdmfaa
