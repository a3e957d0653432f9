/- wal: Open. -/
import Derived.Test.YthfhjfemcmdmfaaEach
namespace Go.Proofs.Ythfhjfemcmdmfaa
open Go.ChangeShapes Go.WideShapes Go.ChangeAt Go.RowKit
set_option linter.unusedVariables false
set_option maxRecDepth 100000

/-- Where a log may be. -/
def mayOpen (n : Nat) (a b t : Int) : Prop := 0 ≤ a ∧ a < b ∧ b ≤ (n : Int) ∧ 1 ≤ t ∧ t ≤ 2147483647

theorem open_no (v : Value) (hv : v = .pointer none ∨ ∃ p, v = .pointer (some ⟨p, 0, none⟩)) (n : Nat) (a b t : Int) (h : ¬ mayOpen n a b t) (w : World) (hs : Szd w v n) :
    Calls Try.prog 16 #[v, .int .i64 a, .int .i64 b, .int .i64 t] w fun e w' => e = .returned (.tuple #[.pointer none, .int .i64 1]) ∧ Kept (fun _ => False) w w' := by
  have hs1 : Szd (w.alloc (.cells #[v] 32)) v n := by
    rcases hs with h | ⟨p, x, c, e, h⟩
    · exact .inl h
    · exact .inr ⟨p, x, c, e, (World.cell?_alloc_lt _ _ _ (World.block_lt_of_cell? w _ h)).trans h⟩
  have HZ := (show Hid _ from size_is v n _ hs1)
  have HT := (show Hid _ from mayTurn_is t)
  clear hs hs1
  obtain ⟨o, rfl⟩ : ∃ o, v = .pointer o := by rcases hv with e | ⟨p, e⟩; exact ⟨_, e⟩; exact ⟨_, e⟩
  clear hv
  by_cases h1 : a < 0
  · go_enter Try.func16, Try.ntmps16
    go_wp2_with fail
    go_ret2
    exact ⟨rfl, (Kept.refl _ w).alloc _⟩
  · by_cases h2 : b ≤ a
    · go_enter Try.func16, Try.ntmps16
      go_wp2_with fail
      go_ret2
      exact ⟨rfl, (Kept.refl _ w).alloc _⟩
    · by_cases h3 : (n : Int) < b
      · go_enter Try.func16, Try.ntmps16
        go_wp2_with fail
        refine Calls.mono HZ.out ?_; rintro e w1 ⟨rfl, rfl⟩
        go_wp2_with fail
        go_ret2
        exact ⟨rfl, (Kept.refl _ w).alloc _⟩
      · have h4 : ¬ (1 ≤ t ∧ t ≤ 2147483647) := fun q => h ⟨by omega, by omega, by omega, q.1, q.2⟩
        rw [decide_eq_false h4] at HT
        clear h h4
        go_enter Try.func16, Try.ntmps16
        go_wp2_with fail
        refine Calls.mono HZ.out ?_; rintro e w1 ⟨rfl, rfl⟩
        go_wp2_with fail
        refine Calls.mono (HT.out _) ?_; rintro e w1 ⟨rfl, rfl⟩
        go_wp2_with fail
        go_ret2
        exact ⟨rfl, (Kept.refl _ w).alloc _⟩

/-- A log in memory. -/
structure LogAt (w : World) (F : Nat → Prop) (q p : Nat) (a b t : Nat) (R : List ByteArray) (used : Nat) (v : Value) : Prop where
  c0 : w.cell? ⟨q, 0, none⟩ = some (.pointer (some ⟨p, 0, none⟩))
  c1 : w.cell? ⟨q, 1, none⟩ = some (.int .i64 (a : Int))
  c2 : w.cell? ⟨q, 2, none⟩ = some (.int .i64 (b : Int))
  c3 : w.cell? ⟨q, 3, none⟩ = some (.int .i64 (t : Int))
  c4 : w.cell? ⟨q, 4, none⟩ = some v
  c5 : w.cell? ⟨q, 5, none⟩ = some (.int .i64 (used : Int))
  fz : ∀ j, w.frozen? ⟨q, j, none⟩ = false
  own : w.ownsRow 0 9 1 v R.length (sv R)
  fq : ¬ F q
  fv : ∀ k, v.ownBlock = some k → ¬ F k ∧ k ≠ q

theorem own_form {w : World} {base e size : Nat} {v : Value} {n : Nat} {xs : List Value} (h : w.ownsRow base e size v n xs) : ∃ o c, v = .slice o n c := by
  rcases h.2 with ⟨rfl, rfl⟩ | ⟨g, cap, cur, rfl, _⟩
  · exact ⟨_, _, rfl⟩
  · exact ⟨_, _, rfl⟩
theorem own_weak {w : World} {base base' e size : Nat} {v : Value} {n : Nat} {xs : List Value} (h : w.ownsRow base e size v n xs) (hb : base' ≤ base) : w.ownsRow base' e size v n xs := by
  refine ⟨h.1, ?_⟩
  rcases h.2 with hn | ⟨g, cap, cur, hv, h1, h2⟩
  · exact .inl hn
  · exact .inr ⟨g, cap, cur, hv, Nat.le_trans hb h1, h2⟩

theorem open_on {w : World} {F : Nat → Prop} {p : Nat} {d : Dk} (hd : Disk w F p d) (hoff : d.off = false) (a b t : Nat) (hab : a < b) (hb : b ≤ d.n) (ht : 1 ≤ t ∧ t ≤ 2147483647) :
    Calls Try.prog 16 #[.pointer (some ⟨p, 0, none⟩), .int .i64 (a : Int), .int .i64 (b : Int), .int .i64 (t : Int)] w fun e w' =>
      ∃ q v, e = .returned (.tuple #[.pointer (some ⟨q, 0, none⟩), .int .i64 0]) ∧ LogAt w' F q p a b t (scanS t ⟨(cat d a (b - a)).toArray⟩).1 (scanS t ⟨(cat d a (b - a)).toArray⟩).2 v ∧ Kept (fun _ => False) w w' ∧ w.heap.size ≤ q ∧ ∀ k, v.ownBlock = some k → w.heap.size ≤ k := by
  have hn := hd.sized.2
  have hbnd := hd.bound
  obtain ⟨W, hW⟩ : ∃ W, W = (w.alloc (.cells #[.pointer (some ⟨p, 0, none⟩)] 32)).alloc (.cells #[.pointer none, .slice none 0 0] 83) := ⟨_, rfl⟩
  have kW : Kept (fun _ => False) w W := by rw [hW]; exact ((Kept.refl _ w).alloc _).alloc _
  have hdW : Disk W F p d := hd.kept kW (fun _ _ q => q)
  have cW : W.cell? ⟨w.heap.size, 0, none⟩ = some (.pointer (some ⟨p, 0, none⟩)) := by rw [hW]; simp [go_sem]
  have bW : Lib.IsBuilder 83 5 (w.heap.size + 1) (w.heap.size + 1) (Lib.byteCells (cat d a 0)) W := by
    have := Lib.fresh_isBuilder 83 5 (w.alloc (.cells #[.pointer (some ⟨p, 0, none⟩)] 32))
    rw [show (w.alloc (.cells #[.pointer (some ⟨p, 0, none⟩)] 32)).heap.size = w.heap.size + 1 by simp] at this
    rw [hW]
    exact this
  have HS : Hid (Calls Try.prog 35 #[.pointer (some ⟨p, 0, none⟩)] (w.alloc (.cells #[.pointer (some ⟨p, 0, none⟩)] 32)) fun e w' => e = .returned (.int .i64 (d.n : Int)) ∧ w' = w.alloc (.cells #[.pointer (some ⟨p, 0, none⟩)] 32)) := disk_size (hd.kept ((Kept.refl (fun _ => False) w).alloc _) (fun _ _ q => q))
  have HT := (show Hid _ from mayTurn_is (t : Int))
  rw [decide_eq_true (by omega)] at HT
  have HEach : Hid (Calls Try.prog 36 #[.int .i64 (a : Int), .int .i64 (b : Int), .func (.func 37) #[] #[.pointer (some ⟨w.heap.size, 0, none⟩), .pointer (some ⟨w.heap.size + 1, 0, none⟩)]] W fun e w' => ∃ c : Nat, e = .returned (.int .i64 (c : Int)) ∧ (c = 0 → (fun i w' => Lib.IsBuilder 83 5 (w.heap.size + 1) (w.heap.size + 1) (Lib.byteCells (cat d a (i - a))) w' ∧ Below (w.heap.size + 1) W w') b w') ∧ (c ≠ 0 → (fun _ _ => False) c w')) := by
    refine each_open a b (by omega) (by omega) _ _ (fun i w' => Lib.IsBuilder 83 5 (w.heap.size + 1) (w.heap.size + 1) (Lib.byteCells (cat d a (i - a))) w' ∧ Below (w.heap.size + 1) W w') (fun _ _ => False) W ⟨by rw [Nat.sub_self]; exact bW, Below.refl _ _⟩ ?_
    intro i wr hi1 hi2 hinv
    have kr : Kept (fun k => w.heap.size + 1 ≤ k) W wr := ⟨hinv.2.os, hinv.2.tape, hinv.2.output, hinv.2.size, fun k hk hn => hinv.2.block k (Nat.not_le.1 hn)⟩
    have hdr : Disk wr F p d := hdW.kept kr (fun k hk q => by have := hbnd k hk; omega)
    have := tell_read hdr w.heap.size ((hinv.2.cell (p := ⟨w.heap.size, 0, none⟩) (Nat.lt_succ_self _)).trans cW) (fun k hk => by have := hbnd k hk; omega) hoff a (i - a) (by omega) hinv.1
    rw [show a + (i - a) = i by omega] at this
    refine this.mono ?_
    rintro e w' ⟨rfl, h1, h2⟩
    exact ⟨0, by omega, rfl, fun _ => ⟨by rw [show i + 1 - a = i - a + 1 by omega]; exact h1, hinv.2.trans h2⟩, fun h => absurd rfl h⟩
  have HW : Hid (W = (w.alloc (.cells #[.pointer (some ⟨p, 0, none⟩)] 32)).alloc (.cells #[.pointer none, .slice none 0 0] 83)) := hW
  have HK : Hid (Kept (fun _ => False) w W ∧ W.cell? ⟨w.heap.size, 0, none⟩ = some (.pointer (some ⟨p, 0, none⟩)) ∧ ∀ k, F k → k < w.heap.size) := ⟨kW, cW, hbnd⟩
  have hcl := cat_len hd a (b - a) (by omega)
  obtain ⟨l, hl⟩ : ∃ l, cat d a (b - a) = l := ⟨_, rfl⟩
  rw [hl] at hcl ⊢
  have HL := (show Hid _ from hl)
  clear hl
  have hls : (⟨l.toArray⟩ : ByteArray).size ≤ 131072 := by
    show l.length ≤ 131072
    omega
  have HSC := (show Hid _ from scan_is (t : Int) ⟨l.toArray⟩ hls)
  have g1 : ¬ (a : Int) < 0 := by omega
  have g2 : ¬ (b : Int) ≤ (a : Int) := by omega
  have g3 : ¬ (d.n : Int) < (b : Int) := by omega
  clear hW kW cW bW hdW hbnd hd hcl hls
  go_enter Try.func16, Try.ntmps16
  go_wp2_with fail
  refine Calls.mono HS.out ?_; rintro e w1 ⟨rfl, rfl⟩
  go_wp2_with fail
  refine Calls.mono (HT.out _) ?_; rintro e w1 ⟨rfl, rfl⟩
  go_wp2_with fail
  rw [← HW.out]
  refine Calls.mono HEach.out ?_; rintro e w2 ⟨c, rfl, h1, h2⟩
  have hc0 : c = 0 := by
    by_cases hc : c = 0
    · exact hc
    · exact (h2 hc).elim
  subst hc0
  obtain ⟨hbu0, hbe⟩ := h1 rfl
  have hbu : Lib.IsBuilder 83 5 (w.heap.size + 1) (w.heap.size + 1) (Lib.byteCells l) w2 := by rw [← HL.out]; exact hbu0
  have hsz2 : w.heap.size + 1 ≤ w2.heap.size := Nat.le_trans (by rw [HW.out]; simp) hbe.size
  have HST := (show Hid _ from Try.Builder_String_any (w.heap.size + 1) (w.heap.size + 1) l w2 hbu hsz2)
  have HBE := (show Hid _ from hbe)
  clear h1 h2 hbu hbu0 hbe HEach hsz2
  go_wp2_with fail
  refine Calls.mono HST.out ?_; rintro e w3 ⟨rfl, k3⟩
  replace HBE : Hid (Below (w.heap.size + 1) W w3) := HBE.out.trans k3
  clear k3 HST
  go_wp2_with fail
  refine Calls.mono (HSC.out _) ?_; rintro e w4 ⟨v, rfl, o4, k4⟩
  obtain ⟨vo, vc, rfl⟩ := own_form o4
  have x0 : w4.cell? ⟨w.heap.size, 0, none⟩ = some (.pointer (some ⟨p, 0, none⟩)) := k4.cell ((HBE.out.cell (p := ⟨w.heap.size, 0, none⟩) (Nat.lt_succ_self _)).trans HK.out.2.1) (fun q => q)
  have HKK : Hid (Kept (fun _ => False) w w4) := by
    have e1 : Kept (fun k => w.heap.size + 1 ≤ k) W w3 := ⟨HBE.out.os, HBE.out.tape, HBE.out.output, HBE.out.size, fun k hk hn => HBE.out.block k (Nat.not_le.1 hn)⟩
    exact (HK.out.1.trans e1 (fun i hi => .inr (by omega))).trans k4 (fun _ q => .inl q)
  have hsz3 : w.heap.size + 1 < w3.heap.size := Nat.lt_of_lt_of_le (by rw [HW.out]; simp) HBE.out.size
  have HO4 : Hid (w4.ownsRow w3.heap.size 9 1 (.slice vo (scanS (t : Int) ⟨l.toArray⟩).1.length vc) (scanS (t : Int) ⟨l.toArray⟩).1.length (sv (scanS (t : Int) ⟨l.toArray⟩).1) ∧ w3.heap.size ≤ w4.heap.size ∧ w.heap.size + 1 < w3.heap.size) := ⟨o4, k4.size, hsz3⟩
  obtain ⟨sc, hsc⟩ : ∃ sc, scanS (t : Int) ⟨l.toArray⟩ = sc := ⟨_, rfl⟩
  rw [hsc] at HO4 ⊢
  have HSE := (show Hid _ from hsc)
  clear o4 k4 HSC HBE hsz3 HW hsc
  go_wp2_with fail
  go_ret2
  rw [HSE.out]
  have kA := HKK.out.alloc (.cells #[.pointer (some ⟨p, 0, none⟩), .int .i64 (a : Int), .int .i64 (b : Int), .int .i64 (t : Int), .slice vo sc.1.length vc, .int .i64 (sc.2 : Int)] 71)
  obtain ⟨o4, z1, z2⟩ := HO4.out
  refine ⟨w4.heap.size, .slice vo sc.1.length vc, rfl, ⟨by simp, by simp, by simp, by simp, by simp, by simp, fun j => by simp [go_sem], own_weak (o4.alloc _) (Nat.zero_le _), fun q => ?_, fun k hk => ?_⟩, kA, HKK.out.size, fun k hk => by have := (o4.lt k hk).1; omega⟩
  · have := HK.out.2.2 _ q
    have := HKK.out.size
    omega
  · have h5 := o4.lt k hk
    exact ⟨fun q => by have := HK.out.2.2 k q; omega, by omega⟩
end Go.Proofs.Ythfhjfemcmdmfaa
