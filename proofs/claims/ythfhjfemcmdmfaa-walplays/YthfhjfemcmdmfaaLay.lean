/- wal: lay. -/
import Derived.Test.YthfhjfemcmdmfaaMe
namespace Go.Proofs.Ythfhjfemcmdmfaa
open Go.ChangeShapes Go.WideShapes Go.ChangeAt Go.RowKit
set_option linter.unusedVariables false
set_option maxRecDepth 100000

/-- The k-th sector of bytes. -/
def chunk (L : List UInt8) (k : Nat) : List UInt8 := (L.drop (32 * k)).take 32
/-- A disk behind so many writes of bytes, from a sector on. -/
def puts (d : Dk) (first : Nat) (L : List UInt8) : Nat → Dk
  | 0 => d
  | k + 1 => (puts d first L k).write (first + k) (chunk L k)
theorem write_n (d : Dk) (a : Nat) (t : List UInt8) : (d.write a t).n = d.n := by unfold Dk.write; split <;> rfl
theorem write_q (d : Dk) (a : Nat) (t : List UInt8) : (d.write a t).Q.length ≤ d.Q.length + 1 := by unfold Dk.write; split; simp; exact Nat.le_succ _
theorem puts_n (d : Dk) (first : Nat) (L : List UInt8) (k : Nat) : (puts d first L k).n = d.n := by
  induction k with
  | zero => rfl
  | succ k ih => rw [puts, write_n, ih]
theorem puts_q (d : Dk) (first : Nat) (L : List UInt8) (k : Nat) : (puts d first L k).Q.length ≤ d.Q.length + k := by
  induction k with
  | zero => exact Nat.le_refl _
  | succ k ih => rw [puts]; have := write_q (puts d first L k) (first + k) (chunk L k); omega

/-- What the writes of a group leave. -/
def Laid (w : World) (F : Nat → Prop) (p : Nat) (d : Dk) (first : Nat) (L : List UInt8) (m : Nat) (c : Nat) (w' : World) : Prop :=
  ∃ F', Kept F w w' ∧ Grew F F' w ∧ (c = 0 → (∀ j, j < m → (puts d first L j).on = true) ∧ Disk w' F' p (puts d first L m)) ∧
    (c ≠ 0 → c = 30 ∧ ∃ k, k < m ∧ (∀ j, j < k → (puts d first L j).on = true) ∧ (puts d first L k).on = false ∧ Disk w' F' p (puts d first L (k + 1)))

theorem ext_list (x : ByteArray) (i j : Nat) : (x.extract i j).data.toList = (x.data.toList.drop i).take (j - i) := by
  rw [ByteArray.data_extract, Array.toList_extract, List.extract_eq_take_drop]

theorem each_writes {w W : World} {F : Nat → Prop} {p : Nat} {d : Dk} (hd : Disk W F p d) (N L q : Nat) (hN : W.cell? ⟨N, 0, none⟩ = some (.pointer (some ⟨q, 0, none⟩))) (hq : W.cell? ⟨q, 0, none⟩ = some (.pointer (some ⟨p, 0, none⟩))) (x : ByteArray) (hL : W.cell? ⟨L, 0, none⟩ = some (.string x)) (hLf : W.frozen? ⟨L, 0, none⟩ = false)
    (kW : Kept (fun _ => False) w W) (hFw : ∀ k, F k → k < w.heap.size) (hLw : w.heap.size ≤ L) (hNw : w.heap.size ≤ N) (hqw : q < w.heap.size) (hqF : ¬ F q) (hLN : L ≠ N)
    (first m : Nat) (hx : x.size = 32 * m) (hm : first + m ≤ d.n) (hQ : d.Q.length ≤ 1000000) :
    Calls Try.prog 36 #[.int .i64 (first : Int), .int .i64 ((first + m : Nat) : Int), .func (.func 66) #[] #[.pointer (some ⟨L, 0, none⟩), .pointer (some ⟨N, 0, none⟩)]] W fun e w' => ∃ c : Nat, e = .returned (.int .i64 (c : Int)) ∧ Laid w F p d first x.data.toList m c w' := by
  have hn := hd.sized.2
  refine (each_lay first (first + m) (by omega) (by omega) _ _
    (fun i w' => ∃ F' y, (∀ j, j < i - first → (puts d first x.data.toList j).on = true) ∧ Disk w' F' p (puts d first x.data.toList (i - first)) ∧ w'.cell? ⟨L, 0, none⟩ = some (.string y) ∧ y.data.toList = x.data.toList.drop (32 * (i - first)) ∧ w'.frozen? ⟨L, 0, none⟩ = false ∧ w'.cell? ⟨N, 0, none⟩ = some (.pointer (some ⟨q, 0, none⟩)) ∧ w'.cell? ⟨q, 0, none⟩ = some (.pointer (some ⟨p, 0, none⟩)) ∧ Kept F w w' ∧ Grew F F' w ∧ ¬ F' L ∧ ¬ F' N ∧ ¬ F' q)
    (fun c w' => Laid w F p d first x.data.toList m c w') W ?_ ?_).mono ?_
  · rw [Nat.sub_self]
    exact ⟨F, x, fun j hj => absurd hj (Nat.not_lt_zero j), hd, hL, by simp, hLf, hN, hq, kW.mono (fun _ z => z.elim), fun _ z => .inl z, fun z => by have := hFw L z; omega, fun z => by have := hFw N z; omega, hqF⟩
  · rintro i wr hi1 hi2 ⟨F', y, h1, h2, h3, h4, h5, h6, h7, h8, h9, h10, h11, h12⟩
    have hys : y.size = 32 * m - 32 * (i - first) := by
      rw [show y.size = y.data.toList.length by simp, h4, List.length_drop, show x.data.toList.length = x.size by simp, hx]
    have hpn := puts_n d first x.data.toList (i - first)
    have hpq := puts_q d first x.data.toList (i - first)
    refine (tell_write h2 N L q h6 h7 y h3 h5 h10 hLN (by omega) (by omega) (by omega) i (by omega) (by omega)).mono ?_
    rintro e w' ⟨rfl, F2, e1, e2, e3, e4, e5⟩
    have hch : (y.extract 0 32).data.toList = chunk x.data.toList (i - first) := by
      rw [ext_list, h4]
      simp [chunk]
    rw [hch] at e1
    have hp1 : puts d first x.data.toList (i - first + 1) = (puts d first x.data.toList (i - first)).write i (chunk x.data.toList (i - first)) := by
      rw [puts, show first + (i - first) = i by omega]
    rw [← hp1] at e1
    have hkk : Kept F w w' := h8.trans e4 (fun k hk => by
      rcases hk with hk | rfl
      · exact h9 k hk
      · exact .inr hLw)
    have hgg : Grew F F2 w := fun k hk => by
      rcases e5 k hk with hk | hk
      · exact h9 k hk
      · exact .inr (Nat.le_trans h8.size hk)
    cases hon : (puts d first x.data.toList (i - first)).on with
    | true =>
      refine ⟨0, by omega, rfl, fun _ => ?_, fun z => absurd rfl z⟩
      rw [show i + 1 - first = i - first + 1 by omega]
      have hz : ∀ z, z < wr.heap.size → ¬ F' z → ¬ F2 z := fun z hz hf q => (e5 z q).elim hf (fun q => by omega)
      refine ⟨F2, y.extract 32 y.size, fun j hj => ?_, e1, e2, ?_, e3, e4.cell h6 (fun z => z.elim h11 (fun z => hLN z.symm)), e4.cell h7 (fun z => z.elim h12 (fun z => by simp at z; omega)), hkk, hgg, hz L (World.block_lt_of_cell? wr _ h3) h10, hz N (World.block_lt_of_cell? wr _ h6) h11, hz q (World.block_lt_of_cell? wr _ h7) h12⟩
      · by_cases hj2 : j < i - first
        · exact h1 j hj2
        · rw [show j = i - first by omega]; exact hon
      · rw [ext_list, h4, List.drop_drop, show 32 * (i - first) + 32 = 32 * (i - first + 1) by omega, List.take_of_length_le]
        rw [List.length_drop, show x.data.toList.length = x.size by simp, hx, hys]
        omega
    | false =>
      refine ⟨30, by omega, rfl, fun z => absurd z (by omega), fun _ => ?_⟩
      exact ⟨F2, hkk, hgg, fun z => absurd z (by omega), fun _ => ⟨rfl, i - first, by omega, h1, hon, e1⟩⟩
  · rintro e w' ⟨c, rfl, h1, h2⟩
    refine ⟨c, rfl, ?_⟩
    by_cases hc : c = 0
    · obtain ⟨F', y, g1, g2, _, _, _, _, _, g8, g9, _⟩ := h1 hc
      rw [show first + m - first = m by omega] at g1 g2
      exact ⟨F', g8, g9, fun _ => ⟨g1, g2⟩, fun z => absurd hc z⟩
    · exact h2 hc

/-- The bytes of the sectors that a text behind the others is written in. -/
def leftS (d : Dk) (a used : Nat) (x : ByteArray) : ByteArray := partA d a used ++ x ++ partB d a (used + x.size)
/-- How many sectors these are. -/
def manyS (used n : Nat) : Nat := (used + n - 1) / 32 + 1 - used / 32
theorem leftS_size {w : World} {F : Nat → Prop} {p : Nat} {d : Dk} (hd : Disk w F p d) (a b used : Nat) (x : ByteArray) (hx : 0 < x.size) (hr : used + x.size ≤ 32 * (b - a)) (hb : b ≤ d.n) (hab : a < b) : (leftS d a used x).size = 32 * manyS used x.size := by
  unfold leftS manyS
  have h1 := partA_size hd a used (fun _ => by omega)
  have h2 := partB_size hd a (used + x.size) (fun _ => by omega)
  simp only [ByteArray.size_append, h1, h2]
  omega

theorem wrap_small (n : Nat) (h : n ≤ 4000000) : IntKind.i64.wrap (n : Int) = (n : Int) := by
  rw [IntKind.wrap_i64]
  omega
theorem wrap_first (a used : Nat) (ha : a ≤ 5000) (hu : used ≤ 1000000) : IntKind.i64.wrap ((a : Int) + IntKind.i64.wrap ((used : Int) / 32)) = ((a + used / 32 : Nat) : Int) := by
  have e : (used : Int) / 32 = ((used / 32 : Nat) : Int) := rfl
  rw [e, wrap_small _ (by omega)]
  exact wrap_small (a + used / 32) (by omega)
theorem wrap_last (a u n : Nat) (ha : a ≤ 5000) (hu : u ≤ 1000000) (hn : n ≤ 1000000) (h0 : 0 < n) : IntKind.i64.wrap ((a : Int) + IntKind.i64.wrap ((IntKind.i64.wrap ((u : Int) + (n : Int) - 1)).tdiv 32)) = ((a + (u + n - 1) / 32 : Nat) : Int) := by
  have e : (u : Int) + (n : Int) - 1 = ((u + n - 1 : Nat) : Int) := by omega
  have e2 : ((u + n - 1 : Nat) : Int).tdiv 32 = (((u + n - 1) / 32 : Nat) : Int) := (Int.ofNat_tdiv (u + n - 1) 32).symm
  rw [e, wrap_small _ (by omega), e2, wrap_small _ (by omega)]
  exact wrap_small (a + (u + n - 1) / 32) (by omega)

set_option maxHeartbeats 1000000 in
theorem lay_is {w : World} {F : Nat → Prop} {q p a b t used : Nat} {R : List ByteArray} {v : Value} {d : Dk} (h : LogAt w F q p a b t R used v) (hd : Disk w F p d) (hoff : d.off = false) (x : ByteArray) (hx : 0 < x.size) (hr : used + x.size ≤ 32 * (b - a)) (hb : b ≤ d.n) (hab : a < b) (hQ : d.Q.length ≤ 1000000) :
    Calls Try.prog 50 #[.pointer (some ⟨q, 0, none⟩), .string x] w fun e w' => ∃ c : Nat, e = .returned (.int .i64 (c : Int)) ∧ Laid w F p d (a + used / 32) (leftS d a used x).data.toList (manyS used x.size) c w' := by
  have hn := hd.sized.2
  have hbnd := hd.bound
  have hqw : q < w.heap.size := World.block_lt_of_cell? w _ h.c0
  have k1 : Kept (fun _ => False) w (w.alloc (.cells #[.pointer (some ⟨q, 0, none⟩)] 42)) := (Kept.refl _ w).alloc _
  have h1 := h.step k1
  have hd1 := hd.kept k1 (fun _ _ z => z)
  have n1 : (w.alloc (.cells #[.pointer (some ⟨q, 0, none⟩)] 42)).cell? ⟨w.heap.size, 0, none⟩ = some (.pointer (some ⟨q, 0, none⟩)) := by simp
  obtain ⟨W, hW⟩ : ∃ W, W = w.alloc (.cells #[.pointer (some ⟨q, 0, none⟩)] 42) := ⟨_, rfl⟩
  rw [← hW] at k1 h1 hd1 n1
  have HP1 := (show Hid _ from parted_is h1 hd1 hoff used (by omega) (fun _ => by omega))
  have HP2 := (show Hid _ from parted_is h1 hd1 hoff (used + x.size) (by omega) (fun _ => by omega))
  have sA := partA_size hd1 a used (fun _ => by omega)
  have sB := partB_size hd1 a (used + x.size) (fun _ => by omega)
  have sL := leftS_size hd1 a b used x hx hr hb hab
  have HLE : Hid (leftS d a used x = partA d a used ++ x ++ partB d a (used + x.size)) := rfl
  have HEA : Hid (∀ m W3, W3 = (W.drewN m).alloc (.cells #[.string (leftS d a used x)] 9) → Calls Try.prog 36 #[.int .i64 ((a + used / 32 : Nat) : Int), .int .i64 ((a + used / 32 + manyS used x.size : Nat) : Int), .func (.func 66) #[] #[.pointer (some ⟨w.heap.size + 1, 0, none⟩), .pointer (some ⟨w.heap.size, 0, none⟩)]] W3.drew fun e w' => ∃ c : Nat, e = .returned (.int .i64 (c : Int)) ∧ Laid w F p d (a + used / 32) (leftS d a used x).data.toList (manyS used x.size) c w') := by
    intro m W3 hW3
    have k3 : Kept (fun _ => False) W W3.drew := by rw [hW3]; exact ((kept_drewN W m).alloc _).drew
    have sW : W.heap.size = w.heap.size + 1 := by rw [hW]; simp
    have kk := k1.trans k3 (fun _ z => .inl z)
    refine each_writes (w := w) (hd1.kept k3 (fun _ _ z => z)) w.heap.size (w.heap.size + 1) q (k3.cell n1 (fun z => z)) (k3.cell h1.c0 (fun z => z)) (leftS d a used x) ?_ ?_ kk hbnd (by omega) (by omega) hqw h.fq (by omega) _ _ sL (by unfold manyS; omega) hQ
    · rw [hW3, ← sW]
      exact (World.cell?_alloc_new (W.drewN m) _ _ _).trans rfl
    · rw [hW3, ← sW]
      exact Lib.frozen_of_heap (heap_alloc_new (W.drewN m) _) 0
  have HW := (show Hid _ from hW)
  have c1 := h1.c1
  have c5 := h1.c5
  have hsW0 : W.heap.size = w.heap.size + 1 := by rw [hW]; simp
  have hsW := (show Hid _ from hsW0)
  have e12 := wrap_first a used (by omega) (by omega)
  have e13 := wrap_last a used x.size (by omega) (by omega) (by omega) hx
  have HE12 := (show Hid _ from e12)
  have HE13 := (show Hid _ from e13)
  have hbb : a + (used + x.size - 1) / 32 ≤ 5000 := by omega
  have hmm : a + used / 32 + manyS used x.size = a + (used + x.size - 1) / 32 + 1 := by unfold manyS; omega
  have HMM := (show Hid _ from hmm)
  clear e12 e13 hmm
  have hxs : (x.size : Int) ≤ 1000000 := by omega
  have hub : (used : Int) ≤ 1000000 := by omega
  have c1' := c1
  have c5' := c5
  rw [hW] at c1' c5'
  have HC1 := (show Hid _ from c1)
  have HC5 := (show Hid _ from c5)
  have HN1 := (show Hid _ from n1)
  clear hW hsW0 h hd h1 hd1 k1 n1 hbnd hqw c1 c5
  go_enter Try.func50, Try.ntmps50
  go_wp2_with fail
  rw [← HW.out]
  clear c1' c5'
  have c1 := HC1.out
  have c5 := HC5.out
  have n1 := HN1.out
  generalize partA d a used = A at *
  generalize partB d a used = B0 at *
  generalize partA d a (used + x.size) = A0 at *
  generalize partB d a (used + x.size) = B at *
  obtain ⟨lf, hlf⟩ : ∃ z, leftS d a used x = z := ⟨_, rfl⟩
  rw [hlf] at HLE HEA sL
  have HLF := (show Hid _ from hlf)
  clear hlf
  go_quiet (first | with_reducible exact HP1.out _)
  have c1q : (W.drewN nq).cell? ⟨q, 1, none⟩ = some (.int .i64 (a : Int)) := c1
  have n1q : (W.drewN nq).cell? ⟨w.heap.size, 0, none⟩ = some (.pointer (some ⟨q, 0, none⟩)) := n1
  have HX2 := (show Hid _ from HP2.out nq)
  generalize W.drewN nq = Wq at *
  clear c1 c5 n1 HP1 HP2
  have hA32 : A.size ≤ 32 := by omega
  have hB32 : B.size ≤ 32 := by omega
  go_wp2_with fail
  refine Calls.mono HX2.out ?_; rintro e w3 ⟨rfl, m, rfl⟩
  clear c1q n1q HX2
  have c1 : (W.drewN m).cell? ⟨q, 1, none⟩ = some (.int .i64 (a : Int)) := HC1.out
  have c5 : (W.drewN m).cell? ⟨q, 5, none⟩ = some (.int .i64 (used : Int)) := HC5.out
  have n1 : (W.drewN m).cell? ⟨w.heap.size, 0, none⟩ = some (.pointer (some ⟨q, 0, none⟩)) := HN1.out
  have hsz : (W.drewN m).heap.size = w.heap.size + 1 := hsW.out
  have HE3 := (show Hid _ from HEA.out m)
  have k3 : Kept (fun _ => False) (W.drewN m) ((W.drewN m).alloc (.cells #[.string lf] 9)).drew := ((Kept.refl _ _).alloc _).drew
  have d1 := k3.cell c1 (fun z => z)
  have d5 := k3.cell c5 (fun z => z)
  have dn := k3.cell n1 (fun z => z)
  clear k3 HEA
  generalize W.drewN m = Wm at *
  go_wp2_with fail
  rw [← HLE.out]
  have e12 := HE12.out
  have e13 := HE13.out
  have HE4 := (show Hid _ from HE3.out _ rfl)
  rw [HMM.out] at HE4
  clear HE3
  refine wp_region_still_lit (by kernel_rfl) (by kernel_rfl) ?_
  rw [show ({ (Wm.alloc (.cells #[.string lf] 9)) with drawn := (Wm.alloc (.cells #[.string lf] 9)).drawn + 1 } : World) = (Wm.alloc (.cells #[.string lf] 9)).drew from rfl]
  iterate 20 still_step
  refine wpStill_nil ?_
  generalize (Wm.alloc (.cells #[.string lf] 9)).drew = Wd at *
  go_wp2_with fail
  refine Calls.mono HE4.out ?_; rintro e w5 ⟨c, rfl, h5⟩
  have H5 := (show Hid _ from h5)
  clear h5 HE4
  go_wp2_with fail
  go_ret
  rw [HLF.out]
  exact ⟨c, rfl, H5.out⟩
end Go.Proofs.Ythfhjfemcmdmfaa
