/- The document's Open. -/
import Derived.Test.YthfhjfemcmdmfaaOwnT
import Derived.Test.YthfhjfemcmdmfaaScP
import Derived.Deep.DeepCutAuto
import Derived.StillTailTactics
namespace Go.Proofs.Ythfhjfemcmdmfaa
open Go.ChangeShapes Go.WideShapes Go.ChangeAt Go.RowKit
set_option linter.unusedVariables false
set_option maxRecDepth 100000

/-- The document's value of a disk. -/
abbrev Dk.val (d : Dk) (b c : Nat) (u : Option Addr) (k : Nat) : Value := .agg #[.slice (some ⟨b, 0, none⟩) d.n c, .slice u d.Q.length k, .int .i64 d.fuse, .bool d.off]
structure Rd (w : World) (b c : Nat) (u : Option Addr) (k : Nat) (d : Dk) : Prop where
  sure : w.ownsRow 0 9 1 (.slice (some ⟨b, 0, none⟩) d.n c) d.n (sv (secs d.n d.S))
  wait : w.ownsRow 0 116 2 (.slice u d.Q.length k) d.Q.length (d.Q.flatMap wv)
theorem Rd.step {w w' : World} {b c : Nat} {u : Option Addr} {k : Nat} {d : Dk} (h : Rd w b c u k d) (q : Kept (fun _ => False) w w') : Rd w' b c u k d := ⟨own_kept h.sure q, own_kept h.wait q⟩
theorem ref_readD {w : World} {b c : Nat} {u : Option Addr} {k : Nat} {d : Dk} (h : Rd w b c u k d) (hQ : d.Q.length ≤ 1048576) (hoff : d.off = false) (x : Nat) (hx : x < d.n) :
    Calls Try.prog 60 #[.agg #[.slice (some ⟨b, 0, none⟩) d.n c, .slice u d.Q.length k, .int .i64 d.fuse, .bool false], .int .i64 (x : Int)] w fun e w' => e = .returned (.tuple #[.string ⟨(d.last x).toArray⟩, .int .i64 0]) ∧ Kept (fun _ => False) w w' :=
  ref_read_on b u d.n c k d.fuse d.S d.Q h.wait hQ x hx (sec_at h.sure x hx)
theorem catL {d : Dk} (n : Nat) (hl : ∀ i, i < n → (d.last i).length = 32) (a : Nat) : ∀ k, a + k ≤ n → (cat d a k).length = 32 * k
  | 0, _ => rfl
  | k + 1, h => by
    show (cat d a k ++ d.last (a + k)).length = _
    rw [List.length_append, catL n hl a k (by omega), hl _ (by omega)]
    omega
theorem kept_five (w : World) (N : Nat) (v0 v1 v2 v3 v4 : Value) : Kept (fun i => i = N) w (((((w.drew.setCell ⟨N, 0, none⟩ v0).setCell ⟨N, 1, none⟩ v1).setCell ⟨N, 2, none⟩ v2).setCell ⟨N, 3, none⟩ v3).setCell ⟨N, 4, none⟩ v4) := by
  have h0 : Kept (fun i => i = N) w w.drew := (Kept.refl (fun i => i = N) w).drew
  have h1 := h0.setCell (p := ⟨N, 0, none⟩) (.inl rfl) v0
  have h2 := h1.setCell (p := ⟨N, 1, none⟩) (.inl rfl) v1
  have h3 := h2.setCell (p := ⟨N, 2, none⟩) (.inl rfl) v2
  have h4 := h3.setCell (p := ⟨N, 3, none⟩) (.inl rfl) v3
  exact h4.setCell (p := ⟨N, 4, none⟩) (.inl rfl) v4
set_option maxHeartbeats 8000000 in
theorem ref_open {w : World} {b c : Nat} {u : Option Addr} {k : Nat} {d : Dk} (h : Rd w b c u k d) (hQ : d.Q.length ≤ 1048576) (hoff : d.off = false) (hn : d.n ≤ 256) (hl : ∀ i, i < d.n → (d.last i).length = 32) (a B t : Nat) (hab : a < B) (hB : B ≤ d.n) (ht : 1 ≤ t ∧ t ≤ 2147483647)
    (X : ByteArray) (hX : (⟨(cat d a (B - a)).toArray⟩ : ByteArray) = X) (R : List ByteArray) (used : Nat) (hsc : scanS (t : Int) X = (R, used)) :
    Calls Try.prog 40 #[.agg #[.slice (some ⟨b, 0, none⟩) d.n c, .slice u d.Q.length k, .int .i64 d.fuse, .bool false], .agg #[.int .i64 (a : Int), .int .i64 (B : Int)], .int .i64 (t : Int)] w fun e w' => ∃ la lc, e = .returned (.tuple #[.agg #[.int .i64 (a : Int), .int .i64 (B : Int), .int .i64 (t : Int), .slice la R.length lc, .string (X.extract 0 used)], .int .i64 0]) ∧ w'.ownsRow w.heap.size 9 1 (.slice la R.length lc) R.length (sv R) ∧ Kept (fun _ => False) w w' := by
  obtain ⟨n, hnn⟩ : ∃ n, d.n = n := ⟨_, rfl⟩
  obtain ⟨m, hmm⟩ : ∃ m, d.Q.length = m := ⟨_, rfl⟩
  have HRD : Hid (∀ wr x, Kept (fun _ => False) w wr → x < n → Calls Try.prog 60 #[.agg #[.slice (some ⟨b, 0, none⟩) n c, .slice u m k, .int .i64 d.fuse, .bool false], .int .i64 (x : Int)] wr fun e w' => e = .returned (.tuple #[.string ⟨(d.last x).toArray⟩, .int .i64 0]) ∧ Kept (fun _ => False) wr w') := fun wr x kk hx => by
    rw [← hnn, ← hmm]
    exact ref_readD (h.step kk) hQ hoff x (by omega)
  have HCL : Hid (∀ k, a + k ≤ n → (cat d a k).length = 32 * k) := fun k hk => catL d.n hl a k (by omega)
  have HSC : Hid (∀ w', Calls Try.prog 12 #[.int .i64 (t : Int), .string X] w' fun e w'' => ∃ la lc, e = .returned (.tuple #[.slice la R.length lc, .int .i64 (used : Nat)]) ∧ Hid (w''.ownsRow w'.heap.size 9 1 (.slice la R.length lc) R.length (sv R) ∧ Kept (fun _ => False) w' w'')) := fun w' => by
    have q := rscan_is (t : Int) X (by rw [← hX]; show (cat d a (B - a)).toArray.size ≤ _; rw [List.size_toArray, catL d.n hl a (B - a) (by omega)]; omega) w'
    rw [hsc] at q
    refine q.mono fun e w'' ⟨v, q1, q2, q3⟩ => ?_
    obtain ⟨la, lc, rfl⟩ := own_form q2
    exact ⟨la, lc, q1, q2, q3⟩
  have HX : Hid ((⟨(cat d a (B - a)).toArray⟩ : ByteArray) = X) := hX
  have HUS : Hid (used ≤ X.size ∧ X.size ≤ 8192) := by
    have e : X.size = 32 * (B - a) := by rw [← hX]; show (cat d a (B - a)).toArray.size = _; rw [List.size_toArray, catL d.n hl a (B - a) (by omega)]
    refine ⟨?_, by omega⟩
    have := scan_le t X
    rw [hsc] at this
    exact this
  rw [hnn, hmm]
  rw [hnn] at hB hn
  have e1 : ((n : Int) == 0) = false := by simp; omega
  have e2 : ¬ (a : Int) < 0 := by omega
  have e3 : ¬ (B : Int) > (n : Int) := by omega
  have e4 : ¬ (a : Int) ≥ (B : Int) := by omega
  have e5 : ¬ (t : Int) < 1 := by omega
  have e6 : ¬ (t : Int) > 2147483647 := by omega
  obtain ⟨W0, hW0⟩ : ∃ W0, ((w.alloc (.cells #[.slice (some ⟨b, 0, none⟩) n c, .slice u m k, .int .i64 d.fuse, .bool false] 37)).alloc (.cells #[.int .i64 (a : Int), .int .i64 (B : Int)] 41)).alloc (.cells #[.int .i64 0, .int .i64 0, .int .i64 0, .slice none 0 0, .string ⟨#[]⟩] 44) = W0 := ⟨_, rfl⟩
  have HK0 : Hid (Kept (fun _ => False) w W0 ∧ W0.heap.size = w.heap.size + 3 ∧ CellsF W0 w.heap.size [.slice (some ⟨b, 0, none⟩) n c, .slice u m k, .int .i64 d.fuse, .bool false] ∧ CellsF W0 (w.heap.size + 1) [.int .i64 (a : Int), .int .i64 (B : Int)] ∧ CellsF W0 (w.heap.size + 2) [.int .i64 0, .int .i64 0, .int .i64 0, .slice none 0 0, .string ⟨#[]⟩]) := by
    rw [← hW0]
    refine ⟨((Kept.refl _ w).alloc _ |>.alloc _).alloc _, by simp, ?_, ?_, ?_⟩
    · exact ((CellsF.new w [.slice (some ⟨b, 0, none⟩) n c, .slice u m k, .int .i64 d.fuse, .bool false] 37 (by simp)).step ((Kept.refl _ _).alloc _)).step ((Kept.refl _ _).alloc _)
    · have := (CellsF.new (w.alloc (.cells #[.slice (some ⟨b, 0, none⟩) n c, .slice u m k, .int .i64 d.fuse, .bool false] 37)) [.int .i64 (a : Int), .int .i64 (B : Int)] 41 (by simp)).step ((Kept.refl _ _).alloc (.cells #[.int .i64 0, .int .i64 0, .int .i64 0, .slice none 0 0, .string ⟨#[]⟩] 44))
      simpa using this
    · have := CellsF.new ((w.alloc (.cells #[.slice (some ⟨b, 0, none⟩) n c, .slice u m k, .int .i64 d.fuse, .bool false] 37)).alloc (.cells #[.int .i64 (a : Int), .int .i64 (B : Int)] 41)) [.int .i64 0, .int .i64 0, .int .i64 0, .slice none 0 0, .string ⟨#[]⟩] 44 (by simp)
      simpa using this
  have HW0 : Hid (((w.alloc (.cells #[.slice (some ⟨b, 0, none⟩) n c, .slice u m k, .int .i64 d.fuse, .bool false] 37)).alloc (.cells #[.int .i64 (a : Int), .int .i64 (B : Int)] 41)).alloc (.cells #[.int .i64 0, .int .i64 0, .int .i64 0, .slice none 0 0, .string ⟨#[]⟩] 44) = W0) := hW0
  clear h hX hsc hl hQ hoff hW0
  go_enter Try.func40, Try.ntmps40
  go_wp2_with fail
  rw [HW0.out]
  clear HW0
  go_loopw [8, 9] (fun v8 v9 wr => ∃ (j : Nat) (vv : Value), a + j ≤ B ∧ vv = v8 ∧ v9 = .int .i64 (a + j : Nat) ∧ Hid (OwnB wr (w.heap.size + 3) vv (cat d a j) ∧ Kept (fun _ => False) w wr ∧ w.heap.size + 3 ≤ wr.heap.size ∧ CellsF wr w.heap.size [.slice (some ⟨b, 0, none⟩) n c, .slice u m k, .int .i64 d.fuse, .bool false] ∧ CellsF wr (w.heap.size + 1) [.int .i64 (a : Int), .int .i64 (B : Int)] ∧ CellsF wr (w.heap.size + 2) [.int .i64 0, .int .i64 0, .int .i64 0, .slice none 0 0, .string ⟨#[]⟩]))
    (fun _ vi _ => B - (intOf vi).toNat)
  case atStart => exact ⟨0, _, by omega, rfl, rfl, World.ownsRow_nil _ _ _ _, HK0.out.1, by rw [HK0.out.2.1]; exact Nat.le_refl _, HK0.out.2.2⟩
  case round =>
    clear HK0
    obtain ⟨j, vv, hj, rfl, rfl, HI⟩ := hrel
    have x0 := HI.out.2.2.2.1.cs 0 _ rfl
    have x1 := HI.out.2.2.2.1.cs 1 _ rfl
    have x2 := HI.out.2.2.2.1.cs 2 _ rfl
    have x3 := HI.out.2.2.2.1.cs 3 _ rfl
    have y0 := HI.out.2.2.2.2.1.cs 0 _ rfl
    have y1 := HI.out.2.2.2.2.1.cs 1 _ rfl
    by_cases hlt : a + j < B
    · have hlti : ((a + j : Nat) : Int) < (B : Int) := by omega
      go_wp2_with fail
      refine Calls.mono (HRD.out _ (a + j) HI.out.2.1 (by omega)) ?_; rintro e w1 ⟨rfl, k1⟩
      obtain ⟨v2, w2, ra, ho, hg⟩ := append_own (HI.out.1.kept k1) (⟨(d.last (a + j)).toArray⟩ : ByteArray) (by
        have e1 := HCL.out j (by omega)
        have e2 := HCL.out (j + 1) (by omega)
        rw [show cat d a (j + 1) = cat d a j ++ d.last (a + j) from rfl, List.length_append] at e2
        show (cat d a j).length + (d.last (a + j)).toArray.size ≤ _
        rw [List.size_toArray]
        omega) (Nat.le_trans HI.out.2.2.1 k1.size)
      have hob : ∀ i, vv.ownBlock = some i → w.heap.size + 3 ≤ i := fun i hi => (HI.out.1.lt i hi).1
      have hk2 : Kept (fun i => w.heap.size + 3 ≤ i) w1 w2 := (Kept.refl _ w1).grown hg (fun i hi => .inl (hob i hi))
      have HN : Hid (OwnB w2 (w.heap.size + 3) v2 (cat d a (j + 1)) ∧ Kept (fun _ => False) w w2 ∧ w.heap.size + 3 ≤ w2.heap.size ∧ CellsF w2 w.heap.size [.slice (some ⟨b, 0, none⟩) n c, .slice u m k, .int .i64 d.fuse, .bool false] ∧ CellsF w2 (w.heap.size + 1) [.int .i64 (a : Int), .int .i64 (B : Int)] ∧ CellsF w2 (w.heap.size + 2) [.int .i64 0, .int .i64 0, .int .i64 0, .slice none 0 0, .string ⟨#[]⟩]) :=
        ⟨ho, (HI.out.2.1.trans k1 (fun _ q => q.elim)).trans hk2 (fun i hi => .inr (by omega)), Nat.le_trans HI.out.2.2.1 (Nat.le_trans k1.size hk2.size), (HI.out.2.2.2.1.step k1).kept hk2 (by omega), (HI.out.2.2.2.2.1.step k1).kept hk2 (by omega), (HI.out.2.2.2.2.2.step k1).kept hk2 (by omega)⟩
      have RA : Hid ((Builtin.append_ #[80, 9] 80 #[vv, .string ⟨(d.last (a + j)).toArray⟩]).run Try.prog w1 = .ok v2 w2) := ra
      generalize (⟨(d.last (a + j)).toArray⟩ : ByteArray) = z at *
      clear ra ho hg hob hk2 k1 HI x0 x1 x2 x3 y0 y1
      go_wp2_with (first | ((with_reducible apply st_append (x := .tmp 65)); (case ho => rfl); (case hgd => rfl); (case hr => exact RA.out)))
      go_roundw
      case rel => exact ⟨j + 1, v2, by omega, rfl, by go_num, HN.out⟩
      case measure => simp [intOf]; omega
    · have hlti : ¬ ((a + j : Nat) : Int) < (B : Int) := by omega
      have hjB : j = B - a := by omega
      obtain ⟨g, mm, cc', hv, hcv⟩ := ownB_str HI.out.1 (fun e => by
        have e1 := HCL.out j (by omega)
        rw [e] at e1
        simp at e1
        omega)
      have hcv2 : (convert 80 9 (.slice (some ⟨g, 0, none⟩) mm cc')).run Try.prog wr = .ok (.string X) wr := by
        rw [← HX.out, ← hjB]
        exact hcv
      subst hv
      have HK : Hid (Kept (fun _ => False) w wr ∧ w.heap.size + 3 ≤ wr.heap.size ∧ CellsF wr (w.heap.size + 1) [.int .i64 (a : Int), .int .i64 (B : Int)] ∧ CellsF wr (w.heap.size + 2) [.int .i64 0, .int .i64 0, .int .i64 0, .slice none 0 0, .string ⟨#[]⟩]) := ⟨HI.out.2.1, HI.out.2.2.1, HI.out.2.2.2.2.1, HI.out.2.2.2.2.2⟩
      clear HI x0 x1 x2 x3 hcv HRD HCL HX
      go_wp2_with fail
      refine Calls.mono (HSC.out _) ?_; rintro e w1 ⟨la, lc, rfl, HM⟩
      have HK1 : Hid (Kept (fun _ => False) w w1 ∧ CellsF w1 (w.heap.size + 1) [.int .i64 (a : Int), .int .i64 (B : Int)] ∧ CellsF w1 (w.heap.size + 2) [.int .i64 0, .int .i64 0, .int .i64 0, .slice none 0 0, .string ⟨#[]⟩] ∧ w.heap.size + 3 ≤ w1.heap.size ∧ w1.ownsRow (w.heap.size + 3) 9 1 (.slice la R.length lc) R.length (sv R)) := ⟨HK.out.1.trans HM.out.2 (fun _ q => q.elim), HK.out.2.2.1.step HM.out.2, HK.out.2.2.2.step HM.out.2, Nat.le_trans HK.out.2.1 HM.out.2.size, own_weak HM.out.1 HK.out.2.1⟩
      clear y0 y1 hcv2 HK HM HSC
      have y0 := HK1.out.2.1.cs 0 _ rfl
      have y1 := HK1.out.2.1.cs 1 _ rfl
      have z0 := HK1.out.2.2.1.cs 0 _ rfl
      have z1 := HK1.out.2.2.1.cs 1 _ rfl
      have z2 := HK1.out.2.2.1.cs 2 _ rfl
      have z3 := HK1.out.2.2.1.cs 3 _ rfl
      have z4 := HK1.out.2.2.1.cs 4 _ rfl
      have zf := HK1.out.2.2.1.fz
      have hus := HUS.out
      have husi : (used : Int) ≤ (X.size : Int) := by omega
      clear hus
      go_wp2_with fail
      refine wp_region_still_tail 10 (by kernel_rfl) (by kernel_rfl) ?_
      simp only [List.take_succ_cons, List.take_zero, List.drop_succ_cons, List.drop_zero]
      iterate 10 still_step
      refine wpStill_nil ?_
      go_wp2_with fail
      have HCD : Hid (CellsF w1.drew (w.heap.size + 2) [.int .i64 0, .int .i64 0, .int .i64 0, .slice none 0 0, .string ⟨#[]⟩]) := HK1.out.2.2.1.far rfl
      refine bodyPost_ret (end_cell_tmp rfl rfl (loadLog _ (HCD.out.five rfl _ _ _ _ _) rfl)) rfl ?_
      have kw := kept_five w1 (w.heap.size + 2) (.int .i64 (a : Int)) (.int .i64 (B : Int)) (.int .i64 (t : Int)) (.slice la R.length lc) (.string (X.extract 0 used))
      exact ⟨la, lc, rfl, own_weak (ownsRow_kept HK1.out.2.2.2.2 (fun i hi => kw.block i (HK1.out.2.2.2.2.lt i hi).2 (by have := (HK1.out.2.2.2.2.lt i hi).1; omega))) (by omega), HK1.out.1.trans kw (fun i hi => .inr (by omega))⟩
end Go.Proofs.Ythfhjfemcmdmfaa
