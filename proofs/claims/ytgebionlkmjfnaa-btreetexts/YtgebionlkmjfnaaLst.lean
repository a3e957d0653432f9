/- last. -/
import Derived.Test.YtgebionlkmjfnaaDep
import Derived.StillTactics
namespace Go.Proofs.Ytgebionlkmjfnaa
open Go.ChangeShapes Go.WideShapes Go.RowKit
set_option linter.unusedVariables false
set_option maxRecDepth 100000

theorem load63 {w : World} {b : Nat} (l : List Value) (h : CellsF w b l) (hn : l.length = 2) : (loadVar 63 ⟨b, 0, none⟩).run Try.prog w = .ok (.agg l.toArray) w := by
  have hl := loads l (n := 2) (w := w) (b := b) (o := 0) hn (fun j x hx => by rw [Nat.zero_add]; exact h.cs j x hx)
  simp [loadVar, Sem.run_bind, loadCells, hl]
set_option maxHeartbeats 4000000 in
theorem last_is (b0 : Nat) (d0 : Nat) (t0 : T d0) (lo hi : Nat) (w : World) (hlo : 1 ≤ lo) (hhi : hi ≤ 50) (hz0 : Sz lo hi d0 t0) (ha : At itv w d0 b0 t0) :
    Calls Try.prog 42 #[.pointer (some ⟨b0, 0, none⟩)] w fun e w' => ∃ (x : Itm) (P : List Itm), e = .returned (.agg #[.int .i64 x.1, .string x.2]) ∧ Below w.heap.size w w' ∧ flat d0 t0 = P ++ [x] := by
  have HI0 : Hid (∀ z, At itv (w.alloc (.cells #[.int .i64 0, .string ⟨#[]⟩] z)) d0 b0 t0 ∧ (∃ lo hi, 1 ≤ lo ∧ hi ≤ 50 ∧ Sz lo hi d0 t0) ∧ (∃ P, flat d0 t0 = P ++ flat d0 t0) ∧ Below w.heap.size w (w.alloc (.cells #[.int .i64 0, .string ⟨#[]⟩] z)) ∧ CellsF (w.alloc (.cells #[.int .i64 0, .string ⟨#[]⟩] z)) w.heap.size [.int .i64 0, .string ⟨#[]⟩]) := fun z => ⟨At.next itv_ne (below1 _ _) ha, ⟨lo, hi, hlo, hhi, hz0⟩, ⟨[], rfl⟩, below1 _ _, CellsF.at _ z (by simp) rfl⟩
  obtain ⟨F, hF⟩ : ∃ F, flat d0 t0 = F := ⟨_, rfl⟩
  rw [hF] at HI0 ⊢
  have HI1 : Hid (∀ z, At itv (w.alloc (.cells #[.int .i64 0, .string ⟨#[]⟩] z)) d0 b0 t0 ∧ (∃ lo hi, 1 ≤ lo ∧ hi ≤ 50 ∧ Sz lo hi d0 t0) ∧ (∃ P, F = P ++ flat d0 t0) ∧ Below w.heap.size w (w.alloc (.cells #[.int .i64 0, .string ⟨#[]⟩] z)) ∧ CellsF (w.alloc (.cells #[.int .i64 0, .string ⟨#[]⟩] z)) w.heap.size [.int .i64 0, .string ⟨#[]⟩]) := fun z => by rw [hF]; exact HI0.out z
  clear HI0 hz0 ha hF
  go_enter Try.func42, Try.ntmps42
  go_wp2_with fail
  go_loopg [0] d0 (fun g vp wr => ∃ (b : Nat) (t : T g), vp = .pointer (some ⟨b, 0, none⟩) ∧ Hid (At itv wr g b t ∧ (∃ lo hi, 1 ≤ lo ∧ hi ≤ 50 ∧ Sz lo hi g t) ∧ (∃ P, F = P ++ flat g t) ∧ Below w.heap.size w wr ∧ CellsF wr w.heap.size [.int .i64 0, .string ⟨#[]⟩]))
  case atStart => exact ⟨b0, t0, rfl, HI1.out _⟩
  case round =>
    obtain ⟨b, t, rfl, HI⟩ := hrel
    clear HI1
    cases gk with
    | zero =>
      have hnd : NdAt itv wr b t [] := HI.out.1
      have HL : Hid (Calls Try.prog 26 #[.pointer (some ⟨b, 0, none⟩)] wr fun e w' => e = .returned (.bool true) ∧ wr = w') := (leaf_is b t [] wr HI.out.1).mono (fun e w2 q => ⟨q.1, q.2.symm⟩)
      obtain ⟨xs, hxs⟩ : ∃ xs : List Itm, xs = t := ⟨t, rfl⟩
      obtain ⟨P, hP⟩ := HI.out.2.2.1
      obtain ⟨lo', hi', hlo', hhi', hz⟩ := HI.out.2.1
      have hlen : 1 ≤ xs.length := by rw [hxs]; exact Nat.le_trans hlo' hz.1
      have hlen2 : xs.length ≤ 50 := by rw [hxs]; exact Nat.le_trans hz.2 hhi'
      have hP' : F = P ++ xs := by rw [hxs]; exact hP
      obtain ⟨m, hm⟩ : ∃ m, xs.length = m + 1 := ⟨xs.length - 1, by omega⟩
      have hml : m < xs.length := by omega
      rw [← hxs] at hnd
      obtain ⟨u, v, c0, c1, hu, hv⟩ := hnd
      obtain ⟨yb, yo, yc, rfl, hyc, hyb, hyt⟩ := hu.itm (fun e => by rw [e] at hml; simp at hml)
      have y0 := (hyt m hml).1
      have y1 := (hyt m hml).2
      have HE : Hid (F = (P ++ xs.take m) ++ [xs[m]]) := by
        show _ = _
        rw [hP', List.append_assoc]
        congr 1
        have := split_at hml
        rw [List.drop_of_length_le (by omega)] at this
        exact this
      obtain ⟨x1, hx1⟩ : ∃ x1, xs[m].1 = x1 := ⟨_, rfl⟩
      obtain ⟨x2, hx2⟩ : ∃ x2, xs[m].2 = x2 := ⟨_, rfl⟩
      rw [hx1] at y0
      rw [hx2] at y1
      have HX : Hid (xs[m] = (x1, x2)) := Prod.ext hx1 hx2
      have wm : IntKind.i64.wrap ((xs.length : Int) - 1) = (m : Int) := by rw [IntKind.wrap_i64]; omega
      have hmi : (m : Int) < (xs.length : Int) := by omega
      have HQ : Hid (wr.cell? ⟨b, 0, none⟩ = some (.slice (some ⟨yb, yo, none⟩) xs.length yc) ∧ wr.cell? ⟨yb, yo + m * 2, none⟩ = some (.int .i64 x1) ∧ wr.cell? ⟨yb, yo + m * 2 + 1, none⟩ = some (.string x2)) := ⟨c0, y0, y1⟩
      have HCL : Hid (Below w.heap.size w wr ∧ CellsF wr w.heap.size [.int .i64 0, .string ⟨#[]⟩]) := HI.out.2.2.2
      clear hu hv hyt hx1 hx2 hP hP' hz hxs c0 c1 y0 y1 hm
      go_wp2_with fail
      refine Calls.mono HL.out ?_; rintro e w2 ⟨rfl, rfl⟩
      have c0 := HQ.out.1
      have y0 := HQ.out.2.1
      have y1 := HQ.out.2.2
      have z0 := HCL.out.2.cs 0 _ rfl
      have z1 := HCL.out.2.cs 1 _ rfl
      have f0 := HCL.out.2.fz 0
      have f1 := HCL.out.2.fz 1
      go_wp2_with fail
      refine wp_region_still_tail 12 (by kernel_rfl) (by kernel_rfl) ?_
      rw [show ({ wr with drawn := wr.drawn + 1 } : World) = wr.drew from rfl]
      simp only [List.take_succ_cons, List.take_zero, List.drop_succ_cons, List.drop_zero]
      iterate 12 still_step
      refine wpStill_nil ?_
      go_wp2_with fail
      try simp only [Exit.inBlock, Exit.then]
      have HCD : Hid (CellsF wr.drew w.heap.size [.int .i64 0, .string ⟨#[]⟩]) := HCL.out.2.far rfl
      refine bodyPost_ret (end_cell rfl rfl (load63 _ (HCD.out.two rfl _ _) rfl)) rfl ?_
      exact ⟨(x1, x2), _, rfl, below_two HCL.out.1.drew _ (Nat.le_refl _) _ _, by rw [← HX.out]; exact HE.out⟩
    | succ g =>
      obtain ⟨xs, ks⟩ := t
      obtain ⟨bs, hn', hk'⟩ := HI.out.1
      obtain ⟨lo', hi', hlo', hhi', hz⟩ := HI.out.2.1
      obtain ⟨hz1, hz2, hz3, hz4⟩ := hz
      dsimp only at hz1 hz2 hz3 hz4 hn' hk'
      obtain ⟨m, hm⟩ : ∃ m, bs.length = m + 1 := ⟨xs.length, by rw [hk'.1, hz3]⟩
      have hib : m < bs.length := by omega
      have hik : m < ks.length := by rw [← hk'.1]; exact hib
      have hne : bs ≠ [] := fun e => by rw [e] at hib; simp at hib
      have HL : Hid (Calls Try.prog 26 #[.pointer (some ⟨b, 0, none⟩)] wr fun e w' => e = .returned (.bool false) ∧ wr = w') := by
        have := leaf_is b xs bs wr hn'
        rw [decide_eq_false hne] at this
        exact this.mono (fun e w2 q => ⟨q.1, q.2.symm⟩)
      obtain ⟨u, v, c0, c1, hu, hv⟩ := hn'
      obtain ⟨pb, po, pc, rfl, hpc, hpb, hpt⟩ := hv.ptr hne
      have p0 := hpt m hib
      rw [Nat.mul_one] at p0
      have HNX : Hid (At itv wr g bs[m] ks[m] ∧ (∃ lo hi, 1 ≤ lo ∧ hi ≤ 50 ∧ Sz lo hi g ks[m]) ∧ (∃ P, F = P ++ flat g ks[m]) ∧ Below w.heap.size w wr ∧ CellsF wr w.heap.size [.int .i64 0, .string ⟨#[]⟩]) := by
        refine ⟨hk'.at m hib hik, ⟨6, 12, by omega, by omega, hz4 _ (List.getElem_mem hik)⟩, ?_, HI.out.2.2.2⟩
        obtain ⟨P, hP⟩ := HI.out.2.2.1
        have hxm : xs.length = m := by have := hk'.1; omega
        have := flat_here xs ks hz3 m (by omega) hik
        rw [List.drop_of_length_le (show xs.length ≤ m by omega)] at this
        rw [this] at hP
        refine ⟨P ++ pre (xs.take m) ((ks.take m).map (flat g)), ?_⟩
        rw [hP]
        simp [suf]
      have HSK : Hid (Below wr.heap.size wr wr.drew) := (Below.refl _ _).drew
      have HNX2 : Hid (At itv wr.drew g bs[m] ks[m] ∧ (∃ lo hi, 1 ≤ lo ∧ hi ≤ 50 ∧ Sz lo hi g ks[m]) ∧ (∃ P, F = P ++ flat g ks[m]) ∧ Below w.heap.size w wr.drew ∧ CellsF wr.drew w.heap.size [.int .i64 0, .string ⟨#[]⟩]) := ⟨At.next itv_ne HSK.out HNX.out.1, HNX.out.2.1, HNX.out.2.2.1, Below.next HNX.out.2.2.2.1 HSK.out, HNX.out.2.2.2.2.next HSK.out⟩
      have wm : IntKind.i64.wrap ((bs.length : Int) - 1) = (m : Int) := by rw [IntKind.wrap_i64]; omega
      have hmi : (m : Int) < (bs.length : Int) := by omega
      generalize bs[m] = kb at *
      clear hu hv hpt hk' HI c0 HNX hm
      go_wp2_with fail
      refine Calls.mono HL.out ?_; rintro e w2 ⟨rfl, rfl⟩
      go_wp2_with fail
      refine wp_region_still_tail 12 (by kernel_rfl) (by kernel_rfl) ?_
      rw [show ({ wr with drawn := wr.drawn + 1 } : World) = wr.drew from rfl]
      simp only [List.take_succ_cons, List.take_zero, List.drop_succ_cons, List.drop_zero]
      iterate 12 still_step
      refine wpStill_nil ?_
      go_wp2_with fail
      go_roundg g
      case measure => exact Nat.lt_succ_self _
      case rel => exact ⟨kb, ks[m], rfl, HNX2.out⟩
end Go.Proofs.Ytgebionlkmjfnaa
