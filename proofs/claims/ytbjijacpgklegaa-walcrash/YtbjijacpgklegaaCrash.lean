/- Crash. -/
import Derived.Test.YtbjijacpgklegaaFlush
namespace Go.Proofs.Ytbjijacpgklegaa
open Go.ChangeShapes Go.WideShapes Go.ChangeAt Go.RowKit
set_option linter.unusedVariables false
set_option maxRecDepth 100000

/-- How many bytes survive. -/
def kept (k : Int) : Nat := (min (max k 0) 32).toNat
theorem kept_le (k : Int) : kept k ≤ 32 := by unfold kept; omega
theorem kept_int (k : Int) : (kept k : Int) = min (max k 0) 32 := by unfold kept; omega

/-- Sectors behind a crash: of each write its first bytes. -/
def torn (S : Nat → List UInt8) (l : List ((Nat × List UInt8) × Int)) : Nat → List UInt8 :=
  l.foldl (fun S x => put S x.1.1 (x.1.2.take (kept x.2) ++ (S x.1.1).drop (kept x.2))) S

/-- A list of numbers that came in. -/
def Ints (w : World) (v : Value) (ks : List Int) : Prop := (∃ a c, v = .slice a 0 c ∧ ks = []) ∨ ∃ b o c, v = .slice (some ⟨b, o, none⟩) ks.length c ∧ ∀ k (hk : k < ks.length), w.cell? ⟨b, o + k, none⟩ = some (.int .i64 ks[k])

theorem max_two (x : Int) (w : World) : (Builtin.max_ #[3, 3] 3 #[.int .i64 x, .int .i64 0]).run Try.prog w = .ok (.int .i64 (max x 0)) w := by
  simp [Builtin.max_, Builtin.max2]
  omega
theorem min_two (x : Int) (w : World) : (Builtin.min_ #[3, 3] 3 #[.int .i64 (max x 0), .int .i64 32]).run Try.prog w = .ok (.int .i64 (kept x : Int)) w := by
  simp [Builtin.min_, Builtin.min2]
  rw [kept_int]
  omega
theorem min_len (x y : Nat) (w : World) : (Builtin.min_ #[3, 3] 3 #[.int .i64 (x : Int), .int .i64 (y : Int)]).run Try.prog w = .ok (.int .i64 ((min x y : Nat) : Int)) w := by
  simp [Builtin.min_, Builtin.min2]
  omega

theorem crash_round {w : World} {F : Nat → Prop} {p bs bl g m cap : Nat} {d : Dk} {L : Nat → List UInt8} (h : Lies w F p bs bl (.slice (some ⟨g, 0, none⟩) m cap) d L) (k : Nat) (hk : k < d.Q.length) (x : Int) :
    ∃ (W1 V W2 : World) (C : Array Value) (a : Nat), a < d.n ∧ V = { W1 with drawn := W1.drawn + 1 } ∧
      (Instr.loadAt 103 (.pointer (some ⟨g, k * 33, none⟩))).run Try.prog w = .ok (.agg C) w ∧
      (Instr.storeAt 103 (.pointer (some ⟨w.heap.size, 0, none⟩)) (.agg C)).run Try.prog (w.alloc (.cells (#[.int .i64 0] ++ Array.replicate 32 (.int .u8 0)) 103)) = .ok () W1 ∧
      V.cell? ⟨p, 0, none⟩ = some (.slice (some ⟨bs, 0, none⟩) d.n d.n) ∧ V.cell? ⟨w.heap.size, 0, none⟩ = some (.int .i64 (a : Int)) ∧
      (Builtin.copy_ #[80, 80] 3 #[.slice (some ⟨bs, a * 32, none⟩) (kept x) 32, .slice (some ⟨w.heap.size, 1, none⟩) (kept x) 32]).run Try.prog V = .ok (.int .i64 (kept x : Int)) W2 ∧
      Lies W2 F p bs bl (.slice (some ⟨g, 0, none⟩) m cap) { d with S := put d.S d.Q[k].1 (d.Q[k].2.take (kept x) ++ (d.S d.Q[k].1).drop (kept x)) } L ∧ Kept F w W2 ∧
      Kept (fun _ => False) w W1 := by
  have hq := h.qs d.Q[k] (List.getElem_mem hk)
  have hl := h.waits k hk
  generalize d.Q[k] = q at *
  have k1 : Kept (fun _ => False) w (w.alloc (.cells (qv q).toArray 103)) := (Kept.refl _ w).alloc _
  have h1 := (h.kept k1 (fun _ _ x => x)).drew
  obtain ⟨V, hV⟩ : ∃ V, V = (w.alloc (.cells (qv q).toArray 103)).drew := ⟨_, rfl⟩
  rw [← hV] at h1
  have hS := h1.sure.len q.1 hq.1
  have hx := kept_le x
  generalize kept x = c at *
  have ht : (q.2.take c).length = c := by simp; omega
  have hset := h1.setSure hq.1 (q.2.take c) (by omega)
  rw [ht] at hset
  obtain ⟨i, hi, hz, hi1, hi2⟩ : ∃ i, Try.prog.info? 5 = some i ∧ i.zero = some (.int .u8 0) ∧ i.size = 1 ∧ i.bytes = 1 := info_of (by kernel_rfl)
  have hcp := run_copy_cells (P := Try.prog) V 80 80 3 5 bs (q.1 * 32) c 32 ⟨w.heap.size, 1, none⟩ c 32 (bv (q.2.take c)) Try.underlying80 (by rw [hi]; simp [hi1]) (by rw [bv_len, ht]; simp)
    (fun j v hv => by
      rw [Go.WideShapes.add_plain]
      refine copied_text w q hq.2 V (by rw [hV]; rfl) j v ?_
      rw [bv_take, List.getElem?_take] at hv
      split at hv
      · exact hv
      · cases hv)
    (fun j hj => h1.sure.some_at hq.1 (by rw [bv_len, ht] at hj; omega)) (fun j _ => h1.sure.free _) (bv_one _)
  rw [bv_len, ht] at hcp
  refine ⟨_, V, _, _, q.1, hq.1, hV, hl, copied w q hq.2, h1.c0, by rw [hV]; exact copied_cell w q, hcp, hset, ?_, k1⟩
  refine Kept.setCells (.inl h.fs) _ _ _ ?_
  rw [hV]
  exact (k1.mono (fun _ x => x.elim)).drew

theorem crash_no (v u : Value) (w : World) (h : Szd w v 0) : Calls Try.prog 23 #[v, u] w fun e w' => e = .returned (.int .i64 1) ∧ w' = w := by
  have H := (show Hid _ from size_is v 0 w h)
  clear h
  go_enter Try.func23, Try.ntmps23
  go_wp2_with fail
  refine Calls.mono H.out ?_; rintro e w1 ⟨rfl, rfl⟩
  go_wp2_with fail
  go_ret
  exact ⟨rfl, rfl⟩

theorem crash_one {w : World} {F : Nat → Prop} {p bs bl g m cap : Nat} {d : Dk} {L : Nat → List UInt8} (h : Lies w F p bs bl (.slice (some ⟨g, 0, none⟩) m cap) d L) (hcap : cap ≠ 0) (hQ : d.Q.length ≤ 1048576)
    (b o c : Nat) (ks : List Int) (hb : ∀ k (hk : k < ks.length), w.cell? ⟨b, o + k, none⟩ = some (.int .i64 ks[k])) (hF : ¬ F b) (hkl : ks.length ≤ 9223372036854775807) :
    Calls Try.prog 23 #[.pointer (some ⟨p, 0, none⟩), .slice (some ⟨b, o, none⟩) ks.length c] w fun e w' => e = .returned (.int .i64 0) ∧
      ∃ v', Lies w' F p bs bl v' { d with S := torn d.S (d.Q.zip ks), Q := [], fuse := -1, off := false } (settled (torn d.S (d.Q.zip ks)) L d.Q) ∧ Kept F w w' := by
  have H := (show Hid _ from size_is _ d.n w (.inr ⟨p, _, _, rfl, h.c1⟩))
  have hn : ((d.n : Int) == 0) = false := by have := h.n1; simp; omega
  have hc2 := h.c2
  have em : m = d.Q.length := by
    obtain ⟨o, c, e⟩ := h.form
    cases e; rfl
  have hmc : m ≤ cap := by
    rcases h.own.2 with ⟨e, _⟩ | ⟨g', cap', cur, e, _, _, e1, _⟩
    · cases e
    · cases e; omega
  have HM := (show Hid _ from em)
  have HL := (show Hid _ from h)
  have HQ := (show Hid _ from hQ)
  have HB := (show Hid _ from And.intro hb hF)
  have hcm : cap ≤ 9223372036854775807 := by
    rcases h.own.2 with ⟨e, _⟩ | ⟨g', cap', cur, e, _, _, _, e1, _⟩
    · cases e
    · cases e; simpa [maxLen] using e1
  obtain ⟨kl, ekl⟩ : ∃ kl, ks.length = kl := ⟨_, rfl⟩
  have HK := (show Hid _ from ekl)
  rw [ekl] at hkl
  rw [ekl]
  have hmin := min_len kl m
  obtain ⟨mm, emm⟩ : ∃ mm, min kl m = mm := ⟨_, rfl⟩
  rw [emm] at hmin
  have HN := (show Hid _ from emm)
  have hmm : mm ≤ cap := by omega
  have hm1 : m ≤ 1048576 := by omega
  have hmm1 : mm ≤ 1048576 := by omega
  clear h hb hF hQ em ekl emm
  go_enter Try.func23, Try.ntmps23
  go_wp2_with fail
  refine Calls.mono H.out ?_; rintro e w1 ⟨rfl, rfl⟩
  go_wp2_with fail
  refine wp_region_still_lit (by kernel_rfl) (by kernel_rfl) ?_
  rw [show ({ w1 with drawn := w1.drawn + 1 } : World) = w1.drew from rfl]
  iterate 15 still_step
  refine wpStill_nil ?_
  go_wp2_with fail
  go_loopw [25] (fun i wr => ∃ k : Nat, k ≤ mm ∧ i = .int .i64 k ∧ Hid (Lies wr F p bs bl (.slice (some ⟨g, 0, none⟩) m cap) { d with S := torn d.S ((d.Q.zip ks).take k) } L) ∧ Kept F w1 wr)
    (fun i _ => mm - (intOf i).toNat)
  case atStart => exact ⟨0, Nat.zero_le _, rfl, HL.out.drew, (Kept.refl _ _).drew⟩
  case round =>
    obtain ⟨k, hk, rfl, HW, KB⟩ := hrel
    have HKB := (show Hid _ from KB)
    clear KB
    by_cases hlt : k < mm
    · have hkQ : k < d.Q.length := by have := HM.out; have := HN.out; omega
      have hkK : k < ks.length := by have := HK.out; have := HN.out; omega
      obtain ⟨W1, V, W2, C, a, ha, eV, hl, hs, c0, ca, hcp, hL2, hK2, hK3⟩ := crash_round HW.out k hkQ ks[k]
      have ck : W1.cell? ⟨b, o + k, none⟩ = some (.int .i64 ks[k]) := hK3.cell (HKB.out.cell (HB.out.1 k hkK) HB.out.2) (fun q => q)
      have HA := (show Hid _ from alloc64 wr)
      have H1 := (show Hid _ from hl)
      have H2 := (show Hid _ from hs)
      have H4 := (show Hid _ from hcp)
      have H5 := (show Hid _ from And.intro hL2 hK2)
      have HV := (show Hid _ from eV)
      have hai : (a : Int) < (d.n : Int) := by have : a < d.n := ha; omega
      have hki : (k : Int) < (mm : Int) := by omega
      have hkk : (k : Int) < (kl : Int) := by have := HK.out; omega
      have hmx := max_two ks[k]
      have hmn := min_two ks[k]
      have hcx : (kept ks[k] : Int) ≤ 32 := by have := kept_le ks[k]; omega
      replace c0 : V.cell? ⟨p, 0, none⟩ = some (.slice (some ⟨bs, 0, none⟩) d.n d.n) := c0
      clear hl hs hcp hL2 hK2 hK3 eV ha
      have HZ : Hid ((d.Q.zip ks).take (k + 1) = (d.Q.zip ks).take k ++ [(d.Q[k], ks[k])]) := by
        show _ = _
        rw [List.take_succ_eq_append_getElem (by simp; omega)]
        simp
      clear hmin
      generalize ks[k] = x at *
      generalize max x 0 = y at *
      obtain ⟨cx, ecx⟩ : ∃ cx, kept x = cx := ⟨_, rfl⟩
      have HCX := (show Hid _ from ecx)
      rw [ecx] at H4 hmn hcx
      clear ecx
      go_wp2_with (first | ((with_reducible apply st_load); (case ho => rfl); (case hgd => rfl); (case hr => exact H1.out)) | ((with_reducible apply st_alloc); (case ho => rfl); (case hgd => rfl); (case hr => exact HA.out)) | ((with_reducible apply st_store); (case ho => rfl); (case hgd => rfl); (case hr => exact H2.out)))
      refine wp_region_still_tail 12 (by kernel_rfl) (by kernel_rfl) ?_
      rw [← HV.out]
      simp only [List.take_succ_cons, List.take_zero, List.drop_succ_cons, List.drop_zero]
      iterate 12 still_step
      refine wpStill_nil ?_
      refine st_copy rfl rfl H4.out ?_
      go_wp2_with fail
      go_roundw
      case rel =>
        refine ⟨k + 1, by omega, by go_num, ?_, HKB.out.trans H5.out.2 (fun _ x => .inl x)⟩
        show Lies _ _ _ _ _ _ _ _
        rw [HZ.out]
        unfold torn
        rw [List.foldl_append]
        exact H5.out.1
      case measure => simp [intOf]; omega
    · have ek : k = mm := by omega
      subst ek
      have hwl : Lies wr F p bs bl (.slice (some ⟨g, 0, none⟩) m cap) { d with S := torn d.S (d.Q.zip ks) } L := by
        have := HW.out
        rw [show (d.Q.zip ks).take k = d.Q.zip ks from List.take_of_length_le (by
          have := HM.out; have := HK.out; have := HN.out
          rw [List.length_zip]; omega)] at this
        exact this
      have HT := (show Hid _ from settle_is hwl HQ.out)
      clear hwl HW hmin
      go_wp2_with fail
      refine Calls.mono HT.out ?_; rintro e w3 ⟨rfl, v', h3, k3⟩
      have c3 := h3.c3
      have c4 := h3.c4
      have f3 := h3.free 3
      have f4 := h3.free 4
      have k4 : Kept (fun i => i = p) w3 ((w3.setCell ⟨p, 4, none⟩ (.bool false)).setCell ⟨p, 3, none⟩ (.int .i64 (-1))) := ((Kept.refl (fun i => i = p) w3).setCell (p := ⟨p, 4, none⟩) (.inl rfl) _).setCell (p := ⟨p, 3, none⟩) (.inl rfl) _
      have h4 := h3.field k4 (fun j hj => by
          rw [World.cell?_setCell_other _ _ _ _ (fun e => by cases e; omega), World.cell?_setCell_other _ _ _ _ (fun e => by cases e; omega)]) (fun j => by simp) (-1) false
          (World.cell?_setCell_same _ _ _ ((World.cell?_setCell_other _ _ _ _ (fun e => by cases e)).trans c3)) (by
            rw [World.cell?_setCell_other _ _ _ _ (fun e => by cases e)]
            exact World.cell?_setCell_same _ _ _ c4) (by simp)
      have HE := (show Hid (∃ v', Lies ((w3.setCell ⟨p, 4, none⟩ (.bool false)).setCell ⟨p, 3, none⟩ (.int .i64 (-1))) F p bs bl v' { d with S := torn d.S (d.Q.zip ks), Q := [], fuse := -1, off := false } (settled (torn d.S (d.Q.zip ks)) L d.Q) ∧ Kept F w1 ((w3.setCell ⟨p, 4, none⟩ (.bool false)).setCell ⟨p, 3, none⟩ (.int .i64 (-1)))) from
        ⟨v', h4, (HKB.out.trans k3 (fun _ x => .inl x)).trans (k4.mono (fun i hi => by rw [hi]; exact h3.fp)) (fun _ x => .inl x)⟩)
      clear h3 k3 k4 h4 HT
      go_wp2_with fail
      go_ret
      exact ⟨rfl, HE.out⟩
end Go.Proofs.Ytbjijacpgklegaa
