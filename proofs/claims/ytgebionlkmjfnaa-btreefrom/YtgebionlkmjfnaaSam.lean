/- same. -/
import Derived.Test.YtgebionlkmjfnaaAll
import Derived.RangeFuncWrites
namespace Go.Proofs.Ytgebionlkmjfnaa
open Go.ChangeShapes Go.WideShapes Go.RowKit
set_option linter.unusedVariables false
set_option maxRecDepth 100000

open Go.Shelf
attribute [local go_sem] Oper.semAt_some

theorem byte_inj {s s' : ByteArray} (h : s.toList = s'.toList) : s = s' := ByteArray.ext (Array.toList_inj.1 (by rw [← ByteArray.toList_eq, ← ByteArray.toList_eq]; exact h))
theorem prefix_snoc {l pre : List Itm} {x : Itm} {i : Nat} (hpre : pre <+: l) (hi : pre.length = i) (hlen : i < l.length) : x = l[i] ↔ pre ++ [x] <+: l := by
  obtain ⟨r, hr⟩ := hpre
  have hd : l.drop i = r := by rw [← hr, ← hi, List.drop_left]
  rw [List.drop_eq_getElem_cons hlen] at hd
  constructor
  · intro hx
    refine ⟨l.drop (i + 1), ?_⟩
    rw [List.append_assoc, List.singleton_append, hx, hd, hr]
  · rintro ⟨r2, hr2⟩
    rw [← hr, List.append_assoc, List.singleton_append] at hr2
    have := List.append_cancel_left hr2
    rw [← hd] at this
    injection this
theorem len_at (p : Option Addr) (n : Int) (w : World) : Calls Try.prog 12 #[.agg #[.pointer p, .int .i64 n]] w fun e w' => e = .returned (.int .i64 n) ∧ Below w.heap.size w w' := len_is p n w
theorem wpIn_only {F : Fence} {m : Nat} {P : Program} {c : Code} {J K : Act → World → Prop} {Q' : Exit → Act → World → Prop} {a : Act} {w : World} (h : c.wpIn F m P (Exit.then J (fun _ _ _ => False)) a w) (hJ : ∀ a' w', J a' w' → K a' w') : c.wpIn F m P (Exit.then K Q') a w := by
  refine wpIn_mono h ?_
  intro e a' w' hq
  cases e with
  | normal => exact hJ _ _ hq
  | exit id => exact (show False from hq).elim
  | goto l => exact (show False from hq).elim
  | ret => exact (show False from hq).elim
  | panic ch => exact (show False from hq).elim
  | outgrown => exact (show False from hq).elim
theorem len_in (n : Nat) (p : Option Addr) (k : Int) (w : World) : CallsIn Fence.wide n Try.prog 12 #[.agg #[.pointer p, .int .i64 k]] w fun e w' => e = .returned (.int .i64 k) ∧ w' = w.alloc (.cells #[.pointer p, .int .i64 k] 25) := by
  refine callsIn_of_wp Try.func12 rfl trivial ?_ rfl
  simp only [Try.ntmps12, List.size_toArray, List.length_cons, List.length_nil, Nat.reduceAdd, Nat.reduceSub, Array.replicate_succ, Array.replicate_zero, List.push_toArray, List.append_toArray, List.nil_append, List.cons_append]
  gi_wp2
  go_ret
  exact ⟨rfl, rfl⟩
set_option maxHeartbeats 8000000 in
theorem same_is (p : Option Addr) (k : Int) (l : List Itm) (a : Option Addr) (c : Nat) (w : World) (hv : TreeV w p k l) (hs : Sl itv 2 w (.slice a l.length c) l) (hl : l.length ≤ 1000000) :
    Calls Try.prog 15 #[.agg #[.pointer p, .int .i64 k], .slice a l.length c] w fun e w' => e = .returned (.bool true) ∧ Below w.heap.size w w' := by
  refine (callsIn_wide (n := 7)).1 ?_
  have hdd : ∀ k : Nat, (Fence.wide.depth.isSome = true → 1 ≤ k) := fun k h => by cases h
  obtain rfl : k = (l.length : Int) := hv.1
  have HV : Hid (TreeV w p (l.length : Int) l ∧ Sl itv 2 w (.slice a l.length c) l) := ⟨hv, hs⟩
  obtain ⟨wq, hwq⟩ : ∃ wq, (((w.alloc (.cells #[.pointer p, .int .i64 (l.length : Int)] 25)).alloc (.cells #[.slice a l.length c] 26)).alloc (.cells #[.bool false] 4)) = wq := ⟨_, rfl⟩
  have HW0 : Hid (Below w.heap.size w wq ∧ CellsF wq w.heap.size [.pointer p, .int .i64 (l.length : Int)] ∧ CellsF wq (w.heap.size + 1) [.slice a l.length c] ∧ CellsF wq (w.heap.size + 1 + 1) [.bool false]) := by
    show _ ∧ _
    rw [← hwq]
    exact ⟨below3 _ _ _ _, ((CellsF.at _ 25 (by simp) rfl).next (below1 _ _)).next (below1 _ _), (CellsF.at _ 26 (by simp) (by rw [size_alloc])).next (below1 _ _), CellsF.at _ 4 (by simp) (by rw [size_alloc, size_alloc])⟩
  have HWQ : Hid _ := hwq
  clear hwq hv hs
  have HQ : Hid (wq.cell? ⟨w.heap.size, 0, none⟩ = some (.pointer p) ∧ wq.cell? ⟨w.heap.size, 1, none⟩ = some (.int .i64 (l.length : Int)) ∧ wq.cell? ⟨w.heap.size + 1, 0, none⟩ = some (.slice a l.length c)) := ⟨HW0.out.2.1.cs 0 _ rfl, HW0.out.2.1.cs 1 _ rfl, HW0.out.2.2.1.cs 0 _ rfl⟩
  have HS : Hid (∀ w' : World, Below wq.heap.size wq w' → (Below wq.heap.size wq w' ∧ w'.cell? ⟨w.heap.size, 0, none⟩ = some (.pointer p) ∧ w'.cell? ⟨w.heap.size, 1, none⟩ = some (.int .i64 (l.length : Int)) ∧ w'.cell? ⟨w.heap.size + 1, 0, none⟩ = some (.slice a l.length c))) := fun w' kk => ⟨kk, (kk.cell (p := ⟨w.heap.size, 0, none⟩) (World.block_lt_of_cell? wq _ (HQ.out.1))).trans (HQ.out.1), (kk.cell (p := ⟨w.heap.size, 1, none⟩) (World.block_lt_of_cell? wq _ (HQ.out.2.1))).trans (HQ.out.2.1), (kk.cell (p := ⟨w.heap.size + 1, 0, none⟩) (World.block_lt_of_cell? wq _ (HQ.out.2.2))).trans (HQ.out.2.2)⟩
  have HSN : Hid (∀ w' w'' : World, (Below wq.heap.size wq w' ∧ w'.cell? ⟨w.heap.size, 0, none⟩ = some (.pointer p) ∧ w'.cell? ⟨w.heap.size, 1, none⟩ = some (.int .i64 (l.length : Int)) ∧ w'.cell? ⟨w.heap.size + 1, 0, none⟩ = some (.slice a l.length c)) → Below w'.heap.size w' w'' → (Below wq.heap.size wq w'' ∧ w''.cell? ⟨w.heap.size, 0, none⟩ = some (.pointer p) ∧ w''.cell? ⟨w.heap.size, 1, none⟩ = some (.int .i64 (l.length : Int)) ∧ w''.cell? ⟨w.heap.size + 1, 0, none⟩ = some (.slice a l.length c))) := fun w' w'' h kk => HS.out w'' (Below.next h.1 kk)
  have HSD : Hid (∀ w' : World, (Below wq.heap.size wq w' ∧ w'.cell? ⟨w.heap.size, 0, none⟩ = some (.pointer p) ∧ w'.cell? ⟨w.heap.size, 1, none⟩ = some (.int .i64 (l.length : Int)) ∧ w'.cell? ⟨w.heap.size + 1, 0, none⟩ = some (.slice a l.length c)) → (Below wq.heap.size wq w'.drew ∧ w'.drew.cell? ⟨w.heap.size, 0, none⟩ = some (.pointer p) ∧ w'.drew.cell? ⟨w.heap.size, 1, none⟩ = some (.int .i64 (l.length : Int)) ∧ w'.drew.cell? ⟨w.heap.size + 1, 0, none⟩ = some (.slice a l.length c))) := fun w' h => HSN.out w' _ h (Below.refl _ _).drew
  have HSA : Hid (∀ (w' : World) (z : Obj), (Below wq.heap.size wq w' ∧ w'.cell? ⟨w.heap.size, 0, none⟩ = some (.pointer p) ∧ w'.cell? ⟨w.heap.size, 1, none⟩ = some (.int .i64 (l.length : Int)) ∧ w'.cell? ⟨w.heap.size + 1, 0, none⟩ = some (.slice a l.length c)) → (Below wq.heap.size wq (w'.alloc z) ∧ (w'.alloc z).cell? ⟨w.heap.size, 0, none⟩ = some (.pointer p) ∧ (w'.alloc z).cell? ⟨w.heap.size, 1, none⟩ = some (.int .i64 (l.length : Int)) ∧ (w'.alloc z).cell? ⟨w.heap.size + 1, 0, none⟩ = some (.slice a l.length c))) := fun w' z h => HSN.out w' _ h (below1 _ _)
  have HSAD : Hid (∀ (w' : World) (z : Obj), (Below wq.heap.size wq w'.drew ∧ w'.drew.cell? ⟨w.heap.size, 0, none⟩ = some (.pointer p) ∧ w'.drew.cell? ⟨w.heap.size, 1, none⟩ = some (.int .i64 (l.length : Int)) ∧ w'.drew.cell? ⟨w.heap.size + 1, 0, none⟩ = some (.slice a l.length c)) → (Below wq.heap.size wq (w'.alloc z).drew ∧ (w'.alloc z).drew.cell? ⟨w.heap.size, 0, none⟩ = some (.pointer p) ∧ (w'.alloc z).drew.cell? ⟨w.heap.size, 1, none⟩ = some (.int .i64 (l.length : Int)) ∧ (w'.alloc z).drew.cell? ⟨w.heap.size + 1, 0, none⟩ = some (.slice a l.length c))) := fun w' z h => HS.out _ (Below.next (Below.of_drew' h.1) (below1 _ _).drew)
  have hS0 := HS.out wq (Below.refl _ _)
  have HLN : Hid (∀ w', (Below wq.heap.size wq w' ∧ w'.cell? ⟨w.heap.size, 0, none⟩ = some (.pointer p) ∧ w'.cell? ⟨w.heap.size, 1, none⟩ = some (.int .i64 (l.length : Int)) ∧ w'.cell? ⟨w.heap.size + 1, 0, none⟩ = some (.slice a l.length c)) → Calls Try.prog 12 #[.agg #[.pointer p, .int .i64 (l.length : Int)]] w' fun e w'' => e = .returned (.int .i64 (l.length : Int)) ∧ (Below wq.heap.size wq w'' ∧ w''.cell? ⟨w.heap.size, 0, none⟩ = some (.pointer p) ∧ w''.cell? ⟨w.heap.size, 1, none⟩ = some (.int .i64 (l.length : Int)) ∧ w''.cell? ⟨w.heap.size + 1, 0, none⟩ = some (.slice a l.length c))) := fun w' q => (len_is p _ w').mono fun e w'' r => ⟨r.1, HSN.out _ _ q r.2⟩
  refine callsIn_of_wp_marks Try.func15 rfl trivial ?_ rfl
  simp only [Try.ntmps15, List.size_toArray, List.length_cons, List.length_nil, Nat.reduceAdd, Nat.reduceSub, Array.replicate_succ, Array.replicate_zero, List.push_toArray, List.append_toArray, List.nil_append, List.cons_append]
  gi_upto_region 1 with fail
  rw [HWQ.out]
  gi_cut [12] from 60 (fun s12 wx => s12 = .bool false ∧ Hid (Below wq.heap.size wq wx))
  case first =>
    refine wpIn_only ?_ (fun _ _ h => h)
    refine wpIn_wide.2 ?_
    go_region_held (fun (w' : World) => (Below wq.heap.size wq w' ∧ w'.cell? ⟨w.heap.size, 0, none⟩ = some (.pointer p) ∧ w'.cell? ⟨w.heap.size, 1, none⟩ = some (.int .i64 (l.length : Int)) ∧ w'.cell? ⟨w.heap.size + 1, 0, none⟩ = some (.slice a l.length c))) (first | (with_reducible assumption) | (with_reducible exact HSD.out _ (by with_reducible assumption)) | (with_reducible exact HSA.out _ _ (by with_reducible assumption)) | (with_reducible exact HSAD.out _ _ (by with_reducible assumption)))
      (first | ((with_reducible refine Calls.mono (HLN.out _ (by with_reducible assumption)) ?_); rintro e w3 ⟨rfl, hS3⟩; have HS3 : Hid (Below wq.heap.size wq w3) := hS3.1))
    all_goals (try simp only [Exit.then])
    all_goals gi_wp2
    all_goals gi_meet
    all_goals exact ⟨by simp, HS3.out⟩
  case rest =>
    obtain ⟨rfl, HX⟩ := hcut
    clear hS0 HS HSN HSD HSA HSAD HLN HQ HWQ
    have HC : Hid (Below w.heap.size w wc ∧ CellsF wc w.heap.size [.pointer p, .int .i64 (l.length : Int)] ∧ CellsF wc (w.heap.size + 1) [.slice a l.length c] ∧ CellsF wc (w.heap.size + 1 + 1) [.bool false]) := ⟨Below.next HW0.out.1 HX.out, HW0.out.2.1.next HX.out, HW0.out.2.2.1.next HX.out, HW0.out.2.2.2.next HX.out⟩
    clear HX HW0
    obtain ⟨wn, hwn⟩ : ∃ wn, wc.alloc (.cells #[.int .i64 0] 3) = wn := ⟨_, rfl⟩
    have HN : Hid (Below w.heap.size w wn ∧ CellsF wn w.heap.size [.pointer p, .int .i64 (l.length : Int)] ∧ CellsF wn (w.heap.size + 1) [.slice a l.length c] ∧ CellsF wn (w.heap.size + 1 + 1) [.bool false] ∧ CellsF wn wc.heap.size [.int .i64 0] ∧ w.heap.size + 1 + 1 < wc.heap.size ∧ wn.heap.size = wc.heap.size + 1) := by
      show _ ∧ _
      rw [← hwn]
      exact ⟨Below.next HC.out.1 (below1 _ _), HC.out.2.1.next (below1 _ _), HC.out.2.2.1.next (below1 _ _), HC.out.2.2.2.next (below1 _ _), CellsF.at _ 3 (by simp) rfl, HC.out.2.2.2.lt, size_alloc _ _⟩
    have HWN : Hid _ := hwn
    have x0 := HN.out.2.1.cs 0 _ rfl
    have x1 := HN.out.2.1.cs 1 _ rfl
    rw [← hwn] at x0 x1
    clear hwn
    gi_wp2
    rw [HWN.out]
    refine ⟨trivial, (all_in _ p _ wn).mono ?_⟩
    rintro e w5 ⟨rfl, rfl⟩
    clear x0 x1 HWN
    obtain ⟨wl, hwl⟩ : ∃ wl, wn.alloc (.cells #[.pointer p, .int .i64 (l.length : Int)] 25) = wl := ⟨_, rfl⟩
    have HL : Hid (Below w.heap.size w wl ∧ CellsF wl (w.heap.size + 1) [.slice a l.length c] ∧ CellsF wl (w.heap.size + 1 + 1) [.bool false] ∧ CellsF wl wc.heap.size [.int .i64 0] ∧ wl.cell? ⟨wn.heap.size, 0, none⟩ = some (.pointer p) ∧ wl.heap.size = wn.heap.size + 1) := by
      show _ ∧ _
      rw [← hwl]
      exact ⟨Below.next HN.out.1 (below1 _ _), HN.out.2.2.1.next (below1 _ _), HN.out.2.2.2.1.next (below1 _ _), HN.out.2.2.2.2.1.next (below1 _ _), (CellsF.at (w := wn) [.pointer p, .int .i64 (l.length : Int)] 25 (by simp) rfl).cs 0 _ rfl, size_alloc _ _⟩
    rw [hwl]
    clear hwl
    obtain ⟨nb, hnb⟩ : ∃ nb, wc.heap.size = nb := ⟨_, rfl⟩
    rw [hnb] at HL HN
    rw [hnb]
    obtain ⟨tb, htb⟩ : ∃ tb, wn.heap.size = tb := ⟨_, rfl⟩
    rw [htb] at HL HN
    rw [htb]
    clear hnb htb
    gi_wp2
    refine wpIn_rangeFunc_ownF rfl (by omega) (gf := 47) (lb := #[.pointer (some ⟨tb, 0, none⟩)]) rfl trivial (enters_of Try.func47 (by kernel_rfl) rfl)
      (all_stops _ tb p _ l w wl HV.out.1 HL.out.1 (by have := HL.out.2.2.2.2.2; omega) HL.out.2.2.2.2.1) belowK_t (belowK_b HL.out.1.size) (Below.refl _ _) (fun _ => rfl)
      (fun pre W => (pre <+: l ∧ W.cell? ⟨nb, 0, none⟩ = some (.int .i64 (pre.length : Int)) ∧ W.frozen? ⟨nb, 0, none⟩ = false ∧ W.cell? ⟨w.heap.size + 1, 0, none⟩ = some (.slice a l.length c) ∧ W.cell? ⟨w.heap.size + 1 + 1, 0, none⟩ = some (.bool false) ∧ W.frozen? ⟨w.heap.size + 1 + 1, 0, none⟩ = false) ∧ Below w.heap.size w W)
      (fun c pre W => c = .ret ∧ ¬ pre <+: l)
      (OwnFrom.and (Own.from (fun s A B row hs hg hr => ⟨hs.1, cell_kept hs.2.1 hg hr, (frozen_kept hs.2.1 hg hr).trans hs.2.2.1, cell_kept hs.2.2.2.1 hg hr, cell_kept hs.2.2.2.2.1 hg hr, (frozen_kept hs.2.2.2.2.1 hg hr).trans hs.2.2.2.2.2⟩) _) (ownFrom_below (Nat.le_refl _) HL.out.1.size))
      (fun c s A B row hs _ _ => hs)
      ⟨⟨List.nil_prefix, HL.out.2.2.2.1.cs 0 _ rfl, HL.out.2.2.2.1.fz 0, HL.out.2.1.cs 0 _ rfl, HL.out.2.2.1.cs 0 _ rfl, HL.out.2.2.1.fz 0⟩, HL.out.1⟩
      (fun x => { tmps := #[.agg #[.pointer p, .int .i64 (l.length : Int)], .slice a l.length c, .pointer (some ⟨w.heap.size, 0, none⟩), .pointer (some ⟨w.heap.size + 1, 0, none⟩), .pointer (some ⟨w.heap.size + 1 + 1, 0, none⟩), .pointer (some ⟨nb, 0, none⟩), .int .i64 x.1, .string x.2, u8, u9, u10, u11, .bool false, .agg #[.pointer p, .int .i64 (l.length : Int)], .func (.func 47) #[] #[.pointer (some ⟨tb, 0, none⟩)], .int .i64 x.1, .string x.2, undef, undef, undef, undef, undef, undef, undef, undef, undef, undef, undef, undef, undef, undef, undef, undef, undef, undef, undef, undef], defers := [] }) ?assign ?body ?done ?stop
    case assign =>
      intro y x W K hK
      gi_wp2
      exact hK
    case body =>
      rintro y pre x W ⟨⟨hpre, hc, hf, hcl, hr, hrf⟩, hB⟩ hlen
      have hsl := HV.out.2.next itv_ne hB
      have hne : l ≠ [] := fun e => by rw [e] at hlen; simp at hlen
      obtain ⟨yb, yo, yc, hsv, hyc, hyb, hyt⟩ := hsl.itm hne
      obtain ⟨i, hi⟩ : ∃ i, pre.length = i := ⟨_, rfl⟩
      rw [hi] at hlen hc
      have y0 := (hyt i hlen).1
      have y1 := (hyt i hlen).2
      rw [hsv] at hcl
      have hge : ¬ (l.length : Int) ≤ (i : Int) := by omega
      have hlti : (i : Int) < (l.length : Int) := by omega
      have HB : Hid (Below w.heap.size w W) := hB
      have HP : Hid (pre <+: l ∧ pre.length = i) := ⟨hpre, hi⟩
      have HCL : Hid (W.cell? ⟨w.heap.size + 1, 0, none⟩ = some (.slice a l.length c)) := by show _ = _; rw [hcl, hsv]
      have HCC : Hid (W.cell? ⟨nb, 0, none⟩ = some (.int .i64 (i : Int)) ∧ W.frozen? ⟨nb, 0, none⟩ = false ∧ W.cell? ⟨w.heap.size + 1 + 1, 0, none⟩ = some (.bool false) ∧ W.frozen? ⟨w.heap.size + 1 + 1, 0, none⟩ = false) := ⟨hc, hf, hr, hrf⟩
      have HNB : Hid (w.heap.size + 1 + 1 < nb) := HN.out.2.2.2.2.2.1
      by_cases hx : x = l[i]
      · have HPX : Hid (pre ++ [x] <+: l) := (prefix_snoc hpre hi hlen).1 hx
        rw [← hx] at y0 y1
        clear hx hsl hyt hpre hi hB hsv
        gi_wp2
        have hnb := HNB.out
        refine ⟨KeepsOthers.setCell _ _ _, (Below.refl w.heap.size W).setCell (p := ⟨nb, 0, none⟩) (by show w.heap.size ≤ nb; omega) _, ⟨HPX.out, ?_, by rw [World.frozen?_setCell]; exact HCC.out.2.1, ?_, ?_, by rw [World.frozen?_setCell]; exact HCC.out.2.2.2⟩, HB.out.setCell (p := ⟨nb, 0, none⟩) (by show w.heap.size ≤ nb; omega) _⟩
        · rw [List.length_append, HP.out.2]
          exact World.cell?_setCell_same' _ _ _ (by rw [HCC.out.1]; rfl)
        · exact (cell_put _ (by omega)).trans HCL.out
        · exact (cell_put _ (by omega)).trans HCC.out.2.2.1
      · have HNX : Hid (¬ pre ++ [x] <+: l) := fun h => hx ((prefix_snoc hpre hi hlen).2 h)
        have hxx : ¬ (l[i].1 = x.1 ∧ l[i].2 = x.2) := fun h => hx (Prod.ext h.1.symm h.2.symm)
        generalize l[i] = z at *
        obtain ⟨z1, z2⟩ := z
        obtain ⟨x1, x2⟩ := x
        dsimp only at y0 y1 hxx
        clear hx hsl hyt hpre hi hB hsv
        by_cases hz : z1 = x1
        · subst hz
          have hz2 : ¬ z2 = x2 := fun e => hxx ⟨rfl, e⟩
          have hz4 : ¬ z2.toList = x2.toList := fun e => hz2 (byte_inj e)
          have hz3 : (z2.toList == x2.toList) = false := by simpa using hz4
          gi_wp2
          exact ⟨KeepsOthers.setCell _ _ _, rfl, HNX.out⟩
        · have hz3 : (z1 == x1) = false := by simpa using hz
          gi_wp2
          exact ⟨KeepsOthers.setCell _ _ _, rfl, HNX.out⟩
    case done =>
      rintro D ys W hD rfl ⟨⟨hpre, hc, hf, hcl, hr, hrf⟩, hB⟩ hK
      have HR : Hid (W.cell? ⟨w.heap.size + 1 + 1, 0, none⟩ = some (.bool false) ∧ Below w.heap.size w W ∧ w.heap.size ≤ wl.heap.size) := ⟨hr, hB, HL.out.1.size⟩
      clear hB hpre
      gi_wp2
      have hK' := (KeepsOthers.setCell W ⟨w.heap.size + 1 + 1, 0, none⟩ (.bool true)).same D _ hK rfl
      refine ⟨by simp, .inl ⟨_, _, rfl, run_takeDeferred hK', ?_⟩⟩
      have hc5 := cell_kept (World.cell?_setCell_same' W ⟨w.heap.size + 1 + 1, 0, none⟩ (.bool true) (by rw [HR.out.1]; rfl)) (grownBy_putObj' _ D (.deferred none)) (fun r e => by cases e; exact ⟨_, hK', rfl⟩)
      refine ⟨.bool true, ?_, rfl, (HR.out.2.1.setCell (p := ⟨w.heap.size + 1 + 1, 0, none⟩) (by show w.heap.size ≤ w.heap.size + 1 + 1; omega) _).trans (belowK_b (w := w) (Nat.le_refl _) _ D _ _ (Nat.le_trans HR.out.2.2 hD) hK' rfl rfl)⟩
      simp [results, Try.f15, go_sem, hc5]
    case stop =>
      rintro D c pre W hD hpre ⟨_, h⟩ _
      exact absurd hpre h
end Go.Proofs.Ytgebionlkmjfnaa
