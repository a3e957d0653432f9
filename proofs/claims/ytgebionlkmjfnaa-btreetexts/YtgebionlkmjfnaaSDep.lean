/- Deep, With. -/
import Derived.Test.YtgebionlkmjfnaaSGet
namespace Go.Proofs.Ytgebionlkmjfnaa.Sx
open Go.ChangeShapes Go.WideShapes Go.RowKit
set_option linter.unusedVariables false
set_option maxRecDepth 100000

theorem insL_len (l : List Itm) (hs : Sorted l) (k : ByteArray) (v : Int) : (insL l k v).length = if (getL l k).isSome then l.length else l.length + 1 := by
  rcases around hs k with ⟨h1, h2, h3⟩ | ⟨h1, h2, h3, h4, v0, h5⟩
  · have e1 := insL_mid (M := []) v h2 h3
    have e2 := getL_mid (M := []) h2 h3
    rw [List.append_nil, List.take_append_drop] at e1 e2
    rw [e1, e2, getL_nil, insL_nil]
    have := congrArg List.length (List.take_append_drop (pos l k) l)
    simp only [List.length_append] at this
    simp; omega
  · have e1 := insL_mid (M := [(k, v0)]) v h3 h4
    have e2 := getL_mid (M := [(k, v0)]) h3 h4
    rw [List.append_assoc, List.singleton_append, ← h5, List.take_append_drop] at e1 e2
    rw [e1, e2, getL_one, insL_one]
    simp; omega
theorem insL_sorted (l : List Itm) (hs : Sorted l) (k : ByteArray) (v : Int) : Sorted (insL l k v) := by
  unfold insL
  refine List.pairwise_append.2 ⟨hs.sublist List.filter_sublist, List.pairwise_cons.2 ⟨fun x hx => of_decide_eq_true (List.mem_filter.1 hx).2, hs.sublist List.filter_sublist⟩, fun x hx y hy => ?_⟩
  have hx' : kc x.1 k = -1 := of_decide_eq_true (List.mem_filter.1 hx).2
  rcases List.mem_cons.1 hy with rfl | hy
  · exact hx'
  · exact KOrd.thru _ _ _ hx' (of_decide_eq_true (List.mem_filter.1 hy).2)
theorem loadTree {w : World} {b : Nat} (l : List Value) (h : CellsF w b l) (hn : l.length = 2) : (loadVar 53 ⟨b, 0, none⟩).run Try.prog w = .ok (.agg l.toArray) w := by
  have hl := loads l (n := 2) (w := w) (b := b) (o := 0) hn (fun j x hx => by rw [Nat.zero_add]; exact h.cs j x hx)
  simp [loadVar, Sem.run_bind, loadCells, hl]
set_option maxHeartbeats 4000000 in
theorem With_none (k : ByteArray) (v : Int) (w : World) :
    Calls Try.prog 17 #[.agg #[.pointer none, .int .i64 0], .string k, .int .i64 v] w fun e w' => ∃ p' n', e = .returned (.agg #[.pointer p', .int .i64 n']) ∧ Below w.heap.size w w' ∧ TreeV w' p' n' [(k, v)] := by
  obtain ⟨W, hW⟩ : ∃ W, (((w.alloc (.cells #[.pointer none, .int .i64 0] 53)).alloc (.cells #[.pointer (some ⟨w.heap.size + 1 + 1 + 1, 0, none⟩), .int .i64 1] 53)).alloc (.cells #[.string k, .int .i64 v] 75)).alloc (.cells #[.slice (some ⟨w.heap.size + 1 + 1, 0, none⟩) 1 1, .slice none 0 0] 79) = W := ⟨_, rfl⟩
  have HC : Hid (Below w.heap.size w W ∧ CellsF W (w.heap.size + 1) [.pointer (some ⟨w.heap.size + 1 + 1 + 1, 0, none⟩), .int .i64 1] ∧ CellsF W (w.heap.size + 1 + 1) [.string k, .int .i64 v] ∧ CellsF W (w.heap.size + 1 + 1 + 1) [.slice (some ⟨w.heap.size + 1 + 1, 0, none⟩) 1 1, .slice none 0 0]) := by
    show _ ∧ _
    rw [← hW]
    exact ⟨Below.next (below3 _ _ _ _) (below1 _ _), ((CellsF.at _ 53 (by simp) (by rw [size_alloc])).next (below1 _ _)).next (below1 _ _), (CellsF.at _ 75 (by simp) (by rw [size_alloc, size_alloc])).next (below1 _ _), CellsF.at _ 79 (by simp) (by rw [size_alloc, size_alloc, size_alloc])⟩
  have HT : Hid (TreeV W (some ⟨w.heap.size + 1 + 1 + 1, 0, none⟩) 1 [(k, v)]) :=
    ⟨rfl, List.pairwise_singleton _ _, .inr ⟨_, 0, [(k, v)], rfl, NdAt.of HC.out.2.2.2 ⟨_, 1, rfl, rw_lit itv_len HC.out.2.2.1, Nat.le_refl _, fun e => by cases e⟩ (Sl.nil _ _ _), ⟨Nat.le_refl _, by show 1 ≤ 12; omega⟩, rfl⟩⟩
  have HW : Hid _ := hW
  clear hW
  go_enter Try.func17, Try.ntmps17
  go_wp2_with fail
  rw [HW.out]
  try simp only [Exit.inBlock, Exit.then]
  refine bodyPost_ret (end_cell rfl rfl (loadTree _ HC.out.2.1 rfl)) rfl ?_
  exact ⟨_, _, rfl, HC.out.1, HT.out⟩
/-- A block of a pointer and a number. -/
def BoxH (w : World) (g : Nat) (p : Option Addr) (n : Int) : Prop := w.heap[g]? = some (.cells #[.pointer p, .int .i64 n] 53 (0, 0))
theorem BoxH.at {w : World} {g : Nat} (p : Option Addr) (n : Int) (hg : g = w.heap.size) : BoxH (w.alloc (.cells #[.pointer p, .int .i64 n] 53)) g p n := by
  subst hg
  exact heap_alloc_new w _
theorem BoxH.next {w w' : World} {g : Nat} {p : Option Addr} {n : Int} (h : BoxH w g p n) (q : Below w.heap.size w w') : BoxH w' g p n := (q.block g (Array.getElem?_eq_some_iff.1 h).1).trans h
theorem BoxH.far {w w' : World} {g : Nat} {p : Option Addr} {n : Int} (h : BoxH w g p n) (hg : w'.heap[g]? = w.heap[g]?) : BoxH w' g p n := hg.trans h
theorem BoxH.c0 {w : World} {g : Nat} {p : Option Addr} {n : Int} (h : BoxH w g p n) : w.cell? ⟨g, 0, none⟩ = some (.pointer p) := by unfold BoxH at h; simp [World.cell?, h]
theorem BoxH.c1 {w : World} {g : Nat} {p : Option Addr} {n : Int} (h : BoxH w g p n) : w.cell? ⟨g, 1, none⟩ = some (.int .i64 n) := by unfold BoxH at h; simp [World.cell?, h]
theorem BoxH.c2 {w : World} {g : Nat} {p : Option Addr} {n : Int} (h : BoxH w g p n) (j : Nat) (hj : 2 ≤ j) : w.cell? ⟨g, j, none⟩ = none := by
  unfold BoxH at h
  simp [World.cell?, h]
  omega
theorem BoxH.fz {w : World} {g : Nat} {p : Option Addr} {n : Int} (h : BoxH w g p n) (j : Nat) : w.frozen? ⟨g, j, none⟩ = false := by unfold BoxH at h; simp [World.frozen?, h]
theorem BoxH.cells {w : World} {g : Nat} {p : Option Addr} {n : Int} (h : BoxH w g p n) : CellsF w g [.pointer p, .int .i64 n] := ⟨fun i v hv => by
  match i, hv with
  | 0, hv => cases hv; exact h.c0
  | 1, hv => cases hv; exact h.c1, fun j => h.fz j, by simp⟩
theorem BoxH.set0 {w : World} {g : Nat} {p : Option Addr} {n : Int} (h : BoxH w g p n) (q : Option Addr) : BoxH (w.setCell ⟨g, 0, none⟩ (.pointer q)) g q n := by
  unfold BoxH at h ⊢
  simp [World.setCell, Array.getElem?_modify, h]
theorem BoxH.set1 {w : World} {g : Nat} {p : Option Addr} {n : Int} (h : BoxH w g p n) (m : Int) : BoxH (w.setCell ⟨g, 1, none⟩ (.int .i64 m)) g p m := by
  unfold BoxH at h ⊢
  simp [World.setCell, Array.getElem?_modify, h]
/-- What lies is not in such a block. -/
theorem Sl.off {w w' : World} {g : Nat} {p : Option Addr} {n : Int} (hb : BoxH w g p n) (hw : ∀ q, q ≠ g → w'.heap[q]? = w.heap[q]?) {v : Value} {l : List Itm} (h : Sl itv 2 w v l) : Sl itv 2 w' v l := by
  obtain ⟨a, c, h1, h2, h3, h4⟩ := h
  refine ⟨a, c, h1, h2.far (fun b o e hl => hw b (fun e' => ?_)), h3, h4⟩
  subst e'
  obtain ⟨b', o', e2, hc⟩ := h2 hl
  rw [e] at e2
  cases e2
  cases l with
  | nil => exact hl rfl
  | cons x r =>
    have c0 := hc 0 x rfl 0 _ rfl
    have c1 := hc 0 x rfl 1 _ rfl
    rw [Nat.zero_mul, Nat.add_zero] at c0 c1
    rcases Nat.lt_or_ge o 1 with ho | ho
    · obtain rfl : o = 0 := by omega
      rw [hb.c0] at c0
      cases c0
    · rw [hb.c2 (o + 1) (by omega)] at c1
      cases c1
theorem Sl.offP {w w' : World} {g : Nat} {p : Option Addr} {n : Int} (hb : BoxH w g p n) (hw : ∀ q, q ≠ g → w'.heap[q]? = w.heap[q]?) {v : Value} {l : List Nat} (hl2 : l = [] ∨ 2 ≤ l.length) (h : Sl ptv 1 w v l) : Sl ptv 1 w' v l := by
  obtain ⟨a, c, h1, h2, h3, h4⟩ := h
  refine ⟨a, c, h1, h2.far (fun b o e hl => hw b (fun e' => ?_)), h3, h4⟩
  subst e'
  obtain ⟨b', o', e2, hc⟩ := h2 hl
  rw [e] at e2
  cases e2
  match l, hl, hl2 with
  | [], hl, _ => exact hl rfl
  | [x], _, hl2 => rcases hl2 with e | e <;> simp at e
  | x :: y :: r, _, _ =>
    have c1 := hc 1 y rfl 0 _ rfl
    rw [Nat.one_mul, Nat.add_zero] at c1
    rcases Nat.lt_or_ge o 1 with ho | ho
    · obtain rfl : o = 0 := by omega
      rw [Nat.zero_add, hb.c1] at c1
      cases c1
    · rw [hb.c2 (o + 1) (by omega)] at c1
      cases c1
theorem NdAt.off {w w' : World} {g : Nat} {p : Option Addr} {n : Int} (hb : BoxH w g p n) (hw : ∀ q, q ≠ g → w'.heap[q]? = w.heap[q]?) {b : Nat} {xs : List Itm} {bs : List Nat} (hl2 : bs = [] ∨ 2 ≤ bs.length) (h : NdAt itv w b xs bs) : NdAt itv w' b xs bs := by
  obtain ⟨u, v, h1, h2, h3, h4⟩ := h
  have hbg : b ≠ g := fun e => by
    subst e
    obtain ⟨a, c, e1, _⟩ := h3
    rw [hb.c0, e1] at h1
    cases h1
  exact ⟨u, v, (World.cell?_of_block (a := ⟨b, 0, none⟩) (hw b hbg)).trans h1, (World.cell?_of_block (a := ⟨b, 1, none⟩) (hw b hbg)).trans h2, h3.off hb hw, h4.offP hb hw hl2⟩
theorem At.off {w w' : World} {g : Nat} {p : Option Addr} {n : Int} (hb : BoxH w g p n) (hw : ∀ q, q ≠ g → w'.heap[q]? = w.heap[q]?) : ∀ {d : Nat} {b : Nat} {t : T d} {lo hi : Nat}, 1 ≤ lo → Sz lo hi d t → At itv w d b t → At itv w' d b t
  | 0, _, _, _, _, _, _, h => NdAt.off hb hw (.inl rfl) h
  | d + 1, _, t, lo, hi, hlo, hz, ⟨bs, h1, h2⟩ => ⟨bs, h1.off hb hw (.inr (by rw [h2.1, hz.2.2.1]; have := hz.1; omega)), h2.1, fun i b k e1 e2 => At.off hb hw (lo := 6) (hi := 12) (by omega) (hz.2.2.2 k (List.mem_of_getElem? e2)) (h2.2 i b k e1 e2)⟩

set_option maxHeartbeats 8000000 in
theorem With_some (b n : Nat) (l : List Itm) (d : Nat) (t : T d) (k : ByteArray) (v : Int) (w : World) (hn : l.length = n) (hl : n ≤ 1000000) (hs : Sorted l) (ha : At itv w d b t) (hz : Sz 1 12 d t) (hf : flat d t = l) :
    Calls Try.prog 17 #[.agg #[.pointer (some ⟨b, 0, none⟩), .int .i64 n], .string k, .int .i64 v] w fun e w' => ∃ p' n', e = .returned (.agg #[.pointer p', .int .i64 n']) ∧ Below w.heap.size w w' ∧ TreeV w' p' n' (insL l k v) := by
  obtain ⟨W, hW⟩ : ∃ W, (w.alloc (.cells #[.pointer (some ⟨b, 0, none⟩), .int .i64 n] 53)).alloc (.cells #[.pointer none, .int .i64 0] 53) = W := ⟨_, rfl⟩
  have HC : Hid (Below w.heap.size w W ∧ BoxH W w.heap.size (some ⟨b, 0, none⟩) n ∧ BoxH W (w.heap.size + 1) none 0) := by
    show _ ∧ _
    rw [← hW]
    exact ⟨below2 _ _ _, (BoxH.at _ _ rfl).next (below1 _ _), BoxH.at _ _ (by rw [size_alloc])⟩
  have HG : Hid (∀ w', Below w.heap.size w w' → Calls Try.prog 20 #[.agg #[.pointer (some ⟨b, 0, none⟩), .int .i64 n], .string k] w' fun e w'' => e = .returned (.tuple #[.int .i64 (gotV (getL l k)), .bool (getL l k).isSome]) ∧ Below w'.heap.size w' w'') := fun w' q => get_is _ _ l k w' (TreeV.next ⟨by rw [hn], hs, .inr ⟨b, d, t, rfl, ha, hz, hf⟩⟩ q)
  have HWI : Hid (∀ w', Below w.heap.size w w' → Calls Try.prog 31 #[.pointer (some ⟨b, 0, none⟩), .agg #[.string k, .int .i64 v]] w' fun e w'' => ∃ b' t', e = .returned (.pointer (some ⟨b', 0, none⟩)) ∧ Below w'.heap.size w' w'' ∧ At itv w'' d b' t' ∧ flat d t' = insL l k v ∧ Sz 1 13 d t') := fun w' q => by
    have := with_is k v d 1 t b w' (At.next itv_ne q ha) hz (by rw [hf]; exact hs)
    rw [hf] at this
    exact this
  have hil := insL_len l hs k v
  have his := insL_sorted l hs k v
  obtain ⟨L', hL'⟩ : ∃ L', insL l k v = L' := ⟨_, rfl⟩
  rw [hL', hn] at hil
  rw [hL'] at his HWI ⊢
  generalize gotV (getL l k) = gv at *
  obtain ⟨z, hz'⟩ : ∃ z, (getL l k).isSome = z := ⟨_, rfl⟩
  rw [hz'] at hil HG
  have HW : Hid _ := hW
  have x0 := HC.out.2.1.c0
  have x1 := HC.out.2.1.c1
  rw [← hW] at x0 x1
  clear hW hL' hz' hs ha hz hf
  cases z with
  | true =>
    rw [if_pos rfl] at hil
    have HFI : Hid (Sorted L' ∧ L'.length = n ∧ (n : Int) = (L'.length : Int)) := ⟨his, hil, by omega⟩
    clear hil his
    go_enter Try.func17, Try.ntmps17
    go_wp2_with fail
    rw [HW.out]
    refine Calls.mono (HG.out _ HC.out.1) ?_; rintro e w1 ⟨rfl, k1⟩
    have HBX1 : Hid (BoxH w1 w.heap.size (some ⟨b, 0, none⟩) n) := HC.out.2.1.next k1
    have HRX1 : Hid (BoxH w1 (w.heap.size + 1) none 0) := HC.out.2.2.next k1
    have HB1 : Hid (Below w.heap.size w w1) := Below.next HC.out.1 k1
    clear k1 x0 x1
    have x0 := HBX1.out.c0
    have x1 := HBX1.out.c1
    have f0 := HBX1.out.fz 0
    have f1 := HBX1.out.fz 1
    have HBX2 : Hid (BoxH w1 w.heap.size (some ⟨b, 0, none⟩) n) := HBX1.out
    have HRX2 : Hid (BoxH w1 (w.heap.size + 1) none 0) := HRX1.out
    have HB2 : Hid (Below w.heap.size w w1) := HB1.out
    
    go_wp2_with fail
    refine Calls.mono (HWI.out _ HB2.out) ?_; rintro e w2 ⟨b', t', rfl, k2, hat, hfl, hsz⟩
    have HBX3 : Hid (BoxH w2 w.heap.size (some ⟨b, 0, none⟩) n) := HBX2.out.next k2
    have HRX3 : Hid (BoxH w2 (w.heap.size + 1) none 0) := HRX2.out.next k2
    have HB3 : Hid (Below w.heap.size w w2) := Below.next HB2.out k2
    have HAT : Hid (At itv w2 d b' t' ∧ flat d t' = L' ∧ Sz 1 13 d t') := ⟨hat, hfl, hsz⟩
    clear k2 hat hfl hsz x0 x1 f0 f1
    have x0 := HBX3.out.c0
    have f0 := HBX3.out.fz 0
    obtain ⟨w3, hw3⟩ : ∃ w3, w2.setCell ⟨w.heap.size, 0, none⟩ (.pointer (some ⟨b', 0, none⟩)) = w3 := ⟨_, rfl⟩
    have HS3 : Hid (BoxH w3 w.heap.size (some ⟨b', 0, none⟩) n ∧ BoxH w3 (w.heap.size + 1) none 0 ∧ Below w.heap.size w w3 ∧ At itv w3 d b' t') := by
      show _ ∧ _
      rw [← hw3]
      exact ⟨HBX3.out.set0 _, HRX3.out.far (heap_set _ _ _ (by omega)), below_set HB3.out _ _ _ (Nat.le_refl _), At.off HBX3.out (fun q hq => heap_set _ _ _ hq) (Nat.le_refl _) HAT.out.2.2 HAT.out.1⟩
    obtain ⟨kbs, hnd⟩ := At.nd HS3.out.2.2.2
    obtain ⟨u2, v2, e0, _, hu2, _⟩ := hnd
    obtain ⟨a2, l2, rfl⟩ := slices_shape hu2
    have y0 := HS3.out.1.c0
    have HSZ : Hid (w3.heap.size = w2.heap.size) := by show _ = _; rw [← hw3, size_set]
    have HW3 : Hid _ := hw3
    rw [← hw3] at e0 y0
    clear hw3 hu2
    by_cases hgt : 12 < (itemsT t').length
    · have hgti : (12 : Int) < ((itemsT t').length : Int) := by omega
      have HHV : Hid (∀ w', Below w3.heap.size w3 w' → NdAt itv w' (w2.heap.size + 1) [] [b'] → Calls Try.prog 32 #[.pointer (some ⟨w2.heap.size + 1, 0, none⟩), .int .i64 0] w' fun e w'' => ∃ b'' t'', e = .returned (.pointer (some ⟨b'', 0, none⟩)) ∧ Below w'.heap.size w' w'' ∧ At itv w'' (d + 1) b'' t'' ∧ flat (d + 1) t'' = L' ∧ Sz 1 12 (d + 1) t'') := fun w' q hn' => by
        have := halved_is w' (w2.heap.size + 1) [] [b'] [t'] hn' (Kids.one (At.next itv_ne q HS3.out.2.2.2)) rfl (by simp) 0 (Nat.le_refl _) (by simp) (HAT.out.2.2.set (by show 13 ≤ _; omega) (Nat.le_trans (Sz.lo HAT.out.2.2).2 (by omega)))
        refine this.mono ?_
        rintro e w'' ⟨b'', m, L, R, r1, r2, r3, r4, r5, r6⟩
        refine ⟨b'', _, r1, r2, r3, ?_, ⟨by simp, by simp, by simp, ?_⟩⟩
        · have h1 := flat_two [] [t'] rfl 0 (Nat.le_refl _) m L R
          rw [h1]
          simp only [List.getElem_cons_zero] at r4
          rw [← r4, HAT.out.2.1]
          simp [pre, suf]
        · intro q hq
          have hq' : q ∈ [L, R] := hq
          rcases List.mem_cons.1 hq' with rfl | hq'
          · exact r5
          · rcases List.mem_singleton.1 hq' with rfl
            exact r6
      obtain ⟨W4, hW4⟩ : ∃ W4, (w3.alloc (.cells #[.pointer (some ⟨b', 0, none⟩)] 51)).alloc (.cells #[.slice none 0 0, .slice (some ⟨w2.heap.size, 0, none⟩) 1 1] 79) = W4 := ⟨_, rfl⟩
      have HN4 : Hid (Below w3.heap.size w3 W4 ∧ NdAt itv W4 (w2.heap.size + 1) [] [b']) := by
        show _ ∧ _
        rw [← hW4]
        have h1 : CellsF ((w3.alloc (.cells #[.pointer (some ⟨b', 0, none⟩)] 51)).alloc (.cells #[.slice none 0 0, .slice (some ⟨w2.heap.size, 0, none⟩) 1 1] 79)) w2.heap.size [.pointer (some ⟨b', 0, none⟩)] := (CellsF.at _ 51 (by simp) HSZ.out.symm).next (below1 _ _)
        exact ⟨below2 _ _ _, NdAt.of (CellsF.at _ 79 (by simp) (by rw [size_alloc, HSZ.out])) (Sl.nil _ _ _) ⟨_, 1, rfl, rw_lit ptv_len h1, Nat.le_refl _, fun e => by cases e⟩⟩
      have HW4 : Hid _ := hW4
      clear hW4
      go_wp2_with fail
      rw [HW3.out, HW4.out]
      refine Calls.mono (HHV.out _ HN4.out.1 HN4.out.2) ?_; rintro e w5 ⟨b'', t'', rfl, k5, hat5, hfl5, hsz5⟩
      have HS5 : Hid (BoxH w5 w.heap.size (some ⟨b', 0, none⟩) n ∧ BoxH w5 (w.heap.size + 1) none 0 ∧ Below w.heap.size w w5 ∧ At itv w5 (d + 1) b'' t'' ∧ flat (d + 1) t'' = L' ∧ Sz 1 12 (d + 1) t'') := ⟨(HS3.out.1.next HN4.out.1).next k5, (HS3.out.2.1.next HN4.out.1).next k5, Below.next HS3.out.2.2.1 (Below.next HN4.out.1 k5), hat5, hfl5, hsz5⟩
      clear k5 hat5 hfl5 hsz5 x0 f0 e0 y0
      have x0 := HS5.out.1.c0
      have f0 := HS5.out.1.fz 0
      obtain ⟨w6, hw6⟩ : ∃ w6, w5.setCell ⟨w.heap.size, 0, none⟩ (.pointer (some ⟨b'', 0, none⟩)) = w6 := ⟨_, rfl⟩
      have HS6 : Hid (BoxH w6 w.heap.size (some ⟨b'', 0, none⟩) n ∧ BoxH w6 (w.heap.size + 1) none 0 ∧ Below w.heap.size w w6 ∧ At itv w6 (d + 1) b'' t'') := by
        show _ ∧ _
        rw [← hw6]
        exact ⟨HS5.out.1.set0 _, HS5.out.2.1.far (heap_set _ _ _ (by omega)), below_set HS5.out.2.2.1 _ _ _ (Nat.le_refl _), At.off HS5.out.1 (fun q hq => heap_set _ _ _ hq) (Nat.le_refl _) HS5.out.2.2.2.2.2 HS5.out.2.2.2.1⟩
      have HW6 : Hid _ := hw6
      clear hw6
      have HBX : Hid (BoxH w6 w.heap.size (some ⟨b'', 0, none⟩) n) := HS6.out.1
      have HRX : Hid (BoxH w6 (w.heap.size + 1) none 0) := HS6.out.2.1
      have HBE : Hid (Below w.heap.size w w6) := HS6.out.2.2.1
      have HTE : Hid (∀ u0 u1, TreeV ((w6.setCell ⟨(w.heap.size + 1), 0, none⟩ u0).setCell ⟨(w.heap.size + 1), 1, none⟩ u1) (some ⟨b'', 0, none⟩) n L') := fun u0 u1 => ⟨HFI.out.2.2, HFI.out.1, .inr ⟨b'', d + 1, t'', rfl, At.off HRX.out (fun q hq => (heap_set _ _ _ hq).trans (heap_set _ _ _ hq)) (Nat.le_refl _) HS5.out.2.2.2.2.2 HS6.out.2.2.2, HS5.out.2.2.2.2.2, HS5.out.2.2.2.2.1⟩⟩
      go_upto_region 10 with fail
      rw [HW6.out]
      clear x0 f0
      have x0 := HBX.out.c0
      have x1 := HBX.out.c1
      have z0 := HRX.out.c0
      have z1 := HRX.out.c1
      have f0 := HRX.out.fz 0
      have f1 := HRX.out.fz 1
      go_wp2_with fail
      try simp only [Exit.inBlock, Exit.then]
      refine bodyPost_ret (end_cell rfl rfl (loadTree _ (HRX.out.cells.two rfl _ _) rfl)) rfl ?_
      exact ⟨_, _, rfl, below_two HBE.out _ (Nat.le_succ _) _ _, HTE.out _ _⟩
    · have hgti : ¬ (12 : Int) < ((itemsT t').length : Int) := by omega
      have HBX : Hid (BoxH w3 w.heap.size (some ⟨b', 0, none⟩) n) := HS3.out.1
      have HRX : Hid (BoxH w3 (w.heap.size + 1) none 0) := HS3.out.2.1
      have HBE : Hid (Below w.heap.size w w3) := HS3.out.2.2.1
      have HTE : Hid (∀ u0 u1, TreeV ((w3.setCell ⟨(w.heap.size + 1), 0, none⟩ u0).setCell ⟨(w.heap.size + 1), 1, none⟩ u1) (some ⟨b', 0, none⟩) n L') := fun u0 u1 => ⟨HFI.out.2.2, HFI.out.1, .inr ⟨b', d, t', rfl, At.off HRX.out (fun q hq => (heap_set _ _ _ hq).trans (heap_set _ _ _ hq)) (Nat.le_refl _) HAT.out.2.2 HS3.out.2.2.2, HAT.out.2.2.set (Sz.lo HAT.out.2.2).1 (by omega), HAT.out.2.1⟩⟩
      go_upto_region 10 with fail
      rw [HW3.out]
      clear x0 f0 e0 y0
      have x0 := HBX.out.c0
      have x1 := HBX.out.c1
      have z0 := HRX.out.c0
      have z1 := HRX.out.c1
      have f0 := HRX.out.fz 0
      have f1 := HRX.out.fz 1
      go_wp2_with fail
      try simp only [Exit.inBlock, Exit.then]
      refine bodyPost_ret (end_cell rfl rfl (loadTree _ (HRX.out.cells.two rfl _ _) rfl)) rfl ?_
      exact ⟨_, _, rfl, below_two HBE.out _ (Nat.le_succ _) _ _, HTE.out _ _⟩
  | false =>
    rw [if_neg (by simp)] at hil
    have HFI : Hid (Sorted L' ∧ L'.length = n + 1 ∧ (n : Int) + 1 = (L'.length : Int)) := ⟨his, hil, by omega⟩
    clear hil his
    go_enter Try.func17, Try.ntmps17
    go_wp2_with fail
    rw [HW.out]
    refine Calls.mono (HG.out _ HC.out.1) ?_; rintro e w1 ⟨rfl, k1⟩
    have HBX1 : Hid (BoxH w1 w.heap.size (some ⟨b, 0, none⟩) n) := HC.out.2.1.next k1
    have HRX1 : Hid (BoxH w1 (w.heap.size + 1) none 0) := HC.out.2.2.next k1
    have HB1 : Hid (Below w.heap.size w w1) := Below.next HC.out.1 k1
    clear k1 x0 x1
    have x0 := HBX1.out.c0
    have x1 := HBX1.out.c1
    have f0 := HBX1.out.fz 0
    have f1 := HBX1.out.fz 1
    have HBX2 : Hid (BoxH (w1.setCell ⟨w.heap.size, 1, none⟩ (.int .i64 ((n : Int) + 1))) w.heap.size (some ⟨b, 0, none⟩) ((n : Int) + 1)) := HBX1.out.set1 _
    have HRX2 : Hid (BoxH (w1.setCell ⟨w.heap.size, 1, none⟩ (.int .i64 ((n : Int) + 1))) (w.heap.size + 1) none 0) := HRX1.out.far (heap_set _ _ _ (by omega))
    have HB2 : Hid (Below w.heap.size w (w1.setCell ⟨w.heap.size, 1, none⟩ (.int .i64 ((n : Int) + 1)))) := below_set HB1.out _ _ _ (Nat.le_refl _)
    have wn : IntKind.i64.wrap ((n : Int) + 1) = (n : Int) + 1 := by rw [IntKind.wrap_i64]; omega
    go_wp2_with fail
    refine Calls.mono (HWI.out _ HB2.out) ?_; rintro e w2 ⟨b', t', rfl, k2, hat, hfl, hsz⟩
    have HBX3 : Hid (BoxH w2 w.heap.size (some ⟨b, 0, none⟩) ((n : Int) + 1)) := HBX2.out.next k2
    have HRX3 : Hid (BoxH w2 (w.heap.size + 1) none 0) := HRX2.out.next k2
    have HB3 : Hid (Below w.heap.size w w2) := Below.next HB2.out k2
    have HAT : Hid (At itv w2 d b' t' ∧ flat d t' = L' ∧ Sz 1 13 d t') := ⟨hat, hfl, hsz⟩
    clear k2 hat hfl hsz x0 x1 f0 f1
    have x0 := HBX3.out.c0
    have f0 := HBX3.out.fz 0
    obtain ⟨w3, hw3⟩ : ∃ w3, w2.setCell ⟨w.heap.size, 0, none⟩ (.pointer (some ⟨b', 0, none⟩)) = w3 := ⟨_, rfl⟩
    have HS3 : Hid (BoxH w3 w.heap.size (some ⟨b', 0, none⟩) ((n : Int) + 1) ∧ BoxH w3 (w.heap.size + 1) none 0 ∧ Below w.heap.size w w3 ∧ At itv w3 d b' t') := by
      show _ ∧ _
      rw [← hw3]
      exact ⟨HBX3.out.set0 _, HRX3.out.far (heap_set _ _ _ (by omega)), below_set HB3.out _ _ _ (Nat.le_refl _), At.off HBX3.out (fun q hq => heap_set _ _ _ hq) (Nat.le_refl _) HAT.out.2.2 HAT.out.1⟩
    obtain ⟨kbs, hnd⟩ := At.nd HS3.out.2.2.2
    obtain ⟨u2, v2, e0, _, hu2, _⟩ := hnd
    obtain ⟨a2, l2, rfl⟩ := slices_shape hu2
    have y0 := HS3.out.1.c0
    have HSZ : Hid (w3.heap.size = w2.heap.size) := by show _ = _; rw [← hw3, size_set]
    have HW3 : Hid _ := hw3
    rw [← hw3] at e0 y0
    clear hw3 hu2
    by_cases hgt : 12 < (itemsT t').length
    · have hgti : (12 : Int) < ((itemsT t').length : Int) := by omega
      have HHV : Hid (∀ w', Below w3.heap.size w3 w' → NdAt itv w' (w2.heap.size + 1) [] [b'] → Calls Try.prog 32 #[.pointer (some ⟨w2.heap.size + 1, 0, none⟩), .int .i64 0] w' fun e w'' => ∃ b'' t'', e = .returned (.pointer (some ⟨b'', 0, none⟩)) ∧ Below w'.heap.size w' w'' ∧ At itv w'' (d + 1) b'' t'' ∧ flat (d + 1) t'' = L' ∧ Sz 1 12 (d + 1) t'') := fun w' q hn' => by
        have := halved_is w' (w2.heap.size + 1) [] [b'] [t'] hn' (Kids.one (At.next itv_ne q HS3.out.2.2.2)) rfl (by simp) 0 (Nat.le_refl _) (by simp) (HAT.out.2.2.set (by show 13 ≤ _; omega) (Nat.le_trans (Sz.lo HAT.out.2.2).2 (by omega)))
        refine this.mono ?_
        rintro e w'' ⟨b'', m, L, R, r1, r2, r3, r4, r5, r6⟩
        refine ⟨b'', _, r1, r2, r3, ?_, ⟨by simp, by simp, by simp, ?_⟩⟩
        · have h1 := flat_two [] [t'] rfl 0 (Nat.le_refl _) m L R
          rw [h1]
          simp only [List.getElem_cons_zero] at r4
          rw [← r4, HAT.out.2.1]
          simp [pre, suf]
        · intro q hq
          have hq' : q ∈ [L, R] := hq
          rcases List.mem_cons.1 hq' with rfl | hq'
          · exact r5
          · rcases List.mem_singleton.1 hq' with rfl
            exact r6
      obtain ⟨W4, hW4⟩ : ∃ W4, (w3.alloc (.cells #[.pointer (some ⟨b', 0, none⟩)] 51)).alloc (.cells #[.slice none 0 0, .slice (some ⟨w2.heap.size, 0, none⟩) 1 1] 79) = W4 := ⟨_, rfl⟩
      have HN4 : Hid (Below w3.heap.size w3 W4 ∧ NdAt itv W4 (w2.heap.size + 1) [] [b']) := by
        show _ ∧ _
        rw [← hW4]
        have h1 : CellsF ((w3.alloc (.cells #[.pointer (some ⟨b', 0, none⟩)] 51)).alloc (.cells #[.slice none 0 0, .slice (some ⟨w2.heap.size, 0, none⟩) 1 1] 79)) w2.heap.size [.pointer (some ⟨b', 0, none⟩)] := (CellsF.at _ 51 (by simp) HSZ.out.symm).next (below1 _ _)
        exact ⟨below2 _ _ _, NdAt.of (CellsF.at _ 79 (by simp) (by rw [size_alloc, HSZ.out])) (Sl.nil _ _ _) ⟨_, 1, rfl, rw_lit ptv_len h1, Nat.le_refl _, fun e => by cases e⟩⟩
      have HW4 : Hid _ := hW4
      clear hW4
      go_wp2_with fail
      rw [HW3.out, HW4.out]
      refine Calls.mono (HHV.out _ HN4.out.1 HN4.out.2) ?_; rintro e w5 ⟨b'', t'', rfl, k5, hat5, hfl5, hsz5⟩
      have HS5 : Hid (BoxH w5 w.heap.size (some ⟨b', 0, none⟩) ((n : Int) + 1) ∧ BoxH w5 (w.heap.size + 1) none 0 ∧ Below w.heap.size w w5 ∧ At itv w5 (d + 1) b'' t'' ∧ flat (d + 1) t'' = L' ∧ Sz 1 12 (d + 1) t'') := ⟨(HS3.out.1.next HN4.out.1).next k5, (HS3.out.2.1.next HN4.out.1).next k5, Below.next HS3.out.2.2.1 (Below.next HN4.out.1 k5), hat5, hfl5, hsz5⟩
      clear k5 hat5 hfl5 hsz5 x0 f0 e0 y0
      have x0 := HS5.out.1.c0
      have f0 := HS5.out.1.fz 0
      obtain ⟨w6, hw6⟩ : ∃ w6, w5.setCell ⟨w.heap.size, 0, none⟩ (.pointer (some ⟨b'', 0, none⟩)) = w6 := ⟨_, rfl⟩
      have HS6 : Hid (BoxH w6 w.heap.size (some ⟨b'', 0, none⟩) ((n : Int) + 1) ∧ BoxH w6 (w.heap.size + 1) none 0 ∧ Below w.heap.size w w6 ∧ At itv w6 (d + 1) b'' t'') := by
        show _ ∧ _
        rw [← hw6]
        exact ⟨HS5.out.1.set0 _, HS5.out.2.1.far (heap_set _ _ _ (by omega)), below_set HS5.out.2.2.1 _ _ _ (Nat.le_refl _), At.off HS5.out.1 (fun q hq => heap_set _ _ _ hq) (Nat.le_refl _) HS5.out.2.2.2.2.2 HS5.out.2.2.2.1⟩
      have HW6 : Hid _ := hw6
      clear hw6
      have HBX : Hid (BoxH w6 w.heap.size (some ⟨b'', 0, none⟩) ((n : Int) + 1)) := HS6.out.1
      have HRX : Hid (BoxH w6 (w.heap.size + 1) none 0) := HS6.out.2.1
      have HBE : Hid (Below w.heap.size w w6) := HS6.out.2.2.1
      have HTE : Hid (∀ u0 u1, TreeV ((w6.setCell ⟨(w.heap.size + 1), 0, none⟩ u0).setCell ⟨(w.heap.size + 1), 1, none⟩ u1) (some ⟨b'', 0, none⟩) ((n : Int) + 1) L') := fun u0 u1 => ⟨HFI.out.2.2, HFI.out.1, .inr ⟨b'', d + 1, t'', rfl, At.off HRX.out (fun q hq => (heap_set _ _ _ hq).trans (heap_set _ _ _ hq)) (Nat.le_refl _) HS5.out.2.2.2.2.2 HS6.out.2.2.2, HS5.out.2.2.2.2.2, HS5.out.2.2.2.2.1⟩⟩
      go_upto_region 10 with fail
      rw [HW6.out]
      clear x0 f0
      have x0 := HBX.out.c0
      have x1 := HBX.out.c1
      have z0 := HRX.out.c0
      have z1 := HRX.out.c1
      have f0 := HRX.out.fz 0
      have f1 := HRX.out.fz 1
      go_wp2_with fail
      try simp only [Exit.inBlock, Exit.then]
      refine bodyPost_ret (end_cell rfl rfl (loadTree _ (HRX.out.cells.two rfl _ _) rfl)) rfl ?_
      exact ⟨_, _, rfl, below_two HBE.out _ (Nat.le_succ _) _ _, HTE.out _ _⟩
    · have hgti : ¬ (12 : Int) < ((itemsT t').length : Int) := by omega
      have HBX : Hid (BoxH w3 w.heap.size (some ⟨b', 0, none⟩) ((n : Int) + 1)) := HS3.out.1
      have HRX : Hid (BoxH w3 (w.heap.size + 1) none 0) := HS3.out.2.1
      have HBE : Hid (Below w.heap.size w w3) := HS3.out.2.2.1
      have HTE : Hid (∀ u0 u1, TreeV ((w3.setCell ⟨(w.heap.size + 1), 0, none⟩ u0).setCell ⟨(w.heap.size + 1), 1, none⟩ u1) (some ⟨b', 0, none⟩) ((n : Int) + 1) L') := fun u0 u1 => ⟨HFI.out.2.2, HFI.out.1, .inr ⟨b', d, t', rfl, At.off HRX.out (fun q hq => (heap_set _ _ _ hq).trans (heap_set _ _ _ hq)) (Nat.le_refl _) HAT.out.2.2 HS3.out.2.2.2, HAT.out.2.2.set (Sz.lo HAT.out.2.2).1 (by omega), HAT.out.2.1⟩⟩
      go_upto_region 10 with fail
      rw [HW3.out]
      clear x0 f0 e0 y0
      have x0 := HBX.out.c0
      have x1 := HBX.out.c1
      have z0 := HRX.out.c0
      have z1 := HRX.out.c1
      have f0 := HRX.out.fz 0
      have f1 := HRX.out.fz 1
      go_wp2_with fail
      try simp only [Exit.inBlock, Exit.then]
      refine bodyPost_ret (end_cell rfl rfl (loadTree _ (HRX.out.cells.two rfl _ _) rfl)) rfl ?_
      exact ⟨_, _, rfl, below_two HBE.out _ (Nat.le_succ _) _ _, HTE.out _ _⟩
theorem With_is (p : Option Addr) (n : Int) (l : List Itm) (k : ByteArray) (v : Int) (w : World) (hl : l.length ≤ 1000000) (h : TreeV w p n l) :
    Calls Try.prog 17 #[.agg #[.pointer p, .int .i64 n], .string k, .int .i64 v] w fun e w' => ∃ p' n', e = .returned (.agg #[.pointer p', .int .i64 n']) ∧ Below w.heap.size w w' ∧ TreeV w' p' n' (insL l k v) := by
  obtain ⟨h1, h2, h3⟩ := h
  rcases h3 with ⟨rfl, rfl⟩ | ⟨b, d, t, rfl, e2, e3, e4⟩
  · subst h1
    exact With_none k v w
  · subst h1
    exact With_some b l.length l d t k v w rfl hl h2 e2 e3 e4
end Go.Proofs.Ytgebionlkmjfnaa.Sx
