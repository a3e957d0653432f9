/- Without. -/
import Derived.Test.YtgebionlkmjfnaaWou
namespace Go.Proofs.Ytgebionlkmjfnaa
open Go.ChangeShapes Go.WideShapes Go.RowKit
set_option linter.unusedVariables false
set_option maxRecDepth 100000

theorem depth_one {w : World} : ∀ {d d' : Nat} {b : Nat} {t : T d} {t' : T d'} {lo hi lo' hi' : Nat}, At itv w d b t → At itv w d' b t' → Sz lo hi d t → Sz lo' hi' d' t' → d = d'
  | 0, 0, _, _, _, _, _, _, _, _, _, _, _ => rfl
  | 0, d' + 1, b, t, t', _, _, _, _, ⟨u, v, _, h2, _, a, c, e, _⟩, ⟨bs, ⟨u', v', _, h2', _, a', c', e', _⟩, hk⟩, _, hz => by
    exfalso
    have hv := h2.symm.trans h2'
    rw [e, e'] at hv
    have hv3 : ([] : List Nat).length = bs.length := by
      injection hv with hv
      injection hv
    have h1 := hk.1
    have h3 := hz.2.2.1
    rw [List.length_nil] at hv3
    omega
  | d + 1, 0, b, t, t', _, _, _, _, ⟨bs, ⟨u', v', _, h2', _, a', c', e', _⟩, hk⟩, ⟨u, v, _, h2, _, a, c, e, _⟩, hz, _ => by
    exfalso
    have hv := h2.symm.trans h2'
    rw [e, e'] at hv
    have hv3 : ([] : List Nat).length = bs.length := by
      injection hv with hv
      injection hv
    have h1 := hk.1
    have h3 := hz.2.2.1
    rw [List.length_nil] at hv3
    omega
  | d + 1, d' + 1, b, t, t', _, _, _, _, ⟨bs, ⟨u, v, _, h2, _, hv⟩, hk⟩, ⟨bs', ⟨u', v', _, h2', _, hv'⟩, hk'⟩, hz, hz' => by
    have l1 : 0 < bs.length := by rw [hk.1, hz.2.2.1]; omega
    have l2 : 0 < bs'.length := by rw [hk'.1, hz'.2.2.1]; omega
    have k1 : 0 < t.2.length := by rw [hz.2.2.1]; omega
    have k2 : 0 < t'.2.length := by rw [hz'.2.2.1]; omega
    obtain ⟨pb, po, pc, e1, _, _, p1⟩ := hv.ptr (fun e => by rw [e] at l1; simp at l1)
    obtain ⟨pb', po', pc', e2, _, _, p2⟩ := hv'.ptr (fun e => by rw [e] at l2; simp at l2)
    have hv2 := h2.symm.trans h2'
    rw [e1, e2] at hv2
    injection hv2 with hv2
    injection hv2 with q1 q2 q3
    injection q1 with q1
    injection q1 with q1 q4
    subst q1
    subst q4
    have q := (p1 0 l1).symm.trans (p2 0 l2)
    have q' : bs[0] = bs'[0] := by
      injection q with q
      injection q with q
      injection q with q
      injection q
    have a1 := hk.at 0 l1 k1
    have a2 := hk'.at 0 l2 k2
    rw [q'] at a1
    rw [depth_one a1 a2 (hz.2.2.2 _ (List.getElem_mem k1)) (hz'.2.2.2 _ (List.getElem_mem k2))]
theorem NdAt.offQ {w w' : World} {g : Nat} {p : Option Addr} {n : Int} (hb : BoxH w g p n) (hw : ∀ q, q ≠ g → w'.heap[q]? = w.heap[q]?) {b x : Nat} {xs : List Itm} (hx : p ≠ some ⟨x, 0, none⟩) (h : NdAt itv w b xs [x]) : NdAt itv w' b xs [x] := by
  obtain ⟨u, v, h1, h2, h3, h4⟩ := h
  have hbg : b ≠ g := fun e => by
    subst e
    obtain ⟨a, c, e1, _⟩ := h3
    rw [hb.c0, e1] at h1
    cases h1
  refine ⟨u, v, (World.cell?_of_block (a := ⟨b, 0, none⟩) (hw b hbg)).trans h1, (World.cell?_of_block (a := ⟨b, 1, none⟩) (hw b hbg)).trans h2, h3.off hb hw, ?_⟩
  obtain ⟨a, c, e1, e2, e3, e4⟩ := h4
  refine ⟨a, c, e1, e2.far (fun b' o' e hl => hw b' (fun e' => ?_)), e3, e4⟩
  subst e'
  obtain ⟨b2, o2, e5, hc⟩ := e2 hl
  rw [e] at e5
  cases e5
  have c0 := hc 0 x rfl 0 _ rfl
  rw [Nat.zero_mul, Nat.add_zero] at c0
  rcases Nat.lt_or_ge o' 1 with ho | ho
  · obtain rfl : o' = 0 := by omega
    rw [hb.c0] at c0
    injection c0 with c0
    injection c0 with c0
    exact hx c0
  · rcases Nat.lt_or_ge o' 2 with ho2 | ho2
    · obtain rfl : o' = 1 := by omega
      rw [hb.c1] at c0
      cases c0
    · rw [hb.c2 o' ho2] at c0
      cases c0
theorem delL_len {l : List Itm} (hs : Sorted l) {k : Int} (hg : (getL l k).isSome = true) : (delL l k).length + 1 = l.length := by
  obtain ⟨h1, h2, h3, h4, v0, h5⟩ := getL_around hs hg
  have := delL_mid (M := [(k, v0)]) h3 h4
  rw [List.append_assoc, List.singleton_append, ← h5, List.take_append_drop, delL_one] at this
  rw [this]
  simp only [List.length_append, List.length_take, List.length_drop, List.length_nil]
  omega
theorem delL_no {l : List Itm} (hs : Sorted l) {k : Int} (hg : (getL l k).isSome = false) : delL l k = l := by
  rcases around hs k with ⟨h1, h2, h3⟩ | ⟨h1, h2, h3, h4, v0, h5⟩
  · have := delL_mid (M := []) h2 h3
    rw [List.append_nil, List.take_append_drop, delL_nil, List.append_nil, List.take_append_drop] at this
    exact this
  · exfalso
    have e2 := getL_mid (M := [(k, v0)]) h3 h4
    rw [List.append_assoc, List.singleton_append, ← h5, List.take_append_drop, getL_one] at e2
    rw [e2] at hg
    cases hg
theorem delL_sorted {l : List Itm} (hs : Sorted l) (k : Int) : Sorted (delL l k) := hs.sublist List.filter_sublist
set_option maxHeartbeats 4000000 in
theorem Without_no (p : Option Addr) (n : Int) (l : List Itm) (k : Int) (w : World) (h : TreeV w p n l) (hg : (getL l k).isSome = false) :
    Calls Try.prog 9 #[.agg #[.pointer p, .int .i64 n], .int .i64 k] w fun e w' => ∃ p' n', e = .returned (.agg #[.pointer p', .int .i64 n']) ∧ Below w.heap.size w w' ∧ TreeV w' p' n' (delL l k) := by
  rw [delL_no h.2.1 hg]
  have HH : Hid (TreeV w p n l) := h
  obtain ⟨W, hW⟩ : ∃ W, (w.alloc (.cells #[.pointer p, .int .i64 n] 25)).alloc (.cells #[.pointer none, .int .i64 0] 25) = W := ⟨_, rfl⟩
  have HC : Hid (Below w.heap.size w W ∧ BoxH W w.heap.size p n ∧ BoxH W (w.heap.size + 1) none 0) := by
    show _ ∧ _
    rw [← hW]
    exact ⟨below2 _ _ _, (BoxH.at _ _ rfl).next (below1 _ _), BoxH.at _ _ (by rw [size_alloc])⟩
  have HG : Hid (∀ w', Below w.heap.size w w' → Calls Try.prog 11 #[.agg #[.pointer p, .int .i64 n], .int .i64 k] w' fun e w'' => e = .returned (.tuple #[.string (gotV (getL l k)), .bool false]) ∧ Below w'.heap.size w' w'') := fun w' q => by
    have := get_is p n l k w' (h.next q)
    rw [hg] at this
    exact this
  generalize gotV (getL l k) = gv at *
  have HW : Hid _ := hW
  have x0 := HC.out.2.1.c0
  have x1 := HC.out.2.1.c1
  rw [← hW] at x0 x1
  clear hW h hg
  go_enter Try.func9, Try.ntmps9
  go_wp2_with fail
  rw [HW.out]
  refine Calls.mono (HG.out _ HC.out.1) ?_; rintro e w1 ⟨rfl, k1⟩
  have HBX : Hid (BoxH w1 w.heap.size p n) := HC.out.2.1.next k1
  have HRX : Hid (BoxH w1 (w.heap.size + 1) none 0) := HC.out.2.2.next k1
  have HBE : Hid (Below w.heap.size w w1) := Below.next HC.out.1 k1
  have HTE : Hid (∀ u0 u1, TreeV ((w1.setCell ⟨(w.heap.size + 1), 0, none⟩ u0).setCell ⟨(w.heap.size + 1), 1, none⟩ u1) p n l) := fun u0 u1 => HH.out.next (below_two HBE.out _ (Nat.le_succ _) _ _)
  clear k1 x0 x1
  have x0 := HBX.out.c0
  have x1 := HBX.out.c1
  have z0 := HRX.out.c0
  have z1 := HRX.out.c1
  have f0 := HRX.out.fz 0
  have f1 := HRX.out.fz 1
  go_wp2_with fail
  try simp only [Exit.inBlock, Exit.then]
  refine bodyPost_ret (end_cell rfl rfl (loadTree _ (HRX.out.cells.two rfl _ _) rfl)) rfl ?_
  exact ⟨_, _, rfl, below_two HBE.out _ (Nat.le_succ _) _ _, HTE.out _ _⟩
set_option maxHeartbeats 4000000 in
theorem Without_last (b : Nat) (l : List Itm) (k : Int) (w : World) (h : TreeV w (some ⟨b, 0, none⟩) 1 l) (hg : (getL l k).isSome = true) :
    Calls Try.prog 9 #[.agg #[.pointer (some ⟨b, 0, none⟩), .int .i64 1], .int .i64 k] w fun e w' => ∃ p' n', e = .returned (.agg #[.pointer p', .int .i64 n']) ∧ Below w.heap.size w w' ∧ TreeV w' p' n' (delL l k) := by
  have hd : delL l k = [] := by
    have h1 := delL_len h.2.1 hg
    have h2 := h.1
    exact List.eq_nil_of_length_eq_zero (by omega)
  rw [hd]
  obtain ⟨W, hW⟩ : ∃ W, (w.alloc (.cells #[.pointer (some ⟨b, 0, none⟩), .int .i64 1] 25)).alloc (.cells #[.pointer none, .int .i64 0] 25) = W := ⟨_, rfl⟩
  have HC : Hid (Below w.heap.size w W ∧ BoxH W w.heap.size (some ⟨b, 0, none⟩) 1 ∧ BoxH W (w.heap.size + 1) none 0) := by
    show _ ∧ _
    rw [← hW]
    exact ⟨below2 _ _ _, (BoxH.at _ _ rfl).next (below1 _ _), BoxH.at _ _ (by rw [size_alloc])⟩
  have HG : Hid (∀ w', Below w.heap.size w w' → Calls Try.prog 11 #[.agg #[.pointer (some ⟨b, 0, none⟩), .int .i64 1], .int .i64 k] w' fun e w'' => e = .returned (.tuple #[.string (gotV (getL l k)), .bool true]) ∧ Below w'.heap.size w' w'') := fun w' q => by
    have := get_is _ _ l k w' (h.next q)
    rw [hg] at this
    exact this
  generalize gotV (getL l k) = gv at *
  have HW : Hid _ := hW
  have x0 := HC.out.2.1.c0
  have x1 := HC.out.2.1.c1
  rw [← hW] at x0 x1
  clear hW h hg hd
  go_enter Try.func9, Try.ntmps9
  go_wp2_with fail
  rw [HW.out]
  refine Calls.mono (HG.out _ HC.out.1) ?_; rintro e w1 ⟨rfl, k1⟩
  have HBX : Hid (BoxH w1 w.heap.size (some ⟨b, 0, none⟩) 1) := HC.out.2.1.next k1
  have HRX : Hid (BoxH w1 (w.heap.size + 1) none 0) := HC.out.2.2.next k1
  have HBE : Hid (Below w.heap.size w w1) := Below.next HC.out.1 k1
  have HTE : Hid (∀ u0 u1, TreeV ((w1.setCell ⟨(w.heap.size + 1), 0, none⟩ u0).setCell ⟨(w.heap.size + 1), 1, none⟩ u1) none 0 []) := fun u0 u1 => TreeV.none _
  clear k1 x0 x1
  have x0 := HBX.out.c0
  have x1 := HBX.out.c1
  have z0 := HRX.out.c0
  have z1 := HRX.out.c1
  have f0 := HRX.out.fz 0
  have f1 := HRX.out.fz 1
  go_wp2_with fail
  try simp only [Exit.inBlock, Exit.then]
  refine bodyPost_ret (end_cell rfl rfl (loadTree _ (HRX.out.cells.two rfl _ _) rfl)) rfl ?_
  exact ⟨_, _, rfl, below_two HBE.out _ (Nat.le_succ _) _ _, HTE.out _ _⟩
set_option maxHeartbeats 8000000 in
theorem Without_more (b n : Nat) (l : List Itm) (d : Nat) (t : T d) (k : Int) (w : World) (hn : l.length = n) (hl : n ≤ 1000000) (hn1 : n ≠ 1) (hs : Sorted l) (ha : At itv w d b t) (hz : Sz 1 12 d t) (hf : flat d t = l) (hg : (getL l k).isSome = true) :
    Calls Try.prog 9 #[.agg #[.pointer (some ⟨b, 0, none⟩), .int .i64 n], .int .i64 k] w fun e w' => ∃ p' n', e = .returned (.agg #[.pointer p', .int .i64 n']) ∧ Below w.heap.size w w' ∧ TreeV w' p' n' (delL l k) := by
  obtain ⟨W, hW⟩ : ∃ W, (w.alloc (.cells #[.pointer (some ⟨b, 0, none⟩), .int .i64 n] 25)).alloc (.cells #[.pointer none, .int .i64 0] 25) = W := ⟨_, rfl⟩
  have HC : Hid (Below w.heap.size w W ∧ BoxH W w.heap.size (some ⟨b, 0, none⟩) n ∧ BoxH W (w.heap.size + 1) none 0) := by
    show _ ∧ _
    rw [← hW]
    exact ⟨below2 _ _ _, (BoxH.at _ _ rfl).next (below1 _ _), BoxH.at _ _ (by rw [size_alloc])⟩
  have HG : Hid (∀ w', Below w.heap.size w w' → Calls Try.prog 11 #[.agg #[.pointer (some ⟨b, 0, none⟩), .int .i64 n], .int .i64 k] w' fun e w'' => e = .returned (.tuple #[.string (gotV (getL l k)), .bool true]) ∧ Below w'.heap.size w' w'') := fun w' q => by
    have := get_is _ _ l k w' (TreeV.next ⟨by rw [hn], hs, .inr ⟨b, d, t, rfl, ha, hz, hf⟩⟩ q)
    rw [hg] at this
    exact this
  have HWI : Hid (∀ w', Below w.heap.size w w' → Calls Try.prog 24 #[.pointer (some ⟨b, 0, none⟩), .int .i64 k] w' fun e w'' => ∃ b' t', e = .returned (.pointer (some ⟨b', 0, none⟩)) ∧ Below w'.heap.size w' w'' ∧ At itv w'' d b' t' ∧ flat d t' = delL l k ∧ Sz 0 12 d t') := fun w' q => by
    have := without_is d k 1 t b w' (At.next itv_ne q ha) (Nat.le_refl _) hz (by rw [hf]; exact hs) (by rw [hf]; exact hg)
    rw [hf] at this
    exact this
  have hil := delL_len hs hg
  have his := delL_sorted hs k
  obtain ⟨L', hL'⟩ : ∃ L', delL l k = L' := ⟨_, rfl⟩
  rw [hL', hn] at hil
  rw [hL'] at his HWI ⊢
  generalize gotV (getL l k) = gv at *
  have HW : Hid _ := hW
  have HA0 : Hid (At itv w d b t ∧ Sz 1 12 d t) := ⟨ha, hz⟩
  have HFI : Hid (Sorted L' ∧ L'.length + 1 = n ∧ (n : Int) - 1 = (L'.length : Int) ∧ 1 ≤ L'.length) := ⟨his, hil, by omega, by omega⟩
  have x0 := HC.out.2.1.c0
  have x1 := HC.out.2.1.c1
  rw [← hW] at x0 x1
  have hn1i : ¬ (n : Int) = 1 := by omega
  have wn : IntKind.i64.wrap ((n : Int) - 1) = (n : Int) - 1 := by rw [IntKind.wrap_i64]; omega
  clear hW hL' hs ha hz hf hil his hg
  go_enter Try.func9, Try.ntmps9
  go_wp2_with fail
  rw [HW.out]
  refine Calls.mono (HG.out _ HC.out.1) ?_; rintro e w1 ⟨rfl, k1⟩
  have HBX1 : Hid (BoxH w1 w.heap.size (some ⟨b, 0, none⟩) n) := HC.out.2.1.next k1
  have HRX1 : Hid (BoxH w1 (w.heap.size + 1) none 0) := HC.out.2.2.next k1
  have HB1 : Hid (Below w.heap.size w w1) := Below.next HC.out.1 k1
  clear k1 x0 x1
  have x0 := HBX1.out.c0
  have x1 := HBX1.out.c1
  have f1 := HBX1.out.fz 1
  have HBX2 : Hid (BoxH (w1.setCell ⟨w.heap.size, 1, none⟩ (.int .i64 ((n : Int) - 1))) w.heap.size (some ⟨b, 0, none⟩) ((n : Int) - 1)) := HBX1.out.set1 _
  have HRX2 : Hid (BoxH (w1.setCell ⟨w.heap.size, 1, none⟩ (.int .i64 ((n : Int) - 1))) (w.heap.size + 1) none 0) := HRX1.out.far (heap_set _ _ _ (by omega))
  have HB2 : Hid (Below w.heap.size w (w1.setCell ⟨w.heap.size, 1, none⟩ (.int .i64 ((n : Int) - 1)))) := below_set HB1.out _ _ _ (Nat.le_refl _)
  go_wp2_with fail
  refine Calls.mono (HWI.out _ HB2.out) ?_; rintro e w2 ⟨b', t', rfl, k2, hat, hfl, hsz⟩
  have HBX3 : Hid (BoxH w2 w.heap.size (some ⟨b, 0, none⟩) ((n : Int) - 1)) := HBX2.out.next k2
  have HRX3 : Hid (BoxH w2 (w.heap.size + 1) none 0) := HRX2.out.next k2
  have HB3 : Hid (Below w.heap.size w w2) := Below.next HB2.out k2
  have HAT : Hid (At itv w2 d b' t' ∧ flat d t' = L' ∧ Sz 0 12 d t') := ⟨hat, hfl, hsz⟩
  clear k2 hat hfl hsz x0 x1 f1
  have x0 := HBX3.out.c0
  have f0 := HBX3.out.fz 0
  obtain ⟨w3, hw3⟩ : ∃ w3, w2.setCell ⟨w.heap.size, 0, none⟩ (.pointer (some ⟨b', 0, none⟩)) = w3 := ⟨_, rfl⟩
  have HS3 : Hid (BoxH w3 w.heap.size (some ⟨b', 0, none⟩) ((n : Int) - 1) ∧ BoxH w3 (w.heap.size + 1) none 0 ∧ Below w.heap.size w w3) := by
    show _ ∧ _
    rw [← hw3]
    exact ⟨HBX3.out.set0 _, HRX3.out.far (heap_set _ _ _ (by omega)), below_set HB3.out _ _ _ (Nat.le_refl _)⟩
  have y0 := HS3.out.1.c0
  have HW3 : Hid _ := hw3
  rw [← hw3] at y0
  by_cases hze : (itemsT t').length = 0
  · cases d with
    | zero =>
      exfalso
      have h1 := HFI.out.2.2.2
      have h2 := HAT.out.2.1
      have h3 : List.length (α := Itm) t' = 0 := hze
      have h4 : List.length (α := Itm) t' = L'.length := congrArg List.length h2
      omega
    | succ d =>
      obtain ⟨xs', ks'⟩ := t'
      obtain ⟨bs', hnd, hkk⟩ := HAT.out.1
      obtain ⟨_, _, hz3, hz4⟩ := HAT.out.2.2
      dsimp only at hnd hkk hz3 hz4
      have hx0 : xs' = [] := List.eq_nil_of_length_eq_zero hze
      subst hx0
      obtain ⟨k0, hk0⟩ : ∃ k0, ks' = [k0] := by
        match ks', hz3 with
        | [k0], _ => exact ⟨k0, rfl⟩
      subst hk0
      obtain ⟨kb0, hb0⟩ : ∃ kb0, bs' = [kb0] := by
        have := hkk.1
        match bs', this with
        | [kb0], _ => exact ⟨kb0, rfl⟩
      subst hb0
      have hkid := hkk.at 0 (by simp) (by simp)
      have hzk := hz4 k0 (List.mem_singleton.2 rfl)
      have hne : (some ⟨b, 0, none⟩ : Option Addr) ≠ some ⟨kb0, 0, none⟩ := fun e => by
        cases e
        have := depth_one hkid (At.next itv_ne HB3.out HA0.out.1) hzk HA0.out.2
        omega
      have hnd3 : NdAt itv w3 b' [] [kb0] := by rw [← hw3]; exact NdAt.offQ HBX3.out (fun q hq => heap_set _ _ _ hq) hne hnd
      have HK3 : Hid (At itv w3 d kb0 k0 ∧ flat d k0 = L' ∧ Sz 6 12 d k0) := by
        refine ⟨?_, ?_, hzk⟩
        · rw [← hw3]; exact At.off HBX3.out (fun q hq => heap_set _ _ _ hq) (by omega) hzk hkid
        · have := HAT.out.2.1
          exact this
      obtain ⟨u2, v2, e0, e1, hu2, hv2⟩ := hnd3
      obtain ⟨a2, l2, rfl⟩ := slices_shape hu2
      obtain ⟨pb, po, pc, rfl, hpc, hpb, hpt⟩ := hv2.ptr (by simp)
      have p0 := hpt 0 (by simp)
      rw [Nat.zero_mul, Nat.add_zero, List.getElem_cons_zero] at p0
      rw [List.length_nil] at e0
      rw [List.length_singleton] at e1
      have HE3 : Hid (w3.cell? ⟨b', 0, none⟩ = some (.slice a2 0 l2) ∧ w3.cell? ⟨b', 1, none⟩ = some (.slice (some ⟨pb, po, none⟩) 1 pc) ∧ w3.cell? ⟨pb, po, none⟩ = some (.pointer (some ⟨kb0, 0, none⟩))) := ⟨e0, e1, p0⟩
      rw [← hw3] at e0 e1 p0
      clear hw3 hu2 hv2 hpt hkid hzk hne hnd hkk hz3 hz4 hze
      obtain ⟨w6, hw6⟩ : ∃ w6, w3.setCell ⟨w.heap.size, 0, none⟩ (.pointer (some ⟨kb0, 0, none⟩)) = w6 := ⟨_, rfl⟩
      have HS6 : Hid (BoxH w6 w.heap.size (some ⟨kb0, 0, none⟩) ((n : Int) - 1) ∧ BoxH w6 (w.heap.size + 1) none 0 ∧ Below w.heap.size w w6 ∧ At itv w6 d kb0 k0) := by
        show _ ∧ _
        rw [← hw6]
        exact ⟨HS3.out.1.set0 _, HS3.out.2.1.far (heap_set _ _ _ (by omega)), below_set HS3.out.2.2 _ _ _ (Nat.le_refl _), At.off HS3.out.1 (fun q hq => heap_set _ _ _ hq) (by omega) HK3.out.2.2 HK3.out.1⟩
      have HW6 : Hid _ := hw6
      clear hw6
      have HBX : Hid (BoxH w6 w.heap.size (some ⟨kb0, 0, none⟩) ((n : Int) - 1)) := HS6.out.1
      have HRX : Hid (BoxH w6 (w.heap.size + 1) none 0) := HS6.out.2.1
      have HBE : Hid (Below w.heap.size w w6) := HS6.out.2.2.1
      have HTE : Hid (∀ u0 u1, TreeV ((w6.setCell ⟨(w.heap.size + 1), 0, none⟩ u0).setCell ⟨(w.heap.size + 1), 1, none⟩ u1) (some ⟨kb0, 0, none⟩) ((n : Int) - 1) L') := fun u0 u1 => ⟨HFI.out.2.2.1, HFI.out.1, .inr ⟨kb0, d, k0, rfl, At.off HRX.out (fun q hq => (heap_set _ _ _ hq).trans (heap_set _ _ _ hq)) (by omega) HK3.out.2.2 HS6.out.2.2.2, HK3.out.2.2.mono (by omega) (Nat.le_refl _), HK3.out.2.1⟩⟩
      go_upto_region 9 with fail
      rw [HW3.out]
      clear x0 f0 e0 e1 p0 y0
      have e1 := HE3.out.2.1
      have p0 := HE3.out.2.2
      have y0 := HS3.out.1.c0
      have f0 := HS3.out.1.fz 0
      go_upto_region 10 with fail
      rw [HW6.out]
      clear e1 p0 y0 f0
      have x0 := HBX.out.c0
      have x1 := HBX.out.c1
      have z0 := HRX.out.c0
      have z1 := HRX.out.c1
      have f0 := HRX.out.fz 0
      have f1 := HRX.out.fz 1
      go_wp2_with fail
      try simp only [Exit.inBlock, Exit.then]
      refine bodyPost_ret (end_cell rfl rfl (loadTree _ (HRX.out.cells.two rfl _ _) rfl)) rfl ?_
      exact ⟨_, _, rfl, below_two HBE.out _ (Nat.le_succ _) _ _, HTE.out _ _⟩
  · have hsz1 : Sz 1 12 d t' := HAT.out.2.2.set (by omega) (Sz.lo HAT.out.2.2).2
    have hat3 : At itv w3 d b' t' := by rw [← hw3]; exact At.off HBX3.out (fun q hq => heap_set _ _ _ hq) (Nat.le_refl _) hsz1 HAT.out.1
    have HA3 : Hid (At itv w3 d b' t' ∧ Sz 1 12 d t') := ⟨hat3, hsz1⟩
    obtain ⟨kbs, hnd⟩ := At.nd hat3
    obtain ⟨u2, v2, e0, _, hu2, _⟩ := hnd
    obtain ⟨a2, l2, rfl⟩ := slices_shape hu2
    rw [← hw3] at e0
    have hzei : ¬ ((itemsT t').length : Int) = 0 := by omega
    have hzeb : (((itemsT t').length : Int) == 0) = false := by simpa using hze
    have HBX : Hid (BoxH w3 w.heap.size (some ⟨b', 0, none⟩) ((n : Int) - 1)) := HS3.out.1
    have HRX : Hid (BoxH w3 (w.heap.size + 1) none 0) := HS3.out.2.1
    have HBE : Hid (Below w.heap.size w w3) := HS3.out.2.2
    have HTE : Hid (∀ u0 u1, TreeV ((w3.setCell ⟨(w.heap.size + 1), 0, none⟩ u0).setCell ⟨(w.heap.size + 1), 1, none⟩ u1) (some ⟨b', 0, none⟩) ((n : Int) - 1) L') := fun u0 u1 => ⟨HFI.out.2.2.1, HFI.out.1, .inr ⟨b', d, t', rfl, At.off HRX.out (fun q hq => (heap_set _ _ _ hq).trans (heap_set _ _ _ hq)) (Nat.le_refl _) HA3.out.2 HA3.out.1, HA3.out.2, HAT.out.2.1⟩⟩
    clear hw3 hu2 hat3 hsz1
    go_upto_region 10 with fail
    rw [HW3.out]
    clear x0 f0 e0 y0 hzei hzeb
    have x0 := HBX.out.c0
    have x1 := HBX.out.c1
    have z0 := HRX.out.c0
    have z1 := HRX.out.c1
    have f0 := HRX.out.fz 0
    have f1 := HRX.out.fz 1
    go_wp2_with fail
    try simp only [Exit.inBlock, Exit.then]
    refine bodyPost_ret (end_cell rfl rfl (loadTree _ (HRX.out.cells.two rfl _ _) rfl)) rfl ?_
    exact ⟨_, _, rfl, below_two HBE.out _ (Nat.le_succ _) _ _, HTE.out _ _⟩
theorem Without_is (p : Option Addr) (n : Int) (l : List Itm) (k : Int) (w : World) (hl : l.length ≤ 1000000) (h : TreeV w p n l) :
    Calls Try.prog 9 #[.agg #[.pointer p, .int .i64 n], .int .i64 k] w fun e w' => ∃ p' n', e = .returned (.agg #[.pointer p', .int .i64 n']) ∧ Below w.heap.size w w' ∧ TreeV w' p' n' (delL l k) := by
  cases hg : (getL l k).isSome with
  | false => exact Without_no p n l k w h hg
  | true =>
    have h' := h
    obtain ⟨h1, h2, h3⟩ := h
    rcases h3 with ⟨rfl, rfl⟩ | ⟨b, d, t, rfl, e2, e3, e4⟩
    · rw [getL_nil] at hg; cases hg
    · subst h1
      by_cases hn1 : l.length = 1
      · rw [hn1] at h' ⊢
        exact Without_last b l k w h' hg
      · exact Without_more b l.length l d t k w rfl hl hn1 h2 e2 e3 e4 hg
end Go.Proofs.Ytgebionlkmjfnaa
