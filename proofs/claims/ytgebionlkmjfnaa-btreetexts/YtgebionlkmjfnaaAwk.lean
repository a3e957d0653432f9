/- awake, deep. -/
import Derived.Test.YtgebionlkmjfnaaWov
namespace Go.Proofs.Ytgebionlkmjfnaa
open Go.ChangeShapes Go.WideShapes Go.RowKit
set_option linter.unusedVariables false
set_option maxRecDepth 100000

theorem flat_items : ∀ {d : Nat} (t : T d), (itemsT t).length ≤ (flat d t).length
  | 0, _ => Nat.le_refl _
  | d + 1, t => (weave_items t.1 (t.2.map (flat d))).length_le
theorem flat_13 : ∀ {d : Nat} {t : T d}, 1 ≤ d → Sz 1 12 d t → 13 ≤ (flat d t).length
  | 0, _, h, _ => by omega
  | d + 1, t, _, hz => by
    obtain ⟨h1, h2, h3, h4⟩ := hz
    show 13 ≤ (weave t.1 (t.2.map (flat d))).length
    rw [weave_length _ _ (by rw [List.length_map]; exact h3)]
    have : ∀ (l : List (T d)), (∀ k, k ∈ l → Sz 6 12 d k) → l.length * 6 ≤ ((l.map (flat d)).map List.length).sum := by
      intro l
      induction l with
      | nil => intro _; simp
      | cons x r ih =>
        intro hx
        have e1 := flat_items x
        have e0 := (Sz.lo (hx x (List.mem_cons_self ..))).1
        have e2 := ih (fun k hk => hx k (List.mem_cons_of_mem _ hk))
        simp only [List.map_cons, List.sum_cons, List.length_cons, Nat.succ_mul]
        omega
    have h5 := this t.2 h4
    omega
set_option maxHeartbeats 4000000 in
theorem deep_eq (p : Option Addr) (n : Int) (l : List Itm) (w : World) (hl : l.length ≤ 1000000) (h : TreeV w p n l) :
    Calls Try.prog 27 #[.agg #[.pointer p, .int .i64 n]] w fun e w' => ∃ D : Nat, e = .returned (.int .i64 D) ∧ Below w.heap.size w w' ∧ ((l = [] ∧ D = 0) ∨ (1 ≤ D ∧ 2 ^ (D - 1) ≤ l.length ∧ (2 ≤ D → 13 ≤ l.length))) := by
  obtain ⟨h1, h2, h3⟩ := h
  have HB0 : Hid (∀ t, Below w.heap.size w (w.alloc t)) := fun t => below1 _ _
  rcases h3 with ⟨rfl, rfl⟩ | ⟨b0, d0, t0, rfl, e2, e3, e4⟩
  · go_enter Try.func27, Try.ntmps27
    go_wp2_with fail
    go_loopg [3, 4] 0 (fun g vd vp wr => vd = .int .i64 0 ∧ vp = .pointer none ∧ Hid (Below w.heap.size w wr))
    case atStart => exact ⟨rfl, rfl, HB0.out _⟩
    case round =>
      obtain ⟨rfl, rfl, HB⟩ := hrel
      go_wp2_with fail
      go_ret
      exact ⟨0, rfl, HB.out, by simp⟩
  · have hbig := flat_big d0 t0 1 12 (Nat.le_refl _) e3
    rw [e4] at hbig
    have hd0 : d0 ≤ 1000000 := by
      have : d0 < 2 ^ d0 := Nat.lt_two_pow_self
      omega
    have HE : Hid (2 ^ d0 ≤ l.length ∧ (2 ≤ d0 + 1 → 13 ≤ l.length)) := ⟨hbig, fun h => by rw [← e4]; exact flat_13 (by omega) e3⟩
    have HI0 : Hid (∀ z, At itv (w.alloc z) d0 b0 t0 ∧ (∃ lo, Sz lo 12 d0 t0) ∧ Below w.heap.size w (w.alloc z)) := fun z => ⟨At.next itv_ne (below1 _ _) e2, ⟨1, e3⟩, below1 _ _⟩
    clear e2 e3 e4 h1 h2 hbig
    go_enter Try.func27, Try.ntmps27
    go_wp2_with fail
    go_loopg [3, 4] d0 (fun g vd vp wr => ∃ (b c : Nat) (t : T g), vd = .int .i64 c ∧ vp = .pointer (some ⟨b, 0, none⟩) ∧ c + g = d0 ∧ Hid (At itv wr g b t ∧ (∃ lo, Sz lo 12 g t) ∧ Below w.heap.size w wr))
    case atStart => exact ⟨b0, 0, t0, rfl, rfl, by omega, HI0.out _⟩
    case round =>
      obtain ⟨b, c, t, rfl, rfl, hc, HI⟩ := hrel
      clear HI0
      cases gk with
      | zero =>
        have HL : Hid (Calls Try.prog 26 #[.pointer (some ⟨b, 0, none⟩)] wr fun e w' => e = .returned (.bool true) ∧ wr = w') := (leaf_is b t [] wr HI.out.1).mono (fun e w2 q => ⟨q.1, q.2.symm⟩)
        have hcd : c = d0 := by omega
        subst hcd
        go_wp2_with fail
        refine Calls.mono HL.out ?_; rintro e w2 ⟨rfl, rfl⟩
        go_wp2_with fail
        go_ret
        exact ⟨c + 1, by go_num, HI.out.2.2, .inr ⟨by omega, HE.out⟩⟩
      | succ g =>
        obtain ⟨xs, ks⟩ := t
        obtain ⟨bs', hn', hk'⟩ := HI.out.1
        obtain ⟨lo', hz⟩ := HI.out.2.1
        obtain ⟨hz1, hz2, hz3, hz4⟩ := hz
        dsimp only at hz1 hz2 hz3 hz4 hn' hk'
        have hik : 0 < ks.length := by omega
        have hib : 0 < bs'.length := by rw [hk'.1]; exact hik
        have hne : bs' ≠ [] := fun e => by rw [e] at hib; simp at hib
        have HL : Hid (Calls Try.prog 26 #[.pointer (some ⟨b, 0, none⟩)] wr fun e w' => e = .returned (.bool false) ∧ wr = w') := by
          have := leaf_is b xs bs' wr hn'
          rw [decide_eq_false hne] at this
          exact this.mono (fun e w2 q => ⟨q.1, q.2.symm⟩)
        obtain ⟨u, v, c0, c1, hu, hv⟩ := hn'
        obtain ⟨pb, po, pc, rfl, hpc, hpb, hpt⟩ := hv.ptr hne
        have p0 := hpt 0 hib
        rw [Nat.zero_mul, Nat.add_zero] at p0
        have hilt : (0 : Int) < (bs'.length : Int) := by omega
        have HNX : Hid (At itv wr g bs'[0] ks[0] ∧ (∃ lo, Sz lo 12 g ks[0]) ∧ Below w.heap.size w wr) := ⟨hk'.at 0 hib hik, ⟨6, hz4 _ (List.getElem_mem hik)⟩, HI.out.2.2⟩
        generalize bs'[0] = kb at *
        clear hu hv hpt hk' HI
        go_wp2_with fail
        refine Calls.mono HL.out ?_; rintro e w2 ⟨rfl, rfl⟩
        go_wp2_with fail
        go_roundg g
        case measure => exact Nat.lt_succ_self _
        case rel => exact ⟨kb, c + 1, ks[0], by go_num, rfl, by omega, HNX.out⟩

theorem insL_two (a b : ByteArray) : insL (insL ([] : List Itm) 2 a) 1 b = [(1, b), (2, a)] := rfl
theorem getL_two (a b : ByteArray) : getL ([(1, b), (2, a)] : List Itm) 2 = some a := rfl
theorem delL_two (a b : ByteArray) : delL ([(1, b), (2, a)] : List Itm) 2 = [(1, b)] := rfl
set_option maxHeartbeats 4000000 in
theorem awake_is (w : World) : Calls Try.prog 14 #[] w fun e w' => e = .returned (.bool true) ∧ Below w.heap.size w w' := by
  obtain ⟨sa, hsa⟩ : ∃ sa : ByteArray, (⟨#[97]⟩ : ByteArray) = sa := ⟨_, rfl⟩
  obtain ⟨sb, hsb⟩ : ∃ sb : ByteArray, (⟨#[98]⟩ : ByteArray) = sb := ⟨_, rfl⟩
  have H1 : Hid (∀ w', Calls Try.prog 7 #[.agg #[.pointer none, .int .i64 0], .int .i64 2, .string ⟨#[97]⟩] w' fun e w'' => ∃ p', e = .returned (.agg #[.pointer p', .int .i64 1]) ∧ Hid (Below w'.heap.size w' w'' ∧ TreeV w'' p' 1 [(2, sa)])) := fun w' => (With_is none 0 [] 2 ⟨#[97]⟩ w' (by simp) (TreeV.none w')).mono fun e w'' ⟨p', n', r1, r2, r3⟩ => by
    rw [hsa] at r3
    have hn : n' = 1 := r3.1
    subst hn
    exact ⟨p', r1, r2, r3⟩
  have H2 : Hid (∀ w' p, TreeV w' p 1 [(2, sa)] → Calls Try.prog 7 #[.agg #[.pointer p, .int .i64 1], .int .i64 1, .string ⟨#[98]⟩] w' fun e w'' => ∃ p', e = .returned (.agg #[.pointer p', .int .i64 2]) ∧ Hid (Below w'.heap.size w' w'' ∧ TreeV w'' p' 2 [(1, sb), (2, sa)])) := fun w' p h => (With_is p 1 _ 1 ⟨#[98]⟩ w' (by simp) h).mono fun e w'' ⟨p', n', r1, r2, r3⟩ => by
    rw [hsb, show insL [((2, sa) : Itm)] 1 sb = [(1, sb), (2, sa)] from rfl] at r3
    have hn : n' = 2 := r3.1
    subst hn
    exact ⟨p', r1, r2, r3⟩
  have H3 : Hid (∀ w' p, TreeV w' p 2 [(1, sb), (2, sa)] → Calls Try.prog 11 #[.agg #[.pointer p, .int .i64 2], .int .i64 2] w' fun e w'' => e = .returned (.tuple #[.string ⟨#[97]⟩, .bool true]) ∧ Below w'.heap.size w' w'') := fun w' p h => by
    have := get_is p 2 _ 2 w' h
    rw [getL_two, ← hsa] at this
    exact this
  have H4 : Hid (∀ w' p, TreeV w' p 2 [(1, sb), (2, sa)] → Calls Try.prog 9 #[.agg #[.pointer p, .int .i64 2], .int .i64 2] w' fun e w'' => ∃ p', e = .returned (.agg #[.pointer p', .int .i64 1]) ∧ Below w'.heap.size w' w'') := fun w' p h => (Without_is p 2 _ 2 w' (by simp) h).mono fun e w'' ⟨p', n', r1, r2, r3⟩ => by
    rw [delL_two] at r3
    have hn : n' = 1 := r3.1
    subst hn
    exact ⟨p', r1, r2⟩
  have H5 : Hid (∀ w' p, TreeV w' p 2 [(1, sb), (2, sa)] → Calls Try.prog 27 #[.agg #[.pointer p, .int .i64 2]] w' fun e w'' => e = .returned (.int .i64 1) ∧ Below w'.heap.size w' w'') := fun w' p h => (deep_eq p 2 _ w' (by simp) h).mono fun e w'' ⟨D, r1, r2, r3⟩ => by
    have hD : D = 1 := by
      rcases r3 with ⟨e, _⟩ | ⟨q1, q2, q3⟩
      · cases e
      · rcases Nat.lt_or_ge D 2 with h | h
        · omega
        · have := q3 h; simp at this
    subst hD
    exact ⟨r1, r2⟩
  have H6 : Hid _ := len_is
  clear hsa hsb
  have HW0 : Hid (∀ z, BoxH (w.alloc (.cells #[.pointer none, .int .i64 0] 25)) w.heap.size none 0 ∧ Below w.heap.size w (w.alloc z)) := fun z => ⟨BoxH.at _ _ rfl, below1 _ _⟩
  go_enter Try.func14, Try.ntmps14
  go_wp2_with fail
  refine Calls.mono (H1.out _) ?_; rintro e w1 ⟨p1, rfl, HT1⟩
  go_wp2_with fail
  refine Calls.mono (H2.out _ _ HT1.out.2) ?_; rintro e w2 ⟨p2, rfl, HT2⟩
  obtain ⟨w3, hw3⟩ : ∃ w3, w2.alloc (.cells #[.pointer p2, .int .i64 2] 25) = w3 := ⟨_, rfl⟩
  have HS : Hid (Below w.heap.size w w3 ∧ BoxH w3 w.heap.size none 0 ∧ BoxH w3 w2.heap.size p2 2 ∧ TreeV w3 p2 2 [(1, sb), (2, sa)]) := by
    show _ ∧ _
    rw [← hw3]
    have hb : Below (w.alloc (.cells #[.pointer none, .int .i64 0] 25)).heap.size (w.alloc (.cells #[.pointer none, .int .i64 0] 25)) (w2.alloc (.cells #[.pointer p2, .int .i64 2] 25)) := Below.next (Below.next HT1.out.1 HT2.out.1) (below1 _ _)
    exact ⟨Below.next (below1 _ _) hb, (BoxH.at none 0 rfl).next hb, BoxH.at _ _ rfl, HT2.out.2.next (below1 _ _)⟩
  have HW3 : Hid _ := hw3
  have x0 := HS.out.2.2.1.c0
  have x1 := HS.out.2.2.1.c1
  rw [← hw3] at x0 x1
  clear hw3
  go_wp2_with fail
  rw [HW3.out]
  refine Calls.mono (H3.out _ _ HS.out.2.2.2) ?_; rintro e w4 ⟨rfl, k4⟩
  have HS4 : Hid (Below w.heap.size w w4 ∧ BoxH w4 w.heap.size none 0 ∧ BoxH w4 w2.heap.size p2 2 ∧ TreeV w4 p2 2 [(1, sb), (2, sa)]) := ⟨Below.next HS.out.1 k4, HS.out.2.1.next k4, HS.out.2.2.1.next k4, HS.out.2.2.2.next k4⟩
  clear x0 x1 k4
  have x0 := HS4.out.2.2.1.c0
  have x1 := HS4.out.2.2.1.c1
  go_wp2_with fail
  refine Calls.mono (H6.out _ _ _) ?_; rintro e w5 ⟨rfl, k5⟩
  have HS5 : Hid (Below w.heap.size w w5 ∧ BoxH w5 w.heap.size none 0 ∧ BoxH w5 w2.heap.size p2 2 ∧ TreeV w5 p2 2 [(1, sb), (2, sa)]) := ⟨Below.next HS4.out.1 k5, HS4.out.2.1.next k5, HS4.out.2.2.1.next k5, HS4.out.2.2.2.next k5⟩
  clear x0 x1 k5
  have y0 := HS5.out.2.1.c0
  have y1 := HS5.out.2.1.c1
  go_wp2_with fail
  refine Calls.mono (H6.out _ _ _) ?_; rintro e w6 ⟨rfl, k6⟩
  have HS6 : Hid (Below w.heap.size w w6 ∧ BoxH w6 w2.heap.size p2 2 ∧ TreeV w6 p2 2 [(1, sb), (2, sa)]) := ⟨Below.next HS5.out.1 k6, HS5.out.2.2.1.next k6, HS5.out.2.2.2.next k6⟩
  clear y0 y1 k6
  have x0 := HS6.out.2.1.c0
  have x1 := HS6.out.2.1.c1
  go_wp2_with fail
  refine Calls.mono (H4.out _ _ HS6.out.2.2) ?_; rintro e w7 ⟨p7, rfl, k7⟩
  have HS7 : Hid (Below w.heap.size w w7 ∧ BoxH w7 w2.heap.size p2 2 ∧ TreeV w7 p2 2 [(1, sb), (2, sa)]) := ⟨Below.next HS6.out.1 k7, HS6.out.2.1.next k7, HS6.out.2.2.next k7⟩
  clear x0 x1 k7
  go_wp2_with fail
  refine Calls.mono (H6.out _ _ _) ?_; rintro e w8 ⟨rfl, k8⟩
  have HS8 : Hid (Below w.heap.size w w8 ∧ BoxH w8 w2.heap.size p2 2 ∧ TreeV w8 p2 2 [(1, sb), (2, sa)]) := ⟨Below.next HS7.out.1 k8, HS7.out.2.1.next k8, HS7.out.2.2.next k8⟩
  clear k8
  have x0 := HS8.out.2.1.c0
  have x1 := HS8.out.2.1.c1
  go_wp2_with fail
  refine Calls.mono (H5.out _ _ HS8.out.2.2) ?_; rintro e w9 ⟨rfl, k9⟩
  have HB9 : Hid (Below w.heap.size w w9) := Below.next HS8.out.1 k9
  clear k9 x0 x1
  go_wp2_with fail
  go_ret
  exact ⟨rfl, HB9.out⟩
end Go.Proofs.Ytgebionlkmjfnaa
