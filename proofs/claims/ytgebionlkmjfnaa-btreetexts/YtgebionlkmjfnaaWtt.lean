/- with, of a tree. -/
import Derived.Test.YtgebionlkmjfnaaWthA
import Derived.Test.YtgebionlkmjfnaaWthB
import Derived.Test.YtgebionlkmjfnaaHalI
namespace Go.Proofs.Ytgebionlkmjfnaa
open Go.ChangeShapes Go.WideShapes Go.RowKit
set_option linter.unusedVariables false
set_option maxRecDepth 100000

abbrev T (d : Nat) := Tr Int ByteArray d
abbrev AtI (w : World) (d : Nat) (b : Nat) (t : T d) : Prop := At itv w d b t
theorem At.nd {w : World} : ∀ {d : Nat} {b : Nat} {t : T d}, At itv w d b t → ∃ bs, NdAt itv w b (itemsT t) bs
  | 0, _, _, h => ⟨[], h⟩
  | _ + 1, _, _, ⟨bs, h, _⟩ => ⟨bs, h⟩
theorem split_at {α : Type} {l : List α} {i : Nat} (h : i < l.length) : l = l.take i ++ l[i] :: l.drop (i + 1) := by
  rw [← List.drop_eq_getElem_cons h, List.take_append_drop]
/-- The items around a kid. -/
theorem flat_at {d : Nat} (xs : List Itm) (ks : List (T d)) (hl : ks.length = xs.length + 1) (i : Nat) (hi : i ≤ xs.length) (k' : T d) :
    flat (d + 1) ((xs, ks.take i ++ k' :: ks.drop (i + 1)) : T (d + 1)) = pre (xs.take i) ((ks.take i).map (flat d)) ++ flat d k' ++ suf (xs.drop i) ((ks.drop (i + 1)).map (flat d)) := by
  show weave xs ((ks.take i ++ k' :: ks.drop (i + 1)).map (flat d)) = _
  conv => lhs; rw [← List.take_append_drop i xs]
  rw [List.map_append, List.map_cons]
  exact weave_at _ _ _ _ _ (by rw [List.length_map, List.length_take, List.length_take]; omega) (by rw [List.length_map, List.length_drop, List.length_drop]; omega)
theorem flat_here {d : Nat} (xs : List Itm) (ks : List (T d)) (hl : ks.length = xs.length + 1) (i : Nat) (hi : i ≤ xs.length) (hik : i < ks.length) :
    flat (d + 1) ((xs, ks) : T (d + 1)) = pre (xs.take i) ((ks.take i).map (flat d)) ++ flat d ks[i] ++ suf (xs.drop i) ((ks.drop (i + 1)).map (flat d)) := by
  have := flat_at xs ks hl i hi ks[i]
  rw [← split_at hik] at this
  exact this
/-- Two kids, and what stands between them. -/
theorem flat_two {d : Nat} (xs : List Itm) (ks : List (T d)) (hl : ks.length = xs.length + 1) (i : Nat) (hi : i ≤ xs.length) (m : Itm) (L R : T d) :
    flat (d + 1) ((xs.take i ++ [m] ++ xs.drop i, ks.take i ++ [L, R] ++ ks.drop (i + 1)) : T (d + 1)) = pre (xs.take i) ((ks.take i).map (flat d)) ++ (flat d L ++ m :: flat d R) ++ suf (xs.drop i) ((ks.drop (i + 1)).map (flat d)) := by
  show weave (xs.take i ++ [m] ++ xs.drop i) ((ks.take i ++ [L, R] ++ ks.drop (i + 1)).map (flat d)) = _
  have e : (ks.take i ++ [L, R] ++ ks.drop (i + 1)).map (flat d) = (ks.take i).map (flat d) ++ flat d L :: (flat d R :: (ks.drop (i + 1)).map (flat d)) := by simp
  rw [e, List.append_assoc, weave_at _ _ _ _ _ (by rw [List.length_map, List.length_take, List.length_take]; omega) (by simp; omega)]
  simp [suf]
theorem kids_sorted {d : Nat} {xs : List Itm} {ks : List (T d)} (hl : ks.length = xs.length + 1) (hs : Sorted (flat (d + 1) ((xs, ks) : T (d + 1)))) (i : Nat) (hi : i ≤ xs.length) (hik : i < ks.length) : Sorted (flat d ks[i]) := by
  rw [flat_here xs ks hl i hi hik] at hs
  exact (List.pairwise_append.1 (List.pairwise_append.1 hs).1).2.1
theorem weave_items : ∀ (xs : List Itm) (fs : List (List Itm)), List.Sublist xs (weave xs fs)
  | xs, [] => by rw [weave]; exact List.Sublist.refl _
  | [], f :: _ => List.nil_sublist _
  | x :: xs, f :: fs => by
    rw [weave]
    exact ((weave_items xs fs).cons_cons x).trans (List.sublist_append_right _ _)
theorem items_sorted : ∀ {d : Nat} {t : T d}, Sorted (flat d t) → Sorted (itemsT t)
  | 0, _, h => h
  | d + 1, t, h => h.sublist (weave_items t.1 (t.2.map (flat d)))
theorem pre_mid {d : Nat} {xs : List Itm} {ks : List (T d)} {i : Nat} {k : Int} {f : List Itm} (hs : Sorted (pre (xs.take i) ((ks.take i).map (flat d)) ++ f ++ suf (xs.drop i) ((ks.drop (i + 1)).map (flat d)))) (hl : Low (xs.take i) k) (hh : High (xs.drop i) k) : Low (pre (xs.take i) ((ks.take i).map (flat d))) k ∧ High (suf (xs.drop i) ((ks.drop (i + 1)).map (flat d))) k := by
  have h1 := List.pairwise_append.1 hs
  exact ⟨pre_low _ _ (List.pairwise_append.1 h1.1).1 hl, suf_high _ _ h1.2.1 hh⟩
/-- A key that stands in the node itself. -/
theorem flat_has {d : Nat} {xs : List Itm} {ks : List (T d)} (hl : ks.length = xs.length + 1) (hs : Sorted (flat (d + 1) ((xs, ks) : T (d + 1)))) {i : Nat} (hi : i < xs.length) :
    ∃ P S : List Itm, flat (d + 1) ((xs, ks) : T (d + 1)) = P ++ [xs[i]] ++ S ∧ Low P xs[i].1 ∧ High S xs[i].1 ∧ ∀ y, flat (d + 1) ((xs.take i ++ [y] ++ xs.drop (i + 1), ks) : T (d + 1)) = P ++ [y] ++ S := by
  have hik : i < ks.length := by omega
  have hik2 : i + 1 < ks.length := by omega
  have hf : ∀ y : Itm, flat (d + 1) ((xs.take i ++ [y] ++ xs.drop (i + 1), ks) : T (d + 1)) = (pre (xs.take i) ((ks.take i).map (flat d)) ++ flat d ks[i]) ++ [y] ++ (flat d ks[i + 1] ++ suf (xs.drop (i + 1)) ((ks.drop (i + 1 + 1)).map (flat d))) := fun y => by
    show weave (xs.take i ++ [y] ++ xs.drop (i + 1)) (ks.map (flat d)) = _
    conv => lhs; rw [split_at hik]
    rw [List.map_append, List.map_cons, List.append_assoc, weave_at _ _ _ _ _ (by rw [List.length_map, List.length_take, List.length_take]; omega) (by simp; omega)]
    rw [List.drop_eq_getElem_cons hik2, List.map_cons, List.singleton_append, suf]
    simp
  have h0 := hf xs[i]
  rw [List.append_assoc, List.singleton_append, ← split_at hi] at h0
  refine ⟨_, _, h0, ?_, ?_, hf⟩
  · rw [h0] at hs
    have h1 := List.pairwise_append.1 (List.pairwise_append.1 hs).1
    exact fun x hx => h1.2.2 x hx _ (List.mem_singleton.2 rfl)
  · rw [h0, List.append_assoc] at hs
    have h1 := (List.pairwise_append.1 hs).2.1
    rw [List.singleton_append] at h1
    exact fun x hx => (List.pairwise_cons.1 h1).1 x hx
theorem has_at {l : List Itm} {k : Int} (h : pos l k < l.length) (hh : has l k = true) : l[pos l k].1 = k := by
  obtain ⟨_, e⟩ := (has_iff l k).1 hh
  exact (KOrd.zero _ _).1 e
/-- halved, of a tree. -/
theorem halved_is {d : Nat} (w : World) (b : Nat) (xs : List Itm) (bs : List Nat) (ks : List (T d)) (h : NdAt itv w b xs bs) (hk : Kids (At itv w d) bs ks) (hl : ks.length = xs.length + 1) (hx : xs.length ≤ 50) (i : Nat) (hi : i ≤ xs.length) (hik : i < ks.length) (hz : Sz 13 18 d ks[i]) :
    Calls Try.prog 23 #[.pointer (some ⟨b, 0, none⟩), .int .i64 i] w fun e w' => ∃ b' m L R, e = .returned (.pointer (some ⟨b', 0, none⟩)) ∧ Below w.heap.size w w' ∧ At itv w' (d + 1) b' ((xs.take i ++ [m] ++ xs.drop i, ks.take i ++ [L, R] ++ ks.drop (i + 1)) : T (d + 1)) ∧ flat d ks[i] = flat d L ++ m :: flat d R ∧ Sz 6 12 d L ∧ Sz 6 12 d R := by
  have hib : i < bs.length := by rw [hk.1]; exact hik
  have hkid := hk.at i hib hik
  have hbi : bs[i]? = some bs[i] := List.getElem?_eq_getElem hib
  have hbl : bs.length ≤ 51 := by rw [hk.1, hl]; omega
  obtain ⟨kid, hkid'⟩ : ∃ kid, ks[i] = kid := ⟨_, rfl⟩
  rw [hkid'] at hz hkid ⊢
  have key : ∀ (L R : T d) (w' : World) (b' LB RB : Nat) (m : Itm), Below w.heap.size w w' → NdAt itv w' b' (xs.take i ++ [m] ++ xs.drop i) (bs.take i ++ [LB, RB] ++ bs.drop (i + 1)) → At itv w' d LB L → At itv w' d RB R → At itv w' (d + 1) b' ((xs.take i ++ [m] ++ xs.drop i, ks.take i ++ [L, R] ++ ks.drop (i + 1)) : T (d + 1)) := fun L R w' b' LB RB m q1 q2 q3 q4 => by
    have hk' : Kids (At itv w' d) bs ks := hk.mono (fun _ _ r => At.next itv_ne q1 r)
    exact ⟨_, q2, ((hk'.take i).append (Kids.two q3 q4)).append (hk'.drop (i + 1))⟩
  cases d with
  | zero =>
    change List Itm at kid
    have hz1 : 13 ≤ kid.length := hz.1
    have hz2 : kid.length ≤ 18 := hz.2
    have hmid : kid.length / 2 < kid.length := by omega
    refine (halved_leaf w b xs bs i bs[i] kid h hkid hbi hi hx hbl hz1 hz2 _ rfl kid[kid.length / 2] (List.getElem?_eq_getElem hmid)).mono ?_
    rintro e w' ⟨b', LB, RB, r1, r2, r3, r4, r5⟩
    refine ⟨b', kid[kid.length / 2], kid.take (kid.length / 2), kid.drop (kid.length / 2 + 1), r1, r2, key _ _ w' b' LB RB _ r2 r3 r4 r5, split_at hmid, ⟨?_, ?_⟩, ⟨?_, ?_⟩⟩
    · show 6 ≤ (List.take _ kid).length; rw [List.length_take]; omega
    · show (List.take _ kid).length ≤ 12; rw [List.length_take]; omega
    · show 6 ≤ (List.drop _ kid).length; rw [List.length_drop]; omega
    · show (List.drop _ kid).length ≤ 12; rw [List.length_drop]; omega
  | succ d =>
    obtain ⟨ys, kks⟩ := kid
    obtain ⟨hz1, hz2, hz3, hz4⟩ := hz
    dsimp only at hz1 hz2 hz3 hz4
    obtain ⟨kbs, hn, hkk⟩ := hkid
    dsimp only at hn hkk
    have hmid : ys.length / 2 < ys.length := by omega
    refine (halved_inner w b xs bs i bs[i] ys kbs (by rw [hkk.1, hz3]) h hn hbi hi hx hbl hz1 hz2 _ rfl ys[ys.length / 2] (List.getElem?_eq_getElem hmid)).mono ?_
    rintro e w' ⟨b', LB, RB, r1, r2, r3, r4, r5⟩
    have hkk' : Kids (At itv w' d) kbs kks := hkk.mono (fun _ _ r => At.next itv_ne r2 r)
    refine ⟨b', ys[ys.length / 2], (ys.take (ys.length / 2), kks.take (ys.length / 2 + 1)), (ys.drop (ys.length / 2 + 1), kks.drop (ys.length / 2 + 1)), r1, r2, key _ _ w' b' LB RB _ r2 r3 ⟨_, r4, hkk'.take _⟩ ⟨_, r5, hkk'.drop _⟩, ?_, ⟨?_, ?_, ?_, fun k hk => hz4 k (List.mem_of_mem_take hk)⟩, ⟨?_, ?_, ?_, fun k hk => hz4 k (List.mem_of_mem_drop hk)⟩⟩
    · show weave ys (kks.map (flat d)) = weave (ys.take _) ((kks.take _).map (flat d)) ++ _ :: weave (ys.drop _) ((kks.drop _).map (flat d))
      rw [← weave_two _ _ _ _ _ (by rw [List.length_map, List.length_take, List.length_take]; omega) (by rw [List.length_map, List.length_drop, List.length_drop]; omega), ← List.map_append, List.take_append_drop, ← split_at hmid]
    · show 6 ≤ (ys.take _).length; rw [List.length_take]; omega
    · show (ys.take _).length ≤ 12; rw [List.length_take]; omega
    · show (kks.take _).length = (ys.take _).length + 1; rw [List.length_take, List.length_take]; omega
    · show 6 ≤ (ys.drop _).length; rw [List.length_drop]; omega
    · show (ys.drop _).length ≤ 12; rw [List.length_drop]; omega
    · show (kks.drop _).length = (ys.drop _).length + 1; rw [List.length_drop, List.length_drop]; omega
theorem with_is (k : Int) (v : ByteArray) : ∀ (d : Nat) (lo : Nat) (t : T d) (b : Nat) (w : World), At itv w d b t → Sz lo 12 d t → Sorted (flat d t) →
    Calls Try.prog 22 #[.pointer (some ⟨b, 0, none⟩), .agg #[.int .i64 k, .string v]] w fun e w' => ∃ b' t', e = .returned (.pointer (some ⟨b', 0, none⟩)) ∧ Below w.heap.size w w' ∧ At itv w' d b' t' ∧ flat d t' = insL (flat d t) k v ∧ Sz lo 13 d t' := by
  intro d
  induction d with
  | zero =>
    intro lo l
    change List Itm at l
    intro b w h hz hs
    have hz' : lo ≤ List.length l ∧ List.length l ≤ 12 := hz
    rcases around (l := l) hs k with ⟨h1, h2, h3⟩ | ⟨h1, h2, h3, h4, v0, h5⟩
    · refine (with_leaf w b l h hs (by omega) k v h1 _ rfl).mono ?_
      rintro e w' ⟨b', r1, r2, r3⟩
      refine ⟨b', _, r1, r2, r3, ?_, ?_⟩
      · show l.take (pos l k) ++ [(k, v)] ++ l.drop (pos l k) = insL l k v
        have := insL_mid (P := l.take (pos l k)) (M := []) (S := l.drop (pos l k)) v h2 h3
        rw [List.append_nil, List.take_append_drop, insL_nil] at this
        exact this.symm
      · have hp := pos_le l k
        constructor
        · show lo ≤ (l.take _ ++ [(k, v)] ++ l.drop _).length
          simp only [List.length_append, List.length_take, List.length_drop, List.length_cons, List.length_nil]; omega
        · show (l.take _ ++ [(k, v)] ++ l.drop _).length ≤ 13
          simp only [List.length_append, List.length_take, List.length_drop, List.length_cons, List.length_nil]; omega
    · refine (with_has w b l [] h hs (by omega) k v h1 h2 _ rfl).mono ?_
      rintro e w' ⟨b', r1, r2, r3⟩
      refine ⟨b', _, r1, r2, r3, ?_, ?_⟩
      · show l.take (pos l k) ++ [(k, v)] ++ l.drop (pos l k + 1) = insL l k v
        have := insL_mid (P := l.take (pos l k)) (M := [(k, v0)]) (S := l.drop (pos l k + 1)) v h3 h4
        rw [List.append_assoc, List.singleton_append, ← h5, List.take_append_drop, insL_one] at this
        exact this.symm
      · constructor
        · show lo ≤ (l.take _ ++ [(k, v)] ++ l.drop _).length
          simp only [List.length_append, List.length_take, List.length_drop, List.length_cons, List.length_nil]; omega
        · show (l.take _ ++ [(k, v)] ++ l.drop _).length ≤ 13
          simp only [List.length_append, List.length_take, List.length_drop, List.length_cons, List.length_nil]; omega
  | succ d ih =>
    intro lo t b w h hz hs
    obtain ⟨xs, ks⟩ := t
    obtain ⟨hz1, hz2, hz3, hz4⟩ := hz
    dsimp only at hz1 hz2 hz3 hz4
    obtain ⟨bs, hn, hk⟩ := h
    dsimp only at hn hk
    have hsx : Sorted xs := items_sorted (d := d + 1) (t := (xs, ks)) hs
    have hp := pos_le xs k
    rcases around (l := xs) hsx k with ⟨h1, h2, h3⟩ | ⟨h1, h2, h3, h4, v0, h5⟩
    · obtain ⟨i, hi⟩ : ∃ i, pos xs k = i := ⟨_, rfl⟩
      rw [hi] at h2 h3 hp
      have hik : i < ks.length := by omega
      have hib : i < bs.length := by rw [hk.1]; exact hik
      have hfl := flat_here xs ks hz3 i hp hik
      have hs' := hs
      rw [hfl] at hs'
      have hmid := pre_mid (i := i) hs' h2 h3
      have hkid := hk.at i hib hik
      refine with_inner w b xs bs hn hsx (by omega) (by rw [hk.1]; omega) k v h1 i hi bs[i] (List.getElem?_eq_getElem hib)
        (fun w' b2 y => ∃ t2 : T d, At itv w' d b2 t2 ∧ flat d t2 = insL (flat d ks[i]) k v ∧ Sz 6 13 d t2 ∧ itemsT t2 = y)
        (fun w1 w2 b2 y ⟨t2, q1, q2⟩ q => ⟨t2, At.next itv_ne q q1, q2⟩)
        (fun w' kk => (ih 6 ks[i] bs[i] w' (At.next itv_ne kk hkid) (hz4 _ (List.getElem_mem hik)) (kids_sorted hz3 hs i hp hik)).mono fun e w'' ⟨b2, t2, r1, r2, r3, r4, r5⟩ => ?_)
        (fun w' b' => ∃ t' : T (d + 1), At itv w' (d + 1) b' t' ∧ flat (d + 1) t' = insL (flat (d + 1) ((xs, ks) : T (d + 1))) k v ∧ Sz lo 13 (d + 1) t')
        (fun w' b3 b2 ys2 q1 q2 ⟨t2, q3, q4, q5, q6⟩ q7 => ?_) (fun w' b3 b2 ys2 q1 q2 ⟨t2, q3, q4, q5, q6⟩ q7 => ?_) |>.mono fun e w' ⟨b', r1, r2, t', r3⟩ => ⟨b', t', r1, r2, r3⟩
      · obtain ⟨kbs2, hnd⟩ := At.nd r3
        exact ⟨b2, itemsT t2, kbs2, r1, r2, hnd, t2, r3, r4, r5, rfl⟩
      · have hb1 := Sz.lo q5
        rw [q6] at hb1
        have hi3 : i < (ks.take i ++ t2 :: ks.drop (i + 1)).length := by simp; omega
        have ht2 : (ks.take i ++ t2 :: ks.drop (i + 1))[i] = t2 := by
          rw [List.getElem_append_right (by rw [List.length_take]; omega)]
          simp [List.length_take, Nat.min_eq_left (Nat.le_of_lt hik)]
        have hks : Kids (At itv w' d) (bs.take i ++ [b2] ++ bs.drop (i + 1)) (ks.take i ++ t2 :: ks.drop (i + 1)) := by
          have hk' : Kids (At itv w' d) bs ks := hk.mono (fun _ _ r => At.next itv_ne q1 r)
          have := ((hk'.take i).append (Kids.one q3)).append (hk'.drop (i + 1))
          rwa [List.append_assoc, List.append_assoc, List.singleton_append, List.singleton_append, ← List.singleton_append (l := bs.drop (i + 1)), ← List.append_assoc] at this
        have hlen : (ks.take i ++ t2 :: ks.drop (i + 1)).length = xs.length + 1 := by simp; omega
        refine (halved_is w' b3 xs _ (ks.take i ++ t2 :: ks.drop (i + 1)) q2 hks hlen (by omega) i hp hi3 (by rw [ht2]; exact q5.set (by rw [q6]; omega) (by rw [q6]; omega))).mono ?_
        rintro e w'' ⟨b', m, L, R, r1, r2, r3, r4, r5, r6⟩
        rw [ht2] at r4
        have etk : (ks.take i ++ t2 :: ks.drop (i + 1)).take i = ks.take i := by
          rw [List.take_append_of_le_length (by rw [List.length_take]; omega), List.take_take, Nat.min_self]
        have edr : (ks.take i ++ t2 :: ks.drop (i + 1)).drop (i + 1) = ks.drop (i + 1) := by
          rw [List.drop_append, List.drop_of_length_le (by rw [List.length_take]; omega), List.nil_append, List.length_take, Nat.min_eq_left (Nat.le_of_lt hik), Nat.add_sub_cancel_left]
          rfl
        rw [etk, edr] at r3
        refine ⟨b', r1, r2, _, r3, ?_, ?_, ?_, ?_, ?_⟩
        · rw [flat_two xs ks hz3 i hp, ← r4, q4, hfl, insL_mid v hmid.1 hmid.2]
        · show lo ≤ (xs.take i ++ [m] ++ xs.drop i).length
          simp only [List.length_append, List.length_take, List.length_drop, List.length_cons, List.length_nil]; omega
        · show (xs.take i ++ [m] ++ xs.drop i).length ≤ 13
          simp only [List.length_append, List.length_take, List.length_drop, List.length_cons, List.length_nil]; omega
        · show (ks.take i ++ [L, R] ++ ks.drop (i + 1)).length = (xs.take i ++ [m] ++ xs.drop i).length + 1
          simp only [List.length_append, List.length_take, List.length_drop, List.length_cons, List.length_nil]; omega
        · intro q hq
          have hq' : q ∈ ks.take i ++ [L, R] ++ ks.drop (i + 1) := hq
          rcases List.mem_append.1 hq' with hq' | hq'
          · rcases List.mem_append.1 hq' with hq' | hq'
            · exact hz4 q (List.mem_of_mem_take hq')
            · rcases List.mem_cons.1 hq' with rfl | hq'
              · exact r5
              · rcases List.mem_singleton.1 hq' with rfl
                exact r6
          · exact hz4 q (List.mem_of_mem_drop hq')
      · have hb1 := Sz.lo q5
        rw [q6] at hb1
        have hks : Kids (At itv w' d) (bs.take i ++ [b2] ++ bs.drop (i + 1)) (ks.take i ++ t2 :: ks.drop (i + 1)) := by
          have hk' : Kids (At itv w' d) bs ks := hk.mono (fun _ _ r => At.next itv_ne q1 r)
          have := ((hk'.take i).append (Kids.one q3)).append (hk'.drop (i + 1))
          rwa [List.append_assoc, List.append_assoc, List.singleton_append, List.singleton_append, ← List.singleton_append (l := bs.drop (i + 1)), ← List.append_assoc] at this
        refine ⟨(xs, ks.take i ++ t2 :: ks.drop (i + 1)), ⟨_, q2, hks⟩, ?_, hz1, by show xs.length ≤ 13; omega, ?_, ?_⟩
        · rw [flat_at xs ks hz3 i hp, q4, hfl, insL_mid v hmid.1 hmid.2]
        · show (ks.take i ++ t2 :: ks.drop (i + 1)).length = xs.length + 1
          simp only [List.length_append, List.length_take, List.length_drop, List.length_cons]; omega
        · intro q hq
          have hq' : q ∈ ks.take i ++ t2 :: ks.drop (i + 1) := hq
          rcases List.mem_append.1 hq' with hq' | hq'
          · exact hz4 q (List.mem_of_mem_take hq')
          · rcases List.mem_cons.1 hq' with rfl | hq'
            · exact q5.set (by rw [q6]; omega) (by rw [q6]; omega)
            · exact hz4 q (List.mem_of_mem_drop hq')
    · refine (with_has w b xs bs hn hsx (by omega) k v h1 h2 _ rfl).mono ?_
      rintro e w' ⟨b', r1, r2, r3⟩
      have hxk := has_at h2 h1
      obtain ⟨P, S, e1, e2, e3, e4⟩ := flat_has hz3 hs h2
      rw [hxk] at e2 e3
      refine ⟨b', (xs.take (pos xs k) ++ [(k, v)] ++ xs.drop (pos xs k + 1), ks), r1, r2, ⟨_, r3, hk.mono (fun _ _ r => At.next itv_ne r2 r)⟩, ?_, ?_, ?_, ?_, hz4⟩
      · rw [e4, e1, insL_mid v e2 e3]
        have : xs[pos xs k] = (k, xs[pos xs k].2) := Prod.ext hxk rfl
        rw [this, insL_one]
      · show lo ≤ (xs.take _ ++ [(k, v)] ++ xs.drop _).length
        simp only [List.length_append, List.length_take, List.length_drop, List.length_cons, List.length_nil]; omega
      · show (xs.take _ ++ [(k, v)] ++ xs.drop _).length ≤ 13
        simp only [List.length_append, List.length_take, List.length_drop, List.length_cons, List.length_nil]; omega
      · show ks.length = (xs.take _ ++ [(k, v)] ++ xs.drop _).length + 1
        simp only [List.length_append, List.length_take, List.length_drop, List.length_cons, List.length_nil]; omega
end Go.Proofs.Ytgebionlkmjfnaa
