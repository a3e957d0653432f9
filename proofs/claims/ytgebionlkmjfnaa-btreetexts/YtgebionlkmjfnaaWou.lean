/- without, of a tree. -/
import Derived.Test.YtgebionlkmjfnaaWot
namespace Go.Proofs.Ytgebionlkmjfnaa
open Go.ChangeShapes Go.WideShapes Go.RowKit
set_option linter.unusedVariables false
set_option maxRecDepth 100000

theorem getL_around {l : List Itm} (hs : Sorted l) {k : Int} (hg : (getL l k).isSome = true) : has l k = true ∧ pos l k < l.length ∧ Low (l.take (pos l k)) k ∧ High (l.drop (pos l k + 1)) k ∧ ∃ v, l.drop (pos l k) = (k, v) :: l.drop (pos l k + 1) := by
  rcases around hs k with ⟨h1, h2, h3⟩ | h
  · exfalso
    have e2 := getL_mid (M := []) h2 h3
    rw [List.append_nil, List.take_append_drop, getL_nil] at e2
    rw [e2] at hg
    cases hg
  · exact h
theorem delL_snoc {P : List Itm} {x : Itm} (hs : Sorted (P ++ [x])) : delL (P ++ [x]) x.1 = P ∧ (getL (P ++ [x]) x.1).isSome = true := by
  have hp : Low P x.1 := fun y hy => (List.pairwise_append.1 hs).2.2 y hy x (List.mem_singleton.2 rfl)
  have e1 := delL_mid (P := P) (M := [x]) (S := []) hp (fun y hy => by cases hy)
  have e2 := getL_mid (P := P) (M := [x]) (S := []) hp (fun y hy => by cases hy)
  obtain ⟨a, c⟩ := x
  rw [List.append_nil, delL_one] at e1
  rw [List.append_nil, getL_one] at e2
  exact ⟨by rw [e1]; simp, by rw [e2]; rfl⟩
/-- A kid has come in place of another one. -/
theorem settle {d : Nat} {w w' : World} {b2 : Nat} {xs : List Itm} {bs : List Nat} {ks : List (T d)} {t2 : T d} (hk : Kids (At itv w d) bs ks) (hb : Below w.heap.size w w') (i : Nat) (h2 : At itv w' d b2 t2) : Kids (At itv w' d) (bs.take i ++ [b2] ++ bs.drop (i + 1)) (ks.take i ++ t2 :: ks.drop (i + 1)) := by
  have hk' : Kids (At itv w' d) bs ks := hk.mono (fun _ _ r => At.next itv_ne hb r)
  have := ((hk'.take i).append (Kids.one h2)).append (hk'.drop (i + 1))
  rwa [List.append_assoc, List.append_assoc, List.singleton_append, List.singleton_append, ← List.singleton_append (l := bs.drop (i + 1)), ← List.append_assoc] at this
theorem put_len {d : Nat} {ks : List (T d)} {t2 : T d} {i : Nat} (hik : i < ks.length) : (ks.take i ++ t2 :: ks.drop (i + 1)).length = ks.length := by
  simp only [List.length_append, List.length_take, List.length_drop, List.length_cons]; omega
theorem put_at {d : Nat} {ks : List (T d)} {t2 : T d} {i : Nat} (hik : i < ks.length) (h : i < (ks.take i ++ t2 :: ks.drop (i + 1)).length) : (ks.take i ++ t2 :: ks.drop (i + 1))[i] = t2 := by
  rw [List.getElem_append_right (by rw [List.length_take]; omega)]
  simp [List.length_take, Nat.min_eq_left (Nat.le_of_lt hik)]
theorem put_else {d : Nat} {ks : List (T d)} {t2 : T d} {i : Nat} (hik : i < ks.length) (q : Nat) (h : q < (ks.take i ++ t2 :: ks.drop (i + 1)).length) (hq : q ≠ i) : (ks.take i ++ t2 :: ks.drop (i + 1))[q] ∈ ks := by
  have hm := List.getElem_mem h
  by_cases c : q < i
  · rw [List.getElem_append_left (by rw [List.length_take]; omega)]
    exact List.mem_of_mem_take (List.getElem_mem _)
  · obtain ⟨r, hr⟩ : ∃ r, q - i = r + 1 := ⟨q - i - 1, by omega⟩
    have hlt : (ks.take i).length = i := by rw [List.length_take]; omega
    rw [List.getElem_append_right (by omega)]
    simp only [hlt, hr, List.getElem_cons_succ]
    exact List.mem_of_mem_drop (List.getElem_mem _)
/-- What a node without a key comes to, where a kid has one item fewer. -/
theorem fewer {d : Nat} {w' : World} {b3 b2 : Nat} {xs : List Itm} {bs : List Nat} {ks : List (T d)} {t2 : T d} (hz3 : ks.length = xs.length + 1) (hz2 : xs.length ≤ 12) (hz1 : 1 ≤ xs.length) (hz4 : ∀ k, k ∈ ks → Sz 6 12 d k) (i : Nat) (hi : i ≤ xs.length) (hn : NdAt itv w' b3 xs (bs.take i ++ [b2] ++ bs.drop (i + 1))) (hk : Kids (At itv w' d) (bs.take i ++ [b2] ++ bs.drop (i + 1)) (ks.take i ++ t2 :: ks.drop (i + 1))) (h5 : Sz 5 12 d t2) (h6 : (itemsT t2).length < 6) :
    Calls Try.prog 43 #[.pointer (some ⟨b3, 0, none⟩), .int .i64 i] w' fun e w'' => ∃ b' t', e = .returned (.pointer (some ⟨b', 0, none⟩)) ∧ Below w'.heap.size w' w'' ∧ At itv w'' (d + 1) b' t' ∧ flat (d + 1) t' = flat (d + 1) ((xs, ks.take i ++ t2 :: ks.drop (i + 1)) : T (d + 1)) ∧ Sz (xs.length - 1) 12 (d + 1) t' := by
  have hik : i < ks.length := by omega
  have hlt : i < (ks.take i ++ t2 :: ks.drop (i + 1)).length := by rw [put_len hik]; exact hik
  have e := put_at (t2 := t2) hik hlt
  exact filled_is w' b3 xs _ (ks.take i ++ t2 :: ks.drop (i + 1)) hn hk (by rw [put_len hik]; exact hz3) hz2 hz1 i hi hlt (by rw [e]; exact h5) (by rw [e]; exact h6) (fun q hq hne => hz4 _ (put_else hik q hq hne))
theorem fewer_no {d : Nat} {xs : List Itm} {ks : List (T d)} {t2 : T d} (lo : Nat) (hlo : lo ≤ xs.length) (hz3 : ks.length = xs.length + 1) (hz2 : xs.length ≤ 12) (hz4 : ∀ k, k ∈ ks → Sz 6 12 d k) (i : Nat) (hi : i ≤ xs.length) (h5 : Sz 5 12 d t2) (h6 : 6 ≤ (itemsT t2).length) : Sz lo 12 (d + 1) ((xs, ks.take i ++ t2 :: ks.drop (i + 1)) : T (d + 1)) := by
  have hik : i < ks.length := by omega
  refine ⟨hlo, hz2, by show (ks.take i ++ t2 :: ks.drop (i + 1)).length = xs.length + 1; rw [put_len hik]; exact hz3, fun q hq => ?_⟩
  rcases List.mem_append.1 (show q ∈ ks.take i ++ t2 :: ks.drop (i + 1) from hq) with hq | hq
  · exact hz4 q (List.mem_of_mem_take hq)
  · rcases List.mem_cons.1 hq with rfl | hq
    · exact h5.set h6 (Sz.lo h5).2
    · exact hz4 q (List.mem_of_mem_drop hq)
theorem without_is : ∀ (d : Nat) (k : Int) (lo : Nat) (t : T d) (b : Nat) (w : World), At itv w d b t → 1 ≤ lo → Sz lo 12 d t → Sorted (flat d t) → (getL (flat d t) k).isSome = true →
    Calls Try.prog 24 #[.pointer (some ⟨b, 0, none⟩), .int .i64 k] w fun e w' => ∃ b' t', e = .returned (.pointer (some ⟨b', 0, none⟩)) ∧ Below w.heap.size w w' ∧ At itv w' d b' t' ∧ flat d t' = delL (flat d t) k ∧ Sz (lo - 1) 12 d t' := by
  intro d
  induction d with
  | zero =>
    intro k lo l
    change List Itm at l
    intro b w h hlo hz hs hg
    have hz' : lo ≤ List.length l ∧ List.length l ≤ 12 := hz
    obtain ⟨h1, h2, h3, h4, v0, h5⟩ := getL_around (l := l) hs hg
    refine (without_leaf w b l h hs (by omega) k h1 h2 _ rfl).mono ?_
    rintro e w' ⟨b', r1, r2, r3⟩
    refine ⟨b', (List.take (pos l k) l ++ [] ++ List.drop (pos l k + 1) l : List Itm), r1, r2, r3, ?_, ?_⟩
    · show l.take (pos l k) ++ [] ++ l.drop (pos l k + 1) = delL l k
      have := delL_mid (P := l.take (pos l k)) (M := [(k, v0)]) (S := l.drop (pos l k + 1)) h3 h4
      rw [List.append_assoc, List.singleton_append, ← h5, List.take_append_drop, delL_one] at this
      exact this.symm
    · constructor
      · show lo - 1 ≤ (l.take _ ++ [] ++ l.drop _).length
        simp only [List.length_append, List.length_take, List.length_drop, List.length_nil]; omega
      · show (l.take _ ++ [] ++ l.drop _).length ≤ 12
        simp only [List.length_append, List.length_take, List.length_drop, List.length_nil]; omega
  | succ d ih =>
    intro k lo t b w h hlo hz hs hg
    obtain ⟨xs, ks⟩ := t
    obtain ⟨hz1, hz2, hz3, hz4⟩ := hz
    dsimp only at hz1 hz2 hz3 hz4
    obtain ⟨bs, hn, hk⟩ := h
    dsimp only at hn hk
    have hsx : Sorted xs := items_sorted (d := d + 1) (t := (xs, ks)) hs
    obtain ⟨i, hi⟩ : ∃ i, pos xs k = i := ⟨_, rfl⟩
    have hp : i ≤ xs.length := by rw [← hi]; exact pos_le xs k
    have hik : i < ks.length := by omega
    have hib : i < bs.length := by rw [hk.1]; exact hik
    have hkid := hk.at i hib hik
    have hzk := hz4 _ (List.getElem_mem hik)
    have hsk := kids_sorted hz3 hs i hp hik
    have hfl := flat_here xs ks hz3 i hp hik
    have hs' := hs
    rw [hfl] at hs'
    rcases around (l := xs) hsx k with ⟨h1, h2, h3⟩ | ⟨h1, h2, h3, h4, v0, h5⟩
    · rw [hi] at h2 h3
      have hmid := pre_mid (i := i) hs' h2 h3
      have hg' : (getL (flat d ks[i]) k).isSome = true := by
        rw [hfl, getL_mid hmid.1 hmid.2] at hg
        exact hg
      have hflat : ∀ t2 : T d, flat d t2 = delL (flat d ks[i]) k → flat (d + 1) ((xs, ks.take i ++ t2 :: ks.drop (i + 1)) : T (d + 1)) = delL (flat (d + 1) ((xs, ks) : T (d + 1))) k := fun t2 e => by
        rw [flat_at xs ks hz3 i hp, e, hfl, delL_mid hmid.1 hmid.2]
      refine without_down w b xs bs hn hsx (by omega) (by rw [hk.1]; omega) k h1 i hi bs[i] (List.getElem?_eq_getElem hib)
        (fun w' b2 y => ∃ t2 : T d, At itv w' d b2 t2 ∧ flat d t2 = delL (flat d ks[i]) k ∧ Sz 5 12 d t2 ∧ itemsT t2 = y)
        (fun w1 w2 b2 y ⟨t2, q1, q2⟩ q => ⟨t2, At.next itv_ne q q1, q2⟩)
        (fun w' kk => (ih k 6 ks[i] bs[i] w' (At.next itv_ne kk hkid) (by omega) hzk hsk hg').mono fun e w'' ⟨b2, t2, r1, r2, r3, r4, r5⟩ => ?_)
        (fun w' b' => ∃ t' : T (d + 1), At itv w' (d + 1) b' t' ∧ flat (d + 1) t' = delL (flat (d + 1) ((xs, ks) : T (d + 1))) k ∧ Sz (lo - 1) 12 (d + 1) t')
        (fun w' b3 b2 ys2 q1 q2 ⟨t2, q3, q4, q5, q6⟩ q7 => ?_) (fun w' b3 b2 ys2 q1 q2 ⟨t2, q3, q4, q5, q6⟩ q7 => ?_) |>.mono fun e w' ⟨b', r1, r2, t', r3⟩ => ⟨b', t', r1, r2, r3⟩
      · obtain ⟨kbs2, hnd⟩ := At.nd r3
        exact ⟨b2, itemsT t2, kbs2, r1, r2, hnd, t2, r3, r4, r5, rfl⟩
      · refine (fewer hz3 hz2 (by omega) hz4 i hp q2 (settle (xs := xs) hk q1 i q3) q5 (by rw [q6]; exact q7)).mono ?_
        rintro e w'' ⟨b', t', r1, r2, r3, r4, r5⟩
        exact ⟨b', r1, r2, t', r3, by rw [r4]; exact hflat t2 q4, r5.mono (by omega) (Nat.le_refl _)⟩
      · exact ⟨_, ⟨_, q2, settle (xs := xs) hk q1 i q3⟩, hflat t2 q4, fewer_no (lo - 1) (by omega) hz3 hz2 hz4 i hp q5 (by rw [q6]; exact q7)⟩
    · have hil : i < xs.length := by rw [← hi]; exact h2
      have hxk : xs[i].1 = k := by have := has_at h2 h1; simp only [hi] at this; exact this
      obtain ⟨x1, x2, P, hPx⟩ : ∃ x1 x2 P, flat d ks[i] = P ++ [((x1, x2) : Itm)] := by
        have hlen : 1 ≤ (flat d ks[i]).length := Nat.le_trans Nat.one_le_two_pow (flat_big d ks[i] 6 12 (by omega) hzk)
        have hne : flat d ks[i] ≠ [] := fun e => by rw [e] at hlen; simp at hlen
        exact ⟨((flat d ks[i]).getLast hne).1, ((flat d ks[i]).getLast hne).2, (flat d ks[i]).dropLast, (List.dropLast_concat_getLast hne).symm⟩
      have hsn := delL_snoc (by rw [← hPx]; exact hsk)
      rw [← hPx] at hsn
      obtain ⟨P0, S0, e1, e2, e3, _⟩ := flat_has hz3 hs hil
      have hik2 : i + 1 < ks.length := by omega
      have hsuf : ∀ y : Itm, suf (y :: xs.drop (i + 1)) ((ks.drop (i + 1)).map (flat d)) = y :: (flat d ks[i + 1] ++ suf (xs.drop (i + 1)) ((ks.drop (i + 1 + 1)).map (flat d))) := fun y => by
        rw [List.drop_eq_getElem_cons hik2, List.map_cons, suf]; simp
      have hfl' : flat (d + 1) ((xs, ks) : T (d + 1)) = (pre (xs.take i) ((ks.take i).map (flat d)) ++ flat d ks[i]) ++ [xs[i]] ++ (flat d ks[i + 1] ++ suf (xs.drop (i + 1)) ((ks.drop (i + 1 + 1)).map (flat d))) := by
        rw [hfl, List.drop_eq_getElem_cons hil, hsuf]; simp
      have hdel : delL (flat (d + 1) ((xs, ks) : T (d + 1))) k = (pre (xs.take i) ((ks.take i).map (flat d)) ++ flat d ks[i]) ++ (flat d ks[i + 1] ++ suf (xs.drop (i + 1)) ((ks.drop (i + 1 + 1)).map (flat d))) := by
        have hs2 := hs
        rw [hfl'] at hs2
        have g1 := List.pairwise_append.1 hs2
        have g2 := List.pairwise_append.1 g1.1
        have hx : xs[i] = (k, xs[i].2) := Prod.ext hxk rfl
        rw [hfl', delL_mid (fun y hy => by rw [← hxk]; exact g2.2.2 y hy _ (List.mem_singleton.2 rfl)) (fun y hy => by rw [← hxk]; exact g1.2.2 _ (List.mem_append_right _ (List.mem_singleton.2 rfl)) y hy), hx, delL_one, List.append_nil]
      have hxl : (xs.take i ++ [((x1, x2) : Itm)] ++ xs.drop (i + 1)).length = xs.length := by
        simp only [List.length_append, List.length_take, List.length_drop, List.length_cons, List.length_nil]; omega
      have etx : (xs.take i ++ [((x1, x2) : Itm)] ++ xs.drop (i + 1)).take i = xs.take i := by
        rw [List.append_assoc, List.take_append_of_le_length (by rw [List.length_take]; omega), List.take_take, Nat.min_self]
      have edx : (xs.take i ++ [((x1, x2) : Itm)] ++ xs.drop (i + 1)).drop i = (x1, x2) :: xs.drop (i + 1) := by
        rw [List.append_assoc, List.drop_append, List.drop_of_length_le (by rw [List.length_take]; omega), List.nil_append, List.length_take, Nat.min_eq_left (Nat.le_of_lt hil), Nat.sub_self, List.drop_zero]
        rfl
      have hflat : ∀ t2 : T d, flat d t2 = P → flat (d + 1) ((xs.take i ++ [((x1, x2) : Itm)] ++ xs.drop (i + 1), ks.take i ++ t2 :: ks.drop (i + 1)) : T (d + 1)) = delL (flat (d + 1) ((xs, ks) : T (d + 1))) k := fun t2 e => by
        rw [flat_at _ ks (by rw [hxl]; exact hz3) i (by rw [hxl]; exact hp), etx, edx, hsuf, e, hdel, hPx]
        simp
      have hlast : ∀ w', Below w.heap.size w w' → Calls Try.prog 42 #[.pointer (some ⟨bs[i], 0, none⟩)] w' fun e w'' => e = .returned (.agg #[.int .i64 x1, .string x2]) ∧ Below w'.heap.size w' w'' := fun w' kk => (last_is bs[i] d ks[i] 6 12 w' (by omega) (by omega) hzk (At.next itv_ne kk hkid)).mono fun e w'' ⟨x, P', r1, r2, r3⟩ => by
        rw [hPx] at r3
        have := List.append_inj_right' r3 rfl
        cases this
        exact ⟨r1, r2⟩
      have hrec : ∀ w', Below w.heap.size w w' → Calls Try.prog 24 #[.pointer (some ⟨bs[i], 0, none⟩), .int .i64 x1] w' fun e w'' => ∃ b2 ys2 kbs2, e = .returned (.pointer (some ⟨b2, 0, none⟩)) ∧ Below w'.heap.size w' w'' ∧ NdAt itv w'' b2 ys2 kbs2 ∧ ∃ t2 : T d, At itv w'' d b2 t2 ∧ flat d t2 = P ∧ Sz 5 12 d t2 ∧ itemsT t2 = ys2 := fun w' kk => (ih x1 6 ks[i] bs[i] w' (At.next itv_ne kk hkid) (by omega) hzk hsk hsn.2).mono fun e w'' ⟨b2, t2, r1, r2, r3, r4, r5⟩ => by
        obtain ⟨kbs2, hnd⟩ := At.nd r3
        exact ⟨b2, itemsT t2, kbs2, r1, r2, hnd, t2, r3, by rw [r4]; exact hsn.1, r5, rfl⟩
      have := without_in w b xs bs hn hsx (by omega) (by rw [hk.1]; omega) k h1 h2 i hi bs[i] (List.getElem?_eq_getElem hib) x1 x2 hlast
        (fun w' b2 y => ∃ t2 : T d, At itv w' d b2 t2 ∧ flat d t2 = P ∧ Sz 5 12 d t2 ∧ itemsT t2 = y)
        (fun w1 w2 b2 y ⟨t2, q1, q2⟩ q => ⟨t2, At.next itv_ne q q1, q2⟩) hrec
        (fun w' b' => ∃ t' : T (d + 1), At itv w' (d + 1) b' t' ∧ flat (d + 1) t' = delL (flat (d + 1) ((xs, ks) : T (d + 1))) k ∧ Sz (lo - 1) 12 (d + 1) t')
        (fun w' b3 b2 ys2 q1 q2 ⟨t2, q3, q4, q5, q6⟩ q7 => by
          refine (fewer (by rw [hxl]; exact hz3) (by rw [hxl]; exact hz2) (by rw [hxl]; omega) hz4 i (by rw [hxl]; exact hp) q2 (settle (xs := xs) hk q1 i q3) q5 (by rw [q6]; exact q7)).mono ?_
          rintro e w'' ⟨b', t', r1, r2, r3, r4, r5⟩
          rw [hxl] at r5
          exact ⟨b', r1, r2, t', r3, by rw [r4]; exact hflat t2 q4, r5.mono (by omega) (Nat.le_refl _)⟩)
        (fun w' b3 b2 ys2 q1 q2 ⟨t2, q3, q4, q5, q6⟩ q7 => ⟨_, ⟨_, q2, settle (xs := xs) hk q1 i q3⟩, hflat t2 q4, fewer_no (lo - 1) (by rw [hxl]; omega) (by rw [hxl]; exact hz3) (by rw [hxl]; exact hz2) hz4 i (by rw [hxl]; exact hp) q5 (by rw [q6]; exact q7)⟩)
      exact this.mono fun e w' ⟨b', r1, r2, t', r3⟩ => ⟨b', t', r1, r2, r3⟩
end Go.Proofs.Ytgebionlkmjfnaa
