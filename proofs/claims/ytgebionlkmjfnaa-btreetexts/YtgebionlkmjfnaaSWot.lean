/- without, of a tree. -/
import Derived.Test.YtgebionlkmjfnaaSWoA
import Derived.Test.YtgebionlkmjfnaaSWoB
namespace Go.Proofs.Ytgebionlkmjfnaa.Sx
open Go.ChangeShapes Go.WideShapes Go.RowKit
set_option linter.unusedVariables false
set_option maxRecDepth 100000

/-- Two trees and what stands between them, as one node. -/
def joinL (l : List Itm) (m : Itm) (r : List Itm) : List Itm := l ++ [m] ++ r
theorem joinL_flat (l : List Itm) (m : Itm) (r : List Itm) : joinL l m r = l ++ m :: r := by unfold joinL; simp
theorem joinL_len (l : List Itm) (m : Itm) (r : List Itm) : (joinL l m r).length = l.length + 1 + r.length := by unfold joinL; rw [List.length_append, List.length_append]; rfl
def joinT : ∀ {d : Nat}, T d → Itm → T d → T d
  | 0, l, m, r => joinL l m r
  | _ + 1, l, m, r => (l.1 ++ [m] ++ r.1, l.2 ++ r.2)
theorem joinT_items : ∀ {d : Nat} (l : T d) (m : Itm) (r : T d), itemsT (joinT l m r) = itemsT l ++ [m] ++ itemsT r
  | 0, _, _, _ => rfl
  | _ + 1, _, _, _ => rfl
theorem joinT_flat : ∀ {d : Nat} {l r : T d} (m : Itm) {lo hi lo' hi' : Nat}, Sz lo hi d l → Sz lo' hi' d r → flat d (joinT l m r) = flat d l ++ m :: flat d r
  | 0, l, r, m, _, _, _, _, _, _ => joinL_flat l m r
  | d + 1, l, r, m, _, _, _, _, hl, hr => by
    show weave (l.1 ++ [m] ++ r.1) ((l.2 ++ r.2).map (flat d)) = weave l.1 (l.2.map (flat d)) ++ m :: weave r.1 (r.2.map (flat d))
    rw [List.map_append, List.append_assoc, List.singleton_append]
    exact weave_two _ _ _ _ _ (by rw [List.length_map]; exact hl.2.2.1) (by rw [List.length_map]; exact hr.2.2.1)
theorem joinT_sz : ∀ {d : Nat} {l r : T d} (m : Itm) {lo hi lo' hi' : Nat} (a c : Nat), Sz lo hi d l → Sz lo' hi' d r → a ≤ (itemsT l).length + 1 + (itemsT r).length → (itemsT l).length + 1 + (itemsT r).length ≤ c → Sz a c d (joinT l m r)
  | 0, l, r, m, _, _, _, _, a, c, hl, hr, h1, h2 => by
    have e := joinL_len l m r
    exact ⟨Nat.le_trans h1 (Nat.le_of_eq e.symm), Nat.le_trans (Nat.le_of_eq e) h2⟩
  | d + 1, l, r, m, _, _, _, _, a, c, hl, hr, h1, h2 => by
    have e : (l.1 ++ [m] ++ r.1).length = l.1.length + 1 + r.1.length := by rw [List.length_append, List.length_append]; rfl
    refine ⟨by show a ≤ (l.1 ++ [m] ++ r.1).length; rw [e]; exact h1, by show (l.1 ++ [m] ++ r.1).length ≤ c; rw [e]; exact h2, ?_, fun k hk => ?_⟩
    · show (l.2 ++ r.2).length = (l.1 ++ [m] ++ r.1).length + 1
      rw [e, List.length_append, hl.2.2.1, hr.2.2.1]; omega
    · rcases List.mem_append.1 (show k ∈ l.2 ++ r.2 from hk) with h | h
      · exact hl.2.2.2 k h
      · exact hr.2.2.2 k h
/-- filled, of a tree. -/
theorem filled_is {d : Nat} (w : World) (b : Nat) (xs : List Itm) (bs : List Nat) (ks : List (T d)) (h : NdAt itv w b xs bs) (hk : Kids (At itv w d) bs ks) (hl : ks.length = xs.length + 1) (hx : xs.length ≤ 12) (hx1 : 1 ≤ xs.length) (i : Nat) (hi : i ≤ xs.length) (hik : i < ks.length) (hzi : Sz 5 12 d ks[i]) (hsm : (itemsT ks[i]).length < 6) (hz : ∀ q (hq : q < ks.length), q ≠ i → Sz 6 12 d ks[q]) :
    Calls Try.prog 55 #[.pointer (some ⟨b, 0, none⟩), .int .i64 i] w fun e w' => ∃ b' t', e = .returned (.pointer (some ⟨b', 0, none⟩)) ∧ Below w.heap.size w w' ∧ At itv w' (d + 1) b' t' ∧ flat (d + 1) t' = flat (d + 1) ((xs, ks) : T (d + 1)) ∧ Sz (xs.length - 1) 12 (d + 1) t' := by
  obtain ⟨j, hj, hjx⟩ : ∃ j, ((i = 0 ∧ j = 0) ∨ i = j + 1) ∧ j < xs.length := by
    cases i with
    | zero => exact ⟨0, .inl ⟨rfl, rfl⟩, by omega⟩
    | succ j => exact ⟨j, .inr rfl, by omega⟩
  have hj0 : j < ks.length := by omega
  have hj1 : j + 1 < ks.length := by omega
  have hb0 : j < bs.length := by rw [hk.1]; exact hj0
  have hb1 : j + 1 < bs.length := by rw [hk.1]; exact hj1
  have hL := hk.at j hb0 hj0
  have hR := hk.at (j + 1) hb1 hj1
  have hij : i = j ∨ i = j + 1 := by omega
  have hzL : Sz 5 12 d ks[j] := by
    rcases hij with e | e
    · subst e; exact hzi
    · exact (hz j hj0 (by omega)).mono (by omega) (by omega)
  have hzR : Sz 5 12 d ks[j + 1] := by
    rcases hij with e | e
    · exact (hz (j + 1) hj1 (by omega)).mono (by omega) (by omega)
    · subst e; exact hzi
  have hsum : 12 ≤ (itemsT ks[j]).length + 1 + (itemsT ks[j + 1]).length ∧ (itemsT ks[j]).length + 1 + (itemsT ks[j + 1]).length ≤ 18 := by
    have a1 := Sz.lo hzL
    have a2 := Sz.lo hzR
    rcases hij with e | e
    · have a3 := Sz.lo (hz (j + 1) hj1 (by omega))
      subst e
      omega
    · have a3 := Sz.lo (hz j hj0 (by omega))
      subst e
      omega
  obtain ⟨L, hLe⟩ : ∃ L, ks[j] = L := ⟨_, rfl⟩
  obtain ⟨Rr, hRe⟩ : ∃ Rr, ks[j + 1] = Rr := ⟨_, rfl⟩
  rw [hLe] at hL hzL hsum
  rw [hRe] at hR hzR hsum
  obtain ⟨m, hm⟩ : ∃ m, xs[j]? = some m := ⟨_, List.getElem?_eq_getElem hjx⟩
  have hmx : xs[j] = m := (List.getElem?_eq_some_iff.1 hm).2
  -- the blocks of both
  obtain ⟨lbs, rbs, hnl, hnr, hll, hrl, hjoin⟩ : ∃ lbs rbs, NdAt itv w bs[j] (itemsT L) lbs ∧ NdAt itv w bs[j + 1] (itemsT Rr) rbs ∧ lbs.length ≤ 21 ∧ rbs.length ≤ 21 ∧ ∀ w' B, Below w.heap.size w w' → NdAt itv w' B (itemsT L ++ [m] ++ itemsT Rr) (lbs ++ rbs) → At itv w' d B (joinT L m Rr) := by
    cases d with
    | zero => exact ⟨[], [], hL, hR, by simp, by simp, fun w' B _ q => q⟩
    | succ d =>
      obtain ⟨lbs, q1, q2⟩ := hL
      obtain ⟨rbs, q3, q4⟩ := hR
      refine ⟨lbs, rbs, q1, q3, by rw [q2.1, hzL.2.2.1]; have := hzL.2.1; omega, by rw [q4.1, hzR.2.2.1]; have := hzR.2.1; omega, fun w' B hb q => ⟨_, q, ?_⟩⟩
      exact (q2.mono (fun _ _ r => At.next itv_ne hb r)).append (q4.mono (fun _ _ r => At.next itv_ne hb r))
  have hxs0 : (xs.take j ++ [] ++ xs.drop (j + 1)).length + 1 = xs.length := by simp; omega
  have hks0 : (ks.take j ++ joinT L m Rr :: ks.drop (j + 2)).length = (xs.take j ++ [] ++ xs.drop (j + 1)).length + 1 := by simp; omega
  have hj' : j ≤ (xs.take j ++ [] ++ xs.drop (j + 1)).length := by simp; omega
  have hjk : j < (ks.take j ++ joinT L m Rr :: ks.drop (j + 2)).length := by simp; omega
  have hget : (ks.take j ++ joinT L m Rr :: ks.drop (j + 2))[j] = joinT L m Rr := by
    rw [List.getElem_append_right (by rw [List.length_take]; omega)]
    simp [List.length_take, Nat.min_eq_left (Nat.le_of_lt hj0)]
  have etx : (xs.take j ++ [] ++ xs.drop (j + 1)).take j = xs.take j := by
    rw [List.append_nil, List.take_append_of_le_length (by rw [List.length_take]; omega), List.take_take, Nat.min_self]
  have edx : (xs.take j ++ [] ++ xs.drop (j + 1)).drop j = xs.drop (j + 1) := by
    rw [List.append_nil, List.drop_append, List.drop_of_length_le (by rw [List.length_take]; omega), List.nil_append, List.length_take, Nat.min_eq_left (Nat.le_of_lt hjx), Nat.sub_self, List.drop_zero]
  have etk : (ks.take j ++ joinT L m Rr :: ks.drop (j + 2)).take j = ks.take j := by
    rw [List.take_append_of_le_length (by rw [List.length_take]; omega), List.take_take, Nat.min_self]
  have edk : (ks.take j ++ joinT L m Rr :: ks.drop (j + 2)).drop (j + 1) = ks.drop (j + 2) := by
    rw [List.drop_append, List.drop_of_length_le (by rw [List.length_take]; omega), List.nil_append, List.length_take, Nat.min_eq_left (Nat.le_of_lt hj0), Nat.add_sub_cancel_left]
    rfl
  have hfl0 : flat (d + 1) ((xs, ks) : T (d + 1)) = pre (xs.take j) ((ks.take j).map (flat d)) ++ (flat d L ++ m :: flat d Rr) ++ suf (xs.drop (j + 1)) ((ks.drop (j + 2)).map (flat d)) := by
    have := flat_two (xs.take j ++ [] ++ xs.drop (j + 1)) (ks.take j ++ joinT L m Rr :: ks.drop (j + 2)) hks0 j hj' m L Rr
    rw [etx, edx, etk, edk] at this
    rw [← this]
    congr 2
    · rw [List.append_assoc, List.singleton_append, ← hmx, ← split_at hjx]
    · have e1 := split_at hj0
      have e2 : ks.drop (j + 1) = ks[j + 1] :: ks.drop (j + 1 + 1) := List.drop_eq_getElem_cons hj1
      rw [e2, hLe, hRe] at e1
      rw [List.append_assoc]
      exact e1
  have hjf := joinT_flat m hzL hzR
  have hfl1 : flat (d + 1) ((xs.take j ++ [] ++ xs.drop (j + 1), ks.take j ++ joinT L m Rr :: ks.drop (j + 2)) : T (d + 1)) = flat (d + 1) ((xs, ks) : T (d + 1)) := by
    have := flat_here (xs.take j ++ [] ++ xs.drop (j + 1)) (ks.take j ++ joinT L m Rr :: ks.drop (j + 2)) hks0 j hj' hjk
    rw [etx, edx, etk, edk, hget, hjf] at this
    rw [this, hfl0]
  have hothers : ∀ q, q ∈ ks.take j ++ ks.drop (j + 2) → Sz 6 12 d q := by
    intro q hq
    rcases List.mem_append.1 hq with hq | hq
    · obtain ⟨n, hn, rfl⟩ := List.mem_take_iff_getElem.1 hq
      exact hz n (by omega) (by omega)
    · obtain ⟨n, hn, rfl⟩ := List.mem_drop_iff_getElem.1 hq
      exact hz (j + 2 + n) (by omega) (by omega)
  have hkids : ∀ w' B, Below w.heap.size w w' → At itv w' d B (joinT L m Rr) → Kids (At itv w' d) (bs.take j ++ [B] ++ bs.drop (j + 2)) (ks.take j ++ joinT L m Rr :: ks.drop (j + 2)) := fun w' B hb hB => by
    have hk' : Kids (At itv w' d) bs ks := hk.mono (fun _ _ r => At.next itv_ne hb r)
    have := ((hk'.take j).append (Kids.one hB)).append (hk'.drop (j + 2))
    rwa [List.append_assoc, List.append_assoc, List.singleton_append, List.singleton_append, ← List.singleton_append (l := bs.drop (j + 2)), ← List.append_assoc] at this
  refine (filled_at w b xs bs i j bs[j] bs[j + 1] (itemsT L) (itemsT Rr) lbs rbs m h hj (List.getElem?_eq_getElem hb0) (List.getElem?_eq_getElem hb1) hm hnl hnr (by omega) (by rw [hk.1]; omega) (by have := (Sz.lo hzL).2; omega) (by have := (Sz.lo hzR).2; omega) hll hrl
    (fun w' b' => ∃ t' : T (d + 1), At itv w' (d + 1) b' t' ∧ flat (d + 1) t' = flat (d + 1) ((xs, ks) : T (d + 1)) ∧ Sz (xs.length - 1) 12 (d + 1) t')
    (fun w' b3 B q1 q2 q3 q4 => ?_) (fun w' b3 B q1 q2 q3 q4 => ?_)).mono fun e w' ⟨b', r1, r2, t', r3⟩ => ⟨b', t', r1, r2, r3⟩
  · have hlen : (itemsT L ++ [m] ++ itemsT Rr).length = (itemsT L).length + 1 + (itemsT Rr).length := by rw [List.length_append, List.length_append]; rfl
    refine (halved_is w' b3 _ _ (ks.take j ++ joinT L m Rr :: ks.drop (j + 2)) q2 (hkids w' B q1 (hjoin w' B q1 q3)) hks0 (by omega) j hj' hjk (by rw [hget]; exact joinT_sz m 13 18 hzL hzR (by omega) (by omega))).mono ?_
    rintro e w'' ⟨b', m', L', R', r1, r2, r3, r4, r5, r6⟩
    rw [hget, hjf] at r4
    rw [etx, edx, etk, edk] at r3
    refine ⟨b', r1, r2, _, r3, ?_, ?_, ?_, ?_, ?_⟩
    · have := flat_two (xs.take j ++ [] ++ xs.drop (j + 1)) (ks.take j ++ joinT L m Rr :: ks.drop (j + 2)) hks0 j hj' m' L' R'
      rw [etx, edx, etk, edk] at this
      rw [this, ← r4, hfl0]
    · show xs.length - 1 ≤ (xs.take j ++ [m'] ++ xs.drop (j + 1)).length
      simp only [List.length_append, List.length_take, List.length_drop, List.length_cons, List.length_nil]; omega
    · show (xs.take j ++ [m'] ++ xs.drop (j + 1)).length ≤ 12
      simp only [List.length_append, List.length_take, List.length_drop, List.length_cons, List.length_nil]; omega
    · show (ks.take j ++ [L', R'] ++ ks.drop (j + 2)).length = (xs.take j ++ [m'] ++ xs.drop (j + 1)).length + 1
      simp only [List.length_append, List.length_take, List.length_drop, List.length_cons, List.length_nil]; omega
    · intro q hq
      rcases List.mem_append.1 (show q ∈ ks.take j ++ [L', R'] ++ ks.drop (j + 2) from hq) with hq | hq
      · rcases List.mem_append.1 hq with hq | hq
        · exact hothers q (List.mem_append_left _ hq)
        · rcases List.mem_cons.1 hq with rfl | hq
          · exact r5
          · rcases List.mem_singleton.1 hq with rfl
            exact r6
      · exact hothers q (List.mem_append_right _ hq)
  · have hlen : (itemsT L ++ [m] ++ itemsT Rr).length = (itemsT L).length + 1 + (itemsT Rr).length := by rw [List.length_append, List.length_append]; rfl
    refine ⟨(xs.take j ++ [] ++ xs.drop (j + 1), ks.take j ++ joinT L m Rr :: ks.drop (j + 2)), ⟨_, q2, hkids w' B q1 (hjoin w' B q1 q3)⟩, hfl1, ?_, ?_, hks0, ?_⟩
    · show xs.length - 1 ≤ (xs.take j ++ [] ++ xs.drop (j + 1)).length; omega
    · show (xs.take j ++ [] ++ xs.drop (j + 1)).length ≤ 12; omega
    · intro q hq
      rcases List.mem_append.1 (show q ∈ ks.take j ++ joinT L m Rr :: ks.drop (j + 2) from hq) with hq | hq
      · exact hothers q (List.mem_append_left _ hq)
      · rcases List.mem_cons.1 hq with rfl | hq
        · exact joinT_sz m 6 12 hzL hzR (by omega) (by omega)
        · exact hothers q (List.mem_append_right _ hq)
end Go.Proofs.Ytgebionlkmjfnaa.Sx
