/- What a tree tells. -/
import Derived.Test.YtgebionlkmjfnaaSTelA
import Derived.Test.YtgebionlkmjfnaaSTelB
namespace Go.Proofs.Ytgebionlkmjfnaa.Sx
open Go.ChangeShapes Go.WideShapes Go.RowKit
set_option linter.unusedVariables false
set_option maxRecDepth 100000

open Go.Shelf
attribute [local go_sem] Oper.semAt_some

theorem TellP.seq {J Jx : List Itm → World → Prop} {w0 : World} {A B pre : List Itm} {e : Ending} {W' : World} (h : TellP J Jx w0 B (pre ++ A) e W') : TellP J Jx w0 (A ++ B) pre e W' := by
  obtain ⟨bb, he, h⟩ := h
  refine ⟨bb, he, ?_⟩
  rcases h with ⟨h1, h2, h3⟩ | ⟨h1, q, hq, hx⟩
  · exact .inl ⟨h1, by rw [← List.append_assoc]; exact h2, h3⟩
  · obtain ⟨r, hr⟩ := hq
    exact .inr ⟨h1, A ++ q, ⟨r, by rw [List.append_assoc, hr]⟩, by rw [← List.append_assoc]; exact hx⟩
theorem TellP.cut {J Jx : List Itm → World → Prop} {w0 : World} {A B pre q : List Itm} {W' : World} (hq : q <+: A) (hx : Jx (pre ++ q) W') : TellP J Jx w0 (A ++ B) pre (.returned (.bool false)) W' := by
  obtain ⟨r, hr⟩ := hq
  exact ⟨false, rfl, .inr ⟨rfl, q, ⟨r ++ B, by rw [← List.append_assoc, hr]⟩, hx⟩⟩
set_option maxHeartbeats 4000000 in
theorem tellAll_in (y N : Nat) (w0 : World) (J Jx : List Itm → World → Prop) (hT : Told y N w0 J Jx) : ∀ (d : Nat) (b : Nat) (t : T d) (lo hi : Nat), At itv w0 d b t → hi ≤ 50 → Sz lo hi d t → ∀ (n : Nat) (pre : List Itm) (W : World), J pre W → Below w0.heap.size w0 W → pre.length + (flat d t).length ≤ N →
    CallsIn Fence.wide n Try.prog 35 #[.pointer (some ⟨b, 0, none⟩), .func (.yield y) #[] #[]] W (TellP J Jx w0 (flat d t) pre) := by
  have hdd : ∀ k : Nat, (Fence.wide.depth.isSome = true → 1 ≤ k) := fun k h => by cases h
  intro d
  induction d with
  | zero =>
    intro b l
    change List Itm at l
    intro lo hi ha hhi hz n pre W hJ hB hN
    have HB : Hid (∀ m, CallsIn Fence.wide m Try.prog 56 #[.pointer (some ⟨b, 0, none⟩), .int .i64 0, .func (.yield y) #[] #[]] W (TellP J Jx w0 l pre)) := fun m => behind_leaf m y N w0 J Jx hT b l ha (Nat.le_trans hz.2 hhi) 0 (Nat.zero_le _) pre W hJ hB hN
    have HL : Hid (∀ m, CallsIn Fence.wide m Try.prog 37 #[.pointer (some ⟨b, 0, none⟩)] W fun e w'' => e = .returned (.bool true) ∧ W = w'') := fun m => callsIn_wide.2 ((leaf_is b l [] W (NdAt.next itv_ne ha hB)).mono (fun e w2 q => ⟨q.1, q.2.symm⟩))
    show CallsIn Fence.wide n Try.prog 35 #[.pointer (some ⟨b, 0, none⟩), .func (.yield y) #[] #[]] W (TellP J Jx w0 l pre)
    clear ha hz hJ hB hN
    refine callsIn_of_wp Try.func35 rfl trivial ?_ rfl
    simp only [Try.ntmps35, List.size_toArray, List.length_cons, List.length_nil, Nat.reduceAdd, Nat.reduceSub, Array.replicate_succ, Array.replicate_zero, List.push_toArray, List.append_toArray, List.nil_append, List.cons_append]
    gi_wp2
    refine ⟨trivial, hdd _, (HL.out _).mono ?_⟩
    rintro e w2 ⟨rfl, rfl⟩
    gi_wp2
    first | (refine ⟨trivial, ?_⟩; gi_wp2) | (refine ⟨fun _ _ => trivial, ?_⟩; gi_wp2)
    refine ⟨trivial, hdd _, (HB.out _).mono ?_⟩
    rintro e w3 ⟨bb, rfl, hp⟩
    have HP : Hid _ := hp
    clear hp
    gi_wp2
    go_ret
    exact ⟨bb, rfl, HP.out⟩
  | succ d ih =>
    intro b t lo hi ha hhi hz n pre W hJ hB hN
    obtain ⟨xs, ks⟩ := t
    obtain ⟨bs, hn, hk⟩ := ha
    obtain ⟨hz1, hz2, hz3, hz4⟩ := hz
    dsimp only at hn hk hz1 hz2 hz3 hz4
    have hfl : flat (d + 1) ((xs, ks) : T (d + 1)) = (ks.map (flat d))[0]'(by rw [List.length_map]; omega) ++ suf xs ((ks.map (flat d)).drop 1) := by
      show weave xs (ks.map (flat d)) = _
      match ks, hz3 with
      | k :: ks, hz3 =>
        exact weave_tail xs (flat d k) (ks.map (flat d)) (by rw [List.length_map]; simpa using hz3)
    have hl0 : 0 < bs.length := by rw [hk.1]; omega
    have hk0 : 0 < ks.length := by omega
    have hkid : ∀ q (hq : q < bs.length) (hq' : q < (ks.map (flat d)).length) m pre W, J pre W → Below w0.heap.size w0 W → pre.length + ((ks.map (flat d))[q]).length ≤ N → CallsIn Fence.wide m Try.prog 35 #[.pointer (some ⟨bs[q], 0, none⟩), .func (.yield y) #[] #[]] W (TellP J Jx w0 ((ks.map (flat d))[q]) pre) := fun q hq hq' m pre W h1 h2 h3 => by
      have hqk : q < ks.length := by rw [List.length_map] at hq'; exact hq'
      rw [List.getElem_map] at h3 ⊢
      exact ih bs[q] ks[q] 6 12 (hk.at q hq hqk) (by omega) (hz4 _ (List.getElem_mem hqk)) m pre W h1 h2 h3
    rw [hfl] at hN ⊢
    rw [List.length_append] at hN
    obtain ⟨F0, hF0⟩ : ∃ F0, (ks.map (flat d))[0]'(by rw [List.length_map]; omega) = F0 := ⟨_, rfl⟩
    have HK0 : Hid (∀ m, CallsIn Fence.wide m Try.prog 35 #[.pointer (some ⟨bs[0], 0, none⟩), .func (.yield y) #[] #[]] W (TellP J Jx w0 F0 pre)) := fun m => by
      have := hkid 0 hl0 (by rw [List.length_map]; omega) m pre W hJ hB (by omega)
      rw [hF0] at this
      exact this
    rw [hF0] at hN ⊢
    have HB : Hid (∀ m W', J (pre ++ F0) W' → Below w0.heap.size w0 W' → CallsIn Fence.wide m Try.prog 56 #[.pointer (some ⟨b, 0, none⟩), .int .i64 0, .func (.yield y) #[] #[]] W' (TellP J Jx w0 (suf xs ((ks.map (flat d)).drop 1)) (pre ++ F0))) := fun m W' h1 h2 => behind_inner m y N w0 J Jx hT b xs bs (ks.map (flat d)) (by rw [List.length_map, hk.1]) (by rw [hk.1]; exact hz3) hn (Nat.le_trans hz2 hhi) 0 (Nat.zero_le _) (pre ++ F0) W' h1 h2 (by rw [List.length_append]; show pre.length + F0.length + (suf xs ((ks.map (flat d)).drop 1)).length ≤ N; omega) hkid
    have hne : bs ≠ [] := fun e => by rw [e] at hl0; simp at hl0
    have hnW := hn.next itv_ne hB
    have HL : Hid (∀ m, CallsIn Fence.wide m Try.prog 37 #[.pointer (some ⟨b, 0, none⟩)] W fun e w'' => e = .returned (.bool false) ∧ W = w'') := fun m => by
      have := leaf_is b xs bs W hnW
      rw [decide_eq_false hne] at this
      exact callsIn_wide.2 (this.mono (fun e w2 q => ⟨q.1, q.2.symm⟩))
    obtain ⟨u, v, c0, c1, hu, hv⟩ := hnW
    obtain ⟨pb, po, pc, rfl, hpc, hpb, hpt⟩ := hv.ptr hne
    have p0 := hpt 0 hl0
    rw [Nat.zero_mul, Nat.add_zero] at p0
    have hl0i : (0 : Int) < (bs.length : Int) := by omega
    generalize suf xs ((ks.map (flat d)).drop 1) = S0 at *
    generalize bs[0] = kb0 at *
    clear hkid hfl hF0 hu hv hpt hn hk hz1 hz2 hz3 hz4 ih c0 hN hJ hB
    refine callsIn_of_wp Try.func35 rfl trivial ?_ rfl
    simp only [Try.ntmps35, List.size_toArray, List.length_cons, List.length_nil, Nat.reduceAdd, Nat.reduceSub, Array.replicate_succ, Array.replicate_zero, List.push_toArray, List.append_toArray, List.nil_append, List.cons_append]
    gi_wp2
    refine ⟨trivial, hdd _, (HL.out _).mono ?_⟩
    rintro e w2 ⟨rfl, rfl⟩
    gi_wp2
    refine ⟨trivial, hdd _, (HK0.out _).mono ?_⟩
    rintro e w3 ⟨bb, rfl, hp⟩
    have HP : Hid _ := hp
    clear hp c1 p0
    cases bb with
    | false =>
      have HQ : Hid (∃ q, q <+: F0 ∧ Jx (pre ++ q) w3) := by
        rcases HP.out with ⟨h, _⟩ | ⟨_, h⟩
        · cases h
        · exact h
      gi_wp2
      go_ret
      obtain ⟨q, hq1, hq2⟩ := HQ.out
      exact TellP.cut hq1 hq2
    | true =>
      have HQ : Hid (J (pre ++ F0) w3 ∧ Below w0.heap.size w0 w3) := by
        rcases HP.out with ⟨_, h⟩ | ⟨h, _⟩
        · exact h
        · cases h
      gi_wp2
      refine ⟨trivial, hdd _, (HB.out _ _ HQ.out.1 HQ.out.2).mono ?_⟩
      rintro e w4 ht
      obtain ⟨b2, rfl, hp2⟩ := ht
      have HP2 : Hid (TellP J Jx w0 S0 (pre ++ F0) (.returned (.bool b2)) w4) := ⟨b2, rfl, hp2⟩
      clear hp2
      gi_wp2
      go_ret
      exact HP2.out.seq
end Go.Proofs.Ytgebionlkmjfnaa.Sx
