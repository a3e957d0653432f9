/- What a tree tells from a key on. -/
import Derived.Test.YtgebionlkmjfnaaTelC
namespace Go.Proofs.Ytgebionlkmjfnaa
open Go.ChangeShapes Go.WideShapes Go.RowKit
set_option linter.unusedVariables false
set_option maxRecDepth 100000

open Go.Shelf
attribute [local go_sem] Oper.semAt_some

/-- What is not below a key. -/
def geL (l : List Itm) (k : Int) : List Itm := l.filter (fun x => !lessK k x)
theorem geL_low {l : List Itm} {k : Int} (h : Low l k) : geL l k = [] := List.filter_eq_nil_iff.2 (fun x hx e => by
  have : lessK k x = true := decide_eq_true (h x hx)
  rw [this] at e; cases e)
theorem geL_high {l : List Itm} {k : Int} (h : High l k) : geL l k = l := List.filter_eq_self.2 (fun x hx => by
  have h1 := h x hx; have := KOrd.turn k x.1; have : lessK k x = false := decide_eq_false (by omega); rw [this]; rfl)
theorem geL_app (a b : List Itm) (k : Int) : geL (a ++ b) k = geL a k ++ geL b k := List.filter_append ..
theorem geL_nil (k : Int) : geL [] k = [] := rfl
theorem geL_mid {P M S : List Itm} {k : Int} (hp : Low P k) (hs : High S k) : geL (P ++ M ++ S) k = geL M k ++ S := by
  rw [geL_app, geL_app, geL_low hp, geL_high hs, List.nil_append]
theorem geL_at {A B : List Itm} {x : Itm} {k : Int} (hs : Sorted (A ++ x :: B)) (hx : x.1 = k) : geL (A ++ x :: B) k = x :: B := by
  have h1 := List.pairwise_append.1 hs
  subst hx
  have hl : Low A x.1 := fun y hy => h1.2.2 y hy x (List.mem_cons_self ..)
  have hh : High B x.1 := (List.pairwise_cons.1 h1.2.1).1
  have hxx : geL [x] x.1 = [x] := by
    have : lessK x.1 x = false := decide_eq_false (by rw [kc_self]; omega)
    show List.filter _ [x] = [x]
    rw [List.filter_cons, this]; rfl
  rw [show A ++ x :: B = A ++ [x] ++ B by simp, geL_mid hl hh, hxx]
  rfl
theorem TellP.in {J Jx : List Itm → World → Prop} {w0 : World} {F pre : List Itm} {e : Ending} {W : World} (h : TellP J Jx w0 F pre e W) : ∃ bb : Bool, e = .returned (.bool bb) ∧ Hid (TellP J Jx w0 F pre (.returned (.bool bb)) W) := by
  obtain ⟨bb, he, h⟩ := h
  exact ⟨bb, he, bb, rfl, h⟩
set_option maxHeartbeats 4000000 in
theorem tellFrom_in (y N : Nat) (w0 : World) (J Jx : List Itm → World → Prop) (hT : Told y N w0 J Jx) (key : Int) : ∀ (d : Nat) (b : Nat) (t : T d) (lo hi : Nat), At itv w0 d b t → hi ≤ 50 → Sz lo hi d t → Sorted (flat d t) → ∀ (n : Nat) (pre : List Itm) (W : World), J pre W → Below w0.heap.size w0 W → pre.length + (geL (flat d t) key).length ≤ N →
    CallsIn Fence.wide n Try.prog 30 #[.pointer (some ⟨b, 0, none⟩), .int .i64 key, .func (.yield y) #[] #[]] W (TellP J Jx w0 (geL (flat d t) key) pre) := by
  have hdd : ∀ k : Nat, (Fence.wide.depth.isSome = true → 1 ≤ k) := fun k h => by cases h
  intro d
  induction d with
  | zero =>
    intro b l
    change List Itm at l
    intro lo hi ha hhi hz hs n pre W hJ hB hN
    have hs' : Sorted l := hs
    have hlen : l.length ≤ 50 := Nat.le_trans hz.2 hhi
    have hdr : geL l key = l.drop (pos l key) := by
      rcases around hs' key with ⟨q1, q2, q3⟩ | ⟨q1, q2, q3, q4, v0, q5⟩
      · have := geL_mid (M := []) q2 q3
        rw [List.append_nil, List.take_append_drop] at this
        exact this
      · have e : l = l.take (pos l key) ++ (key, v0) :: l.drop (pos l key + 1) := by rw [← q5, List.take_append_drop]
        have h2 := hs'
        rw [e] at h2
        have := geL_at h2 rfl
        rw [← e, ← q5] at this
        exact this
    show CallsIn Fence.wide n Try.prog 30 #[.pointer (some ⟨b, 0, none⟩), .int .i64 key, .func (.yield y) #[] #[]] W (TellP J Jx w0 (geL l key) pre)
    have hN' : pre.length + (geL l key).length ≤ N := hN
    rw [hdr] at hN' ⊢
    have HB : Hid (∀ m W', J pre W' → Below w0.heap.size w0 W' → CallsIn Fence.wide m Try.prog 49 #[.pointer (some ⟨b, 0, none⟩), .int .i64 ((pos l key : Nat) : Int), .func (.yield y) #[] #[]] W' (TellP J Jx w0 (l.drop (pos l key)) pre)) := fun m W' h1 h2 => behind_leaf m y N w0 J Jx hT b l ha hlen (pos l key) (pos_le _ _) pre W' h1 h2 hN'
    have HL : Hid (∀ m W', Below w0.heap.size w0 W' → CallsIn Fence.wide m Try.prog 26 #[.pointer (some ⟨b, 0, none⟩)] W' fun e w'' => e = .returned (.bool true) ∧ W' = w'') := fun m W' h2 => callsIn_wide.2 ((leaf_is b l [] W' (NdAt.next itv_ne ha h2)).mono (fun e w2 q => ⟨q.1, q.2.symm⟩))
    have HF : Hid (∀ m, CallsIn Fence.wide m Try.prog 25 #[.pointer (some ⟨b, 0, none⟩), .int .i64 key] W fun e w' => e = .returned (.tuple #[.int .i64 (pos l key : Nat), .bool (has l key)]) ∧ Hid (J pre w' ∧ Below w0.heap.size w0 w')) := fun m => callsIn_wide.2 ((find_is b l [] hs' (by omega) key W (NdAt.next itv_ne ha hB)).mono (fun e w2 q => ⟨q.1, hT.B _ _ _ hJ q.2, Below.next hB q.2⟩))
    generalize pos l key = p at *
    generalize has l key = z at *
    generalize l.drop p = S0 at *
    clear ha hz hJ hB hN hT hs hs' hlen hdr hN'
    refine callsIn_of_wp Try.func30 rfl trivial ?_ rfl
    simp only [Try.ntmps30, List.size_toArray, List.length_cons, List.length_nil, Nat.reduceAdd, Nat.reduceSub, Array.replicate_succ, Array.replicate_zero, List.push_toArray, List.append_toArray, List.nil_append, List.cons_append]
    gi_wp2
    refine ⟨trivial, hdd _, (HF.out _).mono ?_⟩
    rintro e w2 ⟨rfl, HW⟩
    cases z with
    | true =>
      gi_wp2
      first | (refine ⟨trivial, ?_⟩; gi_wp2) | (refine ⟨fun _ _ => trivial, ?_⟩; gi_wp2)
      first | (refine ⟨trivial, ?_⟩; gi_wp2) | (refine ⟨fun _ _ => trivial, ?_⟩; gi_wp2)
      refine ⟨trivial, hdd _, (HB.out _ _ HW.out.1 HW.out.2).mono ?_⟩
      rintro e w3 hp
      obtain ⟨bb, rfl, HP⟩ := hp.in
      clear hp
      gi_wp2
      go_ret
      exact HP.out
    | false =>
      gi_wp2
      refine ⟨trivial, hdd _, (HL.out _ _ HW.out.2).mono ?_⟩
      rintro e w3 ⟨rfl, rfl⟩
      gi_wp2
      first | (refine ⟨trivial, ?_⟩; gi_wp2) | (refine ⟨fun _ _ => trivial, ?_⟩; gi_wp2)
      refine ⟨trivial, hdd _, (HB.out _ _ HW.out.1 HW.out.2).mono ?_⟩
      rintro e w3 hp
      obtain ⟨bb, rfl, HP⟩ := hp.in
      clear hp
      gi_wp2
      go_ret
      exact HP.out
  | succ d ih =>
    intro b t lo hi ha hhi hz hs n pre W hJ hB hN
    obtain ⟨xs, ks⟩ := t
    obtain ⟨bs, hn, hk⟩ := ha
    obtain ⟨hz1, hz2, hz3, hz4⟩ := hz
    dsimp only at hn hk hz1 hz2 hz3 hz4
    have hsx : Sorted xs := items_sorted (d := d + 1) (t := ((xs, ks) : T (d + 1))) hs
    have hxl : xs.length ≤ 50 := Nat.le_trans hz2 hhi
    have hpl : pos xs key ≤ xs.length := pos_le _ _
    have hpk : pos xs key < ks.length := by omega
    have hpb : pos xs key < bs.length := by rw [hk.1]; exact hpk
    have hne : bs ≠ [] := fun e => by rw [e] at hpb; simp at hpb
    have hkid : ∀ q (hq : q < bs.length) (hq' : q < (ks.map (flat d)).length) m pre W, J pre W → Below w0.heap.size w0 W → pre.length + ((ks.map (flat d))[q]).length ≤ N → CallsIn Fence.wide m Try.prog 48 #[.pointer (some ⟨bs[q], 0, none⟩), .func (.yield y) #[] #[]] W (TellP J Jx w0 ((ks.map (flat d))[q]) pre) := fun q hq hq' m pre W h1 h2 h3 => by
      have hqk : q < ks.length := by rw [List.length_map] at hq'; exact hq'
      rw [List.getElem_map] at h3 ⊢
      exact tellAll_in y N w0 J Jx hT d bs[q] ks[q] 6 12 (hk.at q hq hqk) (by omega) (hz4 _ (List.getElem_mem hqk)) m pre W h1 h2 h3
    have hfl := flat_here xs ks hz3 (pos xs key) hpl hpk
    have hsk := kids_sorted hz3 hs (pos xs key) hpl hpk
    rw [List.map_drop] at hfl
    have HB : Hid (∀ m pre W', J pre W' → Below w0.heap.size w0 W' → pre.length + (suf (xs.drop (pos xs key)) ((ks.map (flat d)).drop (pos xs key + 1))).length ≤ N → CallsIn Fence.wide m Try.prog 49 #[.pointer (some ⟨b, 0, none⟩), .int .i64 ((pos xs key : Nat) : Int), .func (.yield y) #[] #[]] W' (TellP J Jx w0 (suf (xs.drop (pos xs key)) ((ks.map (flat d)).drop (pos xs key + 1))) pre)) := fun m pre W' h1 h2 h3 => behind_inner m y N w0 J Jx hT b xs bs (ks.map (flat d)) (by rw [List.length_map, hk.1]) (by rw [hk.1]; exact hz3) hn hxl (pos xs key) hpl pre W' h1 h2 h3 hkid
    have HL : Hid (∀ m W', Below w0.heap.size w0 W' → CallsIn Fence.wide m Try.prog 26 #[.pointer (some ⟨b, 0, none⟩)] W' fun e w'' => e = .returned (.bool false) ∧ W' = w'') := fun m W' h2 => by
      have := leaf_is b xs bs W' (hn.next itv_ne h2)
      rw [decide_eq_false hne] at this
      exact callsIn_wide.2 (this.mono (fun e w2 q => ⟨q.1, q.2.symm⟩))
    have HF : Hid (∀ m, CallsIn Fence.wide m Try.prog 25 #[.pointer (some ⟨b, 0, none⟩), .int .i64 key] W fun e w' => e = .returned (.tuple #[.int .i64 (pos xs key : Nat), .bool (has xs key)]) ∧ Hid (J pre w' ∧ Below w0.heap.size w0 w')) := fun m => callsIn_wide.2 ((find_is b xs bs hsx (by omega) key W (hn.next itv_ne hB)).mono (fun e w2 q => ⟨q.1, hT.B _ _ _ hJ q.2, Below.next hB q.2⟩))
    have HPT : Hid (∀ W', Below w0.heap.size w0 W' → ∃ pb po pc, W'.cell? ⟨b, 1, none⟩ = some (.slice (some ⟨pb, po, none⟩) bs.length pc) ∧ W'.cell? ⟨pb, po + pos xs key, none⟩ = some (.pointer (some ⟨bs[pos xs key], 0, none⟩))) := fun W' kk => by
      obtain ⟨u', v', _, e1, _, hv'⟩ := hn.next itv_ne kk
      obtain ⟨pb, po, pc, rfl, _, _, hpt⟩ := hv'.ptr hne
      exact ⟨pb, po, pc, e1, by have := hpt (pos xs key) hpb; rw [Nat.mul_one] at this; exact this⟩
    have HK : Hid (∀ m pre W', J pre W' → Below w0.heap.size w0 W' → pre.length + (geL (flat d ks[pos xs key]) key).length ≤ N → CallsIn Fence.wide m Try.prog 30 #[.pointer (some ⟨bs[pos xs key], 0, none⟩), .int .i64 key, .func (.yield y) #[] #[]] W' (TellP J Jx w0 (geL (flat d ks[pos xs key]) key) pre)) := fun m pre W' h1 h2 h3 => ih bs[pos xs key] ks[pos xs key] 6 12 (hk.at _ hpb hpk) (by omega) (hz4 _ (List.getElem_mem hpk)) hsk m pre W' h1 h2 h3
    have hbi : ((pos xs key : Nat) : Int) < (bs.length : Int) := by omega
    rcases around hsx key with ⟨q1, q2, q3⟩ | ⟨q1, q2, q3, q4, v0, q5⟩
    · have hge : geL (flat (d + 1) ((xs, ks) : T (d + 1))) key = geL (flat d ks[pos xs key]) key ++ suf (xs.drop (pos xs key)) ((ks.map (flat d)).drop (pos xs key + 1)) := by
        have h2 := hs
        rw [hfl] at h2 ⊢
        rw [← List.map_drop] at h2 ⊢
        have hm := pre_mid (i := pos xs key) h2 q2 q3
        exact geL_mid hm.1 hm.2
      rw [hge] at hN ⊢
      rw [List.length_append] at hN
      rw [q1] at HF
      generalize suf (xs.drop (pos xs key)) ((ks.map (flat d)).drop (pos xs key + 1)) = S0 at *
      generalize geL (flat d ks[pos xs key]) key = F0 at *
      generalize bs[pos xs key] = kb at *
      generalize pos xs key = p at *
      have HNN : Hid (pre.length + (F0.length + S0.length) ≤ N) := hN
      clear hkid hfl hsk hn hk hz1 hz2 hz3 hz4 ih hN hJ hB hT hs hsx hxl hpl hpk hpb hne q1 q2 q3 hge
      refine callsIn_of_wp Try.func30 rfl trivial ?_ rfl
      simp only [Try.ntmps30, List.size_toArray, List.length_cons, List.length_nil, Nat.reduceAdd, Nat.reduceSub, Array.replicate_succ, Array.replicate_zero, List.push_toArray, List.append_toArray, List.nil_append, List.cons_append]
      gi_wp2
      refine ⟨trivial, hdd _, (HF.out _).mono ?_⟩
      rintro e w2 ⟨rfl, HW⟩
      obtain ⟨pb, po, pc, c1, p0⟩ := HPT.out _ HW.out.2
      gi_wp2
      refine ⟨trivial, hdd _, (HL.out _ _ HW.out.2).mono ?_⟩
      rintro e w3 ⟨rfl, rfl⟩
      gi_wp2
      refine ⟨trivial, hdd _, (HK.out _ pre _ HW.out.1 HW.out.2 (by have := HNN.out; omega)).mono ?_⟩
      rintro e w3 hp
      obtain ⟨bb, rfl, HP⟩ := hp.in
      clear hp c1 p0
      cases bb with
      | false =>
        have HQ : Hid (∃ q, q <+: F0 ∧ Jx (pre ++ q) w3) := by
          obtain ⟨bb, e, h⟩ := HP.out
          cases e
          rcases h with ⟨h, _⟩ | ⟨_, h⟩
          · cases h
          · exact h
        gi_wp2
        go_ret
        obtain ⟨q, hq1, hq2⟩ := HQ.out
        exact TellP.cut hq1 hq2
      | true =>
        have HQ : Hid (J (pre ++ F0) w3 ∧ Below w0.heap.size w0 w3) := by
          obtain ⟨bb, e, h⟩ := HP.out
          cases e
          rcases h with ⟨_, h⟩ | ⟨h, _⟩
          · exact h
          · cases h
        gi_wp2
        refine ⟨trivial, hdd _, (HB.out _ (pre ++ F0) _ HQ.out.1 HQ.out.2 (by have := HNN.out; rw [List.length_append]; omega)).mono ?_⟩
        rintro e w4 hp
        obtain ⟨b2, rfl, HP2⟩ := hp.in
        clear hp
        gi_wp2
        go_ret
        exact HP2.out.seq
    · have hge : geL (flat (d + 1) ((xs, ks) : T (d + 1))) key = suf (xs.drop (pos xs key)) ((ks.map (flat d)).drop (pos xs key + 1)) := by
        have h2 := hs
        have hk1 : pos xs key + 1 < (ks.map (flat d)).length := by rw [List.length_map]; omega
        have e : suf (xs.drop (pos xs key)) ((ks.map (flat d)).drop (pos xs key + 1)) = (key, v0) :: ((ks.map (flat d))[pos xs key + 1] ++ suf (xs.drop (pos xs key + 1)) ((ks.map (flat d)).drop (pos xs key + 1 + 1))) := by
          rw [q5, List.drop_eq_getElem_cons hk1, suf]; simp
        rw [hfl, e] at h2
        rw [hfl, e]
        exact geL_at h2 rfl
      rw [hge] at hN ⊢
      rw [q1] at HF
      generalize suf (xs.drop (pos xs key)) ((ks.map (flat d)).drop (pos xs key + 1)) = S0 at *
      clear HK HPT
      generalize pos xs key = p at *
      have HNN : Hid (pre.length + S0.length ≤ N) := hN
      clear hkid hfl hsk hn hk hz1 hz2 hz3 hz4 ih hN hJ hB hT hs hsx hxl hpl hpk hpb hne q1 q2 q3 q4 q5 hge
      refine callsIn_of_wp Try.func30 rfl trivial ?_ rfl
      simp only [Try.ntmps30, List.size_toArray, List.length_cons, List.length_nil, Nat.reduceAdd, Nat.reduceSub, Array.replicate_succ, Array.replicate_zero, List.push_toArray, List.append_toArray, List.nil_append, List.cons_append]
      gi_wp2
      refine ⟨trivial, hdd _, (HF.out _).mono ?_⟩
      rintro e w2 ⟨rfl, HW⟩
      gi_wp2
      first | (refine ⟨trivial, ?_⟩; gi_wp2) | (refine ⟨fun _ _ => trivial, ?_⟩; gi_wp2)
      first | (refine ⟨trivial, ?_⟩; gi_wp2) | (refine ⟨fun _ _ => trivial, ?_⟩; gi_wp2)
      refine ⟨trivial, hdd _, (HB.out _ pre _ HW.out.1 HW.out.2 HNN.out).mono ?_⟩
      rintro e w3 hp
      obtain ⟨bb, rfl, HP⟩ := hp.in
      clear hp
      gi_wp2
      go_ret
      exact HP.out
end Go.Proofs.Ytgebionlkmjfnaa
