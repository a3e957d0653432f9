/- find, leaf. -/
import Derived.Test.YtgebionlkmjfnaaSIt
namespace Go.Proofs.Ytgebionlkmjfnaa.Sx
open Go.ChangeShapes Go.WideShapes Go.RowKit
set_option linter.unusedVariables false
set_option maxRecDepth 100000

section
variable {K V : Type} [KOrd K]
theorem pos_lt (l : List (K × V)) (k : K) (i : Nat) (h : i < l.length) (hp : i < pos l k) : kc l[i].1 k = -1 := by
  refine low_take l k _ ?_
  rw [List.mem_take_iff_getElem]
  exact ⟨i, by omega, rfl⟩
theorem pos_ge {l : List (K × V)} (hs : Sorted l) (k : K) (i : Nat) (h : i < l.length) (hp : pos l k ≤ i) : ¬ kc l[i].1 k = -1 := by
  have hm : l[i] ∈ l.drop (pos l k) := by
    rw [List.mem_drop_iff_getElem]
    exact ⟨i - pos l k, by omega, by congr 1; omega⟩
  rcases around hs k with ⟨_, _, hh⟩ | ⟨_, _, _, hh, v, hd⟩
  · have := hh _ hm; have := KOrd.turn k l[i].1; omega
  · rw [hd] at hm
    rcases List.mem_cons.1 hm with e | hm
    · have : kc l[i].1 k = 0 := (KOrd.zero _ _).2 (congrArg Prod.fst e)
      omega
    · have := hh _ hm; have := KOrd.turn k l[i].1; omega
theorem has_iff (l : List (K × V)) (k : K) : has l k = true ↔ ∃ h : pos l k < l.length, kc l[pos l k].1 k = 0 := by
  unfold has
  by_cases h : pos l k < l.length
  · rw [List.getElem?_eq_getElem h]
    exact ⟨fun e => ⟨h, of_decide_eq_true e⟩, fun ⟨_, e⟩ => decide_eq_true e⟩
  · rw [List.getElem?_eq_none (by omega)]
    exact ⟨fun e => (by cases e), fun ⟨e, _⟩ => absurd e h⟩
end
theorem isNaN_is (s : ByteArray) (w : World) : Calls Try.prog 65 #[.string s] w fun e w' => e = .returned (.bool false) ∧ w' = w := by
  go_enter Try.func65, Try.ntmps65
  go_wp2_with fail
  go_ret
  exact ⟨by simp, rfl⟩
theorem compare_is (a b : ByteArray) (w : World) : Calls Try.prog 59 #[.string a, .string b] w fun e w' => e = .returned (.int .i64 (kc a b)) ∧ w' = w := by
  have HN : Hid _ := isNaN_is
  by_cases h : Go.Op.bytesLess a.toList b.toList = true
  · have HR : Hid (kc a b = -1) := if_pos h
    go_enter Try.func59, Try.ntmps59
    go_wp2_with (refine Calls.mono (HN.out _ _) ?_; rintro e w1 ⟨rfl, rfl⟩)
    go_ret
    exact ⟨by rw [HR.out]; rfl, rfl⟩
  · have h' : Go.Op.bytesLess a.toList b.toList = false := by simpa using h
    by_cases g : Go.Op.bytesLess b.toList a.toList = true
    · have HR : Hid (kc a b = 1) := by show _ = _; rw [kc_str, if_neg h, if_pos g]
      have hne : (a.toList == b.toList) = false := beq_false_of_ne (fun e => by rw [e, bl_self] at g; cases g)
      go_enter Try.func59, Try.ntmps59
      go_wp2_with (refine Calls.mono (HN.out _ _) ?_; rintro e w1 ⟨rfl, rfl⟩)
      go_ret
      exact ⟨by rw [HR.out]; rfl, rfl⟩
    · have g' : Go.Op.bytesLess b.toList a.toList = false := by simpa using g
      have HR : Hid (kc a b = 0) := by show _ = _; rw [kc_str, if_neg h, if_neg g]
      have heq : (a.toList == b.toList) = true := by rw [beq_iff_eq]; exact bl_same h' g'
      go_enter Try.func59, Try.ntmps59
      go_wp2_with (refine Calls.mono (HN.out _ _) ?_; rintro e w1 ⟨rfl, rfl⟩)
      go_ret
      exact ⟨by rw [HR.out]; rfl, rfl⟩
theorem cmpfn_is (x : ByteArray) (y : Int) (key : ByteArray) (w : World) : Calls Try.prog 58 #[.agg #[.string x, .int .i64 y], .string key] w fun e w' => e = .returned (.int .i64 (kc x key)) ∧ Below w.heap.size w w' := by
  have HN : Hid _ := compare_is
  have HB : Hid (∀ t, Below w.heap.size w (w.alloc t)) := fun t => below1 _ _
  go_enter Try.func58, Try.ntmps58
  go_wp2_with (refine Calls.mono (HN.out _ _ _) ?_; rintro e w1 ⟨rfl, rfl⟩)
  go_ret
  exact ⟨rfl, HB.out _⟩
set_option maxHeartbeats 4000000 in
theorem bsearch_is (u : Value) (l : List Itm) (hs : Sorted l) (hm : l.length ≤ 1000) (key : ByteArray) (w : World) (hr : Sl itv 2 w u l) :
    Calls Try.prog 57 #[u, .string key, .func (.func 58) #[] #[]] w fun e w' => e = .returned (.tuple #[.int .i64 (pos l key : Nat), .bool (has l key)]) ∧ Below w.heap.size w w' := by
  obtain ⟨p, hp⟩ : ∃ p, pos l key = p := ⟨_, rfl⟩
  have hpl : p ≤ l.length := by rw [← hp]; exact pos_le _ _
  have HLT : Hid (∀ i (h : i < l.length), i < p → kc l[i].1 key = -1) := fun i h q => pos_lt l key i h (by rw [hp]; exact q)
  have HGE : Hid (∀ i (h : i < l.length), p ≤ i → ¬ kc l[i].1 key = -1) := fun i h q => pos_ge hs key i h (by rw [hp]; exact q)
  have HHAS : Hid (has l key = true ↔ ∃ h : p < l.length, kc l[p].1 key = 0) := by
    show _ ↔ _
    subst hp
    exact has_iff l key
  obtain ⟨z, hz⟩ : ∃ z, has l key = z := ⟨_, rfl⟩
  rw [hp, hz]
  rw [hz] at HHAS
  have HSL : Hid (Sl itv 2 w u l) := hr
  have HO : Hid _ := cmpfn_is
  obtain ⟨n, hn⟩ : ∃ n, l.length = n := ⟨_, rfl⟩
  have HL : Hid (l.length = n) := hn
  obtain ⟨a, c, hu, _, _, _⟩ := hr
  rw [hn] at hu hpl hm
  subst hu
  clear hp hs hz hn
  go_enter Try.func57, Try.ntmps57
  go_wp2_with fail
  go_loopw [9, 10] (fun vi vj wr => ∃ i j : Nat, i ≤ p ∧ p ≤ j ∧ j ≤ n ∧ vi = .int .i64 i ∧ vj = .int .i64 j ∧ Hid (Below w.heap.size w wr))
    (fun vi vj _ => (intOf vj).toNat - (intOf vi).toNat)
  case atStart => exact ⟨0, n, Nat.zero_le _, hpl, Nat.le_refl _, rfl, rfl, Below.refl _ _⟩
  case round =>
    obtain ⟨i, j, hip, hpj, hjn, rfl, rfl, HB⟩ := hrel
    by_cases hij : i < j
    · have hiji : (i : Int) < (j : Int) := by omega
      obtain ⟨m, hmid⟩ : ∃ m : Nat, ((i : Int) + (j : Int)) / 2 = (m : Int) := ⟨(i + j) / 2, by omega⟩
      have him : i ≤ m := by omega
      have hmj : m < j := by omega
      have hmn : m < n := by omega
      have hmni : (m : Int) < (n : Int) := by omega
      have hml : m < l.length := by have := HL.out; omega
      have hl0 : l ≠ [] := fun e => by rw [e] at hml; simp at hml
      obtain ⟨b, o, c', hv, hc', hb, hc⟩ := HSL.out.itm hl0
      rw [HL.out] at hv
      cases hv
      have hblk := HB.out.block b hb
      have y0 := (World.cell?_of_block (a := ⟨b, o + m * 2, none⟩) hblk).trans (hc m hml).1
      have y1 := (World.cell?_of_block (a := ⟨b, o + m * 2 + 1, none⟩) hblk).trans (hc m hml).2
      have HC : Hid (∀ w', Calls Try.prog 58 #[.agg #[.string l[m].1, .int .i64 l[m].2], .string key] w' fun e w'' => e = .returned (.int .i64 (kc l[m].1 key)) ∧ Below w'.heap.size w' w'') := fun w' => HO.out _ _ _ w'
      obtain ⟨r, hr⟩ : ∃ r, kc l[m].1 key = r := ⟨_, rfl⟩
      rw [hr] at HC
      by_cases hmp : m < p
      · have hr0 : r < 0 := by have := HLT.out m hml hmp; omega
        generalize l[m].1 = x1 at *
        generalize l[m].2 = x2 at *
        clear hr hc hb hl0 hblk hml HO
        go_wp2_with fail
        refine Calls.mono (HC.out _) ?_; rintro e w3 ⟨rfl, k3⟩
        have HB3 : Hid (Below w.heap.size w w3) := Below.next HB.out k3
        clear k3 y0 y1
        go_wp2_with fail
        go_roundw
        case rel => exact ⟨m + 1, j, by omega, hpj, hjn, by go_num, rfl, HB3.out⟩
        case measure => simp [intOf]; omega
      · have hr0 : ¬ r < 0 := by
          have h1 := HGE.out m hml (by omega)
          rcases KOrd.range l[m].1 key with q | q | q <;> omega
        generalize l[m].1 = x1 at *
        generalize l[m].2 = x2 at *
        clear hr hc hb hl0 hblk hml HO
        go_wp2_with fail
        refine Calls.mono (HC.out _) ?_; rintro e w3 ⟨rfl, k3⟩
        have HB3 : Hid (Below w.heap.size w w3) := Below.next HB.out k3
        clear k3 y0 y1
        go_wp2_with fail
        go_roundw
        case rel => exact ⟨i, m, by omega, by omega, by omega, rfl, by go_num, HB3.out⟩
        case measure => simp [intOf]; omega
    · have hiji : ¬ (i : Int) < (j : Int) := by omega
      have e1 : i = p := by omega
      subst e1
      clear HLT HGE
      by_cases hpn : i < n
      · have hpni : (i : Int) < (n : Int) := by omega
        have hml : i < l.length := by have := HL.out; omega
        have hl0 : l ≠ [] := fun e => by rw [e] at hml; simp at hml
        obtain ⟨b, o, c', hv, hc', hb, hc⟩ := HSL.out.itm hl0
        rw [HL.out] at hv
        cases hv
        have hblk := HB.out.block b hb
        have y0 := (World.cell?_of_block (a := ⟨b, o + i * 2, none⟩) hblk).trans (hc i hml).1
        have y1 := (World.cell?_of_block (a := ⟨b, o + i * 2 + 1, none⟩) hblk).trans (hc i hml).2
        have HC : Hid (∀ w', Calls Try.prog 58 #[.agg #[.string l[i].1, .int .i64 l[i].2], .string key] w' fun e w'' => e = .returned (.int .i64 (kc l[i].1 key)) ∧ Below w'.heap.size w' w'') := fun w' => HO.out _ _ _ w'
        obtain ⟨r, hr⟩ : ∃ r, kc l[i].1 key = r := ⟨_, rfl⟩
        rw [hr] at HC
        have hze : (r == 0) = z := by
          have h1 := HHAS.out
          cases z with
          | true => obtain ⟨_, e⟩ := h1.1 rfl; rw [hr] at e; simpa using e
          | false =>
            have : ¬ r = 0 := fun e => by have := h1.2 ⟨hml, hr.trans e⟩; cases this
            simpa using this
        have HZE : Hid ((r == 0) = z) := hze
        generalize l[i].1 = x1 at *
        generalize l[i].2 = x2 at *
        clear hr hc hb hl0 hblk hml HO hze HHAS
        go_wp2_with fail
        refine Calls.mono (HC.out _) ?_; rintro e w3 ⟨rfl, k3⟩
        have HB3 : Hid (Below w.heap.size w w3) := Below.next HB.out k3
        clear k3 y0 y1
        go_wp2_with fail
        go_ret2
        refine ⟨?_, HB3.out⟩
        rw [← HZE.out]
        rfl
      · have hpni : ¬ (i : Int) < (n : Int) := by omega
        have HZE : Hid (z = false) := by
          show _ = _
          cases z with
          | false => rfl
          | true => obtain ⟨h, _⟩ := HHAS.out.1 rfl; have := HL.out; omega
        clear HHAS
        go_wp2_with fail
        go_ret2
        refine ⟨?_, HB.out⟩
        rw [HZE.out]
        rfl
theorem find_is (b : Nat) (l : List Itm) (bs : List Nat) (hs : Sorted l) (hm : l.length ≤ 1000) (key : ByteArray) (w : World) (h : NdAt itv w b l bs) :
    Calls Try.prog 36 #[.pointer (some ⟨b, 0, none⟩), .string key] w fun e w' => e = .returned (.tuple #[.int .i64 (pos l key : Nat), .bool (has l key)]) ∧ Below w.heap.size w w' := by
  obtain ⟨u, v, h1, h2, h3, h4⟩ := h
  have HB : Hid _ := bsearch_is u l hs hm key w h3
  obtain ⟨a, c, rfl, _⟩ := h3
  generalize (pos l key) = p at *
  generalize (has l key) = z at *
  clear h4 hs hm h2
  go_enter Try.func36, Try.ntmps36
  go_wp2_with fail
  refine Calls.mono HB.out ?_; rintro e w1 ⟨rfl, k1⟩
  have HB1 : Hid (Below w.heap.size w w1) := k1
  clear k1
  go_wp2_with fail
  go_ret2
  exact ⟨rfl, HB1.out⟩
theorem leaf_is (b : Nat) (l : List Itm) (bs : List Nat) (w : World) (h : NdAt itv w b l bs) :
    Calls Try.prog 37 #[.pointer (some ⟨b, 0, none⟩)] w fun e w' => e = .returned (.bool (decide (bs = []))) ∧ w' = w := by
  obtain ⟨u, v, h1, h2, h3, h4⟩ := h
  obtain ⟨a, c, rfl, _⟩ := h4
  have HE : Hid ((((bs.length : Nat) : Int) == 0) = decide (bs = [])) := by
    show _ = _
    cases bs with
    | nil => rfl
    | cons x r => simp only [List.length_cons, reduceCtorEq, decide_false]; simp; omega
  clear h3 h1
  go_enter Try.func37, Try.ntmps37
  go_wp2_with fail
  go_ret
  exact ⟨by rw [← HE.out]; rfl, rfl⟩
end Go.Proofs.Ytgebionlkmjfnaa.Sx
