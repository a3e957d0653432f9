/- slices.IndexFunc of entries. -/
import Derived.Test.YtgjeobmbfeinnaaPur
namespace Go.Proofs.Ytgjeobmbfeinnaa
open Go.ChangeShapes Go.WideShapes Go.RowKit
set_option linter.unusedVariables false
set_option maxRecDepth 100000

theorem clo27_is (e : Ent) (v : Val) (c : Nat) (w : World) (hc : At w c 0 v.k v.n v.s) : Calls Try.prog 27 #[e.val, .pointer (some ⟨c, 0, none⟩)] w fun r w' => r = .returned (.bool (decide (e.v = v))) ∧ Below w.heap.size w w' := by
  have HB : Hid (∀ t, Below w.heap.size w (w.alloc t)) := fun t => below1 _ _
  obtain ⟨⟨k', n', s'⟩, a, m, q⟩ := e
  obtain ⟨k, n, s⟩ := v
  obtain ⟨c0, c1, c2⟩ := hc.next (below1 w (.cells #[.int .i64 k', .int .i64 n', .string s', .slice a m q] 61))
  have HE : Hid (∀ w, (binOp .eql 24 (vv k' n' s') (vv k n s)).run Try.prog w = .ok (.bool (decide ((⟨k', n', s'⟩ : Val) = ⟨k, n, s⟩))) w) := fun w => same_run ⟨k', n', s'⟩ ⟨k, n, s⟩ w
  have HS : Hid (s' = s ↔ s'.toList = s.toList) := ⟨fun e => by rw [e], byte_inj⟩
  clear hc
  go_enter Try.func27, Try.ntmps27
  go_wp2_with fail
  all_goals go_ret
  all_goals refine ⟨?_, HB.out _⟩
  all_goals have HS' := HS.out
  all_goals simp only [HS']
  all_goals simp_all

theorem clo35_is (e : Ent) (v : Val) (c : Nat) (w : World) (hc : At w c 0 v.k v.n v.s) : Calls Try.prog 35 #[e.val, .pointer (some ⟨c, 0, none⟩)] w fun r w' => r = .returned (.bool (decide (e.v = v))) ∧ Below w.heap.size w w' := by
  have HB : Hid (∀ t, Below w.heap.size w (w.alloc t)) := fun t => below1 _ _
  obtain ⟨⟨k', n', s'⟩, a, m, q⟩ := e
  obtain ⟨k, n, s⟩ := v
  obtain ⟨c0, c1, c2⟩ := hc.next (below1 w (.cells #[.int .i64 k', .int .i64 n', .string s', .slice a m q] 61))
  have HE : Hid (∀ w, (binOp .eql 24 (vv k' n' s') (vv k n s)).run Try.prog w = .ok (.bool (decide ((⟨k', n', s'⟩ : Val) = ⟨k, n, s⟩))) w) := fun w => same_run ⟨k', n', s'⟩ ⟨k, n, s⟩ w
  have HS : Hid (s' = s ↔ s'.toList = s.toList) := ⟨fun e => by rw [e], byte_inj⟩
  clear hc
  go_enter Try.func35, Try.ntmps35
  go_wp2_with fail
  all_goals go_ret
  all_goals refine ⟨?_, HB.out _⟩
  all_goals have HS' := HS.out
  all_goals simp only [HS']
  all_goals simp_all

set_option maxHeartbeats 2000000 in
theorem idx27_is (u : Value) (es : List Ent) (hm : es.length ≤ 1000) (v : Val) (c : Nat) (w : World) (hu : Sl ev 4 w u es) (hc : At w c 0 v.k v.n v.s) :
    Calls Try.prog 26 #[u, .func (.func 27) #[] #[.pointer (some ⟨c, 0, none⟩)]] w fun e w' => ∃ r : Int, e = .returned (.int .i64 r) ∧ Spot (es.map Ent.v) v r ∧ Below w.heap.size w w' := by
  have HSL : Hid (Sl ev 4 w u es) := hu
  have HC : Hid (At w c 0 v.k v.n v.s) := hc
  have HO : Hid (∀ (e : Ent) (w' : World), At w' c 0 v.k v.n v.s → Calls Try.prog 27 #[e.val, .pointer (some ⟨c, 0, none⟩)] w' fun r w'' => r = .returned (.bool (decide (e.v = v))) ∧ Below w'.heap.size w' w'') := fun e w' h => clo27_is e v c w' h
  obtain ⟨n, hn⟩ : ∃ n, es.length = n := ⟨_, rfl⟩
  have HL : Hid (es.length = n) := hn
  obtain ⟨a, cc, hv, _, _, _⟩ := hu
  rw [hn] at hv hm
  subst hv
  clear hn hc
  go_enter Try.func26, Try.ntmps26
  go_wp2_with fail
  go_loopw [8] (fun vi wr => ∃ i : Nat, i ≤ n ∧ vi = .int .i64 i ∧ Hid (Below w.heap.size w wr) ∧ Hid (∀ k x, k < i → es[k]? = some x → x.v ≠ v))
    (fun vi _ => n - (intOf vi).toNat)
  case atStart => exact ⟨0, Nat.zero_le _, rfl, Below.refl _ _, fun k x h => by omega⟩
  case round =>
    obtain ⟨i, hi, rfl, HB, HN⟩ := hrel
    by_cases hlt : i < n
    · have hlti : (i : Int) < (n : Int) := by omega
      have hml : i < es.length := by have := HL.out; omega
      have hl0 : es ≠ [] := fun e => by rw [e] at hml; simp at hml
      obtain ⟨b, o, c', hv, hc', hb, hcs⟩ := HSL.out.ents hl0
      rw [HL.out] at hv
      cases hv
      have hblk := HB.out.block b hb
      obtain ⟨z0, z1, z2, z3⟩ := hcs i hml
      have y0 := (World.cell?_of_block (a := ⟨b, o + i * 4, none⟩) hblk).trans z0
      have y1 := (World.cell?_of_block (a := ⟨b, o + i * 4 + 1, none⟩) hblk).trans z1
      have y2 := (World.cell?_of_block (a := ⟨b, o + i * 4 + 2, none⟩) hblk).trans z2
      have y3 := (World.cell?_of_block (a := ⟨b, o + i * 4 + 3, none⟩) hblk).trans z3
      have HK : Hid (Calls Try.prog 27 #[es[i].val, .pointer (some ⟨c, 0, none⟩)] wr fun r w'' => r = .returned (.bool (decide (es[i].v = v))) ∧ Below wr.heap.size wr w'') := HO.out es[i] wr (HC.out.next HB.out)
      have HX : Hid (es[i]? = some es[i]) := List.getElem?_eq_getElem hml
      generalize es[i] = x at *
      obtain ⟨⟨k', n', s'⟩, xa, xn, xc⟩ := x
      clear z0 z1 z2 z3 hcs hb hl0 hblk hml HO
      by_cases q : (⟨k', n', s'⟩ : Val) = v
      · have HQ : Hid (decide ((⟨k', n', s'⟩ : Val) = v) = true) := decide_eq_true q
        have HQ2 : Hid ((⟨k', n', s'⟩ : Val) = v) := q
        clear q
        go_wp2_with fail
        refine Calls.mono HK.out ?_; rintro e w3 ⟨rfl, k3⟩
        have HB3 : Hid (Below w.heap.size w w3) := Below.next HB.out k3
        clear k3 y0 y1 y2 y3 HK
        rw [HQ.out]
        go_wp2_with fail
        go_ret
        refine ⟨i, rfl, .inr ⟨i, rfl, ?_⟩, HB3.out⟩
        rw [List.getElem?_map, HX.out]
        exact congrArg some HQ2.out
      · have HQ : Hid (decide ((⟨k', n', s'⟩ : Val) = v) = false) := decide_eq_false q
        have HN2 : Hid (∀ k x, k < i + 1 → es[k]? = some x → x.v ≠ v) := fun k x hk hx => by
          by_cases e : k = i
          · subst e
            rw [HX.out] at hx
            cases hx
            exact q
          · exact HN.out k x (by omega) hx
        clear q HX
        go_wp2_with fail
        refine Calls.mono HK.out ?_; rintro e w3 ⟨rfl, k3⟩
        have HB3 : Hid (Below w.heap.size w w3) := Below.next HB.out k3
        clear k3 y0 y1 y2 y3 HK
        rw [HQ.out]
        go_wp2_with fail
        go_roundw
        case rel => exact ⟨i + 1, by omega, by go_num, HB3.out, HN2.out⟩
        case measure => simp [intOf]; omega
    · have hlti : ¬ (i : Int) < (n : Int) := by omega
      have HS : Hid (Spot (es.map Ent.v) v (-1)) := by
        refine .inl ⟨rfl, fun h => ?_⟩
        obtain ⟨x, hx, e⟩ := List.mem_map.1 h
        obtain ⟨k, hk, rfl⟩ := List.mem_iff_getElem.1 hx
        exact HN.out k _ (by have := HL.out; omega) (List.getElem?_eq_getElem hk) e
      clear HN
      go_wp2_with fail
      go_ret
      exact ⟨-1, rfl, HS.out, HB.out⟩

set_option maxHeartbeats 2000000 in
theorem idx35_is (u : Value) (es : List Ent) (hm : es.length ≤ 1000) (v : Val) (c : Nat) (w : World) (hu : Sl ev 4 w u es) (hc : At w c 0 v.k v.n v.s) :
    Calls Try.prog 26 #[u, .func (.func 35) #[] #[.pointer (some ⟨c, 0, none⟩)]] w fun e w' => ∃ r : Int, e = .returned (.int .i64 r) ∧ Spot (es.map Ent.v) v r ∧ Below w.heap.size w w' := by
  have HSL : Hid (Sl ev 4 w u es) := hu
  have HC : Hid (At w c 0 v.k v.n v.s) := hc
  have HO : Hid (∀ (e : Ent) (w' : World), At w' c 0 v.k v.n v.s → Calls Try.prog 35 #[e.val, .pointer (some ⟨c, 0, none⟩)] w' fun r w'' => r = .returned (.bool (decide (e.v = v))) ∧ Below w'.heap.size w' w'') := fun e w' h => clo35_is e v c w' h
  obtain ⟨n, hn⟩ : ∃ n, es.length = n := ⟨_, rfl⟩
  have HL : Hid (es.length = n) := hn
  obtain ⟨a, cc, hv, _, _, _⟩ := hu
  rw [hn] at hv hm
  subst hv
  clear hn hc
  go_enter Try.func26, Try.ntmps26
  go_wp2_with fail
  go_loopw [8] (fun vi wr => ∃ i : Nat, i ≤ n ∧ vi = .int .i64 i ∧ Hid (Below w.heap.size w wr) ∧ Hid (∀ k x, k < i → es[k]? = some x → x.v ≠ v))
    (fun vi _ => n - (intOf vi).toNat)
  case atStart => exact ⟨0, Nat.zero_le _, rfl, Below.refl _ _, fun k x h => by omega⟩
  case round =>
    obtain ⟨i, hi, rfl, HB, HN⟩ := hrel
    by_cases hlt : i < n
    · have hlti : (i : Int) < (n : Int) := by omega
      have hml : i < es.length := by have := HL.out; omega
      have hl0 : es ≠ [] := fun e => by rw [e] at hml; simp at hml
      obtain ⟨b, o, c', hv, hc', hb, hcs⟩ := HSL.out.ents hl0
      rw [HL.out] at hv
      cases hv
      have hblk := HB.out.block b hb
      obtain ⟨z0, z1, z2, z3⟩ := hcs i hml
      have y0 := (World.cell?_of_block (a := ⟨b, o + i * 4, none⟩) hblk).trans z0
      have y1 := (World.cell?_of_block (a := ⟨b, o + i * 4 + 1, none⟩) hblk).trans z1
      have y2 := (World.cell?_of_block (a := ⟨b, o + i * 4 + 2, none⟩) hblk).trans z2
      have y3 := (World.cell?_of_block (a := ⟨b, o + i * 4 + 3, none⟩) hblk).trans z3
      have HK : Hid (Calls Try.prog 35 #[es[i].val, .pointer (some ⟨c, 0, none⟩)] wr fun r w'' => r = .returned (.bool (decide (es[i].v = v))) ∧ Below wr.heap.size wr w'') := HO.out es[i] wr (HC.out.next HB.out)
      have HX : Hid (es[i]? = some es[i]) := List.getElem?_eq_getElem hml
      generalize es[i] = x at *
      obtain ⟨⟨k', n', s'⟩, xa, xn, xc⟩ := x
      clear z0 z1 z2 z3 hcs hb hl0 hblk hml HO
      by_cases q : (⟨k', n', s'⟩ : Val) = v
      · have HQ : Hid (decide ((⟨k', n', s'⟩ : Val) = v) = true) := decide_eq_true q
        have HQ2 : Hid ((⟨k', n', s'⟩ : Val) = v) := q
        clear q
        go_wp2_with fail
        refine Calls.mono HK.out ?_; rintro e w3 ⟨rfl, k3⟩
        have HB3 : Hid (Below w.heap.size w w3) := Below.next HB.out k3
        clear k3 y0 y1 y2 y3 HK
        rw [HQ.out]
        go_wp2_with fail
        go_ret
        refine ⟨i, rfl, .inr ⟨i, rfl, ?_⟩, HB3.out⟩
        rw [List.getElem?_map, HX.out]
        exact congrArg some HQ2.out
      · have HQ : Hid (decide ((⟨k', n', s'⟩ : Val) = v) = false) := decide_eq_false q
        have HN2 : Hid (∀ k x, k < i + 1 → es[k]? = some x → x.v ≠ v) := fun k x hk hx => by
          by_cases e : k = i
          · subst e
            rw [HX.out] at hx
            cases hx
            exact q
          · exact HN.out k x (by omega) hx
        clear q HX
        go_wp2_with fail
        refine Calls.mono HK.out ?_; rintro e w3 ⟨rfl, k3⟩
        have HB3 : Hid (Below w.heap.size w w3) := Below.next HB.out k3
        clear k3 y0 y1 y2 y3 HK
        rw [HQ.out]
        go_wp2_with fail
        go_roundw
        case rel => exact ⟨i + 1, by omega, by go_num, HB3.out, HN2.out⟩
        case measure => simp [intOf]; omega
    · have hlti : ¬ (i : Int) < (n : Int) := by omega
      have HS : Hid (Spot (es.map Ent.v) v (-1)) := by
        refine .inl ⟨rfl, fun h => ?_⟩
        obtain ⟨x, hx, e⟩ := List.mem_map.1 h
        obtain ⟨k, hk, rfl⟩ := List.mem_iff_getElem.1 hx
        exact HN.out k _ (by have := HL.out; omega) (List.getElem?_eq_getElem hk) e
      clear HN
      go_wp2_with fail
      go_ret
      exact ⟨-1, rfl, HS.out, HB.out⟩
end Go.Proofs.Ytgjeobmbfeinnaa
