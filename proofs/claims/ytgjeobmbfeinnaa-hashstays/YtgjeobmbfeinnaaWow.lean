/- Without: a number that is there. -/
import Derived.Test.YtgjeobmbfeinnaaNbt
namespace Go.Proofs.Ytgjeobmbfeinnaa
open Go.ChangeShapes Go.WideShapes Go.RowKit
set_option linter.unusedVariables false
set_option maxRecDepth 100000

set_option maxHeartbeats 16000000 in
theorem wo_there (p : Option Addr) (c : Nat) (F : Val → List Int) (nb M : Nat) (hM : M ≤ 980) (hnb : nb ≤ 100) (hc : c ≤ 900) (x : Val) (hx : x.fit) (n : Int) (w : World) (h : Ix w p F nb M) (hin : n ∈ F x) :
    Calls Try.prog 16 #[.agg #[.pointer p, .int .i64 c], x.v, .int .i64 n] w fun e w' => ∃ p', e = .returned (.agg #[.pointer (some ⟨p', 0, none⟩), .int .i64 ((c : Int) - 1)]) ∧ Ix w' (some ⟨p', 0, none⟩) (upd F x (del n (F x))) nb (M + 1) ∧ Below w.heap.size w w' := by
  have HIX : Hid (Ix w p F nb M) := h
  have HNB : Hid (∀ w', Below w.heap.size w w' → Calls Try.prog 19 #[.agg #[.pointer p, .int .i64 c], x.v] w' fun e w'' => ∃ a cc, e = .returned (.slice a (F x).length cc) ∧ Sl iv 1 w'' (.slice a (F x).length cc) (F x) ∧ Below w'.heap.size w' w'' ∧ (F x = [] → a = none ∧ cc = 0) ∧ NT w'' a) := fun w' hb => numbersT_is p c F nb M (by omega) (by omega) x hx w' (h.next hb)
  have HRL : Hid (Rise (F x) ∧ (F x).length ≤ 980) := ⟨h.rise x, Nat.le_trans (h.less x) hM⟩
  have HIN : Hid (n ∈ F x) := hin
  have HLM : Hid ((del n (F x)).length ≤ M + 1) := Nat.le_trans (del_le n (F x)) (Nat.le_trans (h.less x) (by omega))
  have HRS : Hid (Rise (del n (F x))) := rise_del (h.rise x)
  have HFX : Hid (x.fit) := hx
  obtain ⟨k, m, s⟩ := x
  obtain ⟨l, hl⟩ : ∃ l, F ⟨k, m, s⟩ = l := ⟨_, rfl⟩
  rw [hl] at HNB HRL HIN HLM HRS ⊢
  obtain ⟨l8, hl8⟩ : ∃ l8, del n l = l8 := ⟨_, rfl⟩
  have HL8 : Hid (del n l = l8) := hl8
  rw [hl8] at HLM HRS ⊢
  obtain ⟨L8, hL8⟩ : ∃ L8, l8.length = L8 := ⟨_, rfl⟩
  have HLN : Hid (l8.length = L8) := hL8
  obtain ⟨L, hL⟩ : ∃ L, l.length = L := ⟨_, rfl⟩
  have HLL : Hid (l.length = L) := hL
  obtain ⟨i, hi⟩ : ∃ i, lo l n = i := ⟨_, rfl⟩
  have HLO : Hid (lo l n = i) := hi
  have hiL : i + 1 ≤ L := by
    obtain ⟨q, _⟩ := (mem_lo HRL.out.1 n).1 HIN.out
    omega
  have hL980 : L ≤ 980 := by rw [← hL]; exact HRL.out.2
  obtain ⟨g, hg⟩ : ∃ g, p = some ⟨g, 0, none⟩ := by
    rcases HIX.out with ⟨_, _, e⟩ | ⟨g, _, _, _, _, e, _⟩
    · rw [e] at hl; subst hl; exact absurd HIN.out (by simp)
    · exact ⟨g, e⟩
  subst hg
  have HO0 : Hid (Own3 w (((w.alloc (.cells #[.pointer (some ⟨g, 0, none⟩), .int .i64 c] 27)).alloc (.cells #[.int .i64 k, .int .i64 m, .string s] 24)).alloc (.cells #[.pointer none, .int .i64 0] 27)) (some ⟨g, 0, none⟩) c k m s) := Own3.new w (some ⟨g, 0, none⟩) c k m s
  rw [hL] at HNB
  clear h hin hx hl hl8 hL8 hL hi
  go_enter Try.func16, Try.ntmps16
  go_wp2_with fail
  refine Calls.mono (HNB.out _ HO0.out.b) ?_; rintro e w2 ⟨a, cc, rfl, hsl, k2, hem, hnt⟩
  have HNT : Hid (NT w2 a) := hnt
  have HO2 : Hid (Own3 w w2 (some ⟨g, 0, none⟩) c k m s) := HO0.out.next k2
  have HSL : Hid (Sl iv 1 w2 (.slice a L cc) l) := hsl
  have HBS : Hid (Calls Try.prog 21 #[.slice a L cc, .int .i64 n] w2 fun e w' => e = .returned (.tuple #[.int .i64 (i : Nat), .bool true]) ∧ w' = w2) := by
    have := bsearch_is _ l HRL.out.1 (by have := HRL.out.2; omega) n w2 hsl
    rw [decide_eq_true HIN.out, HLO.out] at this
    exact this
  have hforms := cut_forms (by rw [HLL.out]; exact hsl) hem
  clear k2 hem hnt hsl HNB HO0
  go_wp2_with fail
  refine Calls.mono HBS.out ?_; rintro e w3 ⟨rfl, rfl⟩
  clear HBS
  have x0 := HO2.out.x.cell (i := 0) rfl
  have x1 := HO2.out.x.cell (i := 1) rfl
  have xf := HO2.out.x.fz
  obtain ⟨W7, hW7⟩ : ∃ W7, w3.setCell ⟨w.heap.size, 1, none⟩ (.int .i64 ((c : Int) - 1)) = W7 := ⟨_, rfl⟩
  have HO7 : Hid (Own3 w W7 (some ⟨g, 0, none⟩) ((c : Int) - 1) k m s) := by
    show Own3 _ _ _ _ _ _ _
    rw [← hW7]
    exact HO2.out.setc ((c : Int) - 1)
  have HI7 : Hid (∃ v' ads' us' bs', IxAt W7 g F nb M v' ads' us' bs') := by
    rcases HIX.out.next HO7.out.b with ⟨e, _⟩ | ⟨g', v', ads', us', bs', e, hh⟩
    · cases e
    · cases e; exact ⟨v', ads', us', bs', hh⟩
  have HFR : Hid (∀ k', k' ≠ w.heap.size → W7.heap[k']? = w3.heap[k']?) := fun k' hk => by
    rw [← hW7]
    exact heap_set _ _ _ hk
  have HSW : Sl iv 1 W7 (.slice a L cc) l := HSL.out.quiet HNT.out HO2.out.x HFR.out
  have HW7 : Hid (w3.setCell ⟨w.heap.size, 1, none⟩ (.int .i64 ((c : Int) - 1)) = W7) := hW7
  obtain ⟨j, hj⟩ : ∃ j, i + 1 = j := ⟨_, rfl⟩
  have HJ : Hid (i + 1 = j) := hj
  have hwi : IntKind.i64.wrap ((i : Int) + 1) = (j : Int) := by rw [IntKind.wrap_i64]; omega
  have hjL : j ≤ L := by omega
  have hij : i ≤ j := by omega
  clear hW7 HO2 HSL hiL hj
  rcases hforms with ⟨hl0, ha0, hcc0⟩ | ⟨hl0, b, o, ha0, hLc⟩
  · exact absurd HIN.out (by rw [hl0]; simp)
  · subst ha0
    rw [HLL.out] at hLc
    have hSW : Sl iv 1 W7 (.slice (some ⟨b, o, none⟩) L cc) l := HSW
    have hT1 : Sl iv 1 W7 (.slice (some ⟨b, o, none⟩) i cc) (l.take (lo l n)) := by
      have := hSW.head i (by rw [HLL.out]; omega)
      rw [HLO.out]
      exact this
    have HT1 : Hid (Sl iv 1 W7 (.slice (some ⟨b, o, none⟩) i cc) (l.take (lo l n))) := hT1
    have hic : (i : Int) ≤ (cc : Int) := by omega
    have hiLi : (i : Int) ≤ (L : Int) := by omega
    have hjLi : (j : Int) ≤ (L : Int) := by omega
    have hjc : (j : Int) ≤ (cc : Int) := by omega
    by_cases hcj : cc = j
    · have hci : (cc : Int) = (j : Int) := by omega
      have HT3 : Hid (Sl iv 1 W7 (.slice (some ⟨b, o, none⟩) 0 0) (l.drop (lo l n + 1))) := by
        show Sl _ _ _ _ _
        rw [List.drop_of_length_le (by rw [HLL.out, HLO.out, HJ.out]; omega)]
        exact ⟨_, 0, rfl, Rw.nil _ _ _ _, Nat.le_refl _, fun _ => rfl⟩
      obtain rfl : j = L := by omega
      obtain rfl : j = cc := by omega
      clear hSW hT1
      skip
      have HS0 : Hid ((W7.drew.cell? ⟨w.heap.size, 0, none⟩ = some (.pointer (some ⟨g, 0, none⟩)) ∧ W7.drew.cell? ⟨w.heap.size, 1, none⟩ = some (.int .i64 ((c : Int) - 1)) ∧ W7.drew.cell? ⟨w.heap.size + 1, 0, none⟩ = some (.int .i64 k) ∧ W7.drew.cell? ⟨w.heap.size + 1, 1, none⟩ = some (.int .i64 m) ∧ W7.drew.cell? ⟨w.heap.size + 1, 2, none⟩ = some (.string s))) := (HO7.out).sv
      have HSA : Hid (∀ (W' : World) (o : Obj), (W'.cell? ⟨w.heap.size, 0, none⟩ = some (.pointer (some ⟨g, 0, none⟩)) ∧ W'.cell? ⟨w.heap.size, 1, none⟩ = some (.int .i64 ((c : Int) - 1)) ∧ W'.cell? ⟨w.heap.size + 1, 0, none⟩ = some (.int .i64 k) ∧ W'.cell? ⟨w.heap.size + 1, 1, none⟩ = some (.int .i64 m) ∧ W'.cell? ⟨w.heap.size + 1, 2, none⟩ = some (.string s)) → ((W'.alloc o).cell? ⟨w.heap.size, 0, none⟩ = some (.pointer (some ⟨g, 0, none⟩)) ∧ (W'.alloc o).cell? ⟨w.heap.size, 1, none⟩ = some (.int .i64 ((c : Int) - 1)) ∧ (W'.alloc o).cell? ⟨w.heap.size + 1, 0, none⟩ = some (.int .i64 k) ∧ (W'.alloc o).cell? ⟨w.heap.size + 1, 1, none⟩ = some (.int .i64 m) ∧ (W'.alloc o).cell? ⟨w.heap.size + 1, 2, none⟩ = some (.string s))) := fun W' o h => sv_alloc W' o h
      have HSD1 : Hid (∀ o : Obj, ((W7.alloc o).drew.cell? ⟨w.heap.size, 0, none⟩ = some (.pointer (some ⟨g, 0, none⟩)) ∧ (W7.alloc o).drew.cell? ⟨w.heap.size, 1, none⟩ = some (.int .i64 ((c : Int) - 1)) ∧ (W7.alloc o).drew.cell? ⟨w.heap.size + 1, 0, none⟩ = some (.int .i64 k) ∧ (W7.alloc o).drew.cell? ⟨w.heap.size + 1, 1, none⟩ = some (.int .i64 m) ∧ (W7.alloc o).drew.cell? ⟨w.heap.size + 1, 2, none⟩ = some (.string s))) := fun o => sv_alloc W7 o (HO7.out).sv
      have HSD2 : Hid (∀ o o' : Obj, (((W7.alloc o).alloc o').drew.cell? ⟨w.heap.size, 0, none⟩ = some (.pointer (some ⟨g, 0, none⟩)) ∧ ((W7.alloc o).alloc o').drew.cell? ⟨w.heap.size, 1, none⟩ = some (.int .i64 ((c : Int) - 1)) ∧ ((W7.alloc o).alloc o').drew.cell? ⟨w.heap.size + 1, 0, none⟩ = some (.int .i64 k) ∧ ((W7.alloc o).alloc o').drew.cell? ⟨w.heap.size + 1, 1, none⟩ = some (.int .i64 m) ∧ ((W7.alloc o).alloc o').drew.cell? ⟨w.heap.size + 1, 2, none⟩ = some (.string s))) := fun o o' => sv_alloc _ o' (sv_alloc W7 o (HO7.out).sv)
      have HSR : Hid (∀ (W' : World) (a b : Value), (W'.cell? ⟨w.heap.size, 0, none⟩ = some (.pointer (some ⟨g, 0, none⟩)) ∧ W'.cell? ⟨w.heap.size, 1, none⟩ = some (.int .i64 ((c : Int) - 1)) ∧ W'.cell? ⟨w.heap.size + 1, 0, none⟩ = some (.int .i64 k) ∧ W'.cell? ⟨w.heap.size + 1, 1, none⟩ = some (.int .i64 m) ∧ W'.cell? ⟨w.heap.size + 1, 2, none⟩ = some (.string s)) → (((W'.setCell ⟨w.heap.size + 1 + 1, 0, none⟩ a).setCell ⟨w.heap.size + 1 + 1, 1, none⟩ b).cell? ⟨w.heap.size, 0, none⟩ = some (.pointer (some ⟨g, 0, none⟩)) ∧ ((W'.setCell ⟨w.heap.size + 1 + 1, 0, none⟩ a).setCell ⟨w.heap.size + 1 + 1, 1, none⟩ b).cell? ⟨w.heap.size, 1, none⟩ = some (.int .i64 ((c : Int) - 1)) ∧ ((W'.setCell ⟨w.heap.size + 1 + 1, 0, none⟩ a).setCell ⟨w.heap.size + 1 + 1, 1, none⟩ b).cell? ⟨w.heap.size + 1, 0, none⟩ = some (.int .i64 k) ∧ ((W'.setCell ⟨w.heap.size + 1 + 1, 0, none⟩ a).setCell ⟨w.heap.size + 1 + 1, 1, none⟩ b).cell? ⟨w.heap.size + 1, 1, none⟩ = some (.int .i64 m) ∧ ((W'.setCell ⟨w.heap.size + 1 + 1, 0, none⟩ a).setCell ⟨w.heap.size + 1 + 1, 1, none⟩ b).cell? ⟨w.heap.size + 1, 2, none⟩ = some (.string s))) := fun W' a b h => sv_ret W' a b h
      have HOW : Hid (Own3 w W7 (some ⟨g, 0, none⟩) ((c : Int) - 1) k m s) := HO7.out
      have HCC : Hid (Calls Try.prog 24 #[.slice (some ⟨W7.heap.size, 0, none⟩) 2 2] (W7.alloc (.cells #[.slice (some ⟨b, o, none⟩) i j, .slice (some ⟨b, o, none⟩) 0 0] 36)).drew fun e w8 => ∃ a8 c8, e = .returned (.slice a8 L8 c8) ∧ Hid (Sl iv 1 w8 (.slice a8 L8 c8) l8 ∧ Below W7.heap.size W7 w8 ∧ NT w8 a8) ∧ (w8.cell? ⟨w.heap.size, 0, none⟩ = some (.pointer (some ⟨g, 0, none⟩)) ∧ w8.cell? ⟨w.heap.size, 1, none⟩ = some (.int .i64 ((c : Int) - 1)) ∧ w8.cell? ⟨w.heap.size + 1, 0, none⟩ = some (.int .i64 k) ∧ w8.cell? ⟨w.heap.size + 1, 1, none⟩ = some (.int .i64 m) ∧ w8.cell? ⟨w.heap.size + 1, 2, none⟩ = some (.string s))) := by
        have h0 := concat_del W7 n l HRL.out.2 (.slice (some ⟨b, o, none⟩) i j) (.slice (some ⟨b, o, none⟩) 0 0) (HT1.out) (HT3.out)
        rw [HL8.out, HLN.out] at h0
        exact h0.mono fun e w8 ⟨a8, c8, q1, q2, q3, q4⟩ => ⟨a8, c8, q1, ⟨q2, q3, q4⟩, (HOW.out.next q3).sv⟩
      have HPU : Hid (∀ w8 a8 c8, Sl iv 1 w8 (.slice a8 L8 c8) l8 ∧ Below W7.heap.size W7 w8 ∧ NT w8 a8 → Calls Try.prog 23 #[.agg #[.pointer (some ⟨g, 0, none⟩), .int .i64 ((c : Int) - 1)], .agg #[.int .i64 k, .int .i64 m, .string s, .slice a8 L8 c8]] w8 fun e w9 => ∃ p9, e = .returned (.agg #[.pointer (some ⟨p9, 0, none⟩), .int .i64 ((c : Int) - 1)]) ∧ Hid (Ix w9 (some ⟨p9, 0, none⟩) (upd F ⟨k, m, s⟩ l8) nb (M + 1) ∧ Own3 w w9 (some ⟨g, 0, none⟩) ((c : Int) - 1) k m s) ∧ w9.cell? ⟨w.heap.size + 1 + 1, 0, none⟩ = some (.pointer none) ∧ w9.cell? ⟨w.heap.size + 1 + 1, 1, none⟩ = some (.int .i64 0) ∧ (∀ j, w9.frozen? ⟨w.heap.size + 1 + 1, j, none⟩ = false) ∧ (w9.cell? ⟨w.heap.size, 0, none⟩ = some (.pointer (some ⟨g, 0, none⟩)) ∧ w9.cell? ⟨w.heap.size, 1, none⟩ = some (.int .i64 ((c : Int) - 1)) ∧ w9.cell? ⟨w.heap.size + 1, 0, none⟩ = some (.int .i64 k) ∧ w9.cell? ⟨w.heap.size + 1, 1, none⟩ = some (.int .i64 m) ∧ w9.cell? ⟨w.heap.size + 1, 2, none⟩ = some (.string s))) := fun w8 a8 c8 hq => by
        obtain ⟨v', ads', us', bs', hI⟩ := HI7.out
        have h0 := put_is g ((c : Int) - 1) F nb M v' ads' us' bs' (by omega) (by omega) ⟨k, m, s⟩ HFX.out l8 HLM.out HRS.out a8 c8 w8 (by rw [HLN.out]; exact hq.1) hq.2.2 (hI.next hq.2.1)
        rw [HLN.out] at h0
        exact h0.mono fun e w9 ⟨p9, q1, q2, q3⟩ => ⟨p9, q1, ⟨q2, (HOW.out.next hq.2.1).next q3⟩, ((HOW.out.next hq.2.1).next q3).r.cell rfl, ((HOW.out.next hq.2.1).next q3).r.cell rfl, ((HOW.out.next hq.2.1).next q3).r.fz, ((HOW.out.next hq.2.1).next q3).sv⟩
      go_wp2_with fail
      rw [HW7.out]
      go_region_held (fun (w' : World) => (w'.cell? ⟨w.heap.size, 0, none⟩ = some (.pointer (some ⟨g, 0, none⟩)) ∧ w'.cell? ⟨w.heap.size, 1, none⟩ = some (.int .i64 ((c : Int) - 1)) ∧ w'.cell? ⟨w.heap.size + 1, 0, none⟩ = some (.int .i64 k) ∧ w'.cell? ⟨w.heap.size + 1, 1, none⟩ = some (.int .i64 m) ∧ w'.cell? ⟨w.heap.size + 1, 2, none⟩ = some (.string s))) (first | (with_reducible assumption) | (with_reducible exact HS0.out) | (with_reducible exact HSD1.out _) | (with_reducible exact HSD2.out _ _) | (with_reducible exact HSR.out _ _ _ (by with_reducible assumption)))
        (first | ((with_reducible refine Calls.mono HCC.out ?_); rintro e w8 ⟨a8, c8, rfl, HM8, hS8⟩) | ((with_reducible refine Calls.mono (HPU.out _ _ _ HM8.out) ?_); rintro e w9 ⟨p9, rfl, HM9, r0, r1, rf, hS9⟩))
      obtain ⟨WE, hWE⟩ : ∃ WE, (w9.setCell ⟨w.heap.size + 1 + 1, 0, none⟩ (.pointer (some ⟨p9, 0, none⟩))).setCell ⟨w.heap.size + 1 + 1, 1, none⟩ (.int .i64 (((c : Int) - 1))) = WE := ⟨_, rfl⟩
      have HRT : Hid ((loadVar 27 ⟨w.heap.size + 1 + 1, 0, none⟩).run Try.prog WE = .ok (.agg #[.pointer (some ⟨p9, 0, none⟩), .int .i64 (((c : Int) - 1))]) WE ∧ Below w.heap.size w WE) := HM9.out.2.ret _ _ hWE
      have HWE : Hid ((w9.setCell ⟨w.heap.size + 1 + 1, 0, none⟩ (.pointer (some ⟨p9, 0, none⟩))).setCell ⟨w.heap.size + 1 + 1, 1, none⟩ (.int .i64 (((c : Int) - 1))) = WE) := hWE
      have HIE : Hid (Ix WE (some ⟨p9, 0, none⟩) (upd F ⟨k, m, s⟩ l8) nb (M + 1)) := by
        refine HM9.out.1.quiet HM9.out.2.r (fun k hk => ?_)
        rw [← hWE]
        exact (heap_set _ _ _ hk).trans (heap_set _ _ _ hk)
      clear hWE
      go_wp2_with fail
      skip
      rw [HWE.out]
      refine bodyPost_ret (end_cell rfl rfl HRT.out.1) rfl ?_
      exact ⟨_, rfl, HIE.out, HRT.out.2⟩
    · have hcj' : ¬ (cc : Int) = (j : Int) := by omega
      have HT3 : Hid (Sl iv 1 W7 (.slice (some ⟨b, o + j, none⟩) (L - j) (cc - j)) (l.drop (lo l n + 1))) := by
        have := hSW.tail j (by rw [HLL.out]; omega)
        rw [Nat.mul_one, HLL.out] at this
        show Sl _ _ _ _ _
        rw [HLO.out, HJ.out]
        exact this
      clear hSW hT1
      skip
      have HS0 : Hid ((W7.drew.cell? ⟨w.heap.size, 0, none⟩ = some (.pointer (some ⟨g, 0, none⟩)) ∧ W7.drew.cell? ⟨w.heap.size, 1, none⟩ = some (.int .i64 ((c : Int) - 1)) ∧ W7.drew.cell? ⟨w.heap.size + 1, 0, none⟩ = some (.int .i64 k) ∧ W7.drew.cell? ⟨w.heap.size + 1, 1, none⟩ = some (.int .i64 m) ∧ W7.drew.cell? ⟨w.heap.size + 1, 2, none⟩ = some (.string s))) := (HO7.out).sv
      have HSA : Hid (∀ (W' : World) (o : Obj), (W'.cell? ⟨w.heap.size, 0, none⟩ = some (.pointer (some ⟨g, 0, none⟩)) ∧ W'.cell? ⟨w.heap.size, 1, none⟩ = some (.int .i64 ((c : Int) - 1)) ∧ W'.cell? ⟨w.heap.size + 1, 0, none⟩ = some (.int .i64 k) ∧ W'.cell? ⟨w.heap.size + 1, 1, none⟩ = some (.int .i64 m) ∧ W'.cell? ⟨w.heap.size + 1, 2, none⟩ = some (.string s)) → ((W'.alloc o).cell? ⟨w.heap.size, 0, none⟩ = some (.pointer (some ⟨g, 0, none⟩)) ∧ (W'.alloc o).cell? ⟨w.heap.size, 1, none⟩ = some (.int .i64 ((c : Int) - 1)) ∧ (W'.alloc o).cell? ⟨w.heap.size + 1, 0, none⟩ = some (.int .i64 k) ∧ (W'.alloc o).cell? ⟨w.heap.size + 1, 1, none⟩ = some (.int .i64 m) ∧ (W'.alloc o).cell? ⟨w.heap.size + 1, 2, none⟩ = some (.string s))) := fun W' o h => sv_alloc W' o h
      have HSD1 : Hid (∀ o : Obj, ((W7.alloc o).drew.cell? ⟨w.heap.size, 0, none⟩ = some (.pointer (some ⟨g, 0, none⟩)) ∧ (W7.alloc o).drew.cell? ⟨w.heap.size, 1, none⟩ = some (.int .i64 ((c : Int) - 1)) ∧ (W7.alloc o).drew.cell? ⟨w.heap.size + 1, 0, none⟩ = some (.int .i64 k) ∧ (W7.alloc o).drew.cell? ⟨w.heap.size + 1, 1, none⟩ = some (.int .i64 m) ∧ (W7.alloc o).drew.cell? ⟨w.heap.size + 1, 2, none⟩ = some (.string s))) := fun o => sv_alloc W7 o (HO7.out).sv
      have HSD2 : Hid (∀ o o' : Obj, (((W7.alloc o).alloc o').drew.cell? ⟨w.heap.size, 0, none⟩ = some (.pointer (some ⟨g, 0, none⟩)) ∧ ((W7.alloc o).alloc o').drew.cell? ⟨w.heap.size, 1, none⟩ = some (.int .i64 ((c : Int) - 1)) ∧ ((W7.alloc o).alloc o').drew.cell? ⟨w.heap.size + 1, 0, none⟩ = some (.int .i64 k) ∧ ((W7.alloc o).alloc o').drew.cell? ⟨w.heap.size + 1, 1, none⟩ = some (.int .i64 m) ∧ ((W7.alloc o).alloc o').drew.cell? ⟨w.heap.size + 1, 2, none⟩ = some (.string s))) := fun o o' => sv_alloc _ o' (sv_alloc W7 o (HO7.out).sv)
      have HSR : Hid (∀ (W' : World) (a b : Value), (W'.cell? ⟨w.heap.size, 0, none⟩ = some (.pointer (some ⟨g, 0, none⟩)) ∧ W'.cell? ⟨w.heap.size, 1, none⟩ = some (.int .i64 ((c : Int) - 1)) ∧ W'.cell? ⟨w.heap.size + 1, 0, none⟩ = some (.int .i64 k) ∧ W'.cell? ⟨w.heap.size + 1, 1, none⟩ = some (.int .i64 m) ∧ W'.cell? ⟨w.heap.size + 1, 2, none⟩ = some (.string s)) → (((W'.setCell ⟨w.heap.size + 1 + 1, 0, none⟩ a).setCell ⟨w.heap.size + 1 + 1, 1, none⟩ b).cell? ⟨w.heap.size, 0, none⟩ = some (.pointer (some ⟨g, 0, none⟩)) ∧ ((W'.setCell ⟨w.heap.size + 1 + 1, 0, none⟩ a).setCell ⟨w.heap.size + 1 + 1, 1, none⟩ b).cell? ⟨w.heap.size, 1, none⟩ = some (.int .i64 ((c : Int) - 1)) ∧ ((W'.setCell ⟨w.heap.size + 1 + 1, 0, none⟩ a).setCell ⟨w.heap.size + 1 + 1, 1, none⟩ b).cell? ⟨w.heap.size + 1, 0, none⟩ = some (.int .i64 k) ∧ ((W'.setCell ⟨w.heap.size + 1 + 1, 0, none⟩ a).setCell ⟨w.heap.size + 1 + 1, 1, none⟩ b).cell? ⟨w.heap.size + 1, 1, none⟩ = some (.int .i64 m) ∧ ((W'.setCell ⟨w.heap.size + 1 + 1, 0, none⟩ a).setCell ⟨w.heap.size + 1 + 1, 1, none⟩ b).cell? ⟨w.heap.size + 1, 2, none⟩ = some (.string s))) := fun W' a b h => sv_ret W' a b h
      have HOW : Hid (Own3 w W7 (some ⟨g, 0, none⟩) ((c : Int) - 1) k m s) := HO7.out
      have HCC : Hid (Calls Try.prog 24 #[.slice (some ⟨W7.heap.size, 0, none⟩) 2 2] (W7.alloc (.cells #[.slice (some ⟨b, o, none⟩) i cc, .slice (some ⟨b, o + j, none⟩) (L - j) (cc - j)] 36)).drew fun e w8 => ∃ a8 c8, e = .returned (.slice a8 L8 c8) ∧ Hid (Sl iv 1 w8 (.slice a8 L8 c8) l8 ∧ Below W7.heap.size W7 w8 ∧ NT w8 a8) ∧ (w8.cell? ⟨w.heap.size, 0, none⟩ = some (.pointer (some ⟨g, 0, none⟩)) ∧ w8.cell? ⟨w.heap.size, 1, none⟩ = some (.int .i64 ((c : Int) - 1)) ∧ w8.cell? ⟨w.heap.size + 1, 0, none⟩ = some (.int .i64 k) ∧ w8.cell? ⟨w.heap.size + 1, 1, none⟩ = some (.int .i64 m) ∧ w8.cell? ⟨w.heap.size + 1, 2, none⟩ = some (.string s))) := by
        have h0 := concat_del W7 n l HRL.out.2 (.slice (some ⟨b, o, none⟩) i cc) (.slice (some ⟨b, o + j, none⟩) (L - j) (cc - j)) (HT1.out) (HT3.out)
        rw [HL8.out, HLN.out] at h0
        exact h0.mono fun e w8 ⟨a8, c8, q1, q2, q3, q4⟩ => ⟨a8, c8, q1, ⟨q2, q3, q4⟩, (HOW.out.next q3).sv⟩
      have HPU : Hid (∀ w8 a8 c8, Sl iv 1 w8 (.slice a8 L8 c8) l8 ∧ Below W7.heap.size W7 w8 ∧ NT w8 a8 → Calls Try.prog 23 #[.agg #[.pointer (some ⟨g, 0, none⟩), .int .i64 ((c : Int) - 1)], .agg #[.int .i64 k, .int .i64 m, .string s, .slice a8 L8 c8]] w8 fun e w9 => ∃ p9, e = .returned (.agg #[.pointer (some ⟨p9, 0, none⟩), .int .i64 ((c : Int) - 1)]) ∧ Hid (Ix w9 (some ⟨p9, 0, none⟩) (upd F ⟨k, m, s⟩ l8) nb (M + 1) ∧ Own3 w w9 (some ⟨g, 0, none⟩) ((c : Int) - 1) k m s) ∧ w9.cell? ⟨w.heap.size + 1 + 1, 0, none⟩ = some (.pointer none) ∧ w9.cell? ⟨w.heap.size + 1 + 1, 1, none⟩ = some (.int .i64 0) ∧ (∀ j, w9.frozen? ⟨w.heap.size + 1 + 1, j, none⟩ = false) ∧ (w9.cell? ⟨w.heap.size, 0, none⟩ = some (.pointer (some ⟨g, 0, none⟩)) ∧ w9.cell? ⟨w.heap.size, 1, none⟩ = some (.int .i64 ((c : Int) - 1)) ∧ w9.cell? ⟨w.heap.size + 1, 0, none⟩ = some (.int .i64 k) ∧ w9.cell? ⟨w.heap.size + 1, 1, none⟩ = some (.int .i64 m) ∧ w9.cell? ⟨w.heap.size + 1, 2, none⟩ = some (.string s))) := fun w8 a8 c8 hq => by
        obtain ⟨v', ads', us', bs', hI⟩ := HI7.out
        have h0 := put_is g ((c : Int) - 1) F nb M v' ads' us' bs' (by omega) (by omega) ⟨k, m, s⟩ HFX.out l8 HLM.out HRS.out a8 c8 w8 (by rw [HLN.out]; exact hq.1) hq.2.2 (hI.next hq.2.1)
        rw [HLN.out] at h0
        exact h0.mono fun e w9 ⟨p9, q1, q2, q3⟩ => ⟨p9, q1, ⟨q2, (HOW.out.next hq.2.1).next q3⟩, ((HOW.out.next hq.2.1).next q3).r.cell rfl, ((HOW.out.next hq.2.1).next q3).r.cell rfl, ((HOW.out.next hq.2.1).next q3).r.fz, ((HOW.out.next hq.2.1).next q3).sv⟩
      go_wp2_with fail
      rw [HW7.out]
      go_region_held (fun (w' : World) => (w'.cell? ⟨w.heap.size, 0, none⟩ = some (.pointer (some ⟨g, 0, none⟩)) ∧ w'.cell? ⟨w.heap.size, 1, none⟩ = some (.int .i64 ((c : Int) - 1)) ∧ w'.cell? ⟨w.heap.size + 1, 0, none⟩ = some (.int .i64 k) ∧ w'.cell? ⟨w.heap.size + 1, 1, none⟩ = some (.int .i64 m) ∧ w'.cell? ⟨w.heap.size + 1, 2, none⟩ = some (.string s))) (first | (with_reducible assumption) | (with_reducible exact HS0.out) | (with_reducible exact HSD1.out _) | (with_reducible exact HSD2.out _ _) | (with_reducible exact HSR.out _ _ _ (by with_reducible assumption)))
        (first | ((with_reducible refine Calls.mono HCC.out ?_); rintro e w8 ⟨a8, c8, rfl, HM8, hS8⟩) | ((with_reducible refine Calls.mono (HPU.out _ _ _ HM8.out) ?_); rintro e w9 ⟨p9, rfl, HM9, r0, r1, rf, hS9⟩))
      obtain ⟨WE, hWE⟩ : ∃ WE, (w9.setCell ⟨w.heap.size + 1 + 1, 0, none⟩ (.pointer (some ⟨p9, 0, none⟩))).setCell ⟨w.heap.size + 1 + 1, 1, none⟩ (.int .i64 (((c : Int) - 1))) = WE := ⟨_, rfl⟩
      have HRT : Hid ((loadVar 27 ⟨w.heap.size + 1 + 1, 0, none⟩).run Try.prog WE = .ok (.agg #[.pointer (some ⟨p9, 0, none⟩), .int .i64 (((c : Int) - 1))]) WE ∧ Below w.heap.size w WE) := HM9.out.2.ret _ _ hWE
      have HWE : Hid ((w9.setCell ⟨w.heap.size + 1 + 1, 0, none⟩ (.pointer (some ⟨p9, 0, none⟩))).setCell ⟨w.heap.size + 1 + 1, 1, none⟩ (.int .i64 (((c : Int) - 1))) = WE) := hWE
      have HIE : Hid (Ix WE (some ⟨p9, 0, none⟩) (upd F ⟨k, m, s⟩ l8) nb (M + 1)) := by
        refine HM9.out.1.quiet HM9.out.2.r (fun k hk => ?_)
        rw [← hWE]
        exact (heap_set _ _ _ hk).trans (heap_set _ _ _ hk)
      clear hWE
      go_wp2_with fail
      skip
      rw [HWE.out]
      refine bodyPost_ret (end_cell rfl rfl HRT.out.1) rfl ?_
      exact ⟨_, rfl, HIE.out, HRT.out.2⟩
end Go.Proofs.Ytgjeobmbfeinnaa
