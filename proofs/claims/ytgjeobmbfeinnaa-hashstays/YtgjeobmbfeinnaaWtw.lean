/- With: a new number. -/
import Derived.Test.YtgjeobmbfeinnaaNbt
namespace Go.Proofs.Ytgjeobmbfeinnaa
open Go.ChangeShapes Go.WideShapes Go.RowKit
set_option linter.unusedVariables false
set_option maxRecDepth 100000

set_option maxHeartbeats 16000000 in
theorem with_new (p : Option Addr) (c : Nat) (F : Val → List Int) (nb M : Nat) (hM : M ≤ 980) (hnb : nb ≤ 100) (hc0 : c ≤ 32 * nb) (hc : c ≤ 900) (hfit : ∀ v, F v ≠ [] → v.fit) (x : Val) (hx : x.fit) (n : Int) (w : World) (h : Ix w p F nb M) (hmy : may x) (hni : n ∉ F x) :
    Calls Try.prog 15 #[.agg #[.pointer p, .int .i64 c], x.v, .int .i64 n] w fun e w' => ∃ p', e = .returned (.agg #[.pointer (some ⟨p', 0, none⟩), .int .i64 ((c : Int) + 1)]) ∧ Ix w' (some ⟨p', 0, none⟩) (upd F x (ins n (F x))) (if c = 32 * nb then max 1 (2 * nb) else nb) (M + 1) ∧ Below w.heap.size w w' := by
  have HIX : Hid (Ix w p F nb M) := h
  have HCK : Hid (∀ w', Calls Try.prog 20 #[x.v] w' fun e w'' => e = .returned (.int .i64 0) ∧ Below w'.heap.size w' w'') := fun w' => by
    have := check_v x hx w'
    rw [if_pos hmy] at this
    exact this
  have HNB : Hid (∀ w', Below w.heap.size w w' → Calls Try.prog 19 #[.agg #[.pointer p, .int .i64 c], x.v] w' fun e w'' => ∃ a cc, e = .returned (.slice a (F x).length cc) ∧ Sl iv 1 w'' (.slice a (F x).length cc) (F x) ∧ Below w'.heap.size w' w'' ∧ (F x = [] → a = none ∧ cc = 0) ∧ NT w'' a) := fun w' hb => numbersT_is p c F nb M (by omega) (by omega) x hx w' (h.next hb)
  have HBU : Hid (∀ w', Below w.heap.size w w' → Calls Try.prog 11 #[.agg #[.pointer p, .int .i64 c]] w' fun e w'' => e = .returned (.int .i64 (8 * nb : Nat)) ∧ Below w'.heap.size w' w'') := fun w' hb => buckets_is p c F nb M (by omega) w' (h.next hb)
  have HWI : Hid (∀ w', Below w.heap.size w w' → Calls Try.prog 22 #[.agg #[.pointer p, .int .i64 c]] w' fun e w'' => ∃ p', e = .returned (.agg #[.pointer (some ⟨p', 0, none⟩), .int .i64 c]) ∧ Ix w'' (some ⟨p', 0, none⟩) F (max 1 (2 * nb)) M ∧ Below w'.heap.size w' w'') := fun w' hb => widened_is p c F nb M (by omega) (by omega) hfit w' (h.next hb)
  have HRL : Hid (Rise (F x) ∧ (F x).length ≤ 980) := ⟨h.rise x, Nat.le_trans (h.less x) hM⟩
  have HNI : Hid (n ∉ F x) := hni
  have HLM : Hid ((ins n (F x)).length ≤ M + 1) := by
    show _ ≤ _
    rw [ins_len]
    have := h.less x
    omega
  have HRS : Hid (Rise (ins n (F x))) := rise_ins (h.rise x) hni
  have HFX : Hid (x.fit) := hx
  obtain ⟨k, m, s⟩ := x
  obtain ⟨l, hl⟩ : ∃ l, F ⟨k, m, s⟩ = l := ⟨_, rfl⟩
  rw [hl] at HNB HRL HNI HLM HRS ⊢
  obtain ⟨l8, hl8⟩ : ∃ l8, ins n l = l8 := ⟨_, rfl⟩
  have HL8 : Hid (ins n l = l8) := hl8
  rw [hl8] at HLM HRS ⊢
  obtain ⟨L8, hL8⟩ : ∃ L8, l8.length = L8 := ⟨_, rfl⟩
  have HLN : Hid (l8.length = L8) := hL8
  obtain ⟨L, hL⟩ : ∃ L, l.length = L := ⟨_, rfl⟩
  have HLL : Hid (l.length = L) := hL
  obtain ⟨i, hi⟩ : ∃ i, lo l n = i := ⟨_, rfl⟩
  have HLO : Hid (lo l n = i) := hi
  have hiL : i ≤ L := by rw [← hi, ← hL]; exact lo_le l n
  have hL980 : L ≤ 980 := by rw [← hL]; exact HRL.out.2
  have HO0 : Hid (Own3 w (((w.alloc (.cells #[.pointer p, .int .i64 c] 27)).alloc (.cells #[.int .i64 k, .int .i64 m, .string s] 24)).alloc (.cells #[.pointer none, .int .i64 0] 27)) p c k m s) := Own3.new w p c k m s
  rw [hL] at HNB
  clear h hni hx hmy hfit hl hl8 hL8 hL hi
  go_enter Try.func15, Try.ntmps15
  go_wp2_with fail
  refine Calls.mono (HCK.out _) ?_; rintro e w1 ⟨rfl, k1⟩
  have HO1 : Hid (Own3 w w1 p c k m s) := HO0.out.next k1
  have x0 := HO1.out.x.cell (i := 0) rfl
  have x1 := HO1.out.x.cell (i := 1) rfl
  have v0 := HO1.out.v.cell (i := 0) rfl
  have v1 := HO1.out.v.cell (i := 1) rfl
  have v2 := HO1.out.v.cell (i := 2) rfl
  clear k1 HO0
  go_wp2_with fail
  refine Calls.mono (HNB.out _ HO1.out.b) ?_; rintro e w2 ⟨a, cc, rfl, hsl, k2, hem, hnt⟩
  have HNT : Hid (NT w2 a) := hnt
  have HO2 : Hid (Own3 w w2 p c k m s) := HO1.out.next k2
  have HSL : Hid (Sl iv 1 w2 (.slice a L cc) l) := hsl
  have HBS : Hid (Calls Try.prog 21 #[.slice a L cc, .int .i64 n] w2 fun e w' => e = .returned (.tuple #[.int .i64 (i : Nat), .bool false]) ∧ w' = w2) := by
    have := bsearch_is _ l HRL.out.1 (by have := HRL.out.2; omega) n w2 hsl
    rw [decide_eq_false HNI.out, HLO.out] at this
    exact this
  have hforms := cut_forms (by rw [HLL.out]; exact hsl) hem
  clear k2 hem hnt hsl x0 x1 v0 v1 v2 HNB HCK
  go_wp2_with fail
  refine Calls.mono HBS.out ?_; rintro e w3 ⟨rfl, rfl⟩
  clear HBS
  have HB7 : Hid (Calls Try.prog 11 #[.agg #[.pointer p, .int .i64 c]] w3.drew fun e w' => e = .returned (.int .i64 (8 * nb : Nat)) ∧ Hid (Below w3.heap.size w3 w') ∧ (w'.cell? ⟨w.heap.size, 0, none⟩ = some (.pointer p) ∧ w'.cell? ⟨w.heap.size, 1, none⟩ = some (.int .i64 c))) := (HBU.out w3.drew HO2.out.b.drew).mono fun e w' ⟨q1, q2⟩ => ⟨q1, Below.of_drew q2, (HO2.out.next (Below.of_drew q2)).x.cell rfl, (HO2.out.next (Below.of_drew q2)).x.cell rfl⟩
  have HS7 : Hid ((w3.drew.cell? ⟨w.heap.size, 0, none⟩ = some (.pointer p) ∧ w3.drew.cell? ⟨w.heap.size, 1, none⟩ = some (.int .i64 c))) := ⟨HO2.out.x.cell rfl, HO2.out.x.cell rfl⟩
  have HWZ : Hid (IntKind.i64.wrap (4 * (8 * (nb : Int))) = 32 * (nb : Int)) := by show _ = _; rw [IntKind.wrap_i64]; omega
  go_wp2_with fail
  go_region_held (fun (w' : World) => (w'.cell? ⟨w.heap.size, 0, none⟩ = some (.pointer p) ∧ w'.cell? ⟨w.heap.size, 1, none⟩ = some (.int .i64 c))) (first | (with_reducible assumption) | (with_reducible exact HS7.out))
    (first | ((with_reducible refine Calls.mono HB7.out ?_); rintro e w4 ⟨rfl, HK4, hS4⟩))
  have HO4 : Hid (Own3 w w4 p c k m s) := HO2.out.next HK4.out
  have HSL4 : Hid (Sl iv 1 w4 (.slice a L cc) l) := HSL.out.next iv_ne HK4.out
  have HNT4 : Hid (NT w4 a) := HNT.out.next HK4.out
  clear hS4 HS7 HB7 HBU HO2 HSL HK4
  by_cases hwd : c = 32 * nb
  · have hq : IntKind.i64.wrap (4 * (8 * (nb : Int))) = (c : Int) := by rw [HWZ.out]; omega
    have HWC : Hid (Calls Try.prog 22 #[.agg #[.pointer p, .int .i64 c]] w4 fun e w'' => ∃ p', e = .returned (.agg #[.pointer (some ⟨p', 0, none⟩), .int .i64 c]) ∧ Ix w'' (some ⟨p', 0, none⟩) F (max 1 (2 * nb)) M ∧ Below w4.heap.size w4 w'') := HWI.out w4 HO4.out.b
    have x0 := HO4.out.x.cell (i := 0) rfl
    have x1 := HO4.out.x.cell (i := 1) rfl
    obtain ⟨nb2, hnb2⟩ : ∃ nb2, max 1 (2 * nb) = nb2 := ⟨_, rfl⟩
    have HIF : Hid ((if c = 32 * nb then max 1 (2 * nb) else nb) = nb2) := by show _ = _; rw [if_pos hwd]; exact hnb2
    have HNB2 : Hid (max 1 (2 * nb) = nb2) := hnb2
    have HWD : Hid (c = 32 * nb) := hwd
    have hnb2b : nb2 ≤ 1000 := by omega
    rw [hnb2] at HWC
    clear HWI hnb2 hwd
    go_wp2_with fail
    refine Calls.mono HWC.out ?_; rintro e w5 ⟨p5, rfl, hI5, k5⟩
    have HO5 : Hid (Own3 w w5 p c k m s) := HO4.out.next k5
    obtain ⟨W7, hW7⟩ : ∃ W7, ((w5.setCell ⟨w.heap.size, 0, none⟩ (.pointer (some ⟨p5, 0, none⟩))).setCell ⟨w.heap.size, 1, none⟩ (.int .i64 c)).setCell ⟨w.heap.size, 1, none⟩ (.int .i64 ((c : Int) + 1)) = W7 := ⟨_, rfl⟩
    have HO7 : Hid (Own3 w W7 (some ⟨p5, 0, none⟩) ((c : Int) + 1) k m s) := by
      show Own3 _ _ _ _ _ _ _
      rw [← hW7]
      exact (HO5.out.setx (some ⟨p5, 0, none⟩) c).setc ((c : Int) + 1)
    have HFR : Hid (∀ k', k' ≠ w.heap.size → W7.heap[k']? = w5.heap[k']?) := fun k' hk => by
      rw [← hW7]
      exact (heap_set _ _ _ hk).trans ((heap_set _ _ _ hk).trans (heap_set _ _ _ hk))
    have HI7 : Hid (∃ v' ads' us' bs', IxAt W7 p5 F nb2 M v' ads' us' bs') := by
      have := hI5.quiet HO5.out.x HFR.out
      rcases this with ⟨e, _⟩ | ⟨g, v', ads', us', bs', e, hh⟩
      · cases e
      · cases e; exact ⟨v', ads', us', bs', hh⟩
    have HSW : Sl iv 1 W7 (.slice a L cc) l := by
      exact (HSL4.out.next iv_ne k5).quiet (HNT4.out.next k5) HO5.out.x HFR.out
    have a0 := HO5.out.x.cell (i := 0) rfl
    have a1 := HO5.out.x.cell (i := 1) rfl
    have af := HO5.out.x.fz
    have hx6 := (HO5.out.setx (some ⟨p5, 0, none⟩) c).x
    have b1 := hx6.cell (i := 1) rfl
    have bf := hx6.fz
    have HW7 : Hid (((w5.setCell ⟨w.heap.size, 0, none⟩ (.pointer (some ⟨p5, 0, none⟩))).setCell ⟨w.heap.size, 1, none⟩ (.int .i64 c)).setCell ⟨w.heap.size, 1, none⟩ (.int .i64 ((c : Int) + 1)) = W7) := hW7
    clear hI5 k5 hW7 HWC x0 x1 hx6 HO4 HSL4
    rcases hforms with ⟨hl0, ha0, hcc0⟩ | ⟨hl0, b, o, ha0, hLc⟩
    · subst ha0
      subst hcc0
      obtain rfl : L = 0 := by rw [← HLL.out, hl0]; rfl
      obtain rfl : i = 0 := by omega
      skip
      have HS0 : Hid ((W7.drew.cell? ⟨w.heap.size, 0, none⟩ = some (.pointer (some ⟨p5, 0, none⟩)) ∧ W7.drew.cell? ⟨w.heap.size, 1, none⟩ = some (.int .i64 ((c : Int) + 1)) ∧ W7.drew.cell? ⟨w.heap.size + 1, 0, none⟩ = some (.int .i64 k) ∧ W7.drew.cell? ⟨w.heap.size + 1, 1, none⟩ = some (.int .i64 m) ∧ W7.drew.cell? ⟨w.heap.size + 1, 2, none⟩ = some (.string s))) := (HO7.out).sv
      have HSA : Hid (∀ (W' : World) (o : Obj), (W'.cell? ⟨w.heap.size, 0, none⟩ = some (.pointer (some ⟨p5, 0, none⟩)) ∧ W'.cell? ⟨w.heap.size, 1, none⟩ = some (.int .i64 ((c : Int) + 1)) ∧ W'.cell? ⟨w.heap.size + 1, 0, none⟩ = some (.int .i64 k) ∧ W'.cell? ⟨w.heap.size + 1, 1, none⟩ = some (.int .i64 m) ∧ W'.cell? ⟨w.heap.size + 1, 2, none⟩ = some (.string s)) → ((W'.alloc o).cell? ⟨w.heap.size, 0, none⟩ = some (.pointer (some ⟨p5, 0, none⟩)) ∧ (W'.alloc o).cell? ⟨w.heap.size, 1, none⟩ = some (.int .i64 ((c : Int) + 1)) ∧ (W'.alloc o).cell? ⟨w.heap.size + 1, 0, none⟩ = some (.int .i64 k) ∧ (W'.alloc o).cell? ⟨w.heap.size + 1, 1, none⟩ = some (.int .i64 m) ∧ (W'.alloc o).cell? ⟨w.heap.size + 1, 2, none⟩ = some (.string s))) := fun W' o h => sv_alloc W' o h
      have HSD1 : Hid (∀ o : Obj, ((W7.alloc o).drew.cell? ⟨w.heap.size, 0, none⟩ = some (.pointer (some ⟨p5, 0, none⟩)) ∧ (W7.alloc o).drew.cell? ⟨w.heap.size, 1, none⟩ = some (.int .i64 ((c : Int) + 1)) ∧ (W7.alloc o).drew.cell? ⟨w.heap.size + 1, 0, none⟩ = some (.int .i64 k) ∧ (W7.alloc o).drew.cell? ⟨w.heap.size + 1, 1, none⟩ = some (.int .i64 m) ∧ (W7.alloc o).drew.cell? ⟨w.heap.size + 1, 2, none⟩ = some (.string s))) := fun o => sv_alloc W7 o (HO7.out).sv
      have HSD2 : Hid (∀ o o' : Obj, (((W7.alloc o).alloc o').drew.cell? ⟨w.heap.size, 0, none⟩ = some (.pointer (some ⟨p5, 0, none⟩)) ∧ ((W7.alloc o).alloc o').drew.cell? ⟨w.heap.size, 1, none⟩ = some (.int .i64 ((c : Int) + 1)) ∧ ((W7.alloc o).alloc o').drew.cell? ⟨w.heap.size + 1, 0, none⟩ = some (.int .i64 k) ∧ ((W7.alloc o).alloc o').drew.cell? ⟨w.heap.size + 1, 1, none⟩ = some (.int .i64 m) ∧ ((W7.alloc o).alloc o').drew.cell? ⟨w.heap.size + 1, 2, none⟩ = some (.string s))) := fun o o' => sv_alloc _ o' (sv_alloc W7 o (HO7.out).sv)
      have HSR : Hid (∀ (W' : World) (a b : Value), (W'.cell? ⟨w.heap.size, 0, none⟩ = some (.pointer (some ⟨p5, 0, none⟩)) ∧ W'.cell? ⟨w.heap.size, 1, none⟩ = some (.int .i64 ((c : Int) + 1)) ∧ W'.cell? ⟨w.heap.size + 1, 0, none⟩ = some (.int .i64 k) ∧ W'.cell? ⟨w.heap.size + 1, 1, none⟩ = some (.int .i64 m) ∧ W'.cell? ⟨w.heap.size + 1, 2, none⟩ = some (.string s)) → (((W'.setCell ⟨w.heap.size + 1 + 1, 0, none⟩ a).setCell ⟨w.heap.size + 1 + 1, 1, none⟩ b).cell? ⟨w.heap.size, 0, none⟩ = some (.pointer (some ⟨p5, 0, none⟩)) ∧ ((W'.setCell ⟨w.heap.size + 1 + 1, 0, none⟩ a).setCell ⟨w.heap.size + 1 + 1, 1, none⟩ b).cell? ⟨w.heap.size, 1, none⟩ = some (.int .i64 ((c : Int) + 1)) ∧ ((W'.setCell ⟨w.heap.size + 1 + 1, 0, none⟩ a).setCell ⟨w.heap.size + 1 + 1, 1, none⟩ b).cell? ⟨w.heap.size + 1, 0, none⟩ = some (.int .i64 k) ∧ ((W'.setCell ⟨w.heap.size + 1 + 1, 0, none⟩ a).setCell ⟨w.heap.size + 1 + 1, 1, none⟩ b).cell? ⟨w.heap.size + 1, 1, none⟩ = some (.int .i64 m) ∧ ((W'.setCell ⟨w.heap.size + 1 + 1, 0, none⟩ a).setCell ⟨w.heap.size + 1 + 1, 1, none⟩ b).cell? ⟨w.heap.size + 1, 2, none⟩ = some (.string s))) := fun W' a b h => sv_ret W' a b h
      have HOW : Hid (Own3 w W7 (some ⟨p5, 0, none⟩) ((c : Int) + 1) k m s) := HO7.out
      have HCC : Hid (Calls Try.prog 24 #[.slice (some ⟨W7.heap.size + 1, 0, none⟩) 3 3] ((W7.alloc (.cells #[.int .i64 n] 3)).alloc (.cells #[.slice none 0 0, .slice (some ⟨W7.heap.size, 0, none⟩) 1 1, .slice none 0 0] 36)).drew fun e w8 => ∃ a8 c8, e = .returned (.slice a8 L8 c8) ∧ Hid (Sl iv 1 w8 (.slice a8 L8 c8) l8 ∧ Below W7.heap.size W7 w8 ∧ NT w8 a8) ∧ (w8.cell? ⟨w.heap.size, 0, none⟩ = some (.pointer (some ⟨p5, 0, none⟩)) ∧ w8.cell? ⟨w.heap.size, 1, none⟩ = some (.int .i64 ((c : Int) + 1)) ∧ w8.cell? ⟨w.heap.size + 1, 0, none⟩ = some (.int .i64 k) ∧ w8.cell? ⟨w.heap.size + 1, 1, none⟩ = some (.int .i64 m) ∧ w8.cell? ⟨w.heap.size + 1, 2, none⟩ = some (.string s))) := by
        have h0 := concat_ins W7 n l HRL.out.2 (.slice none 0 0) (.slice none 0 0) (by rw [hl0]; simp only [List.take_nil]; exact Sl.nil _ _ _) (by rw [hl0]; simp only [List.drop_nil]; exact Sl.nil _ _ _)
        rw [HL8.out, HLN.out] at h0
        exact h0.mono fun e w8 ⟨a8, c8, q1, q2, q3, q4⟩ => ⟨a8, c8, q1, ⟨q2, q3, q4⟩, (HOW.out.next q3).sv⟩
      have HPU : Hid (∀ w8 a8 c8, Sl iv 1 w8 (.slice a8 L8 c8) l8 ∧ Below W7.heap.size W7 w8 ∧ NT w8 a8 → Calls Try.prog 23 #[.agg #[.pointer (some ⟨p5, 0, none⟩), .int .i64 ((c : Int) + 1)], .agg #[.int .i64 k, .int .i64 m, .string s, .slice a8 L8 c8]] w8 fun e w9 => ∃ p9, e = .returned (.agg #[.pointer (some ⟨p9, 0, none⟩), .int .i64 ((c : Int) + 1)]) ∧ Hid (Ix w9 (some ⟨p9, 0, none⟩) (upd F ⟨k, m, s⟩ l8) nb2 (M + 1) ∧ Own3 w w9 (some ⟨p5, 0, none⟩) ((c : Int) + 1) k m s) ∧ w9.cell? ⟨w.heap.size + 1 + 1, 0, none⟩ = some (.pointer none) ∧ w9.cell? ⟨w.heap.size + 1 + 1, 1, none⟩ = some (.int .i64 0) ∧ (∀ j, w9.frozen? ⟨w.heap.size + 1 + 1, j, none⟩ = false) ∧ (w9.cell? ⟨w.heap.size, 0, none⟩ = some (.pointer (some ⟨p5, 0, none⟩)) ∧ w9.cell? ⟨w.heap.size, 1, none⟩ = some (.int .i64 ((c : Int) + 1)) ∧ w9.cell? ⟨w.heap.size + 1, 0, none⟩ = some (.int .i64 k) ∧ w9.cell? ⟨w.heap.size + 1, 1, none⟩ = some (.int .i64 m) ∧ w9.cell? ⟨w.heap.size + 1, 2, none⟩ = some (.string s))) := fun w8 a8 c8 hq => by
        obtain ⟨v', ads', us', bs', hI⟩ := HI7.out
        have h0 := put_is p5 ((c : Int) + 1) F nb2 M v' ads' us' bs' (by omega) (by omega) ⟨k, m, s⟩ HFX.out l8 HLM.out HRS.out a8 c8 w8 (by rw [HLN.out]; exact hq.1) hq.2.2 (hI.next hq.2.1)
        rw [HLN.out] at h0
        exact h0.mono fun e w9 ⟨p9, q1, q2, q3⟩ => ⟨p9, q1, ⟨q2, (HOW.out.next hq.2.1).next q3⟩, ((HOW.out.next hq.2.1).next q3).r.cell rfl, ((HOW.out.next hq.2.1).next q3).r.cell rfl, ((HOW.out.next hq.2.1).next q3).r.fz, ((HOW.out.next hq.2.1).next q3).sv⟩
      go_wp2_with fail
      rw [HW7.out]
      go_region_held (fun (w' : World) => (w'.cell? ⟨w.heap.size, 0, none⟩ = some (.pointer (some ⟨p5, 0, none⟩)) ∧ w'.cell? ⟨w.heap.size, 1, none⟩ = some (.int .i64 ((c : Int) + 1)) ∧ w'.cell? ⟨w.heap.size + 1, 0, none⟩ = some (.int .i64 k) ∧ w'.cell? ⟨w.heap.size + 1, 1, none⟩ = some (.int .i64 m) ∧ w'.cell? ⟨w.heap.size + 1, 2, none⟩ = some (.string s))) (first | (with_reducible assumption) | (with_reducible exact HS0.out) | (with_reducible exact HSD1.out _) | (with_reducible exact HSD2.out _ _) | (with_reducible exact HSR.out _ _ _ (by with_reducible assumption)))
        (first | ((with_reducible refine Calls.mono HCC.out ?_); rintro e w8 ⟨a8, c8, rfl, HM8, hS8⟩) | ((with_reducible refine Calls.mono (HPU.out _ _ _ HM8.out) ?_); rintro e w9 ⟨p9, rfl, HM9, r0, r1, rf, hS9⟩))
      obtain ⟨WE, hWE⟩ : ∃ WE, (w9.setCell ⟨w.heap.size + 1 + 1, 0, none⟩ (.pointer (some ⟨p9, 0, none⟩))).setCell ⟨w.heap.size + 1 + 1, 1, none⟩ (.int .i64 (((c : Int) + 1))) = WE := ⟨_, rfl⟩
      have HRT : Hid ((loadVar 27 ⟨w.heap.size + 1 + 1, 0, none⟩).run Try.prog WE = .ok (.agg #[.pointer (some ⟨p9, 0, none⟩), .int .i64 (((c : Int) + 1))]) WE ∧ Below w.heap.size w WE) := HM9.out.2.ret _ _ hWE
      have HWE : Hid ((w9.setCell ⟨w.heap.size + 1 + 1, 0, none⟩ (.pointer (some ⟨p9, 0, none⟩))).setCell ⟨w.heap.size + 1 + 1, 1, none⟩ (.int .i64 (((c : Int) + 1))) = WE) := hWE
      have HIE : Hid (Ix WE (some ⟨p9, 0, none⟩) (upd F ⟨k, m, s⟩ l8) nb2 (M + 1)) := by
        refine HM9.out.1.quiet HM9.out.2.r (fun k hk => ?_)
        rw [← hWE]
        exact (heap_set _ _ _ hk).trans (heap_set _ _ _ hk)
      clear hWE
      go_wp2_with fail
      rw [show (32 * (nb : Int)) = (c : Int) by have := HWD.out; omega]
      rw [HWE.out]
      refine bodyPost_ret (end_cell rfl rfl HRT.out.1) rfl ?_
      exact ⟨_, rfl, by first | exact HIE.out | (rw [HNB2.out]; exact HIE.out) | (rw [HIF.out]; exact HIE.out), HRT.out.2⟩
    · subst ha0
      rw [HLL.out] at hLc
      have hSW : Sl iv 1 W7 (.slice (some ⟨b, o, none⟩) L cc) l := HSW
      have hT1 : Sl iv 1 W7 (.slice (some ⟨b, o, none⟩) i cc) (l.take (lo l n)) := by
        have := hSW.head i (by rw [HLL.out]; omega)
        rw [HLO.out]
        exact this
      have HT1 : Hid (Sl iv 1 W7 (.slice (some ⟨b, o, none⟩) i cc) (l.take (lo l n))) := hT1
      have hic : (i : Int) ≤ (cc : Int) := by omega
      have hiLi : (i : Int) ≤ (L : Int) := by omega
      have hjLi : (i : Int) ≤ (L : Int) := by omega
      have hjc : (i : Int) ≤ (cc : Int) := by omega
      by_cases hcj : cc = i
      · have hci : (cc : Int) = (i : Int) := by omega
        have HT3 : Hid (Sl iv 1 W7 (.slice (some ⟨b, o, none⟩) 0 0) (l.drop (lo l n))) := by
          show Sl _ _ _ _ _
          rw [List.drop_of_length_le (by rw [HLL.out, HLO.out]; omega)]
          exact ⟨_, 0, rfl, Rw.nil _ _ _ _, Nat.le_refl _, fun _ => rfl⟩
        obtain rfl : i = L := by omega
        obtain rfl : i = cc := by omega
        clear hSW hT1
        skip
        have HS0 : Hid ((W7.drew.cell? ⟨w.heap.size, 0, none⟩ = some (.pointer (some ⟨p5, 0, none⟩)) ∧ W7.drew.cell? ⟨w.heap.size, 1, none⟩ = some (.int .i64 ((c : Int) + 1)) ∧ W7.drew.cell? ⟨w.heap.size + 1, 0, none⟩ = some (.int .i64 k) ∧ W7.drew.cell? ⟨w.heap.size + 1, 1, none⟩ = some (.int .i64 m) ∧ W7.drew.cell? ⟨w.heap.size + 1, 2, none⟩ = some (.string s))) := (HO7.out).sv
        have HSA : Hid (∀ (W' : World) (o : Obj), (W'.cell? ⟨w.heap.size, 0, none⟩ = some (.pointer (some ⟨p5, 0, none⟩)) ∧ W'.cell? ⟨w.heap.size, 1, none⟩ = some (.int .i64 ((c : Int) + 1)) ∧ W'.cell? ⟨w.heap.size + 1, 0, none⟩ = some (.int .i64 k) ∧ W'.cell? ⟨w.heap.size + 1, 1, none⟩ = some (.int .i64 m) ∧ W'.cell? ⟨w.heap.size + 1, 2, none⟩ = some (.string s)) → ((W'.alloc o).cell? ⟨w.heap.size, 0, none⟩ = some (.pointer (some ⟨p5, 0, none⟩)) ∧ (W'.alloc o).cell? ⟨w.heap.size, 1, none⟩ = some (.int .i64 ((c : Int) + 1)) ∧ (W'.alloc o).cell? ⟨w.heap.size + 1, 0, none⟩ = some (.int .i64 k) ∧ (W'.alloc o).cell? ⟨w.heap.size + 1, 1, none⟩ = some (.int .i64 m) ∧ (W'.alloc o).cell? ⟨w.heap.size + 1, 2, none⟩ = some (.string s))) := fun W' o h => sv_alloc W' o h
        have HSD1 : Hid (∀ o : Obj, ((W7.alloc o).drew.cell? ⟨w.heap.size, 0, none⟩ = some (.pointer (some ⟨p5, 0, none⟩)) ∧ (W7.alloc o).drew.cell? ⟨w.heap.size, 1, none⟩ = some (.int .i64 ((c : Int) + 1)) ∧ (W7.alloc o).drew.cell? ⟨w.heap.size + 1, 0, none⟩ = some (.int .i64 k) ∧ (W7.alloc o).drew.cell? ⟨w.heap.size + 1, 1, none⟩ = some (.int .i64 m) ∧ (W7.alloc o).drew.cell? ⟨w.heap.size + 1, 2, none⟩ = some (.string s))) := fun o => sv_alloc W7 o (HO7.out).sv
        have HSD2 : Hid (∀ o o' : Obj, (((W7.alloc o).alloc o').drew.cell? ⟨w.heap.size, 0, none⟩ = some (.pointer (some ⟨p5, 0, none⟩)) ∧ ((W7.alloc o).alloc o').drew.cell? ⟨w.heap.size, 1, none⟩ = some (.int .i64 ((c : Int) + 1)) ∧ ((W7.alloc o).alloc o').drew.cell? ⟨w.heap.size + 1, 0, none⟩ = some (.int .i64 k) ∧ ((W7.alloc o).alloc o').drew.cell? ⟨w.heap.size + 1, 1, none⟩ = some (.int .i64 m) ∧ ((W7.alloc o).alloc o').drew.cell? ⟨w.heap.size + 1, 2, none⟩ = some (.string s))) := fun o o' => sv_alloc _ o' (sv_alloc W7 o (HO7.out).sv)
        have HSR : Hid (∀ (W' : World) (a b : Value), (W'.cell? ⟨w.heap.size, 0, none⟩ = some (.pointer (some ⟨p5, 0, none⟩)) ∧ W'.cell? ⟨w.heap.size, 1, none⟩ = some (.int .i64 ((c : Int) + 1)) ∧ W'.cell? ⟨w.heap.size + 1, 0, none⟩ = some (.int .i64 k) ∧ W'.cell? ⟨w.heap.size + 1, 1, none⟩ = some (.int .i64 m) ∧ W'.cell? ⟨w.heap.size + 1, 2, none⟩ = some (.string s)) → (((W'.setCell ⟨w.heap.size + 1 + 1, 0, none⟩ a).setCell ⟨w.heap.size + 1 + 1, 1, none⟩ b).cell? ⟨w.heap.size, 0, none⟩ = some (.pointer (some ⟨p5, 0, none⟩)) ∧ ((W'.setCell ⟨w.heap.size + 1 + 1, 0, none⟩ a).setCell ⟨w.heap.size + 1 + 1, 1, none⟩ b).cell? ⟨w.heap.size, 1, none⟩ = some (.int .i64 ((c : Int) + 1)) ∧ ((W'.setCell ⟨w.heap.size + 1 + 1, 0, none⟩ a).setCell ⟨w.heap.size + 1 + 1, 1, none⟩ b).cell? ⟨w.heap.size + 1, 0, none⟩ = some (.int .i64 k) ∧ ((W'.setCell ⟨w.heap.size + 1 + 1, 0, none⟩ a).setCell ⟨w.heap.size + 1 + 1, 1, none⟩ b).cell? ⟨w.heap.size + 1, 1, none⟩ = some (.int .i64 m) ∧ ((W'.setCell ⟨w.heap.size + 1 + 1, 0, none⟩ a).setCell ⟨w.heap.size + 1 + 1, 1, none⟩ b).cell? ⟨w.heap.size + 1, 2, none⟩ = some (.string s))) := fun W' a b h => sv_ret W' a b h
        have HOW : Hid (Own3 w W7 (some ⟨p5, 0, none⟩) ((c : Int) + 1) k m s) := HO7.out
        have HCC : Hid (Calls Try.prog 24 #[.slice (some ⟨W7.heap.size + 1, 0, none⟩) 3 3] ((W7.alloc (.cells #[.int .i64 n] 3)).alloc (.cells #[.slice (some ⟨b, o, none⟩) i i, .slice (some ⟨W7.heap.size, 0, none⟩) 1 1, .slice (some ⟨b, o, none⟩) 0 0] 36)).drew fun e w8 => ∃ a8 c8, e = .returned (.slice a8 L8 c8) ∧ Hid (Sl iv 1 w8 (.slice a8 L8 c8) l8 ∧ Below W7.heap.size W7 w8 ∧ NT w8 a8) ∧ (w8.cell? ⟨w.heap.size, 0, none⟩ = some (.pointer (some ⟨p5, 0, none⟩)) ∧ w8.cell? ⟨w.heap.size, 1, none⟩ = some (.int .i64 ((c : Int) + 1)) ∧ w8.cell? ⟨w.heap.size + 1, 0, none⟩ = some (.int .i64 k) ∧ w8.cell? ⟨w.heap.size + 1, 1, none⟩ = some (.int .i64 m) ∧ w8.cell? ⟨w.heap.size + 1, 2, none⟩ = some (.string s))) := by
          have h0 := concat_ins W7 n l HRL.out.2 (.slice (some ⟨b, o, none⟩) i i) (.slice (some ⟨b, o, none⟩) 0 0) (HT1.out) (HT3.out)
          rw [HL8.out, HLN.out] at h0
          exact h0.mono fun e w8 ⟨a8, c8, q1, q2, q3, q4⟩ => ⟨a8, c8, q1, ⟨q2, q3, q4⟩, (HOW.out.next q3).sv⟩
        have HPU : Hid (∀ w8 a8 c8, Sl iv 1 w8 (.slice a8 L8 c8) l8 ∧ Below W7.heap.size W7 w8 ∧ NT w8 a8 → Calls Try.prog 23 #[.agg #[.pointer (some ⟨p5, 0, none⟩), .int .i64 ((c : Int) + 1)], .agg #[.int .i64 k, .int .i64 m, .string s, .slice a8 L8 c8]] w8 fun e w9 => ∃ p9, e = .returned (.agg #[.pointer (some ⟨p9, 0, none⟩), .int .i64 ((c : Int) + 1)]) ∧ Hid (Ix w9 (some ⟨p9, 0, none⟩) (upd F ⟨k, m, s⟩ l8) nb2 (M + 1) ∧ Own3 w w9 (some ⟨p5, 0, none⟩) ((c : Int) + 1) k m s) ∧ w9.cell? ⟨w.heap.size + 1 + 1, 0, none⟩ = some (.pointer none) ∧ w9.cell? ⟨w.heap.size + 1 + 1, 1, none⟩ = some (.int .i64 0) ∧ (∀ j, w9.frozen? ⟨w.heap.size + 1 + 1, j, none⟩ = false) ∧ (w9.cell? ⟨w.heap.size, 0, none⟩ = some (.pointer (some ⟨p5, 0, none⟩)) ∧ w9.cell? ⟨w.heap.size, 1, none⟩ = some (.int .i64 ((c : Int) + 1)) ∧ w9.cell? ⟨w.heap.size + 1, 0, none⟩ = some (.int .i64 k) ∧ w9.cell? ⟨w.heap.size + 1, 1, none⟩ = some (.int .i64 m) ∧ w9.cell? ⟨w.heap.size + 1, 2, none⟩ = some (.string s))) := fun w8 a8 c8 hq => by
          obtain ⟨v', ads', us', bs', hI⟩ := HI7.out
          have h0 := put_is p5 ((c : Int) + 1) F nb2 M v' ads' us' bs' (by omega) (by omega) ⟨k, m, s⟩ HFX.out l8 HLM.out HRS.out a8 c8 w8 (by rw [HLN.out]; exact hq.1) hq.2.2 (hI.next hq.2.1)
          rw [HLN.out] at h0
          exact h0.mono fun e w9 ⟨p9, q1, q2, q3⟩ => ⟨p9, q1, ⟨q2, (HOW.out.next hq.2.1).next q3⟩, ((HOW.out.next hq.2.1).next q3).r.cell rfl, ((HOW.out.next hq.2.1).next q3).r.cell rfl, ((HOW.out.next hq.2.1).next q3).r.fz, ((HOW.out.next hq.2.1).next q3).sv⟩
        go_wp2_with fail
        rw [HW7.out]
        go_region_held (fun (w' : World) => (w'.cell? ⟨w.heap.size, 0, none⟩ = some (.pointer (some ⟨p5, 0, none⟩)) ∧ w'.cell? ⟨w.heap.size, 1, none⟩ = some (.int .i64 ((c : Int) + 1)) ∧ w'.cell? ⟨w.heap.size + 1, 0, none⟩ = some (.int .i64 k) ∧ w'.cell? ⟨w.heap.size + 1, 1, none⟩ = some (.int .i64 m) ∧ w'.cell? ⟨w.heap.size + 1, 2, none⟩ = some (.string s))) (first | (with_reducible assumption) | (with_reducible exact HS0.out) | (with_reducible exact HSD1.out _) | (with_reducible exact HSD2.out _ _) | (with_reducible exact HSR.out _ _ _ (by with_reducible assumption)))
          (first | ((with_reducible refine Calls.mono HCC.out ?_); rintro e w8 ⟨a8, c8, rfl, HM8, hS8⟩) | ((with_reducible refine Calls.mono (HPU.out _ _ _ HM8.out) ?_); rintro e w9 ⟨p9, rfl, HM9, r0, r1, rf, hS9⟩))
        obtain ⟨WE, hWE⟩ : ∃ WE, (w9.setCell ⟨w.heap.size + 1 + 1, 0, none⟩ (.pointer (some ⟨p9, 0, none⟩))).setCell ⟨w.heap.size + 1 + 1, 1, none⟩ (.int .i64 (((c : Int) + 1))) = WE := ⟨_, rfl⟩
        have HRT : Hid ((loadVar 27 ⟨w.heap.size + 1 + 1, 0, none⟩).run Try.prog WE = .ok (.agg #[.pointer (some ⟨p9, 0, none⟩), .int .i64 (((c : Int) + 1))]) WE ∧ Below w.heap.size w WE) := HM9.out.2.ret _ _ hWE
        have HWE : Hid ((w9.setCell ⟨w.heap.size + 1 + 1, 0, none⟩ (.pointer (some ⟨p9, 0, none⟩))).setCell ⟨w.heap.size + 1 + 1, 1, none⟩ (.int .i64 (((c : Int) + 1))) = WE) := hWE
        have HIE : Hid (Ix WE (some ⟨p9, 0, none⟩) (upd F ⟨k, m, s⟩ l8) nb2 (M + 1)) := by
          refine HM9.out.1.quiet HM9.out.2.r (fun k hk => ?_)
          rw [← hWE]
          exact (heap_set _ _ _ hk).trans (heap_set _ _ _ hk)
        clear hWE
        go_wp2_with fail
        rw [show (32 * (nb : Int)) = (c : Int) by have := HWD.out; omega]
        rw [HWE.out]
        refine bodyPost_ret (end_cell rfl rfl HRT.out.1) rfl ?_
        exact ⟨_, rfl, by first | exact HIE.out | (rw [HNB2.out]; exact HIE.out) | (rw [HIF.out]; exact HIE.out), HRT.out.2⟩
      · have hcj' : ¬ (cc : Int) = (i : Int) := by omega
        have HT3 : Hid (Sl iv 1 W7 (.slice (some ⟨b, o + i, none⟩) (L - i) (cc - i)) (l.drop (lo l n))) := by
          have := hSW.tail i (by rw [HLL.out]; omega)
          rw [Nat.mul_one, HLL.out] at this
          show Sl _ _ _ _ _
          rw [HLO.out]
          exact this
        clear hSW hT1
        skip
        have HS0 : Hid ((W7.drew.cell? ⟨w.heap.size, 0, none⟩ = some (.pointer (some ⟨p5, 0, none⟩)) ∧ W7.drew.cell? ⟨w.heap.size, 1, none⟩ = some (.int .i64 ((c : Int) + 1)) ∧ W7.drew.cell? ⟨w.heap.size + 1, 0, none⟩ = some (.int .i64 k) ∧ W7.drew.cell? ⟨w.heap.size + 1, 1, none⟩ = some (.int .i64 m) ∧ W7.drew.cell? ⟨w.heap.size + 1, 2, none⟩ = some (.string s))) := (HO7.out).sv
        have HSA : Hid (∀ (W' : World) (o : Obj), (W'.cell? ⟨w.heap.size, 0, none⟩ = some (.pointer (some ⟨p5, 0, none⟩)) ∧ W'.cell? ⟨w.heap.size, 1, none⟩ = some (.int .i64 ((c : Int) + 1)) ∧ W'.cell? ⟨w.heap.size + 1, 0, none⟩ = some (.int .i64 k) ∧ W'.cell? ⟨w.heap.size + 1, 1, none⟩ = some (.int .i64 m) ∧ W'.cell? ⟨w.heap.size + 1, 2, none⟩ = some (.string s)) → ((W'.alloc o).cell? ⟨w.heap.size, 0, none⟩ = some (.pointer (some ⟨p5, 0, none⟩)) ∧ (W'.alloc o).cell? ⟨w.heap.size, 1, none⟩ = some (.int .i64 ((c : Int) + 1)) ∧ (W'.alloc o).cell? ⟨w.heap.size + 1, 0, none⟩ = some (.int .i64 k) ∧ (W'.alloc o).cell? ⟨w.heap.size + 1, 1, none⟩ = some (.int .i64 m) ∧ (W'.alloc o).cell? ⟨w.heap.size + 1, 2, none⟩ = some (.string s))) := fun W' o h => sv_alloc W' o h
        have HSD1 : Hid (∀ o : Obj, ((W7.alloc o).drew.cell? ⟨w.heap.size, 0, none⟩ = some (.pointer (some ⟨p5, 0, none⟩)) ∧ (W7.alloc o).drew.cell? ⟨w.heap.size, 1, none⟩ = some (.int .i64 ((c : Int) + 1)) ∧ (W7.alloc o).drew.cell? ⟨w.heap.size + 1, 0, none⟩ = some (.int .i64 k) ∧ (W7.alloc o).drew.cell? ⟨w.heap.size + 1, 1, none⟩ = some (.int .i64 m) ∧ (W7.alloc o).drew.cell? ⟨w.heap.size + 1, 2, none⟩ = some (.string s))) := fun o => sv_alloc W7 o (HO7.out).sv
        have HSD2 : Hid (∀ o o' : Obj, (((W7.alloc o).alloc o').drew.cell? ⟨w.heap.size, 0, none⟩ = some (.pointer (some ⟨p5, 0, none⟩)) ∧ ((W7.alloc o).alloc o').drew.cell? ⟨w.heap.size, 1, none⟩ = some (.int .i64 ((c : Int) + 1)) ∧ ((W7.alloc o).alloc o').drew.cell? ⟨w.heap.size + 1, 0, none⟩ = some (.int .i64 k) ∧ ((W7.alloc o).alloc o').drew.cell? ⟨w.heap.size + 1, 1, none⟩ = some (.int .i64 m) ∧ ((W7.alloc o).alloc o').drew.cell? ⟨w.heap.size + 1, 2, none⟩ = some (.string s))) := fun o o' => sv_alloc _ o' (sv_alloc W7 o (HO7.out).sv)
        have HSR : Hid (∀ (W' : World) (a b : Value), (W'.cell? ⟨w.heap.size, 0, none⟩ = some (.pointer (some ⟨p5, 0, none⟩)) ∧ W'.cell? ⟨w.heap.size, 1, none⟩ = some (.int .i64 ((c : Int) + 1)) ∧ W'.cell? ⟨w.heap.size + 1, 0, none⟩ = some (.int .i64 k) ∧ W'.cell? ⟨w.heap.size + 1, 1, none⟩ = some (.int .i64 m) ∧ W'.cell? ⟨w.heap.size + 1, 2, none⟩ = some (.string s)) → (((W'.setCell ⟨w.heap.size + 1 + 1, 0, none⟩ a).setCell ⟨w.heap.size + 1 + 1, 1, none⟩ b).cell? ⟨w.heap.size, 0, none⟩ = some (.pointer (some ⟨p5, 0, none⟩)) ∧ ((W'.setCell ⟨w.heap.size + 1 + 1, 0, none⟩ a).setCell ⟨w.heap.size + 1 + 1, 1, none⟩ b).cell? ⟨w.heap.size, 1, none⟩ = some (.int .i64 ((c : Int) + 1)) ∧ ((W'.setCell ⟨w.heap.size + 1 + 1, 0, none⟩ a).setCell ⟨w.heap.size + 1 + 1, 1, none⟩ b).cell? ⟨w.heap.size + 1, 0, none⟩ = some (.int .i64 k) ∧ ((W'.setCell ⟨w.heap.size + 1 + 1, 0, none⟩ a).setCell ⟨w.heap.size + 1 + 1, 1, none⟩ b).cell? ⟨w.heap.size + 1, 1, none⟩ = some (.int .i64 m) ∧ ((W'.setCell ⟨w.heap.size + 1 + 1, 0, none⟩ a).setCell ⟨w.heap.size + 1 + 1, 1, none⟩ b).cell? ⟨w.heap.size + 1, 2, none⟩ = some (.string s))) := fun W' a b h => sv_ret W' a b h
        have HOW : Hid (Own3 w W7 (some ⟨p5, 0, none⟩) ((c : Int) + 1) k m s) := HO7.out
        have HCC : Hid (Calls Try.prog 24 #[.slice (some ⟨W7.heap.size + 1, 0, none⟩) 3 3] ((W7.alloc (.cells #[.int .i64 n] 3)).alloc (.cells #[.slice (some ⟨b, o, none⟩) i cc, .slice (some ⟨W7.heap.size, 0, none⟩) 1 1, .slice (some ⟨b, o + i, none⟩) (L - i) (cc - i)] 36)).drew fun e w8 => ∃ a8 c8, e = .returned (.slice a8 L8 c8) ∧ Hid (Sl iv 1 w8 (.slice a8 L8 c8) l8 ∧ Below W7.heap.size W7 w8 ∧ NT w8 a8) ∧ (w8.cell? ⟨w.heap.size, 0, none⟩ = some (.pointer (some ⟨p5, 0, none⟩)) ∧ w8.cell? ⟨w.heap.size, 1, none⟩ = some (.int .i64 ((c : Int) + 1)) ∧ w8.cell? ⟨w.heap.size + 1, 0, none⟩ = some (.int .i64 k) ∧ w8.cell? ⟨w.heap.size + 1, 1, none⟩ = some (.int .i64 m) ∧ w8.cell? ⟨w.heap.size + 1, 2, none⟩ = some (.string s))) := by
          have h0 := concat_ins W7 n l HRL.out.2 (.slice (some ⟨b, o, none⟩) i cc) (.slice (some ⟨b, o + i, none⟩) (L - i) (cc - i)) (HT1.out) (HT3.out)
          rw [HL8.out, HLN.out] at h0
          exact h0.mono fun e w8 ⟨a8, c8, q1, q2, q3, q4⟩ => ⟨a8, c8, q1, ⟨q2, q3, q4⟩, (HOW.out.next q3).sv⟩
        have HPU : Hid (∀ w8 a8 c8, Sl iv 1 w8 (.slice a8 L8 c8) l8 ∧ Below W7.heap.size W7 w8 ∧ NT w8 a8 → Calls Try.prog 23 #[.agg #[.pointer (some ⟨p5, 0, none⟩), .int .i64 ((c : Int) + 1)], .agg #[.int .i64 k, .int .i64 m, .string s, .slice a8 L8 c8]] w8 fun e w9 => ∃ p9, e = .returned (.agg #[.pointer (some ⟨p9, 0, none⟩), .int .i64 ((c : Int) + 1)]) ∧ Hid (Ix w9 (some ⟨p9, 0, none⟩) (upd F ⟨k, m, s⟩ l8) nb2 (M + 1) ∧ Own3 w w9 (some ⟨p5, 0, none⟩) ((c : Int) + 1) k m s) ∧ w9.cell? ⟨w.heap.size + 1 + 1, 0, none⟩ = some (.pointer none) ∧ w9.cell? ⟨w.heap.size + 1 + 1, 1, none⟩ = some (.int .i64 0) ∧ (∀ j, w9.frozen? ⟨w.heap.size + 1 + 1, j, none⟩ = false) ∧ (w9.cell? ⟨w.heap.size, 0, none⟩ = some (.pointer (some ⟨p5, 0, none⟩)) ∧ w9.cell? ⟨w.heap.size, 1, none⟩ = some (.int .i64 ((c : Int) + 1)) ∧ w9.cell? ⟨w.heap.size + 1, 0, none⟩ = some (.int .i64 k) ∧ w9.cell? ⟨w.heap.size + 1, 1, none⟩ = some (.int .i64 m) ∧ w9.cell? ⟨w.heap.size + 1, 2, none⟩ = some (.string s))) := fun w8 a8 c8 hq => by
          obtain ⟨v', ads', us', bs', hI⟩ := HI7.out
          have h0 := put_is p5 ((c : Int) + 1) F nb2 M v' ads' us' bs' (by omega) (by omega) ⟨k, m, s⟩ HFX.out l8 HLM.out HRS.out a8 c8 w8 (by rw [HLN.out]; exact hq.1) hq.2.2 (hI.next hq.2.1)
          rw [HLN.out] at h0
          exact h0.mono fun e w9 ⟨p9, q1, q2, q3⟩ => ⟨p9, q1, ⟨q2, (HOW.out.next hq.2.1).next q3⟩, ((HOW.out.next hq.2.1).next q3).r.cell rfl, ((HOW.out.next hq.2.1).next q3).r.cell rfl, ((HOW.out.next hq.2.1).next q3).r.fz, ((HOW.out.next hq.2.1).next q3).sv⟩
        go_wp2_with fail
        rw [HW7.out]
        go_region_held (fun (w' : World) => (w'.cell? ⟨w.heap.size, 0, none⟩ = some (.pointer (some ⟨p5, 0, none⟩)) ∧ w'.cell? ⟨w.heap.size, 1, none⟩ = some (.int .i64 ((c : Int) + 1)) ∧ w'.cell? ⟨w.heap.size + 1, 0, none⟩ = some (.int .i64 k) ∧ w'.cell? ⟨w.heap.size + 1, 1, none⟩ = some (.int .i64 m) ∧ w'.cell? ⟨w.heap.size + 1, 2, none⟩ = some (.string s))) (first | (with_reducible assumption) | (with_reducible exact HS0.out) | (with_reducible exact HSD1.out _) | (with_reducible exact HSD2.out _ _) | (with_reducible exact HSR.out _ _ _ (by with_reducible assumption)))
          (first | ((with_reducible refine Calls.mono HCC.out ?_); rintro e w8 ⟨a8, c8, rfl, HM8, hS8⟩) | ((with_reducible refine Calls.mono (HPU.out _ _ _ HM8.out) ?_); rintro e w9 ⟨p9, rfl, HM9, r0, r1, rf, hS9⟩))
        obtain ⟨WE, hWE⟩ : ∃ WE, (w9.setCell ⟨w.heap.size + 1 + 1, 0, none⟩ (.pointer (some ⟨p9, 0, none⟩))).setCell ⟨w.heap.size + 1 + 1, 1, none⟩ (.int .i64 (((c : Int) + 1))) = WE := ⟨_, rfl⟩
        have HRT : Hid ((loadVar 27 ⟨w.heap.size + 1 + 1, 0, none⟩).run Try.prog WE = .ok (.agg #[.pointer (some ⟨p9, 0, none⟩), .int .i64 (((c : Int) + 1))]) WE ∧ Below w.heap.size w WE) := HM9.out.2.ret _ _ hWE
        have HWE : Hid ((w9.setCell ⟨w.heap.size + 1 + 1, 0, none⟩ (.pointer (some ⟨p9, 0, none⟩))).setCell ⟨w.heap.size + 1 + 1, 1, none⟩ (.int .i64 (((c : Int) + 1))) = WE) := hWE
        have HIE : Hid (Ix WE (some ⟨p9, 0, none⟩) (upd F ⟨k, m, s⟩ l8) nb2 (M + 1)) := by
          refine HM9.out.1.quiet HM9.out.2.r (fun k hk => ?_)
          rw [← hWE]
          exact (heap_set _ _ _ hk).trans (heap_set _ _ _ hk)
        clear hWE
        go_wp2_with fail
        rw [show (32 * (nb : Int)) = (c : Int) by have := HWD.out; omega]
        rw [HWE.out]
        refine bodyPost_ret (end_cell rfl rfl HRT.out.1) rfl ?_
        exact ⟨_, rfl, by first | exact HIE.out | (rw [HNB2.out]; exact HIE.out) | (rw [HIF.out]; exact HIE.out), HRT.out.2⟩
  · have hq : ((c : Int) == IntKind.i64.wrap (4 * (8 * (nb : Int)))) = false := by rw [HWZ.out]; simp; omega
    have HIF : Hid ((if c = 32 * nb then max 1 (2 * nb) else nb) = nb) := if_neg hwd
    obtain ⟨g, hg⟩ : ∃ g, p = some ⟨g, 0, none⟩ := by
      rcases HIX.out with ⟨_, e, _⟩ | ⟨g, _, _, _, _, e, _⟩
      · omega
      · exact ⟨g, e⟩
    subst hg
    have x0 := HO4.out.x.cell (i := 0) rfl
    have x1 := HO4.out.x.cell (i := 1) rfl
    have xf := HO4.out.x.fz
    obtain ⟨W7, hW7⟩ : ∃ W7, w4.setCell ⟨w.heap.size, 1, none⟩ (.int .i64 ((c : Int) + 1)) = W7 := ⟨_, rfl⟩
    have HO7 : Hid (Own3 w W7 (some ⟨g, 0, none⟩) ((c : Int) + 1) k m s) := by
      show Own3 _ _ _ _ _ _ _
      rw [← hW7]
      exact HO4.out.setc ((c : Int) + 1)
    have HI7 : Hid (∃ v' ads' us' bs', IxAt W7 g F nb M v' ads' us' bs') := by
      rcases HIX.out.next HO7.out.b with ⟨e, _⟩ | ⟨g', v', ads', us', bs', e, hh⟩
      · cases e
      · cases e; exact ⟨v', ads', us', bs', hh⟩
    have HFR : Hid (∀ k', k' ≠ w.heap.size → W7.heap[k']? = w4.heap[k']?) := fun k' hk => by
      rw [← hW7]
      exact heap_set _ _ _ hk
    have HSW : Sl iv 1 W7 (.slice a L cc) l := HSL4.out.quiet HNT4.out HO4.out.x HFR.out
    have HW7 : Hid (w4.setCell ⟨w.heap.size, 1, none⟩ (.int .i64 ((c : Int) + 1)) = W7) := hW7
    clear hW7 HO4 HSL4
    rcases hforms with ⟨hl0, ha0, hcc0⟩ | ⟨hl0, b, o, ha0, hLc⟩
    · subst ha0
      subst hcc0
      obtain rfl : L = 0 := by rw [← HLL.out, hl0]; rfl
      obtain rfl : i = 0 := by omega
      skip
      have HS0 : Hid ((W7.drew.cell? ⟨w.heap.size, 0, none⟩ = some (.pointer (some ⟨g, 0, none⟩)) ∧ W7.drew.cell? ⟨w.heap.size, 1, none⟩ = some (.int .i64 ((c : Int) + 1)) ∧ W7.drew.cell? ⟨w.heap.size + 1, 0, none⟩ = some (.int .i64 k) ∧ W7.drew.cell? ⟨w.heap.size + 1, 1, none⟩ = some (.int .i64 m) ∧ W7.drew.cell? ⟨w.heap.size + 1, 2, none⟩ = some (.string s))) := (HO7.out).sv
      have HSA : Hid (∀ (W' : World) (o : Obj), (W'.cell? ⟨w.heap.size, 0, none⟩ = some (.pointer (some ⟨g, 0, none⟩)) ∧ W'.cell? ⟨w.heap.size, 1, none⟩ = some (.int .i64 ((c : Int) + 1)) ∧ W'.cell? ⟨w.heap.size + 1, 0, none⟩ = some (.int .i64 k) ∧ W'.cell? ⟨w.heap.size + 1, 1, none⟩ = some (.int .i64 m) ∧ W'.cell? ⟨w.heap.size + 1, 2, none⟩ = some (.string s)) → ((W'.alloc o).cell? ⟨w.heap.size, 0, none⟩ = some (.pointer (some ⟨g, 0, none⟩)) ∧ (W'.alloc o).cell? ⟨w.heap.size, 1, none⟩ = some (.int .i64 ((c : Int) + 1)) ∧ (W'.alloc o).cell? ⟨w.heap.size + 1, 0, none⟩ = some (.int .i64 k) ∧ (W'.alloc o).cell? ⟨w.heap.size + 1, 1, none⟩ = some (.int .i64 m) ∧ (W'.alloc o).cell? ⟨w.heap.size + 1, 2, none⟩ = some (.string s))) := fun W' o h => sv_alloc W' o h
      have HSD1 : Hid (∀ o : Obj, ((W7.alloc o).drew.cell? ⟨w.heap.size, 0, none⟩ = some (.pointer (some ⟨g, 0, none⟩)) ∧ (W7.alloc o).drew.cell? ⟨w.heap.size, 1, none⟩ = some (.int .i64 ((c : Int) + 1)) ∧ (W7.alloc o).drew.cell? ⟨w.heap.size + 1, 0, none⟩ = some (.int .i64 k) ∧ (W7.alloc o).drew.cell? ⟨w.heap.size + 1, 1, none⟩ = some (.int .i64 m) ∧ (W7.alloc o).drew.cell? ⟨w.heap.size + 1, 2, none⟩ = some (.string s))) := fun o => sv_alloc W7 o (HO7.out).sv
      have HSD2 : Hid (∀ o o' : Obj, (((W7.alloc o).alloc o').drew.cell? ⟨w.heap.size, 0, none⟩ = some (.pointer (some ⟨g, 0, none⟩)) ∧ ((W7.alloc o).alloc o').drew.cell? ⟨w.heap.size, 1, none⟩ = some (.int .i64 ((c : Int) + 1)) ∧ ((W7.alloc o).alloc o').drew.cell? ⟨w.heap.size + 1, 0, none⟩ = some (.int .i64 k) ∧ ((W7.alloc o).alloc o').drew.cell? ⟨w.heap.size + 1, 1, none⟩ = some (.int .i64 m) ∧ ((W7.alloc o).alloc o').drew.cell? ⟨w.heap.size + 1, 2, none⟩ = some (.string s))) := fun o o' => sv_alloc _ o' (sv_alloc W7 o (HO7.out).sv)
      have HSR : Hid (∀ (W' : World) (a b : Value), (W'.cell? ⟨w.heap.size, 0, none⟩ = some (.pointer (some ⟨g, 0, none⟩)) ∧ W'.cell? ⟨w.heap.size, 1, none⟩ = some (.int .i64 ((c : Int) + 1)) ∧ W'.cell? ⟨w.heap.size + 1, 0, none⟩ = some (.int .i64 k) ∧ W'.cell? ⟨w.heap.size + 1, 1, none⟩ = some (.int .i64 m) ∧ W'.cell? ⟨w.heap.size + 1, 2, none⟩ = some (.string s)) → (((W'.setCell ⟨w.heap.size + 1 + 1, 0, none⟩ a).setCell ⟨w.heap.size + 1 + 1, 1, none⟩ b).cell? ⟨w.heap.size, 0, none⟩ = some (.pointer (some ⟨g, 0, none⟩)) ∧ ((W'.setCell ⟨w.heap.size + 1 + 1, 0, none⟩ a).setCell ⟨w.heap.size + 1 + 1, 1, none⟩ b).cell? ⟨w.heap.size, 1, none⟩ = some (.int .i64 ((c : Int) + 1)) ∧ ((W'.setCell ⟨w.heap.size + 1 + 1, 0, none⟩ a).setCell ⟨w.heap.size + 1 + 1, 1, none⟩ b).cell? ⟨w.heap.size + 1, 0, none⟩ = some (.int .i64 k) ∧ ((W'.setCell ⟨w.heap.size + 1 + 1, 0, none⟩ a).setCell ⟨w.heap.size + 1 + 1, 1, none⟩ b).cell? ⟨w.heap.size + 1, 1, none⟩ = some (.int .i64 m) ∧ ((W'.setCell ⟨w.heap.size + 1 + 1, 0, none⟩ a).setCell ⟨w.heap.size + 1 + 1, 1, none⟩ b).cell? ⟨w.heap.size + 1, 2, none⟩ = some (.string s))) := fun W' a b h => sv_ret W' a b h
      have HOW : Hid (Own3 w W7 (some ⟨g, 0, none⟩) ((c : Int) + 1) k m s) := HO7.out
      have HCC : Hid (Calls Try.prog 24 #[.slice (some ⟨W7.heap.size + 1, 0, none⟩) 3 3] ((W7.alloc (.cells #[.int .i64 n] 3)).alloc (.cells #[.slice none 0 0, .slice (some ⟨W7.heap.size, 0, none⟩) 1 1, .slice none 0 0] 36)).drew fun e w8 => ∃ a8 c8, e = .returned (.slice a8 L8 c8) ∧ Hid (Sl iv 1 w8 (.slice a8 L8 c8) l8 ∧ Below W7.heap.size W7 w8 ∧ NT w8 a8) ∧ (w8.cell? ⟨w.heap.size, 0, none⟩ = some (.pointer (some ⟨g, 0, none⟩)) ∧ w8.cell? ⟨w.heap.size, 1, none⟩ = some (.int .i64 ((c : Int) + 1)) ∧ w8.cell? ⟨w.heap.size + 1, 0, none⟩ = some (.int .i64 k) ∧ w8.cell? ⟨w.heap.size + 1, 1, none⟩ = some (.int .i64 m) ∧ w8.cell? ⟨w.heap.size + 1, 2, none⟩ = some (.string s))) := by
        have h0 := concat_ins W7 n l HRL.out.2 (.slice none 0 0) (.slice none 0 0) (by rw [hl0]; simp only [List.take_nil]; exact Sl.nil _ _ _) (by rw [hl0]; simp only [List.drop_nil]; exact Sl.nil _ _ _)
        rw [HL8.out, HLN.out] at h0
        exact h0.mono fun e w8 ⟨a8, c8, q1, q2, q3, q4⟩ => ⟨a8, c8, q1, ⟨q2, q3, q4⟩, (HOW.out.next q3).sv⟩
      have HPU : Hid (∀ w8 a8 c8, Sl iv 1 w8 (.slice a8 L8 c8) l8 ∧ Below W7.heap.size W7 w8 ∧ NT w8 a8 → Calls Try.prog 23 #[.agg #[.pointer (some ⟨g, 0, none⟩), .int .i64 ((c : Int) + 1)], .agg #[.int .i64 k, .int .i64 m, .string s, .slice a8 L8 c8]] w8 fun e w9 => ∃ p9, e = .returned (.agg #[.pointer (some ⟨p9, 0, none⟩), .int .i64 ((c : Int) + 1)]) ∧ Hid (Ix w9 (some ⟨p9, 0, none⟩) (upd F ⟨k, m, s⟩ l8) nb (M + 1) ∧ Own3 w w9 (some ⟨g, 0, none⟩) ((c : Int) + 1) k m s) ∧ w9.cell? ⟨w.heap.size + 1 + 1, 0, none⟩ = some (.pointer none) ∧ w9.cell? ⟨w.heap.size + 1 + 1, 1, none⟩ = some (.int .i64 0) ∧ (∀ j, w9.frozen? ⟨w.heap.size + 1 + 1, j, none⟩ = false) ∧ (w9.cell? ⟨w.heap.size, 0, none⟩ = some (.pointer (some ⟨g, 0, none⟩)) ∧ w9.cell? ⟨w.heap.size, 1, none⟩ = some (.int .i64 ((c : Int) + 1)) ∧ w9.cell? ⟨w.heap.size + 1, 0, none⟩ = some (.int .i64 k) ∧ w9.cell? ⟨w.heap.size + 1, 1, none⟩ = some (.int .i64 m) ∧ w9.cell? ⟨w.heap.size + 1, 2, none⟩ = some (.string s))) := fun w8 a8 c8 hq => by
        obtain ⟨v', ads', us', bs', hI⟩ := HI7.out
        have h0 := put_is g ((c : Int) + 1) F nb M v' ads' us' bs' (by omega) (by omega) ⟨k, m, s⟩ HFX.out l8 HLM.out HRS.out a8 c8 w8 (by rw [HLN.out]; exact hq.1) hq.2.2 (hI.next hq.2.1)
        rw [HLN.out] at h0
        exact h0.mono fun e w9 ⟨p9, q1, q2, q3⟩ => ⟨p9, q1, ⟨q2, (HOW.out.next hq.2.1).next q3⟩, ((HOW.out.next hq.2.1).next q3).r.cell rfl, ((HOW.out.next hq.2.1).next q3).r.cell rfl, ((HOW.out.next hq.2.1).next q3).r.fz, ((HOW.out.next hq.2.1).next q3).sv⟩
      go_wp2_with fail
      rw [HW7.out]
      go_region_held (fun (w' : World) => (w'.cell? ⟨w.heap.size, 0, none⟩ = some (.pointer (some ⟨g, 0, none⟩)) ∧ w'.cell? ⟨w.heap.size, 1, none⟩ = some (.int .i64 ((c : Int) + 1)) ∧ w'.cell? ⟨w.heap.size + 1, 0, none⟩ = some (.int .i64 k) ∧ w'.cell? ⟨w.heap.size + 1, 1, none⟩ = some (.int .i64 m) ∧ w'.cell? ⟨w.heap.size + 1, 2, none⟩ = some (.string s))) (first | (with_reducible assumption) | (with_reducible exact HS0.out) | (with_reducible exact HSD1.out _) | (with_reducible exact HSD2.out _ _) | (with_reducible exact HSR.out _ _ _ (by with_reducible assumption)))
        (first | ((with_reducible refine Calls.mono HCC.out ?_); rintro e w8 ⟨a8, c8, rfl, HM8, hS8⟩) | ((with_reducible refine Calls.mono (HPU.out _ _ _ HM8.out) ?_); rintro e w9 ⟨p9, rfl, HM9, r0, r1, rf, hS9⟩))
      obtain ⟨WE, hWE⟩ : ∃ WE, (w9.setCell ⟨w.heap.size + 1 + 1, 0, none⟩ (.pointer (some ⟨p9, 0, none⟩))).setCell ⟨w.heap.size + 1 + 1, 1, none⟩ (.int .i64 (((c : Int) + 1))) = WE := ⟨_, rfl⟩
      have HRT : Hid ((loadVar 27 ⟨w.heap.size + 1 + 1, 0, none⟩).run Try.prog WE = .ok (.agg #[.pointer (some ⟨p9, 0, none⟩), .int .i64 (((c : Int) + 1))]) WE ∧ Below w.heap.size w WE) := HM9.out.2.ret _ _ hWE
      have HWE : Hid ((w9.setCell ⟨w.heap.size + 1 + 1, 0, none⟩ (.pointer (some ⟨p9, 0, none⟩))).setCell ⟨w.heap.size + 1 + 1, 1, none⟩ (.int .i64 (((c : Int) + 1))) = WE) := hWE
      have HIE : Hid (Ix WE (some ⟨p9, 0, none⟩) (upd F ⟨k, m, s⟩ l8) nb (M + 1)) := by
        refine HM9.out.1.quiet HM9.out.2.r (fun k hk => ?_)
        rw [← hWE]
        exact (heap_set _ _ _ hk).trans (heap_set _ _ _ hk)
      clear hWE
      go_wp2_with fail
      skip
      rw [HWE.out]
      refine bodyPost_ret (end_cell rfl rfl HRT.out.1) rfl ?_
      exact ⟨_, rfl, by first | exact HIE.out | (rw [HIF.out]; exact HIE.out), HRT.out.2⟩
    · subst ha0
      rw [HLL.out] at hLc
      have hSW : Sl iv 1 W7 (.slice (some ⟨b, o, none⟩) L cc) l := HSW
      have hT1 : Sl iv 1 W7 (.slice (some ⟨b, o, none⟩) i cc) (l.take (lo l n)) := by
        have := hSW.head i (by rw [HLL.out]; omega)
        rw [HLO.out]
        exact this
      have HT1 : Hid (Sl iv 1 W7 (.slice (some ⟨b, o, none⟩) i cc) (l.take (lo l n))) := hT1
      have hic : (i : Int) ≤ (cc : Int) := by omega
      have hiLi : (i : Int) ≤ (L : Int) := by omega
      have hjLi : (i : Int) ≤ (L : Int) := by omega
      have hjc : (i : Int) ≤ (cc : Int) := by omega
      by_cases hcj : cc = i
      · have hci : (cc : Int) = (i : Int) := by omega
        have HT3 : Hid (Sl iv 1 W7 (.slice (some ⟨b, o, none⟩) 0 0) (l.drop (lo l n))) := by
          show Sl _ _ _ _ _
          rw [List.drop_of_length_le (by rw [HLL.out, HLO.out]; omega)]
          exact ⟨_, 0, rfl, Rw.nil _ _ _ _, Nat.le_refl _, fun _ => rfl⟩
        obtain rfl : i = L := by omega
        obtain rfl : i = cc := by omega
        clear hSW hT1
        skip
        have HS0 : Hid ((W7.drew.cell? ⟨w.heap.size, 0, none⟩ = some (.pointer (some ⟨g, 0, none⟩)) ∧ W7.drew.cell? ⟨w.heap.size, 1, none⟩ = some (.int .i64 ((c : Int) + 1)) ∧ W7.drew.cell? ⟨w.heap.size + 1, 0, none⟩ = some (.int .i64 k) ∧ W7.drew.cell? ⟨w.heap.size + 1, 1, none⟩ = some (.int .i64 m) ∧ W7.drew.cell? ⟨w.heap.size + 1, 2, none⟩ = some (.string s))) := (HO7.out).sv
        have HSA : Hid (∀ (W' : World) (o : Obj), (W'.cell? ⟨w.heap.size, 0, none⟩ = some (.pointer (some ⟨g, 0, none⟩)) ∧ W'.cell? ⟨w.heap.size, 1, none⟩ = some (.int .i64 ((c : Int) + 1)) ∧ W'.cell? ⟨w.heap.size + 1, 0, none⟩ = some (.int .i64 k) ∧ W'.cell? ⟨w.heap.size + 1, 1, none⟩ = some (.int .i64 m) ∧ W'.cell? ⟨w.heap.size + 1, 2, none⟩ = some (.string s)) → ((W'.alloc o).cell? ⟨w.heap.size, 0, none⟩ = some (.pointer (some ⟨g, 0, none⟩)) ∧ (W'.alloc o).cell? ⟨w.heap.size, 1, none⟩ = some (.int .i64 ((c : Int) + 1)) ∧ (W'.alloc o).cell? ⟨w.heap.size + 1, 0, none⟩ = some (.int .i64 k) ∧ (W'.alloc o).cell? ⟨w.heap.size + 1, 1, none⟩ = some (.int .i64 m) ∧ (W'.alloc o).cell? ⟨w.heap.size + 1, 2, none⟩ = some (.string s))) := fun W' o h => sv_alloc W' o h
        have HSD1 : Hid (∀ o : Obj, ((W7.alloc o).drew.cell? ⟨w.heap.size, 0, none⟩ = some (.pointer (some ⟨g, 0, none⟩)) ∧ (W7.alloc o).drew.cell? ⟨w.heap.size, 1, none⟩ = some (.int .i64 ((c : Int) + 1)) ∧ (W7.alloc o).drew.cell? ⟨w.heap.size + 1, 0, none⟩ = some (.int .i64 k) ∧ (W7.alloc o).drew.cell? ⟨w.heap.size + 1, 1, none⟩ = some (.int .i64 m) ∧ (W7.alloc o).drew.cell? ⟨w.heap.size + 1, 2, none⟩ = some (.string s))) := fun o => sv_alloc W7 o (HO7.out).sv
        have HSD2 : Hid (∀ o o' : Obj, (((W7.alloc o).alloc o').drew.cell? ⟨w.heap.size, 0, none⟩ = some (.pointer (some ⟨g, 0, none⟩)) ∧ ((W7.alloc o).alloc o').drew.cell? ⟨w.heap.size, 1, none⟩ = some (.int .i64 ((c : Int) + 1)) ∧ ((W7.alloc o).alloc o').drew.cell? ⟨w.heap.size + 1, 0, none⟩ = some (.int .i64 k) ∧ ((W7.alloc o).alloc o').drew.cell? ⟨w.heap.size + 1, 1, none⟩ = some (.int .i64 m) ∧ ((W7.alloc o).alloc o').drew.cell? ⟨w.heap.size + 1, 2, none⟩ = some (.string s))) := fun o o' => sv_alloc _ o' (sv_alloc W7 o (HO7.out).sv)
        have HSR : Hid (∀ (W' : World) (a b : Value), (W'.cell? ⟨w.heap.size, 0, none⟩ = some (.pointer (some ⟨g, 0, none⟩)) ∧ W'.cell? ⟨w.heap.size, 1, none⟩ = some (.int .i64 ((c : Int) + 1)) ∧ W'.cell? ⟨w.heap.size + 1, 0, none⟩ = some (.int .i64 k) ∧ W'.cell? ⟨w.heap.size + 1, 1, none⟩ = some (.int .i64 m) ∧ W'.cell? ⟨w.heap.size + 1, 2, none⟩ = some (.string s)) → (((W'.setCell ⟨w.heap.size + 1 + 1, 0, none⟩ a).setCell ⟨w.heap.size + 1 + 1, 1, none⟩ b).cell? ⟨w.heap.size, 0, none⟩ = some (.pointer (some ⟨g, 0, none⟩)) ∧ ((W'.setCell ⟨w.heap.size + 1 + 1, 0, none⟩ a).setCell ⟨w.heap.size + 1 + 1, 1, none⟩ b).cell? ⟨w.heap.size, 1, none⟩ = some (.int .i64 ((c : Int) + 1)) ∧ ((W'.setCell ⟨w.heap.size + 1 + 1, 0, none⟩ a).setCell ⟨w.heap.size + 1 + 1, 1, none⟩ b).cell? ⟨w.heap.size + 1, 0, none⟩ = some (.int .i64 k) ∧ ((W'.setCell ⟨w.heap.size + 1 + 1, 0, none⟩ a).setCell ⟨w.heap.size + 1 + 1, 1, none⟩ b).cell? ⟨w.heap.size + 1, 1, none⟩ = some (.int .i64 m) ∧ ((W'.setCell ⟨w.heap.size + 1 + 1, 0, none⟩ a).setCell ⟨w.heap.size + 1 + 1, 1, none⟩ b).cell? ⟨w.heap.size + 1, 2, none⟩ = some (.string s))) := fun W' a b h => sv_ret W' a b h
        have HOW : Hid (Own3 w W7 (some ⟨g, 0, none⟩) ((c : Int) + 1) k m s) := HO7.out
        have HCC : Hid (Calls Try.prog 24 #[.slice (some ⟨W7.heap.size + 1, 0, none⟩) 3 3] ((W7.alloc (.cells #[.int .i64 n] 3)).alloc (.cells #[.slice (some ⟨b, o, none⟩) i i, .slice (some ⟨W7.heap.size, 0, none⟩) 1 1, .slice (some ⟨b, o, none⟩) 0 0] 36)).drew fun e w8 => ∃ a8 c8, e = .returned (.slice a8 L8 c8) ∧ Hid (Sl iv 1 w8 (.slice a8 L8 c8) l8 ∧ Below W7.heap.size W7 w8 ∧ NT w8 a8) ∧ (w8.cell? ⟨w.heap.size, 0, none⟩ = some (.pointer (some ⟨g, 0, none⟩)) ∧ w8.cell? ⟨w.heap.size, 1, none⟩ = some (.int .i64 ((c : Int) + 1)) ∧ w8.cell? ⟨w.heap.size + 1, 0, none⟩ = some (.int .i64 k) ∧ w8.cell? ⟨w.heap.size + 1, 1, none⟩ = some (.int .i64 m) ∧ w8.cell? ⟨w.heap.size + 1, 2, none⟩ = some (.string s))) := by
          have h0 := concat_ins W7 n l HRL.out.2 (.slice (some ⟨b, o, none⟩) i i) (.slice (some ⟨b, o, none⟩) 0 0) (HT1.out) (HT3.out)
          rw [HL8.out, HLN.out] at h0
          exact h0.mono fun e w8 ⟨a8, c8, q1, q2, q3, q4⟩ => ⟨a8, c8, q1, ⟨q2, q3, q4⟩, (HOW.out.next q3).sv⟩
        have HPU : Hid (∀ w8 a8 c8, Sl iv 1 w8 (.slice a8 L8 c8) l8 ∧ Below W7.heap.size W7 w8 ∧ NT w8 a8 → Calls Try.prog 23 #[.agg #[.pointer (some ⟨g, 0, none⟩), .int .i64 ((c : Int) + 1)], .agg #[.int .i64 k, .int .i64 m, .string s, .slice a8 L8 c8]] w8 fun e w9 => ∃ p9, e = .returned (.agg #[.pointer (some ⟨p9, 0, none⟩), .int .i64 ((c : Int) + 1)]) ∧ Hid (Ix w9 (some ⟨p9, 0, none⟩) (upd F ⟨k, m, s⟩ l8) nb (M + 1) ∧ Own3 w w9 (some ⟨g, 0, none⟩) ((c : Int) + 1) k m s) ∧ w9.cell? ⟨w.heap.size + 1 + 1, 0, none⟩ = some (.pointer none) ∧ w9.cell? ⟨w.heap.size + 1 + 1, 1, none⟩ = some (.int .i64 0) ∧ (∀ j, w9.frozen? ⟨w.heap.size + 1 + 1, j, none⟩ = false) ∧ (w9.cell? ⟨w.heap.size, 0, none⟩ = some (.pointer (some ⟨g, 0, none⟩)) ∧ w9.cell? ⟨w.heap.size, 1, none⟩ = some (.int .i64 ((c : Int) + 1)) ∧ w9.cell? ⟨w.heap.size + 1, 0, none⟩ = some (.int .i64 k) ∧ w9.cell? ⟨w.heap.size + 1, 1, none⟩ = some (.int .i64 m) ∧ w9.cell? ⟨w.heap.size + 1, 2, none⟩ = some (.string s))) := fun w8 a8 c8 hq => by
          obtain ⟨v', ads', us', bs', hI⟩ := HI7.out
          have h0 := put_is g ((c : Int) + 1) F nb M v' ads' us' bs' (by omega) (by omega) ⟨k, m, s⟩ HFX.out l8 HLM.out HRS.out a8 c8 w8 (by rw [HLN.out]; exact hq.1) hq.2.2 (hI.next hq.2.1)
          rw [HLN.out] at h0
          exact h0.mono fun e w9 ⟨p9, q1, q2, q3⟩ => ⟨p9, q1, ⟨q2, (HOW.out.next hq.2.1).next q3⟩, ((HOW.out.next hq.2.1).next q3).r.cell rfl, ((HOW.out.next hq.2.1).next q3).r.cell rfl, ((HOW.out.next hq.2.1).next q3).r.fz, ((HOW.out.next hq.2.1).next q3).sv⟩
        go_wp2_with fail
        rw [HW7.out]
        go_region_held (fun (w' : World) => (w'.cell? ⟨w.heap.size, 0, none⟩ = some (.pointer (some ⟨g, 0, none⟩)) ∧ w'.cell? ⟨w.heap.size, 1, none⟩ = some (.int .i64 ((c : Int) + 1)) ∧ w'.cell? ⟨w.heap.size + 1, 0, none⟩ = some (.int .i64 k) ∧ w'.cell? ⟨w.heap.size + 1, 1, none⟩ = some (.int .i64 m) ∧ w'.cell? ⟨w.heap.size + 1, 2, none⟩ = some (.string s))) (first | (with_reducible assumption) | (with_reducible exact HS0.out) | (with_reducible exact HSD1.out _) | (with_reducible exact HSD2.out _ _) | (with_reducible exact HSR.out _ _ _ (by with_reducible assumption)))
          (first | ((with_reducible refine Calls.mono HCC.out ?_); rintro e w8 ⟨a8, c8, rfl, HM8, hS8⟩) | ((with_reducible refine Calls.mono (HPU.out _ _ _ HM8.out) ?_); rintro e w9 ⟨p9, rfl, HM9, r0, r1, rf, hS9⟩))
        obtain ⟨WE, hWE⟩ : ∃ WE, (w9.setCell ⟨w.heap.size + 1 + 1, 0, none⟩ (.pointer (some ⟨p9, 0, none⟩))).setCell ⟨w.heap.size + 1 + 1, 1, none⟩ (.int .i64 (((c : Int) + 1))) = WE := ⟨_, rfl⟩
        have HRT : Hid ((loadVar 27 ⟨w.heap.size + 1 + 1, 0, none⟩).run Try.prog WE = .ok (.agg #[.pointer (some ⟨p9, 0, none⟩), .int .i64 (((c : Int) + 1))]) WE ∧ Below w.heap.size w WE) := HM9.out.2.ret _ _ hWE
        have HWE : Hid ((w9.setCell ⟨w.heap.size + 1 + 1, 0, none⟩ (.pointer (some ⟨p9, 0, none⟩))).setCell ⟨w.heap.size + 1 + 1, 1, none⟩ (.int .i64 (((c : Int) + 1))) = WE) := hWE
        have HIE : Hid (Ix WE (some ⟨p9, 0, none⟩) (upd F ⟨k, m, s⟩ l8) nb (M + 1)) := by
          refine HM9.out.1.quiet HM9.out.2.r (fun k hk => ?_)
          rw [← hWE]
          exact (heap_set _ _ _ hk).trans (heap_set _ _ _ hk)
        clear hWE
        go_wp2_with fail
        skip
        rw [HWE.out]
        refine bodyPost_ret (end_cell rfl rfl HRT.out.1) rfl ?_
        exact ⟨_, rfl, by first | exact HIE.out | (rw [HIF.out]; exact HIE.out), HRT.out.2⟩
      · have hcj' : ¬ (cc : Int) = (i : Int) := by omega
        have HT3 : Hid (Sl iv 1 W7 (.slice (some ⟨b, o + i, none⟩) (L - i) (cc - i)) (l.drop (lo l n))) := by
          have := hSW.tail i (by rw [HLL.out]; omega)
          rw [Nat.mul_one, HLL.out] at this
          show Sl _ _ _ _ _
          rw [HLO.out]
          exact this
        clear hSW hT1
        skip
        have HS0 : Hid ((W7.drew.cell? ⟨w.heap.size, 0, none⟩ = some (.pointer (some ⟨g, 0, none⟩)) ∧ W7.drew.cell? ⟨w.heap.size, 1, none⟩ = some (.int .i64 ((c : Int) + 1)) ∧ W7.drew.cell? ⟨w.heap.size + 1, 0, none⟩ = some (.int .i64 k) ∧ W7.drew.cell? ⟨w.heap.size + 1, 1, none⟩ = some (.int .i64 m) ∧ W7.drew.cell? ⟨w.heap.size + 1, 2, none⟩ = some (.string s))) := (HO7.out).sv
        have HSA : Hid (∀ (W' : World) (o : Obj), (W'.cell? ⟨w.heap.size, 0, none⟩ = some (.pointer (some ⟨g, 0, none⟩)) ∧ W'.cell? ⟨w.heap.size, 1, none⟩ = some (.int .i64 ((c : Int) + 1)) ∧ W'.cell? ⟨w.heap.size + 1, 0, none⟩ = some (.int .i64 k) ∧ W'.cell? ⟨w.heap.size + 1, 1, none⟩ = some (.int .i64 m) ∧ W'.cell? ⟨w.heap.size + 1, 2, none⟩ = some (.string s)) → ((W'.alloc o).cell? ⟨w.heap.size, 0, none⟩ = some (.pointer (some ⟨g, 0, none⟩)) ∧ (W'.alloc o).cell? ⟨w.heap.size, 1, none⟩ = some (.int .i64 ((c : Int) + 1)) ∧ (W'.alloc o).cell? ⟨w.heap.size + 1, 0, none⟩ = some (.int .i64 k) ∧ (W'.alloc o).cell? ⟨w.heap.size + 1, 1, none⟩ = some (.int .i64 m) ∧ (W'.alloc o).cell? ⟨w.heap.size + 1, 2, none⟩ = some (.string s))) := fun W' o h => sv_alloc W' o h
        have HSD1 : Hid (∀ o : Obj, ((W7.alloc o).drew.cell? ⟨w.heap.size, 0, none⟩ = some (.pointer (some ⟨g, 0, none⟩)) ∧ (W7.alloc o).drew.cell? ⟨w.heap.size, 1, none⟩ = some (.int .i64 ((c : Int) + 1)) ∧ (W7.alloc o).drew.cell? ⟨w.heap.size + 1, 0, none⟩ = some (.int .i64 k) ∧ (W7.alloc o).drew.cell? ⟨w.heap.size + 1, 1, none⟩ = some (.int .i64 m) ∧ (W7.alloc o).drew.cell? ⟨w.heap.size + 1, 2, none⟩ = some (.string s))) := fun o => sv_alloc W7 o (HO7.out).sv
        have HSD2 : Hid (∀ o o' : Obj, (((W7.alloc o).alloc o').drew.cell? ⟨w.heap.size, 0, none⟩ = some (.pointer (some ⟨g, 0, none⟩)) ∧ ((W7.alloc o).alloc o').drew.cell? ⟨w.heap.size, 1, none⟩ = some (.int .i64 ((c : Int) + 1)) ∧ ((W7.alloc o).alloc o').drew.cell? ⟨w.heap.size + 1, 0, none⟩ = some (.int .i64 k) ∧ ((W7.alloc o).alloc o').drew.cell? ⟨w.heap.size + 1, 1, none⟩ = some (.int .i64 m) ∧ ((W7.alloc o).alloc o').drew.cell? ⟨w.heap.size + 1, 2, none⟩ = some (.string s))) := fun o o' => sv_alloc _ o' (sv_alloc W7 o (HO7.out).sv)
        have HSR : Hid (∀ (W' : World) (a b : Value), (W'.cell? ⟨w.heap.size, 0, none⟩ = some (.pointer (some ⟨g, 0, none⟩)) ∧ W'.cell? ⟨w.heap.size, 1, none⟩ = some (.int .i64 ((c : Int) + 1)) ∧ W'.cell? ⟨w.heap.size + 1, 0, none⟩ = some (.int .i64 k) ∧ W'.cell? ⟨w.heap.size + 1, 1, none⟩ = some (.int .i64 m) ∧ W'.cell? ⟨w.heap.size + 1, 2, none⟩ = some (.string s)) → (((W'.setCell ⟨w.heap.size + 1 + 1, 0, none⟩ a).setCell ⟨w.heap.size + 1 + 1, 1, none⟩ b).cell? ⟨w.heap.size, 0, none⟩ = some (.pointer (some ⟨g, 0, none⟩)) ∧ ((W'.setCell ⟨w.heap.size + 1 + 1, 0, none⟩ a).setCell ⟨w.heap.size + 1 + 1, 1, none⟩ b).cell? ⟨w.heap.size, 1, none⟩ = some (.int .i64 ((c : Int) + 1)) ∧ ((W'.setCell ⟨w.heap.size + 1 + 1, 0, none⟩ a).setCell ⟨w.heap.size + 1 + 1, 1, none⟩ b).cell? ⟨w.heap.size + 1, 0, none⟩ = some (.int .i64 k) ∧ ((W'.setCell ⟨w.heap.size + 1 + 1, 0, none⟩ a).setCell ⟨w.heap.size + 1 + 1, 1, none⟩ b).cell? ⟨w.heap.size + 1, 1, none⟩ = some (.int .i64 m) ∧ ((W'.setCell ⟨w.heap.size + 1 + 1, 0, none⟩ a).setCell ⟨w.heap.size + 1 + 1, 1, none⟩ b).cell? ⟨w.heap.size + 1, 2, none⟩ = some (.string s))) := fun W' a b h => sv_ret W' a b h
        have HOW : Hid (Own3 w W7 (some ⟨g, 0, none⟩) ((c : Int) + 1) k m s) := HO7.out
        have HCC : Hid (Calls Try.prog 24 #[.slice (some ⟨W7.heap.size + 1, 0, none⟩) 3 3] ((W7.alloc (.cells #[.int .i64 n] 3)).alloc (.cells #[.slice (some ⟨b, o, none⟩) i cc, .slice (some ⟨W7.heap.size, 0, none⟩) 1 1, .slice (some ⟨b, o + i, none⟩) (L - i) (cc - i)] 36)).drew fun e w8 => ∃ a8 c8, e = .returned (.slice a8 L8 c8) ∧ Hid (Sl iv 1 w8 (.slice a8 L8 c8) l8 ∧ Below W7.heap.size W7 w8 ∧ NT w8 a8) ∧ (w8.cell? ⟨w.heap.size, 0, none⟩ = some (.pointer (some ⟨g, 0, none⟩)) ∧ w8.cell? ⟨w.heap.size, 1, none⟩ = some (.int .i64 ((c : Int) + 1)) ∧ w8.cell? ⟨w.heap.size + 1, 0, none⟩ = some (.int .i64 k) ∧ w8.cell? ⟨w.heap.size + 1, 1, none⟩ = some (.int .i64 m) ∧ w8.cell? ⟨w.heap.size + 1, 2, none⟩ = some (.string s))) := by
          have h0 := concat_ins W7 n l HRL.out.2 (.slice (some ⟨b, o, none⟩) i cc) (.slice (some ⟨b, o + i, none⟩) (L - i) (cc - i)) (HT1.out) (HT3.out)
          rw [HL8.out, HLN.out] at h0
          exact h0.mono fun e w8 ⟨a8, c8, q1, q2, q3, q4⟩ => ⟨a8, c8, q1, ⟨q2, q3, q4⟩, (HOW.out.next q3).sv⟩
        have HPU : Hid (∀ w8 a8 c8, Sl iv 1 w8 (.slice a8 L8 c8) l8 ∧ Below W7.heap.size W7 w8 ∧ NT w8 a8 → Calls Try.prog 23 #[.agg #[.pointer (some ⟨g, 0, none⟩), .int .i64 ((c : Int) + 1)], .agg #[.int .i64 k, .int .i64 m, .string s, .slice a8 L8 c8]] w8 fun e w9 => ∃ p9, e = .returned (.agg #[.pointer (some ⟨p9, 0, none⟩), .int .i64 ((c : Int) + 1)]) ∧ Hid (Ix w9 (some ⟨p9, 0, none⟩) (upd F ⟨k, m, s⟩ l8) nb (M + 1) ∧ Own3 w w9 (some ⟨g, 0, none⟩) ((c : Int) + 1) k m s) ∧ w9.cell? ⟨w.heap.size + 1 + 1, 0, none⟩ = some (.pointer none) ∧ w9.cell? ⟨w.heap.size + 1 + 1, 1, none⟩ = some (.int .i64 0) ∧ (∀ j, w9.frozen? ⟨w.heap.size + 1 + 1, j, none⟩ = false) ∧ (w9.cell? ⟨w.heap.size, 0, none⟩ = some (.pointer (some ⟨g, 0, none⟩)) ∧ w9.cell? ⟨w.heap.size, 1, none⟩ = some (.int .i64 ((c : Int) + 1)) ∧ w9.cell? ⟨w.heap.size + 1, 0, none⟩ = some (.int .i64 k) ∧ w9.cell? ⟨w.heap.size + 1, 1, none⟩ = some (.int .i64 m) ∧ w9.cell? ⟨w.heap.size + 1, 2, none⟩ = some (.string s))) := fun w8 a8 c8 hq => by
          obtain ⟨v', ads', us', bs', hI⟩ := HI7.out
          have h0 := put_is g ((c : Int) + 1) F nb M v' ads' us' bs' (by omega) (by omega) ⟨k, m, s⟩ HFX.out l8 HLM.out HRS.out a8 c8 w8 (by rw [HLN.out]; exact hq.1) hq.2.2 (hI.next hq.2.1)
          rw [HLN.out] at h0
          exact h0.mono fun e w9 ⟨p9, q1, q2, q3⟩ => ⟨p9, q1, ⟨q2, (HOW.out.next hq.2.1).next q3⟩, ((HOW.out.next hq.2.1).next q3).r.cell rfl, ((HOW.out.next hq.2.1).next q3).r.cell rfl, ((HOW.out.next hq.2.1).next q3).r.fz, ((HOW.out.next hq.2.1).next q3).sv⟩
        go_wp2_with fail
        rw [HW7.out]
        go_region_held (fun (w' : World) => (w'.cell? ⟨w.heap.size, 0, none⟩ = some (.pointer (some ⟨g, 0, none⟩)) ∧ w'.cell? ⟨w.heap.size, 1, none⟩ = some (.int .i64 ((c : Int) + 1)) ∧ w'.cell? ⟨w.heap.size + 1, 0, none⟩ = some (.int .i64 k) ∧ w'.cell? ⟨w.heap.size + 1, 1, none⟩ = some (.int .i64 m) ∧ w'.cell? ⟨w.heap.size + 1, 2, none⟩ = some (.string s))) (first | (with_reducible assumption) | (with_reducible exact HS0.out) | (with_reducible exact HSD1.out _) | (with_reducible exact HSD2.out _ _) | (with_reducible exact HSR.out _ _ _ (by with_reducible assumption)))
          (first | ((with_reducible refine Calls.mono HCC.out ?_); rintro e w8 ⟨a8, c8, rfl, HM8, hS8⟩) | ((with_reducible refine Calls.mono (HPU.out _ _ _ HM8.out) ?_); rintro e w9 ⟨p9, rfl, HM9, r0, r1, rf, hS9⟩))
        obtain ⟨WE, hWE⟩ : ∃ WE, (w9.setCell ⟨w.heap.size + 1 + 1, 0, none⟩ (.pointer (some ⟨p9, 0, none⟩))).setCell ⟨w.heap.size + 1 + 1, 1, none⟩ (.int .i64 (((c : Int) + 1))) = WE := ⟨_, rfl⟩
        have HRT : Hid ((loadVar 27 ⟨w.heap.size + 1 + 1, 0, none⟩).run Try.prog WE = .ok (.agg #[.pointer (some ⟨p9, 0, none⟩), .int .i64 (((c : Int) + 1))]) WE ∧ Below w.heap.size w WE) := HM9.out.2.ret _ _ hWE
        have HWE : Hid ((w9.setCell ⟨w.heap.size + 1 + 1, 0, none⟩ (.pointer (some ⟨p9, 0, none⟩))).setCell ⟨w.heap.size + 1 + 1, 1, none⟩ (.int .i64 (((c : Int) + 1))) = WE) := hWE
        have HIE : Hid (Ix WE (some ⟨p9, 0, none⟩) (upd F ⟨k, m, s⟩ l8) nb (M + 1)) := by
          refine HM9.out.1.quiet HM9.out.2.r (fun k hk => ?_)
          rw [← hWE]
          exact (heap_set _ _ _ hk).trans (heap_set _ _ _ hk)
        clear hWE
        go_wp2_with fail
        skip
        rw [HWE.out]
        refine bodyPost_ret (end_cell rfl rfl HRT.out.1) rfl ?_
        exact ⟨_, rfl, by first | exact HIE.out | (rw [HIF.out]; exact HIE.out), HRT.out.2⟩
end Go.Proofs.Ytgjeobmbfeinnaa
