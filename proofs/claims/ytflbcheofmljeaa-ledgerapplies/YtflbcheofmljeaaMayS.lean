/- ledger: which stocks may be. -/
import Derived.Test.YtflbcheofmljeaaFind
namespace Go.Proofs.Ytflbcheofmljeaa
open Go.ChangeShapes Go.WideShapes Go.RowKit
set_option linter.unusedVariables false
set_option maxRecDepth 100000

/-- Which stocks may be. -/
def okS (x : Stk) : Prop := name x.sku ∧ name x.loc ∧ 0 ≤ x.held ∧ x.held ≤ x.on
instance (x : Stk) : Decidable (okS x) := by unfold okS; infer_instance
def mayS (l : List Stk) : Prop := (∀ x, x ∈ l → okS x) ∧ Rises l
instance (l : List Stk) : Decidable (mayS l) := by unfold mayS Rises; infer_instance
theorem mayO_receive (sku loc : ByteArray) : mayO 1 sku loc ⟨#[]⟩ 1 0 0 ↔ name sku ∧ name loc := by
  constructor
  · intro h
    unfold mayO at h
    rcases h with h | h | h | h | h | h
    · exact h.2.1
    all_goals (have := h.1; omega)
  · intro h
    exact .inl ⟨rfl, h, rfl, by omega, rfl, rfl⟩
/-- One more. -/
theorem rises_snoc {l : List Stk} {k : Nat} (hk : k < l.length) (h : Rises (l.take k)) (hp : ∀ q : 0 < k, cmpK (l[k - 1]'(by omega)).sku (l[k - 1]'(by omega)).loc l[k].sku l[k].loc = -1) : Rises (l.take (k + 1)) := by
  unfold Rises at *
  rw [List.take_succ_eq_append_getElem hk, List.pairwise_append]
  refine ⟨h, List.pairwise_singleton _ _, fun a ha b hb => ?_⟩
  rw [List.mem_singleton] at hb
  subst hb
  obtain ⟨i, hi, rfl⟩ := List.getElem_of_mem ha
  have hik : i < k := by rw [List.length_take] at hi; omega
  have hpk := hp (by omega)
  rw [List.getElem_take]
  by_cases c : i = k - 1
  · subst c; exact hpk
  · have := List.pairwise_iff_getElem.1 h i (k - 1) hi (by rw [List.length_take]; omega) (by omega)
    rw [List.getElem_take, List.getElem_take] at this
    exact cmpK_through this hpk
set_option maxHeartbeats 4000000 in
theorem mayStocks_is (a : Option Addr) (c n : Nat) (l : List Stk) (hn : l.length = n) (hm : n ≤ 1000000000000) (w : World) (hr : Rw stv 4 w a l) :
    Calls Try.prog 41 #[.slice a n c] w fun e w' => e = .returned (.bool (decide (mayS l))) ∧ Below w.heap.size w w' := by
  obtain ⟨z, hz⟩ : ∃ z, decide (mayS l) = z := ⟨_, rfl⟩
  rw [hz]
  have HZ : Hid (decide (mayS l) = z) := hz
  have HL : Hid (l.length = n) := hn
  have HR : Hid (Rw stv 4 w a l) := hr
  clear hz hn hr
  go_enter Try.func41, Try.ntmps41
  go_wp2_with fail
  go_loopw [7] (fun vi wr => ∃ k : Nat, k ≤ n ∧ vi = .int .i64 k ∧ Hid (Below w.heap.size w wr ∧ (∀ i (h : i < l.length), i < k → okS l[i]) ∧ Rises (l.take k)))
    (fun vi _ => n - (intOf vi).toNat)
  case atStart => exact ⟨0, Nat.zero_le _, rfl, Below.refl _ _, fun i h q => absurd q (Nat.not_lt_zero _), by unfold Rises; simp⟩
  case round =>
    obtain ⟨k, hk, rfl, HI⟩ := hrel
    by_cases hlt : k < n
    · have hlti : (k : Int) < (n : Int) := by omega
      have hkl : k < l.length := by have := HL.out; omega
      obtain ⟨b, o, rfl, hb, hc⟩ := HR.out.stk (fun e => by rw [e] at hkl; simp at hkl)
      have hx := (hc k hkl).next (HI.out.1.block b hb)
      obtain ⟨x, hxk⟩ : ∃ x, l[k] = x := ⟨_, rfl⟩
      rw [hxk] at hx
      obtain ⟨x0, x1, x2, x3⟩ := hx
      have HX : Hid (l[k] = x) := hxk
      have HCC : Hid (b < w.heap.size ∧ ∀ i (hi : i < l.length), StkAt w b (o + i * 4) l[i]) := ⟨hb, hc⟩
      clear hc hb hxk
      have HNO : Hid (¬ okS x → z = false) := fun q => by rw [← HZ.out]; exact decide_eq_false (fun e => q (HX.out ▸ e.1 _ (List.getElem_mem hkl)))
      have HC : Hid _ := fun w => checkO_is 1 x.sku x.loc ⟨#[]⟩ 1 0 0 w
      obtain ⟨W, hW⟩ : ∃ W, wr.alloc (.cells #[.string x.sku, .string x.loc, .int .i64 x.on, .int .i64 x.held] 50) = W := ⟨_, rfl⟩
      have hBW : Below wr.heap.size wr W := hW ▸ below1 _ _
      have hCW : CellsF W wr.heap.size [.string x.sku, .string x.loc, .int .i64 x.on, .int .i64 x.held] := by rw [← hW]; exact CellsF.at _ 50 (by simp) rfl
      have y0 := hCW.cs 0 _ rfl
      have y1 := hCW.cs 1 _ rfl
      have HCW : Hid _ := hCW
      have HBW : Hid (Below w.heap.size w W) := Below.next HI.out.1 hBW
      clear hCW hBW
      go_wp2_with fail
      refine Calls.mono (HC.out _) ?_; rintro e w1 ⟨rfl, k1⟩
      have HC1 : Hid (CellsF w1 wr.heap.size [.string x.sku, .string x.loc, .int .i64 x.on, .int .i64 x.held]) := HCW.out.next k1
      have HB1 : Hid (Below w.heap.size w w1) := Below.next HBW.out k1
      have HWW : Hid (wr.heap.size < w1.heap.size) := HC1.out.lt
      clear k1 y0 y1 hW x0 x1 x2 x3
      have y0 := HC1.out.cs 0 _ rfl
      have y1 := HC1.out.cs 1 _ rfl
      have y2 := HC1.out.cs 2 _ rfl
      have y3 := HC1.out.cs 3 _ rfl
      by_cases hnm : name x.sku ∧ name x.loc
      · rw [if_pos ((mayO_receive x.sku x.loc).2 hnm)]
        have HNM : Hid (name x.sku ∧ name x.loc) := hnm
        clear hnm
        by_cases h0 : x.held < 0
        · have HE : Hid (z = false) := HNO.out (fun q => by have := q.2.2.1; omega)
          go_wp2_with fail
          go_quiet (fail)
          go_wp2_with fail
          go_ret
          exact ⟨by rw [HE.out]; rfl, ⟨HB1.out.os, HB1.out.tape, HB1.out.output, HB1.out.size, HB1.out.block⟩⟩
        · by_cases h1 : x.on < x.held
          · have HE : Hid (z = false) := HNO.out (fun q => by have := q.2.2.2; omega)
            go_wp2_with fail
            have d0 : ¬ x.held < 0 := by omega
            go_quiet (fail)
            go_wp2_with fail
            go_ret
            exact ⟨by rw [HE.out]; rfl, ⟨HB1.out.os, HB1.out.tape, HB1.out.output, HB1.out.size, HB1.out.block⟩⟩
          · have HOK : Hid (okS x) := ⟨HNM.out.1, HNM.out.2, by omega, by omega⟩
            by_cases hk0 : k = 0
            · subst hk0
              have HNX : Hid (Rises (l.take (0 + 1))) := rises_snoc hkl HI.out.2.2 (fun q => absurd q (Nat.lt_irrefl _))
              go_wp2_with fail
              have d0 : ¬ x.held < 0 := by omega
              have d1 : ¬ x.on < x.held := by omega
              go_quiet (fail)
              go_wp2_with fail
              go_roundw
              case rel => exact ⟨0 + 1, by omega, by go_num, ⟨HB1.out.os, HB1.out.tape, HB1.out.output, HB1.out.size, HB1.out.block⟩, fun i h q => by
                have : i = 0 := by omega
                subst this
                rw [HX.out]; exact HOK.out, HNX.out⟩
              case measure => simp [intOf]; omega
            · obtain ⟨j, rfl⟩ : ∃ j, k = j + 1 := ⟨k - 1, by omega⟩
              have hkj : (0 : Int) < ((j + 1 : Nat) : Int) := by omega
              have hjj : ((j + 1 : Nat) : Int) - 1 = (j : Int) := by omega
              have hjj2 : ((j : Int) + 1) - 1 = (j : Int) := by omega
              have hjl : j < l.length := by omega
              have hjn : j < n := by omega
              have hp := (HCC.out.2 j hjl).next (HB1.out.block b HCC.out.1)
              obtain ⟨p, hpj⟩ : ∃ p, l[j] = p := ⟨_, rfl⟩
              rw [hpj] at hp
              have HP : Hid (l[j] = p) := hpj
              obtain ⟨p0, p1, p2, p3⟩ := hp
              obtain ⟨r, hr⟩ : ∃ r, cmpK p.sku p.loc x.sku x.loc = r := ⟨_, rfl⟩
              have HRR : Hid (cmpK p.sku p.loc x.sku x.loc = r) := hr
              have HLESS : Hid (∀ w' w'' : World, Below w.heap.size w w' → Below w'.heap.size w' w'' → Below w.heap.size w w'') := fun _ _ h q => Below.next h q
              have hS0 : (Below w.heap.size w w1 ∧ w1.cell? ⟨wr.heap.size, 0, none⟩ = some (.string x.sku) ∧ w1.cell? ⟨wr.heap.size, 1, none⟩ = some (.string x.loc) ∧ w1.cell? ⟨wr.heap.size, 2, none⟩ = some (.int .i64 x.on) ∧ w1.cell? ⟨wr.heap.size, 3, none⟩ = some (.int .i64 x.held) ∧ w1.cell? ⟨b, o + j * 4, none⟩ = some (.string p.sku) ∧ w1.cell? ⟨b, o + j * 4 + 1, none⟩ = some (.string p.loc) ∧ w1.cell? ⟨b, o + j * 4 + 2, none⟩ = some (.int .i64 p.on) ∧ w1.cell? ⟨b, o + j * 4 + 3, none⟩ = some (.int .i64 p.held)) := ⟨HB1.out, y0, y1, y2, y3, p0, p1, p2, p3⟩
              have HN : Hid (∀ w' w'' : World, (Below w.heap.size w w' ∧ w'.cell? ⟨wr.heap.size, 0, none⟩ = some (.string x.sku) ∧ w'.cell? ⟨wr.heap.size, 1, none⟩ = some (.string x.loc) ∧ w'.cell? ⟨wr.heap.size, 2, none⟩ = some (.int .i64 x.on) ∧ w'.cell? ⟨wr.heap.size, 3, none⟩ = some (.int .i64 x.held) ∧ w'.cell? ⟨b, o + j * 4, none⟩ = some (.string p.sku) ∧ w'.cell? ⟨b, o + j * 4 + 1, none⟩ = some (.string p.loc) ∧ w'.cell? ⟨b, o + j * 4 + 2, none⟩ = some (.int .i64 p.on) ∧ w'.cell? ⟨b, o + j * 4 + 3, none⟩ = some (.int .i64 p.held)) → Below w'.heap.size w' w'' → (Below w.heap.size w w'' ∧ w''.cell? ⟨wr.heap.size, 0, none⟩ = some (.string x.sku) ∧ w''.cell? ⟨wr.heap.size, 1, none⟩ = some (.string x.loc) ∧ w''.cell? ⟨wr.heap.size, 2, none⟩ = some (.int .i64 x.on) ∧ w''.cell? ⟨wr.heap.size, 3, none⟩ = some (.int .i64 x.held) ∧ w''.cell? ⟨b, o + j * 4, none⟩ = some (.string p.sku) ∧ w''.cell? ⟨b, o + j * 4 + 1, none⟩ = some (.string p.loc) ∧ w''.cell? ⟨b, o + j * 4 + 2, none⟩ = some (.int .i64 p.on) ∧ w''.cell? ⟨b, o + j * 4 + 3, none⟩ = some (.int .i64 p.held))) := fun w' w'' h q => by
                have b0 := (q.cell (p := ⟨wr.heap.size, 0, none⟩) (World.block_lt_of_cell? w' _ (h.2.1))).trans (h.2.1)
                have b1 := (q.cell (p := ⟨wr.heap.size, 1, none⟩) (World.block_lt_of_cell? w' _ (h.2.2.1))).trans (h.2.2.1)
                have b2 := (q.cell (p := ⟨wr.heap.size, 2, none⟩) (World.block_lt_of_cell? w' _ (h.2.2.2.1))).trans (h.2.2.2.1)
                have b3 := (q.cell (p := ⟨wr.heap.size, 3, none⟩) (World.block_lt_of_cell? w' _ (h.2.2.2.2.1))).trans (h.2.2.2.2.1)
                have b4 := (q.cell (p := ⟨b, o + j * 4, none⟩) (World.block_lt_of_cell? w' _ (h.2.2.2.2.2.1))).trans (h.2.2.2.2.2.1)
                have b5 := (q.cell (p := ⟨b, o + j * 4 + 1, none⟩) (World.block_lt_of_cell? w' _ (h.2.2.2.2.2.2.1))).trans (h.2.2.2.2.2.2.1)
                have b6 := (q.cell (p := ⟨b, o + j * 4 + 2, none⟩) (World.block_lt_of_cell? w' _ (h.2.2.2.2.2.2.2.1))).trans (h.2.2.2.2.2.2.2.1)
                have b7 := (q.cell (p := ⟨b, o + j * 4 + 3, none⟩) (World.block_lt_of_cell? w' _ (h.2.2.2.2.2.2.2.2))).trans (h.2.2.2.2.2.2.2.2)
                exact ⟨Below.next h.1 q, b0, b1, b2, b3, b4, b5, b6, b7⟩
              have HSD : Hid (∀ w', (Below w.heap.size w w' ∧ w'.cell? ⟨wr.heap.size, 0, none⟩ = some (.string x.sku) ∧ w'.cell? ⟨wr.heap.size, 1, none⟩ = some (.string x.loc) ∧ w'.cell? ⟨wr.heap.size, 2, none⟩ = some (.int .i64 x.on) ∧ w'.cell? ⟨wr.heap.size, 3, none⟩ = some (.int .i64 x.held) ∧ w'.cell? ⟨b, o + j * 4, none⟩ = some (.string p.sku) ∧ w'.cell? ⟨b, o + j * 4 + 1, none⟩ = some (.string p.loc) ∧ w'.cell? ⟨b, o + j * 4 + 2, none⟩ = some (.int .i64 p.on) ∧ w'.cell? ⟨b, o + j * 4 + 3, none⟩ = some (.int .i64 p.held)) → (Below w.heap.size w w'.drew ∧ w'.drew.cell? ⟨wr.heap.size, 0, none⟩ = some (.string x.sku) ∧ w'.drew.cell? ⟨wr.heap.size, 1, none⟩ = some (.string x.loc) ∧ w'.drew.cell? ⟨wr.heap.size, 2, none⟩ = some (.int .i64 x.on) ∧ w'.drew.cell? ⟨wr.heap.size, 3, none⟩ = some (.int .i64 x.held) ∧ w'.drew.cell? ⟨b, o + j * 4, none⟩ = some (.string p.sku) ∧ w'.drew.cell? ⟨b, o + j * 4 + 1, none⟩ = some (.string p.loc) ∧ w'.drew.cell? ⟨b, o + j * 4 + 2, none⟩ = some (.int .i64 p.on) ∧ w'.drew.cell? ⟨b, o + j * 4 + 3, none⟩ = some (.int .i64 p.held))) := fun w' h => HN.out w' w'.drew h (Below.refl _ _).drew
              have HOC : Hid (∀  (w' : World), (Below w.heap.size w w' ∧ w'.cell? ⟨wr.heap.size, 0, none⟩ = some (.string x.sku) ∧ w'.cell? ⟨wr.heap.size, 1, none⟩ = some (.string x.loc) ∧ w'.cell? ⟨wr.heap.size, 2, none⟩ = some (.int .i64 x.on) ∧ w'.cell? ⟨wr.heap.size, 3, none⟩ = some (.int .i64 x.held) ∧ w'.cell? ⟨b, o + j * 4, none⟩ = some (.string p.sku) ∧ w'.cell? ⟨b, o + j * 4 + 1, none⟩ = some (.string p.loc) ∧ w'.cell? ⟨b, o + j * 4 + 2, none⟩ = some (.int .i64 p.on) ∧ w'.cell? ⟨b, o + j * 4 + 3, none⟩ = some (.int .i64 p.held)) → Calls Try.prog 62 #[sval p, sval x] w' fun e w'' => e = .returned (.int .i64 r) ∧ (Below w.heap.size w w'' ∧ w''.cell? ⟨wr.heap.size, 0, none⟩ = some (.string x.sku) ∧ w''.cell? ⟨wr.heap.size, 1, none⟩ = some (.string x.loc) ∧ w''.cell? ⟨wr.heap.size, 2, none⟩ = some (.int .i64 x.on) ∧ w''.cell? ⟨wr.heap.size, 3, none⟩ = some (.int .i64 x.held) ∧ w''.cell? ⟨b, o + j * 4, none⟩ = some (.string p.sku) ∧ w''.cell? ⟨b, o + j * 4 + 1, none⟩ = some (.string p.loc) ∧ w''.cell? ⟨b, o + j * 4 + 2, none⟩ = some (.int .i64 p.on) ∧ w''.cell? ⟨b, o + j * 4 + 3, none⟩ = some (.int .i64 p.held))) := fun  w' hS => (order_is p x w').mono (by
                rintro e w'' ⟨he, hb⟩
                exact ⟨by rw [he]; exact congrArg (fun x => Ending.returned (Value.int .i64 x)) hr, HN.out _ _ hS hb⟩)
              clear hr hpj p0 p1 p2 p3
              by_cases hneg : r < 0
              · have HNX : Hid (Rises (l.take (j + 1 + 1))) := rises_snoc hkl HI.out.2.2 (fun q => by
                  have h1 : l[j + 1 - 1] = p := HP.out
                  rw [h1, HX.out, HRR.out]
                  have := HRR.out
                  rcases cmpK_range p.sku p.loc x.sku x.loc with q | q | q <;> omega)
                go_wp2_with fail
                have d0 : ¬ x.held < 0 := by omega
                have d1 : ¬ x.on < x.held := by omega
                have d2 : (0 : Int) < (j : Int) + 1 := by omega
                have d3 : (j : Int) < (n : Int) := by omega
                have d4 : IntKind.i64.wrap (j : Int) = (j : Int) := by rw [IntKind.wrap_i64]; omega
                have d5 : IntKind.i64.wrap ((j : Int) + 1 - 1) = (j : Int) := by rw [IntKind.wrap_i64]; omega
                have d6 : ¬ ((j : Int) < 0) := by omega
                go_region_held (fun (w' : World) => (Below w.heap.size w w' ∧ w'.cell? ⟨wr.heap.size, 0, none⟩ = some (.string x.sku) ∧ w'.cell? ⟨wr.heap.size, 1, none⟩ = some (.string x.loc) ∧ w'.cell? ⟨wr.heap.size, 2, none⟩ = some (.int .i64 x.on) ∧ w'.cell? ⟨wr.heap.size, 3, none⟩ = some (.int .i64 x.held) ∧ w'.cell? ⟨b, o + j * 4, none⟩ = some (.string p.sku) ∧ w'.cell? ⟨b, o + j * 4 + 1, none⟩ = some (.string p.loc) ∧ w'.cell? ⟨b, o + j * 4 + 2, none⟩ = some (.int .i64 p.on) ∧ w'.cell? ⟨b, o + j * 4 + 3, none⟩ = some (.int .i64 p.held))) (first | (with_reducible assumption) | (with_reducible exact HSD.out _ (by with_reducible assumption))) (first | ((with_reducible refine Calls.mono (HOC.out _ (by with_reducible assumption)) ?_); rintro e w3 ⟨rfl, hS3⟩))
                all_goals (have HB3 : Hid (Below w.heap.size w w3) := hS3.1)
                all_goals go_wp2_with fail
                all_goals go_roundw
                all_goals first | exact ⟨j + 1 + 1, by omega, by go_num, HB3.out, fun i h q => by
                  by_cases c : i = j + 1
                  · subst c; rw [HX.out]; exact HOK.out
                  · exact HI.out.2.1 i h (by omega), HNX.out⟩ | (simp [intOf]; omega)
              · have HE : Hid (z = false) := by
                  show z = false
                  rw [← HZ.out]
                  refine decide_eq_false (fun e => ?_)
                  have h1 := List.pairwise_iff_getElem.1 e.2 j (j + 1) hjl hkl (by omega)
                  rw [HP.out, HX.out, HRR.out] at h1
                  omega
                go_wp2_with fail
                have d0 : ¬ x.held < 0 := by omega
                have d1 : ¬ x.on < x.held := by omega
                have d2 : (0 : Int) < (j : Int) + 1 := by omega
                have d3 : (j : Int) < (n : Int) := by omega
                have d4 : IntKind.i64.wrap (j : Int) = (j : Int) := by rw [IntKind.wrap_i64]; omega
                have d5 : IntKind.i64.wrap ((j : Int) + 1 - 1) = (j : Int) := by rw [IntKind.wrap_i64]; omega
                have d6 : ¬ ((j : Int) < 0) := by omega
                go_region_held (fun (w' : World) => (Below w.heap.size w w' ∧ w'.cell? ⟨wr.heap.size, 0, none⟩ = some (.string x.sku) ∧ w'.cell? ⟨wr.heap.size, 1, none⟩ = some (.string x.loc) ∧ w'.cell? ⟨wr.heap.size, 2, none⟩ = some (.int .i64 x.on) ∧ w'.cell? ⟨wr.heap.size, 3, none⟩ = some (.int .i64 x.held) ∧ w'.cell? ⟨b, o + j * 4, none⟩ = some (.string p.sku) ∧ w'.cell? ⟨b, o + j * 4 + 1, none⟩ = some (.string p.loc) ∧ w'.cell? ⟨b, o + j * 4 + 2, none⟩ = some (.int .i64 p.on) ∧ w'.cell? ⟨b, o + j * 4 + 3, none⟩ = some (.int .i64 p.held))) (first | (with_reducible assumption) | (with_reducible exact HSD.out _ (by with_reducible assumption))) (first | ((with_reducible refine Calls.mono (HOC.out _ (by with_reducible assumption)) ?_); rintro e w3 ⟨rfl, hS3⟩))
                all_goals (have HB3 : Hid (Below w.heap.size w w3) := hS3.1)
                all_goals go_wp2_with fail
                all_goals go_ret
                all_goals exact ⟨by rw [HE.out]; rfl, HB3.out⟩
      · rw [if_neg (fun q => hnm ((mayO_receive x.sku x.loc).1 q))]
        have HE : Hid (z = false) := HNO.out (fun q => hnm ⟨q.1, q.2.1⟩)
        clear hnm
        go_wp2_with fail
        go_ret
        exact ⟨by rw [HE.out]; rfl, HB1.out⟩
    · have hlti : ¬ (k : Int) < (n : Int) := by omega
      have hall : l.take k = l := List.take_of_length_le (by have := HL.out; omega)
      have HE : Hid (z = true) := by
        show z = true
        rw [← HZ.out]
        refine decide_eq_true ⟨fun x hx => ?_, by have := HI.out.2.2; rw [hall] at this; exact this⟩
        obtain ⟨i, hi, rfl⟩ := List.getElem_of_mem hx
        exact HI.out.2.1 i hi (by have := HL.out; omega)
      clear hall
      go_wp2_with fail
      go_ret
      exact ⟨by rw [HE.out]; rfl, HI.out.1⟩
end Go.Proofs.Ytflbcheofmljeaa
