/- ledger: which holds and movements may be. -/
import Derived.Test.YtflbcheofmljeaaSeen
namespace Go.Proofs.Ytflbcheofmljeaa
open Go.ChangeShapes Go.WideShapes Go.RowKit
set_option linter.unusedVariables false
set_option maxRecDepth 100000

def okH (k : Nat) (x : Hld) : Prop := x.id = (k : Int) + 1 ∧ name x.sku ∧ name x.loc ∧ 1 ≤ x.qty ∧ 0 ≤ x.due ∧ 0 ≤ x.st ∧ x.st ≤ 2
instance (k : Nat) (x : Hld) : Decidable (okH k x) := by unfold okH; infer_instance
def mayH (l : List Hld) : Prop := ∀ i (h : i < l.length), okH i l[i]
instance (l : List Hld) : Decidable (mayH l) := by unfold mayH; infer_instance
def okM (k : Nat) (x : Mov) : Prop := x.seq = (k : Int) + 1 ∧ name x.sku ∧ name x.loc ∧ ¬ x.delta = 0 ∧ cause x.kind x.hold
instance (k : Nat) (x : Mov) : Decidable (okM k x) := by unfold okM; infer_instance
def mayM (l : List Mov) : Prop := ∀ i (h : i < l.length), okM i l[i]
instance (l : List Mov) : Decidable (mayM l) := by unfold mayM; infer_instance
theorem mayO_hold (sku loc : ByteArray) (qty due : Int) : mayO 2 sku loc ⟨#[]⟩ qty 0 due ↔ name sku ∧ name loc ∧ 1 ≤ qty ∧ 0 ≤ due := by
  constructor
  · intro h
    unfold mayO at h
    rcases h with h | h | h | h | h | h
    · have := h.1; omega
    · exact ⟨h.2.1.1, h.2.1.2, h.2.2.2.1, h.2.2.2.2.2⟩
    all_goals (have := h.1; omega)
  · intro h
    exact .inr (.inl ⟨rfl, ⟨h.1, h.2.1⟩, rfl, h.2.2.1, rfl, h.2.2.2⟩)
theorem mayO_adjust (sku loc : ByteArray) (qty : Int) : mayO 7 sku loc ⟨#[]⟩ qty 0 0 ↔ name sku ∧ name loc ∧ ¬ qty = 0 := by
  constructor
  · intro h
    unfold mayO at h
    rcases h with h | h | h | h | h | h
    · have := h.1; omega
    · have := h.1; omega
    · have := h.1; omega
    · have := h.1; omega
    · have := h.1; omega
    · exact ⟨h.2.1.1, h.2.1.2, h.2.2.2.1⟩
  · intro h
    exact .inr (.inr (.inr (.inr (.inr ⟨rfl, ⟨h.1, h.2.1⟩, rfl, h.2.2, rfl, rfl⟩))))
set_option maxHeartbeats 2000000 in
theorem mayHolds_is (a : Option Addr) (c n : Nat) (l : List Hld) (hn : l.length = n) (hm : n ≤ 1000000000000) (w : World) (hr : Rw hlv 6 w a l) :
    Calls Try.prog 42 #[.slice a n c] w fun e w' => e = .returned (.bool (decide (mayH l))) ∧ Below w.heap.size w w' := by
  obtain ⟨z, hz⟩ : ∃ z, decide (mayH l) = z := ⟨_, rfl⟩
  rw [hz]
  have HZ : Hid (decide (mayH l) = z) := hz
  have HL : Hid (l.length = n) := hn
  have HR : Hid (Rw hlv 6 w a l) := hr
  clear hz hn hr
  go_enter Try.func42, Try.ntmps42
  go_wp2_with fail
  go_loopw [8] (fun vi wr => ∃ k : Nat, k ≤ n ∧ vi = .int .i64 k ∧ Hid (Below w.heap.size w wr ∧ ∀ i (h : i < l.length), i < k → okH i l[i]))
    (fun vi _ => n - (intOf vi).toNat)
  case atStart => exact ⟨0, Nat.zero_le _, rfl, Below.refl _ _, fun i h q => absurd q (Nat.not_lt_zero _)⟩
  case round =>
    obtain ⟨k, hk, rfl, HI⟩ := hrel
    by_cases hlt : k < n
    · have hlti : (k : Int) < (n : Int) := by omega
      have hkl : k < l.length := by have := HL.out; omega
      obtain ⟨b, o, rfl, hb, hc⟩ := HR.out.hld (fun e => by rw [e] at hkl; simp at hkl)
      have hx := (hc k hkl).next (HI.out.1.block b hb)
      obtain ⟨x, hxk⟩ : ∃ x, l[k] = x := ⟨_, rfl⟩
      rw [hxk] at hx
      obtain ⟨x0, x1, x2, x3, x4, x5⟩ := hx
      have HX : Hid (l[k] = x) := hxk
      clear hc hb hxk
      have HNO : Hid (¬ okH k x → z = false) := fun q => by rw [← HZ.out]; exact decide_eq_false (fun e => q (HX.out ▸ e _ hkl))
      obtain ⟨xi, xs, xl, xq, xt, xd⟩ := x
      dsimp only at x0 x1 x2 x3 x4 x5
      have HC : Hid _ := fun w => checkO_is 2 xs xl ⟨#[]⟩ xq 0 xd w
      by_cases hid : xi = (k : Int) + 1
      · subst hid
        obtain ⟨W, hW⟩ : ∃ W, (wr.alloc (.cells #[.int .i64 ((k : Int) + 1), .string xs, .string xl, .int .i64 xq, .int .i64 xt, .int .i64 xd] 44)).alloc (.cells #[.int .i64 2, .string xs, .string xl, .string ⟨#[]⟩, .int .i64 xq, .int .i64 0, .int .i64 xd] 28) = W := ⟨_, rfl⟩
        have hBW : Below wr.heap.size wr W := hW ▸ below2 _ _ _
        have hCW : CellsF W wr.heap.size [.int .i64 ((k : Int) + 1), .string xs, .string xl, .int .i64 xq, .int .i64 xt, .int .i64 xd] := by rw [← hW]; exact (CellsF.at _ 44 (by simp) rfl).next (below1 _ _)
        have hDW : CellsF W (wr.heap.size + 1) [.int .i64 2, .string xs, .string xl, .string ⟨#[]⟩, .int .i64 xq, .int .i64 0, .int .i64 xd] := by rw [← hW]; exact CellsF.at _ 28 (by simp) (size_alloc _ _).symm
        have HCW : Hid _ := hCW
        have HBW : Hid (Below w.heap.size w W) := Below.next HI.out.1 hBW
        have HWW : Hid ((wr.alloc (.cells #[.int .i64 ((k : Int) + 1), .string xs, .string xl, .int .i64 xq, .int .i64 xt, .int .i64 xd] 44)).alloc (.cells #[.int .i64 2, .string xs, .string xl, .string ⟨#[]⟩, .int .i64 xq, .int .i64 0, .int .i64 xd] 28) = W) := hW
        clear hCW hBW hDW hW
        by_cases hnm : mayO 2 xs xl ⟨#[]⟩ xq 0 xd
        · have HNM : Hid _ := (mayO_hold xs xl xq xd).1 hnm
          rw [if_pos hnm] at HC
          clear hnm
          go_wp2_with fail
          rw [HWW.out]
          refine Calls.mono (HC.out _) ?_; rintro e w1 ⟨rfl, k1⟩
          have HB1 : Hid (Below w.heap.size w w1) := Below.next HBW.out k1
          have yy4 := (HCW.out.next k1).cs 4 _ rfl
          have yy5 := (HCW.out.next k1).cs 5 _ rfl
          clear k1
          by_cases h0 : xt < 0
          · have HE : Hid (z = false) := HNO.out (fun q => by have h2 : (0 : Int) ≤ xt := q.2.2.2.2.2.1; omega)
            go_wp2_with fail
            go_ret
            exact ⟨by rw [HE.out]; rfl, HB1.out⟩
          · by_cases h1 : 2 < xt
            · have HE : Hid (z = false) := HNO.out (fun q => by have h2 : xt ≤ (2 : Int) := q.2.2.2.2.2.2; omega)
              go_wp2_with fail
              go_ret
              exact ⟨by rw [HE.out]; rfl, HB1.out⟩
            · have HOK : Hid (okH k ⟨(k : Int) + 1, xs, xl, xq, xt, xd⟩) := ⟨rfl, HNM.out.1, HNM.out.2.1, HNM.out.2.2.1, HNM.out.2.2.2, (show (0 : Int) ≤ xt by omega), (show xt ≤ (2 : Int) by omega)⟩
              go_wp2_with fail
              go_roundw
              case rel => exact ⟨k + 1, by omega, by go_num, HB1.out, fun i h q => by
                  by_cases c : i = k
                  · subst c; rw [HX.out]; exact HOK.out
                  · exact HI.out.2 i h (by omega)⟩
              case measure => simp [intOf]; omega
        · have HE : Hid (z = false) := HNO.out (fun q => hnm ((mayO_hold xs xl xq xd).2 ⟨q.2.1, q.2.2.1, q.2.2.2.1, q.2.2.2.2.1⟩))
          rw [if_neg hnm] at HC
          clear hnm
          go_wp2_with fail
          rw [HWW.out]
          refine Calls.mono (HC.out _) ?_; rintro e w1 ⟨rfl, k1⟩
          have HB1 : Hid (Below w.heap.size w w1) := Below.next HBW.out k1
          have yy4 := (HCW.out.next k1).cs 4 _ rfl
          have yy5 := (HCW.out.next k1).cs 5 _ rfl
          clear k1
          go_wp2_with fail
          go_ret
          exact ⟨by rw [HE.out]; rfl, HB1.out⟩
      · have HE : Hid (z = false) := HNO.out (fun q => hid q.1)
        obtain ⟨W, hW⟩ : ∃ W, (wr.alloc (.cells #[.int .i64 xi, .string xs, .string xl, .int .i64 xq, .int .i64 xt, .int .i64 xd] 44)).alloc (.cells #[.int .i64 2, .string xs, .string xl, .string ⟨#[]⟩, .int .i64 xq, .int .i64 0, .int .i64 xd] 28) = W := ⟨_, rfl⟩
        have hBW : Below wr.heap.size wr W := hW ▸ below2 _ _ _
        have hCW : CellsF W wr.heap.size [.int .i64 xi, .string xs, .string xl, .int .i64 xq, .int .i64 xt, .int .i64 xd] := by rw [← hW]; exact (CellsF.at _ 44 (by simp) rfl).next (below1 _ _)
        have hDW : CellsF W (wr.heap.size + 1) [.int .i64 2, .string xs, .string xl, .string ⟨#[]⟩, .int .i64 xq, .int .i64 0, .int .i64 xd] := by rw [← hW]; exact CellsF.at _ 28 (by simp) (size_alloc _ _).symm
        have HCW : Hid _ := hCW
        have HBW : Hid (Below w.heap.size w W) := Below.next HI.out.1 hBW
        have HWW : Hid ((wr.alloc (.cells #[.int .i64 xi, .string xs, .string xl, .int .i64 xq, .int .i64 xt, .int .i64 xd] 44)).alloc (.cells #[.int .i64 2, .string xs, .string xl, .string ⟨#[]⟩, .int .i64 xq, .int .i64 0, .int .i64 xd] 28) = W) := hW
        clear hCW hBW hDW hW
        have hb : (xi != (k : Int) + 1) = true := by simpa using hid
        clear hid
        go_wp2_with fail
        go_ret
        exact ⟨by rw [HE.out]; rfl, by rw [HWW.out]; exact HBW.out⟩
    · have hlti : ¬ (k : Int) < (n : Int) := by omega
      have HE : Hid (z = true) := by
        show z = true
        rw [← HZ.out]
        exact decide_eq_true (fun i hi => HI.out.2 i hi (by have := HL.out; omega))
      go_wp2_with fail
      go_ret
      exact ⟨by rw [HE.out]; rfl, HI.out.1⟩
set_option maxHeartbeats 2000000 in
theorem mayMoves_is (a : Option Addr) (c n : Nat) (l : List Mov) (hn : l.length = n) (hm : n ≤ 1000000000000) (w : World) (hr : Rw mvv 6 w a l) :
    Calls Try.prog 43 #[.slice a n c] w fun e w' => e = .returned (.bool (decide (mayM l))) ∧ Below w.heap.size w w' := by
  obtain ⟨z, hz⟩ : ∃ z, decide (mayM l) = z := ⟨_, rfl⟩
  rw [hz]
  have HZ : Hid (decide (mayM l) = z) := hz
  have HL : Hid (l.length = n) := hn
  have HR : Hid (Rw mvv 6 w a l) := hr
  clear hz hn hr
  go_enter Try.func43, Try.ntmps43
  go_wp2_with fail
  go_loopw [8] (fun vi wr => ∃ k : Nat, k ≤ n ∧ vi = .int .i64 k ∧ Hid (Below w.heap.size w wr ∧ ∀ i (h : i < l.length), i < k → okM i l[i]))
    (fun vi _ => n - (intOf vi).toNat)
  case atStart => exact ⟨0, Nat.zero_le _, rfl, Below.refl _ _, fun i h q => absurd q (Nat.not_lt_zero _)⟩
  case round =>
    obtain ⟨k, hk, rfl, HI⟩ := hrel
    by_cases hlt : k < n
    · have hlti : (k : Int) < (n : Int) := by omega
      have hkl : k < l.length := by have := HL.out; omega
      obtain ⟨b, o, rfl, hb, hc⟩ := HR.out.mov (fun e => by rw [e] at hkl; simp at hkl)
      have hx := (hc k hkl).next (HI.out.1.block b hb)
      obtain ⟨x, hxk⟩ : ∃ x, l[k] = x := ⟨_, rfl⟩
      rw [hxk] at hx
      obtain ⟨x0, x1, x2, x3, x4, x5⟩ := hx
      have HX : Hid (l[k] = x) := hxk
      clear hc hb hxk
      have HNO : Hid (¬ okM k x → z = false) := fun q => by rw [← HZ.out]; exact decide_eq_false (fun e => q (HX.out ▸ e _ hkl))
      obtain ⟨xi, xs, xl, xq, xt, xd⟩ := x
      dsimp only at x0 x1 x2 x3 x4 x5
      have HC : Hid _ := fun w => checkO_is 7 xs xl ⟨#[]⟩ xq 0 0 w
      have HCS : Hid _ := fun w => mayCause_is xt xd w
      by_cases hid : xi = (k : Int) + 1
      · subst hid
        obtain ⟨W, hW⟩ : ∃ W, (wr.alloc (.cells #[.int .i64 ((k : Int) + 1), .string xs, .string xl, .int .i64 xq, .int .i64 xt, .int .i64 xd] 42)).alloc (.cells #[.int .i64 7, .string xs, .string xl, .string ⟨#[]⟩, .int .i64 xq, .int .i64 0, .int .i64 0] 28) = W := ⟨_, rfl⟩
        have hBW : Below wr.heap.size wr W := hW ▸ below2 _ _ _
        have hCW : CellsF W wr.heap.size [.int .i64 ((k : Int) + 1), .string xs, .string xl, .int .i64 xq, .int .i64 xt, .int .i64 xd] := by rw [← hW]; exact (CellsF.at _ 42 (by simp) rfl).next (below1 _ _)
        have hDW : CellsF W (wr.heap.size + 1) [.int .i64 7, .string xs, .string xl, .string ⟨#[]⟩, .int .i64 xq, .int .i64 0, .int .i64 0] := by rw [← hW]; exact CellsF.at _ 28 (by simp) (size_alloc _ _).symm
        have HCW : Hid _ := hCW
        have HBW : Hid (Below w.heap.size w W) := Below.next HI.out.1 hBW
        have HWW : Hid ((wr.alloc (.cells #[.int .i64 ((k : Int) + 1), .string xs, .string xl, .int .i64 xq, .int .i64 xt, .int .i64 xd] 42)).alloc (.cells #[.int .i64 7, .string xs, .string xl, .string ⟨#[]⟩, .int .i64 xq, .int .i64 0, .int .i64 0] 28) = W) := hW
        clear hCW hBW hDW hW
        by_cases hnm : mayO 7 xs xl ⟨#[]⟩ xq 0 0
        · have HNM : Hid _ := (mayO_adjust xs xl xq).1 hnm
          rw [if_pos hnm] at HC
          clear hnm
          go_wp2_with fail
          rw [HWW.out]
          refine Calls.mono (HC.out _) ?_; rintro e w1 ⟨rfl, k1⟩
          have HB1 : Hid (Below w.heap.size w w1) := Below.next HBW.out k1
          have yy4 := (HCW.out.next k1).cs 4 _ rfl
          have yy5 := (HCW.out.next k1).cs 5 _ rfl
          clear k1
          by_cases h0 : cause xt xd
          · have HOK : Hid (okM k ⟨(k : Int) + 1, xs, xl, xq, xt, xd⟩) := ⟨rfl, HNM.out.1, HNM.out.2.1, HNM.out.2.2, h0⟩
            rw [decide_eq_true h0] at HCS
            clear h0
            go_wp2_with fail
            refine Calls.mono (HCS.out _) ?_; rintro e w2 ⟨rfl, rfl⟩
            go_wp2_with fail
            go_roundw
            case rel => exact ⟨k + 1, by omega, by go_num, HB1.out, fun i h q => by
                by_cases c : i = k
                · subst c; rw [HX.out]; exact HOK.out
                · exact HI.out.2 i h (by omega)⟩
            case measure => simp [intOf]; omega
          · have HE : Hid (z = false) := HNO.out (fun q => h0 q.2.2.2.2)
            rw [decide_eq_false h0] at HCS
            clear h0
            go_wp2_with fail
            refine Calls.mono (HCS.out _) ?_; rintro e w2 ⟨rfl, rfl⟩
            go_wp2_with fail
            go_ret
            exact ⟨by rw [HE.out]; rfl, HB1.out⟩
        · have HE : Hid (z = false) := HNO.out (fun q => hnm ((mayO_adjust xs xl xq).2 ⟨q.2.1, q.2.2.1, q.2.2.2.1⟩))
          rw [if_neg hnm] at HC
          clear hnm
          go_wp2_with fail
          rw [HWW.out]
          refine Calls.mono (HC.out _) ?_; rintro e w1 ⟨rfl, k1⟩
          have HB1 : Hid (Below w.heap.size w w1) := Below.next HBW.out k1
          have yy4 := (HCW.out.next k1).cs 4 _ rfl
          have yy5 := (HCW.out.next k1).cs 5 _ rfl
          clear k1
          go_wp2_with fail
          go_ret
          exact ⟨by rw [HE.out]; rfl, HB1.out⟩
      · have HE : Hid (z = false) := HNO.out (fun q => hid q.1)
        obtain ⟨W, hW⟩ : ∃ W, (wr.alloc (.cells #[.int .i64 xi, .string xs, .string xl, .int .i64 xq, .int .i64 xt, .int .i64 xd] 42)).alloc (.cells #[.int .i64 7, .string xs, .string xl, .string ⟨#[]⟩, .int .i64 xq, .int .i64 0, .int .i64 0] 28) = W := ⟨_, rfl⟩
        have hBW : Below wr.heap.size wr W := hW ▸ below2 _ _ _
        have hCW : CellsF W wr.heap.size [.int .i64 xi, .string xs, .string xl, .int .i64 xq, .int .i64 xt, .int .i64 xd] := by rw [← hW]; exact (CellsF.at _ 42 (by simp) rfl).next (below1 _ _)
        have hDW : CellsF W (wr.heap.size + 1) [.int .i64 7, .string xs, .string xl, .string ⟨#[]⟩, .int .i64 xq, .int .i64 0, .int .i64 0] := by rw [← hW]; exact CellsF.at _ 28 (by simp) (size_alloc _ _).symm
        have HCW : Hid _ := hCW
        have HBW : Hid (Below w.heap.size w W) := Below.next HI.out.1 hBW
        have HWW : Hid ((wr.alloc (.cells #[.int .i64 xi, .string xs, .string xl, .int .i64 xq, .int .i64 xt, .int .i64 xd] 42)).alloc (.cells #[.int .i64 7, .string xs, .string xl, .string ⟨#[]⟩, .int .i64 xq, .int .i64 0, .int .i64 0] 28) = W) := hW
        clear hCW hBW hDW hW
        have hb : (xi != (k : Int) + 1) = true := by simpa using hid
        clear hid
        go_wp2_with fail
        go_ret
        exact ⟨by rw [HE.out]; rfl, by rw [HWW.out]; exact HBW.out⟩
    · have hlti : ¬ (k : Int) < (n : Int) := by omega
      have HE : Hid (z = true) := by
        show z = true
        rw [← HZ.out]
        exact decide_eq_true (fun i hi => HI.out.2 i hi (by have := HL.out; omega))
      go_wp2_with fail
      go_ret
      exact ⟨by rw [HE.out]; rfl, HI.out.1⟩
end Go.Proofs.Ytflbcheofmljeaa
