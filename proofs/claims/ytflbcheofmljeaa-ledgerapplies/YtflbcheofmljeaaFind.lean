/- ledger: Find, Free. -/
import Derived.Test.YtflbcheofmljeaaSeen
namespace Go.Proofs.Ytflbcheofmljeaa
open Go.ChangeShapes Go.WideShapes Go.RowKit
set_option linter.unusedVariables false
set_option maxRecDepth 100000

theorem byte_beq {s t : ByteArray} (h : s = t) : (s.toList == t.toList) = true := by rw [h]; simp
theorem byte_bne {s t : ByteArray} (h : ¬ s = t) : (s.toList == t.toList) = false := by
  have : ¬ s.toList = t.toList := fun e => h (byte_inj e)
  simpa using this
theorem byte_deq {s t : ByteArray} (h : s = t) : decide (s.toList = t.toList) = true := by rw [h]; simp
theorem byte_dne {s t : ByteArray} (h : ¬ s = t) : decide (s.toList = t.toList) = false := by
  have : ¬ s.toList = t.toList := fun e => h (byte_inj e)
  simpa using this
theorem isK_call (x : Stk) (sku loc : ByteArray) (p q : Nat) (w : World) (hp : w.cell? ⟨p, 0, none⟩ = some (.string sku)) (hq : w.cell? ⟨q, 0, none⟩ = some (.string loc)) :
    Calls Try.prog 39 #[.agg #[.string x.sku, .string x.loc, .int .i64 x.on, .int .i64 x.held], .pointer (some ⟨p, 0, none⟩), .pointer (some ⟨q, 0, none⟩)] w fun e w' => e = .returned (.bool (isK sku loc x)) ∧ Below w.heap.size w w' := by
  obtain ⟨z, hz⟩ : ∃ z, isK sku loc x = z := ⟨_, rfl⟩
  rw [hz]
  have hp1 : p < w.heap.size := World.block_lt_of_cell? w _ hp
  have hq1 : q < w.heap.size := World.block_lt_of_cell? w _ hq
  have hp' : ∀ o, (w.alloc o).cell? ⟨p, 0, none⟩ = some (.string sku) := fun o => ((below1 w o).cell (p := ⟨p, 0, none⟩) hp1).trans hp
  have hq' : ∀ o, (w.alloc o).cell? ⟨q, 0, none⟩ = some (.string loc) := fun o => ((below1 w o).cell (p := ⟨q, 0, none⟩) hq1).trans hq
  obtain ⟨xs, xl, xo, xh⟩ := x
  by_cases c0 : xs = sku
  · subst c0
    by_cases c1 : xl = loc
    · subst c1
      have HZ : Hid (z = true) := by rw [← hz]; exact decide_eq_true ⟨rfl, rfl⟩
      clear hz
      go_enter Try.func39, Try.ntmps39
      go_wp2_with fail
      go_ret
      exact ⟨by rw [HZ.out]; rfl, below1 _ _⟩
    · have HZ : Hid (z = false) := by rw [← hz]; exact decide_eq_false (fun e => c1 e.2)
      have b1 := byte_bne c1
      clear hz
      go_enter Try.func39, Try.ntmps39
      go_wp2_with fail
      go_ret
      exact ⟨by rw [HZ.out]; rfl, below1 _ _⟩
  · have HZ : Hid (z = false) := by rw [← hz]; exact decide_eq_false (fun e => c0 e.1)
    have b0 := byte_bne c0
    clear hz
    go_enter Try.func39, Try.ntmps39
    go_wp2_with fail
    go_ret
    exact ⟨by rw [HZ.out]; rfl, below1 _ _⟩
/-- The first one's place. -/
def idxK (l : List Stk) (sku loc : ByteArray) : Nat := l.findIdx (isK sku loc)
set_option maxHeartbeats 2000000 in
theorem indexFunc_is (a : Option Addr) (c n : Nat) (l : List Stk) (hn : l.length = n) (hm : n ≤ 4611686018427387904) (sku loc : ByteArray) (p q : Nat) (w : World) (hr : Rw stv 4 w a l) (hp : w.cell? ⟨p, 0, none⟩ = some (.string sku)) (hq : w.cell? ⟨q, 0, none⟩ = some (.string loc)) :
    Calls Try.prog 38 #[.slice a n c, .func (.func 39) #[] #[.pointer (some ⟨p, 0, none⟩), .pointer (some ⟨q, 0, none⟩)]] w fun e w' => e = .returned (.int .i64 (if hasK l sku loc then (idxK l sku loc : Nat) else -1)) ∧ Below w.heap.size w w' := by
  obtain ⟨z, hz⟩ : ∃ z : Int, (if hasK l sku loc then ((idxK l sku loc : Nat) : Int) else -1) = z := ⟨_, rfl⟩
  rw [hz]
  have HZ : Hid ((if hasK l sku loc then ((idxK l sku loc : Nat) : Int) else -1) = z) := hz
  have HL : Hid (l.length = n) := hn
  have HR : Hid (Rw stv 4 w a l) := hr
  have HPQ : Hid (w.cell? ⟨p, 0, none⟩ = some (.string sku) ∧ w.cell? ⟨q, 0, none⟩ = some (.string loc)) := ⟨hp, hq⟩
  clear hz hn hr hp hq
  go_enter Try.func38, Try.ntmps38
  go_wp2_with fail
  go_loopw [8] (fun vi wr => ∃ k : Nat, k ≤ n ∧ vi = .int .i64 k ∧ Hid (Below w.heap.size w wr ∧ ∀ i (h : i < l.length), i < k → isK sku loc l[i] = false))
    (fun vi _ => n - (intOf vi).toNat)
  case atStart => exact ⟨0, Nat.zero_le _, rfl, Below.refl _ _, fun i h q => absurd q (Nat.not_lt_zero _)⟩
  case round =>
    obtain ⟨k, hk, rfl, HI⟩ := hrel
    by_cases hlt : k < n
    · have hlti : (k : Int) < (n : Int) := by omega
      have hkl : k < l.length := by have := HL.out; omega
      obtain ⟨b, o, rfl, hb, hc⟩ := HR.out.stk (fun e => by rw [e] at hkl; simp at hkl)
      have hx := (hc k hkl).next (HI.out.1.block b hb)
      have HC : Hid _ := isK_call l[k] sku loc p q wr ((HI.out.1.cell (p := ⟨p, 0, none⟩) (World.block_lt_of_cell? w _ HPQ.out.1)).trans HPQ.out.1) ((HI.out.1.cell (p := ⟨q, 0, none⟩) (World.block_lt_of_cell? w _ HPQ.out.2)).trans HPQ.out.2)
      have HY : Hid (isK sku loc l[k] = true → z = (k : Int)) := fun e => by
        rw [← HZ.out, if_pos (show hasK l sku loc = true from List.any_eq_true.2 ⟨_, List.getElem_mem hkl, e⟩)]
        have : idxK l sku loc = k := by
          unfold idxK
          exact (List.findIdx_eq hkl).2 ⟨e, fun j hj => HI.out.2 j (by omega) hj⟩
        rw [this]
      have HNX : Hid (isK sku loc l[k] = false → ∀ i (h : i < l.length), i < k + 1 → isK sku loc l[i] = false) := fun e i h q => by
        by_cases c : i = k
        · subst c; exact e
        · exact HI.out.2 i h (by omega)
      clear hc hb
      generalize l[k] = x at *
      obtain ⟨x0, x1, x2, x3⟩ := hx
      go_wp2_with fail
      refine Calls.mono HC.out ?_; rintro e w1 ⟨rfl, k1⟩
      have HB1 : Hid (Below w.heap.size w w1) := Below.next HI.out.1 k1
      clear k1 HC
      cases hz : isK sku loc x with
      | true =>
        have HE := HY.out hz
        have HE' : Hid (z = (k : Int)) := HE
        clear HE hz HY HNX
        go_wp2_with fail
        go_ret
        exact ⟨by rw [HE'.out]; rfl, HB1.out⟩
      | false =>
        have HE : Hid (∀ i (h : i < l.length), i < k + 1 → isK sku loc l[i] = false) := HNX.out hz
        clear hz HY HNX
        go_wp2_with fail
        go_roundw
        case rel => exact ⟨k + 1, by omega, by go_num, HB1.out, HE.out⟩
        case measure => simp [intOf]; omega
    · have hlti : ¬ (k : Int) < (n : Int) := by omega
      have HE : Hid (z = -1) := by
        show z = -1
        rw [← HZ.out, if_neg (fun e => by
          obtain ⟨x, hx, hi⟩ := List.any_eq_true.1 e
          obtain ⟨i, hil, rfl⟩ := List.getElem_of_mem hx
          have := HI.out.2 i hil (by have := HL.out; omega)
          rw [this] at hi
          cases hi)]
      go_wp2_with fail
      go_ret
      exact ⟨by rw [HE.out]; rfl, HI.out.1⟩
theorem findK_idx {l : List Stk} {sku loc : ByteArray} (h : hasK l sku loc = true) : ∃ hp : idxK l sku loc < l.length, findK l sku loc = l[idxK l sku loc] := by
  have hp : idxK l sku loc < l.length := List.findIdx_lt_length_of_exists (by
    obtain ⟨x, hx, e⟩ := List.any_eq_true.1 h
    exact ⟨x, hx, e⟩)
  refine ⟨hp, ?_⟩
  unfold findK
  rw [List.find?_eq_getElem?_findIdx, show List.findIdx (isK sku loc) l = idxK l sku loc from rfl, List.getElem?_eq_getElem hp]
  rfl
set_option maxHeartbeats 2000000 in
theorem find_is (a0 : Option Addr) (n0 c0 : Nat) (a1 : Option Addr) (n1 c1 : Nat) (a2 : Option Addr) (n2 c2 : Nat) (ops : Int) (l : List Stk) (hn : l.length = n0) (hm : n0 ≤ 4611686018427387904) (sku loc : ByteArray) (w : World) (hr : Rw stv 4 w a0 l) :
    Calls Try.prog 22 #[lval a0 n0 c0 a1 n1 c1 a2 n2 c2 ops, .string sku, .string loc] w fun e w' => e = .returned (sval (findK l sku loc)) ∧ Below w.heap.size w w' := by
  obtain ⟨W, hW⟩ : ∃ W, (((w.alloc (.cells #[.slice a0 n0 c0, .slice a1 n1 c1, .slice a2 n2 c2, .int .i64 ops] 26)).alloc (.cells #[.string sku] 9)).alloc (.cells #[.string loc] 9)).alloc (.cells #[.string ⟨#[]⟩, .string ⟨#[]⟩, .int .i64 0, .int .i64 0] 50) = W := ⟨_, rfl⟩
  have hB1 : Below w.heap.size w W := hW ▸ Below.next (below3 _ _ _ _) (below1 _ _)
  have hL : CellsF W w.heap.size [.slice a0 n0 c0, .slice a1 n1 c1, .slice a2 n2 c2, .int .i64 ops] := by rw [← hW]; exact (CellsF.at _ 26 (by simp) rfl).next (below3 _ _ _ _)
  have hP : CellsF W (w.heap.size + 1) [.string sku] := by rw [← hW]; exact (CellsF.at _ 9 (by simp) (size_alloc _ _).symm).next (below2 _ _ _)
  have hQ : CellsF W (w.heap.size + 1 + 1) [.string loc] := by rw [← hW]; exact (CellsF.at _ 9 (by simp) (by rw [size_alloc, size_alloc])).next (below1 _ _)
  have hR : CellsF W (w.heap.size + 1 + 1 + 1) [.string ⟨#[]⟩, .string ⟨#[]⟩, .int .i64 0, .int .i64 0] := by rw [← hW]; exact CellsF.at _ 50 (by simp) (by rw [size_alloc, size_alloc, size_alloc])
  have HI : Hid _ := indexFunc_is a0 c0 n0 l hn hm sku loc (w.heap.size + 1) (w.heap.size + 1 + 1) W (hr.next stv_ne hB1) (hP.cs 0 _ rfl) (hQ.cs 0 _ rfl)
  have HC : Hid (CellsF W w.heap.size [.slice a0 n0 c0, .slice a1 n1 c1, .slice a2 n2 c2, .int .i64 ops] ∧ CellsF W (w.heap.size + 1) [.string sku] ∧ CellsF W (w.heap.size + 1 + 1) [.string loc] ∧ CellsF W (w.heap.size + 1 + 1 + 1) [.string ⟨#[]⟩, .string ⟨#[]⟩, .int .i64 0, .int .i64 0] ∧ Below w.heap.size w W) := ⟨hL, hP, hQ, hR, hB1⟩
  have HR : Hid (Rw stv 4 w a0 l) := hr
  have l0 : W.cell? ⟨w.heap.size, 0, none⟩ = some (.slice a0 n0 c0) := hL.cs 0 _ rfl
  clear hB1 hL hP hQ hR hr
  cases hk : hasK l sku loc with
  | false =>
    rw [findK_no hk]
    rw [hk] at HI
    have HI' : Hid _ := HI.out
    simp only [Bool.false_eq_true, if_false] at HI'
    clear hk hn HI
    go_enter Try.func22, Try.ntmps22
    go_wp2_with fail
    try rw [hW]
    go_wp2_with fail
    refine Calls.mono HI'.out ?_; rintro e w2 ⟨rfl, k2⟩
    have HC2 : Hid (CellsF w2 (w.heap.size + 1 + 1 + 1) [.string ⟨#[]⟩, .string ⟨#[]⟩, .int .i64 0, .int .i64 0] ∧ Below w.heap.size w w2) := ⟨HC.out.2.2.2.1.next k2, Below.next HC.out.2.2.2.2 k2⟩
    have y0 := (HC.out.2.1.next k2).cs 0 _ rfl
    have y1 := (HC.out.2.2.1.next k2).cs 0 _ rfl
    clear k2
    have z0 := HC2.out.1.cs 0 _ rfl
    have z1 := HC2.out.1.cs 1 _ rfl
    have z2 := HC2.out.1.cs 2 _ rfl
    have z3 := HC2.out.1.cs 3 _ rfl
    have f0 := HC2.out.1.fz 0
    have f1 := HC2.out.1.fz 1
    have f2 := HC2.out.1.fz 2
    have f3 := HC2.out.1.fz 3
    go_wp2_with fail
    try simp only [Exit.inBlock, Exit.then]
    refine bodyPost_ret (end_cell rfl rfl (loadStk _ (HC2.out.1.four rfl _ _ _ _) rfl)) rfl ?_
    exact ⟨rfl, below_four HC2.out.2 _ (by omega) _ _ _ _⟩
  | true =>
    obtain ⟨hp, he⟩ := findK_idx hk
    rw [he]
    rw [hk] at HI
    obtain ⟨b, o, rfl, hb, hc⟩ := HR.out.stk (fun e => by rw [e] at hp; simp at hp)
    have hx := hc _ hp
    generalize l[idxK l sku loc] = x at *
    obtain ⟨p, hpp⟩ : ∃ p, idxK l sku loc = p := ⟨_, rfl⟩
    rw [hpp] at HI hx
    have HI' : Hid _ := HI.out
    simp only [if_true] at HI'
    have hpn : p < n0 := by rw [← hn, ← hpp]; exact hp
    have HX : Hid (StkAt w b (o + p * 4) x ∧ b < w.heap.size) := ⟨hx, hb⟩
    clear hp hpp hk hn hc hx he hb HR HI
    go_enter Try.func22, Try.ntmps22
    go_wp2_with fail
    try rw [hW]
    go_wp2_with fail
    refine Calls.mono HI'.out ?_; rintro e w2 ⟨rfl, k2⟩
    have HC2 : Hid (CellsF w2 (w.heap.size + 1 + 1 + 1) [.string ⟨#[]⟩, .string ⟨#[]⟩, .int .i64 0, .int .i64 0] ∧ Below w.heap.size w w2) := ⟨HC.out.2.2.2.1.next k2, Below.next HC.out.2.2.2.2 k2⟩
    have l2 := (HC.out.1.next k2).cs 0 _ rfl
    obtain ⟨x0, x1, x2, x3⟩ := HX.out.1.next (HC2.out.2.block b HX.out.2)
    clear k2
    have z0 := HC2.out.1.cs 0 _ rfl
    have z1 := HC2.out.1.cs 1 _ rfl
    have z2 := HC2.out.1.cs 2 _ rfl
    have z3 := HC2.out.1.cs 3 _ rfl
    have f0 := HC2.out.1.fz 0
    have f1 := HC2.out.1.fz 1
    have f2 := HC2.out.1.fz 2
    have f3 := HC2.out.1.fz 3
    go_wp2_with fail
    try simp only [Exit.inBlock, Exit.then]
    refine bodyPost_ret (end_cell rfl rfl (loadStk _ (HC2.out.1.four rfl _ _ _ _) rfl)) rfl ?_
    exact ⟨rfl, below_four HC2.out.2 _ (by omega) _ _ _ _⟩
theorem findK_fit {l : List Stk} (h : ∀ x, x ∈ l → x.fit) (sku loc : ByteArray) : (findK l sku loc).fit := by
  cases hk : hasK l sku loc with
  | true => exact h _ (findK_mem hk)
  | false => rw [findK_no hk]; exact ⟨by unfold i64b; simp, by unfold i64b; simp⟩
theorem freeL_is (a0 : Option Addr) (n0 c0 : Nat) (a1 : Option Addr) (n1 c1 : Nat) (a2 : Option Addr) (n2 c2 : Nat) (ops : Int) (l : List Stk) (hn : l.length = n0) (hm : n0 ≤ 4611686018427387904) (hf : ∀ x, x ∈ l → x.fit) (sku loc : ByteArray) (w : World) (hr : Rw stv 4 w a0 l) :
    Calls Try.prog 21 #[lval a0 n0 c0 a1 n1 c1 a2 n2 c2 ops, .string sku, .string loc] w fun e w' => e = .returned (.int .i64 (vl ((findK l sku loc).on - (findK l sku loc).held))) ∧ Below w.heap.size w w' := by
  obtain ⟨W, hW⟩ : ∃ W, w.alloc (.cells #[.slice a0 n0 c0, .slice a1 n1 c1, .slice a2 n2 c2, .int .i64 ops] 26) = W := ⟨_, rfl⟩
  have hB1 : Below w.heap.size w W := hW ▸ below1 _ _
  have HI : Hid _ := find_is a0 n0 c0 a1 n1 c1 a2 n2 c2 ops l hn hm sku loc W (hr.next stv_ne hB1)
  have hfk := findK_fit hf sku loc
  generalize findK l sku loc = x at *
  have HF : Hid _ := fun w => free_is x.sku x.loc x.on x.held hfk.on hfk.held w
  have HB : Hid (Below w.heap.size w W) := hB1
  have hL : CellsF W w.heap.size [.slice a0 n0 c0, .slice a1 n1 c1, .slice a2 n2 c2, .int .i64 ops] := by rw [← hW]; exact CellsF.at _ 26 (by simp) rfl
  have l0 := hL.cs 0 _ rfl
  have l1 := hL.cs 1 _ rfl
  have l2 := hL.cs 2 _ rfl
  have l3 := hL.cs 3 _ rfl
  obtain ⟨z, hz⟩ : ∃ z, vl (x.on - x.held) = z := ⟨_, rfl⟩
  rw [hz] at HF ⊢
  clear hB1 hr hfk hL hn hz
  go_enter Try.func21, Try.ntmps21
  go_wp2_with fail
  try rw [hW]
  go_wp2_with fail
  refine Calls.mono HI.out ?_; rintro e w2 ⟨rfl, k2⟩
  have HB2 : Hid (Below w.heap.size w w2) := Below.next HB.out k2
  clear k2
  go_wp2_with fail
  refine Calls.mono (HF.out _) ?_; rintro e w3 ⟨rfl, k3⟩
  have HB3 : Hid (Below w.heap.size w w3) := Below.next HB2.out k3
  clear k3
  go_wp2_with fail
  go_ret
  exact ⟨rfl, HB3.out⟩
end Go.Proofs.Ytflbcheofmljeaa
