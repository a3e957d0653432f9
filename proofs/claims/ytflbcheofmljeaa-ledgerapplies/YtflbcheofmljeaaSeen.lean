/- ledger: finder, seen. -/
import Derived.Test.YtflbcheofmljeaaBin
import Derived.Test.YtflbcheofmljeaaSmall
import Derived.Test.YtflbcheofmljeaaMem
namespace Go.Proofs.Ytflbcheofmljeaa
open Go.ChangeShapes Go.WideShapes Go.RowKit
set_option linter.unusedVariables false
set_option maxRecDepth 100000

/-- The stock of a sku at a place; none of it: noughts. -/
def findK (l : List Stk) (sku loc : ByteArray) : Stk := (l.find? (isK sku loc)).getD ⟨sku, loc, 0, 0⟩
theorem findK_no {l : List Stk} {sku loc : ByteArray} (h : hasK l sku loc = false) : findK l sku loc = ⟨sku, loc, 0, 0⟩ := by
  unfold findK
  rw [List.find?_eq_none.2 (fun x hx => by
    unfold hasK at h
    rw [List.any_eq_false] at h
    simpa using h x hx)]
  rfl
theorem findK_yes {l : List Stk} (hs : Rises l) {sku loc : ByteArray} (h : hasK l sku loc = true) : ∃ hp : posK l sku loc < l.length, findK l sku loc = l[posK l sku loc] := by
  obtain ⟨hp, e⟩ := (hasK_iff hs sku loc).1 h
  refine ⟨hp, ?_⟩
  unfold findK
  cases hf : l.find? (isK sku loc) with
  | none =>
    have := List.find?_eq_none.1 hf _ (List.getElem_mem hp)
    exact absurd (decide_eq_true e) this
  | some x =>
    have hx := List.find?_some hf
    have hm := List.mem_of_find?_eq_some hf
    obtain ⟨i, hi, rfl⟩ := List.getElem_of_mem hm
    have := posK_of hs hi (of_decide_eq_true hx)
    simp only [this]
    rfl
theorem findK_key (l : List Stk) (sku loc : ByteArray) : (findK l sku loc).sku = sku ∧ (findK l sku loc).loc = loc := by
  unfold findK
  cases hf : l.find? (isK sku loc) with
  | none => exact ⟨rfl, rfl⟩
  | some x =>
    have hx := List.find?_some hf
    exact of_decide_eq_true hx
theorem findK_mem {l : List Stk} {sku loc : ByteArray} (h : hasK l sku loc = true) : findK l sku loc ∈ l := by
  unfold findK
  cases hf : l.find? (isK sku loc) with
  | none =>
    obtain ⟨x, hx, e⟩ := List.any_eq_true.1 h
    exact absurd e (List.find?_eq_none.1 hf x hx)
  | some x => exact List.mem_of_find?_eq_some hf

theorem finder_is (v : Value) (a : Option Addr) (n c : Nat) (hv : v = .slice a n c) (w : World) : Calls Try.prog 64 #[v] w fun e w' => e = .returned (.func (.func 81) #[] #[.pointer (some ⟨w.heap.size, 0, none⟩)]) ∧ w' = w.alloc (.cells #[.slice a n c] 22) := by
  subst hv
  go_enter Try.func64, Try.ntmps64
  go_wp2_with fail
  go_ret
  exact ⟨rfl, rfl⟩
theorem found_is (a : Option Addr) (c n : Nat) (l : List Stk) (hn : l.length = n) (hs : Rises l) (hm : n ≤ 1000000000000) (sku loc : ByteArray) (B : Nat) (w : World) (hB : w.cell? ⟨B, 0, none⟩ = some (.slice a n c)) (hr : Rw stv 4 w a l) :
    Calls Try.prog 81 #[.string sku, .string loc, .pointer (some ⟨B, 0, none⟩)] w fun e w' => e = .returned (.tuple #[.int .i64 (posK l sku loc : Nat), .bool (hasK l sku loc)]) ∧ Below w.heap.size w w' := by
  have HS : Hid _ := bsearch_is a c n l hn hs hm sku loc 0 0 w hr
  clear hn hs hr
  obtain ⟨p, hp⟩ : ∃ p, posK l sku loc = p := ⟨_, rfl⟩
  obtain ⟨z, hz⟩ : ∃ z, hasK l sku loc = z := ⟨_, rfl⟩
  rw [hp, hz] at HS ⊢
  clear hp hz
  go_enter Try.func81, Try.ntmps81
  go_wp2_with fail
  refine Calls.mono HS.out ?_; rintro e w1 ⟨rfl, k1⟩
  have HB : Hid (Below w.heap.size w w1) := k1
  clear k1
  go_wp2_with fail
  go_ret2
  exact ⟨rfl, HB.out⟩
set_option maxHeartbeats 2000000 in
theorem seen_is (a0 : Option Addr) (n0 c0 : Nat) (a1 : Option Addr) (n1 c1 : Nat) (a2 : Option Addr) (n2 c2 : Nat) (ops : Int) (l : List Stk) (hn : l.length = n0) (hs : Rises l) (hm : n0 ≤ 1000000000000) (sku loc : ByteArray) (w : World) (hr : Rw stv 4 w a0 l) :
    Calls Try.prog 85 #[lval a0 n0 c0 a1 n1 c1 a2 n2 c2 ops, .string sku, .string loc] w fun e w' => e = .returned (.tuple #[sval (findK l sku loc), .int .i64 (if hasK l sku loc then 0 else 1)]) ∧ Below w.heap.size w w' := by
  obtain ⟨W1, hW1⟩ : ∃ W1, (w.alloc (.cells #[.slice a0 n0 c0, .slice a1 n1 c1, .slice a2 n2 c2, .int .i64 ops] 26)).alloc (.cells #[.string ⟨#[]⟩, .string ⟨#[]⟩, .int .i64 0, .int .i64 0] 50) = W1 := ⟨_, rfl⟩
  have hB1 : Below w.heap.size w W1 := hW1 ▸ below2 _ _ _
  have hz1 : W1.heap.size = w.heap.size + 1 + 1 := by rw [← hW1, size_alloc, size_alloc]
  have hL : CellsF W1 w.heap.size [.slice a0 n0 c0, .slice a1 n1 c1, .slice a2 n2 c2, .int .i64 ops] := by rw [← hW1]; exact (CellsF.at _ 26 (by simp) rfl).next (below1 _ _)
  have hR : CellsF W1 (w.heap.size + 1) [.string ⟨#[]⟩, .string ⟨#[]⟩, .int .i64 0, .int .i64 0] := by rw [← hW1]; exact CellsF.at _ 50 (by simp) (size_alloc _ _).symm
  obtain ⟨W, hW⟩ : ∃ W, W1.alloc (.cells #[.slice a0 n0 c0] 22) = W := ⟨_, rfl⟩
  have hBW : Below W1.heap.size W1 W := hW ▸ below1 _ _
  have hF : CellsF W W1.heap.size [.slice a0 n0 c0] := by rw [← hW]; exact CellsF.at _ 22 (by simp) rfl
  have HF : Hid _ := finder_is (.slice a0 n0 c0) a0 n0 c0 rfl W1
  rw [hW] at HF
  have HG : Hid _ := found_is a0 c0 n0 l hn hs hm sku loc W1.heap.size W (hF.cs 0 _ rfl) (hr.next stv_ne (Below.next hB1 hBW))
  have HC : Hid (CellsF W w.heap.size [.slice a0 n0 c0, .slice a1 n1 c1, .slice a2 n2 c2, .int .i64 ops] ∧ CellsF W (w.heap.size + 1) [.string ⟨#[]⟩, .string ⟨#[]⟩, .int .i64 0, .int .i64 0] ∧ Below w.heap.size w W) := ⟨hL.next hBW, hR.next hBW, Below.next hB1 hBW⟩
  have HR : Hid (Rw stv 4 w a0 l) := hr
  have HN : Hid (l.length = n0) := hn
  obtain ⟨B, hB⟩ : ∃ B, W1.heap.size = B := ⟨_, rfl⟩
  rw [hB] at HF HG
  have l0 : W1.cell? ⟨w.heap.size, 0, none⟩ = some (.slice a0 n0 c0) := hL.cs 0 _ rfl
  clear hF hBW hB1 hr hL hR hz1 hW hB
  cases hk : hasK l sku loc with
  | false =>
    rw [findK_no hk]
    rw [hk] at HG
    obtain ⟨p, hp⟩ : ∃ p, posK l sku loc = p := ⟨_, rfl⟩
    rw [hp] at HG
    clear hp hk hs hn
    go_enter Try.func85, Try.ntmps85
    go_wp2_with fail
    try rw [hW1]
    go_wp2_with fail
    refine Calls.mono HF.out ?_; rintro e w1 ⟨rfl, rfl⟩
    go_wp2_with fail
    refine Calls.mono HG.out ?_; rintro e w2 ⟨rfl, k2⟩
    have HC2 : Hid (CellsF w2 (w.heap.size + 1) [.string ⟨#[]⟩, .string ⟨#[]⟩, .int .i64 0, .int .i64 0] ∧ Below w.heap.size w w2) := ⟨HC.out.2.1.next k2, Below.next HC.out.2.2 k2⟩
    clear k2
    have z0 := HC2.out.1.cs 0 _ rfl
    have z1 := HC2.out.1.cs 1 _ rfl
    have z2 := HC2.out.1.cs 2 _ rfl
    have z3 := HC2.out.1.cs 3 _ rfl
    have f0 := HC2.out.1.fz 0
    have f1 := HC2.out.1.fz 1
    have f2 := HC2.out.1.fz 2
    have f3 := HC2.out.1.fz 3
    go_wp2_with fail
    try simp only [Exit.inBlock, Exit.then]
    refine bodyPost_ret (end_cell_tmp rfl rfl (loadStk _ (HC2.out.1.four rfl _ _ _ _) rfl)) rfl ?_
    exact ⟨rfl, below_four HC2.out.2 _ (by omega) _ _ _ _⟩
  | true =>
    obtain ⟨hp, he⟩ := findK_yes hs hk
    rw [he]
    rw [hk] at HG
    obtain ⟨b, o, rfl, hb, hc⟩ := HR.out.stk (fun e => by rw [e] at hp; simp at hp)
    have hx := hc _ hp
    generalize l[posK l sku loc] = x at *
    obtain ⟨p, hpp⟩ : ∃ p, posK l sku loc = p := ⟨_, rfl⟩
    rw [hpp] at HG hx
    have hpn : p < n0 := by rw [← hn, ← hpp]; exact hp
    have HX : Hid (StkAt w b (o + p * 4) x ∧ b < w.heap.size) := ⟨hx, hb⟩
    clear hp hpp hk hs hn hc hx he hb HR
    go_enter Try.func85, Try.ntmps85
    go_wp2_with fail
    try rw [hW1]
    go_wp2_with fail
    refine Calls.mono HF.out ?_; rintro e w1 ⟨rfl, rfl⟩
    go_wp2_with fail
    refine Calls.mono HG.out ?_; rintro e w2 ⟨rfl, k2⟩
    have HC2 : Hid (CellsF w2 (w.heap.size + 1) [.string ⟨#[]⟩, .string ⟨#[]⟩, .int .i64 0, .int .i64 0] ∧ Below w.heap.size w w2) := ⟨HC.out.2.1.next k2, Below.next HC.out.2.2 k2⟩
    have l2 := (HC.out.1.next k2).cs 0 _ rfl
    obtain ⟨x0, x1, x2, x3⟩ := HX.out.1.next (HC2.out.2.block b HX.out.2)
    clear k2
    have z0 := HC2.out.1.cs 0 _ rfl
    have z1 := HC2.out.1.cs 1 _ rfl
    have z2 := HC2.out.1.cs 2 _ rfl
    have z3 := HC2.out.1.cs 3 _ rfl
    have f0 := HC2.out.1.fz 0
    have f1 := HC2.out.1.fz 1
    have f2 := HC2.out.1.fz 2
    have f3 := HC2.out.1.fz 3
    go_wp2_with fail
    try simp only [Exit.inBlock, Exit.then]
    refine bodyPost_ret (end_cell_tmp rfl rfl (loadStk _ (HC2.out.1.four rfl _ _ _ _) rfl)) rfl ?_
    exact ⟨rfl, below_four HC2.out.2 _ (by omega) _ _ _ _⟩
end Go.Proofs.Ytflbcheofmljeaa
