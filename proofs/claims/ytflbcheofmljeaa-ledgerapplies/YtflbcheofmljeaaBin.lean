/- slices.BinarySearchFunc over stocks that rise. -/
import Derived.Test.YtflbcheofmljeaaOrder
namespace Go.Proofs.Ytflbcheofmljeaa
open Go.ChangeShapes Go.WideShapes Go.RowKit
set_option linter.unusedVariables false
set_option maxRecDepth 100000

/-- Stocks that rise. -/
def Rises (l : List Stk) : Prop := l.Pairwise (fun a b => cmpK a.sku a.loc b.sku b.loc = -1)
/-- Is it that stock? Does it stand ahead of it? -/
def isK (sku loc : ByteArray) (x : Stk) : Bool := decide (x.sku = sku ∧ x.loc = loc)
def lessK (sku loc : ByteArray) (x : Stk) : Bool := decide (cmpK x.sku x.loc sku loc = -1)
/-- Where a stock stands, or would come to stand; whether it is there. -/
def posK (l : List Stk) (sku loc : ByteArray) : Nat := (l.takeWhile (lessK sku loc)).length
def hasK (l : List Stk) (sku loc : ByteArray) : Bool := l.any (isK sku loc)
theorem Rises.tail {x : Stk} {l : List Stk} (h : Rises (x :: l)) : Rises l := (List.pairwise_cons.1 h).2
theorem posK_le (l : List Stk) (sku loc : ByteArray) : posK l sku loc ≤ l.length := (List.takeWhile_prefix _).length_le
theorem posK_lt (l : List Stk) (sku loc : ByteArray) : ∀ i (h : i < l.length), i < posK l sku loc → cmpK l[i].sku l[i].loc sku loc = -1 := by
  induction l with
  | nil => intro i h; cases h
  | cons x r ih =>
    intro i h hp
    unfold posK at hp
    rw [List.takeWhile_cons] at hp
    by_cases c : lessK sku loc x = true
    · rw [if_pos c] at hp
      cases i with
      | zero => exact of_decide_eq_true c
      | succ i => exact ih i (by simpa using h) (by unfold posK; simpa using hp)
    · rw [if_neg c] at hp
      cases hp
theorem posK_ge (l : List Stk) (hs : Rises l) (sku loc : ByteArray) : ∀ i (h : i < l.length), posK l sku loc ≤ i → ¬ cmpK l[i].sku l[i].loc sku loc = -1 := by
  induction l with
  | nil => intro i h; cases h
  | cons x r ih =>
    intro i h hp
    unfold posK at hp
    rw [List.takeWhile_cons] at hp
    by_cases c : lessK sku loc x = true
    · rw [if_pos c] at hp
      cases i with
      | zero => simp at hp
      | succ i => exact ih hs.tail i (by simpa using h) (by unfold posK; simpa using hp)
    · have c' : ¬ cmpK x.sku x.loc sku loc = -1 := fun e => c (decide_eq_true e)
      cases i with
      | zero => exact c'
      | succ i =>
        intro e
        have hm : (r[i]'(by simpa using h)) ∈ r := List.getElem_mem _
        exact c' (cmpK_through ((List.pairwise_cons.1 hs).1 _ hm) e)
theorem posK_of {l : List Stk} (hs : Rises l) {sku loc : ByteArray} {i : Nat} (h : i < l.length) (e : l[i].sku = sku ∧ l[i].loc = loc) : posK l sku loc = i := by
  have h0 : cmpK l[i].sku l[i].loc sku loc = 0 := cmpK_zero.2 e
  rcases Nat.lt_trichotomy (posK l sku loc) i with c | c | c
  · exfalso
    have hp : posK l sku loc < l.length := by omega
    have h1 := posK_ge l hs sku loc _ hp (Nat.le_refl _)
    have h2 : cmpK l[posK l sku loc].sku l[posK l sku loc].loc l[i].sku l[i].loc = -1 := (List.pairwise_iff_getElem.1 hs) _ _ hp h c
    rw [e.1, e.2] at h2
    exact h1 h2
  · exact c
  · have := posK_lt l sku loc i h c
    omega
theorem hasK_iff {l : List Stk} (hs : Rises l) (sku loc : ByteArray) : hasK l sku loc = true ↔ ∃ h : posK l sku loc < l.length, l[posK l sku loc].sku = sku ∧ l[posK l sku loc].loc = loc := by
  constructor
  · intro h
    obtain ⟨x, hx, e⟩ := List.any_eq_true.1 h
    obtain ⟨i, hi, rfl⟩ := List.getElem_of_mem hx
    have e' := of_decide_eq_true e
    have hp := posK_of hs hi e'
    refine ⟨by omega, ?_⟩
    simp only [hp]
    exact e'
  · rintro ⟨h, e⟩
    exact List.any_eq_true.2 ⟨_, List.getElem_mem h, decide_eq_true e⟩

set_option maxHeartbeats 4000000 in
theorem bsearch_is (a : Option Addr) (c n : Nat) (l : List Stk) (hn : l.length = n) (hs : Rises l) (hm : n ≤ 1000000000000) (sx lx : ByteArray) (ox hx : Int) (w : World) (hr : Rw stv 4 w a l) :
    Calls Try.prog 82 #[.slice a n c, .agg #[.string sx, .string lx, .int .i64 ox, .int .i64 hx], .func (.func 62) #[] #[]] w fun e w' => e = .returned (.tuple #[.int .i64 (posK l sx lx : Nat), .bool (hasK l sx lx)]) ∧ Below w.heap.size w w' := by
  obtain ⟨p, hp⟩ : ∃ p, posK l sx lx = p := ⟨_, rfl⟩
  have hpl : p ≤ n := by rw [← hp, ← hn]; exact posK_le _ _ _
  have HLT : Hid (∀ i (h : i < l.length), i < p → cmpK l[i].sku l[i].loc sx lx = -1) := fun i h q => posK_lt l sx lx i h (by rw [hp]; exact q)
  have HGE : Hid (∀ i (h : i < l.length), p ≤ i → ¬ cmpK l[i].sku l[i].loc sx lx = -1) := fun i h q => posK_ge l hs sx lx i h (by rw [hp]; exact q)
  have HHAS : Hid (hasK l sx lx = true ↔ ∃ h : p < l.length, cmpK l[p].sku l[p].loc sx lx = 0) := by
    show _ ↔ _
    subst hp
    rw [hasK_iff hs]
    exact ⟨fun ⟨h, e⟩ => ⟨h, cmpK_zero.2 e⟩, fun ⟨h, e⟩ => ⟨h, cmpK_zero.1 e⟩⟩
  obtain ⟨z, hz⟩ : ∃ z, hasK l sx lx = z := ⟨_, rfl⟩
  rw [hp, hz]
  rw [hz] at HHAS
  have HRW : Hid (Rw stv 4 w a l) := hr
  have HL : Hid (l.length = n) := hn
  have HO : Hid _ := order_is
  clear hp hs hr hz hn
  go_enter Try.func82, Try.ntmps82
  go_wp2_with fail
  obtain ⟨W, hW⟩ : ∃ W, w.alloc (.cells #[.string sx, .string lx, .int .i64 ox, .int .i64 hx] 50) = W := ⟨_, rfl⟩
  have HW : Hid (Below w.heap.size w W ∧ W.heap.size = w.heap.size + 1 ∧ StkAt W w.heap.size 0 ⟨sx, lx, ox, hx⟩) := ⟨hW ▸ below1 _ _, by rw [← hW]; simp, by rw [← hW]; exact ⟨by simp, by simp, by simp, by simp⟩⟩
  try rw [hW]
  clear hW
  go_loopw [9, 10] (fun vi vj wr => ∃ i j : Nat, i ≤ p ∧ p ≤ j ∧ j ≤ n ∧ vi = .int .i64 i ∧ vj = .int .i64 j ∧ Hid (Below W.heap.size W wr))
    (fun vi vj _ => (intOf vj).toNat - (intOf vi).toNat)
  case atStart => exact ⟨0, n, Nat.zero_le _, hpl, Nat.le_refl _, rfl, rfl, Below.refl _ _⟩
  case round =>
    obtain ⟨i, j, hip, hpj, hjn, rfl, rfl, HB⟩ := hrel
    have HLESS : Hid (∀ w' w'' : World, Below W.heap.size W w' → Below w'.heap.size w' w'' → Below W.heap.size W w'') := fun _ _ h q => Below.next h q
    have HB1 : Hid (Below w.heap.size w wr) := Below.next HW.out.1 HB.out
    by_cases hij : i < j
    · have hiji : (i : Int) < (j : Int) := by omega
      obtain ⟨m, hmid⟩ : ∃ m : Nat, ((i : Int) + (j : Int)) / 2 = (m : Int) := ⟨(i + j) / 2, by omega⟩
      have him : i ≤ m := by omega
      have hmj : m < j := by omega
      have hmn : m < n := by omega
      have hl0 : l ≠ [] := fun e => by have := HL.out; rw [e] at this; simp at this; omega
      obtain ⟨b, o, rfl, hb, hc⟩ := HRW.out.stk hl0
      have hml : m < l.length := by have := HL.out; omega
      have hyw := (hc m hml).next (HB1.out.block b hb)
      have htw := HW.out.2.2.next (HB.out.block w.heap.size (by have := HW.out.2.1; omega))
      obtain ⟨r, hr⟩ : ∃ r, cmpK l[m].sku l[m].loc sx lx = r := ⟨_, rfl⟩
      by_cases hmp : m < p
      · have hr0 : r < 0 := by have := HLT.out m hml hmp; omega
        generalize l[m] = y at *
        obtain ⟨y0, y1, y2, y3⟩ := hyw
        obtain ⟨t0, t1, t2, t3⟩ := htw
        have hS0 : (Below W.heap.size W wr ∧ wr.cell? ⟨b, o + m * 4, none⟩ = some (.string y.sku) ∧ wr.cell? ⟨b, o + m * 4 + 1, none⟩ = some (.string y.loc) ∧ wr.cell? ⟨b, o + m * 4 + 2, none⟩ = some (.int .i64 y.on) ∧ wr.cell? ⟨b, o + m * 4 + 3, none⟩ = some (.int .i64 y.held) ∧ wr.cell? ⟨w.heap.size, 0, none⟩ = some (.string sx) ∧ wr.cell? ⟨w.heap.size, 1, none⟩ = some (.string lx) ∧ wr.cell? ⟨w.heap.size, 2, none⟩ = some (.int .i64 ox) ∧ wr.cell? ⟨w.heap.size, 3, none⟩ = some (.int .i64 hx)) := ⟨HB.out, y0, y1, y2, y3, t0, t1, t2, t3⟩
        have HN : Hid (∀ w' w'' : World, (Below W.heap.size W w' ∧ w'.cell? ⟨b, o + m * 4, none⟩ = some (.string y.sku) ∧ w'.cell? ⟨b, o + m * 4 + 1, none⟩ = some (.string y.loc) ∧ w'.cell? ⟨b, o + m * 4 + 2, none⟩ = some (.int .i64 y.on) ∧ w'.cell? ⟨b, o + m * 4 + 3, none⟩ = some (.int .i64 y.held) ∧ w'.cell? ⟨w.heap.size, 0, none⟩ = some (.string sx) ∧ w'.cell? ⟨w.heap.size, 1, none⟩ = some (.string lx) ∧ w'.cell? ⟨w.heap.size, 2, none⟩ = some (.int .i64 ox) ∧ w'.cell? ⟨w.heap.size, 3, none⟩ = some (.int .i64 hx)) → Below w'.heap.size w' w'' → (Below W.heap.size W w'' ∧ w''.cell? ⟨b, o + m * 4, none⟩ = some (.string y.sku) ∧ w''.cell? ⟨b, o + m * 4 + 1, none⟩ = some (.string y.loc) ∧ w''.cell? ⟨b, o + m * 4 + 2, none⟩ = some (.int .i64 y.on) ∧ w''.cell? ⟨b, o + m * 4 + 3, none⟩ = some (.int .i64 y.held) ∧ w''.cell? ⟨w.heap.size, 0, none⟩ = some (.string sx) ∧ w''.cell? ⟨w.heap.size, 1, none⟩ = some (.string lx) ∧ w''.cell? ⟨w.heap.size, 2, none⟩ = some (.int .i64 ox) ∧ w''.cell? ⟨w.heap.size, 3, none⟩ = some (.int .i64 hx))) := fun w' w'' h q => by
          have b0 := (q.cell (p := ⟨b, o + m * 4, none⟩) (World.block_lt_of_cell? w' _ (h.2.1))).trans (h.2.1)
          have b1 := (q.cell (p := ⟨b, o + m * 4 + 1, none⟩) (World.block_lt_of_cell? w' _ (h.2.2.1))).trans (h.2.2.1)
          have b2 := (q.cell (p := ⟨b, o + m * 4 + 2, none⟩) (World.block_lt_of_cell? w' _ (h.2.2.2.1))).trans (h.2.2.2.1)
          have b3 := (q.cell (p := ⟨b, o + m * 4 + 3, none⟩) (World.block_lt_of_cell? w' _ (h.2.2.2.2.1))).trans (h.2.2.2.2.1)
          have b4 := (q.cell (p := ⟨w.heap.size, 0, none⟩) (World.block_lt_of_cell? w' _ (h.2.2.2.2.2.1))).trans (h.2.2.2.2.2.1)
          have b5 := (q.cell (p := ⟨w.heap.size, 1, none⟩) (World.block_lt_of_cell? w' _ (h.2.2.2.2.2.2.1))).trans (h.2.2.2.2.2.2.1)
          have b6 := (q.cell (p := ⟨w.heap.size, 2, none⟩) (World.block_lt_of_cell? w' _ (h.2.2.2.2.2.2.2.1))).trans (h.2.2.2.2.2.2.2.1)
          have b7 := (q.cell (p := ⟨w.heap.size, 3, none⟩) (World.block_lt_of_cell? w' _ (h.2.2.2.2.2.2.2.2))).trans (h.2.2.2.2.2.2.2.2)
          exact ⟨HLESS.out _ _ h.1 q, b0, b1, b2, b3, b4, b5, b6, b7⟩
        have HSD : Hid (∀ w', (Below W.heap.size W w' ∧ w'.cell? ⟨b, o + m * 4, none⟩ = some (.string y.sku) ∧ w'.cell? ⟨b, o + m * 4 + 1, none⟩ = some (.string y.loc) ∧ w'.cell? ⟨b, o + m * 4 + 2, none⟩ = some (.int .i64 y.on) ∧ w'.cell? ⟨b, o + m * 4 + 3, none⟩ = some (.int .i64 y.held) ∧ w'.cell? ⟨w.heap.size, 0, none⟩ = some (.string sx) ∧ w'.cell? ⟨w.heap.size, 1, none⟩ = some (.string lx) ∧ w'.cell? ⟨w.heap.size, 2, none⟩ = some (.int .i64 ox) ∧ w'.cell? ⟨w.heap.size, 3, none⟩ = some (.int .i64 hx)) → (Below W.heap.size W w'.drew ∧ w'.drew.cell? ⟨b, o + m * 4, none⟩ = some (.string y.sku) ∧ w'.drew.cell? ⟨b, o + m * 4 + 1, none⟩ = some (.string y.loc) ∧ w'.drew.cell? ⟨b, o + m * 4 + 2, none⟩ = some (.int .i64 y.on) ∧ w'.drew.cell? ⟨b, o + m * 4 + 3, none⟩ = some (.int .i64 y.held) ∧ w'.drew.cell? ⟨w.heap.size, 0, none⟩ = some (.string sx) ∧ w'.drew.cell? ⟨w.heap.size, 1, none⟩ = some (.string lx) ∧ w'.drew.cell? ⟨w.heap.size, 2, none⟩ = some (.int .i64 ox) ∧ w'.drew.cell? ⟨w.heap.size, 3, none⟩ = some (.int .i64 hx))) := fun w' h => HN.out w' w'.drew h (Below.refl _ _).drew
        have HOC : Hid (∀  (w' : World), (Below W.heap.size W w' ∧ w'.cell? ⟨b, o + m * 4, none⟩ = some (.string y.sku) ∧ w'.cell? ⟨b, o + m * 4 + 1, none⟩ = some (.string y.loc) ∧ w'.cell? ⟨b, o + m * 4 + 2, none⟩ = some (.int .i64 y.on) ∧ w'.cell? ⟨b, o + m * 4 + 3, none⟩ = some (.int .i64 y.held) ∧ w'.cell? ⟨w.heap.size, 0, none⟩ = some (.string sx) ∧ w'.cell? ⟨w.heap.size, 1, none⟩ = some (.string lx) ∧ w'.cell? ⟨w.heap.size, 2, none⟩ = some (.int .i64 ox) ∧ w'.cell? ⟨w.heap.size, 3, none⟩ = some (.int .i64 hx)) → Calls Try.prog 62 #[sval y, .agg #[.string sx, .string lx, .int .i64 ox, .int .i64 hx]] w' fun e w'' => e = .returned (.int .i64 r) ∧ (Below W.heap.size W w'' ∧ w''.cell? ⟨b, o + m * 4, none⟩ = some (.string y.sku) ∧ w''.cell? ⟨b, o + m * 4 + 1, none⟩ = some (.string y.loc) ∧ w''.cell? ⟨b, o + m * 4 + 2, none⟩ = some (.int .i64 y.on) ∧ w''.cell? ⟨b, o + m * 4 + 3, none⟩ = some (.int .i64 y.held) ∧ w''.cell? ⟨w.heap.size, 0, none⟩ = some (.string sx) ∧ w''.cell? ⟨w.heap.size, 1, none⟩ = some (.string lx) ∧ w''.cell? ⟨w.heap.size, 2, none⟩ = some (.int .i64 ox) ∧ w''.cell? ⟨w.heap.size, 3, none⟩ = some (.int .i64 hx))) := fun  w' hS => (HO.out y ⟨sx, lx, ox, hx⟩ w').mono (by
          rintro e w'' ⟨he, hb⟩
          exact ⟨by rw [he]; exact congrArg (fun x => Ending.returned (Value.int .i64 x)) hr, HN.out _ _ hS hb⟩)
        clear hr hc hb HRW hl0 y0 y1 y2 y3 t0 t1 t2 t3
        go_wp2_with fail
        go_region_held (fun (w' : World) => (Below W.heap.size W w' ∧ w'.cell? ⟨b, o + m * 4, none⟩ = some (.string y.sku) ∧ w'.cell? ⟨b, o + m * 4 + 1, none⟩ = some (.string y.loc) ∧ w'.cell? ⟨b, o + m * 4 + 2, none⟩ = some (.int .i64 y.on) ∧ w'.cell? ⟨b, o + m * 4 + 3, none⟩ = some (.int .i64 y.held) ∧ w'.cell? ⟨w.heap.size, 0, none⟩ = some (.string sx) ∧ w'.cell? ⟨w.heap.size, 1, none⟩ = some (.string lx) ∧ w'.cell? ⟨w.heap.size, 2, none⟩ = some (.int .i64 ox) ∧ w'.cell? ⟨w.heap.size, 3, none⟩ = some (.int .i64 hx))) (first | (with_reducible assumption) | (with_reducible exact HSD.out _ (by with_reducible assumption))) (first | ((with_reducible refine Calls.mono (HOC.out _ (by with_reducible assumption)) ?_); rintro e w3 ⟨rfl, hS3⟩))
        all_goals (have HB3 : Hid (Below W.heap.size W w3) := hS3.1)
        all_goals go_wp2_with fail
        all_goals go_roundw
        all_goals first | exact ⟨m + 1, j, by omega, hpj, hjn, by go_num, rfl, HB3.out⟩ | (simp [intOf]; omega)
      · have hr0 : ¬ r < 0 := by
          have h1 := HGE.out m hml (by omega)
          rcases cmpK_range l[m].sku l[m].loc sx lx with q | q | q <;> omega
        generalize l[m] = y at *
        obtain ⟨y0, y1, y2, y3⟩ := hyw
        obtain ⟨t0, t1, t2, t3⟩ := htw
        have hS0 : (Below W.heap.size W wr ∧ wr.cell? ⟨b, o + m * 4, none⟩ = some (.string y.sku) ∧ wr.cell? ⟨b, o + m * 4 + 1, none⟩ = some (.string y.loc) ∧ wr.cell? ⟨b, o + m * 4 + 2, none⟩ = some (.int .i64 y.on) ∧ wr.cell? ⟨b, o + m * 4 + 3, none⟩ = some (.int .i64 y.held) ∧ wr.cell? ⟨w.heap.size, 0, none⟩ = some (.string sx) ∧ wr.cell? ⟨w.heap.size, 1, none⟩ = some (.string lx) ∧ wr.cell? ⟨w.heap.size, 2, none⟩ = some (.int .i64 ox) ∧ wr.cell? ⟨w.heap.size, 3, none⟩ = some (.int .i64 hx)) := ⟨HB.out, y0, y1, y2, y3, t0, t1, t2, t3⟩
        have HN : Hid (∀ w' w'' : World, (Below W.heap.size W w' ∧ w'.cell? ⟨b, o + m * 4, none⟩ = some (.string y.sku) ∧ w'.cell? ⟨b, o + m * 4 + 1, none⟩ = some (.string y.loc) ∧ w'.cell? ⟨b, o + m * 4 + 2, none⟩ = some (.int .i64 y.on) ∧ w'.cell? ⟨b, o + m * 4 + 3, none⟩ = some (.int .i64 y.held) ∧ w'.cell? ⟨w.heap.size, 0, none⟩ = some (.string sx) ∧ w'.cell? ⟨w.heap.size, 1, none⟩ = some (.string lx) ∧ w'.cell? ⟨w.heap.size, 2, none⟩ = some (.int .i64 ox) ∧ w'.cell? ⟨w.heap.size, 3, none⟩ = some (.int .i64 hx)) → Below w'.heap.size w' w'' → (Below W.heap.size W w'' ∧ w''.cell? ⟨b, o + m * 4, none⟩ = some (.string y.sku) ∧ w''.cell? ⟨b, o + m * 4 + 1, none⟩ = some (.string y.loc) ∧ w''.cell? ⟨b, o + m * 4 + 2, none⟩ = some (.int .i64 y.on) ∧ w''.cell? ⟨b, o + m * 4 + 3, none⟩ = some (.int .i64 y.held) ∧ w''.cell? ⟨w.heap.size, 0, none⟩ = some (.string sx) ∧ w''.cell? ⟨w.heap.size, 1, none⟩ = some (.string lx) ∧ w''.cell? ⟨w.heap.size, 2, none⟩ = some (.int .i64 ox) ∧ w''.cell? ⟨w.heap.size, 3, none⟩ = some (.int .i64 hx))) := fun w' w'' h q => by
          have b0 := (q.cell (p := ⟨b, o + m * 4, none⟩) (World.block_lt_of_cell? w' _ (h.2.1))).trans (h.2.1)
          have b1 := (q.cell (p := ⟨b, o + m * 4 + 1, none⟩) (World.block_lt_of_cell? w' _ (h.2.2.1))).trans (h.2.2.1)
          have b2 := (q.cell (p := ⟨b, o + m * 4 + 2, none⟩) (World.block_lt_of_cell? w' _ (h.2.2.2.1))).trans (h.2.2.2.1)
          have b3 := (q.cell (p := ⟨b, o + m * 4 + 3, none⟩) (World.block_lt_of_cell? w' _ (h.2.2.2.2.1))).trans (h.2.2.2.2.1)
          have b4 := (q.cell (p := ⟨w.heap.size, 0, none⟩) (World.block_lt_of_cell? w' _ (h.2.2.2.2.2.1))).trans (h.2.2.2.2.2.1)
          have b5 := (q.cell (p := ⟨w.heap.size, 1, none⟩) (World.block_lt_of_cell? w' _ (h.2.2.2.2.2.2.1))).trans (h.2.2.2.2.2.2.1)
          have b6 := (q.cell (p := ⟨w.heap.size, 2, none⟩) (World.block_lt_of_cell? w' _ (h.2.2.2.2.2.2.2.1))).trans (h.2.2.2.2.2.2.2.1)
          have b7 := (q.cell (p := ⟨w.heap.size, 3, none⟩) (World.block_lt_of_cell? w' _ (h.2.2.2.2.2.2.2.2))).trans (h.2.2.2.2.2.2.2.2)
          exact ⟨HLESS.out _ _ h.1 q, b0, b1, b2, b3, b4, b5, b6, b7⟩
        have HSD : Hid (∀ w', (Below W.heap.size W w' ∧ w'.cell? ⟨b, o + m * 4, none⟩ = some (.string y.sku) ∧ w'.cell? ⟨b, o + m * 4 + 1, none⟩ = some (.string y.loc) ∧ w'.cell? ⟨b, o + m * 4 + 2, none⟩ = some (.int .i64 y.on) ∧ w'.cell? ⟨b, o + m * 4 + 3, none⟩ = some (.int .i64 y.held) ∧ w'.cell? ⟨w.heap.size, 0, none⟩ = some (.string sx) ∧ w'.cell? ⟨w.heap.size, 1, none⟩ = some (.string lx) ∧ w'.cell? ⟨w.heap.size, 2, none⟩ = some (.int .i64 ox) ∧ w'.cell? ⟨w.heap.size, 3, none⟩ = some (.int .i64 hx)) → (Below W.heap.size W w'.drew ∧ w'.drew.cell? ⟨b, o + m * 4, none⟩ = some (.string y.sku) ∧ w'.drew.cell? ⟨b, o + m * 4 + 1, none⟩ = some (.string y.loc) ∧ w'.drew.cell? ⟨b, o + m * 4 + 2, none⟩ = some (.int .i64 y.on) ∧ w'.drew.cell? ⟨b, o + m * 4 + 3, none⟩ = some (.int .i64 y.held) ∧ w'.drew.cell? ⟨w.heap.size, 0, none⟩ = some (.string sx) ∧ w'.drew.cell? ⟨w.heap.size, 1, none⟩ = some (.string lx) ∧ w'.drew.cell? ⟨w.heap.size, 2, none⟩ = some (.int .i64 ox) ∧ w'.drew.cell? ⟨w.heap.size, 3, none⟩ = some (.int .i64 hx))) := fun w' h => HN.out w' w'.drew h (Below.refl _ _).drew
        have HOC : Hid (∀  (w' : World), (Below W.heap.size W w' ∧ w'.cell? ⟨b, o + m * 4, none⟩ = some (.string y.sku) ∧ w'.cell? ⟨b, o + m * 4 + 1, none⟩ = some (.string y.loc) ∧ w'.cell? ⟨b, o + m * 4 + 2, none⟩ = some (.int .i64 y.on) ∧ w'.cell? ⟨b, o + m * 4 + 3, none⟩ = some (.int .i64 y.held) ∧ w'.cell? ⟨w.heap.size, 0, none⟩ = some (.string sx) ∧ w'.cell? ⟨w.heap.size, 1, none⟩ = some (.string lx) ∧ w'.cell? ⟨w.heap.size, 2, none⟩ = some (.int .i64 ox) ∧ w'.cell? ⟨w.heap.size, 3, none⟩ = some (.int .i64 hx)) → Calls Try.prog 62 #[sval y, .agg #[.string sx, .string lx, .int .i64 ox, .int .i64 hx]] w' fun e w'' => e = .returned (.int .i64 r) ∧ (Below W.heap.size W w'' ∧ w''.cell? ⟨b, o + m * 4, none⟩ = some (.string y.sku) ∧ w''.cell? ⟨b, o + m * 4 + 1, none⟩ = some (.string y.loc) ∧ w''.cell? ⟨b, o + m * 4 + 2, none⟩ = some (.int .i64 y.on) ∧ w''.cell? ⟨b, o + m * 4 + 3, none⟩ = some (.int .i64 y.held) ∧ w''.cell? ⟨w.heap.size, 0, none⟩ = some (.string sx) ∧ w''.cell? ⟨w.heap.size, 1, none⟩ = some (.string lx) ∧ w''.cell? ⟨w.heap.size, 2, none⟩ = some (.int .i64 ox) ∧ w''.cell? ⟨w.heap.size, 3, none⟩ = some (.int .i64 hx))) := fun  w' hS => (HO.out y ⟨sx, lx, ox, hx⟩ w').mono (by
          rintro e w'' ⟨he, hb⟩
          exact ⟨by rw [he]; exact congrArg (fun x => Ending.returned (Value.int .i64 x)) hr, HN.out _ _ hS hb⟩)
        clear hr hc hb HRW hl0 y0 y1 y2 y3 t0 t1 t2 t3
        go_wp2_with fail
        go_region_held (fun (w' : World) => (Below W.heap.size W w' ∧ w'.cell? ⟨b, o + m * 4, none⟩ = some (.string y.sku) ∧ w'.cell? ⟨b, o + m * 4 + 1, none⟩ = some (.string y.loc) ∧ w'.cell? ⟨b, o + m * 4 + 2, none⟩ = some (.int .i64 y.on) ∧ w'.cell? ⟨b, o + m * 4 + 3, none⟩ = some (.int .i64 y.held) ∧ w'.cell? ⟨w.heap.size, 0, none⟩ = some (.string sx) ∧ w'.cell? ⟨w.heap.size, 1, none⟩ = some (.string lx) ∧ w'.cell? ⟨w.heap.size, 2, none⟩ = some (.int .i64 ox) ∧ w'.cell? ⟨w.heap.size, 3, none⟩ = some (.int .i64 hx))) (first | (with_reducible assumption) | (with_reducible exact HSD.out _ (by with_reducible assumption))) (first | ((with_reducible refine Calls.mono (HOC.out _ (by with_reducible assumption)) ?_); rintro e w3 ⟨rfl, hS3⟩))
        all_goals (have HB3 : Hid (Below W.heap.size W w3) := hS3.1)
        all_goals go_wp2_with fail
        all_goals go_roundw
        all_goals first | exact ⟨i, m, by omega, by omega, by omega, rfl, rfl, HB3.out⟩ | (simp [intOf]; omega)
    · have hiji : ¬ (i : Int) < (j : Int) := by omega
      have e1 : i = p := by omega
      subst e1
      clear HLT HGE
      by_cases hpn : i < n
      · have hpni : (i : Int) < (n : Int) := by omega
        have hl0 : l ≠ [] := fun e => by have := HL.out; rw [e] at this; simp at this; omega
        obtain ⟨b, o, rfl, hb, hc⟩ := HRW.out.stk hl0
        have hml : i < l.length := by have := HL.out; omega
        have hyw := (hc i hml).next (HB1.out.block b hb)
        have htw := HW.out.2.2.next (HB.out.block w.heap.size (by have := HW.out.2.1; omega))
        obtain ⟨r, hr⟩ : ∃ r, cmpK l[i].sku l[i].loc sx lx = r := ⟨_, rfl⟩
        have HZ : Hid (z = (r == 0)) := by
          show z = _
          have hh := HHAS.out
          by_cases hq : r = 0
          · subst hq
            exact hh.2 ⟨hml, hr⟩
          · have : (r == 0) = false := by simpa using hq
            rw [this]
            cases z with
            | false => rfl
            | true => exact absurd (by obtain ⟨_, e⟩ := hh.1 rfl; rw [← hr]; exact e) hq
        have hiw := hiji
        generalize l[i] = y at *
        obtain ⟨y0, y1, y2, y3⟩ := hyw
        obtain ⟨t0, t1, t2, t3⟩ := htw
        have hS0 : (Below W.heap.size W wr ∧ wr.cell? ⟨b, o + i * 4, none⟩ = some (.string y.sku) ∧ wr.cell? ⟨b, o + i * 4 + 1, none⟩ = some (.string y.loc) ∧ wr.cell? ⟨b, o + i * 4 + 2, none⟩ = some (.int .i64 y.on) ∧ wr.cell? ⟨b, o + i * 4 + 3, none⟩ = some (.int .i64 y.held) ∧ wr.cell? ⟨w.heap.size, 0, none⟩ = some (.string sx) ∧ wr.cell? ⟨w.heap.size, 1, none⟩ = some (.string lx) ∧ wr.cell? ⟨w.heap.size, 2, none⟩ = some (.int .i64 ox) ∧ wr.cell? ⟨w.heap.size, 3, none⟩ = some (.int .i64 hx)) := ⟨HB.out, y0, y1, y2, y3, t0, t1, t2, t3⟩
        have HN : Hid (∀ w' w'' : World, (Below W.heap.size W w' ∧ w'.cell? ⟨b, o + i * 4, none⟩ = some (.string y.sku) ∧ w'.cell? ⟨b, o + i * 4 + 1, none⟩ = some (.string y.loc) ∧ w'.cell? ⟨b, o + i * 4 + 2, none⟩ = some (.int .i64 y.on) ∧ w'.cell? ⟨b, o + i * 4 + 3, none⟩ = some (.int .i64 y.held) ∧ w'.cell? ⟨w.heap.size, 0, none⟩ = some (.string sx) ∧ w'.cell? ⟨w.heap.size, 1, none⟩ = some (.string lx) ∧ w'.cell? ⟨w.heap.size, 2, none⟩ = some (.int .i64 ox) ∧ w'.cell? ⟨w.heap.size, 3, none⟩ = some (.int .i64 hx)) → Below w'.heap.size w' w'' → (Below W.heap.size W w'' ∧ w''.cell? ⟨b, o + i * 4, none⟩ = some (.string y.sku) ∧ w''.cell? ⟨b, o + i * 4 + 1, none⟩ = some (.string y.loc) ∧ w''.cell? ⟨b, o + i * 4 + 2, none⟩ = some (.int .i64 y.on) ∧ w''.cell? ⟨b, o + i * 4 + 3, none⟩ = some (.int .i64 y.held) ∧ w''.cell? ⟨w.heap.size, 0, none⟩ = some (.string sx) ∧ w''.cell? ⟨w.heap.size, 1, none⟩ = some (.string lx) ∧ w''.cell? ⟨w.heap.size, 2, none⟩ = some (.int .i64 ox) ∧ w''.cell? ⟨w.heap.size, 3, none⟩ = some (.int .i64 hx))) := fun w' w'' h q => by
          have b0 := (q.cell (p := ⟨b, o + i * 4, none⟩) (World.block_lt_of_cell? w' _ (h.2.1))).trans (h.2.1)
          have b1 := (q.cell (p := ⟨b, o + i * 4 + 1, none⟩) (World.block_lt_of_cell? w' _ (h.2.2.1))).trans (h.2.2.1)
          have b2 := (q.cell (p := ⟨b, o + i * 4 + 2, none⟩) (World.block_lt_of_cell? w' _ (h.2.2.2.1))).trans (h.2.2.2.1)
          have b3 := (q.cell (p := ⟨b, o + i * 4 + 3, none⟩) (World.block_lt_of_cell? w' _ (h.2.2.2.2.1))).trans (h.2.2.2.2.1)
          have b4 := (q.cell (p := ⟨w.heap.size, 0, none⟩) (World.block_lt_of_cell? w' _ (h.2.2.2.2.2.1))).trans (h.2.2.2.2.2.1)
          have b5 := (q.cell (p := ⟨w.heap.size, 1, none⟩) (World.block_lt_of_cell? w' _ (h.2.2.2.2.2.2.1))).trans (h.2.2.2.2.2.2.1)
          have b6 := (q.cell (p := ⟨w.heap.size, 2, none⟩) (World.block_lt_of_cell? w' _ (h.2.2.2.2.2.2.2.1))).trans (h.2.2.2.2.2.2.2.1)
          have b7 := (q.cell (p := ⟨w.heap.size, 3, none⟩) (World.block_lt_of_cell? w' _ (h.2.2.2.2.2.2.2.2))).trans (h.2.2.2.2.2.2.2.2)
          exact ⟨HLESS.out _ _ h.1 q, b0, b1, b2, b3, b4, b5, b6, b7⟩
        have HSD : Hid (∀ w', (Below W.heap.size W w' ∧ w'.cell? ⟨b, o + i * 4, none⟩ = some (.string y.sku) ∧ w'.cell? ⟨b, o + i * 4 + 1, none⟩ = some (.string y.loc) ∧ w'.cell? ⟨b, o + i * 4 + 2, none⟩ = some (.int .i64 y.on) ∧ w'.cell? ⟨b, o + i * 4 + 3, none⟩ = some (.int .i64 y.held) ∧ w'.cell? ⟨w.heap.size, 0, none⟩ = some (.string sx) ∧ w'.cell? ⟨w.heap.size, 1, none⟩ = some (.string lx) ∧ w'.cell? ⟨w.heap.size, 2, none⟩ = some (.int .i64 ox) ∧ w'.cell? ⟨w.heap.size, 3, none⟩ = some (.int .i64 hx)) → (Below W.heap.size W w'.drew ∧ w'.drew.cell? ⟨b, o + i * 4, none⟩ = some (.string y.sku) ∧ w'.drew.cell? ⟨b, o + i * 4 + 1, none⟩ = some (.string y.loc) ∧ w'.drew.cell? ⟨b, o + i * 4 + 2, none⟩ = some (.int .i64 y.on) ∧ w'.drew.cell? ⟨b, o + i * 4 + 3, none⟩ = some (.int .i64 y.held) ∧ w'.drew.cell? ⟨w.heap.size, 0, none⟩ = some (.string sx) ∧ w'.drew.cell? ⟨w.heap.size, 1, none⟩ = some (.string lx) ∧ w'.drew.cell? ⟨w.heap.size, 2, none⟩ = some (.int .i64 ox) ∧ w'.drew.cell? ⟨w.heap.size, 3, none⟩ = some (.int .i64 hx))) := fun w' h => HN.out w' w'.drew h (Below.refl _ _).drew
        have HOC : Hid (∀  (w' : World), (Below W.heap.size W w' ∧ w'.cell? ⟨b, o + i * 4, none⟩ = some (.string y.sku) ∧ w'.cell? ⟨b, o + i * 4 + 1, none⟩ = some (.string y.loc) ∧ w'.cell? ⟨b, o + i * 4 + 2, none⟩ = some (.int .i64 y.on) ∧ w'.cell? ⟨b, o + i * 4 + 3, none⟩ = some (.int .i64 y.held) ∧ w'.cell? ⟨w.heap.size, 0, none⟩ = some (.string sx) ∧ w'.cell? ⟨w.heap.size, 1, none⟩ = some (.string lx) ∧ w'.cell? ⟨w.heap.size, 2, none⟩ = some (.int .i64 ox) ∧ w'.cell? ⟨w.heap.size, 3, none⟩ = some (.int .i64 hx)) → Calls Try.prog 62 #[sval y, .agg #[.string sx, .string lx, .int .i64 ox, .int .i64 hx]] w' fun e w'' => e = .returned (.int .i64 r) ∧ (Below W.heap.size W w'' ∧ w''.cell? ⟨b, o + i * 4, none⟩ = some (.string y.sku) ∧ w''.cell? ⟨b, o + i * 4 + 1, none⟩ = some (.string y.loc) ∧ w''.cell? ⟨b, o + i * 4 + 2, none⟩ = some (.int .i64 y.on) ∧ w''.cell? ⟨b, o + i * 4 + 3, none⟩ = some (.int .i64 y.held) ∧ w''.cell? ⟨w.heap.size, 0, none⟩ = some (.string sx) ∧ w''.cell? ⟨w.heap.size, 1, none⟩ = some (.string lx) ∧ w''.cell? ⟨w.heap.size, 2, none⟩ = some (.int .i64 ox) ∧ w''.cell? ⟨w.heap.size, 3, none⟩ = some (.int .i64 hx))) := fun  w' hS => (HO.out y ⟨sx, lx, ox, hx⟩ w').mono (by
          rintro e w'' ⟨he, hb⟩
          exact ⟨by rw [he]; exact congrArg (fun x => Ending.returned (Value.int .i64 x)) hr, HN.out _ _ hS hb⟩)
        clear hr hc hb HRW hl0 y0 y1 y2 y3 t0 t1 t2 t3
        clear HHAS
        go_wp2_with fail
        go_region_held (fun (w' : World) => (Below W.heap.size W w' ∧ w'.cell? ⟨b, o + i * 4, none⟩ = some (.string y.sku) ∧ w'.cell? ⟨b, o + i * 4 + 1, none⟩ = some (.string y.loc) ∧ w'.cell? ⟨b, o + i * 4 + 2, none⟩ = some (.int .i64 y.on) ∧ w'.cell? ⟨b, o + i * 4 + 3, none⟩ = some (.int .i64 y.held) ∧ w'.cell? ⟨w.heap.size, 0, none⟩ = some (.string sx) ∧ w'.cell? ⟨w.heap.size, 1, none⟩ = some (.string lx) ∧ w'.cell? ⟨w.heap.size, 2, none⟩ = some (.int .i64 ox) ∧ w'.cell? ⟨w.heap.size, 3, none⟩ = some (.int .i64 hx))) (first | (with_reducible assumption) | (with_reducible exact HSD.out _ (by with_reducible assumption))) (first | ((with_reducible refine Calls.mono (HOC.out _ (by with_reducible assumption)) ?_); rintro e w3 ⟨rfl, hS3⟩))
        all_goals (have HB3 : Hid (Below W.heap.size W w3) := hS3.1)
        all_goals go_wp2_with fail
        all_goals go_ret2
        all_goals exact ⟨by rw [HZ.out]; rfl, Below.next HW.out.1 HB3.out⟩
      · have hpni : ¬ (i : Int) < (n : Int) := by omega
        have HZ : Hid (z = false) := by
          show z = false
          cases z with
          | false => rfl
          | true =>
            obtain ⟨h, _⟩ := HHAS.out.1 rfl
            have := HL.out
            omega
        clear HHAS HRW
        go_wp2_with fail
        go_quiet (fail)
        go_wp2_with fail
        go_ret2
        exact ⟨by rw [HZ.out]; rfl, Below.next HW.out.1 ⟨HB.out.os, HB.out.tape, HB.out.output, HB.out.size, HB.out.block⟩⟩
end Go.Proofs.Ytflbcheofmljeaa
