/- entry: which operations may be. -/
import Derived.Test.YtflbcheofmljeaaBase
namespace Go.Proofs.Ytflbcheofmljeaa
open Go.ChangeShapes Go.WideShapes Go.RowKit
set_option linter.unusedVariables false
set_option maxRecDepth 100000
set_option maxRecDepth 100000

theorem not_nil {s : ByteArray} (h : ¬ s.size = 0) : ¬ s.toList = [] := fun e => h (by
  rw [ByteArray.toList_eq] at e
  have := congrArg List.length e
  simpa using this)
theorem nil_of {s : ByteArray} (h : s.size = 0) : s.toList = [] := by rw [empty_of h, ByteArray.toList_eq]
theorem size_nil {s : ByteArray} (h : s.toList = []) : s.size = 0 := by
  rw [ByteArray.toList_eq] at h
  have := congrArg List.length h
  simpa using this
/-- An operation as a value. -/
abbrev oo (k : Int) (sku loc to : ByteArray) (qty id due : Int) : Value := .agg #[.int .i64 k, .string sku, .string loc, .string to, .int .i64 qty, .int .i64 id, .int .i64 due]
/-- Is a text a name? -/
def name (s : ByteArray) : Prop := 1 ≤ s.size ∧ s.size ≤ 64
instance (s : ByteArray) : Decidable (name s) := by unfold name; infer_instance
/-- May an operation be? -/
def mayO (k : Int) (sku loc to : ByteArray) (qty id due : Int) : Prop :=
  (k = 1 ∧ (name sku ∧ name loc) ∧ to.size = 0 ∧ 1 ≤ qty ∧ id = 0 ∧ due = 0) ∨
  (k = 2 ∧ (name sku ∧ name loc) ∧ to.size = 0 ∧ 1 ≤ qty ∧ id = 0 ∧ 0 ≤ due) ∨
  ((k = 3 ∨ k = 4) ∧ (sku.size = 0 ∧ loc.size = 0) ∧ to.size = 0 ∧ qty = 0 ∧ 1 ≤ id ∧ due = 0) ∨
  (k = 5 ∧ (sku.size = 0 ∧ loc.size = 0) ∧ to.size = 0 ∧ qty = 0 ∧ id = 0 ∧ 0 ≤ due) ∨
  (k = 6 ∧ (name sku ∧ name loc) ∧ name to ∧ ¬ loc = to ∧ 1 ≤ qty ∧ id = 0 ∧ due = 0) ∨
  (k = 7 ∧ (name sku ∧ name loc) ∧ to.size = 0 ∧ ¬ qty = 0 ∧ id = 0 ∧ due = 0)
instance (k : Int) (sku loc to : ByteArray) (qty id due : Int) : Decidable (mayO k sku loc to qty id due) := by unfold mayO; infer_instance

theorem areNames_is (B : Nat) (l : List ByteArray) (n : Nat) (hn : l.length = n) (h3 : n ≤ 3) (w : World) (hc : ∀ i (h : i < l.length), w.cell? ⟨B, i, none⟩ = some (.string l[i])) :
    Calls Try.prog 84 #[.slice (some ⟨B, 0, none⟩) n n] w fun e w' => e = .returned (.bool (decide (∀ s, s ∈ l → name s))) ∧ Below w.heap.size w w' := by
  have HC : Hid _ := hc
  have HN : Hid _ := hn
  clear hc hn
  go_enter Try.func84, Try.ntmps84
  go_wp2_with fail
  go_loopw [7] (fun i wr => ∃ k : Nat, k ≤ n ∧ i = .int .i64 k ∧ Hid (Below w.heap.size w wr ∧ ∀ s, s ∈ l.take k → name s))
    (fun i _ => n - (intOf i).toNat)
  case atStart => exact ⟨0, Nat.zero_le _, rfl, Below.refl _ _, fun x hx => by simp at hx⟩
  case round =>
    obtain ⟨k, hk, rfl, HI⟩ := hrel
    by_cases hlt : k < n
    · have hlti : (k : Int) < (n : Int) := by omega
      have hkl : k < l.length := by have := HN.out; omega
      have c0 : wr.cell? ⟨B, k, none⟩ = some (.string l[k]) := (HI.out.1.cell (p := ⟨B, k, none⟩) (World.block_lt_of_cell? w _ (HC.out k hkl))).trans (HC.out k hkl)
      have HT : Hid (name l[k] → ∀ s, s ∈ l.take (k + 1) → name s) := fun h x hx => by
        rw [List.take_succ_eq_append_getElem hkl, List.mem_append, List.mem_singleton] at hx
        rcases hx with hx | rfl
        · exact HI.out.2 x hx
        · exact h
      have HF : Hid (¬ name l[k] → ¬ ∀ s, s ∈ l → name s) := fun h q => h (q _ (List.getElem_mem hkl))
      generalize l[k] = x at *
      by_cases h0 : x.size = 0
      · have e0 := empty_of h0
        have HF' : Hid (¬ ∀ s, s ∈ l → name s) := HF.out (fun q => by have := q.1; omega)
        subst e0
        clear HF HT
        go_wp2_with fail
        go_ret
        exact ⟨by rw [decide_eq_false HF'.out]; rfl, HI.out.1⟩
      · have hl0 := not_nil h0
        have hl1 : x.toList.isEmpty = false := by simpa using hl0
        by_cases h64 : 64 < x.size
        · have h64i : 64 < (x.size : Int) := by omega
          have HF' : Hid (¬ ∀ s, s ∈ l → name s) := HF.out (fun q => by have := q.2; omega)
          clear HF HT
          go_wp2_with fail
          go_ret
          exact ⟨by rw [decide_eq_false HF'.out]; rfl, HI.out.1⟩
        · have h64i : ¬ 64 < (x.size : Int) := by omega
          have HT' : Hid (∀ s, s ∈ l.take (k + 1) → name s) := HT.out ⟨by omega, by omega⟩
          clear HF HT
          go_wp2_with fail
          go_roundw
          case rel => exact ⟨k + 1, by omega, by go_num, HI.out.1, HT'.out⟩
          case measure => simp [intOf]; omega
    · have hlti : ¬ (k : Int) < (n : Int) := by omega
      have hall : l.take k = l := List.take_of_length_le (by have := HN.out; omega)
      have HJ : Hid (∀ s, s ∈ l → name s) := fun x hx => HI.out.2 x (by rw [hall]; exact hx)
      go_wp2_with fail
      go_ret
      exact ⟨by rw [decide_eq_true HJ.out]; rfl, HI.out.1⟩
theorem names2_is (a b : ByteArray) (w : World) (B : Nat) (hB : B = w.heap.size) : Calls Try.prog 84 #[.slice (some ⟨B, 0, none⟩) 2 2] (w.alloc (.cells #[.string a, .string b] 9)) fun e w' => e = .returned (.bool (decide (name a ∧ name b))) ∧ Below w.heap.size w w' :=
  (areNames_is B [a, b] 2 rfl (by omega) _ (fun i h => by
    subst hB
    match i, h with
    | 0, _ => simp
    | 1, _ => simp)).mono (by
    rintro e w' ⟨rfl, k⟩
    exact ⟨by simp, Below.next (below1 _ _) k⟩)
theorem names3_is (a b c : ByteArray) (w : World) (B : Nat) (hB : B = w.heap.size) : Calls Try.prog 84 #[.slice (some ⟨B, 0, none⟩) 3 3] (w.alloc (.cells #[.string a, .string b, .string c] 9)) fun e w' => e = .returned (.bool (decide ((name a ∧ name b) ∧ name c))) ∧ Below w.heap.size w w' :=
  (areNames_is B [a, b, c] 3 rfl (by omega) _ (fun i h => by
    subst hB
    match i, h with
    | 0, _ => simp
    | 1, _ => simp
    | 2, _ => simp)).mono (by
    rintro e w' ⟨rfl, k⟩
    exact ⟨by simp [and_assoc], Below.next (below1 _ _) k⟩)

/-- An operation that lies in memory. -/
structure OpAt (w : World) (b : Nat) (k : Int) (sku loc to : ByteArray) (qty id due : Int) : Prop where
  c0 : w.cell? ⟨b, 0, none⟩ = some (.int .i64 k)
  c1 : w.cell? ⟨b, 1, none⟩ = some (.string sku)
  c2 : w.cell? ⟨b, 2, none⟩ = some (.string loc)
  c3 : w.cell? ⟨b, 3, none⟩ = some (.string to)
  c4 : w.cell? ⟨b, 4, none⟩ = some (.int .i64 qty)
  c5 : w.cell? ⟨b, 5, none⟩ = some (.int .i64 id)
  c6 : w.cell? ⟨b, 6, none⟩ = some (.int .i64 due)
theorem OpAt.new (w : World) (k : Int) (sku loc to : ByteArray) (qty id due : Int) : OpAt (w.alloc (.cells #[.int .i64 k, .string sku, .string loc, .string to, .int .i64 qty, .int .i64 id, .int .i64 due] 28)) w.heap.size k sku loc to qty id due :=
  ⟨by simp, by simp, by simp, by simp, by simp, by simp, by simp⟩
theorem OpAt.next {w w' : World} {b : Nat} {k : Int} {sku loc to : ByteArray} {qty id due : Int} (h : OpAt w b k sku loc to qty id due) (q : Below w.heap.size w w') : OpAt w' b k sku loc to qty id due := by
  have hb : b < w.heap.size := World.block_lt_of_cell? w _ h.c0
  exact ⟨(q.cell (p := ⟨b, 0, none⟩) hb).trans h.c0, (q.cell (p := ⟨b, 1, none⟩) hb).trans h.c1, (q.cell (p := ⟨b, 2, none⟩) hb).trans h.c2, (q.cell (p := ⟨b, 3, none⟩) hb).trans h.c3, (q.cell (p := ⟨b, 4, none⟩) hb).trans h.c4, (q.cell (p := ⟨b, 5, none⟩) hb).trans h.c5, (q.cell (p := ⟨b, 6, none⟩) hb).trans h.c6⟩
end Go.Proofs.Ytflbcheofmljeaa
