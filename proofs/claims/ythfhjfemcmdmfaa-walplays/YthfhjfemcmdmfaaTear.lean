/- wal: what was sure is there behind a crash. -/
import Derived.Test.YthfhjfemcmdmfaaFront
namespace Go.Proofs.Ythfhjfemcmdmfaa
set_option linter.unusedVariables false

/-- Bytes from a disk's first one on that no crash takes away: they are sure, and each write that waits has them, too. -/
structure Sure (d : Dk) (L : List UInt8) : Prop where
  s : ∀ i j, j < 32 → 32 * i + j < L.length → (d.S i)[j]? = L[32 * i + j]?
  q : ∀ e, e ∈ d.Q → e.2.length = 32 ∧ ∀ j, j < 32 → 32 * e.1 + j < L.length → e.2[j]? = L[32 * e.1 + j]?

theorem behind_at (i j : Nat) (x : Option UInt8) : ∀ (Q : List (Nat × List UInt8)) (s : List UInt8), s[j]? = x → (∀ e, e ∈ Q → e.1 = i → e.2[j]? = x) → (behind s i Q)[j]? = x
  | [], s, h, _ => h
  | e :: r, s, h, hq => by
    show (behind (if e.1 = i then e.2 else s) i r)[j]? = x
    refine behind_at i j x r _ ?_ (fun y hy => hq y (List.mem_cons_of_mem _ hy))
    split
    · rename_i he; exact hq e List.mem_cons_self he
    · exact h
theorem Sure.last {d : Dk} {L : List UInt8} (h : Sure d L) (i j : Nat) (hj : j < 32) (hl : 32 * i + j < L.length) : (d.last i)[j]? = L[32 * i + j]? :=
  behind_at i j _ d.Q _ (h.s i j hj hl) (fun e he ei => by subst ei; exact (h.q e he).2 j hj hl)

theorem torn_at (L : List UInt8) : ∀ (l : List ((Nat × List UInt8) × Int)) (S : Nat → List UInt8), (∀ i j, j < 32 → 32 * i + j < L.length → (S i)[j]? = L[32 * i + j]?) →
    (∀ e, e ∈ l → e.1.2.length = 32 ∧ ∀ j, j < 32 → 32 * e.1.1 + j < L.length → e.1.2[j]? = L[32 * e.1.1 + j]?) → ∀ i j, j < 32 → 32 * i + j < L.length → (torn S l i)[j]? = L[32 * i + j]?
  | [], S, h, _ => h
  | e :: r, S, h, hq => by
    show ∀ i j, j < 32 → 32 * i + j < L.length → (torn (put S e.1.1 (e.1.2.take (kept e.2) ++ (S e.1.1).drop (kept e.2))) r i)[j]? = L[32 * i + j]?
    refine torn_at L r _ (fun i j hj hl => ?_) (fun y hy => hq y (List.mem_cons_of_mem _ hy))
    obtain ⟨q1, q2⟩ := hq e List.mem_cons_self
    unfold put
    by_cases he : i = e.1.1
    · rw [if_pos he]
      subst he
      have hk : kept e.2 ≤ 32 := by unfold kept; omega
      have hlen : (e.1.2.take (kept e.2)).length = kept e.2 := by rw [List.length_take]; omega
      by_cases hjk : j < kept e.2
      · rw [List.getElem?_append_left (by omega), List.getElem?_take_of_lt hjk]
        exact q2 j hj hl
      · rw [List.getElem?_append_right (by omega), hlen, List.getElem?_drop, show kept e.2 + (j - kept e.2) = j by omega]
        exact h _ j hj hl
    · rw [if_neg he]
      exact h i j hj hl
theorem Sure.crash {d : Dk} {L : List UInt8} (h : Sure d L) (ks : List Int) (i j : Nat) (hj : j < 32) (hl : 32 * i + j < L.length) : ((d.crash ks).last i)[j]? = L[32 * i + j]? :=
  torn_at L _ d.S h.s (fun e he => h.q e.1 (List.of_mem_zip (a := e.1) (b := e.2) he).1) i j hj hl

theorem cat_get {w : World} {F : Nat → Prop} {p : Nat} {d : Dk} (h : Disk w F p d) : ∀ k, k ≤ d.n → ∀ i j, i < k → j < 32 → (cat d 0 k)[32 * i + j]? = (d.last i)[j]?
  | 0, _, i, j, hi, _ => absurd hi (Nat.not_lt_zero _)
  | k + 1, hk, i, j, hi, hj => by
    have hl := cat_len h 0 k (by omega)
    rw [cat]
    by_cases e : i = k
    · subst e
      rw [List.getElem?_append_right (by omega), hl, show 32 * i + j - 32 * i = j by omega, Nat.zero_add]
    · rw [List.getElem?_append_left (by omega)]
      exact cat_get h k (by omega) i j (by omega) hj

/-- A log has the records whose bytes are there. -/
theorem scan_sure {w : World} {F : Nat → Prop} {p : Nat} {d : Dk} (h : Disk w F p d) (t k : Nat) (ht : 1 ≤ t ∧ t ≤ 2147483647) (hk : k ≤ d.n) (g : List ByteArray) (hm : mayG g) (hs : sizeG g ≤ 32 * k)
    (hb : ∀ i j, j < 32 → 32 * i + j < (frames t g).length → (d.last i)[j]? = (frames t g)[32 * i + j]?) :
    (scanS (t : Int) ⟨(cat d 0 k).toArray⟩).1.take g.length = g ∧ g.length ≤ (scanS (t : Int) ⟨(cat d 0 k).toArray⟩).1.length := by
  have hl := cat_len h 0 k (by omega)
  have hfl := frames_len t g
  have e : (cat d 0 k).take (sizeG g) = frames t g := by
    apply List.ext_getElem?
    intro P
    by_cases hP : P < sizeG g
    · rw [List.getElem?_take_of_lt hP]
      have e1 : P = 32 * (P / 32) + P % 32 := by omega
      have := hb (P / 32) (P % 32) (by omega) (by omega)
      rw [← cat_get h k hk (P / 32) (P % 32) (by omega) (by omega), ← e1] at this
      exact this
    · rw [List.getElem?_eq_none (by rw [List.length_take]; omega), List.getElem?_eq_none (by omega)]
  have hlen : g.length ≤ sizeG g := by
    clear hs hb hfl e
    induction g with
    | nil => exact Nat.le_refl _
    | cons x r ih =>
      have := ih (fun s hs => hm s (List.mem_cons_of_mem _ hs))
      rw [sizeG, List.length_cons]
      omega
  have hz : (⟨(cat d 0 k).toArray⟩ : ByteArray).size = 32 * k := hl
  unfold scanS
  refine front.scan_front t ht ⟨(cat d 0 k).toArray⟩ g _ 0 ((cat d 0 k).drop (sizeG g)) hm (by omega) ?_
  rw [List.drop_zero, ← e]
  exact (List.take_append_drop _ _).symm

theorem Sure.write {d : Dk} {L : List UInt8} (h : Sure d L) (a : Nat) (t : List UInt8) (ht : t.length = 32) (hb : ∀ j, j < 32 → 32 * a + j < L.length → t[j]? = L[32 * a + j]?) : Sure (d.write a t) L := by
  unfold Dk.write
  split
  · refine ⟨h.s, fun e he => ?_⟩
    rcases List.mem_append.1 he with he | he
    · exact h.q e he
    · obtain rfl := List.mem_singleton.1 he
      exact ⟨ht, hb⟩
  · exact ⟨h.s, h.q⟩
end Go.Proofs.Ythfhjfemcmdmfaa
