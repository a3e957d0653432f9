/- wal: the bytes of a log, and the sure ones, behind Add and Sync. -/
import Derived.Test.YthfhjfemcmdmfaaTear
namespace Go.Proofs.Ythfhjfemcmdmfaa
set_option linter.unusedVariables false

theorem chunk_byte {w : World} {F : Nat → Prop} {p : Nat} {d : Dk} (hd : Disk w F p d) (a b used : Nat) (x : ByteArray) (hx : 0 < x.size) (hr : used + x.size ≤ 32 * (b - a)) (hb : b ≤ d.n) (hab : a < b) (i j : Nat) (hs : a + used / 32 ≤ i ∧ i < a + used / 32 + manyS used x.size) (hj : j < 32) :
    (chunk (leftS d a used x).data.toList (i - (a + used / 32)))[j]? = if used ≤ 32 * (i - a) + j ∧ 32 * (i - a) + j < used + x.size then x.data.toList[32 * (i - a) + j - used]? else (d.last i)[j]? := by
  have hm : manyS used x.size = (used + x.size - 1) / 32 + 1 - used / 32 := rfl
  generalize manyS used x.size = m at *
  have hA := hd.lastLen i (by omega)
  rw [chunk, List.getElem?_take_of_lt hj, List.getElem?_drop, left_list, partA_list]
  have hxl : x.data.toList.length = x.size := by simp
  by_cases h1 : 32 * (i - a) + j < used
  · have ei : i = a + used / 32 := by omega
    rw [if_neg (by omega), ← ei, List.getElem?_append_left (by rw [List.length_take]; omega), List.getElem?_take_of_lt (by omega)]
    congr 1
    omega
  · have hlA : ((d.last (a + used / 32)).take (used % 32)).length = used % 32 := by
      rw [List.length_take, hd.lastLen _ (by omega)]; omega
    rw [List.getElem?_append_right (by omega), hlA]
    by_cases h2 : 32 * (i - a) + j < used + x.size
    · rw [if_pos (by omega), List.getElem?_append_left (by omega)]
      congr 1
      omega
    · have ei : i = a + (used + x.size) / 32 := by omega
      rw [if_neg (by omega), List.getElem?_append_right (by omega), partB_list d a (used + x.size) (by omega) (by rw [← ei]; exact hA), List.getElem?_drop, ← ei, hxl]
      congr 1
      omega
theorem chunk_len {w : World} {F : Nat → Prop} {p : Nat} {d : Dk} (hd : Disk w F p d) (a b used : Nat) (x : ByteArray) (hx : 0 < x.size) (hr : used + x.size ≤ 32 * (b - a)) (hb : b ≤ d.n) (hab : a < b) (k : Nat) (hk : k < manyS used x.size) : (chunk (leftS d a used x).data.toList k).length = 32 := by
  have h1 := leftS_size hd a b used x hx hr hb hab
  have h2 : (leftS d a used x).data.toList.length = (leftS d a used x).size := by simp
  rw [chunk, List.length_take, List.length_drop]
  omega

/-- The sure bytes stay sure, however many of a group's writes were done. -/
theorem Sure.puts {w : World} {F : Nat → Prop} {p : Nat} {d : Dk} {L : List UInt8} (h : Sure d L) (hd : Disk w F p d) (b used : Nat) (hu : L.length ≤ used) (x : ByteArray) (hx : 0 < x.size) (hr : used + x.size ≤ 32 * (b - 0)) (hb : b ≤ d.n) (hab : 0 < b) :
    ∀ k, k ≤ manyS used x.size → Sure (puts d (0 + used / 32) (leftS d 0 used x).data.toList k) L
  | 0, _ => h
  | k + 1, hk => by
    rw [Ythfhjfemcmdmfaa.puts]
    refine (Sure.puts h hd b used hu x hx hr hb hab k (by omega)).write _ _ (chunk_len hd 0 b used x hx hr hb hab k (by omega)) (fun j hj hl => ?_)
    have := chunk_byte hd 0 b used x hx hr hb hab (0 + used / 32 + k) j (by omega) hj
    rw [show 0 + used / 32 + k - (0 + used / 32) = k by omega, if_neg (by omega)] at this
    rw [this]
    exact h.last _ j hj hl

theorem write_last_on {d : Dk} (h : d.on = true) (a : Nat) (t : List UInt8) (i : Nat) : (d.write a t).last i = if i = a then t else d.last i := by
  have e := congrFun (last_write d.S d.Q a t) i
  unfold Dk.write
  rw [h]
  exact e.symm
theorem puts_last_on {d : Dk} (first : Nat) (L : List UInt8) (i : Nat) : ∀ k, (∀ j, j < k → (puts d first L j).on = true) → (puts d first L k).last i = if first ≤ i ∧ i < first + k then chunk L (i - first) else d.last i
  | 0, _ => by rw [if_neg (by omega)]; rfl
  | k + 1, h => by
    rw [puts, write_last_on (h k (by omega)), puts_last_on first L i k (fun j hj => h j (by omega))]
    by_cases e : i = first + k
    · rw [if_pos e, if_pos (by omega), e, Nat.add_sub_cancel_left]
    · rw [if_neg e]
      by_cases e2 : first ≤ i ∧ i < first + k
      · rw [if_pos e2, if_pos (by omega)]
      · rw [if_neg e2, if_neg (by omega)]

/-- A disk's first bytes, as they are read. -/
def Held (d : Dk) (L : List UInt8) : Prop := ∀ i j, j < 32 → 32 * i + j < L.length → (d.last i)[j]? = L[32 * i + j]?
theorem Held.add {w : World} {F : Nat → Prop} {p : Nat} {d : Dk} {L : List UInt8} (h : Held d L) (hd : Disk w F p d) (b : Nat) (x : ByteArray) (hx : 0 < x.size) (hr : L.length + x.size ≤ 32 * (b - 0)) (hb : b ≤ d.n) (hab : 0 < b)
    (hon : ∀ j, j < manyS L.length x.size → (puts d (0 + L.length / 32) (leftS d 0 L.length x).data.toList j).on = true) :
    Held (puts d (0 + L.length / 32) (leftS d 0 L.length x).data.toList (manyS L.length x.size)) (L ++ x.data.toList) := by
  intro i j hj hl
  have hxl : x.data.toList.length = x.size := by simp
  rw [List.length_append, hxl] at hl
  rw [puts_last_on _ _ i _ hon]
  have hm : manyS L.length x.size = (L.length + x.size - 1) / 32 + 1 - L.length / 32 := rfl
  by_cases hs : 0 + L.length / 32 ≤ i ∧ i < 0 + L.length / 32 + manyS L.length x.size
  · rw [if_pos hs, chunk_byte hd 0 b L.length x hx hr hb hab i j hs hj, Nat.sub_zero]
    by_cases h1 : 32 * i + j < L.length
    · rw [if_neg (by omega), List.getElem?_append_left h1]
      exact h i j hj h1
    · rw [if_pos (by omega), List.getElem?_append_right (by omega)]
  · rw [if_neg hs, List.getElem?_append_left (by omega)]
    exact h i j hj (by omega)
theorem Held.flush {d : Dk} {L : List UInt8} (h : Held d L) (hon : d.on = true) : Sure d.flush L := by
  unfold Dk.flush
  rw [hon]
  refine ⟨fun i j hj hl => ?_, fun e he => by cases he⟩
  show (flushed d.S d.Q i)[j]? = _
  rw [flushed_at]
  exact h i j hj hl
theorem Held.flush_last {d : Dk} {L : List UInt8} (h : Held d L) : Held d.flush L := by
  unfold Dk.flush
  split
  · intro i j hj hl
    show (flushed d.S d.Q i)[j]? = _
    rw [flushed_at]
    exact h i j hj hl
  · exact h
theorem sure_none (d : Dk) (h : ∀ e, e ∈ d.Q → e.2.length = 32) : Sure d [] := ⟨fun i j _ hl => absurd hl (Nat.not_lt_zero _), fun e he => ⟨h e he, fun j _ hl => absurd hl (Nat.not_lt_zero _)⟩⟩
theorem held_none (d : Dk) : Held d [] := fun i j _ hl => absurd hl (Nat.not_lt_zero _)
end Go.Proofs.Ythfhjfemcmdmfaa
