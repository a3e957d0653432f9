/- wal: the bytes of a disk behind a group. -/
import Derived.Test.YthfhjfemcmdmfaaAdd
namespace Go.Proofs.Ythfhjfemcmdmfaa
set_option linter.unusedVariables false

/-- A disk of which nothing was asked of the power. -/
def Dk.calm (d : Dk) : Prop := d.fuse = -1 ∧ d.off = false
theorem calm_on {d : Dk} (h : d.calm) : d.on = true := by unfold Dk.on; rw [h.1, h.2]; rfl
theorem calm_burnt {d : Dk} (h : d.calm) : d.burnt = d := by
  obtain ⟨n, S, Q, f, o⟩ := d
  obtain ⟨rfl, rfl⟩ := h
  rfl
theorem calm_write {d : Dk} (h : d.calm) (a : Nat) (t : List UInt8) : (d.write a t).calm := by
  unfold Dk.write
  rw [calm_on h, calm_burnt h]
  exact h
theorem calm_puts {d : Dk} (h : d.calm) (first : Nat) (L : List UInt8) (k : Nat) : (puts d first L k).calm := by
  induction k with
  | zero => exact h
  | succ k ih => exact calm_write ih _ _
theorem write_last {d : Dk} (h : d.calm) (a : Nat) (t : List UInt8) (i : Nat) : (d.write a t).last i = if i = a then t else d.last i := by
  have e := congrFun (last_write d.S d.Q a t) i
  unfold Dk.write
  rw [calm_on h, calm_burnt h]
  exact e.symm
theorem puts_last {d : Dk} (h : d.calm) (first : Nat) (L : List UInt8) (k i : Nat) : (puts d first L k).last i = if first ≤ i ∧ i < first + k then chunk L (i - first) else d.last i := by
  induction k with
  | zero => rw [if_neg (by omega)]; rfl
  | succ k ih =>
    rw [puts, write_last (calm_puts h first L k), ih]
    by_cases e : i = first + k
    · rw [if_pos e, if_pos (by omega), e, Nat.add_sub_cancel_left]
    · rw [if_neg e]
      by_cases e2 : first ≤ i ∧ i < first + k
      · rw [if_pos e2, if_pos (by omega)]
      · rw [if_neg e2, if_neg (by omega)]

theorem left_list (d : Dk) (a used : Nat) (x : ByteArray) : (leftS d a used x).data.toList = (partA d a used).data.toList ++ (x.data.toList ++ (partB d a (used + x.size)).data.toList) := by
  unfold leftS
  rw [ByteArray.data_append, ByteArray.data_append, Array.toList_append, Array.toList_append, List.append_assoc]
theorem partA_list (d : Dk) (a place : Nat) : (partA d a place).data.toList = (d.last (a + place / 32)).take (place % 32) := by
  unfold partA
  split
  · rename_i h; rw [h]; rfl
  · rw [ext_list]; rfl
theorem partB_list (d : Dk) (a place : Nat) (h : place % 32 ≠ 0) (hl : (d.last (a + place / 32)).length = 32) : (partB d a place).data.toList = (d.last (a + place / 32)).drop (place % 32) := by
  unfold partB
  rw [if_neg h, ext_list]
  exact List.take_of_length_le (by rw [List.length_drop]; show (d.last (a + place / 32)).length - _ ≤ _; omega)

/-- A byte of a sector behind a group. -/
theorem add_byte {w : World} {F : Nat → Prop} {p : Nat} {d : Dk} (hd : Disk w F p d) (hc : d.calm) (a b used : Nat) (x : ByteArray) (hx : 0 < x.size) (hr : used + x.size ≤ 32 * (b - a)) (hb : b ≤ d.n) (hab : a < b) (i j : Nat) (hi : a ≤ i) (hin : i < d.n) (hj : j < 32) :
    ((puts d (a + used / 32) (leftS d a used x).data.toList (manyS used x.size)).last i)[j]? = if used ≤ 32 * (i - a) + j ∧ 32 * (i - a) + j < used + x.size then x.data.toList[32 * (i - a) + j - used]? else (d.last i)[j]? := by
  rw [puts_last hc]
  have hA := hd.lastLen i hin
  have hm : manyS used x.size = (used + x.size - 1) / 32 + 1 - used / 32 := rfl
  generalize manyS used x.size = m at *
  by_cases hs : a + used / 32 ≤ i ∧ i < a + used / 32 + m
  · rw [if_pos hs, chunk, List.getElem?_take_of_lt hj, List.getElem?_drop, left_list, partA_list]
    have hxl : x.data.toList.length = x.size := by simp
    by_cases h1 : 32 * (i - a) + j < used
    · have ei : i = a + used / 32 := by omega
      rw [if_neg (by omega), ← ei, List.getElem?_append_left (by rw [List.length_take]; omega), List.getElem?_take_of_lt (by omega)]
      congr 1
      omega
    · have hlA : ((d.last (a + used / 32)).take (used % 32)).length = used % 32 := by
        rw [List.length_take, hd.lastLen _ (by omega)]; omega
      rw [List.getElem?_append_right (by omega), hlA]
      by_cases h2 : 32 * (i - a) + j < used + x.size
      · rw [if_pos (by omega), List.getElem?_append_left (by omega)]
        congr 1
        omega
      · have ei : i = a + (used + x.size) / 32 := by omega
        rw [if_neg (by omega), List.getElem?_append_right (by omega), partB_list d a (used + x.size) (by omega) (by rw [← ei]; exact hA), List.getElem?_drop, ← ei, hxl]
        congr 1
        omega
  · rw [if_neg hs, if_neg (by omega)]

/-- Two groups lie as the one of both. -/
theorem frames_two (t : Nat) (g h : List ByteArray) (k : Nat) : (frames t (g ++ h))[k]? = if k < sizeG g then (frames t g)[k]? else (frames t h)[k - sizeG g]? := by
  rw [frames_append]
  by_cases e : k < sizeG g
  · rw [if_pos e, List.getElem?_append_left (by rw [frames_len]; exact e)]
  · rw [if_neg e, List.getElem?_append_right (by rw [frames_len]; omega), frames_len]

/-- The bytes of a disk of a log that was laid upon another one. -/
def Over (d0 d : Dk) (a used : Nat) (L : List UInt8) : Prop :=
  ∀ i j, a ≤ i → i < d0.n → j < 32 → (d.last i)[j]? = if used ≤ 32 * (i - a) + j ∧ 32 * (i - a) + j < used + L.length then L[32 * (i - a) + j - used]? else (d0.last i)[j]?

theorem over_refl (d : Dk) (a used : Nat) : Over d d a used [] := fun i j _ _ _ => by rw [if_neg (by simp)]
theorem over_add {w : World} {F : Nat → Prop} {p : Nat} {d0 d : Dk} {a used0 : Nat} {L : List UInt8} (ho : Over d0 d a used0 L) (hd : Disk w F p d) (hc : d.calm) (hn : d.n = d0.n) (b : Nat) (x : ByteArray) (hx : 0 < x.size) (hr : used0 + L.length + x.size ≤ 32 * (b - a)) (hb : b ≤ d.n) (hab : a < b) :
    Over d0 (puts d (a + (used0 + L.length) / 32) (leftS d a (used0 + L.length) x).data.toList (manyS (used0 + L.length) x.size)) a used0 (L ++ x.data.toList) := by
  intro i j hi hin hj
  rw [add_byte hd hc a b (used0 + L.length) x hx hr hb hab i j hi (by omega) hj, ho i j hi hin hj]
  have hxl : x.data.toList.length = x.size := by simp
  rw [List.length_append, hxl]
  by_cases h1 : used0 + L.length ≤ 32 * (i - a) + j ∧ 32 * (i - a) + j < used0 + L.length + x.size
  · rw [if_pos h1, if_pos (by omega), List.getElem?_append_right (by omega)]
    congr 1
    omega
  · rw [if_neg h1]
    by_cases h2 : used0 ≤ 32 * (i - a) + j ∧ 32 * (i - a) + j < used0 + L.length
    · rw [if_pos h2, if_pos (by omega), List.getElem?_append_left (by omega)]
    · rw [if_neg h2, if_neg (by omega)]
end Go.Proofs.Ythfhjfemcmdmfaa
