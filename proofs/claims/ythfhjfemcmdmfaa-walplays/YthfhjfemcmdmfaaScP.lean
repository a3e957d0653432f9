/- What is scanned are the frames of the records. -/
import Derived.Test.YthfhjfemcmdmfaaFront
import Derived.Test.YthfhjfemcmdmfaaHeld
namespace Go.Proofs.Ythfhjfemcmdmfaa
open Go.ChangeShapes Go.WideShapes Go.ChangeAt Go.RowKit
set_option linter.unusedVariables false
set_option maxRecDepth 100000

theorem rec_frame {t : Int} {s r : ByteArray} (h : recOf t s = some r) : frameS t.toNat r = s.extract 0 (10 + r.size) := by
  unfold recOf at h
  split at h
  · rename_i c
    cases h
    rw [c.2.2.2]
    have e : (s.extract 10 (endOf s)).size = endOf s - 10 := by
      rw [ByteArray.size_extract]
      omega
    have e10 : 10 ≤ endOf s := by unfold endOf; omega
    rw [e, Nat.add_sub_cancel' e10]
  · cases h
theorem frame_len (t : Nat) (s : ByteArray) : (frameS t s).data.toList.length = 10 + s.size := by
  have := frameS_size t s
  rw [← this]
  simp
theorem scan_pre (t : Nat) (s : ByteArray) : ∀ f u, u ≤ s.size → (scanG f (t : Int) s u).2 ≤ s.size ∧ u ≤ (scanG f (t : Int) s u).2 ∧ frames t (scanG f (t : Int) s u).1 = (s.data.toList.drop u).take ((scanG f (t : Int) s u).2 - u) ∧ mayG (scanG f (t : Int) s u).1 := by
  intro f
  induction f with
  | zero => intro u hu; exact ⟨hu, Nat.le_refl _, by simp [scanG, frames], fun s hs => by simp [scanG] at hs⟩
  | succ f ih =>
    intro u hu
    cases hr : recOf (t : Int) (s.extract u s.size) with
    | none =>
      rw [scanG_none (f + 1) t s u hr]
      exact ⟨hu, Nat.le_refl _, by simp [frames], fun s hs => by simp at hs⟩
    | some r =>
      have hf := rec_fits hr
      have hfr := rec_frame hr
      rw [Int.toNat_natCast] at hfr
      have hsz : (s.extract u s.size).size = s.size - u := by rw [ByteArray.size_extract]; omega
      have hu' : u + (10 + r.size) ≤ s.size := by omega
      obtain ⟨i1, i2, i3, i4⟩ := ih (u + (10 + r.size)) hu'
      have e : scanG (f + 1) (t : Int) s u = (r :: (scanG f (t : Int) s (u + (10 + r.size))).1, (scanG f (t : Int) s (u + (10 + r.size))).2) := by
        show (match recOf (t : Int) (s.extract u s.size) with
          | none => ([], u)
          | some r => (r :: (scanG f (t : Int) s (u + (10 + r.size))).1, (scanG f (t : Int) s (u + (10 + r.size))).2)) = _
        rw [hr]
      rw [e]
      refine ⟨i1, by omega, ?_, fun x hx => ?_⟩
      · show (frameS t r).data.toList ++ frames t (scanG f (t : Int) s (u + (10 + r.size))).1 = _
        rw [i3, hfr]
        have h1 : ((s.extract u s.size).extract 0 (10 + r.size)).data.toList = (s.data.toList.drop u).take (10 + r.size) := by
          rw [ext_list, ext_list, List.drop_zero, List.take_take]
          congr 1
          omega
        rw [h1]
        have h2 : (scanG f (t : Int) s (u + (10 + r.size))).2 - u = (10 + r.size) + ((scanG f (t : Int) s (u + (10 + r.size))).2 - (u + (10 + r.size))) := by omega
        conv => rhs; rw [h2, List.take_add, List.drop_drop]
      · rcases List.mem_cons.1 hx with rfl | hx
        · exact hf.2
        · exact i4 x hx
theorem scan_all (t : Nat) (s : ByteArray) : (scanS (t : Int) s).2 ≤ s.size ∧ frames t (scanS (t : Int) s).1 = s.data.toList.take (scanS (t : Int) s).2 ∧ mayG (scanS (t : Int) s).1 := by
  obtain ⟨h1, h2, h3, h4⟩ := scan_pre t s (s.size + 1) 0 (Nat.zero_le _)
  refine ⟨h1, ?_, h4⟩
  have := h3
  rw [List.drop_zero, Nat.sub_zero] at this
  exact this
theorem scan_le (t : Nat) (s : ByteArray) : (scanS (t : Int) s).2 ≤ s.size := (scan_all t s).1
theorem scan_size (t : Nat) (s : ByteArray) : sizeG (scanS (t : Int) s).1 = (scanS (t : Int) s).2 := by
  have h := scan_all t s
  rw [← frames_len t, h.2.1, List.length_take]
  have : s.data.toList.length = s.size := by simp
  omega
/-- What lies in the sectors from a on, up to so many bytes. -/
def Heldf (d : Dk) (a b : Nat) (L : List UInt8) : Prop := ∀ i j, a ≤ i → i < b → j < 32 → 32 * (i - a) + j < L.length → (d.last i)[j]? = L[32 * (i - a) + j]?
theorem cat_at {d : Dk} (n : Nat) (hl : ∀ i, i < n → (d.last i).length = 32) (a : Nat) : ∀ k, a + k ≤ n → (cat d a k).length = 32 * k ∧ ∀ i j, i < k → j < 32 → (cat d a k)[32 * i + j]? = (d.last (a + i))[j]?
  | 0, _ => ⟨rfl, fun i j hi => absurd hi (Nat.not_lt_zero _)⟩
  | k + 1, h => by
    obtain ⟨h1, h2⟩ := cat_at n hl a k (by omega)
    refine ⟨?_, fun i j hi hj => ?_⟩
    · show (cat d a k ++ d.last (a + k)).length = _
      rw [List.length_append, h1, hl _ (by omega)]
      omega
    · show (cat d a k ++ d.last (a + k))[32 * i + j]? = _
      by_cases e : i < k
      · rw [List.getElem?_append_left (by omega)]
        exact h2 i j e hj
      · obtain rfl : i = k := by omega
        rw [List.getElem?_append_right (by omega), h1]
        congr 1
        omega
theorem Heldf.open {d : Dk} (n : Nat) (hl : ∀ i, i < n → (d.last i).length = 32) (a b t : Nat) (hab : a < b) (hb : b ≤ n) : Heldf d a b (frames t (scanS (t : Int) ⟨(cat d a (b - a)).toArray⟩).1) := by
  intro i j hi hib hj hlt
  have h := scan_all t ⟨(cat d a (b - a)).toArray⟩
  have e : (⟨(cat d a (b - a)).toArray⟩ : ByteArray).data.toList = cat d a (b - a) := by simp
  rw [e] at h
  rw [h.2.1] at hlt ⊢
  rw [List.length_take] at hlt
  rw [List.getElem?_take_of_lt (by omega), (cat_at n hl a (b - a) (by omega)).2 (i - a) j (by omega) hj]
  congr 2
  omega
theorem Heldf.add {w : World} {F : Nat → Prop} {p : Nat} {d : Dk} {L : List UInt8} {a b : Nat} (h : Heldf d a b L) (hd : Disk w F p d) (x : ByteArray) (hx : 0 < x.size) (hr : L.length + x.size ≤ 32 * (b - a)) (hb : b ≤ d.n) (hab : a < b)
    (hon : ∀ j, j < manyS L.length x.size → (puts d (a + L.length / 32) (leftS d a L.length x).data.toList j).on = true) :
    Heldf (puts d (a + L.length / 32) (leftS d a L.length x).data.toList (manyS L.length x.size)) a b (L ++ x.data.toList) := by
  intro i j hi hib hj hlt
  have hxl : x.data.toList.length = x.size := by simp
  rw [List.length_append, hxl] at hlt
  rw [puts_last_on _ _ _ _ hon]
  by_cases hs : a + L.length / 32 ≤ i ∧ i < a + L.length / 32 + manyS L.length x.size
  · rw [if_pos hs, chunk_byte hd a b L.length x hx hr hb hab i j hs hj]
    by_cases c : L.length ≤ 32 * (i - a) + j
    · rw [if_pos ⟨c, hlt⟩, List.getElem?_append_right c]
    · rw [if_neg (fun q => c q.1), List.getElem?_append_left (by omega)]
      exact h i j hi hib hj (by omega)
  · rw [if_neg hs]
    have hm : manyS L.length x.size = (L.length + x.size - 1) / 32 + 1 - L.length / 32 := rfl
    rw [hm] at hs
    rw [List.getElem?_append_left (by omega)]
    exact h i j hi hib hj (by omega)
theorem flush_last (d : Dk) (i : Nat) : d.flush.last i = d.last i := by
  unfold Dk.flush
  split
  · show flushed d.S d.Q i = _
    rw [flushed_at]
    rfl
  · rfl
/-- What the document writes into a sector. -/
theorem chunk_doc {w : World} {F : Nat → Prop} {p : Nat} {d : Dk} {L : List UInt8} {a b : Nat} (h : Heldf d a b L) (hd : Disk w F p d) (x : ByteArray) (hx : 0 < x.size) (hr : L.length + x.size ≤ 32 * (b - a)) (hb : b ≤ d.n) (hab : a < b) (k : Nat) (hk : k < manyS L.length x.size) :
    chunk (leftS d a L.length x).data.toList k = ((L ++ x.data.toList).drop (32 * (L.length / 32 + k))).take (min 32 (L.length + x.size - 32 * (L.length / 32 + k))) ++ (d.last (a + L.length / 32 + k)).drop (min 32 (L.length + x.size - 32 * (L.length / 32 + k))) := by
  have hxl : x.data.toList.length = x.size := by simp
  have hm : manyS L.length x.size = (L.length + x.size - 1) / 32 + 1 - L.length / 32 := rfl
  have hlast := hd.lastLen (a + L.length / 32 + k) (by omega)
  have hlc := chunk_len hd a b L.length x hx hr hb hab k hk
  obtain ⟨n, hn⟩ : ∃ n, min 32 (L.length + x.size - 32 * (L.length / 32 + k)) = n := ⟨_, rfl⟩
  rw [hn]
  have hn1 : n ≤ 32 := by omega
  have hn2 : n ≤ L.length + x.size - 32 * (L.length / 32 + k) := by omega
  have htl : (((L ++ x.data.toList).drop (32 * (L.length / 32 + k))).take n).length = n := by
    rw [List.length_take, List.length_drop, List.length_append, hxl]
    omega
  refine List.ext_getElem? (fun j => ?_)
  by_cases hj : j < 32
  · have hb' := chunk_byte hd a b L.length x hx hr hb hab (a + L.length / 32 + k) j ⟨by omega, by omega⟩ hj
    rw [show a + L.length / 32 + k - (a + L.length / 32) = k by omega, show a + L.length / 32 + k - a = L.length / 32 + k by omega] at hb'
    rw [hb']
    by_cases c : j < n
    · rw [List.getElem?_append_left (by omega), List.getElem?_take_of_lt c, List.getElem?_drop]
      by_cases c2 : L.length ≤ 32 * (L.length / 32 + k) + j
      · rw [if_pos ⟨c2, by omega⟩, List.getElem?_append_right c2]
      · rw [if_neg (fun q => c2 q.1), List.getElem?_append_left (by omega)]
        have := h (a + L.length / 32 + k) j (by omega) (by omega) hj (by omega)
        rw [this]
        congr 1
        omega
    · rw [List.getElem?_append_right (by omega), htl, List.getElem?_drop, if_neg (by omega)]
      congr 1
      omega
  · rw [List.getElem?_eq_none (by omega), List.getElem?_eq_none]
    rw [List.length_append, htl, List.length_drop, hlast]
    omega
end Go.Proofs.Ythfhjfemcmdmfaa
