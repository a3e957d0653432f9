/- Bytes that are others are told. -/
import Derived.Test.YtncpohimjmakpaaRn
namespace Go.Proofs.Ytncpohimjmakpaa
open Go.ChangeShapes Go.WideShapes Go.ChangeAt Go.RowKit
set_option linter.unusedVariables false
set_option maxRecDepth 100000

def yb (n : Int) (j : Nat) : UInt8 := UInt8.ofNat (n / 2 ^ (8 * j) % 256).toNat
theorem yb_is (n : Int) (j : Nat) : n / 2 ^ (8 * j) % 256 = ((yb n j).toNat : Int) := by
  unfold yb
  rw [UInt8.toNat_ofNat']
  omega
theorem split_four (l : List UInt8) (k : Nat) (h : k + 4 ≤ l.length) : ∃ p a b c d q, l = p ++ a :: b :: c :: d :: q ∧ p.length = k := by
  have e := List.take_append_drop k l
  have hl : (l.drop k).length = l.length - k := by simp
  match hd : l.drop k with
  | [] => rw [hd] at hl; simp at hl; omega
  | [_] => rw [hd] at hl; simp at hl; omega
  | [_, _] => rw [hd] at hl; simp at hl; omega
  | [_, _, _] => rw [hd] at hl; simp at hl; omega
  | a :: b :: c :: d :: q =>
    refine ⟨l.take k, a, b, c, d, q, ?_, by simp; omega⟩
    rw [← hd, e]

theorem byte_nought {x : UInt8} (h : x.toNat = 0) : x = 0 := UInt8.toNat_inj.1 h

structure Row (w : World) (B : Nat) (L : List UInt8) : Prop where
  cells : ∀ k (hk : k < L.length), w.cell? ⟨B, k, none⟩ = some (.int .u8 (L[k].toNat : Int))
  free : ∀ k, k < L.length → w.frozen? ⟨B, k, none⟩ = false

theorem Row.put {w : World} {B : Nat} {L : List UInt8} (h : Row w B L) (k : Nat) (hk : k < L.length) (v : UInt8) :
    Row (w.setCell ⟨B, k, none⟩ (.int .u8 (v.toNat : Int))) B (L.set k v) := by
  have hv := h.cells k hk
  refine ⟨fun j hj => ?_, fun j hj => ?_⟩
  · rw [List.length_set] at hj
    by_cases e : j = k
    · subst e
      simp [go_sem, hv]
    · have := h.cells j hj
      have e' : ¬ k = j := fun h => e h.symm
      simp [go_sem, this, e']
  · rw [List.length_set] at hj
    have := h.free j hj
    simp [go_sem, this]

theorem Row.drewN {w : World} {B : Nat} {L : List UInt8} (h : Row w B L) (n : Nat) : Row (w.drewN n) B L := ⟨h.cells, h.free⟩

theorem row_text {W : World} {B : Nat} {L : List UInt8} (h : Row W B L) (n C : Nat) (hn : n = L.length) :
    (convert 46 9 (.slice (some ⟨B, 0, none⟩) n C)).run Try.prog W = .ok (.string ⟨L.toArray⟩) W := by
  subst hn
  exact run_convert_bytes_back (P := Try.prog) W 46 9 5 ⟨B, 0, none⟩ C L Try.underlying46 Try.underlying5 Try.underlying9 (fun j hj => by rw [Go.WideShapes.add_plain, Nat.zero_add]; exact h.cells j hj)

theorem cell_mark (w : World) (C : Array Value) (t : TypeId) (m : Nat × Nat) (k : Nat) : (w.drew.alloc (.cells C t m)).cell? ⟨w.heap.size, k, none⟩ = C[k]? := by
  have : (w.drew.alloc (.cells C t m)).heap[w.heap.size]? = some (.cells C t m) := by
    show (w.heap.push (.cells C t m))[w.heap.size]? = _
    simp
  unfold World.cell?
  simp only [this]
  rfl
theorem frozen_mark (w : World) (C : Array Value) (t : TypeId) (lo hi : Nat) (k : Nat) : (w.drew.alloc (.cells C t (lo, hi))).frozen? ⟨w.heap.size, k, none⟩ = (decide (lo ≤ k) && decide (k < hi)) := by
  have : (w.drew.alloc (.cells C t (lo, hi))).heap[w.heap.size]? = some (.cells C t (lo, hi)) := by
    show (w.heap.push (.cells C t (lo, hi)))[w.heap.size]? = _
    simp
  unfold World.frozen?
  simp only [this]

theorem text_row (s : ByteArray) (w : World) : ∃ (C : Nat) (W : World), (convert 9 46 (.string s)).run Try.prog w = .ok (.slice (some ⟨w.heap.size, 0, none⟩) s.size C) W ∧ Row W w.heap.size s.data.toList ∧ Kept (fun _ => False) w W := by
  refine ⟨_, _, run_bytes_of_string (P := Try.prog) w 9 46 5 s Try.underlying9 Try.underlying46 Try.underlying5, ⟨fun k hk => ?_, fun k hk => ?_⟩, ?_⟩
  · have hd : k < s.data.size := by simpa using hk
    rw [cell_mark]
    unfold bytesRow
    rw [Array.getElem?_append_left (by simpa using hd), Array.getElem?_map, Array.getElem?_eq_getElem hd]
    rfl
  · have hd : k < s.data.size := by simpa using hk
    rw [frozen_mark]
    have : ¬ (bytesRow s (grownCap w s.size 0 5)).size ≤ k := by
      have e : s.data.size = s.size := rfl
      unfold bytesRow; simp; omega
    rw [decide_eq_false this, Bool.false_and]
  · exact ((Kept.refl _ w).drew).alloc _

theorem Row.step {w w' : World} {B : Nat} {L : List UInt8} (h : Row w B L) (hL : L ≠ []) (k : Kept (fun _ => False) w w') : Row w' B L := by
  have hlt : B < w.heap.size := World.block_lt_of_cell? w _ (h.cells 0 (List.length_pos_iff.2 hL))
  exact ⟨fun j hj => (World.cell?_of_block (a := ⟨B, j, none⟩) (k.block B hlt (fun z => z))).trans (h.cells j hj), fun j hj => (World.frozen?_of_block (a := ⟨B, j, none⟩) (k.block B hlt (fun z => z))).trans (h.free j hj)⟩
/-- Lists that part in four bytes in a row alone, and have the same sum, are the same. -/
theorem burst (X Y : List UInt8) (k : Nat) (hX : k + 4 ≤ X.length) (hl : X.length = Y.length) (h1 : X.take k = Y.take k) (h2 : X.drop (k + 4) = Y.drop (k + 4)) (hs : sumOf X = sumOf Y) : X = Y := by
  obtain ⟨p, a, b, c, d, q, rfl, rfl⟩ := split_four X k hX
  obtain ⟨p', a', b', c', d', q', rfl, hp⟩ := split_four Y p.length (by omega)
  rw [List.take_left] at h1
  have h1' : p = p' := by
    rw [h1, ← hp, List.take_left]
  subst h1'
  have e4 : ∀ (x1 x2 x3 x4 : UInt8) (z : List UInt8), (p ++ x1 :: x2 :: x3 :: x4 :: z).drop (p.length + 4) = z := fun x1 x2 x3 x4 z => by
    rw [← List.drop_drop, List.drop_left]; rfl
  rw [e4, e4] at h2
  subst h2
  have hF : (0 ^^^ 4294967295 : Nat) < 4294967296 := by decide
  have hp := run_lt p hF
  have e1 : run (0 ^^^ 4294967295) (p ++ (a :: b :: c :: d :: q)) = run (0 ^^^ 4294967295) (p ++ (a' :: b' :: c' :: d' :: q)) := by
    unfold sumOf moreOf at hs
    have := congrArg (· ^^^ 4294967295) hs
    simpa [xor_twice] using this
  rw [run_append, run_append] at e1
  generalize run (0 ^^^ 4294967295) p = C at *
  have s1 : a :: b :: c :: d :: q = [a, b, c, d] ++ q := rfl
  have s2 : a' :: b' :: c' :: d' :: q = [a', b', c', d'] ++ q := rfl
  rw [s1, s2, run_append, run_append] at e1
  have e2 := run_inj q (run_lt _ hp) (run_lt _ hp) e1
  have e3 := run_xor C C [a, b, c, d] [a', b', c', d'] rfl
  rw [e2, Nat.xor_self, Nat.xor_self] at e3
  have e5 := run_four (a := a ^^^ a') (b := b ^^^ b') (c := c ^^^ c') (d := d ^^^ d') e3
  have hx : ∀ x y : UInt8, (x ^^^ y).toNat = 0 → x = y := fun x y h => by
    rw [UInt8.toNat_xor] at h
    exact UInt8.toNat_inj.1 (xor_nought.1 h)
  rw [hx a a' e5.1, hx b b' e5.2.1, hx c c' e5.2.2.1, hx d d' e5.2.2.2]
theorem putL_inj {m n : Nat} (hm : m < 4294967296) (hn : n < 4294967296) (h : putL m = putL n) : m = n := by
  unfold putL at h
  simp only [List.cons.injEq, and_true] at h
  obtain ⟨h0, h1, h2, h3⟩ := h
  have e0 := congrArg UInt8.toNat h0
  have e1 := congrArg UInt8.toNat h1
  have e2 := congrArg UInt8.toNat h2
  have e3 := congrArg UInt8.toNat h3
  simp only [UInt8.toNat_ofNat'] at e0 e1 e2 e3
  omega
theorem told {X L B : List UInt8} (hL : L = bytesB B) (hB : B.length = 256) (hz : (B.drop 4).take 4 = zs 4) (hX : X.length = 256) (k : Nat) (hk : k ≤ 252) (hag : ∀ i, ¬ (k ≤ i ∧ i < k + 4 ∧ (i < 4 ∨ 8 ≤ i)) → X[i]? = L[i]?) (hne : X ≠ L) : (X.drop 4).take (8 - 4) ≠ sumP (wr X 4 (zs 4)) := by
  intro he
  have hlen : L.length = 256 := by
    rw [hL]; unfold bytesB
    rw [List.length_append, List.length_append, List.length_take, List.length_drop, hB]; rfl
  have hmid : (X.drop 4).take 4 = (L.drop 4).take 4 := by
    apply List.ext_getElem?
    intro i
    by_cases hi : i < 4
    · rw [List.getElem?_take_of_lt hi, List.getElem?_take_of_lt hi, List.getElem?_drop, List.getElem?_drop]
      exact hag _ (by omega)
    · rw [List.getElem?_eq_none (by rw [List.length_take]; omega), List.getElem?_eq_none (by rw [List.length_take]; omega)]
  have hLm : (L.drop 4).take 4 = sumP B := by
    rw [hL]
    unfold bytesB
    rw [List.append_assoc, List.drop_append_of_le_length (by rw [List.length_take, hB]; omega)]
    rw [List.drop_eq_nil_of_le (by rw [List.length_take, hB]; omega), List.nil_append]
    exact List.take_left (l₁ := sumP B)
  have hs : sumOf (wr X 4 (zs 4)) = sumOf B := by
    apply putL_inj (sumOf_lt _) (sumOf_lt _)
    show sumP _ = sumP _
    rw [← hLm, ← hmid]
    exact he.symm
  have eW : wr X 4 (zs 4) = X.take 4 ++ zs 4 ++ X.drop 8 := wr_eq X 4 (zs 4) (by rw [hX]; simp)
  have eB : B = L.take 4 ++ zs 4 ++ L.drop 8 := by
    have h1 : L.take 4 = B.take 4 := by
      rw [hL]; unfold bytesB
      rw [List.append_assoc, List.take_append_of_le_length (by rw [List.length_take, hB]; omega), List.take_take]; rfl
    have h2 : L.drop 8 = B.drop 8 := by
      rw [hL]; unfold bytesB
      have : (B.take 4 ++ sumP B).length = 8 := by rw [List.length_append, List.length_take, hB]; rfl
      rw [← this, List.drop_left, this]
    rw [h1, h2, ← hz]
    have := List.take_append_drop 4 B
    have h3 := List.take_append_drop 4 (B.drop 4)
    rw [List.drop_drop] at h3
    rw [List.append_assoc, h3, this]
  have hwl : (wr X 4 (zs 4)).length = 256 := by
    rw [eW, List.length_append, List.length_append, List.length_take, List.length_drop, hX]; simp
  have hget : ∀ (Z : List UInt8) (hZ : Z.length = 256) (i : Nat), (Z.take 4 ++ zs 4 ++ Z.drop 8)[i]? = if 4 ≤ i ∧ i < 8 then some 0 else Z[i]? := fun Z hZ i => by
    by_cases h4 : i < 4
    · rw [if_neg (by omega), List.append_assoc, List.getElem?_append_left (by rw [List.length_take, hZ]; omega), List.getElem?_take_of_lt h4]
    · by_cases h8 : i < 8
      · rw [if_pos ⟨by omega, h8⟩, List.getElem?_append_left (by rw [List.length_append, List.length_take, hZ]; simp; omega), List.getElem?_append_right (by rw [List.length_take, hZ]; omega)]
        rw [List.length_take, hZ]
        unfold zs
        rw [List.getElem?_replicate, if_pos (by omega)]
      · have hl8 : (Z.take 4 ++ zs 4).length = 8 := by rw [List.length_append, List.length_take, hZ]; simp
        rw [if_neg (by omega), List.getElem?_append_right (by omega), hl8, List.getElem?_drop, show 8 + (i - 8) = i by omega]
  have hagree : ∀ i, ¬ (k ≤ i ∧ i < k + 4) → (wr X 4 (zs 4))[i]? = B[i]? := fun i hi => by
    rw [eW, eB, hget X hX, hget L hlen]
    split
    · rfl
    · exact hag i (by omega)
  have hXB : wr X 4 (zs 4) = B := by
    refine burst _ _ k (by omega) (by omega) ?_ ?_ hs
    · apply List.ext_getElem?
      intro i
      by_cases hi : i < k
      · rw [List.getElem?_take_of_lt hi, List.getElem?_take_of_lt hi]
        exact hagree i (by omega)
      · rw [List.getElem?_eq_none (by rw [List.length_take]; omega), List.getElem?_eq_none (by rw [List.length_take]; omega)]
    · apply List.ext_getElem?
      intro i
      rw [List.getElem?_drop, List.getElem?_drop]
      exact hagree _ (by omega)
  apply hne
  apply List.ext_getElem?
  intro i
  by_cases hi : 4 ≤ i ∧ i < 8
  · exact hag i (by omega)
  · have h3 : (wr X 4 (zs 4))[i]? = B[i]? := by rw [hXB]
    rw [eW, hget X hX, if_neg hi] at h3
    rw [h3, eB, hget L hlen, if_neg hi]
/-- Some bytes turned, but for those of the sum. -/
def tn (L : List UInt8) (k : Nat) (n : Int) : Nat → List UInt8
  | 0 => L
  | j + 1 => if k + j < 4 ∨ 8 ≤ k + j then (tn L k n j).set (k + j) ((tn L k n j)[k + j]?.getD 0 ^^^ yb n j) else tn L k n j
theorem tn_len (L : List UInt8) (k : Nat) (n : Int) (j : Nat) : (tn L k n j).length = L.length := by
  induction j with
  | zero => rfl
  | succ j ih =>
    unfold tn
    split
    · rw [List.length_set, ih]
    · exact ih
theorem tn_other (L : List UInt8) (k : Nat) (n : Int) (i : Nat) : ∀ j, j ≤ 4 → ¬ (k ≤ i ∧ i < k + 4 ∧ (i < 4 ∨ 8 ≤ i)) → (tn L k n j)[i]? = L[i]?
  | 0, _, _ => rfl
  | j + 1, hj, h => by
    have ih := tn_other L k n i j (by omega) h
    unfold tn
    split
    · rw [List.getElem?_set_ne (by omega)]
      exact ih
    · exact ih
theorem lay_mid (kd : UInt8) (cs : List Cel) : ((lay kd cs).drop 4).take 4 = zs 4 := rfl
theorem get_is {L : List UInt8} {k : Nat} (h : k < L.length) : L[k] = L[k]?.getD 0 := by rw [List.getElem?_eq_getElem h]; rfl
end Go.Proofs.Ytncpohimjmakpaa
