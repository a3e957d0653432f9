/- value: the bytes of values. -/
import Derived.Test.YtgjeobmbfeinnaaVals
import Derived.Maps.AppendAt
import Derived.Lib.AppendStr
import Derived.OwnWalk
namespace Go.Proofs.Ytgjeobmbfeinnaa
open Go.ChangeShapes Go.WideShapes Go.RowKit
set_option linter.unusedVariables false
set_option maxRecDepth 100000

theorem info5 : (Try.prog.info? 5).map (fun i => (i.zero, i.size, i.bytes)) = some (some (.int .u8 0), 1, 1) := by kernel_rfl
/-- The cells of bytes. -/
def bv (l : List UInt8) : List Value := l.map fun x => Value.int .u8 (x.toNat : Int)
theorem bv_len (l : List UInt8) : (bv l).length = l.length := by simp [bv]
theorem bv_append (l m : List UInt8) : bv (l ++ m) = bv l ++ bv m := by simp [bv]
theorem bv_one (l : List UInt8) : ∀ v ∈ bv l, v.oneCell' = true := by
  intro v hv
  obtain ⟨x, _, rfl⟩ := List.mem_map.1 hv
  rfl
/-- A row of bytes of the call's own. -/
def Own (w : World) (B : Nat) (v : Value) (l : List UInt8) : Prop := w.ownsRow B 5 1 v l.length (bv l)

theorem append_byte {w : World} {v : Value} {l : List UInt8} {B : Nat} (h : Own w B v l) (x : UInt8) (hs : l.length ≤ 1048576) (hb : B ≤ w.heap.size) :
    ∃ v' w', (Builtin.append_ #[82, 82] 82 #[v, .slice (some ⟨w.heap.size, 0, none⟩) 1 1]).run Try.prog (w.alloc (.cells #[.int .u8 (x.toNat : Int)] 5)) = .ok v' w' ∧ Own w' B v' (l ++ [x]) ∧ (w.alloc (.cells #[.int .u8 (x.toNat : Int)] 5)).grownBy w' v.ownBlock ∧ (∀ k, v'.ownBlock = some k → v.ownBlock = some k ∨ k = w.heap.size + 1) := by
  obtain ⟨i, hi, hz, h1, h2⟩ := info_of info5
  obtain ⟨v', w', a1, a2, a3, a4, a5⟩ := run_append_own_at (P := Try.prog) (w.alloc (.cells #[.int .u8 (x.toNat : Int)] 5)) B 82 82 5 i _ 1 1 Try.underlying82 hi hz h1 h2 (by simp [Value.cells]) (by omega) v l.length (bv l) (h.alloc _) ⟨w.heap.size, 0, none⟩ 1 1 (bv [x]) (by simp [bv])
    (fun j u hu => by
      rw [Go.WideShapes.add_plain]
      have hj : j = 0 := by have := (List.getElem?_eq_some_iff.1 hu).1; simpa [bv] using this
      subst hj
      rw [← hu]
      simp [bv]) (bv_one [x]) (by unfold maxLen; omega) (by omega) (Nat.le_trans hb (by simp))
  refine ⟨v', w', a1, ?_, a3, fun k hk => ?_⟩
  · unfold Own
    rw [List.length_append, bv_append]
    exact a2
  · rcases a5 with e | e
    · exact .inl (e ▸ hk)
    · rw [e] at hk; cases hk; exact .inr (by simp)

theorem append_text {w : World} {v : Value} {l : List UInt8} {B : Nat} (h : Own w B v l) (s : ByteArray) (hs : l.length + s.size ≤ 1048576) (hb : B ≤ w.heap.size) :
    ∃ v' w', (Builtin.append_ #[82, 9] 82 #[v, .string s]).run Try.prog w = .ok v' w' ∧ Own w' B v' (l ++ s.data.toList) ∧ w.grownBy w' v.ownBlock := by
  obtain ⟨i, hi, hz, h1, h2⟩ := info_of info5
  obtain ⟨v', w', a1, a2, a3, _⟩ := Lib.run_append_own_string (P := Try.prog) w B 82 9 82 5 i Try.underlying82 Try.underlying9 hi hz h1 h2 v l.length (bv l) h s (by unfold maxLen; omega) (by omega) hb
  refine ⟨v', w', a1, ?_, a3⟩
  unfold Own
  rw [List.length_append, bv_append]
  have : bv s.data.toList = Lib.strCells s := rfl
  rw [this]
  have e : s.data.toList.length = s.size := by simp
  rw [e]
  exact a2

/-- The byte of a number at a place, the highest first. -/
def byteOf (x : Int) (k : Nat) : UInt8 := UInt8.ofNat (x / 2 ^ (8 * (7 - k)) % 256).toNat
theorem byteOf_is (x : Int) (k : Nat) : ((byteOf x k).toNat : Int) = x / 2 ^ (8 * (7 - k)) % 256 := by
  have h1 := Int.emod_nonneg (x / 2 ^ (8 * (7 - k))) (show (256 : Int) ≠ 0 by omega)
  have h2 := Int.emod_lt_of_pos (x / 2 ^ (8 * (7 - k))) (show (0 : Int) < 256 by omega)
  unfold byteOf
  generalize x / 2 ^ (8 * (7 - k)) % 256 = y at *
  rw [UInt8.toNat_ofNat']
  omega
/-- A number's first bytes. -/
def bytesOf (x : Int) (k : Nat) : List UInt8 := (List.range k).map (byteOf x)
theorem bytesOf_succ (x : Int) (k : Nat) : bytesOf x (k + 1) = bytesOf x k ++ [byteOf x k] := by
  unfold bytesOf
  rw [List.range_succ, List.map_append]
  rfl
theorem bytesOf_len (x : Int) (k : Nat) : (bytesOf x k).length = k := by simp [bytesOf]
/-- A number with its sign turned. -/
def flip (n : Int) : Int := bits .xor .i64 n (-9223372036854775808)
theorem Own.form {w : World} {B : Nat} {v : Value} {l : List UInt8} (h : Own w B v l) : ∃ a m c, v = .slice a m c := by
  rcases h.2 with ⟨rfl, h0⟩ | ⟨g, cap, cur, rfl, _⟩
  · exact ⟨none, 0, 0, rfl⟩
  · exact ⟨_, _, cap, rfl⟩
/-- One byte behind others, in a row of the call's own. -/
theorem own_byte {w : World} {v : Value} {l : List UInt8} {B : Nat} (h : Own w B v l) (x : UInt8) (hs : l.length ≤ 1048576) (hb : B ≤ w.heap.size) {y : Int} (hy : (x.toNat : Int) = y) :
    ∃ v' w', (Builtin.append_ #[82, 82] 82 #[v, .slice (some ⟨w.heap.size, 0, none⟩) 1 1]).run Try.prog (w.alloc (.cells #[.int .u8 y] 5)) = .ok v' w' ∧ Own w' B v' (l ++ [x]) ∧ Below B w w' ∧ (∀ k, k < w.heap.size → v.ownBlock ≠ some k → w'.heap[k]? = w.heap[k]?) ∧ w.heap.size ≤ w'.heap.size ∧ (∀ k, v'.ownBlock = some k → v.ownBlock = some k ∨ k = w.heap.size + 1) := by
  subst hy
  obtain ⟨v', w', a1, a2, a3, a4⟩ := append_byte h x hs hb
  refine ⟨v', w', a1, a2, ((Below.refl B w).alloc hb _).grown a3 (Nat.le_trans hb (by simp)) (fun k hk => (World.ownsRow.lt h k hk).1), fun k hk hne => ?_, ?_, a4⟩
  · exact (a3.block k (by simp; omega) (fun e => hne e.symm)).trans (Below.heap_alloc w _ k hk)
  · have := a3.size
    simp at this
    omega
theorem appendInt_is {w : World} {v : Value} {l : List UInt8} {B : Nat} (h : Own w B v l) (n : Int) (hs : l.length ≤ 100000) (hb : B ≤ w.heap.size) :
    Calls Try.prog 44 #[v, .int .i64 n] w fun e w' => ∃ v', e = .returned v' ∧ Own w' B v' (l ++ bytesOf (flip n) 8) ∧ Below B w w' := by
  have HO : Hid (Own w B v l) := h
  obtain ⟨x, hx⟩ : ∃ x, flip n = x := ⟨_, rfl⟩
  rw [hx]
  have hx' : bits .xor .i64 n (-9223372036854775808) = x := hx
  clear h hx
  go_enter Try.func44, Try.ntmps44
  go_wp2_with fail
  clear hx'
  go_loopw [0, 8] (fun r i wr => ∃ k : Nat, k ≤ 8 ∧ i = .int .i64 k ∧ Hid (Own wr B r (l ++ bytesOf x k) ∧ Below B w wr))
    (fun _ i _ => 8 - (intOf i).toNat)
  case atStart => exact ⟨0, by omega, rfl, by simpa [bytesOf] using HO.out, Below.refl _ _⟩
  case round =>
    obtain ⟨k, hk, rfl, HI⟩ := hrel
    by_cases hlt : k < 8
    · have hlti : (k : Int) < 8 := by omega
      obtain ⟨v2, w2, ra, oa, ba, _, sz, _⟩ := own_byte HI.out.1 (byteOf x k) (by rw [List.length_append, bytesOf_len]; omega) (Nat.le_trans hb HI.out.2.size) (byteOf_is x k)
      rw [List.append_assoc, ← bytesOf_succ] at oa
      have RA := (show Hid _ from ra)
      have HA : Hid (Own w2 B v2 (l ++ bytesOf x (k + 1)) ∧ Below B w w2) := ⟨oa, HI.out.2.trans ba⟩
      clear ra oa ba sz
      go_wp2_with (first | ((with_reducible apply st_append (x := .tmp 11)); (case ho => rfl); (case hgd => rfl); (case hr => exact RA.out)))
      go_roundw
      case rel => exact ⟨k + 1, by omega, by go_num, HA.out⟩
      case measure => simp [intOf]; omega
    · have hlti : ¬ (k : Int) < 8 := by omega
      obtain rfl : k = 8 := by omega
      obtain ⟨a, m, c, rfl⟩ := HI.out.1.form
      go_wp2_with fail
      go_ret
      exact ⟨_, rfl, HI.out⟩
end Go.Proofs.Ytgjeobmbfeinnaa
