/- Read, of any text. -/
import Derived.Test.YtkhpmmmildcceaaGreatQSg
import Derived.Test.YtkhpmmmildcceaaGreatQRn
namespace Go.Proofs.YtkhpmmmildcceaaGreat
open Go.ChangeShapes Go.WideShapes Go.ChangeAt Go.RowKit
set_option linter.unusedVariables false
set_option maxRecDepth 100000
set_option maxRecDepth 100000

/-- The bytes of a page. -/
def Good (s : ByteArray) : Prop := ∃ (kd : UInt8) (cs : List Cel), kd.toNat ≠ 0 ∧ okC cs ∧ ris cs ∧ s.data.toList = bytesB (lay kd cs)
theorem drop_bytes (L : List UInt8) (hL : L.length = 256) (o : Nat) (ho : 8 ≤ o) : (bytesB L).drop o = L.drop o := by
  have e : bytesB L = (L.take 4 ++ sumP L) ++ L.drop 8 := rfl
  have hl : (L.take 4 ++ sumP L).length = 8 := by rw [List.length_append, List.length_take, hL]; rfl
  rw [e, show o = 8 + (o - 8) by omega, ← List.drop_drop, ← List.drop_drop]
  congr 1
  rw [← hl, List.drop_left]
theorem byteAt_bytes (L : List UInt8) (hL : L.length = 256) (j : Nat) (hj : j < 4 ∨ 8 ≤ j) : byteAt (bytesB L) j = byteAt L j := by
  rcases hj with q | q
  · unfold byteAt bytesB
    rw [List.append_assoc, List.getElem?_append_left (by rw [List.length_take, hL]; omega), List.getElem?_take_of_lt q]
  · unfold byteAt
    have h1 := List.getElem?_drop (xs := bytesB L) (i := j) (j := 0)
    have h2 := List.getElem?_drop (xs := L) (i := j) (j := 0)
    rw [drop_bytes L hL j q, h2] at h1
    rw [Nat.add_zero] at h1
    rw [← h1]
theorem end_bytes (L : List UInt8) (hL : L.length = 256) (k : Nat) : endB (bytesB L) k = endB L k := by
  unfold endB
  split
  · rfl
  · exact byteAt_bytes L hL _ (by omega)
/-- What stands in the bytes of a page, cell by cell. -/
theorem good_at (kd : UInt8) (cs : List Cel) (hok : okC cs) (i : Nat) (hi : i < cs.length) : endB (bytesB (lay kd cs)) i = 256 - tot (cs.take i) ∧ byteAt (bytesB (lay kd cs)) (8 + 2 * i) = 256 - tot (cs.take i) - csz cs[i] ∧ byteAt (bytesB (lay kd cs)) (9 + 2 * i) = cs[i].1.length ∧ keyB (bytesB (lay kd cs)) i = cs[i].1 ∧ valB (bytesB (lay kd cs)) i = cs[i].2 ∧ tot (cs.take i) + csz cs[i] ≤ tot cs := by
  have hL := lay_len kd cs hok.2
  have ecs : cs = cs.take i ++ cs[i] :: cs.drop (i + 1) := by rw [← List.drop_eq_getElem_cons hi, List.take_append_drop]
  have ha : (cs.take i).length = i := by rw [List.length_take]; omega
  have hpl := place_at kd (cs.take i) cs[i] (cs.drop (i + 1)) (by rw [← ecs]; exact hok)
  have hel := lay_end kd (cs.take i) (cs[i] :: cs.drop (i + 1)) (by rw [← ecs]; exact hok)
  have hce := lay_cell kd (cs.take i) cs[i] (cs.drop (i + 1)) (by rw [← ecs]; exact hok)
  rw [← ecs, ha] at hpl hel hce
  have ht : tot cs = tot (cs.take i) + (csz cs[i] + tot (cs.drop (i + 1))) := by
    have := tot_append (cs.take i) (cs[i] :: cs.drop (i + 1))
    rw [← ecs] at this
    exact this
  have h2 := hok.2
  have hb8 : 8 ≤ byteAt (lay kd cs) (8 + 2 * i) := by rw [hpl.1]; omega
  have b1 := byteAt_bytes (lay kd cs) hL (8 + 2 * i) (by omega)
  have b2 := byteAt_bytes (lay kd cs) hL (9 + 2 * i) (by omega)
  have b3 := end_bytes (lay kd cs) hL i
  refine ⟨by rw [b3]; exact hel, by rw [b1]; exact hpl.1, by rw [b2]; exact hpl.2, ?_, ?_, by omega⟩
  · unfold keyB
    rw [b1, b2, drop_bytes _ hL _ hb8]
    exact hce.1
  · unfold valB
    rw [b1, b2, b3, drop_bytes _ hL _ (by omega)]
    exact hce.2.1
theorem good_dec (kd : UInt8) (cs : List Cel) (hok : okC cs) : ∀ k, k ≤ cs.length → dec (bytesB (lay kd cs)) k = cs.take k
  | 0, _ => rfl
  | k + 1, hk => by
    have ih := good_dec kd cs hok k (by omega)
    obtain ⟨_, _, _, g1, g2, _⟩ := good_at kd cs hok k (by omega)
    show dec _ k ++ [(keyB _ k, valB _ k)] = _
    rw [ih, g1, g2, List.take_add_one, List.getElem?_eq_getElem (by omega)]
    rfl
theorem good_head (kd : UInt8) (cs : List Cel) (hok : okC cs) : byteAt (bytesB (lay kd cs)) 0 = kd.toNat ∧ byteAt (bytesB (lay kd cs)) 1 = cs.length := by
  have hL := lay_len kd cs hok.2
  exact ⟨by rw [byteAt_bytes _ hL 0 (by omega)]; exact lay_kind kd cs, by rw [byteAt_bytes _ hL 1 (by omega)]; exact lay_count kd cs hok⟩
/-- Read, of any text. -/
theorem read_gen (s : ByteArray) (w : World) : Calls Tryz.prog 122 #[.string s] w fun e w' => (¬ Good s ∧ e = .returned (.tuple #[.pointer none, .int .i64 120]) ∧ Kept (fun _ => False) w w') ∨ (∃ (kd : UInt8) (cs : List Cel) (q : Nat), kd.toNat ≠ 0 ∧ okC cs ∧ ris cs ∧ s.data.toList = bytesB (lay kd cs) ∧ e = .returned (.tuple #[.pointer (some ⟨q, 0, none⟩), .int .i64 0]) ∧ Pg w' q (lay kd cs) ∧ Kept (fun _ => False) w w' ∧ w.heap.size ≤ q) := by
  by_cases hg : Good s
  · obtain ⟨kd, cs, h1, h2, h3, h4⟩ := hg
    exact (read_yes s kd cs h4 h2 h3 h1 w).mono fun e w' ⟨q, q1, q2, q3, q4⟩ => .inr ⟨kd, cs, q, h1, h2, h3, h4, q1, q2, q3, q4⟩
  · by_cases hs : s.size = 256
    · have hl : s.data.toList.length = 256 := by rw [← hs]; simp
      by_cases hk : byteAt (wr s.data.toList 4 (zs 4)) 0 = 0
      · exact (read_kind s hs hk w).mono fun e w' ⟨q1, q2⟩ => .inl ⟨hg, q1, q2⟩
      · by_cases hq : (s.data.toList.drop 4).take (8 - 4) = sumP (wr s.data.toList 4 (zs 4))
        · have eW : wr s.data.toList 4 (zs 4) = s.data.toList.take 4 ++ zs 4 ++ s.data.toList.drop 8 := wr_eq _ 4 (zs 4) (by rw [hl]; simp)
          have h4 : ((wr s.data.toList 4 (zs 4)).drop 4).take 4 = zs 4 := by
            rw [eW, List.append_assoc]
            have ht : (s.data.toList.take 4).length = 4 := by rw [List.length_take, hl]; rfl
            rw [List.drop_append_of_le_length (by omega), List.drop_eq_nil_of_le (by omega), List.nil_append]
            exact List.take_left (l₁ := zs 4)
          refine (read_unsound s hs hk hq (fun V q hV => (sound_gen hV h4).mono fun e w' ⟨b, q1, q2, q3⟩ => ?_) w).mono fun e w' ⟨q1, q2⟩ => .inl ⟨hg, q1, q2⟩
          cases b with
          | false => exact ⟨q1, q3⟩
          | true =>
            exfalso
            obtain ⟨cs, r1, r2, r3⟩ := q2 rfl
            apply hg
            have hlt := byteAt_lt (wr s.data.toList 4 (zs 4)) 0
            refine ⟨UInt8.ofNat (byteAt (wr s.data.toList 4 (zs 4)) 0), cs, by rw [ofNat_val _ hlt]; exact hk, r1, r2, ?_⟩
            rw [← r3]
            unfold bytesB
            rw [← hq, eW]
            have ht : (s.data.toList.take 4).length = 4 := by rw [List.length_take, hl]; rfl
            have ht8 : (s.data.toList.take 4 ++ zs 4).length = 8 := by rw [List.length_append, ht]; rfl
            have a1 : (s.data.toList.take 4 ++ zs 4 ++ s.data.toList.drop 8).take 4 = s.data.toList.take 4 := by
              rw [List.append_assoc, List.take_append_of_le_length (by omega), List.take_of_length_le (by omega)]
            have a2 : (s.data.toList.take 4 ++ zs 4 ++ s.data.toList.drop 8).drop 8 = s.data.toList.drop 8 := by
              rw [List.drop_append_of_le_length (by omega), List.drop_eq_nil_of_le (by omega), List.nil_append]
            rw [a1, a2, List.append_assoc]
            have s1 := List.take_append_drop 4 s.data.toList
            have s2 := List.take_append_drop 4 (s.data.toList.drop 4)
            rw [List.drop_drop] at s2
            rw [show (8 - 4 : Nat) = 4 from rfl, s2, s1]
        · exact (read_sum s hs hk hq w).mono fun e w' ⟨q1, q2⟩ => .inl ⟨hg, q1, q2⟩
    · exact (read_size s hs w).mono fun e w' ⟨q1, q2⟩ => .inl ⟨hg, q1, q2⟩
end Go.Proofs.YtkhpmmmildcceaaGreat
