/- value: what is taken is put as it was. -/
import Derived.Test.YtaoboleifdgonaaTripB
namespace Go.Proofs.Ytaoboleifdgonaa
open Go.ChangeShapes Go.WideShapes Go.RowKit
set_option linter.unusedVariables false
set_option maxRecDepth 100000

theorem worth_inj : ∀ l m : List UInt8, l.length = m.length → worth l = worth m → l = m
  | [], [], _, _ => rfl
  | x :: l, y :: m, h, e => by
    have hl : l.length = m.length := by simpa using h
    have h1 := worth_lt l
    have h2 := worth_lt m
    rw [worth, worth, hl] at e
    rw [hl] at h1
    have ih := worth_inj l m hl
    generalize worth l = a at *
    generalize worth m = b at *
    generalize 256 ^ m.length = q at *
    have hx : x.toNat = y.toNat := by
      by_cases h3 : x.toNat < y.toNat
      · have : (x.toNat + 1) * q ≤ y.toNat * q := Nat.mul_le_mul_right _ h3
        rw [Nat.add_mul, Nat.one_mul] at this
        omega
      · by_cases h4 : y.toNat < x.toNat
        · have : (y.toNat + 1) * q ≤ x.toNat * q := Nat.mul_le_mul_right _ h4
          rw [Nat.add_mul, Nat.one_mul] at this
          omega
        · omega
    rw [hx] at e
    rw [UInt8.toNat_inj.1 hx, ih (by omega)]
theorem numF_range (l : List UInt8) : -9223372036854775808 ≤ numF l ∧ numF l ≤ 9223372036854775807 := by
  rw [numF_worth _ _ rfl]
  unfold wrap64
  omega
theorem bytes_of_num (l : List UInt8) (h : l.length = 8) : bytesOf (numF l) 8 = l := by
  refine worth_inj _ _ (by rw [bytesOf_len, h]) ?_
  have e := worth_bytes (numF l)
  have hw := worth_lt l
  rw [h] at hw
  rw [numF_worth _ _ rfl] at e ⊢
  unfold wrap64 at *
  omega
theorem fewer_yes {short : Bool} {L : ByteArray} {n : Nat} (h : fewer short L n = false) : short = false ∧ n ≤ L.data.toList.length := by
  unfold fewer at h
  rw [Bool.or_eq_false_iff] at h
  rw [len_size]
  exact ⟨h.1, by have := of_decide_eq_false h.2; omega⟩
theorem low_byte (x : UInt8) : lowB (x.toNat : Int) = x := by
  apply UInt8.toNat_inj.1
  have := lowB_is (x.toNat : Int)
  have := x.toNat_lt
  omega
theorem one_byte (L : ByteArray) (h : 1 ≤ L.data.toList.length) : ∃ x t, L.data.toList = x :: t ∧ firstN L 1 = (x.toNat : Int) ∧ (rest L 1).data.toList = t := by
  match hL : L.data.toList, h with
  | x :: t, _ =>
    refine ⟨x, t, rfl, ?_, by rw [rest_list, hL]; rfl⟩
    rw [firstN_is, hL]
    show numF [x] = _
    rw [numF_one, stepF, bits_or_zero _ x.toNat_lt]
theorem cut_fwd (L : ByteArray) (short : Bool) (hs : (cutV L short).short = false) (hm : (cutV L short).v.may) : short = false ∧ L.data.toList = (cutV L short).v.bytes ++ (cutV L short).left.data.toList ∧ (-9223372036854775808 ≤ (cutV L short).v.n ∧ (cutV L short).v.n ≤ 9223372036854775807) := by
  by_cases k1 : firstN L 1 = 1
  · have e : cutV L short = ⟨⟨1, bits .xor .i64 (firstN (rest L 1) 8) (-9223372036854775808), ⟨#[]⟩⟩, rest (rest L 1) 8, fewer (fewer short L 1) (rest L 1) 8⟩ := by unfold cutV; simp only [k1]; rfl
    rw [e] at hs ⊢
    obtain ⟨f1, l8⟩ := fewer_yes hs
    obtain ⟨f0, l1⟩ := fewer_yes f1
    obtain ⟨x, t, hL, hx, ht⟩ := one_byte L l1
    rw [ht] at l8
    have hn : firstN (rest L 1) 8 = numF (t.take 8) := by rw [firstN_is, ht]
    have hb : bytesOf (flip (flip (numF (t.take 8)))) 8 = t.take 8 := by
      rw [flip_back _ (numF_range _).1 (numF_range _).2]
      exact bytes_of_num _ (by rw [List.length_take]; omega)
    refine ⟨f0, ?_, ?_⟩
    · show L.data.toList = (lowB 1 :: bytesOf (flip (flip (firstN (rest L 1) 8))) 8) ++ (rest (rest L 1) 8).data.toList
      rw [hn, hb, rest_list, ht, hL]
      have : x = lowB 1 := by rw [← low_byte x, ← hx, k1]
      rw [List.cons_append, List.take_append_drop, this]
    · show -9223372036854775808 ≤ flip (firstN (rest L 1) 8) ∧ flip (firstN (rest L 1) 8) ≤ 9223372036854775807
      exact flip_range _
  · by_cases k2 : firstN L 1 = 2
    · have e : cutV L short = ⟨⟨2, 0, (rest (rest L 1) 1).extract 0 (firstN (rest L 1) 1).toNat⟩, rest (rest (rest L 1) 1) (firstN (rest L 1) 1).toNat, fewer (fewer (fewer short L 1) (rest L 1) 1) (rest (rest L 1) 1) (firstN (rest L 1) 1).toNat⟩ := by unfold cutV; simp only [k2]; rfl
      rw [e] at hs ⊢
      obtain ⟨f2, l3⟩ := fewer_yes hs
      obtain ⟨f1, l2⟩ := fewer_yes f2
      obtain ⟨f0, l1⟩ := fewer_yes f1
      obtain ⟨x, t, hL, hx, ht⟩ := one_byte L l1
      obtain ⟨y, u, hy, hyn, hu⟩ := one_byte (rest L 1) l2
      rw [ht] at hy
      rw [hyn, Int.toNat_natCast] at l3 ⊢
      rw [hu] at l3
      have hsz : ((rest (rest L 1) 1).extract 0 y.toNat).size = y.toNat := by
        rw [← len_size, first_list, hu, List.length_take]
        omega
      refine ⟨f0, ?_, by show (-9223372036854775808 : Int) ≤ 0 ∧ (0 : Int) ≤ 9223372036854775807; omega⟩
      show L.data.toList = (lowB 2 :: lowB (((rest (rest L 1) 1).extract 0 y.toNat).size : Int) :: ((rest (rest L 1) 1).extract 0 y.toNat).data.toList) ++ (rest (rest (rest L 1) 1) y.toNat).data.toList
      rw [hsz, low_byte, first_list, hu, rest_list (rest (rest L 1) 1), hu, hL, hy]
      have : x = lowB 2 := by rw [← low_byte x, ← hx, k2]
      rw [List.cons_append, List.cons_append, List.take_append_drop, this]
    · by_cases k3 : firstN L 1 = 3
      · have e : cutV L short = ⟨⟨3, firstN (rest L 1) 1, ⟨#[]⟩⟩, rest (rest L 1) 1, fewer (fewer short L 1) (rest L 1) 1⟩ := by unfold cutV; simp only [k3]; rfl
        rw [e] at hs ⊢
        obtain ⟨f1, l2⟩ := fewer_yes hs
        obtain ⟨f0, l1⟩ := fewer_yes f1
        obtain ⟨x, t, hL, hx, ht⟩ := one_byte L l1
        obtain ⟨y, u, hy, hyn, hu⟩ := one_byte (rest L 1) l2
        rw [ht] at hy
        have hyl := y.toNat_lt
        rw [hyn]
        refine ⟨f0, ?_, (by omega : (-9223372036854775808 : Int) ≤ (y.toNat : Int) ∧ (y.toNat : Int) ≤ 9223372036854775807)⟩
        show L.data.toList = (lowB 3 :: [lowB (y.toNat : Int)]) ++ (rest (rest L 1) 1).data.toList
        rw [low_byte, hu, hL, hy]
        have : x = lowB 3 := by rw [← low_byte x, ← hx, k3]
        rw [this]
        rfl
      · have e : cutV L short = ⟨⟨firstN L 1, 0, ⟨#[]⟩⟩, rest L 1, fewer short L 1⟩ := by unfold cutV; simp only; rw [if_neg k1, if_neg k2, if_neg k3]
        rw [e] at hs hm ⊢
        obtain ⟨f0, l1⟩ := fewer_yes hs
        obtain ⟨x, t, hL, hx, ht⟩ := one_byte L l1
        have k0 : firstN L 1 = 0 := by
          have hm' : mayV (firstN L 1) 0 ⟨#[]⟩ := hm
          unfold mayV at hm'
          omega
        refine ⟨f0, ?_, by show (-9223372036854775808 : Int) ≤ 0 ∧ (0 : Int) ≤ 9223372036854775807; omega⟩
        show L.data.toList = (lowB (firstN L 1) :: tailB (firstN L 1) 0 ⟨#[]⟩) ++ (rest L 1).data.toList
        rw [k0, ht, hL]
        have : x = lowB 0 := by rw [← low_byte x, ← hx, k0]
        rw [this]
        rfl
end Go.Proofs.Ytaoboleifdgonaa
