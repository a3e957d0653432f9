/- The document's Take. -/
import Derived.Test.YtaoboleifdgonaaROne
namespace Go.Proofs.Ytaoboleifdgonaa
open Go.ChangeShapes Go.WideShapes Go.RowKit
set_option linter.unusedVariables false
set_option maxRecDepth 100000
set_option maxRecDepth 100000

/-- Do bytes begin with a value that may be? -/
def Begins (s : ByteArray) : Prop := (cutV s false).short = false ∧ (cutV s false).v.may
/-- What 'one' answers. -/
def OneIs (s : ByteArray) (e : Ending) : Prop := (Begins s ∧ e = .returned (.tuple #[(cutV s false).v.val, .int .i64 ((s.size - (cutV s false).left.size : Nat) : Int)])) ∨ (¬ Begins s ∧ ∃ v : V, e = .returned (.tuple #[v.val, .int .i64 0]))
theorem get_list (s : ByteArray) (i : Nat) (h : i < s.size) : s.data.toList[i]? = some s[i] := by
  rw [List.getElem?_eq_getElem (by rw [len_size]; exact h)]
  rfl
theorem split_one (s : ByteArray) (h : 0 < s.size) : s.data.toList = s[0] :: s.data.toList.drop 1 := by
  have h' : 0 < s.data.toList.length := by rw [len_size]; exact h
  rw [← List.drop_zero (l := s.data.toList), List.drop_eq_getElem_cons h']
  rfl
theorem split_two (s : ByteArray) (h : 1 < s.size) : s.data.toList = s[0] :: s[1] :: s.data.toList.drop 2 := by
  have h' : 1 < s.data.toList.length := by rw [len_size]; exact h
  rw [split_one s (by omega), List.drop_eq_getElem_cons h']
  rfl
theorem num_byte (x : UInt8) : numF [x] = (x.toNat : Int) := by rw [numF_one, stepF, bits_or_zero _ x.toNat_lt]
theorem firstN_one (s : ByteArray) (h : 0 < s.size) : firstN s 1 = (s[0].toNat : Int) := by
  rw [firstN_is, split_one s h]
  show numF [s[0]] = _
  exact num_byte _
theorem rest_size (s : ByteArray) (n : Nat) : (rest s n).size = s.size - n := by rw [← len_size, rest_list, List.length_drop, len_size]
theorem firstN_two (s : ByteArray) (h : 1 < s.size) : firstN (rest s 1) 1 = (s[1].toNat : Int) := by
  rw [firstN_is, rest_list, split_two s h]
  show numF [s[1]] = _
  exact num_byte _
theorem fewer_is (s : ByteArray) (n : Nat) : fewer false s n = decide (s.size < n) := by unfold fewer; rw [Bool.false_or]
set_option maxHeartbeats 4000000 in
theorem one_is (s : ByteArray) (hsz : s.size ≤ 1000000) (w : World) : Calls Try.prog 63 #[.string s] w fun e w' => OneIs s e ∧ Below w.heap.size w w' := by
  by_cases h0 : s.size = 0
  · rw [empty_of h0]
    refine (one_empty w).mono ?_
    rintro e w' ⟨rfl, k⟩
    refine ⟨.inr ⟨fun hb => ?_, ⟨0, 0, ⟨#[]⟩⟩, rfl⟩, k⟩
    have := hb.1
    revert this
    decide
  have h1 : 0 < s.size := by omega
  have e1 := firstN_one s h1
  have f1 : fewer false s 1 = false := by rw [fewer_is, decide_eq_false (by omega)]
  obtain ⟨k, hk⟩ : ∃ k, s[0].toNat = k := ⟨_, rfl⟩
  rw [hk] at e1
  by_cases k0 : k = 0
  · subst k0
    have hV : cutV s false = ⟨⟨0, 0, ⟨#[]⟩⟩, rest s 1, false⟩ := by unfold cutV; simp only [e1, f1]; rfl
    refine (one_null s h1 hk w).mono ?_
    rintro e w' ⟨rfl, kk⟩
    refine ⟨.inl ⟨?_, ?_⟩, kk⟩
    · unfold Begins; rw [hV]; exact ⟨rfl, .inl ⟨rfl, rfl, rfl⟩⟩
    · rw [hV]; show _ = Ending.returned (.tuple #[vv 0 0 ⟨#[]⟩, .int .i64 ((s.size - (rest s 1).size : Nat) : Int)]); rw [rest_size, show s.size - (s.size - 1) = 1 by omega]; rfl
  by_cases k1 : k = 1
  · subst k1
    have hV : cutV s false = ⟨⟨1, bits .xor .i64 (firstN (rest s 1) 8) (-9223372036854775808), ⟨#[]⟩⟩, rest (rest s 1) 8, fewer false (rest s 1) 8⟩ := by unfold cutV; simp only [e1, f1]; rfl
    by_cases h9 : s.size < 9
    · refine (one_int_short s h1 hk h9 w).mono ?_
      rintro e w' ⟨rfl, kk⟩
      refine ⟨.inr ⟨fun hb => ?_, ⟨1, 0, ⟨#[]⟩⟩, rfl⟩, kk⟩
      have := hb.1
      rw [hV, fewer_is, rest_size] at this
      have := of_decide_eq_false this
      omega
    · have h9' : 1 < s.size := by omega
      have hf : fewer false (rest s 1) 8 = false := by rw [fewer_is, rest_size, decide_eq_false (by omega)]
      have hn : bits .xor .i64 (firstN (rest s 1) 8) (-9223372036854775808) = foldN ((s.data.toList.drop 2).take 7) ((s[1].toNat : Int) - 128) := by
        rw [fold_flip _ _ (by rw [List.length_take, List.length_drop, len_size]; omega), firstN_is, rest_list]
        have : (s.data.toList.drop 1).take 8 = s[1] :: (s.data.toList.drop 2).take 7 := by
          conv => lhs; rw [split_two s h9']
          rfl
        rw [this]
        rfl
      refine (one_int s h1 hk (by omega) h9' hsz _ hn w).mono ?_
      rintro e w' ⟨rfl, kk⟩
      refine ⟨.inl ⟨?_, ?_⟩, kk⟩
      · unfold Begins; rw [hV]; exact ⟨hf, .inr (.inl ⟨rfl, rfl⟩)⟩
      · rw [hV]; show _ = Ending.returned (.tuple #[vv 1 _ ⟨#[]⟩, .int .i64 ((s.size - (rest (rest s 1) 8).size : Nat) : Int)]); rw [rest_size, rest_size, show s.size - (s.size - 1 - 8) = 9 by omega]; rfl
  by_cases k2 : k = 2
  · subst k2
    by_cases h9 : s.size < 2
    · refine (one_text_short s h1 hk h9 w).mono ?_
      rintro e w' ⟨rfl, kk⟩
      refine ⟨.inr ⟨fun hb => ?_, ⟨2, 0, ⟨#[]⟩⟩, rfl⟩, kk⟩
      have := cut_fwd s false hb.1 hb.2
      have hV : (cutV s false).v.k = 2 := by unfold cutV; simp only [e1, f1]; rfl
      have hl := congrArg List.length this.2.1
      rw [len_size, List.length_append] at hl
      have hb2 : 2 ≤ (cutV s false).v.bytes.length := by
        generalize (cutV s false).v = x at *
        obtain ⟨xk, xn, xs⟩ := x
        have hV' : xk = 2 := hV
        subst hV'
        show 2 ≤ (lowB 2 :: (lowB _ :: _)).length
        simp
      omega
    · have h9' : 1 < s.size := by omega
      obtain ⟨c, hc⟩ : ∃ c, s[1].toNat = c := ⟨_, rfl⟩
      have e2 := firstN_two s h9'
      rw [hc] at e2
      have f2 : fewer false (rest s 1) 1 = false := by rw [fewer_is, rest_size, decide_eq_false (by omega)]
      have hV : cutV s false = ⟨⟨2, 0, (rest (rest s 1) 1).extract 0 c⟩, rest (rest (rest s 1) 1) c, fewer false (rest (rest s 1) 1) c⟩ := by
        unfold cutV
        simp only [e1, f1, e2, f2, Int.toNat_natCast]
        rfl
      have hx : (rest (rest s 1) 1).extract 0 c = s.extract 2 (2 + c) := by
        apply bytes_ext
        rw [first_list, rest_list, rest_list, List.drop_drop, ext_list]
        congr 1
        omega
      have hxs : c + 2 ≤ s.size → (s.extract 2 (2 + c)).size = c := fun h => by rw [← len_size, ext_list, List.length_take, List.length_drop, len_size]; omega
      rw [hx] at hV
      by_cases hfew : s.size < c + 2
      · refine (one_text_few s h1 hk h9' c hc hfew hsz w).mono ?_
        rintro e w' ⟨rfl, kk⟩
        refine ⟨.inr ⟨fun hb => ?_, ⟨2, 0, ⟨#[]⟩⟩, rfl⟩, kk⟩
        have := hb.1
        rw [hV, fewer_is, rest_size, rest_size] at this
        have := of_decide_eq_false this
        omega
      · have hfew' : c + 2 ≤ s.size := by omega
        by_cases hlong : c ≤ 64
        · refine (one_text s h1 hk h9' c hc hfew' hsz hlong w).mono ?_
          rintro e w' ⟨rfl, kk⟩
          refine ⟨.inl ⟨?_, ?_⟩, kk⟩
          · unfold Begins; rw [hV]; exact ⟨by rw [fewer_is, rest_size, rest_size, decide_eq_false (by omega)], .inr (.inr (.inl ⟨rfl, rfl, by have := hxs hfew'; show (s.extract 2 (2 + c)).size ≤ 64; omega⟩))⟩
          · rw [hV]; show _ = Ending.returned (.tuple #[vv 2 0 _, .int .i64 ((s.size - (rest (rest (rest s 1) 1) c).size : Nat) : Int)]); rw [rest_size, rest_size, rest_size, show s.size - (s.size - 1 - 1 - c) = 2 + c by omega]; rfl
        · refine (one_text_long s h1 hk h9' c hc hfew' hsz (by omega) w).mono ?_
          rintro e w' ⟨rfl, kk⟩
          refine ⟨.inr ⟨fun hb => ?_, ⟨2, 0, ⟨#[]⟩⟩, rfl⟩, kk⟩
          have := hb.2
          rw [hV] at this
          have hm : mayV 2 0 (s.extract 2 (2 + c)) := this
          unfold mayV at hm
          have := hxs hfew'
          omega
  by_cases k3 : k = 3
  · subst k3
    by_cases h9 : s.size < 2
    · refine (one_bool_short s h1 hk h9 w).mono ?_
      rintro e w' ⟨rfl, kk⟩
      refine ⟨.inr ⟨fun hb => ?_, ⟨3, 0, ⟨#[]⟩⟩, rfl⟩, kk⟩
      have hV : cutV s false = ⟨⟨3, firstN (rest s 1) 1, ⟨#[]⟩⟩, rest (rest s 1) 1, fewer false (rest s 1) 1⟩ := by unfold cutV; simp only [e1, f1]; rfl
      have := hb.1
      rw [hV, fewer_is, rest_size] at this
      have := of_decide_eq_false this
      omega
    · have h9' : 1 < s.size := by omega
      obtain ⟨c, hc⟩ : ∃ c, s[1].toNat = c := ⟨_, rfl⟩
      have e2 := firstN_two s h9'
      rw [hc] at e2
      have f2 : fewer false (rest s 1) 1 = false := by rw [fewer_is, rest_size, decide_eq_false (by omega)]
      have hV : cutV s false = ⟨⟨3, c, ⟨#[]⟩⟩, rest (rest s 1) 1, false⟩ := by unfold cutV; simp only [e1, f1, e2, f2]; rfl
      by_cases hb : c ≤ 1
      · refine (one_bool s h1 hk h9' c hc hb w).mono ?_
        rintro e w' ⟨rfl, kk⟩
        refine ⟨.inl ⟨?_, ?_⟩, kk⟩
        · unfold Begins; rw [hV]; exact ⟨rfl, .inr (.inr (.inr ⟨rfl, by show (c : Int) = 0 ∨ (c : Int) = 1; omega, rfl⟩))⟩
        · rw [hV]; show _ = Ending.returned (.tuple #[vv 3 c ⟨#[]⟩, .int .i64 ((s.size - (rest (rest s 1) 1).size : Nat) : Int)]); rw [rest_size, rest_size, show s.size - (s.size - 1 - 1) = 2 by omega]; rfl
      · refine (one_bool_big s h1 hk h9' c hc (by omega) w).mono ?_
        rintro e w' ⟨rfl, kk⟩
        refine ⟨.inr ⟨fun hb' => ?_, ⟨3, 0, ⟨#[]⟩⟩, rfl⟩, kk⟩
        have := hb'.2
        rw [hV] at this
        have hm : mayV 3 c ⟨#[]⟩ := this
        unfold mayV at hm
        omega
  · refine (one_other s h1 k hk k0 k1 k2 k3 w).mono ?_
    rintro e w' ⟨rfl, kk⟩
    refine ⟨.inr ⟨fun hb => ?_, ⟨k, 0, ⟨#[]⟩⟩, rfl⟩, kk⟩
    have hV : cutV s false = ⟨⟨k, 0, ⟨#[]⟩⟩, rest s 1, false⟩ := by
      unfold cutV
      simp only [e1, f1]
      rw [if_neg (by omega), if_neg (by omega), if_neg (by omega)]
    have := hb.2
    rw [hV] at this
    have hm : mayV k 0 ⟨#[]⟩ := this
    unfold mayV at hm
    omega
end Go.Proofs.Ytaoboleifdgonaa
