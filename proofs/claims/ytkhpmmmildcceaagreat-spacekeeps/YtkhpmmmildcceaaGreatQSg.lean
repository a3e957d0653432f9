/- sound, of any bytes: its parts. Bytes that are those of cells. sound, of any bytes. -/
import Derived.Test.YtkhpmmmildcceaaGreatQRs
import Derived.Test.YtkhpmmmildcceaaGreatQNn
namespace Go.Proofs.YtkhpmmmildcceaaGreat
open Go.ChangeShapes Go.WideShapes Go.ChangeAt Go.RowKit
set_option linter.unusedVariables false
set_option maxRecDepth 100000
set_option maxRecDepth 100000

theorem wrap_of (y : Int) (h : -1000 ≤ y ∧ y ≤ 1000) : wrap64 y = y := by unfold wrap64; omega

theorem mayCell_gen (x : Nat) (y : Int) (hx : x ≤ 255) (hy : -1000 ≤ y ∧ y ≤ 1000) (w : World) : Calls Tryz.prog 112 #[.int .i64 (x : Int), .int .i64 y] w fun e w' => e = .returned (.bool (decide (1 ≤ x ∧ x ≤ 80 ∧ (x : Int) ≤ y ∧ y ≤ 100))) ∧ ∃ m, w' = w.drewN m := by
  by_cases c1 : (1 : Int) ≤ x
  · by_cases c2 : (x : Int) ≤ 80
    · by_cases c3 : (x : Int) ≤ y
      · by_cases c4 : y ≤ 100
        · rw [decide_eq_true (by omega)]
          go_enter Tryz.func112, Tryz.ntmps112
          go_wp2
          go_ret
          exact ⟨rfl, 0, rfl⟩
        · rw [decide_eq_false (by omega)]
          go_enter Tryz.func112, Tryz.ntmps112
          go_wp2
          go_ret
          exact ⟨rfl, 0, rfl⟩
      · rw [decide_eq_false (by omega)]
        go_enter Tryz.func112, Tryz.ntmps112
        go_wp2
        go_ret
        exact ⟨rfl, 0, rfl⟩
    · rw [decide_eq_false (by omega)]
      go_enter Tryz.func112, Tryz.ntmps112
      go_wp2
      go_ret
      exact ⟨rfl, 0, rfl⟩
  · rw [decide_eq_false (by omega)]
    go_enter Tryz.func112, Tryz.ntmps112
    go_wp2
    go_ret
    exact ⟨rfl, 0, rfl⟩
/-- An answer that says something where it is true. -/
def TellE (Q : Prop) (w : World) (e : Ending) (w' : World) : Prop := ∃ b : Bool, e = .returned (.bool b) ∧ (b = true → Q) ∧ ∃ m, w' = w.drewN m
set_option maxHeartbeats 1000000 in
theorem noughts_gen {w : World} {p : Nat} {B : List UInt8} (h : Pg w p B) (lo hi L o c : Nat) (h1 : lo + L = hi) (h2 : hi ≤ 256) (ho : offB lo = o) : Calls Tryz.prog 151 #[.slice (some ⟨p, o, none⟩) L c] w fun e w' => TellE (∀ i, lo ≤ i → i < hi → byteAt B i = 0) w e w' := by
  have HC : Hid (∀ i, i < L → w.cell? ⟨p, o + i, none⟩ = some (.int .u8 (byteAt B (lo + i) : Int))) := fun i hi => by
    have e : o = lo := by rw [← ho]; exact offB_lt (by omega)
    rw [e, h.cell (lo + i) (by omega)]
  have HL : Hid (lo + L = hi) := h1
  have hL : L ≤ 256 := by omega
  clear h h1 h2 ho
  go_enter Tryz.func151, Tryz.ntmps151
  go_wp2_with fail
  go_loopw [7] (fun v7 wr => ∃ i : Nat, i ≤ L ∧ v7 = .int .i64 i ∧ wr = w ∧ Hid (∀ j, j < i → byteAt B (lo + j) = 0)) (fun v7 _ => L - (intOf v7).toNat)
  case atStart => exact ⟨0, Nat.zero_le _, rfl, rfl, fun j hj => absurd hj (Nat.not_lt_zero _)⟩
  case round =>
    obtain ⟨i, hi, rfl, rfl, HI⟩ := hrel
    by_cases hlt : i < L
    · have c1 : (i : Int) < (L : Int) := by omega
      have cc := HC.out i hlt
      have hib : (i : Int) + 1 ≤ 1000 := by omega
      obtain ⟨x, hx⟩ : ∃ x, byteAt B (lo + i) = x := ⟨_, rfl⟩
      have hxb : x < 256 := by rw [← hx]; exact byteAt_lt _ _
      have HX : Hid (byteAt B (lo + i) = x) := hx
      rw [hx] at cc
      by_cases hz : (x : Int) = 0
      · have HI2 : Hid (∀ j, j < i + 1 → byteAt B (lo + j) = 0) := fun j hj => by
          rcases Nat.lt_or_eq_of_le (Nat.lt_succ_iff.1 hj) with q | q
          · exact HI.out j q
          · subst q; rw [HX.out]; omega
        clear HI HX hx
        go_wp2_with fail
        go_roundw
        case rel => exact ⟨i + 1, hlt, by rw [Int.natCast_add]; rfl, trivial, HI2.out⟩
        case measure => simp only [intOf]; omega
      · clear HI HX hx
        go_wp2_with fail
        go_ret
        exact ⟨false, rfl, (fun e => nomatch e), 0, rfl⟩
    · have c1 : ¬ (i : Int) < (L : Int) := by omega
      have HIL : Hid (i = L) := by show _ = _; omega
      go_wp2_with fail
      go_ret
      refine ⟨true, rfl, fun _ j hj1 hj2 => ?_, 0, rfl⟩
      have := HI.out (j - lo) (by have := HIL.out; have := HL.out; omega)
      rwa [show lo + (j - lo) = j by omega] at this
/-- A cell that may be, and stands behind the one ahead of it. -/
def CK (B : List UInt8) (k : Nat) : Prop := 1 ≤ byteAt B (9 + 2 * k) ∧ byteAt B (9 + 2 * k) ≤ 80 ∧ byteAt B (8 + 2 * k) + byteAt B (9 + 2 * k) ≤ endB B k ∧ endB B k ≤ byteAt B (8 + 2 * k) + 100 ∧ (k = 0 ∨ Op.bytesLess (keyB B (k - 1)) (keyB B k) = true)
set_option maxHeartbeats 2000000 in
theorem soundCell_gen {w : World} {p : Nat} {B : List UInt8} (h : Pg w p B) (k : Nat) (hk : 9 + 2 * k < 256) (hpre : k = 0 ∨ byteAt B (8 + 2 * (k - 1)) + byteAt B (9 + 2 * (k - 1)) ≤ 256) : Calls Tryz.prog 149 #[.pointer (some ⟨p, 0, none⟩), .int .i64 (k : Int)] w fun e w' => TellE (CK B k) w e w' := by
  have hel := endB_le B k
  have hbl := byteAt_lt B (8 + 2 * k)
  have hkl := byteAt_lt B (9 + 2 * k)
  obtain ⟨ek, hek⟩ : ∃ ek, endB B k = ek := ⟨_, rfl⟩
  obtain ⟨bk, hbk⟩ : ∃ bk, byteAt B (8 + 2 * k) = bk := ⟨_, rfl⟩
  obtain ⟨kl, hkk⟩ : ∃ kl, byteAt B (9 + 2 * k) = kl := ⟨_, rfl⟩
  rw [hek] at hel
  rw [hbk] at hbl
  rw [hkk] at hkl
  obtain ⟨y, hy⟩ : ∃ y : Int, (ek : Int) - (bk : Int) = y := ⟨_, rfl⟩
  have hyb : -1000 ≤ y ∧ y ≤ 1000 := by omega
  have s1 : wrap64 ((ek : Int) - (bk : Int)) = y := by rw [hy]; exact wrap_of y hyb
  have H42 : Hid (∀ z, Calls Tryz.prog 145 #[.pointer (some ⟨p, 0, none⟩), .int .i64 (k : Int)] (w.drewN z) fun e w' => e = .returned (.int .i64 (kl : Int)) ∧ ∃ m, w' = (w.drewN z).drewN m) := fun z => by have := keySize_is (h.dr z) k hk; rw [hkk] at this; exact this
  have H43 : Hid (∀ z, Calls Tryz.prog 115 #[.pointer (some ⟨p, 0, none⟩), .int .i64 (k : Int)] (w.drewN z) fun e w' => e = .returned (.int .i64 (ek : Int)) ∧ ∃ m, w' = (w.drewN z).drewN m) := fun z => by have := end_is (h.dr z) k (by omega); rw [hek] at this; exact this
  have H41 : Hid (∀ z, Calls Tryz.prog 116 #[.pointer (some ⟨p, 0, none⟩), .int .i64 (k : Int)] (w.drewN z) fun e w' => e = .returned (.int .i64 (bk : Int)) ∧ ∃ m, w' = (w.drewN z).drewN m) := fun z => by have := begin_is (h.dr z) k (by omega); rw [hbk] at this; exact this
  have HCK : Hid (∀ q : Bool, (1 ≤ kl ∧ kl ≤ 80 ∧ (kl : Int) ≤ y ∧ y ≤ 100) → (k = 0 ∨ Op.bytesLess (keyB B (k - 1)) (keyB B k) = true) → CK B k) := fun _ u v => ⟨by omega, by omega, by omega, by omega, v⟩
  by_cases hm : 1 ≤ kl ∧ kl ≤ 80 ∧ (kl : Int) ≤ y ∧ y ≤ 100
  · have HM : Hid (1 ≤ kl ∧ kl ≤ 80 ∧ (kl : Int) ≤ y ∧ y ≤ 100) := hm
    have H49 : Hid (∀ z, Calls Tryz.prog 112 #[.int .i64 (kl : Int), .int .i64 y] (w.drewN z) fun e w' => e = .returned (.bool true) ∧ ∃ m, w' = (w.drewN z).drewN m) := fun z => by have := mayCell_gen kl y (by omega) hyb (w.drewN z); rw [decide_eq_true hm] at this; exact this
    have hks : byteAt B (8 + 2 * k) + byteAt B (9 + 2 * k) ≤ 256 := by omega
    have HK : Hid (∀ z, Calls Tryz.prog 140 #[.pointer (some ⟨p, 0, none⟩), .int .i64 (k : Int)] (w.drewN z) fun e w' => e = .returned (.string ⟨(keyB B k).toArray⟩) ∧ ∃ m, w' = (w.drewN z).drewN m) := fun z => key_is (h.dr z) k hk hks
    cases k with
    | zero =>
      clear hy h hk hpre hel hbl hkl hek hbk hkk hm hks HK hyb
      rw [drewN0 w]
      go_enter Tryz.func149, Tryz.ntmps149
      go_wp2_with fail
      refine Calls.mono (H42.out _) ?_; rintro e w1 ⟨rfl, m1, rfl⟩
      go_wp2_with fail
      refine Calls.mono (H43.out _) ?_; rintro e w1 ⟨rfl, m2, rfl⟩
      go_wp2_with fail
      refine Calls.mono (H41.out _) ?_; rintro e w1 ⟨rfl, m3, rfl⟩
      go_wp2_with fail
      refine Calls.mono (H49.out _) ?_; rintro e w1 ⟨rfl, m4, rfl⟩
      go_wp2_with fail
      go_ret
      exact ⟨true, rfl, fun _ => HCK.out true HM.out (.inl (by first | rfl | trivial)), _, rfl⟩
    | succ j =>
      have hpj : byteAt B (8 + 2 * j) + byteAt B (9 + 2 * j) ≤ 256 := hpre.resolve_left (by omega)
      have HJ : Hid (∀ z, Calls Tryz.prog 140 #[.pointer (some ⟨p, 0, none⟩), .int .i64 (j : Int)] (w.drewN z) fun e w' => e = .returned (.string ⟨(keyB B j).toArray⟩) ∧ ∃ m, w' = (w.drewN z).drewN m) := fun z => key_is (h.dr z) j (by omega) hpj
      obtain ⟨S1, hS1⟩ : ∃ S, (⟨(keyB B j).toArray⟩ : ByteArray) = S := ⟨_, rfl⟩
      obtain ⟨S2, hS2⟩ : ∃ S, (⟨(keyB B (j + 1)).toArray⟩ : ByteArray) = S := ⟨_, rfl⟩
      have HLS : Hid (Op.bytesLess S1.toList S2.toList = Op.bytesLess (keyB B j) (keyB B (j + 1))) := by show _ = _; rw [ByteArray.toList_eq, ByteArray.toList_eq, ← hS1, ← hS2]
      rw [hS1] at HJ
      rw [hS2] at HK
      obtain ⟨yy, hyy⟩ : ∃ yy, j + 1 = yy := ⟨_, rfl⟩
      have HYY : Hid (j + 1 = yy) := hyy
      rw [hyy] at H42 H43 H41 HK HLS HCK ⊢
      have c1 : ¬ (yy : Int) = 0 := by omega
      have s2 : wrap64 ((yy : Int) - 1) = (j : Int) := sub64c yy 1 j hyy (by omega)
      have HYJ : Hid (yy - 1 = j) := by show _ = _; omega
      clear hy h hk hpre hel hbl hkl hek hbk hkk hm hks hpj hS1 hS2 hyy hyb
      rw [drewN0 w]
      go_enter Tryz.func149, Tryz.ntmps149
      go_wp2_with fail
      refine Calls.mono (H42.out _) ?_; rintro e w1 ⟨rfl, m1, rfl⟩
      go_wp2_with fail
      refine Calls.mono (H43.out _) ?_; rintro e w1 ⟨rfl, m2, rfl⟩
      go_wp2_with fail
      refine Calls.mono (H41.out _) ?_; rintro e w1 ⟨rfl, m3, rfl⟩
      go_wp2_with fail
      refine Calls.mono (H49.out _) ?_; rintro e w1 ⟨rfl, m4, rfl⟩
      go_wp2_with fail
      refine Calls.mono (HJ.out _) ?_; rintro e w1 ⟨rfl, m5, rfl⟩
      go_wp2_with fail
      refine Calls.mono (HK.out _) ?_; rintro e w1 ⟨rfl, m6, rfl⟩
      have HDD : Hid (((yy : Int) == 0) = false) := by show _ = _; simpa using c1
      go_wp2_with fail
      go_ret
      refine ⟨Op.bytesLess S1.toList S2.toList, ?_, fun e => HCK.out true HM.out (.inr (by rw [HYJ.out, ← HLS.out]; exact e)), _, rfl⟩
      first | rfl | (show Ending.returned (.bool ((yy : Int) == 0 || Op.bytesLess S1.toList S2.toList)) = _; rw [HDD.out]; rfl)
  · have H49 : Hid (∀ z, Calls Tryz.prog 112 #[.int .i64 (kl : Int), .int .i64 y] (w.drewN z) fun e w' => e = .returned (.bool false) ∧ ∃ m, w' = (w.drewN z).drewN m) := fun z => by have := mayCell_gen kl y (by omega) hyb (w.drewN z); rw [decide_eq_false hm] at this; exact this
    clear hy h hk hpre hel hbl hkl hek hbk hkk hm hyb HCK
    rw [drewN0 w]
    go_enter Tryz.func149, Tryz.ntmps149
    go_wp2_with fail
    refine Calls.mono (H42.out _) ?_; rintro e w1 ⟨rfl, m1, rfl⟩
    go_wp2_with fail
    refine Calls.mono (H43.out _) ?_; rintro e w1 ⟨rfl, m2, rfl⟩
    go_wp2_with fail
    refine Calls.mono (H41.out _) ?_; rintro e w1 ⟨rfl, m3, rfl⟩
    go_wp2_with fail
    refine Calls.mono (H49.out _) ?_; rintro e w1 ⟨rfl, m4, rfl⟩
    go_wp2_with fail
    go_ret
    exact ⟨false, rfl, (fun e => nomatch e), _, rfl⟩
end Go.Proofs.YtkhpmmmildcceaaGreat

namespace Go.Proofs.YtkhpmmmildcceaaGreat
open Go.ChangeShapes Go.WideShapes Go.ChangeAt Go.RowKit
set_option linter.unusedVariables false
set_option maxRecDepth 100000
set_option maxRecDepth 100000

theorem byteAt_eq {B : List UInt8} {i : Nat} (h : i < B.length) : UInt8.ofNat (byteAt B i) = B[i] := by
  unfold byteAt
  rw [List.getElem?_eq_getElem h]
  simp
theorem take_two (B : List UInt8) (i : Nat) (h : i + 1 < B.length) : (B.drop i).take 2 = [UInt8.ofNat (byteAt B i), UInt8.ofNat (byteAt B (i + 1))] := by
  rw [byteAt_eq (by omega), byteAt_eq h, List.drop_eq_getElem_cons (by omega), List.drop_eq_getElem_cons h]
  rfl
/-- The cells of bytes. -/
def dec (B : List UInt8) : Nat → List Cel
  | 0 => []
  | k + 1 => dec B k ++ [(keyB B k, valB B k)]
theorem dec_len (B : List UInt8) (k : Nat) : (dec B k).length = k := by
  induction k with
  | zero => rfl
  | succ k ih => unfold dec; rw [List.length_append, ih]; rfl
theorem end_succ (B : List UInt8) (k : Nat) : endB B (k + 1) = byteAt B (8 + 2 * k) := rfl
/-- What the cells say of the bytes, up to one. -/
theorem dec_is (B : List UInt8) (hB : B.length = 256) : ∀ k, 8 + 2 * k ≤ 256 → (∀ j, j < k → CK B j) → endB B k = 256 - tot (dec B k) ∧ tot (dec B k) ≤ 256 ∧ B.drop (endB B k) = bod (dec B k) ∧ (B.drop 8).take (2 * k) = pl 256 (dec B k) ∧ (∀ c, c ∈ dec B k → 1 ≤ c.1.length ∧ c.1.length ≤ 80 ∧ csz c ≤ 100) ∧ ris (dec B k)
  | 0, _, _ => by
    refine ⟨rfl, (show (0 : Nat) ≤ 256 by omega), ?_, rfl, (fun c hc => by cases hc), ris0⟩
    show B.drop 256 = []
    exact List.drop_of_length_le (by omega)
  | k + 1, hk, hc => by
    obtain ⟨i1, i2, i3, i4, i5, i6⟩ := dec_is B hB k (by omega) (fun j hj => hc j (by omega))
    obtain ⟨c1, c2, c3, c4, c5⟩ := hc k (by omega)
    have hel := endB_le B k
    have lk : (keyB B k).length = byteAt B (9 + 2 * k) := by unfold keyB; rw [List.length_take, List.length_drop, hB]; omega
    have lv : (valB B k).length = endB B k - (byteAt B (8 + 2 * k) + byteAt B (9 + 2 * k)) := by unfold valB; rw [List.length_take, List.length_drop, hB]; omega
    have hcz : csz (keyB B k, valB B k) = endB B k - byteAt B (8 + 2 * k) := by unfold csz; rw [lk, lv]; omega
    have htot : tot (dec B (k + 1)) = tot (dec B k) + (endB B k - byteAt B (8 + 2 * k)) := by
      show tot (dec B k ++ [(keyB B k, valB B k)]) = _
      rw [tot_append]
      show tot (dec B k) + (csz (keyB B k, valB B k) + 0) = _
      rw [hcz]; omega
    have hkv : keyB B k ++ valB B k = (B.drop (byteAt B (8 + 2 * k))).take (endB B k - byteAt B (8 + 2 * k)) := by
      unfold keyB valB
      rw [← List.drop_drop]
      have := List.take_append_drop (byteAt B (9 + 2 * k)) ((B.drop (byteAt B (8 + 2 * k))).take (endB B k - byteAt B (8 + 2 * k)))
      rw [List.take_take, Nat.min_eq_left (by omega), List.drop_take] at this
      rw [← this]
      congr 2
      omega
    refine ⟨by rw [end_succ, htot]; omega, by rw [htot]; omega, ?_, ?_, fun c hcm => ?_, ?_⟩
    · rw [end_succ]
      show _ = bod (dec B k ++ [(keyB B k, valB B k)])
      rw [bod_append]
      show _ = (([] : List UInt8) ++ (keyB B k ++ valB B k)) ++ bod (dec B k)
      rw [List.nil_append, hkv, ← i3]
      have := List.take_append_drop (endB B k - byteAt B (8 + 2 * k)) (B.drop (byteAt B (8 + 2 * k)))
      rw [List.drop_drop, show byteAt B (8 + 2 * k) + (endB B k - byteAt B (8 + 2 * k)) = endB B k by omega] at this
      exact this.symm
    · show _ = pl 256 (dec B k ++ [(keyB B k, valB B k)])
      rw [pl_append, ← i4]
      show _ = _ ++ [UInt8.ofNat (256 - tot (dec B k) - csz (keyB B k, valB B k)), UInt8.ofNat (keyB B k).length]
      rw [hcz, lk, show 256 - tot (dec B k) - (endB B k - byteAt B (8 + 2 * k)) = byteAt B (8 + 2 * k) by omega]
      rw [show 2 * (k + 1) = 2 * k + 2 by omega, List.take_add, List.drop_drop, take_two B (8 + 2 * k) (by omega), show 8 + 2 * k + 1 = 9 + 2 * k by omega]
    · rcases List.mem_append.1 hcm with q | q
      · exact i5 c q
      · rw [List.mem_singleton.1 q, hcz]
        exact ⟨by rw [lk]; exact c1, by rw [lk]; exact c2, by omega⟩
    · rw [ris_pw] at i6 ⊢
      show (dec B k ++ [(keyB B k, valB B k)]).Pairwise _
      rw [List.pairwise_append]
      refine ⟨i6, List.pairwise_singleton _ _, fun x hx y hy => ?_⟩
      rw [List.mem_singleton.1 hy]
      cases k with
      | zero => cases hx
      | succ j =>
        have c5' := c5.resolve_left (by omega)
        rw [Nat.add_sub_cancel] at c5'
        rcases List.mem_append.1 hx with q | q
        · have : (dec B j ++ [(keyB B j, valB B j)]).Pairwise (fun a b => Op.bytesLess a.1 b.1 = true) := i6
          rw [List.pairwise_append] at this
          exact less_trans _ _ _ (this.2.2 x q _ (List.mem_singleton.2 rfl)) c5'
        · rw [List.mem_singleton.1 q]; exact c5'
/-- Bytes that are sound are those of cells. -/
theorem lay_of (B : List UInt8) (hB : B.length = 256) (h0 : (B.drop 4).take 4 = zs 4) (n : Nat) (hn : byteAt B 1 = n) (hn2 : 8 + 2 * n ≤ 256) (hc : ∀ j, j < n → CK B j) (hroom : 8 + 2 * n ≤ endB B n) (hus : byteAt B 2 + byteAt B 3 * 256 = 256 - endB B n) (hz : ∀ i, 8 + 2 * n ≤ i → i < endB B n → byteAt B i = 0) : okC (dec B n) ∧ ris (dec B n) ∧ B = lay (UInt8.ofNat (byteAt B 0)) (dec B n) := by
  obtain ⟨i1, i2, i3, i4, i5, i6⟩ := dec_is B hB n hn2 hc
  have hl := dec_len B n
  refine ⟨⟨i5, by rw [hl]; omega⟩, i6, ?_⟩
  have e1 : B.take 4 = [UInt8.ofNat (byteAt B 0), UInt8.ofNat (byteAt B 1), UInt8.ofNat (byteAt B 2), UInt8.ofNat (byteAt B 3)] := by
    have a := take_two B 0 (by omega)
    have b := take_two B 2 (by omega)
    have := List.take_add (l := B) (i := 2) (j := 2)
    rw [this, b]
    have a' : B.take 2 = [UInt8.ofNat (byteAt B 0), UInt8.ofNat (byteAt B (0 + 1))] := by rw [← a]; rfl
    rw [a']
    rfl
  have b2 : byteAt B 2 = tot (dec B n) % 256 ∧ byteAt B 3 = tot (dec B n) / 256 := by
    have := byteAt_lt B 2
    omega
  have e2 : (B.drop (8 + 2 * n)).take (248 - 2 * n - tot (dec B n)) = zs (248 - 2 * n - tot (dec B n)) := by
    apply List.ext_getElem?
    intro i
    by_cases hi : i < 248 - 2 * n - tot (dec B n)
    · rw [List.getElem?_take_of_lt hi, List.getElem?_drop]
      have hb := hz (8 + 2 * n + i) (by omega) (by omega)
      have hlt : 8 + 2 * n + i < B.length := by omega
      unfold zs
      rw [List.getElem?_replicate, if_pos hi, List.getElem?_eq_getElem hlt, ← byteAt_eq hlt, hb]
      rfl
    · rw [List.getElem?_eq_none (by rw [List.length_take]; omega), List.getElem?_eq_none (by simp [zs]; omega)]
  have e3 : B = B.take 4 ++ ((B.drop 4).take 4 ++ ((B.drop 8).take (2 * n) ++ ((B.drop (8 + 2 * n)).take (248 - 2 * n - tot (dec B n)) ++ B.drop (endB B n)))) := by
    have s1 := List.take_append_drop 4 B
    have s2 := List.take_append_drop 4 (B.drop 4)
    have s3 := List.take_append_drop (2 * n) (B.drop 8)
    have s4 := List.take_append_drop (248 - 2 * n - tot (dec B n)) (B.drop (8 + 2 * n))
    rw [List.drop_drop] at s2 s3 s4
    rw [show 8 + 2 * n + (248 - 2 * n - tot (dec B n)) = endB B n by omega] at s4
    rw [s4, s3, s2, s1]
  have eL : lay (UInt8.ofNat (byteAt B 0)) (dec B n) = B.take 4 ++ ((B.drop 4).take 4 ++ ((B.drop 8).take (2 * n) ++ ((B.drop (8 + 2 * n)).take (248 - 2 * n - tot (dec B n)) ++ B.drop (endB B n)))) := by
    rw [e1, h0, e2, i4, i3]
    unfold lay hd
    rw [hl, ← b2.1, ← b2.2, hn]
    rfl
  exact e3.trans eL.symm
end Go.Proofs.YtkhpmmmildcceaaGreat

namespace Go.Proofs.YtkhpmmmildcceaaGreat
open Go.ChangeShapes Go.WideShapes Go.ChangeAt Go.RowKit
set_option linter.unusedVariables false
set_option maxRecDepth 100000
set_option maxRecDepth 100000

theorem wrapi_of (y : Int) (h : -1000 ≤ y ∧ y ≤ 1000) : IntKind.i64.wrap y = y := by rw [IntKind.wrap_i64]; omega

/-- Bytes that are those of cells. -/
def Cells (B : List UInt8) : Prop := ∃ cs, okC cs ∧ ris cs ∧ B = lay (UInt8.ofNat (byteAt B 0)) cs
set_option maxHeartbeats 4000000 in
theorem sound_gen {w : World} {p : Nat} {B : List UInt8} (h : Pg w p B) (h4 : (B.drop 4).take 4 = zs 4) : Calls Tryz.prog 144 #[.pointer (some ⟨p, 0, none⟩)] w fun e w' => TellE (Cells B) w e w' := by
  have hel := endB_le B (byteAt B 1)
  have hnl := byteAt_lt B 1
  have hb2 := byteAt_lt B 2
  have hb3 := byteAt_lt B 3
  obtain ⟨n, hn⟩ : ∃ n, byteAt B 1 = n := ⟨_, rfl⟩
  obtain ⟨en, hen⟩ : ∃ en, endB B n = en := ⟨_, rfl⟩
  obtain ⟨us, hus⟩ : ∃ us, byteAt B 2 + byteAt B 3 * 256 = us := ⟨_, rfl⟩
  obtain ⟨pn, hpn⟩ : ∃ pn, 8 + 2 * n = pn := ⟨_, rfl⟩
  rw [hn] at hnl
  rw [hn, hen] at hel
  have H19 : Hid (∀ z, Calls Tryz.prog 123 #[.pointer (some ⟨p, 0, none⟩)] (w.drewN z) fun e w' => e = .returned (.int .i64 (n : Int)) ∧ ∃ m, w' = (w.drewN z).drewN m) := fun z => by have := len_is (h.dr z); rw [hn] at this; exact this
  have H58 : Hid (∀ z, Calls Tryz.prog 141 #[.int .i64 (n : Int)] (w.drewN z) fun e w' => e = .returned (.int .i64 (pn : Int)) ∧ ∃ m, w' = (w.drewN z).drewN m) := fun z => by have := placeOf_is n (by omega) (w.drewN z); rw [hpn] at this; exact this
  by_cases c0 : (256 : Int) < (pn : Int)
  · clear h h4 hel hnl hb2 hb3 hn hen hus hpn
    rw [drewN0 w]
    go_enter Tryz.func144, Tryz.ntmps144
    go_wp2_with fail
    refine Calls.mono (H19.out _) ?_; rintro e w1 ⟨rfl, m1, rfl⟩
    go_wp2_with fail
    refine Calls.mono (H58.out _) ?_; rintro e w1 ⟨rfl, m2, rfl⟩
    go_wp2_with fail
    go_ret
    exact ⟨false, rfl, (fun e => nomatch e), _, rfl⟩
  · obtain ⟨R, hR⟩ : ∃ R : Int, (en : Int) - (pn : Int) = R := ⟨_, rfl⟩
    have H48 : Hid (∀ z, Calls Tryz.prog 114 #[.pointer (some ⟨p, 0, none⟩)] (w.drewN z) fun e w' => e = .returned (.int .i64 R) ∧ ∃ m, w' = (w.drewN z).drewN m) := fun z => by have := room_is (h.dr z) (by rw [hn]; omega); rw [hn, hen, hpn, hR] at this; exact this
    have H47 : Hid (∀ z, Calls Tryz.prog 150 #[.pointer (some ⟨p, 0, none⟩)] (w.drewN z) fun e w' => e = .returned (.int .i64 (us : Int)) ∧ ∃ m, w' = (w.drewN z).drewN m) := fun z => by have := used_is (h.dr z); rw [hus] at this; exact this
    have H43 : Hid (∀ z, Calls Tryz.prog 115 #[.pointer (some ⟨p, 0, none⟩), .int .i64 (n : Int)] (w.drewN z) fun e w' => e = .returned (.int .i64 (en : Int)) ∧ ∃ m, w' = (w.drewN z).drewN m) := fun z => by have := end_is (h.dr z) n (by omega); rw [hen] at this; exact this
    have HSC : Hid (∀ (m k : Nat), k < n → (k = 0 ∨ CK B (k - 1)) → Calls Tryz.prog 149 #[.pointer (some ⟨p, 0, none⟩), .int .i64 (k : Int)] (w.drewN m) fun e w' => TellE (CK B k) (w.drewN m) e w') := fun m k hk hc => soundCell_gen (h.dr m) k (by omega) (hc.imp id (fun q => by have := q.2.2.1; have := endB_le B (k - 1); omega))
    have HZG : Hid (∀ (z L o c : Nat), pn + L = en → offB pn = o → Calls Tryz.prog 151 #[.slice (some ⟨p, o, none⟩) L c] (w.drewN z) fun e w' => TellE (∀ i, pn ≤ i → i < en → byteAt B i = 0) (w.drewN z) e w') := fun z L o c q1 q2 => noughts_gen (h.dr z) pn en L o c q1 hel q2
    have HZY : Hid (∀ (z L o c : Nat), pn + L = en → offB pn = o → (∀ i, pn ≤ i → i < en → byteAt B i = 0) → Calls Tryz.prog 151 #[.slice (some ⟨p, o, none⟩) L c] (w.drewN z) fun e w' => e = .returned (.bool true) ∧ ∃ j, w' = (w.drewN z).drewN j) := fun z L o c q1 q2 q3 => noughts_yes (h.dr z) pn en L o c q1 hel q2 q3
    have HLAY : Hid ((∀ j, j < n → CK B j) → pn ≤ en → us = 256 - en → (∀ i, pn ≤ i → i < en → byteAt B i = 0) → Cells B) := fun q1 q2 q3 q4 => by
      obtain ⟨r1, r2, r3⟩ := lay_of B h.len h4 n hn (by omega) q1 (by omega) (by rw [hus, hen]; exact q3) (fun i i1 i2 => q4 i (by omega) (by omega))
      exact ⟨_, r1, r2, r3⟩
    have hnb : (n : Int) ≤ 1000 := by omega
    have HRE : Hid ((en : Int) - (pn : Int) = R ∧ en ≤ 256 ∧ pn ≤ 256) := ⟨hR, hel, by omega⟩
    obtain ⟨un, hun⟩ : ∃ un : Int, 256 - (en : Int) = un := ⟨_, rfl⟩
    have s1 : IntKind.i64.wrap (256 - (en : Int)) = un := by rw [hun]; exact wrapi_of _ (by omega)
    have HUN : Hid (256 - (en : Int) = un) := hun
    have HSL : Hid (pn ≤ en → ∀ W : World, (Instr.sliceAt 156 (.pointer (some ⟨p, 0, none⟩)) (some (.int .i64 (pn : Int))) (some (.int .i64 (en : Int))) none).run Tryz.prog W = .ok (.slice (some ⟨p, offB pn, none⟩) (en - pn) (256 - pn)) W) := fun q W => page_lh W p pn en q hel
    clear h h4 hel hnl hb2 hb3 hn hen hus hpn hR hun
    rw [drewN0 w]
    go_enter Tryz.func144, Tryz.ntmps144
    go_wp2_with fail
    refine Calls.mono (H19.out _) ?_; rintro e w1 ⟨rfl, m1, rfl⟩
    go_wp2_with fail
    refine Calls.mono (H58.out _) ?_; rintro e w1 ⟨rfl, m2, rfl⟩
    go_wp2_with fail
    go_loopw [11] (fun v11 wr => ∃ k m : Nat, k ≤ n ∧ v11 = .int .i64 k ∧ wr = w.drewN m ∧ Hid (∀ j, j < k → CK B j)) (fun v11 _ => n - (intOf v11).toNat)
    case atStart => exact ⟨0, m1 + m2, Nat.zero_le _, rfl, rfl, fun j hj => absurd hj (Nat.not_lt_zero _)⟩
    case round =>
      obtain ⟨k, m, hk, rfl, rfl, HI⟩ := hrel
      by_cases hlt : k < n
      · have d1 : (k : Int) < (n : Int) := by omega
        have HC : Hid (Calls Tryz.prog 149 #[.pointer (some ⟨p, 0, none⟩), .int .i64 (k : Int)] (w.drewN m) fun e w' => TellE (CK B k) (w.drewN m) e w') := HSC.out m k hlt (by
          rcases Nat.eq_zero_or_pos k with q | q
          · exact .inl q
          · exact .inr (HI.out (k - 1) (by omega)))
        have hkb : (k : Int) + 1 ≤ 1001 := by omega
        go_wp2_with fail
        refine Calls.mono HC.out ?_; rintro e w3 ⟨bb, rfl, hq, m3, rfl⟩
        cases bb with
        | true =>
          have HI2 : Hid (∀ j, j < k + 1 → CK B j) := fun j hj => by
            rcases Nat.lt_or_eq_of_le (Nat.lt_succ_iff.1 hj) with q | q
            · exact HI.out j q
            · subst q; exact hq rfl
          clear HC hq HI
          go_wp2_with fail
          go_roundw
          case rel => exact ⟨k + 1, m + m3, hlt, by rw [Int.natCast_add]; rfl, by first | rfl | rw [World.drewN_drewN], HI2.out⟩
          case measure => simp only [intOf]; omega
        | false =>
          clear HC hq HI
          go_wp2_with fail
          go_ret
          exact ⟨false, rfl, (fun e => nomatch e), m + m3, by first | rfl | rw [World.drewN_drewN]⟩
      · have d1 : ¬ (k : Int) < (n : Int) := by omega
        obtain rfl : k = n := by omega
        obtain ⟨W, hW⟩ : ∃ W, w.drewN m = W := ⟨_, rfl⟩
        have HWW : Hid (w.drewN m = W) := hW
        have K48 : Hid (∀ z, Calls Tryz.prog 114 #[.pointer (some ⟨p, 0, none⟩)] (W.drewN z) fun e w' => e = .returned (.int .i64 R) ∧ ∃ j, w' = (W.drewN z).drewN j) := fun z => by rw [← hW, World.drewN_drewN]; exact H48.out _
        have K47 : Hid (∀ z, Calls Tryz.prog 150 #[.pointer (some ⟨p, 0, none⟩)] (W.drewN z) fun e w' => e = .returned (.int .i64 (us : Int)) ∧ ∃ j, w' = (W.drewN z).drewN j) := fun z => by rw [← hW, World.drewN_drewN]; exact H47.out _
        have K43 : Hid (∀ z, Calls Tryz.prog 115 #[.pointer (some ⟨p, 0, none⟩), .int .i64 (k : Int)] (W.drewN z) fun e w' => e = .returned (.int .i64 (en : Int)) ∧ ∃ j, w' = (W.drewN z).drewN j) := fun z => by rw [← hW, World.drewN_drewN]; exact H43.out _
        have K58 : Hid (∀ z, Calls Tryz.prog 141 #[.int .i64 (k : Int)] (W.drewN z) fun e w' => e = .returned (.int .i64 (pn : Int)) ∧ ∃ j, w' = (W.drewN z).drewN j) := fun z => by rw [← hW, World.drewN_drewN]; exact H58.out _
        rw [hW]
        clear HSC H19 H58 H48 H47 H43 hlt
        by_cases cR : (0 : Int) ≤ R
        · have hle : pn ≤ en := by have := HRE.out; omega
          have hsl := HSL.out hle
          obtain ⟨o, ho⟩ : ∃ o, offB pn = o := ⟨_, rfl⟩
          obtain ⟨r, hr⟩ : ∃ r, en - pn = r := ⟨_, rfl⟩
          obtain ⟨cp, hcp⟩ : ∃ cp, 256 - pn = cp := ⟨_, rfl⟩
          rw [ho, hr, hcp] at hsl
          have HZ : Hid (∀ z, Calls Tryz.prog 151 #[.slice (some ⟨p, o, none⟩) r cp] (W.drewN z) fun e w' => TellE (∀ i, pn ≤ i → i < en → byteAt B i = 0) (W.drewN z) e w') := fun z => by rw [← hW, World.drewN_drewN]; exact HZG.out _ _ _ _ (by omega) ho
          have HRQ : Hid (0 ≤ R) := cR
          by_cases cU : (us : Int) = un
          · by_cases cZ : ∀ i, pn ≤ i → i < en → byteAt B i = 0
            · have HE : Hid (Cells B) := HLAY.out HI.out hle (by have := HUN.out; have := HRE.out; omega) cZ
              have K60 : Hid (∀ z, Calls Tryz.prog 151 #[.slice (some ⟨p, o, none⟩) r cp] (W.drewN z) fun e w' => e = .returned (.bool true) ∧ ∃ j, w' = (W.drewN z).drewN j) := fun z => by
                rw [← hW, World.drewN_drewN]
                exact HZY.out _ _ _ _ (by omega) ho cZ
              clear HZ HZG HZY HLAY HI hW hr hcp ho cZ hle HSL
              go_wp2_with fail
              have c3 : (0 : Int) ≤ R := HRQ.out
              go_quiet (first | with_reducible exact Calls.quiet_of (K48.out _) | with_reducible exact Calls.quiet_of (K47.out _) | with_reducible exact Calls.quiet_of (K43.out _) | with_reducible exact Calls.quiet_of (K58.out _) | with_reducible exact Calls.quiet_of (K60.out _))
              go_wp2_with fail
              go_ret
              exact ⟨true, rfl, fun _ => HE.out, m + nq, by rw [← HWW.out, World.drewN_drewN]; rfl⟩
            · have K60 : Hid (∀ z, Calls Tryz.prog 151 #[.slice (some ⟨p, o, none⟩) r cp] (W.drewN z) fun e w' => e = .returned (.bool false) ∧ ∃ j, w' = (W.drewN z).drewN j) := fun z => (HZ.out z).mono fun e w' ⟨b, q1, q2, q3⟩ => by
                cases b with
                | true => exact absurd (q2 rfl) cZ
                | false => exact ⟨q1, q3⟩
              clear HZ HZG HZY HLAY HI hW hr hcp ho cZ hle HSL
              go_wp2_with fail
              have c3 : (0 : Int) ≤ R := HRQ.out
              go_quiet (first | with_reducible exact Calls.quiet_of (K48.out _) | with_reducible exact Calls.quiet_of (K47.out _) | with_reducible exact Calls.quiet_of (K43.out _) | with_reducible exact Calls.quiet_of (K58.out _) | with_reducible exact Calls.quiet_of (K60.out _))
              go_wp2_with fail
              go_ret
              exact ⟨false, rfl, (fun e => nomatch e), m + nq, by rw [← HWW.out, World.drewN_drewN]; rfl⟩
          · have HCU : Hid (¬ (us : Int) = un) := cU
            clear HZ HZG HZY HLAY HI hW hr hcp ho hle HSL hsl
            go_wp2_with fail
            have c3 : (0 : Int) ≤ R := HRQ.out
            have c4 : ¬ (us : Int) = un := by have := HCU.out; exact this
            go_quiet (first | with_reducible exact Calls.quiet_of (K48.out _) | with_reducible exact Calls.quiet_of (K47.out _) | with_reducible exact Calls.quiet_of (K43.out _) | with_reducible exact Calls.quiet_of (K58.out _))
            go_wp2_with fail
            go_ret
            exact ⟨false, rfl, (fun e => nomatch e), m + nq, by rw [← HWW.out, World.drewN_drewN]; rfl⟩
        · have HRQ : Hid (R < 0) := by show R < 0; omega
          clear HZG HZY HLAY HI hW HSL
          go_wp2_with fail
          have c3 : ¬ (0 : Int) ≤ R := by have := HRQ.out; omega
          go_quiet (first | with_reducible exact Calls.quiet_of (K48.out _) | with_reducible exact Calls.quiet_of (K47.out _) | with_reducible exact Calls.quiet_of (K43.out _) | with_reducible exact Calls.quiet_of (K58.out _))
          go_wp2_with fail
          go_ret
          exact ⟨false, rfl, (fun e => nomatch e), m + nq, by rw [← HWW.out, World.drewN_drewN]; rfl⟩
end Go.Proofs.YtkhpmmmildcceaaGreat
