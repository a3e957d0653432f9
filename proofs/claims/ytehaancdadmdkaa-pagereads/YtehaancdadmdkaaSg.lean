/- sound, of any bytes: its parts. -/
import Derived.Test.YtehaancdadmdkaaRs
namespace Go.Proofs.Ytehaancdadmdkaa
open Go.ChangeShapes Go.WideShapes Go.ChangeAt Go.RowKit
set_option linter.unusedVariables false
set_option maxRecDepth 100000

theorem wrap_of (y : Int) (h : -1000 ≤ y ∧ y ≤ 1000) : wrap64 y = y := by unfold wrap64; omega

theorem mayCell_gen (x : Nat) (y : Int) (hx : x ≤ 255) (hy : -1000 ≤ y ∧ y ≤ 1000) (w : World) : Calls Try.prog 49 #[.int .i64 (x : Int), .int .i64 y] w fun e w' => e = .returned (.bool (decide (1 ≤ x ∧ x ≤ 80 ∧ (x : Int) ≤ y ∧ y ≤ 100))) ∧ ∃ m, w' = w.drewN m := by
  by_cases c1 : (1 : Int) ≤ x
  · by_cases c2 : (x : Int) ≤ 80
    · by_cases c3 : (x : Int) ≤ y
      · by_cases c4 : y ≤ 100
        · rw [decide_eq_true (by omega)]
          go_enter Try.func49, Try.ntmps49
          go_wp2
          go_ret
          exact ⟨rfl, 0, rfl⟩
        · rw [decide_eq_false (by omega)]
          go_enter Try.func49, Try.ntmps49
          go_wp2
          go_ret
          exact ⟨rfl, 0, rfl⟩
      · rw [decide_eq_false (by omega)]
        go_enter Try.func49, Try.ntmps49
        go_wp2
        go_ret
        exact ⟨rfl, 0, rfl⟩
    · rw [decide_eq_false (by omega)]
      go_enter Try.func49, Try.ntmps49
      go_wp2
      go_ret
      exact ⟨rfl, 0, rfl⟩
  · rw [decide_eq_false (by omega)]
    go_enter Try.func49, Try.ntmps49
    go_wp2
    go_ret
    exact ⟨rfl, 0, rfl⟩
/-- An answer that says something where it is true. -/
def TellE (Q : Prop) (w : World) (e : Ending) (w' : World) : Prop := ∃ b : Bool, e = .returned (.bool b) ∧ (b = true → Q) ∧ ∃ m, w' = w.drewN m
set_option maxHeartbeats 1000000 in
theorem noughts_gen {w : World} {p : Nat} {B : List UInt8} (h : Pg w p B) (lo hi L o c : Nat) (h1 : lo + L = hi) (h2 : hi ≤ 256) (ho : offB lo = o) : Calls Try.prog 60 #[.slice (some ⟨p, o, none⟩) L c] w fun e w' => TellE (∀ i, lo ≤ i → i < hi → byteAt B i = 0) w e w' := by
  have HC : Hid (∀ i, i < L → w.cell? ⟨p, o + i, none⟩ = some (.int .u8 (byteAt B (lo + i) : Int))) := fun i hi => by
    have e : o = lo := by rw [← ho]; exact offB_lt (by omega)
    rw [e, h.cell (lo + i) (by omega)]
  have HL : Hid (lo + L = hi) := h1
  have hL : L ≤ 256 := by omega
  clear h h1 h2 ho
  go_enter Try.func60, Try.ntmps60
  go_wp2_with fail
  go_loopw [7] (fun v7 wr => ∃ i : Nat, i ≤ L ∧ v7 = .int .i64 i ∧ wr = w ∧ Hid (∀ j, j < i → byteAt B (lo + j) = 0)) (fun v7 _ => L - (intOf v7).toNat)
  case atStart => exact ⟨0, Nat.zero_le _, rfl, rfl, fun j hj => absurd hj (Nat.not_lt_zero _)⟩
  case round =>
    obtain ⟨i, hi, rfl, rfl, HI⟩ := hrel
    by_cases hlt : i < L
    · have c1 : (i : Int) < (L : Int) := by omega
      have cc := HC.out i hlt
      have hib : (i : Int) + 1 ≤ 1000 := by omega
      obtain ⟨x, hx⟩ : ∃ x, byteAt B (lo + i) = x := ⟨_, rfl⟩
      have hxb : x < 256 := by rw [← hx]; exact byteAt_lt _ _
      have HX : Hid (byteAt B (lo + i) = x) := hx
      rw [hx] at cc
      by_cases hz : (x : Int) = 0
      · have HI2 : Hid (∀ j, j < i + 1 → byteAt B (lo + j) = 0) := fun j hj => by
          rcases Nat.lt_or_eq_of_le (Nat.lt_succ_iff.1 hj) with q | q
          · exact HI.out j q
          · subst q; rw [HX.out]; omega
        clear HI HX hx
        go_wp2_with fail
        go_roundw
        case rel => exact ⟨i + 1, hlt, by rw [Int.natCast_add]; rfl, trivial, HI2.out⟩
        case measure => simp only [intOf]; omega
      · clear HI HX hx
        go_wp2_with fail
        go_ret
        exact ⟨false, rfl, (fun e => nomatch e), 0, rfl⟩
    · have c1 : ¬ (i : Int) < (L : Int) := by omega
      have HIL : Hid (i = L) := by show _ = _; omega
      go_wp2_with fail
      go_ret
      refine ⟨true, rfl, fun _ j hj1 hj2 => ?_, 0, rfl⟩
      have := HI.out (j - lo) (by have := HIL.out; have := HL.out; omega)
      rwa [show lo + (j - lo) = j by omega] at this
/-- A cell that may be, and stands behind the one ahead of it. -/
def CK (B : List UInt8) (k : Nat) : Prop := 1 ≤ byteAt B (9 + 2 * k) ∧ byteAt B (9 + 2 * k) ≤ 80 ∧ byteAt B (8 + 2 * k) + byteAt B (9 + 2 * k) ≤ endB B k ∧ endB B k ≤ byteAt B (8 + 2 * k) + 100 ∧ (k = 0 ∨ Op.bytesLess (keyB B (k - 1)) (keyB B k) = true)
set_option maxHeartbeats 2000000 in
theorem soundCell_gen {w : World} {p : Nat} {B : List UInt8} (h : Pg w p B) (k : Nat) (hk : 9 + 2 * k < 256) (hpre : k = 0 ∨ byteAt B (8 + 2 * (k - 1)) + byteAt B (9 + 2 * (k - 1)) ≤ 256) : Calls Try.prog 59 #[.pointer (some ⟨p, 0, none⟩), .int .i64 (k : Int)] w fun e w' => TellE (CK B k) w e w' := by
  have hel := endB_le B k
  have hbl := byteAt_lt B (8 + 2 * k)
  have hkl := byteAt_lt B (9 + 2 * k)
  obtain ⟨ek, hek⟩ : ∃ ek, endB B k = ek := ⟨_, rfl⟩
  obtain ⟨bk, hbk⟩ : ∃ bk, byteAt B (8 + 2 * k) = bk := ⟨_, rfl⟩
  obtain ⟨kl, hkk⟩ : ∃ kl, byteAt B (9 + 2 * k) = kl := ⟨_, rfl⟩
  rw [hek] at hel
  rw [hbk] at hbl
  rw [hkk] at hkl
  obtain ⟨y, hy⟩ : ∃ y : Int, (ek : Int) - (bk : Int) = y := ⟨_, rfl⟩
  have hyb : -1000 ≤ y ∧ y ≤ 1000 := by omega
  have s1 : wrap64 ((ek : Int) - (bk : Int)) = y := by rw [hy]; exact wrap_of y hyb
  have H42 : Hid (∀ z, Calls Try.prog 42 #[.pointer (some ⟨p, 0, none⟩), .int .i64 (k : Int)] (w.drewN z) fun e w' => e = .returned (.int .i64 (kl : Int)) ∧ ∃ m, w' = (w.drewN z).drewN m) := fun z => by have := keySize_is (h.dr z) k hk; rw [hkk] at this; exact this
  have H43 : Hid (∀ z, Calls Try.prog 43 #[.pointer (some ⟨p, 0, none⟩), .int .i64 (k : Int)] (w.drewN z) fun e w' => e = .returned (.int .i64 (ek : Int)) ∧ ∃ m, w' = (w.drewN z).drewN m) := fun z => by have := end_is (h.dr z) k (by omega); rw [hek] at this; exact this
  have H41 : Hid (∀ z, Calls Try.prog 41 #[.pointer (some ⟨p, 0, none⟩), .int .i64 (k : Int)] (w.drewN z) fun e w' => e = .returned (.int .i64 (bk : Int)) ∧ ∃ m, w' = (w.drewN z).drewN m) := fun z => by have := begin_is (h.dr z) k (by omega); rw [hbk] at this; exact this
  have HCK : Hid (∀ q : Bool, (1 ≤ kl ∧ kl ≤ 80 ∧ (kl : Int) ≤ y ∧ y ≤ 100) → (k = 0 ∨ Op.bytesLess (keyB B (k - 1)) (keyB B k) = true) → CK B k) := fun _ u v => ⟨by omega, by omega, by omega, by omega, v⟩
  by_cases hm : 1 ≤ kl ∧ kl ≤ 80 ∧ (kl : Int) ≤ y ∧ y ≤ 100
  · have HM : Hid (1 ≤ kl ∧ kl ≤ 80 ∧ (kl : Int) ≤ y ∧ y ≤ 100) := hm
    have H49 : Hid (∀ z, Calls Try.prog 49 #[.int .i64 (kl : Int), .int .i64 y] (w.drewN z) fun e w' => e = .returned (.bool true) ∧ ∃ m, w' = (w.drewN z).drewN m) := fun z => by have := mayCell_gen kl y (by omega) hyb (w.drewN z); rw [decide_eq_true hm] at this; exact this
    have hks : byteAt B (8 + 2 * k) + byteAt B (9 + 2 * k) ≤ 256 := by omega
    have HK : Hid (∀ z, Calls Try.prog 40 #[.pointer (some ⟨p, 0, none⟩), .int .i64 (k : Int)] (w.drewN z) fun e w' => e = .returned (.string ⟨(keyB B k).toArray⟩) ∧ ∃ m, w' = (w.drewN z).drewN m) := fun z => key_is (h.dr z) k hk hks
    cases k with
    | zero =>
      clear hy h hk hpre hel hbl hkl hek hbk hkk hm hks HK hyb
      rw [drewN0 w]
      go_enter Try.func59, Try.ntmps59
      go_wp2_with fail
      refine Calls.mono (H42.out _) ?_; rintro e w1 ⟨rfl, m1, rfl⟩
      go_wp2_with fail
      refine Calls.mono (H43.out _) ?_; rintro e w1 ⟨rfl, m2, rfl⟩
      go_wp2_with fail
      refine Calls.mono (H41.out _) ?_; rintro e w1 ⟨rfl, m3, rfl⟩
      go_wp2_with fail
      refine Calls.mono (H49.out _) ?_; rintro e w1 ⟨rfl, m4, rfl⟩
      go_wp2_with fail
      go_ret
      exact ⟨true, rfl, fun _ => HCK.out true HM.out (.inl (by first | rfl | trivial)), _, rfl⟩
    | succ j =>
      have hpj : byteAt B (8 + 2 * j) + byteAt B (9 + 2 * j) ≤ 256 := hpre.resolve_left (by omega)
      have HJ : Hid (∀ z, Calls Try.prog 40 #[.pointer (some ⟨p, 0, none⟩), .int .i64 (j : Int)] (w.drewN z) fun e w' => e = .returned (.string ⟨(keyB B j).toArray⟩) ∧ ∃ m, w' = (w.drewN z).drewN m) := fun z => key_is (h.dr z) j (by omega) hpj
      obtain ⟨S1, hS1⟩ : ∃ S, (⟨(keyB B j).toArray⟩ : ByteArray) = S := ⟨_, rfl⟩
      obtain ⟨S2, hS2⟩ : ∃ S, (⟨(keyB B (j + 1)).toArray⟩ : ByteArray) = S := ⟨_, rfl⟩
      have HLS : Hid (Op.bytesLess S1.toList S2.toList = Op.bytesLess (keyB B j) (keyB B (j + 1))) := by show _ = _; rw [ByteArray.toList_eq, ByteArray.toList_eq, ← hS1, ← hS2]
      rw [hS1] at HJ
      rw [hS2] at HK
      obtain ⟨yy, hyy⟩ : ∃ yy, j + 1 = yy := ⟨_, rfl⟩
      have HYY : Hid (j + 1 = yy) := hyy
      rw [hyy] at H42 H43 H41 HK HLS HCK ⊢
      have c1 : ¬ (yy : Int) = 0 := by omega
      have s2 : wrap64 ((yy : Int) - 1) = (j : Int) := sub64c yy 1 j hyy (by omega)
      have HYJ : Hid (yy - 1 = j) := by show _ = _; omega
      clear hy h hk hpre hel hbl hkl hek hbk hkk hm hks hpj hS1 hS2 hyy hyb
      rw [drewN0 w]
      go_enter Try.func59, Try.ntmps59
      go_wp2_with fail
      refine Calls.mono (H42.out _) ?_; rintro e w1 ⟨rfl, m1, rfl⟩
      go_wp2_with fail
      refine Calls.mono (H43.out _) ?_; rintro e w1 ⟨rfl, m2, rfl⟩
      go_wp2_with fail
      refine Calls.mono (H41.out _) ?_; rintro e w1 ⟨rfl, m3, rfl⟩
      go_wp2_with fail
      refine Calls.mono (H49.out _) ?_; rintro e w1 ⟨rfl, m4, rfl⟩
      go_wp2_with fail
      refine Calls.mono (HJ.out _) ?_; rintro e w1 ⟨rfl, m5, rfl⟩
      go_wp2_with fail
      refine Calls.mono (HK.out _) ?_; rintro e w1 ⟨rfl, m6, rfl⟩
      have HDD : Hid (((yy : Int) == 0) = false) := by show _ = _; simpa using c1
      go_wp2_with fail
      go_ret
      refine ⟨Op.bytesLess S1.toList S2.toList, ?_, fun e => HCK.out true HM.out (.inr (by rw [HYJ.out, ← HLS.out]; exact e)), _, rfl⟩
      first | rfl | (show Ending.returned (.bool ((yy : Int) == 0 || Op.bytesLess S1.toList S2.toList)) = _; rw [HDD.out]; rfl)
  · have H49 : Hid (∀ z, Calls Try.prog 49 #[.int .i64 (kl : Int), .int .i64 y] (w.drewN z) fun e w' => e = .returned (.bool false) ∧ ∃ m, w' = (w.drewN z).drewN m) := fun z => by have := mayCell_gen kl y (by omega) hyb (w.drewN z); rw [decide_eq_false hm] at this; exact this
    clear hy h hk hpre hel hbl hkl hek hbk hkk hm hyb HCK
    rw [drewN0 w]
    go_enter Try.func59, Try.ntmps59
    go_wp2_with fail
    refine Calls.mono (H42.out _) ?_; rintro e w1 ⟨rfl, m1, rfl⟩
    go_wp2_with fail
    refine Calls.mono (H43.out _) ?_; rintro e w1 ⟨rfl, m2, rfl⟩
    go_wp2_with fail
    refine Calls.mono (H41.out _) ?_; rintro e w1 ⟨rfl, m3, rfl⟩
    go_wp2_with fail
    refine Calls.mono (H49.out _) ?_; rintro e w1 ⟨rfl, m4, rfl⟩
    go_wp2_with fail
    go_ret
    exact ⟨false, rfl, (fun e => nomatch e), _, rfl⟩
end Go.Proofs.Ytehaancdadmdkaa
