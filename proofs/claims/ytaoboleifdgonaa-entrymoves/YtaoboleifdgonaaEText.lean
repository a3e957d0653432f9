/- entry: texts of states and kinds. -/
import Derived.Test.YtaoboleifdgonaaEMem
namespace Go.Proofs.Ytaoboleifdgonaa
open Go.ChangeShapes Go.WideShapes Go.RowKit
set_option linter.unusedVariables false
set_option maxRecDepth 100000

/-- The text of a state. -/
def stT (n : Int) : ByteArray := if n = 0 then ⟨#[97, 99, 116, 105, 118, 101]⟩ else if n = 1 then ⟨#[111, 117, 116]⟩ else if n = 2 then ⟨#[117, 112]⟩ else ⟨#[]⟩
/-- The text of a kind of movement. -/
def kdT (n : Int) : ByteArray := if n = 1 then ⟨#[114, 101, 99, 101, 105, 118, 101]⟩ else if n = 3 then ⟨#[99, 111, 109, 109, 105, 116]⟩ else if n = 6 then ⟨#[116, 114, 97, 110, 115, 102, 101, 114]⟩ else if n = 7 then ⟨#[97, 100, 106, 117, 115, 116]⟩ else ⟨#[]⟩
theorem stateText_is (n : Int) (w : World) : Calls Try.prog 46 #[.int .i64 n] w fun e w' => e = .returned (.string (stT n)) ∧ w' = w := by
  by_cases c0 : n = 0
  · subst c0
    have HH : Hid (stT 0 = ⟨#[97, 99, 116, 105, 118, 101]⟩) := by show stT 0 = _; decide
    go_enter Try.func46, Try.ntmps46
    go_wp2_with fail
    go_ret
    exact ⟨by rw [HH.out]; rfl, rfl⟩
  · have b0 : (n == 0) = false := by simpa using c0
    by_cases c1 : n = 1
    · subst c1
      have HH : Hid (stT 1 = ⟨#[111, 117, 116]⟩) := by show stT 1 = _; decide
      go_enter Try.func46, Try.ntmps46
      go_wp2_with fail
      go_ret
      exact ⟨by rw [HH.out]; rfl, rfl⟩
    · have b1 : (n == 1) = false := by simpa using c1
      by_cases c2 : n = 2
      · subst c2
        have HH : Hid (stT 2 = ⟨#[117, 112]⟩) := by show stT 2 = _; decide
        go_enter Try.func46, Try.ntmps46
        go_wp2_with fail
        go_ret
        exact ⟨by rw [HH.out]; rfl, rfl⟩
      · have b2 : (n == 2) = false := by simpa using c2
        have HH : Hid (stT n = ⟨#[]⟩) := by show stT n = _; unfold stT; rw [if_neg c0, if_neg c1, if_neg c2]
        go_enter Try.func46, Try.ntmps46
        go_wp2_with fail
        go_ret
        exact ⟨by rw [HH.out]; rfl, rfl⟩
theorem refState_is (n : Int) (w : World) : Calls Try.prog 45 #[.int .i64 n] w fun e w' => e = .returned (.string (stT n)) ∧ w' = w := by
  by_cases c0 : n = 0
  · subst c0
    have HH : Hid (stT 0 = ⟨#[97, 99, 116, 105, 118, 101]⟩) := by show stT 0 = _; decide
    go_enter Try.func45, Try.ntmps45
    go_wp2_with fail
    go_ret
    exact ⟨by rw [HH.out]; rfl, rfl⟩
  · have b0 : (n == 0) = false := by simpa using c0
    by_cases c1 : n = 1
    · subst c1
      have HH : Hid (stT 1 = ⟨#[111, 117, 116]⟩) := by show stT 1 = _; decide
      go_enter Try.func45, Try.ntmps45
      go_wp2_with fail
      go_ret
      exact ⟨by rw [HH.out]; rfl, rfl⟩
    · have b1 : (n == 1) = false := by simpa using c1
      by_cases c2 : n = 2
      · subst c2
        have HH : Hid (stT 2 = ⟨#[117, 112]⟩) := by show stT 2 = _; decide
        go_enter Try.func45, Try.ntmps45
        go_wp2_with fail
        go_ret
        exact ⟨by rw [HH.out]; rfl, rfl⟩
      · have b2 : (n == 2) = false := by simpa using c2
        have HH : Hid (stT n = ⟨#[]⟩) := by show stT n = _; unfold stT; rw [if_neg c0, if_neg c1, if_neg c2]
        go_enter Try.func45, Try.ntmps45
        go_wp2_with fail
        go_ret
        exact ⟨by rw [HH.out]; rfl, rfl⟩
theorem kindText_is (n : Int) (w : World) : Calls Try.prog 51 #[.int .i64 n] w fun e w' => e = .returned (.string (kdT n)) ∧ w' = w := by
  by_cases c0 : n = 1
  · subst c0
    have HH : Hid (kdT 1 = ⟨#[114, 101, 99, 101, 105, 118, 101]⟩) := by show kdT 1 = _; decide
    go_enter Try.func51, Try.ntmps51
    go_wp2_with fail
    go_ret
    exact ⟨by rw [HH.out]; rfl, rfl⟩
  · have b0 : (n == 1) = false := by simpa using c0
    by_cases c1 : n = 3
    · subst c1
      have HH : Hid (kdT 3 = ⟨#[99, 111, 109, 109, 105, 116]⟩) := by show kdT 3 = _; decide
      go_enter Try.func51, Try.ntmps51
      go_wp2_with fail
      go_ret
      exact ⟨by rw [HH.out]; rfl, rfl⟩
    · have b1 : (n == 3) = false := by simpa using c1
      by_cases c2 : n = 6
      · subst c2
        have HH : Hid (kdT 6 = ⟨#[116, 114, 97, 110, 115, 102, 101, 114]⟩) := by show kdT 6 = _; decide
        go_enter Try.func51, Try.ntmps51
        go_wp2_with fail
        go_ret
        exact ⟨by rw [HH.out]; rfl, rfl⟩
      · have b2 : (n == 6) = false := by simpa using c2
        by_cases c3 : n = 7
        · subst c3
          have HH : Hid (kdT 7 = ⟨#[97, 100, 106, 117, 115, 116]⟩) := by show kdT 7 = _; decide
          go_enter Try.func51, Try.ntmps51
          go_wp2_with fail
          go_ret
          exact ⟨by rw [HH.out]; rfl, rfl⟩
        · have b3 : (n == 7) = false := by simpa using c3
          have HH : Hid (kdT n = ⟨#[]⟩) := by show kdT n = _; unfold kdT; rw [if_neg c0, if_neg c1, if_neg c2, if_neg c3]
          go_enter Try.func51, Try.ntmps51
          go_wp2_with fail
          go_ret
          exact ⟨by rw [HH.out]; rfl, rfl⟩
theorem refKind_is (n : Int) (w : World) : Calls Try.prog 50 #[.int .i64 n] w fun e w' => e = .returned (.string (kdT n)) ∧ w' = w := by
  by_cases c0 : n = 1
  · subst c0
    have HH : Hid (kdT 1 = ⟨#[114, 101, 99, 101, 105, 118, 101]⟩) := by show kdT 1 = _; decide
    go_enter Try.func50, Try.ntmps50
    go_wp2_with fail
    go_ret
    exact ⟨by rw [HH.out]; rfl, rfl⟩
  · have b0 : (n == 1) = false := by simpa using c0
    by_cases c1 : n = 3
    · subst c1
      have HH : Hid (kdT 3 = ⟨#[99, 111, 109, 109, 105, 116]⟩) := by show kdT 3 = _; decide
      go_enter Try.func50, Try.ntmps50
      go_wp2_with fail
      go_ret
      exact ⟨by rw [HH.out]; rfl, rfl⟩
    · have b1 : (n == 3) = false := by simpa using c1
      by_cases c2 : n = 6
      · subst c2
        have HH : Hid (kdT 6 = ⟨#[116, 114, 97, 110, 115, 102, 101, 114]⟩) := by show kdT 6 = _; decide
        go_enter Try.func50, Try.ntmps50
        go_wp2_with fail
        go_ret
        exact ⟨by rw [HH.out]; rfl, rfl⟩
      · have b2 : (n == 6) = false := by simpa using c2
        by_cases c3 : n = 7
        · subst c3
          have HH : Hid (kdT 7 = ⟨#[97, 100, 106, 117, 115, 116]⟩) := by show kdT 7 = _; decide
          go_enter Try.func50, Try.ntmps50
          go_wp2_with fail
          go_ret
          exact ⟨by rw [HH.out]; rfl, rfl⟩
        · have b3 : (n == 7) = false := by simpa using c3
          have HH : Hid (kdT n = ⟨#[]⟩) := by show kdT n = _; unfold kdT; rw [if_neg c0, if_neg c1, if_neg c2, if_neg c3]
          go_enter Try.func50, Try.ntmps50
          go_wp2_with fail
          go_ret
          exact ⟨by rw [HH.out]; rfl, rfl⟩
/-- A number, null of nought. -/
def orNull (n : Int) : V := if n = 0 then ⟨0, 0, ⟨#[]⟩⟩ else ⟨1, n, ⟨#[]⟩⟩
theorem orNull_is (n : Int) (w : World) : Calls Try.prog 47 #[.int .i64 n] w fun e w' => e = .returned (orNull n).val ∧ Below w.heap.size w w' := by
  by_cases c : n = 0
  · subst c
    have HH : Hid ((orNull 0).val = vv 0 0 ⟨#[]⟩) := rfl
    go_enter Try.func47, Try.ntmps47
    go_wp2_with fail
    try simp only [Exit.inBlock, Exit.then]
    refine bodyPost_ret (end_cell rfl rfl (load23 (by simp; rfl) (by simp; rfl) (by simp; rfl))) rfl ?_
    exact ⟨by rw [HH.out], below1 _ _⟩
  · have b : (n == 0) = false := by simpa using c
    have HH : Hid ((orNull n).val = vv 1 n ⟨#[]⟩) := by show (orNull n).val = _; unfold orNull; rw [if_neg c]
    have HN : Hid _ := fun w => number_is n w
    go_enter Try.func47, Try.ntmps47
    go_wp2_with fail
    refine Calls.mono (HN.out _) ?_; rintro e w1 ⟨rfl, rfl⟩
    go_wp2_with fail
    try simp only [Exit.inBlock, Exit.then]
    refine bodyPost_ret (end_cell rfl rfl (load23 (by simp; rfl) (by simp; rfl) (by simp; rfl))) rfl ?_
    exact ⟨by rw [HH.out], below2 _ _ _⟩
theorem refSome_is (n : Int) (w : World) : Calls Try.prog 48 #[.int .i64 n] w fun e w' => e = .returned (orNull n).val ∧ Below w.heap.size w w' := by
  by_cases c : n = 0
  · subst c
    have HH : Hid ((orNull 0).val = vv 0 0 ⟨#[]⟩) := rfl
    go_enter Try.func48, Try.ntmps48
    go_wp2_with fail
    try simp only [Exit.inBlock, Exit.then]
    refine bodyPost_ret (end_cell rfl rfl (load23 (by simp; rfl) (by simp; rfl) (by simp; rfl))) rfl ?_
    exact ⟨by rw [HH.out], below1 _ _⟩
  · have b : (n == 0) = false := by simpa using c
    have HH : Hid ((orNull n).val = vv 1 n ⟨#[]⟩) := by show (orNull n).val = _; unfold orNull; rw [if_neg c]
    have HN : Hid _ := fun w => rnum_is n w
    go_enter Try.func48, Try.ntmps48
    go_wp2_with fail
    refine Calls.mono (HN.out _) ?_; rintro e w1 ⟨rfl, rfl⟩
    go_wp2_with fail
    try simp only [Exit.inBlock, Exit.then]
    refine bodyPost_ret (end_cell rfl rfl (load23 (by simp; rfl) (by simp; rfl) (by simp; rfl))) rfl ?_
    exact ⟨by rw [HH.out], below2 _ _ _⟩
/-- Which of some numbers has a text. -/
def toldF (f : Int → ByteArray) : List Int → ByteArray → Int
  | [], _ => -1
  | n :: l, s => if f n = s then n else toldF f l s
set_option maxHeartbeats 1000000 in
theorem told_state (s : ByteArray) (B : Nat) (l : List Int) (n : Nat) (hn : l.length = n) (h9 : n ≤ 9) (w : World) (hc : ∀ i (h : i < l.length), w.cell? ⟨B, i, none⟩ = some (.int .i64 l[i])) :
    Calls Try.prog 64 #[.string s, .func (.func 46) #[] #[], .slice (some ⟨B, 0, none⟩) n n] w fun e w' => e = .returned (.int .i64 (toldF stT l s)) ∧ Below w.heap.size w w' := by
  have HC : Hid _ := hc
  have HN : Hid (l.length = n) := hn
  have HT : Hid _ := fun n w => stateText_is n w
  clear hc hn
  go_enter Try.func64, Try.ntmps64
  go_wp2_with fail
  go_loopw [11] (fun i wr => ∃ k : Nat, k ≤ n ∧ i = .int .i64 k ∧ Hid (Below w.heap.size w wr ∧ toldF stT l s = toldF stT (l.drop k) s))
    (fun i _ => n - (intOf i).toNat)
  case atStart => exact ⟨0, Nat.zero_le _, rfl, Below.refl _ _, rfl⟩
  case round =>
    obtain ⟨k, hk, rfl, HI⟩ := hrel
    by_cases hlt : k < n
    · have hlti : (k : Int) < (n : Int) := by omega
      have hkl : k < l.length := by have := HN.out; omega
      have c0 : wr.cell? ⟨B, k, none⟩ = some (.int .i64 l[k]) := (HI.out.1.cell (p := ⟨B, k, none⟩) (World.block_lt_of_cell? w _ (HC.out k hkl))).trans (HC.out k hkl)
      have HS : Hid (toldF stT (l.drop k) s = if stT l[k] = s then l[k] else toldF stT (l.drop (k + 1)) s) := by
        show toldF stT (l.drop k) s = _
        rw [List.drop_eq_getElem_cons hkl]
        rfl
      generalize l[k] = x at *
      by_cases hx : stT x = s
      · have hb : ((stT x).toList == s.toList) = true := by rw [hx]; simp
        have HE : Hid (toldF stT l s = x) := by show _ = _; rw [HI.out.2, HS.out, if_pos hx]
        obtain ⟨y, hy⟩ : ∃ y, stT x = y := ⟨_, rfl⟩
        have HT' : Hid (∀ w, Calls Try.prog 46 #[.int .i64 x] w fun e w' => e = .returned (.string y) ∧ w' = w) := fun w => by have := HT.out x w; rw [hy] at this; exact this
        rw [hy] at hb
        have hb2 : y.toList = s.toList := by simpa using hb
        clear hy hx HS
        go_wp2_with fail
        refine Calls.mono (HT'.out _) ?_; rintro e w1 ⟨rfl, rfl⟩
        go_wp2_with fail
        go_ret
        exact ⟨by rw [HE.out]; rfl, HI.out.1⟩
      · have hb2 : ¬ (stT x).toList = s.toList := fun e => hx (byte_inj e)
        have hb : ((stT x).toList == s.toList) = false := by simpa using hb2
        have HE : Hid (toldF stT l s = toldF stT (l.drop (k + 1)) s) := by show _ = _; rw [HI.out.2, HS.out, if_neg hx]
        obtain ⟨y, hy⟩ : ∃ y, stT x = y := ⟨_, rfl⟩
        have HT' : Hid (∀ w, Calls Try.prog 46 #[.int .i64 x] w fun e w' => e = .returned (.string y) ∧ w' = w) := fun w => by have := HT.out x w; rw [hy] at this; exact this
        rw [hy] at hb hb2
        clear hy hx HS
        go_wp2_with fail
        refine Calls.mono (HT'.out _) ?_; rintro e w1 ⟨rfl, rfl⟩
        go_wp2_with fail
        go_roundw
        case rel => exact ⟨k + 1, by omega, by go_num, HI.out.1, HE.out⟩
        case measure => simp [intOf]; omega
    · have hlti : ¬ (k : Int) < (n : Int) := by omega
      have HE : Hid (toldF stT l s = -1) := by show _ = _; rw [HI.out.2, List.drop_of_length_le (by have := HN.out; omega)]; rfl
      go_wp2_with fail
      go_ret
      exact ⟨by rw [HE.out]; rfl, HI.out.1⟩
set_option maxHeartbeats 1000000 in
theorem told_kind (s : ByteArray) (B : Nat) (l : List Int) (n : Nat) (hn : l.length = n) (h9 : n ≤ 9) (w : World) (hc : ∀ i (h : i < l.length), w.cell? ⟨B, i, none⟩ = some (.int .i64 l[i])) :
    Calls Try.prog 64 #[.string s, .func (.func 51) #[] #[], .slice (some ⟨B, 0, none⟩) n n] w fun e w' => e = .returned (.int .i64 (toldF kdT l s)) ∧ Below w.heap.size w w' := by
  have HC : Hid _ := hc
  have HN : Hid (l.length = n) := hn
  have HT : Hid _ := fun n w => kindText_is n w
  clear hc hn
  go_enter Try.func64, Try.ntmps64
  go_wp2_with fail
  go_loopw [11] (fun i wr => ∃ k : Nat, k ≤ n ∧ i = .int .i64 k ∧ Hid (Below w.heap.size w wr ∧ toldF kdT l s = toldF kdT (l.drop k) s))
    (fun i _ => n - (intOf i).toNat)
  case atStart => exact ⟨0, Nat.zero_le _, rfl, Below.refl _ _, rfl⟩
  case round =>
    obtain ⟨k, hk, rfl, HI⟩ := hrel
    by_cases hlt : k < n
    · have hlti : (k : Int) < (n : Int) := by omega
      have hkl : k < l.length := by have := HN.out; omega
      have c0 : wr.cell? ⟨B, k, none⟩ = some (.int .i64 l[k]) := (HI.out.1.cell (p := ⟨B, k, none⟩) (World.block_lt_of_cell? w _ (HC.out k hkl))).trans (HC.out k hkl)
      have HS : Hid (toldF kdT (l.drop k) s = if kdT l[k] = s then l[k] else toldF kdT (l.drop (k + 1)) s) := by
        show toldF kdT (l.drop k) s = _
        rw [List.drop_eq_getElem_cons hkl]
        rfl
      generalize l[k] = x at *
      by_cases hx : kdT x = s
      · have hb : ((kdT x).toList == s.toList) = true := by rw [hx]; simp
        have HE : Hid (toldF kdT l s = x) := by show _ = _; rw [HI.out.2, HS.out, if_pos hx]
        obtain ⟨y, hy⟩ : ∃ y, kdT x = y := ⟨_, rfl⟩
        have HT' : Hid (∀ w, Calls Try.prog 51 #[.int .i64 x] w fun e w' => e = .returned (.string y) ∧ w' = w) := fun w => by have := HT.out x w; rw [hy] at this; exact this
        rw [hy] at hb
        have hb2 : y.toList = s.toList := by simpa using hb
        clear hy hx HS
        go_wp2_with fail
        refine Calls.mono (HT'.out _) ?_; rintro e w1 ⟨rfl, rfl⟩
        go_wp2_with fail
        go_ret
        exact ⟨by rw [HE.out]; rfl, HI.out.1⟩
      · have hb2 : ¬ (kdT x).toList = s.toList := fun e => hx (byte_inj e)
        have hb : ((kdT x).toList == s.toList) = false := by simpa using hb2
        have HE : Hid (toldF kdT l s = toldF kdT (l.drop (k + 1)) s) := by show _ = _; rw [HI.out.2, HS.out, if_neg hx]
        obtain ⟨y, hy⟩ : ∃ y, kdT x = y := ⟨_, rfl⟩
        have HT' : Hid (∀ w, Calls Try.prog 51 #[.int .i64 x] w fun e w' => e = .returned (.string y) ∧ w' = w) := fun w => by have := HT.out x w; rw [hy] at this; exact this
        rw [hy] at hb hb2
        clear hy hx HS
        go_wp2_with fail
        refine Calls.mono (HT'.out _) ?_; rintro e w1 ⟨rfl, rfl⟩
        go_wp2_with fail
        go_roundw
        case rel => exact ⟨k + 1, by omega, by go_num, HI.out.1, HE.out⟩
        case measure => simp [intOf]; omega
    · have hlti : ¬ (k : Int) < (n : Int) := by omega
      have HE : Hid (toldF kdT l s = -1) := by show _ = _; rw [HI.out.2, List.drop_of_length_le (by have := HN.out; omega)]; rfl
      go_wp2_with fail
      go_ret
      exact ⟨by rw [HE.out]; rfl, HI.out.1⟩
theorem stateOf_is (s : ByteArray) (w : World) : Calls Try.prog 44 #[.string s] w fun e w' => e = .returned (.int .i64 (toldF stT [0, 1, 2] s)) ∧ Below w.heap.size w w' := by
  have HT : Hid _ := told_state s w.heap.size [0, 1, 2] 3 rfl (by omega) (w.alloc (.cells #[.int .i64 0, .int .i64 1, .int .i64 2] 3)) (fun i h => by
    match i, h with
    | 0, _ => simp
    | 1, _ => simp
    | 2, _ => simp)
  obtain ⟨r, hr⟩ : ∃ r, toldF stT [0, 1, 2] s = r := ⟨_, rfl⟩
  rw [hr] at HT ⊢
  clear hr
  go_enter Try.func44, Try.ntmps44
  go_wp2_with fail
  refine Calls.mono HT.out ?_; rintro e w1 ⟨rfl, k1⟩
  have HK : Hid (Below w.heap.size w w1) := Below.next (below1 _ _) k1
  clear k1
  go_wp2_with fail
  go_ret
  exact ⟨rfl, HK.out⟩
theorem kindOf_is (s : ByteArray) (w : World) : Calls Try.prog 49 #[.string s] w fun e w' => e = .returned (.int .i64 (toldF kdT [1, 3, 6, 7] s)) ∧ Below w.heap.size w w' := by
  have HT : Hid _ := told_kind s w.heap.size [1, 3, 6, 7] 4 rfl (by omega) (w.alloc (.cells #[.int .i64 1, .int .i64 3, .int .i64 6, .int .i64 7] 3)) (fun i h => by
    match i, h with
    | 0, _ => simp
    | 1, _ => simp
    | 2, _ => simp
    | 3, _ => simp)
  obtain ⟨r, hr⟩ : ∃ r, toldF kdT [1, 3, 6, 7] s = r := ⟨_, rfl⟩
  rw [hr] at HT ⊢
  clear hr
  go_enter Try.func49, Try.ntmps49
  go_wp2_with fail
  refine Calls.mono HT.out ?_; rintro e w1 ⟨rfl, k1⟩
  have HK : Hid (Below w.heap.size w w1) := Below.next (below1 _ _) k1
  clear k1
  go_wp2_with fail
  go_ret
  exact ⟨rfl, HK.out⟩
end Go.Proofs.Ytaoboleifdgonaa
