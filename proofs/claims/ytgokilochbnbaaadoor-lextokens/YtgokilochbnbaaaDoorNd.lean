/- A number's digits. -/
import Derived.Test.YtgokilochbnbaaaDoorMm
import Derived.WalkKit
import Derived.ProofKit
import Derived.OpenShut
import Derived.WalkSpells
import Derived.Handy
import Derived.Lib.Strings
import Derived.Laws.BitsAll
import Derived.Laws.IdiomStrings
namespace Go.Proofs.YtgokilochbnbaaaDoor.Num
open Go.ChangeShapes Go.WideShapes Go.ChangeAt Go.RowKit
set_option linter.unusedVariables false
set_option maxRecDepth 100000

def ch (d : Nat) : UInt8 := UInt8.ofNat (48 + d)
/-- The digits of a number. -/
def dg (n : Nat) : List UInt8 := if n < 10 then [ch n] else dg (n / 10) ++ [ch (n % 10)]
/-- The number of digits. -/
def num (l : List UInt8) : Nat := l.foldl (fun a c => a * 10 + (c.toNat - 48)) 0
def dig (c : UInt8) : Bool := 48 ≤ c.toNat && c.toNat ≤ 57
/-- Digits, at least one, and no nought ahead of others. -/
def pl (l : List UInt8) : Bool := !l.isEmpty && !(1 < l.length && l.headD 0 == 48) && l.all dig

theorem ch_toNat (d : Nat) (h : d < 10) : (ch d).toNat = 48 + d := by
  unfold ch
  rw [UInt8.toNat_ofNat']
  omega
theorem ch_of (c : UInt8) (h : dig c = true) : ch (c.toNat - 48) = c := by
  unfold dig at h
  simp at h
  apply UInt8.toNat_inj.1
  rw [ch_toNat _ (by omega)]
  omega
theorem dig_ch (d : Nat) (h : d < 10) : dig (ch d) = true := by
  unfold dig
  rw [ch_toNat d h]
  simp; omega
theorem dg_small (n : Nat) (h : n < 10) : dg n = [ch n] := by rw [dg, if_pos h]
theorem dg_step (n : Nat) (h : 10 ≤ n) : dg n = dg (n / 10) ++ [ch (n % 10)] := by rw [dg, if_neg (by omega)]

theorem num_nil : num [] = 0 := rfl
theorem num_snoc (l : List UInt8) (c : UInt8) : num (l ++ [c]) = num l * 10 + (c.toNat - 48) := by
  unfold num
  rw [List.foldl_append]
  rfl
theorem num_dg (n : Nat) : num (dg n) = n := by
  induction n using Nat.strongRecOn with
  | _ n ih =>
    by_cases h : n < 10
    · rw [dg_small n h]
      show 0 * 10 + ((ch n).toNat - 48) = n
      rw [ch_toNat n h]; omega
    · rw [dg_step n (by omega), num_snoc, ih (n / 10) (by omega), ch_toNat _ (by omega)]
      omega
theorem dg_ne (n : Nat) : dg n ≠ [] := by
  by_cases h : n < 10
  · rw [dg_small n h]; simp
  · rw [dg_step n (by omega)]; simp
theorem all_dg (n : Nat) : (dg n).all dig = true := by
  induction n using Nat.strongRecOn with
  | _ n ih =>
    by_cases h : n < 10
    · rw [dg_small n h]; simp [dig_ch n h]
    · rw [dg_step n (by omega), List.all_append, ih (n / 10) (by omega)]
      simp [dig_ch (n % 10) (by omega)]
theorem head_dg (n : Nat) (h : 1 ≤ n) : (dg n).headD 0 ≠ 48 := by
  induction n using Nat.strongRecOn with
  | _ n ih =>
    by_cases c : n < 10
    · rw [dg_small n c]
      intro e
      have := congrArg UInt8.toNat e
      simp [ch_toNat n c] at this
      omega
    · rw [dg_step n (by omega)]
      have := ih (n / 10) (by omega) (by omega)
      have ne := dg_ne (n / 10)
      generalize dg (n / 10) = l at *
      cases l with
      | nil => exact absurd rfl ne
      | cons a r => simpa using this
theorem len_dg (n k : Nat) (hk : 1 ≤ k) (h : n < 10 ^ k) : (dg n).length ≤ k := by
  induction n using Nat.strongRecOn generalizing k with
  | _ n ih =>
    by_cases c : n < 10
    · rw [dg_small n c]; simpa using hk
    · rw [dg_step n (by omega), List.length_append]
      have hk2 : 2 ≤ k := by
        rcases Nat.lt_or_ge k 2 with h2 | h2
        · obtain rfl : k = 1 := by omega
          omega
        · exact h2
      have := ih (n / 10) (by omega) (k - 1) (by omega) (by
        have e : 10 ^ k = 10 ^ (k - 1) * 10 := by rw [← Nat.pow_succ]; congr 1; omega
        omega)
      simp; omega
def txt (n : Int) : List UInt8 := if n < 0 then 45 :: dg n.natAbs else dg n.natAbs
theorem room_slice (B g : Nat) (hg : g ≤ 18) (w : World) :
    (Instr.sliceAt 71 (.pointer (some ⟨B, 0, none⟩)) (some (.int .i64 (g : Int))) none none).run Tryd.prog w = .ok (.slice (some ⟨B, g, none⟩) (19 - g) (19 - g)) w := by
  have e1 : Tryd.prog.arrayLen 71 = 19 := by kernel_rfl
  have h := run_sliceAt_array_l (P := Tryd.prog) w 71 ⟨B, 0, none⟩ (by kernel_rfl) .i64 (g : Int) (by omega) (by rw [e1]; omega)
  have e2 : ((Go.sizeOf (Tryd.prog.elem 71)).run Tryd.prog w) = .ok 1 w := by kernel_rfl
  rw [h, e2, e1]
  have : ¬ 19 = g := by omega
  simp [slicedAt, this, Addr.add]
  omega

/-- The room of 19 bytes: what lies behind place g, and that all of it may be written. -/
structure Room (w : World) (B g : Nat) (T : List UInt8) : Prop where
  len : T.length = 18 - g
  cells : ∀ k (hk : k < T.length), w.cell? ⟨B, g + 1 + k, none⟩ = some (.int .u8 (T[k].toNat : Int))
  there : ∀ k, k < 19 → ∃ v, w.cell? ⟨B, k, none⟩ = some v
  free : ∀ k, w.frozen? ⟨B, k, none⟩ = false

theorem Room.fresh (w : World) : Room (w.alloc (.cells #[.int .u8 0, .int .u8 0, .int .u8 0, .int .u8 0, .int .u8 0, .int .u8 0, .int .u8 0, .int .u8 0, .int .u8 0, .int .u8 0, .int .u8 0, .int .u8 0, .int .u8 0, .int .u8 0, .int .u8 0, .int .u8 0, .int .u8 0, .int .u8 0, .int .u8 0] 71)) w.heap.size 18 [] := by
  refine ⟨rfl, fun k hk => by simp at hk, fun k hk => ⟨.int .u8 0, ?_⟩, fun k => ?_⟩
  · match k, hk with
    | 0, _ | 1, _ | 2, _ | 3, _ | 4, _ | 5, _ | 6, _ | 7, _ | 8, _ | 9, _ | 10, _ | 11, _ | 12, _ | 13, _ | 14, _ | 15, _ | 16, _ | 17, _ | 18, _ => simp [go_sem]
    | n + 19, h => omega
  · simp [go_sem]

theorem Room.put {w : World} {B g m : Nat} {T : List UInt8} (h : Room w B g T) (hg : g ≤ 18) (hm : m < 10) :
    (∀ k (hk : k < (ch m :: T).length), (w.setCell ⟨B, g, none⟩ (.int .u8 (48 + (m : Int)))).cell? ⟨B, g + k, none⟩ = some (.int .u8 ((ch m :: T)[k].toNat : Int))) ∧
    (∀ k, k < 19 → ∃ v, (w.setCell ⟨B, g, none⟩ (.int .u8 (48 + (m : Int)))).cell? ⟨B, k, none⟩ = some v) ∧ (∀ k, (w.setCell ⟨B, g, none⟩ (.int .u8 (48 + (m : Int)))).frozen? ⟨B, k, none⟩ = false) := by
  obtain ⟨v, hv⟩ := h.there g (by omega)
  refine ⟨fun k hk => ?_, fun k hk => ?_, fun k => ?_⟩
  · cases k with
    | zero =>
      have e : (((ch m :: T)[0]'hk).toNat : Int) = 48 + (m : Int) := by
        show ((ch m).toNat : Int) = _
        rw [ch_toNat m hm]; omega
      rw [e]
      simp [go_sem, hv]
    | succ k =>
      have hk' : k < T.length := by simpa using hk
      have := h.cells k hk'
      have e : g + (k + 1) = g + 1 + k := by omega
      rw [e]
      simp [go_sem, this]
  · obtain ⟨u, hu⟩ := h.there k hk
    by_cases e : k = g
    · subst e
      exact ⟨.int .u8 (48 + (m : Int)), by simp [go_sem, hv]⟩
    · exact ⟨u, by simp [go_sem, hu]⟩
  · have := h.free k
    simp [go_sem, this]

theorem room_text {W : World} {B g : Nat} {L : List UInt8} (hl : L.length = 19 - g) (hc : ∀ k (hk : k < L.length), W.cell? ⟨B, g + k, none⟩ = some (.int .u8 (L[k].toNat : Int))) :
    (convert 35 9 (.slice (some ⟨B, g, none⟩) (19 - g) (19 - g))).run Tryd.prog W = .ok (.string ⟨L.toArray⟩) W := by
  have h := run_convert_bytes_back (P := Tryd.prog) W 35 9 5 ⟨B, g, none⟩ (19 - g) L Tryd.underlying35 Tryd.underlying5 Tryd.underlying9 (fun j hj => by rw [Go.WideShapes.add_plain]; exact hc j hj)
  rwa [hl] at h

theorem ret_str {a b : List UInt8} (h : a = b) : Ending.returned (.string ⟨a.toArray⟩) = .returned (.string ⟨b.toArray⟩) := by rw [h]

set_option maxHeartbeats 1000000 in
theorem digits_any (N : Nat) (hN : N ≤ 9223372036854775808) (w : World) :
    Calls Tryd.prog 53 #[.int .u64 (N : Int)] w fun e w' => e = .returned (.string ⟨(dg N).toArray⟩) ∧ Below w.heap.size w w' := by
  have HL : Hid ((dg N).length ≤ 19) := len_dg N 19 (by omega) (by omega)
  go_enter Tryd.func53, Tryd.ntmps53
  go_wp2
  go_loopw [0, 4, 5] (fun x f i wr => ∃ (m g : Nat) (T : List UInt8), m ≤ 9223372036854775808 ∧ g ≤ 18 ∧ x = .int .u64 (m : Int) ∧ f = .int .i64 ((g : Int) + 1) ∧ i = .int .i64 (18 - (g : Int)) ∧ Room wr w.heap.size g T ∧ Hid (dg N = dg m ++ T) ∧ Below w.heap.size w wr)
    (fun _ _ i _ => 19 - (intOf i).toNat)
  case atStart => exact ⟨N, 18, [], hN, by omega, rfl, rfl, rfl, Room.fresh w, by show _ = _; simp, (Below.refl _ _).alloc (Nat.le_refl _) _⟩
  case round =>
    obtain ⟨m, g, T, hm, hg, rfl, rfl, rfl, R, HE, KB⟩ := hrel
    obtain ⟨v, hc⟩ := R.there g (by omega)
    have hf := R.free g
    obtain ⟨d, hd⟩ : ∃ d : Nat, d = m % 10 := ⟨_, rfl⟩
    have hd10 : d < 10 := by omega
    have e1 : (m : Int) % 10 = (d : Int) := by omega
    obtain ⟨q, hq⟩ : ∃ q : Nat, q = m / 10 := ⟨_, rfl⟩
    have e2 : (m : Int) / 10 = (q : Int) := by omega
    have HD : Hid (d = m % 10) := hd
    have HQ : Hid (q = m / 10) := hq
    clear hd hq
    have P := R.put hg hd10
    have hlen : (ch d :: T).length = 19 - g := by have := R.len; simp; omega
    have hsl := fun wx => room_slice w.heap.size g hg wx
    have hcv := room_text hlen P.1
    by_cases c : q = 0
    · have hq0 : ((q : Int) == 0) = true := by simp; omega
      have HR : Hid (dg N = ch d :: T) := by
        have h1 := HE.out; have h2 := HD.out; have h3 := HQ.out
        show _ = _
        rw [h1, dg_small m (by omega), h2, Nat.mod_eq_of_lt (by omega)]
        rfl
      have HP : Hid _ := P
      clear P c
      go_wp2
      go_ret
      exact ⟨ret_str HR.out.symm, KB.setCell (p := ⟨w.heap.size, g, none⟩) (Nat.le_refl _) _⟩
    · have hq0 : ((q : Int) == 0) = false := by simp; omega
      have HR : Hid (dg N = dg q ++ (ch d :: T)) := by
        have h1 := HE.out; have h2 := HD.out; have h3 := HQ.out
        show _ = _
        rw [h1, dg_step m (by omega), ← h2, ← h3]
        simp
      have hg1 : 1 ≤ g := by
        have h1 := HR.out
        have h2 := HL.out
        rw [h1, List.length_append, hlen] at h2
        have h3 : (dg q).length ≠ 0 := fun h => dg_ne q (List.length_eq_zero_iff.1 h)
        omega
      have HP : Hid _ := P
      clear P c hcv hsl
      go_wp2
      go_roundw
      case rel =>
        have e3 : g - 1 + 1 = g := by omega
        refine ⟨q, g - 1, ch d :: T, by have := HQ.out; omega, by omega, rfl, by go_num, by go_num, ⟨by rw [hlen]; omega, ?_, HP.out.2.1, HP.out.2.2⟩, HR, KB.setCell (p := ⟨w.heap.size, g, none⟩) (Nat.le_refl _) _⟩
        rw [e3]
        exact HP.out.1
      case measure => simp [intOf]; omega

theorem u64_abs (n : Int) (h0 : n < 0) (h1 : -9223372036854775808 ≤ n) : IntKind.u64.wrap (-(IntKind.u64.wrap n)) = (n.natAbs : Int) := by
  rw [IntKind.wrap_u64, IntKind.wrap_u64]; omega

theorem text_plus (n : Int) (h0 : 0 ≤ n) (h1 : n ≤ 9223372036854775807) (w : World) :
    Calls Tryd.prog 25 #[.int .i64 n] w fun e w' => e = .returned (.string ⟨(dg n.natAbs).toArray⟩) ∧ Below w.heap.size w w' := by
  obtain ⟨N, rfl⟩ := Int.eq_ofNat_of_zero_le h0
  have H : Hid (∀ w, Calls Tryd.prog 53 #[.int .u64 (N : Int)] w fun e w' => e = .returned (.string ⟨(dg N).toArray⟩) ∧ Below w.heap.size w w') := fun w => digits_any N (by omega) w
  rw [Int.natAbs_natCast]
  go_enter Tryd.func25, Tryd.ntmps25
  go_wp2_with fail
  refine (H.out _).mono ?_; rintro e w1 ⟨rfl, k1⟩
  go_wp2_with fail
  go_ret
  exact ⟨rfl, k1⟩

theorem text_minus (n : Int) (h0 : n < 0) (h1 : -9223372036854775808 ≤ n) (w : World) :
    Calls Tryd.prog 25 #[.int .i64 n] w fun e w' => e = .returned (.string ⟨(45 :: dg n.natAbs).toArray⟩) ∧ Below w.heap.size w w' := by
  have ha := u64_abs n h0 h1
  have hN : n.natAbs ≤ 9223372036854775808 := by omega
  have HL : (dg n.natAbs).length ≤ 19 := len_dg _ 19 (by omega) (by omega)
  generalize n.natAbs = N at *
  have H : Hid (∀ w, Calls Tryd.prog 53 #[.int .u64 (N : Int)] w fun e w' => e = .returned (.string ⟨(dg N).toArray⟩) ∧ Below w.heap.size w w') := fun w => digits_any N hN w
  generalize dg N = L at *
  go_enter Tryd.func25, Tryd.ntmps25
  go_wp2_with fail
  refine (H.out _).mono ?_; rintro e w1 ⟨rfl, k1⟩
  go_wp2_with fail
  go_ret
  exact ⟨rfl, k1⟩

/-- num.Text answers the number's digits. -/
theorem text_any (n : Int) (hn : -9223372036854775808 ≤ n ∧ n ≤ 9223372036854775807) (w : World) :
    Calls Tryd.prog 25 #[.int .i64 n] w fun e w' => e = .returned (.string ⟨(txt n).toArray⟩) ∧ Below w.heap.size w w' := by
  unfold txt
  by_cases c : n < 0
  · rw [if_pos c]; exact text_minus n c hn.1 w
  · rw [if_neg c]; exact text_plus n (by omega) hn.2 w

def vl (x : Int) : Int := if -9223372036854775808 ≤ x ∧ x ≤ 9223372036854775807 then x else 0
def er (x : Int) : Int := if -9223372036854775808 ≤ x ∧ x ≤ 9223372036854775807 then 0 else 10
theorem vl_in {x : Int} (h : -9223372036854775808 ≤ x ∧ x ≤ 9223372036854775807) : vl x = x ∧ er x = 0 := ⟨if_pos h, if_pos h⟩
theorem vl_out {x : Int} (h : ¬ (-9223372036854775808 ≤ x ∧ x ≤ 9223372036854775807)) : vl x = 0 ∧ er x = 10 := ⟨if_neg h, if_neg h⟩

theorem pl_dg (n : Nat) : pl (dg n) = true := by
  unfold pl
  rw [all_dg]
  have ne := dg_ne n
  by_cases c : n < 10
  · rw [dg_small n c]; simp
  · have h := head_dg n (by omega)
    simp [ne]
    right
    simpa using h

theorem snoc_ind {P : List UInt8 → Prop} (nil : P []) (append_singleton : ∀ l c, P l → P (l ++ [c])) (l : List UInt8) : P l := by
  have h : ∀ r : List UInt8, P r.reverse := fun r => by
    induction r with
    | nil => exact nil
    | cons a r ih => rw [List.reverse_cons]; exact append_singleton _ _ ih
  have := h l.reverse
  rwa [List.reverse_reverse] at this

theorem num_ge (l r : List UInt8) : num l ≤ num (l ++ r) := by
  unfold num
  rw [List.foldl_append]
  generalize List.foldl (fun a c => a * 10 + (c.toNat - 48)) 0 l = a
  induction r generalizing a with
  | nil => exact Nat.le_refl _
  | cons c r ih =>
    rw [List.foldl_cons]
    have := ih (a * 10 + (c.toNat - 48))
    omega
theorem num_take (l : List UInt8) (k : Nat) : num (l.take k) ≤ num l := by
  have := num_ge (l.take k) (l.drop k)
  rwa [List.take_append_drop] at this
theorem num_lt (l : List UInt8) (h : l.all dig = true) : num l < 10 ^ l.length := by
  induction l using snoc_ind with
  | nil => simp [num_nil]
  | append_singleton l c ih =>
    rw [List.all_append, Bool.and_eq_true] at h
    have h1 := ih h.1
    have h2 : dig c = true := by simpa using h.2
    unfold dig at h2
    simp at h2
    rw [num_snoc, List.length_append]
    show _ < 10 ^ (l.length + 1)
    rw [Nat.pow_succ]
    omega
theorem num_big (l : List UInt8) (h : l.all dig = true) (hh : l.headD 0 ≠ 48) (hn : l ≠ []) : 10 ^ (l.length - 1) ≤ num l := by
  induction l using snoc_ind with
  | nil => exact absurd rfl hn
  | append_singleton l c ih =>
    rw [List.all_append, Bool.and_eq_true] at h
    have h2 : dig c = true := by simpa using h.2
    unfold dig at h2
    simp at h2
    rw [num_snoc, List.length_append]
    cases l with
    | nil =>
      simp only [List.nil_append, List.headD_cons] at hh
      have : c.toNat ≠ 48 := fun e => hh (UInt8.toNat_inj.1 e)
      show 10 ^ 0 ≤ _
      simp [num_nil]
      omega
    | cons a r =>
      have h3 := ih h.1 (by simpa using hh) (by simp)
      simp only [List.length_cons, Nat.add_sub_cancel] at h3 ⊢
      show 10 ^ (r.length + 1 + 1 - 1) ≤ _
      rw [Nat.add_sub_cancel, Nat.pow_succ]
      omega

theorem pl_parts {l : List UInt8} (h : pl l = true) : l ≠ [] ∧ (1 < l.length → l.headD 0 ≠ 48) ∧ l.all dig = true := by
  unfold pl at h
  simp only [Bool.and_eq_true, Bool.not_eq_true', Bool.and_eq_false_iff, decide_eq_false_iff_not] at h
  obtain ⟨⟨h1, h2⟩, h3⟩ := h
  refine ⟨by simpa using h1, fun h => ?_, h3⟩
  rcases h2 with h2 | h2
  · exact absurd h h2
  · simpa using h2

theorem dg_num (l : List UInt8) (h : pl l = true) : dg (num l) = l := by
  induction l using snoc_ind with
  | nil => simp [pl] at h
  | append_singleton l c ih =>
    obtain ⟨h1, h2, h3⟩ := pl_parts h
    rw [List.all_append, Bool.and_eq_true] at h3
    have hc : dig c = true := by simpa using h3.2
    have hc2 := hc
    unfold dig at hc2
    simp at hc2
    rw [num_snoc]
    cases l with
    | nil =>
      simp only [num_nil, Nat.zero_mul, Nat.zero_add, List.nil_append]
      rw [dg_small _ (by omega), ch_of c hc]
    | cons a r =>
      have hd : (a :: r).headD 0 ≠ 48 := by
        have := h2 (by simp)
        simpa using this
      have hp : pl (a :: r) = true := by
        unfold pl
        rw [h3.1]
        simp
        right
        simpa using hd
      have hb := num_big (a :: r) h3.1 hd (by simp)
      have hpos : 1 ≤ 10 ^ ((a :: r).length - 1) := Nat.one_le_pow _ _ (by omega)
      have e1 : (num (a :: r) * 10 + (c.toNat - 48)) / 10 = num (a :: r) := by omega
      have e2 : (num (a :: r) * 10 + (c.toNat - 48)) % 10 = c.toNat - 48 := by omega
      rw [dg_step _ (by omega), e1, e2, ih hp, ch_of c hc]

/-- What is meant by a text: the number, without end, or that there is none. -/
def rdNeg (l : List UInt8) : Bool := l.headD 0 == 45
def rdDig (l : List UInt8) : List UInt8 := if rdNeg l then l.drop 1 else l
def rdBad (l : List UInt8) : Bool := !pl (rdDig l) || rdNeg l && rdDig l == [48]
def rdNum (l : List UInt8) : Int := if rdNeg l then -(num (rdDig l) : Int) else (num (rdDig l) : Int)
def rdV (l : List UInt8) : Int := if rdBad l then 0 else vl (rdNum l)
def rdE (l : List UInt8) : Int := if rdBad l then 1 else er (rdNum l)

theorem head_dig (l : List UInt8) (h : l.all dig = true) : rdNeg l = false := by
  unfold rdNeg
  cases l with
  | nil => rfl
  | cons a r =>
    simp at h
    have := h.1
    unfold dig at this
    simp at this ⊢
    intro e
    subst e
    simp at this

/-- A text that was put is read as its number. -/
theorem rd_txt (n : Int) : rdBad (txt n) = false ∧ rdNum (txt n) = n := by
  unfold txt
  by_cases c : n < 0
  · rw [if_pos c]
    have hn : rdNeg (45 :: dg n.natAbs) = true := by simp [rdNeg]
    have hd : rdDig (45 :: dg n.natAbs) = dg n.natAbs := by unfold rdDig; rw [hn]; simp
    refine ⟨?_, ?_⟩
    · unfold rdBad
      rw [hd, hn, pl_dg]
      simp
      intro e
      have := congrArg num e
      rw [num_dg] at this
      have e2 : num [48] = 0 := rfl
      omega
    · unfold rdNum
      rw [hd, hn, num_dg]
      simp
      omega
  · rw [if_neg c]
    have hn := head_dig _ (all_dg n.natAbs)
    have hd : rdDig (dg n.natAbs) = dg n.natAbs := by unfold rdDig; rw [hn]; simp
    refine ⟨?_, ?_⟩
    · unfold rdBad
      rw [hd, hn, pl_dg]
      simp
    · unfold rdNum
      rw [hd, hn, num_dg]
      simp
      omega

/-- A text that is a number is that number's text. -/
theorem txt_rd (l : List UInt8) (h : rdBad l = false) : txt (rdNum l) = l := by
  unfold rdBad at h
  simp only [Bool.or_eq_false_iff, Bool.not_eq_false'] at h
  obtain ⟨hp, hz⟩ := h
  cases hn : rdNeg l
  · have hd : rdDig l = l := by unfold rdDig; rw [hn]; simp
    rw [hd] at hp
    unfold rdNum txt
    rw [hn, hd]
    simp
    rw [if_neg (by omega)]
    exact dg_num l hp
  · have hd : rdDig l = l.drop 1 := by unfold rdDig; rw [hn]; simp
    rw [hd, hn] at hz
    rw [hd] at hp
    have hl : l = 45 :: l.drop 1 := by
      unfold rdNeg at hn
      cases l with
      | nil => simp at hn
      | cons a r => simp at hn ⊢; exact hn
    have hpos : 1 ≤ num (l.drop 1) := by
      obtain ⟨h1, h2, h3⟩ := pl_parts hp
      by_cases c : (l.drop 1).headD 0 = 48
      · exfalso
        have hlen : ¬ 1 < (l.drop 1).length := fun x => h2 x c
        generalize l.drop 1 = r at *
        match r, h1, hlen, c with
        | [x], _, _, c => simp at c; subst c; simp at hz
        | _ :: _ :: _, _, hlen, _ => simp at hlen
      · have := num_big _ h3 c h1
        have hp1 : 1 ≤ 10 ^ ((l.drop 1).length - 1) := Nat.one_le_pow _ _ (by omega)
        omega
    unfold rdNum txt
    rw [hn, hd]
    simp only [if_true]
    rw [if_pos (by omega)]
    have e : (-(num (l.drop 1) : Int)).natAbs = num (l.drop 1) := by omega
    rw [e, dg_num _ hp]
    exact hl.symm
end Go.Proofs.YtgokilochbnbaaaDoor.Num
