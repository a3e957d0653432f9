/- A number's digits. -/
import Derived.Test.YtmjajlmknncggaaDoorBase
import Derived.WalkKit
import Derived.ProofKit
import Derived.OpenShut
import Derived.WalkSpells
import Derived.Handy
import Derived.Lib.Strings
import Derived.Laws.BitsAll
import Derived.Laws.IdiomStrings
namespace Go.Proofs.YtmjajlmknncggaaDoor.Num
open Go.ChangeShapes Go.WideShapes Go.ChangeAt Go.RowKit
set_option linter.unusedVariables false
set_option maxRecDepth 100000

def ch (d : Nat) : UInt8 := UInt8.ofNat (48 + d)
/-- The digits of a number. -/
def dg (n : Nat) : List UInt8 := if n < 10 then [ch n] else dg (n / 10) ++ [ch (n % 10)]
/-- The number of digits. -/
def num (l : List UInt8) : Nat := l.foldl (fun a c => a * 10 + (c.toNat - 48)) 0
def dig (c : UInt8) : Bool := 48 ≤ c.toNat && c.toNat ≤ 57
/-- Digits, at least one, and no nought ahead of others. -/
def pl (l : List UInt8) : Bool := !l.isEmpty && !(1 < l.length && l.headD 0 == 48) && l.all dig

theorem ch_toNat (d : Nat) (h : d < 10) : (ch d).toNat = 48 + d := by
  unfold ch
  rw [UInt8.toNat_ofNat']
  omega
theorem ch_of (c : UInt8) (h : dig c = true) : ch (c.toNat - 48) = c := by
  unfold dig at h
  simp at h
  apply UInt8.toNat_inj.1
  rw [ch_toNat _ (by omega)]
  omega
theorem dig_ch (d : Nat) (h : d < 10) : dig (ch d) = true := by
  unfold dig
  rw [ch_toNat d h]
  simp; omega
theorem dg_small (n : Nat) (h : n < 10) : dg n = [ch n] := by rw [dg, if_pos h]
theorem dg_step (n : Nat) (h : 10 ≤ n) : dg n = dg (n / 10) ++ [ch (n % 10)] := by rw [dg, if_neg (by omega)]

theorem num_nil : num [] = 0 := rfl
theorem num_snoc (l : List UInt8) (c : UInt8) : num (l ++ [c]) = num l * 10 + (c.toNat - 48) := by
  unfold num
  rw [List.foldl_append]
  rfl
theorem num_dg (n : Nat) : num (dg n) = n := by
  induction n using Nat.strongRecOn with
  | _ n ih =>
    by_cases h : n < 10
    · rw [dg_small n h]
      show 0 * 10 + ((ch n).toNat - 48) = n
      rw [ch_toNat n h]; omega
    · rw [dg_step n (by omega), num_snoc, ih (n / 10) (by omega), ch_toNat _ (by omega)]
      omega
theorem dg_ne (n : Nat) : dg n ≠ [] := by
  by_cases h : n < 10
  · rw [dg_small n h]; simp
  · rw [dg_step n (by omega)]; simp
theorem all_dg (n : Nat) : (dg n).all dig = true := by
  induction n using Nat.strongRecOn with
  | _ n ih =>
    by_cases h : n < 10
    · rw [dg_small n h]; simp [dig_ch n h]
    · rw [dg_step n (by omega), List.all_append, ih (n / 10) (by omega)]
      simp [dig_ch (n % 10) (by omega)]
theorem head_dg (n : Nat) (h : 1 ≤ n) : (dg n).headD 0 ≠ 48 := by
  induction n using Nat.strongRecOn with
  | _ n ih =>
    by_cases c : n < 10
    · rw [dg_small n c]
      intro e
      have := congrArg UInt8.toNat e
      simp [ch_toNat n c] at this
      omega
    · rw [dg_step n (by omega)]
      have := ih (n / 10) (by omega) (by omega)
      have ne := dg_ne (n / 10)
      generalize dg (n / 10) = l at *
      cases l with
      | nil => exact absurd rfl ne
      | cons a r => simpa using this
theorem len_dg (n k : Nat) (hk : 1 ≤ k) (h : n < 10 ^ k) : (dg n).length ≤ k := by
  induction n using Nat.strongRecOn generalizing k with
  | _ n ih =>
    by_cases c : n < 10
    · rw [dg_small n c]; simpa using hk
    · rw [dg_step n (by omega), List.length_append]
      have hk2 : 2 ≤ k := by
        rcases Nat.lt_or_ge k 2 with h2 | h2
        · obtain rfl : k = 1 := by omega
          omega
        · exact h2
      have := ih (n / 10) (by omega) (k - 1) (by omega) (by
        have e : 10 ^ k = 10 ^ (k - 1) * 10 := by rw [← Nat.pow_succ]; congr 1; omega
        omega)
      simp; omega
def txt (n : Int) : List UInt8 := if n < 0 then 45 :: dg n.natAbs else dg n.natAbs
theorem room_slice (B g : Nat) (hg : g ≤ 18) (w : World) :
    (Instr.sliceAt 69 (.pointer (some ⟨B, 0, none⟩)) (some (.int .i64 (g : Int))) none none).run Tryd.prog w = .ok (.slice (some ⟨B, g, none⟩) (19 - g) (19 - g)) w := by
  have e1 : Tryd.prog.arrayLen 69 = 19 := by kernel_rfl
  have h := run_sliceAt_array_l (P := Tryd.prog) w 69 ⟨B, 0, none⟩ (by kernel_rfl) .i64 (g : Int) (by omega) (by rw [e1]; omega)
  have e2 : ((Go.sizeOf (Tryd.prog.elem 69)).run Tryd.prog w) = .ok 1 w := by kernel_rfl
  rw [h, e2, e1]
  have : ¬ 19 = g := by omega
  simp [slicedAt, this, Addr.add]
  omega

/-- The room of 19 bytes: what lies behind place g, and that all of it may be written. -/
structure Room (w : World) (B g : Nat) (T : List UInt8) : Prop where
  len : T.length = 18 - g
  cells : ∀ k (hk : k < T.length), w.cell? ⟨B, g + 1 + k, none⟩ = some (.int .u8 (T[k].toNat : Int))
  there : ∀ k, k < 19 → ∃ v, w.cell? ⟨B, k, none⟩ = some v
  free : ∀ k, w.frozen? ⟨B, k, none⟩ = false

theorem Room.fresh (w : World) : Room (w.alloc (.cells #[.int .u8 0, .int .u8 0, .int .u8 0, .int .u8 0, .int .u8 0, .int .u8 0, .int .u8 0, .int .u8 0, .int .u8 0, .int .u8 0, .int .u8 0, .int .u8 0, .int .u8 0, .int .u8 0, .int .u8 0, .int .u8 0, .int .u8 0, .int .u8 0, .int .u8 0] 69)) w.heap.size 18 [] := by
  refine ⟨rfl, fun k hk => by simp at hk, fun k hk => ⟨.int .u8 0, ?_⟩, fun k => ?_⟩
  · match k, hk with
    | 0, _ | 1, _ | 2, _ | 3, _ | 4, _ | 5, _ | 6, _ | 7, _ | 8, _ | 9, _ | 10, _ | 11, _ | 12, _ | 13, _ | 14, _ | 15, _ | 16, _ | 17, _ | 18, _ => simp [go_sem]
    | n + 19, h => omega
  · simp [go_sem]

theorem Room.put {w : World} {B g m : Nat} {T : List UInt8} (h : Room w B g T) (hg : g ≤ 18) (hm : m < 10) :
    (∀ k (hk : k < (ch m :: T).length), (w.setCell ⟨B, g, none⟩ (.int .u8 (48 + (m : Int)))).cell? ⟨B, g + k, none⟩ = some (.int .u8 ((ch m :: T)[k].toNat : Int))) ∧
    (∀ k, k < 19 → ∃ v, (w.setCell ⟨B, g, none⟩ (.int .u8 (48 + (m : Int)))).cell? ⟨B, k, none⟩ = some v) ∧ (∀ k, (w.setCell ⟨B, g, none⟩ (.int .u8 (48 + (m : Int)))).frozen? ⟨B, k, none⟩ = false) := by
  obtain ⟨v, hv⟩ := h.there g (by omega)
  refine ⟨fun k hk => ?_, fun k hk => ?_, fun k => ?_⟩
  · cases k with
    | zero =>
      have e : (((ch m :: T)[0]'hk).toNat : Int) = 48 + (m : Int) := by
        show ((ch m).toNat : Int) = _
        rw [ch_toNat m hm]; omega
      rw [e]
      simp [go_sem, hv]
    | succ k =>
      have hk' : k < T.length := by simpa using hk
      have := h.cells k hk'
      have e : g + (k + 1) = g + 1 + k := by omega
      rw [e]
      simp [go_sem, this]
  · obtain ⟨u, hu⟩ := h.there k hk
    by_cases e : k = g
    · subst e
      exact ⟨.int .u8 (48 + (m : Int)), by simp [go_sem, hv]⟩
    · exact ⟨u, by simp [go_sem, hu]⟩
  · have := h.free k
    simp [go_sem, this]

theorem room_text {W : World} {B g : Nat} {L : List UInt8} (hl : L.length = 19 - g) (hc : ∀ k (hk : k < L.length), W.cell? ⟨B, g + k, none⟩ = some (.int .u8 (L[k].toNat : Int))) :
    (convert 52 9 (.slice (some ⟨B, g, none⟩) (19 - g) (19 - g))).run Tryd.prog W = .ok (.string ⟨L.toArray⟩) W := by
  have h := run_convert_bytes_back (P := Tryd.prog) W 52 9 5 ⟨B, g, none⟩ (19 - g) L Tryd.underlying52 Tryd.underlying5 Tryd.underlying9 (fun j hj => by rw [Go.WideShapes.add_plain]; exact hc j hj)
  rwa [hl] at h

theorem ret_str {a b : List UInt8} (h : a = b) : Ending.returned (.string ⟨a.toArray⟩) = .returned (.string ⟨b.toArray⟩) := by rw [h]

set_option maxHeartbeats 1000000 in
theorem digits_any (N : Nat) (hN : N ≤ 9223372036854775808) (w : World) :
    Calls Tryd.prog 49 #[.int .u64 (N : Int)] w fun e w' => e = .returned (.string ⟨(dg N).toArray⟩) ∧ Below w.heap.size w w' := by
  have HL : Hid ((dg N).length ≤ 19) := len_dg N 19 (by omega) (by omega)
  go_enter Tryd.func49, Tryd.ntmps49
  go_wp2
  go_loopw [0, 4, 5] (fun x f i wr => ∃ (m g : Nat) (T : List UInt8), m ≤ 9223372036854775808 ∧ g ≤ 18 ∧ x = .int .u64 (m : Int) ∧ f = .int .i64 ((g : Int) + 1) ∧ i = .int .i64 (18 - (g : Int)) ∧ Room wr w.heap.size g T ∧ Hid (dg N = dg m ++ T) ∧ Below w.heap.size w wr)
    (fun _ _ i _ => 19 - (intOf i).toNat)
  case atStart => exact ⟨N, 18, [], hN, by omega, rfl, rfl, rfl, Room.fresh w, by show _ = _; simp, (Below.refl _ _).alloc (Nat.le_refl _) _⟩
  case round =>
    obtain ⟨m, g, T, hm, hg, rfl, rfl, rfl, R, HE, KB⟩ := hrel
    obtain ⟨v, hc⟩ := R.there g (by omega)
    have hf := R.free g
    obtain ⟨d, hd⟩ : ∃ d : Nat, d = m % 10 := ⟨_, rfl⟩
    have hd10 : d < 10 := by omega
    have e1 : (m : Int) % 10 = (d : Int) := by omega
    obtain ⟨q, hq⟩ : ∃ q : Nat, q = m / 10 := ⟨_, rfl⟩
    have e2 : (m : Int) / 10 = (q : Int) := by omega
    have HD : Hid (d = m % 10) := hd
    have HQ : Hid (q = m / 10) := hq
    clear hd hq
    have P := R.put hg hd10
    have hlen : (ch d :: T).length = 19 - g := by have := R.len; simp; omega
    have hsl := fun wx => room_slice w.heap.size g hg wx
    have hcv := room_text hlen P.1
    by_cases c : q = 0
    · have hq0 : ((q : Int) == 0) = true := by simp; omega
      have HR : Hid (dg N = ch d :: T) := by
        have h1 := HE.out; have h2 := HD.out; have h3 := HQ.out
        show _ = _
        rw [h1, dg_small m (by omega), h2, Nat.mod_eq_of_lt (by omega)]
        rfl
      have HP : Hid _ := P
      clear P c
      go_wp2
      go_ret
      exact ⟨ret_str HR.out.symm, KB.setCell (p := ⟨w.heap.size, g, none⟩) (Nat.le_refl _) _⟩
    · have hq0 : ((q : Int) == 0) = false := by simp; omega
      have HR : Hid (dg N = dg q ++ (ch d :: T)) := by
        have h1 := HE.out; have h2 := HD.out; have h3 := HQ.out
        show _ = _
        rw [h1, dg_step m (by omega), ← h2, ← h3]
        simp
      have hg1 : 1 ≤ g := by
        have h1 := HR.out
        have h2 := HL.out
        rw [h1, List.length_append, hlen] at h2
        have h3 : (dg q).length ≠ 0 := fun h => dg_ne q (List.length_eq_zero_iff.1 h)
        omega
      have HP : Hid _ := P
      clear P c hcv hsl
      go_wp2
      go_roundw
      case rel =>
        have e3 : g - 1 + 1 = g := by omega
        refine ⟨q, g - 1, ch d :: T, by have := HQ.out; omega, by omega, rfl, by go_num, by go_num, ⟨by rw [hlen]; omega, ?_, HP.out.2.1, HP.out.2.2⟩, HR, KB.setCell (p := ⟨w.heap.size, g, none⟩) (Nat.le_refl _) _⟩
        rw [e3]
        exact HP.out.1
      case measure => simp [intOf]; omega

theorem u64_abs (n : Int) (h0 : n < 0) (h1 : -9223372036854775808 ≤ n) : IntKind.u64.wrap (-(IntKind.u64.wrap n)) = (n.natAbs : Int) := by
  rw [IntKind.wrap_u64, IntKind.wrap_u64]; omega

theorem text_plus (n : Int) (h0 : 0 ≤ n) (h1 : n ≤ 9223372036854775807) (w : World) :
    Calls Tryd.prog 38 #[.int .i64 n] w fun e w' => e = .returned (.string ⟨(dg n.natAbs).toArray⟩) ∧ Below w.heap.size w w' := by
  obtain ⟨N, rfl⟩ := Int.eq_ofNat_of_zero_le h0
  have H : Hid (∀ w, Calls Tryd.prog 49 #[.int .u64 (N : Int)] w fun e w' => e = .returned (.string ⟨(dg N).toArray⟩) ∧ Below w.heap.size w w') := fun w => digits_any N (by omega) w
  rw [Int.natAbs_natCast]
  go_enter Tryd.func38, Tryd.ntmps38
  go_wp2_with fail
  refine (H.out _).mono ?_; rintro e w1 ⟨rfl, k1⟩
  go_wp2_with fail
  go_ret
  exact ⟨rfl, k1⟩

theorem text_minus (n : Int) (h0 : n < 0) (h1 : -9223372036854775808 ≤ n) (w : World) :
    Calls Tryd.prog 38 #[.int .i64 n] w fun e w' => e = .returned (.string ⟨(45 :: dg n.natAbs).toArray⟩) ∧ Below w.heap.size w w' := by
  have ha := u64_abs n h0 h1
  have hN : n.natAbs ≤ 9223372036854775808 := by omega
  have HL : (dg n.natAbs).length ≤ 19 := len_dg _ 19 (by omega) (by omega)
  generalize n.natAbs = N at *
  have H : Hid (∀ w, Calls Tryd.prog 49 #[.int .u64 (N : Int)] w fun e w' => e = .returned (.string ⟨(dg N).toArray⟩) ∧ Below w.heap.size w w') := fun w => digits_any N hN w
  generalize dg N = L at *
  go_enter Tryd.func38, Tryd.ntmps38
  go_wp2_with fail
  refine (H.out _).mono ?_; rintro e w1 ⟨rfl, k1⟩
  go_wp2_with fail
  go_ret
  exact ⟨rfl, k1⟩

/-- num.Text answers the number's digits. -/
theorem text_any (n : Int) (hn : -9223372036854775808 ≤ n ∧ n ≤ 9223372036854775807) (w : World) :
    Calls Tryd.prog 38 #[.int .i64 n] w fun e w' => e = .returned (.string ⟨(txt n).toArray⟩) ∧ Below w.heap.size w w' := by
  unfold txt
  by_cases c : n < 0
  · rw [if_pos c]; exact text_minus n c hn.1 w
  · rw [if_neg c]; exact text_plus n (by omega) hn.2 w
end Go.Proofs.YtmjajlmknncggaaDoor.Num
