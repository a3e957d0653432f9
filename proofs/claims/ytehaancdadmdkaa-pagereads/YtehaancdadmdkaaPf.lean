/- PageFull: its cells. -/
import Derived.Test.YtehaancdadmdkaaAw
namespace Go.Proofs.Ytehaancdadmdkaa
open Go.ChangeShapes Go.WideShapes Go.ChangeAt Go.RowKit
set_option linter.unusedVariables false
set_option maxRecDepth 100000

/-- PageFull's cells: c of them, of n bytes each. -/
def fc (n i : Nat) : Cel := ([107, UInt8.ofNat i], List.replicate (n - 2) 0)
def full (n : Nat) : Nat → List Cel
  | 0 => []
  | c + 1 => full n c ++ [fc n c]
theorem full_len (n c : Nat) : (full n c).length = c := by
  induction c with
  | zero => rfl
  | succ c ih => unfold full; rw [List.length_append, ih]; rfl
theorem fc_sz (n i : Nat) (h : 2 ≤ n) : csz (fc n i) = n := by
  unfold csz fc
  simp only [List.length_cons, List.length_nil, List.length_replicate]
  omega
theorem full_tot (n c : Nat) (h : 2 ≤ n) : tot (full n c) = c * n := by
  induction c with
  | zero => rw [Nat.zero_mul]; rfl
  | succ c ih =>
    unfold full
    rw [tot_append, ih, Nat.succ_mul]
    show c * n + (csz (fc n c) + 0) = _
    rw [fc_sz n c h]
    omega
theorem full_get (n c x : Nat) (hx : x < (full n c).length) : (full n c)[x] = fc n x := by
  induction c with
  | zero => exact absurd hx (Nat.not_lt_zero _)
  | succ c ih =>
    have hl := full_len n c
    have hx' : x < (full n c ++ [fc n c]).length := hx
    show (full n c ++ [fc n c])[x]'hx' = _
    rw [List.length_append, hl] at hx'
    rcases Nat.lt_or_ge x c with h | h
    · rw [List.getElem_append_left (by omega)]
      exact ih (by omega)
    · have : x = c := by
        have : [fc n c].length = 1 := rfl
        omega
      subst this
      rw [List.getElem_append_right (by omega)]
      simp [hl]
theorem full_mem (n c : Nat) (x : Cel) (h : x ∈ full n c) : ∃ i, x = fc n i := by
  induction c with
  | zero => cases h
  | succ c ih =>
    unfold full at h
    rcases List.mem_append.1 h with h | h
    · exact ih h
    · exact ⟨c, List.mem_singleton.1 h⟩
theorem full_ok (n c : Nat) (h1 : 2 ≤ n) (h2 : n ≤ 100) (h3 : 8 + 2 * c + c * n ≤ 256) : okC (full n c) := by
  refine ⟨fun x hx => ?_, by rw [full_len, full_tot n c h1]; exact h3⟩
  obtain ⟨i, rfl⟩ := full_mem n c x hx
  rw [fc_sz n i h1]
  exact ⟨by simp [fc], by simp [fc], h2⟩
theorem key_less (i j : Nat) (h : i < j) (hj : j < 256) : Op.bytesLess [107, UInt8.ofNat i] [107, UInt8.ofNat j] = true := by
  have : UInt8.ofNat i < UInt8.ofNat j := by
    rw [UInt8.lt_iff_toNat_lt, UInt8.toNat_ofNat', UInt8.toNat_ofNat']
    omega
  simp [Op.bytesLess, this]
theorem full_ris (n c : Nat) (h : c ≤ 256) : ris (full n c) := fun i j hi hj hij => by
  rw [full_get n c i hi, full_get n c j hj]
  rw [full_len] at hj
  exact key_less i j hij (by omega)
theorem full_find (n c i k : Nat) (b : Bool) (hc : c ≤ i) (hi : i < 256) (h : FindO (full n c) [107, UInt8.ofNat i] k b) : k = c ∧ b = false := by
  obtain ⟨h1, h2, h3, h4⟩ := h
  rw [full_len] at h1
  have hk : k = c := by
    rcases Nat.lt_or_ge k c with hlt | hge
    · have hl : k < (full n c).length := by rw [full_len]; exact hlt
      have := h3 k hl (Nat.le_refl _)
      rw [full_get n c k hl] at this
      have := (key_less k i (by omega) hi).symm.trans this
      cases this
    · omega
  refine ⟨hk, ?_⟩
  cases b with
  | false => rfl
  | true =>
    obtain ⟨hl, _⟩ := h4.1 rfl
    rw [full_len] at hl
    omega
theorem full_put (n c i : Nat) : putC (full n c) c c (fc n i) = full n c ++ [fc n i] := by
  have hl := full_len n c
  unfold putC
  rw [List.take_of_length_le (by omega), List.drop_eq_nil_of_le (by omega)]
  rfl
/-- Free, of such a page. -/
theorem full_free {w : World} {p n c : Nat} (h : Pg w p (lay 2 (full n c))) (h1 : 2 ≤ n) (h2 : n ≤ 100) (h3 : 8 + 2 * c + c * n ≤ 256) : Calls Try.prog 23 #[.pointer (some ⟨p, 0, none⟩)] w fun e w' => e = .returned (.int .i64 (max ((248 : Int) - ((c * n + 2 * c : Nat) : Int) - 2) 0)) ∧ Kept (fun _ => False) w w' := by
  have hok := full_ok n c h1 h2 h3
  have ec := lay_count 2 _ hok
  have ee := endAll 2 _ hok
  rw [full_len] at ec ee
  rw [full_tot n c h1] at ee
  have := free_is h (by rw [lay_kind]; decide) (by rw [ec]; omega)
  rw [ec, ee] at this
  have en : ((256 - c * n : Nat) : Int) - ((8 + 2 * c : Nat) : Int) - 2 = (248 : Int) - ((c * n + 2 * c : Nat) : Int) - 2 := by
    generalize c * n = z at *
    omega
  rw [en] at this
  exact this.mono fun e w' ⟨q1, m, q2⟩ => ⟨q1, by rw [q2]; exact (Kept.refl _ _).drewN m⟩
/-- Put, of the next cell. -/
theorem full_add {w : World} {p n c : Nat} (i : Nat) (h : Pg w p (lay 2 (full n c))) (h1 : 3 ≤ n) (h2 : n ≤ 100) (h3 : 8 + 2 * c + c * n ≤ 256) (hc : c ≤ i) (hi : i < 128) (val : ByteArray) (hv : val.data.toList = List.replicate (n - 2) 0) : Calls Try.prog 24 #[.pointer (some ⟨p, 0, none⟩), .string ⟨#[107, UInt8.ofNat i]⟩, .string val] w fun e w' =>
    (256 < 8 + 2 * (c + 1) + (c + 1) * n ∧ e = .returned (.int .i64 2) ∧ Pg w' p (lay 2 (full n c)) ∧ Kept (fun _ => False) w w') ∨
    (8 + 2 * (c + 1) + (c + 1) * n ≤ 256 ∧ e = .returned (.int .i64 0) ∧ Pg w' p (lay 2 (full n c ++ [fc n i])) ∧ Kept (fun k => k = p) w w') := by
  have hok := full_ok n c (by omega) h2 h3
  have hl : val.size = n - 2 := by
    have : val.data.toList.length = n - 2 := by rw [hv, List.length_replicate]
    rw [← this]
    simp
  have hcc : c ≤ 256 := by omega
  refine (pput_is h hok (full_ris n c hcc) (by decide) ⟨#[107, UInt8.ofNat i]⟩ val (by show 2 ≤ _; omega) (by omega)).mono ?_
  intro e w' hE
  have hkey : (⟨#[107, UInt8.ofNat i]⟩ : ByteArray).data.toList = [107, UInt8.ofNat i] := rfl
  have hcel : ((⟨#[107, UInt8.ofNat i]⟩ : ByteArray).data.toList, val.data.toList) = fc n i := by rw [hv]; rfl
  rcases hE with ⟨hm, _⟩ | ⟨hm, k, b, hf, hE⟩
  · exfalso
    apply hm
    refine ⟨by show 1 ≤ 2; omega, by show 2 ≤ 80; omega, ?_⟩
    show 2 + val.size ≤ 100
    omega
  · rw [hkey] at hf
    obtain ⟨rfl, rfl⟩ := full_find n c i k b hc (by omega) hf
    rw [hcel] at hE
    simp only [Bool.false_eq_true, if_false] at hE
    rw [full_put] at hE
    have e1 : (full n k ++ [fc n i]).length = k + 1 := by rw [List.length_append, full_len]; rfl
    have e2 : tot (full n k ++ [fc n i]) = (k + 1) * n := by
      rw [tot_append, full_tot n k (by omega), Nat.succ_mul]
      show k * n + (csz (fc n i) + 0) = _
      rw [fc_sz n i (by omega)]
      omega
    rw [e1, e2] at hE
    exact hE
end Go.Proofs.Ytehaancdadmdkaa
