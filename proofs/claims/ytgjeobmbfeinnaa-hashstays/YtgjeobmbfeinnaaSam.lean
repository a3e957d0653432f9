/- SameInts; what awake puts. -/
import Derived.Test.YtgjeobmbfeinnaaWit
namespace Go.Proofs.Ytgjeobmbfeinnaa
open Go.ChangeShapes Go.WideShapes Go.RowKit
set_option linter.unusedVariables false
set_option maxRecDepth 100000

set_option maxHeartbeats 1000000 in
theorem same_is (u v : Value) (l m : List Int) (hl : l.length ≤ 1000) (hm : m.length ≤ 1000) (w : World) (hu : Sl iv 1 w u l) (hv : Sl iv 1 w v m) :
    Calls Try.prog 12 #[u, v] w fun e w' => e = .returned (.bool (decide (l = m))) ∧ Below w.heap.size w w' := by
  have HU : Hid (Sl iv 1 w u l) := hu
  have HV : Hid (Sl iv 1 w v m) := hv
  obtain ⟨a, c, rfl, _, _, _⟩ := hu
  obtain ⟨a2, c2, rfl, _, _, _⟩ := hv
  by_cases hlen : l.length = m.length
  · obtain ⟨n, hn⟩ : ∃ n, l.length = n := ⟨_, rfl⟩
    have HL : Hid (l.length = n ∧ m.length = n) := ⟨hn, by rw [← hlen]; exact hn⟩
    rw [← hlen, hn] at HV ⊢
    rw [hn] at HU hl
    clear hlen hn hm
    go_enter Try.func12, Try.ntmps12
    go_wp2_with fail
    go_loopw [5] (fun vi wr => ∃ i : Nat, i ≤ n ∧ vi = .int .i64 i ∧ Hid (Below w.heap.size w wr) ∧ Hid (∀ j (h1 : j < l.length) (h2 : j < m.length), j < i → l[j] = m[j]))
      (fun vi _ => n - (intOf vi).toNat)
    case atStart => exact ⟨0, Nat.zero_le _, rfl, Below.refl _ _, fun j h1 h2 h => by omega⟩
    case round =>
      obtain ⟨i, hi, rfl, HB, HE⟩ := hrel
      by_cases hlt : i < n
      · have hlti : (i : Int) < (n : Int) := by omega
        have h1 : i < l.length := by have := HL.out.1; omega
        have h2 : i < m.length := by have := HL.out.2; omega
        obtain ⟨b, o, c', e1, _, _, hc1⟩ := (HU.out.next iv_ne HB.out).ints (fun e => by rw [e] at h1; simp at h1)
        obtain ⟨b2, o2, c2', e2, _, _, hc2⟩ := (HV.out.next iv_ne HB.out).ints (fun e => by rw [e] at h2; simp at h2)
        rw [HL.out.1] at e1
        rw [HL.out.2] at e2
        cases e1
        cases e2
        have y1 := hc1 i h1
        have y2 := hc2 i h2
        by_cases q : l[i] = m[i]
        · have HE2 : Hid (∀ j (h1 : j < l.length) (h2 : j < m.length), j < i + 1 → l[j] = m[j]) := fun j h1 h2 h => by
            by_cases e : j = i
            · subst e; exact q
            · exact HE.out j h1 h2 (by omega)
          rw [q] at y1
          generalize m[i] = z at *
          clear q hc1 hc2 h1 h2 HE
          have HBD : Hid (∀ n, Below w.heap.size w (wr.drewN n)) := fun n => ⟨HB.out.os, HB.out.tape, HB.out.output, HB.out.size, HB.out.block⟩
          go_wp2_with fail
          go_quiet (fail)
          all_goals go_wp2_with fail
          all_goals go_roundw
          case rel => exact ⟨i + 1, by omega, by go_num, HBD.out _, HE2.out⟩
          case measure => simp [intOf]; omega
        · have HF : Hid (decide (l = m) = false) := decide_eq_false (fun e => by subst e; exact q rfl)
          have qb : (l[i] == m[i]) = false := by simpa using q
          generalize l[i] = z1 at *
          generalize m[i] = z2 at *
          clear q hc1 hc2 h1 h2 HE
          have HBD : Hid (∀ n, Below w.heap.size w (wr.drewN n)) := fun n => ⟨HB.out.os, HB.out.tape, HB.out.output, HB.out.size, HB.out.block⟩
          go_wp2_with fail
          go_quiet (fail)
          go_wp2_with fail
          go_ret
          exact ⟨by rw [HF.out]; rfl, HBD.out _⟩
      · have hlti : ¬ (i : Int) < (n : Int) := by omega
        have HT : Hid (decide (l = m) = true) := decide_eq_true (List.ext_getElem (by rw [HL.out.1, HL.out.2]) (fun j h1 h2 => HE.out j h1 h2 (by have := HL.out.1; omega)))
        clear HE
        go_wp2_with fail
        go_ret
        exact ⟨by rw [HT.out]; rfl, HB.out⟩
  · have HF : Hid (decide (l = m) = false) := decide_eq_false (fun e => hlen (by rw [e]))
    have qb : ((l.length : Int) == (m.length : Int)) = false := by simp; omega
    clear hlen
    go_enter Try.func12, Try.ntmps12
    go_wp2_with fail
    go_ret
    exact ⟨by rw [HF.out]; rfl, Below.refl _ _⟩
def vA : Val := ⟨2, 0, ⟨#[97]⟩⟩
theorem vA_may : may vA := by decide
theorem vA_fit : vA.fit := by unfold Val.fit vA; decide
def aF : Val → List Int := upd (fun _ => []) vA [1, 3]
theorem ins_3 : ins 3 [] = [3] := by decide
theorem ins_1 : ins 1 [3] = [1, 3] := by decide
theorem del_3 : del 3 [1, 3] = [1] := by decide
theorem upd_upd (F : Val → List Int) (v : Val) (l m : List Int) : upd (upd F v l) v m = upd F v m := by
  funext u
  unfold upd
  split <;> rfl
theorem aw1 : wF (fun _ => []) vA 3 = upd (fun _ => []) vA [3] ∧ wC (fun _ => []) vA 3 0 = 1 ∧ wN (fun _ => []) vA 3 0 0 = 1 := by
  have h : isNew (fun _ => []) vA 3 := ⟨vA_may, by simp⟩
  refine ⟨?_, ?_, ?_⟩
  · unfold wF; rw [if_pos h, ins_3]
  · unfold wC; rw [if_pos h]
  · unfold wN; rw [if_pos ⟨h, rfl⟩]; rfl
theorem aw2 : wF (upd (fun _ => []) vA [3]) vA 1 = aF ∧ wC (upd (fun _ => []) vA [3]) vA 1 1 = 2 ∧ wN (upd (fun _ => []) vA [3]) vA 1 1 1 = 1 := by
  have h : isNew (upd (fun _ => []) vA [3]) vA 1 := ⟨vA_may, by rw [upd_same]; decide⟩
  refine ⟨?_, ?_, ?_⟩
  · unfold wF aF; rw [if_pos h, upd_same, ins_1, upd_upd]
  · unfold wC; rw [if_pos h]
  · unfold wN; rw [if_neg (fun q => by have := q.2; omega)]
theorem aw3 : wF aF vA 3 = aF ∧ wC aF vA 3 2 = 2 ∧ wN aF vA 3 2 1 = 1 := by
  have h : ¬ isNew aF vA 3 := fun q => q.2 (by unfold aF; rw [upd_same]; decide)
  refine ⟨?_, ?_, ?_⟩
  · unfold wF; rw [if_neg h]
  · unfold wC; rw [if_neg h]
  · unfold wN; rw [if_neg (fun q => h q.1)]
theorem aw4 : oF aF vA 3 vA = [1] ∧ aF vA = [1, 3] ∧ aF ⟨0, 0, ⟨#[]⟩⟩ = [] ∧ 3 ∈ aF vA := by
  have e : aF vA = [1, 3] := by unfold aF; rw [upd_same]
  have h : 3 ∈ aF vA := by rw [e]; decide
  refine ⟨?_, e, ?_, h⟩
  · unfold oF; rw [if_pos h, upd_same, e, del_3]
  · unfold aF; rw [upd_other _ _ (by unfold vA; simp)]
theorem aF_fit : ∀ v, aF v ≠ [] → v.fit := fun v hv => by
  unfold aF at hv
  by_cases e : v = vA
  · subst e; exact vA_fit
  · rw [upd_other _ _ e] at hv; exact absurd rfl hv
theorem sl_two (w : World) : Sl iv 1 (w.alloc (.cells #[.int .i64 1, .int .i64 3] 3)) (.slice (some ⟨w.heap.size, 0, none⟩) 2 2) [1, 3] := ⟨some ⟨w.heap.size, 0, none⟩, 2, rfl, rw_lit iv_len (CellsF.new w [.int .i64 1, .int .i64 3] 3 (by simp)), Nat.le_refl _, fun e => by cases e⟩
theorem sl_one (w : World) (n : Int) : Sl iv 1 (w.alloc (.cells #[.int .i64 n] 3)) (.slice (some ⟨w.heap.size, 0, none⟩) 1 1) [n] := ⟨some ⟨w.heap.size, 0, none⟩, 1, rfl, rw_lit iv_len (CellsF.new w [.int .i64 n] 3 (by simp)), Nat.le_refl _, fun e => by cases e⟩
end Go.Proofs.Ytgjeobmbfeinnaa
