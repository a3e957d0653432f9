/- total: all on hand of a sku. -/
import Derived.Test.YtbclddgicnaamaaMovP
import Derived.Test.YtbclddgicnaamaaRSums
namespace Go.Proofs.Ytbclddgicnaamaa
open Go.ChangeShapes Go.WideShapes Go.RowKit
set_option linter.unusedVariables false
set_option maxRecDepth 100000

set_option maxHeartbeats 4000000 in
theorem total_is (a0 : Option Addr) (n0 c0 : Nat) (a1 : Option Addr) (n1 c1 : Nat) (a2 : Option Addr) (n2 c2 : Nat) (ops : Int) (L : Led) (h0 : L.S.length = n0) (m0 : n0 ≤ 4096) (hf : L.fit) (s : ByteArray) (w : World) (hr : Rw stv 4 w a0 L.S) :
    Calls Try.prog 20 #[.agg #[.slice a0 n0 c0, .slice a1 n1 c1, .slice a2 n2 c2, .int .i64 ops], .string s] w fun e w' => e = .returned (.tuple #[.int .i64 (vl (tot L.S s)), .bool (er (tot L.S s) == 0)]) ∧ Below w.heap.size w w' := by
  obtain ⟨T, hT⟩ : ∃ T, tot L.S s = T := ⟨_, rfl⟩
  rw [hT]
  obtain ⟨tv, htv⟩ : ∃ tv, vl T = tv := ⟨_, rfl⟩
  obtain ⟨te, hte⟩ : ∃ te, er T = te := ⟨_, rfl⟩
  rw [htv, hte]
  have HTV : Hid (vl T = tv ∧ er T = te) := ⟨htv, hte⟩
  clear htv hte
  obtain ⟨W, hW⟩ : ∃ W, w.alloc (.cells #[.slice a0 n0 c0, .slice a1 n1 c1, .slice a2 n2 c2, .int .i64 ops] 26) = W := ⟨_, rfl⟩
  have hB : Below w.heap.size w W := hW ▸ below1 _ _
  have HL : Hid (L.S.length = n0 ∧ L.fit ∧ tot L.S s = T) := ⟨h0, hf, hT⟩
  have HR : Hid (Rw stv 4 W a0 L.S) := hr.next stv_ne hB
  have HB : Hid (Below w.heap.size w W) := hB
  have HC : Hid (CellsF W w.heap.size [.slice a0 n0 c0, .slice a1 n1 c1, .slice a2 n2 c2, .int .i64 ops]) := by show CellsF _ _ _; rw [← hW]; exact CellsF.at _ 26 (by simp) rfl
  clear hT h0 hf hr hB
  go_enter Try.func20, Try.ntmps20
  go_wp2_with fail
  try rw [hW]
  clear hW
  go_loopw [6, 7] (fun vq vi wr => ∃ (k : Nat) (o : Option Addr) (m c : Nat), k ≤ n0 ∧ vi = .int .i64 k ∧ vq = .slice o m c ∧ Hid (m = (totOf (L.S.take k) s).length ∧ IntsAt W.heap.size wr (.slice o m c) (totOf (L.S.take k) s) ∧ Below W.heap.size W wr))
    (fun _ vi _ => n0 - (intOf vi).toNat)
  case atStart => exact ⟨0, none, 0, 0, Nat.zero_le _, rfl, rfl, rfl, IntsAt.void _ _, Below.refl _ _⟩
  case round =>
    obtain ⟨k, o, m, c, hk, rfl, rfl, HI⟩ := hrel
    have l0 := (HC.out.next HI.out.2.2).cs 0 _ rfl
    by_cases hlt : k < n0
    · have hlti : (k : Int) < (n0 : Int) := by omega
      have hkl : k < L.S.length := by have := HL.out.1; omega
      obtain ⟨b, p, ha, hb, hc⟩ := HR.out.stk (fun e => by rw [e] at hkl; simp at hkl)
      have hx := (hc k hkl).next (HI.out.2.2.block b hb)
      have HSN : Hid _ := totOf_snoc L.S k hkl s
      have HLE : Hid ((totOf (L.S.take k) s).length ≤ 1000000) := by
        have h3 := totOf_le (L.S.take k) s
        have h4 : (L.S.take k).length ≤ 4096 := by rw [List.length_take]; omega
        show _ ≤ _
        omega
      generalize L.S[k] = x at hx HSN
      obtain ⟨xs, xl, xo, xh⟩ := x
      obtain ⟨x0, x1, x2, x3⟩ := hx
      dsimp only at x0 x1 x2 x3 HSN
      rw [ha] at l0
      clear hc hb
      by_cases q0 : xs = s
      · subst q0
        rw [if_pos rfl] at HSN
        obtain ⟨g, d, w3, RA, RI, RB⟩ := HI.out.2.1.more HI.out.1 HI.out.2.2.size xo HLE.out
        have HRA : Hid _ := RA
        have HRI : Hid (m + 1 = (totOf (L.S.take (k + 1)) xs).length ∧ IntsAt W.heap.size w3 (.slice (some ⟨g, 0, none⟩) (m + 1) d) (totOf (L.S.take (k + 1)) xs) ∧ Below W.heap.size W w3) := ⟨by rw [HSN.out, List.length_append, ← HI.out.1]; rfl, by rw [HSN.out]; exact RI, HI.out.2.2.trans RB⟩
        clear RA RI RB ha
        go_wp2_with (first | ((with_reducible apply st_append (x := .tmp 25)); (case ho => rfl); (case hgd => rfl); (case hr => exact HRA.out)))
        go_roundw
        case rel => exact ⟨k + 1, _, _, _, by omega, by go_num, rfl, HRI.out⟩
        case measure => simp [intOf]; omega
      · rw [if_neg q0, List.append_nil] at HSN
        have HNX : Hid (m = (totOf (L.S.take (k + 1)) s).length ∧ IntsAt W.heap.size wr (.slice o m c) (totOf (L.S.take (k + 1)) s) ∧ Below W.heap.size W wr) := by rw [HSN.out]; exact HI.out
        have b0 := byte_bne q0
        clear ha
        go_wp2_with fail
        go_roundw
        case rel => exact ⟨k + 1, _, _, _, by omega, by go_num, rfl, HNX.out⟩
        case measure => simp [intOf]; omega
    · have hlti : ¬ (k : Int) < (n0 : Int) := by omega
      have hall : L.S.take k = L.S := List.take_of_length_le (by have := HL.out.1; omega)
      have hi := HI.out
      rw [hall] at hi
      have HS1 : Hid (Calls Try.prog 36 #[.slice o m c] wr fun e w' => e = .returned (.tuple #[.int .i64 tv, .int .i64 te]) ∧ Below wr.heap.size wr w') := by
        have h9 := refSum_own (.slice o m c) _ wr hi.2.1.own (by have h3 := totOf_le L.S s; have := HL.out.1; omega) (totOf_fit HL.out.2.1.S s)
        have e9 : (totOf L.S s).sum = T := HL.out.2.2
        rw [e9, HTV.out.1, HTV.out.2] at h9
        exact h9
      have HBF : Hid (∀ w', Below wr.heap.size wr w' → Below w.heap.size w w') := fun w' q => Below.next (Below.next HB.out HI.out.2.2) q
      clear hi hall HI
      go_wp2_with fail
      refine Calls.mono HS1.out ?_; rintro e w5 ⟨rfl, k5⟩
      have HF : Hid (Below w.heap.size w w5) := HBF.out _ k5
      clear k5
      go_wp2_with fail
      go_ret2
      exact ⟨rfl, HF.out⟩
end Go.Proofs.Ytbclddgicnaamaa
