/- EntryHolds. -/
import Derived.Test.YtaoboleifdgonaaRows
import Derived.Test.YtaoboleifdgonaaELight
import Derived.Test.YtaoboleifdgonaaEHoldB
import Derived.Test.YtaoboleifdgonaaEHoldC
import Derived.Test.YtaoboleifdgonaaEHoldD
import Derived.WalkKit
import Derived.ProofKit
import Derived.OpenShut
import Derived.ShutString
import Derived.ChangeOld
import Derived.Below
import Derived.BigQuiet
import Derived.Deep.RegionHeld
namespace Go.Proofs.Ytaoboleifdgonaa.entryHolds
open Go.ChangeShapes Go.WideShapes Go.ChangeAt Go.RowKit
open Go.ChangeMaps (open_string shut_string)
set_option linter.unusedVariables false

/-- Both readings of a row, as one. -/
theorem both (a : Option Addr) (c n : Nat) (r : List V) (hn : r.length = n) (hl : n ≤ 1000) (hs : ∀ x, x ∈ r → x.s.size ≤ 1000) : ∃ v, SixO stT r v ∧ (∀ w, Row w (.slice a r.length c) r → Calls Try.prog 22 #[.slice a n c] w fun e w' => e = .returned v ∧ Below w.heap.size w w') ∧ (∀ w, Row w (.slice a r.length c) r → Calls Try.prog 23 #[.slice a n c] w fun e w' => e = .returned v ∧ Below w.heap.size w w') := by
  have hex : ∃ v, SixO stT r v := by
    by_cases h : ∃ id sku loc qty st due, (fits r ∧ r = sixR stT id sku loc qty st due) ∧ ¬ (stT st).size = 0
    · obtain ⟨id, sku, loc, qty, st, due, e⟩ := h
      exact ⟨_, .inl ⟨id, sku, loc, qty, st, due, e, rfl⟩⟩
    · exact ⟨_, .inr ⟨h, rfl⟩⟩
  obtain ⟨v, hv⟩ := hex
  refine ⟨v, hv, fun w hr => (rowHold_is a c n r hn hl hs w hr).mono ?_, fun w hr => (refRowHold_is a c n r hn hl hs w hr).mono ?_⟩
  · rintro e w' ⟨⟨u, rfl, hu⟩, q⟩
    exact ⟨congrArg Ending.returned ((hu).one tells_state (hv)), q⟩
  · rintro e w' ⟨⟨u, rfl, hu⟩, q⟩
    exact ⟨congrArg Ending.returned ((hu).one tells_state (hv)), q⟩
theorem text_small (n : Int) : (stT n).size ≤ 8 := by
  unfold stT
  repeat (split; decide)
  decide
theorem or_small (n : Int) : (orNull n).s.size = 0 ∧ (orNull n).may := by
  unfold orNull
  split
  · exact ⟨rfl, .inl ⟨rfl, rfl, rfl⟩⟩
  · exact ⟨rfl, .inr (.inl ⟨rfl, rfl⟩)⟩
theorem row_fits (id : Int) (sku : ByteArray) (loc : ByteArray) (qty : Int) (st : Int) (due : Int) (hne : ¬ (stT st).size = 0) : fits (sixR stT id sku loc qty st due) ↔ sku.size ≤ 64 ∧ loc.size ≤ 64 := by
  rw [sixR_is hne]
  constructor
  · intro h
    have h0 := h ⟨2, 0, sku⟩ (by simp [sixL])
    have h1 := h ⟨2, 0, loc⟩ (by simp [sixL])
    have h0' : mayV 2 0 sku := h0
    have h1' : mayV 2 0 loc := h1
    unfold mayV at h0' h1'
    omega
  · intro h x hx
    simp only [sixL, List.mem_cons, List.mem_nil_iff, or_false] at hx
    rcases hx with rfl | rfl | rfl | rfl | rfl | rfl
    · exact .inr (.inl ⟨rfl, rfl⟩)
    · exact .inr (.inr (.inl ⟨rfl, rfl, h.1⟩))
    · exact .inr (.inr (.inl ⟨rfl, rfl, h.2⟩))
    · exact .inr (.inl ⟨rfl, rfl⟩)
    · exact .inr (.inr (.inl ⟨rfl, rfl, Nat.le_trans (text_small st) (by omega)⟩))
    · exact (or_small due).2
theorem back_yes (id : Int) (sku : ByteArray) (loc : ByteArray) (qty : Int) (st : Int) (due : Int) (h : (sku.size ≤ 64 ∧ loc.size ≤ 64) ∧ ¬ (stT st).size = 0) : SixO stT (sixR stT id sku loc qty st due) (.tuple #[hh id sku loc qty st due, .int .i64 0]) := .inl ⟨_, _, _, _, _, _, ⟨⟨(row_fits id sku loc qty st due h.2).2 h.1, rfl⟩, h.2⟩, rfl⟩
theorem back_no (id : Int) (sku : ByteArray) (loc : ByteArray) (qty : Int) (st : Int) (due : Int) (h : ¬ ((sku.size ≤ 64 ∧ loc.size ≤ 64) ∧ ¬ (stT st).size = 0)) : SixO stT (sixR stT id sku loc qty st due) (.tuple #[hh 0 ⟨#[]⟩ ⟨#[]⟩ 0 0 0, .int .i64 50]) := by
  refine .inr ⟨?_, rfl⟩
  rintro ⟨id', sku', loc', qty', st', due', ⟨hf, e⟩, ne⟩
  have ne2 : ¬ (stT st).size = 0 := fun q => by
    rw [sixR_is ne] at e
    unfold sixR at e
    rw [if_pos q] at e
    cases e
  exact h ⟨(row_fits id sku loc qty st due ne2).1 hf, ne2⟩
theorem row_small (id : Int) (sku : ByteArray) (loc : ByteArray) (qty : Int) (st : Int) (due : Int) (h1 : sku.size ≤ 200) (h2 : loc.size ≤ 200) : (sixR stT id sku loc qty st due).length ≤ 1000 ∧ ∀ x, x ∈ sixR stT id sku loc qty st due → x.s.size ≤ 1000 := by
  by_cases hne : (stT st).size = 0
  · have e : sixR stT id sku loc qty st due = [] := by unfold sixR; rw [if_pos hne]
    rw [e]
    exact ⟨Nat.zero_le _, fun x hx => by cases hx⟩
  · rw [sixR_is hne]
    refine ⟨by show 6 ≤ 1000; omega, fun x hx => ?_⟩
    simp only [sixL, List.mem_cons, List.mem_nil_iff, or_false] at hx
    rcases hx with rfl | rfl | rfl | rfl | rfl | rfl
    · exact Nat.zero_le _
    · show sku.size ≤ 1000; omega
    · show loc.size ≤ 1000; omega
    · exact Nat.zero_le _
    · exact Nat.le_trans (text_small st) (by omega)
    · rw [(or_small due).1]; exact Nat.zero_le _
end Go.Proofs.Ytaoboleifdgonaa.entryHolds
