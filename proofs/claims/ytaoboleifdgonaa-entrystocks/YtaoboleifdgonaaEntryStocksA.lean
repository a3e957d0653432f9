/- EntryStocks. -/
import Derived.Test.YtaoboleifdgonaaRows
import Derived.Test.YtaoboleifdgonaaELight
import Derived.Test.YtaoboleifdgonaaEStockA
import Derived.Test.YtaoboleifdgonaaEStockB
import Derived.WalkKit
import Derived.ProofKit
import Derived.OpenShut
import Derived.ShutString
import Derived.ChangeOld
import Derived.Below
import Derived.BigQuiet
import Derived.Deep.RegionHeld
namespace Go.Proofs.Ytaoboleifdgonaa.entryStocks
open Go.ChangeShapes Go.WideShapes Go.ChangeAt Go.RowKit
open Go.ChangeMaps (open_string shut_string)
set_option linter.unusedVariables false

/-- Both readings of a row, as one. -/
theorem both (a : Option Addr) (c n : Nat) (r : List V) (hn : r.length = n) (hl : n ≤ 1000) (hs : ∀ x, x ∈ r → x.s.size ≤ 1000) : ∃ v, StockO r v ∧ (∀ w, Row w (.slice a r.length c) r → Calls Try.prog 17 #[.slice a n c] w fun e w' => e = .returned v ∧ Below w.heap.size w w') ∧ (∀ w, Row w (.slice a r.length c) r → Calls Try.prog 18 #[.slice a n c] w fun e w' => e = .returned v ∧ Below w.heap.size w w') := by
  have hex : ∃ v, StockO r v := by
    by_cases h : ∃ sku loc u v, fits r ∧ r = stockR sku loc u v
    · obtain ⟨sku, loc, u, v, e⟩ := h
      exact ⟨_, .inl ⟨sku, loc, u, v, e, rfl⟩⟩
    · exact ⟨_, .inr ⟨h, rfl⟩⟩
  obtain ⟨v, hv⟩ := hex
  refine ⟨v, hv, fun w hr => (rowStock_is a c n r hn hl hs w hr).mono ?_, fun w hr => (refRowStock_is a c n r hn hl hs w hr).mono ?_⟩
  · rintro e w' ⟨⟨u, rfl, hu⟩, q⟩
    exact ⟨congrArg Ending.returned ((hu).one (hv)), q⟩
  · rintro e w' ⟨⟨u, rfl, hu⟩, q⟩
    exact ⟨congrArg Ending.returned ((hu).one (hv)), q⟩
theorem row_fits (sku loc : ByteArray) (u v : Int) : fits (stockR sku loc u v) ↔ sku.size ≤ 64 ∧ loc.size ≤ 64 := by
  constructor
  · intro h
    have h0 := h ⟨2, 0, sku⟩ (by simp [stockR])
    have h1 := h ⟨2, 0, loc⟩ (by simp [stockR])
    have h0' : mayV 2 0 sku := h0
    have h1' : mayV 2 0 loc := h1
    unfold mayV at h0' h1'
    omega
  · intro h x hx
    simp only [stockR, List.mem_cons, List.mem_nil_iff, or_false] at hx
    rcases hx with rfl | rfl | rfl | rfl
    · exact .inr (.inr (.inl ⟨rfl, rfl, h.1⟩))
    · exact .inr (.inr (.inl ⟨rfl, rfl, h.2⟩))
    · exact .inr (.inl ⟨rfl, rfl⟩)
    · exact .inr (.inl ⟨rfl, rfl⟩)
theorem back_yes (sku : ByteArray) (loc : ByteArray) (u : Int) (v : Int) (h : sku.size ≤ 64 ∧ loc.size ≤ 64) : StockO (stockR sku loc u v) (.tuple #[ss sku loc u v, .int .i64 0]) := .inl ⟨_, _, _, _, ⟨(row_fits sku loc u v).2 h, rfl⟩, rfl⟩
theorem back_no (sku : ByteArray) (loc : ByteArray) (u : Int) (v : Int) (h : ¬ (sku.size ≤ 64 ∧ loc.size ≤ 64)) : StockO (stockR sku loc u v) (.tuple #[ss ⟨#[]⟩ ⟨#[]⟩ 0 0, .int .i64 50]) := .inr ⟨fun ⟨_, _, _, _, hf, _⟩ => h ((row_fits sku loc u v).1 hf), rfl⟩
theorem row_small (sku : ByteArray) (loc : ByteArray) (u : Int) (v : Int) (h1 : sku.size ≤ 200) (h2 : loc.size ≤ 200) : (stockR sku loc u v).length ≤ 1000 ∧ ∀ x, x ∈ stockR sku loc u v → x.s.size ≤ 1000 := by
  refine ⟨by show 4 ≤ 1000; omega, fun x hx => ?_⟩
  simp only [stockR, List.mem_cons, List.mem_nil_iff, or_false] at hx
  rcases hx with rfl | rfl | rfl | rfl
  · show sku.size ≤ 1000; omega
  · show loc.size ≤ 1000; omega
  · exact Nat.zero_le _
  · exact Nat.zero_le _
end Go.Proofs.Ytaoboleifdgonaa.entryStocks
