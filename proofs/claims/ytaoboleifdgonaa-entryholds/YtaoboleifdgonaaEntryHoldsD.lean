/- EntryHolds. -/
import Derived.Test.YtaoboleifdgonaaRows
import Derived.Test.YtaoboleifdgonaaEntryHoldsA
import Derived.WalkKit
import Derived.ProofKit
import Derived.OpenShut
import Derived.ShutString
import Derived.ChangeOld
import Derived.Below
import Derived.BigQuiet
import Derived.Deep.RegionHeld
namespace Go.Proofs.Ytaoboleifdgonaa.entryHolds
open Go.ChangeShapes Go.WideShapes Go.ChangeAt Go.RowKit
open Go.ChangeMaps (open_string shut_string)
set_option linter.unusedVariables false

set_option maxRecDepth 100000 in
set_option maxHeartbeats 8000000 in
theorem walk_not_read (a : Option Addr) (c n : Nat) (r : List V) (hn : r.length = n) (hl : n ≤ 1000) (id : Int) (sku : ByteArray) (loc : ByteArray) (qty : Int) (st : Int) (due : Int) (h1 : sku.size ≤ 200) (h2 : loc.size ≤ 200) (hown : ¬ ((sku.size ≤ 64 ∧ loc.size ≤ 64) ∧ ¬ (stT st).size = 0)) (y0 : Int) (y1 : ByteArray) (y2 : ByteArray) (y3 : Int) (y4 : Int) (y5 : Int) (hy : (fits r ∧ r = sixR stT y0 y1 y2 y3 y4 y5) ∧ ¬ (stT y4).size = 0) (w : World) (hr : Row w (.slice a r.length c) r)
    (HLt : Hid (∀ w', Row w' (.slice a r.length c) r → Calls Try.prog 16 #[.slice a n c] w' fun e w'' => e = .returned (.bool true) ∧ Below w'.heap.size w' w''))
    (HT1 : Hid (∀ w, Row w (.slice a r.length c) r → Calls Try.prog 22 #[.slice a n c] w fun e w' => e = .returned (.tuple #[.agg #[.int .i64 y0, .string y1, .string y2, .int .i64 y3, .int .i64 y4, .int .i64 y5], .int .i64 0]) ∧ Below w.heap.size w w'))
    (HT2 : Hid (∀ w, Row w (.slice a r.length c) r → Calls Try.prog 23 #[.slice a n c] w fun e w' => e = .returned (.tuple #[.agg #[.int .i64 y0, .string y1, .string y2, .int .i64 y3, .int .i64 y4, .int .i64 y5], .int .i64 0]) ∧ Below w.heap.size w w')) :
    Calls Try.prog 6 #[hh id sku loc qty st due, .slice a n c] w fun e w' => e = .returned (.bool true) ∧ Below w.heap.size w w' := by
  have i1 : ¬ 200 < (sku.size : Int) := by omega
  have i2 : ¬ 200 < (loc.size : Int) := by omega
  obtain ⟨m, R, hR⟩ : ∃ m R, R = sixR stT id sku loc qty st due ∧ R.length = m := ⟨_, _, rfl, rfl⟩
  have hRm : m ≤ 1000 ∧ ∀ x, x ∈ R → x.s.size ≤ 1000 := by have q := row_small id sku loc qty st due h1 h2; rw [← hR.1, hR.2] at q; exact q
  have HPR : Hid (∀ w, Calls Try.prog 24 #[hh id sku loc qty st due] w fun e w' => (∃ a c, e = .returned (.slice a m c) ∧ Row w' (.slice a R.length c) R) ∧ Below w.heap.size w w') := fun w => by
    have q := holdRow_is id sku loc qty st due w
    rw [← hR.1] at q
    refine q.mono ?_
    rintro e w' ⟨⟨ta, tc, rfl, R1⟩, kk⟩
    exact ⟨⟨ta, tc, by rw [hR.2], R1⟩, kk⟩
  have HRR : Hid (∀ w, Calls Try.prog 25 #[hh id sku loc qty st due] w fun e w' => (∃ a c, e = .returned (.slice a m c) ∧ Row w' (.slice a R.length c) R) ∧ Below w.heap.size w w') := fun w => by
    have q := refHoldRow_is id sku loc qty st due w
    rw [← hR.1] at q
    refine q.mono ?_
    rintro e w' ⟨⟨ta, tc, rfl, R1⟩, kk⟩
    exact ⟨⟨ta, tc, by rw [hR.2], R1⟩, kk⟩
  have HBK : Hid (∀ (ta : Option Addr) (tc : Nat) (w : World), Row w (.slice ta R.length tc) R → Calls Try.prog 22 #[.slice ta m tc] w fun e w' => e = .returned (.tuple #[.agg #[.int .i64 0, .string ⟨#[]⟩, .string ⟨#[]⟩, .int .i64 0, .int .i64 0, .int .i64 0], .int .i64 50]) ∧ Below w.heap.size w w') := fun ta tc w hq => by
    obtain ⟨vz, hv, H1, _⟩ := both ta tc m R hR.2 hRm.1 hRm.2
    have e : vz = .tuple #[.agg #[.int .i64 0, .string ⟨#[]⟩, .string ⟨#[]⟩, .int .i64 0, .int .i64 0, .int .i64 0], .int .i64 50] := (hv).one tells_state (by rw [hR.1]; exact back_no id sku loc qty st due hown)
    rw [e] at H1
    exact H1 w hq
  have HSM : Hid (∀ (ta tb : Option Addr) (tc td : Nat) (w : World), Row w (.slice ta R.length tc) R → Row w (.slice tb R.length td) R → Calls Try.prog 19 #[.slice ta m tc, .slice tb m td] w fun e w' => e = .returned (.bool true) ∧ Below w.heap.size w w') := fun ta tb tc td w q1 q2 => same_is ta tb tc td m R hR.2 (by have := hRm.1; omega) w q1 q2
  have HPY : Hid (∀ w, Calls Try.prog 24 #[.agg #[.int .i64 y0, .string y1, .string y2, .int .i64 y3, .int .i64 y4, .int .i64 y5]] w fun e w' => (∃ a c, e = .returned (.slice a n c) ∧ Row w' (.slice a r.length c) r) ∧ Below w.heap.size w w') := fun w => by
    have q := holdRow_is y0 y1 y2 y3 y4 y5 w
    rw [← hy.1.2] at q
    refine q.mono ?_
    rintro e w' ⟨⟨ta, tc, rfl, R1⟩, kk⟩
    exact ⟨⟨ta, tc, by rw [hn], R1⟩, kk⟩
  have HSY : Hid (∀ (ta : Option Addr) (tc : Nat) (w : World), Row w (.slice ta r.length tc) r → Row w (.slice a r.length c) r → Calls Try.prog 19 #[.slice ta n tc, .slice a n c] w fun e w' => e = .returned (.bool true) ∧ Below w.heap.size w w') := fun ta tc w q1 q2 => same_is ta a tc c n r hn (by omega) w q1 q2
  have HA : Hid _ := fun w => awakeE_is w
  have HR0 : Hid (Row w (.slice a r.length c) r) := hr
  have HM : Hid (m ≤ 1000) := hRm.1
  have HOW : Hid (¬ ((sku.size ≤ 64 ∧ loc.size ≤ 64) ∧ ¬ (stT st).size = 0)) := hown
  clear hr hn hR hRm hown hy
  go_enter Try.func6, Try.ntmps6
  go_wp2_with fail
  refine Calls.mono (HLt.out _ (HR0.out.next (below1 _ _))) ?_; rintro e w1 ⟨rfl, k1⟩
  have HX1 : Hid (CellsF w1 w.heap.size [.int .i64 id, .string sku, .string loc, .int .i64 qty, .int .i64 st, .int .i64 due]) := (CellsF.new w [.int .i64 id, .string sku, .string loc, .int .i64 qty, .int .i64 st, .int .i64 due] 44 (by simp)).next k1
  have HB1 : Hid (Below w.heap.size w w1) := Below.next (below1 _ _) k1
  clear k1
  go_wp2_with fail
  refine Calls.mono (HT1.out _ (HR0.out.next HB1.out)) ?_; rintro e w2 ⟨rfl, k2⟩
  have HA2 : Hid (CellsF (w2.alloc (.cells #[.int .i64 y0, .string y1, .string y2, .int .i64 y3, .int .i64 y4, .int .i64 y5] 44)) w2.heap.size [.int .i64 y0, .string y1, .string y2, .int .i64 y3, .int .i64 y4, .int .i64 y5]) := CellsF.new w2 [.int .i64 y0, .string y1, .string y2, .int .i64 y3, .int .i64 y4, .int .i64 y5] 44 (by simp)
  have HX2 : Hid (CellsF (w2.alloc (.cells #[.int .i64 y0, .string y1, .string y2, .int .i64 y3, .int .i64 y4, .int .i64 y5] 44)) w.heap.size [.int .i64 id, .string sku, .string loc, .int .i64 qty, .int .i64 st, .int .i64 due]) := (HX1.out.next k2).next (below1 _ _)
  have HB2 : Hid (Below w.heap.size w (w2.alloc (.cells #[.int .i64 y0, .string y1, .string y2, .int .i64 y3, .int .i64 y4, .int .i64 y5] 44))) := (Below.next HB1.out k2).alloc (Below.next HB1.out k2).size _
  clear k2
  go_wp2_with fail
  refine Calls.mono (HT2.out _ (HR0.out.next HB2.out)) ?_; rintro e w3 ⟨rfl, k3⟩
  have HA3 : Hid (CellsF (w3.alloc (.cells #[.int .i64 y0, .string y1, .string y2, .int .i64 y3, .int .i64 y4, .int .i64 y5] 44)) w2.heap.size [.int .i64 y0, .string y1, .string y2, .int .i64 y3, .int .i64 y4, .int .i64 y5]) := (HA2.out.next k3).next (below1 _ _)
  have HC3 : Hid (CellsF (w3.alloc (.cells #[.int .i64 y0, .string y1, .string y2, .int .i64 y3, .int .i64 y4, .int .i64 y5] 44)) w3.heap.size [.int .i64 y0, .string y1, .string y2, .int .i64 y3, .int .i64 y4, .int .i64 y5]) := CellsF.new w3 [.int .i64 y0, .string y1, .string y2, .int .i64 y3, .int .i64 y4, .int .i64 y5] 44 (by simp)
  have HX3 : Hid (CellsF (w3.alloc (.cells #[.int .i64 y0, .string y1, .string y2, .int .i64 y3, .int .i64 y4, .int .i64 y5] 44)) w.heap.size [.int .i64 id, .string sku, .string loc, .int .i64 qty, .int .i64 st, .int .i64 due]) := (HX2.out.next k3).next (below1 _ _)
  have HB3 : Hid (Below w.heap.size w (w3.alloc (.cells #[.int .i64 y0, .string y1, .string y2, .int .i64 y3, .int .i64 y4, .int .i64 y5] 44))) := (Below.next HB2.out k3).alloc (Below.next HB2.out k3).size _
  clear k3 HX1 HX2 HA2
  go_wp2_with fail
  obtain ⟨BA, hBA⟩ : ∃ BA, w2.heap.size = BA := ⟨_, rfl⟩
  obtain ⟨BB, hBB⟩ : ∃ BB, w3.heap.size = BB := ⟨_, rfl⟩
  obtain ⟨W, hW⟩ : ∃ W, w3.alloc (.cells #[.int .i64 y0, .string y1, .string y2, .int .i64 y3, .int .i64 y4, .int .i64 y5] 44) = W := ⟨_, rfl⟩
  rw [hBA] at HA3
  rw [hBB] at HC3
  rw [hW] at HA3 HC3 HX3 HB3
  have HNX : Hid (∀ w' w'' : World, (((Below w.heap.size w w' ∧ Row w' (.slice a r.length c) r) ∧ (CellsF w' w.heap.size [.int .i64 id, .string sku, .string loc, .int .i64 qty, .int .i64 st, .int .i64 due] ∧ CellsF w' BA [.int .i64 y0, .string y1, .string y2, .int .i64 y3, .int .i64 y4, .int .i64 y5] ∧ CellsF w' BB [.int .i64 y0, .string y1, .string y2, .int .i64 y3, .int .i64 y4, .int .i64 y5])) ∧ w'.cell? ⟨w.heap.size, 0, none⟩ = some (.int .i64 id) ∧ w'.cell? ⟨w.heap.size, 1, none⟩ = some (.string sku) ∧ w'.cell? ⟨w.heap.size, 2, none⟩ = some (.string loc) ∧ w'.cell? ⟨w.heap.size, 3, none⟩ = some (.int .i64 qty) ∧ w'.cell? ⟨w.heap.size, 4, none⟩ = some (.int .i64 st) ∧ w'.cell? ⟨w.heap.size, 5, none⟩ = some (.int .i64 due) ∧ w'.cell? ⟨BA, 0, none⟩ = some (.int .i64 y0) ∧ w'.cell? ⟨BA, 1, none⟩ = some (.string y1) ∧ w'.cell? ⟨BA, 2, none⟩ = some (.string y2) ∧ w'.cell? ⟨BA, 3, none⟩ = some (.int .i64 y3) ∧ w'.cell? ⟨BA, 4, none⟩ = some (.int .i64 y4) ∧ w'.cell? ⟨BA, 5, none⟩ = some (.int .i64 y5) ∧ w'.cell? ⟨BB, 0, none⟩ = some (.int .i64 y0) ∧ w'.cell? ⟨BB, 1, none⟩ = some (.string y1) ∧ w'.cell? ⟨BB, 2, none⟩ = some (.string y2) ∧ w'.cell? ⟨BB, 3, none⟩ = some (.int .i64 y3) ∧ w'.cell? ⟨BB, 4, none⟩ = some (.int .i64 y4) ∧ w'.cell? ⟨BB, 5, none⟩ = some (.int .i64 y5)) → Below w'.heap.size w' w'' → (((Below w.heap.size w w'' ∧ Row w'' (.slice a r.length c) r) ∧ (CellsF w'' w.heap.size [.int .i64 id, .string sku, .string loc, .int .i64 qty, .int .i64 st, .int .i64 due] ∧ CellsF w'' BA [.int .i64 y0, .string y1, .string y2, .int .i64 y3, .int .i64 y4, .int .i64 y5] ∧ CellsF w'' BB [.int .i64 y0, .string y1, .string y2, .int .i64 y3, .int .i64 y4, .int .i64 y5])) ∧ w''.cell? ⟨w.heap.size, 0, none⟩ = some (.int .i64 id) ∧ w''.cell? ⟨w.heap.size, 1, none⟩ = some (.string sku) ∧ w''.cell? ⟨w.heap.size, 2, none⟩ = some (.string loc) ∧ w''.cell? ⟨w.heap.size, 3, none⟩ = some (.int .i64 qty) ∧ w''.cell? ⟨w.heap.size, 4, none⟩ = some (.int .i64 st) ∧ w''.cell? ⟨w.heap.size, 5, none⟩ = some (.int .i64 due) ∧ w''.cell? ⟨BA, 0, none⟩ = some (.int .i64 y0) ∧ w''.cell? ⟨BA, 1, none⟩ = some (.string y1) ∧ w''.cell? ⟨BA, 2, none⟩ = some (.string y2) ∧ w''.cell? ⟨BA, 3, none⟩ = some (.int .i64 y3) ∧ w''.cell? ⟨BA, 4, none⟩ = some (.int .i64 y4) ∧ w''.cell? ⟨BA, 5, none⟩ = some (.int .i64 y5) ∧ w''.cell? ⟨BB, 0, none⟩ = some (.int .i64 y0) ∧ w''.cell? ⟨BB, 1, none⟩ = some (.string y1) ∧ w''.cell? ⟨BB, 2, none⟩ = some (.string y2) ∧ w''.cell? ⟨BB, 3, none⟩ = some (.int .i64 y3) ∧ w''.cell? ⟨BB, 4, none⟩ = some (.int .i64 y4) ∧ w''.cell? ⟨BB, 5, none⟩ = some (.int .i64 y5))) := fun w' w'' h q => by
    have hX := h.1.2.1.next q
    have hA := h.1.2.2.1.next q
    have hC := h.1.2.2.2.next q
    exact ⟨⟨⟨Below.next h.1.1.1 q, h.1.1.2.next q⟩, hX, hA, hC⟩, hX.cs 0 _ rfl, hX.cs 1 _ rfl, hX.cs 2 _ rfl, hX.cs 3 _ rfl, hX.cs 4 _ rfl, hX.cs 5 _ rfl, hA.cs 0 _ rfl, hA.cs 1 _ rfl, hA.cs 2 _ rfl, hA.cs 3 _ rfl, hA.cs 4 _ rfl, hA.cs 5 _ rfl, hC.cs 0 _ rfl, hC.cs 1 _ rfl, hC.cs 2 _ rfl, hC.cs 3 _ rfl, hC.cs 4 _ rfl, hC.cs 5 _ rfl⟩
  have HSD : Hid (∀ w', (((Below w.heap.size w w' ∧ Row w' (.slice a r.length c) r) ∧ (CellsF w' w.heap.size [.int .i64 id, .string sku, .string loc, .int .i64 qty, .int .i64 st, .int .i64 due] ∧ CellsF w' BA [.int .i64 y0, .string y1, .string y2, .int .i64 y3, .int .i64 y4, .int .i64 y5] ∧ CellsF w' BB [.int .i64 y0, .string y1, .string y2, .int .i64 y3, .int .i64 y4, .int .i64 y5])) ∧ w'.cell? ⟨w.heap.size, 0, none⟩ = some (.int .i64 id) ∧ w'.cell? ⟨w.heap.size, 1, none⟩ = some (.string sku) ∧ w'.cell? ⟨w.heap.size, 2, none⟩ = some (.string loc) ∧ w'.cell? ⟨w.heap.size, 3, none⟩ = some (.int .i64 qty) ∧ w'.cell? ⟨w.heap.size, 4, none⟩ = some (.int .i64 st) ∧ w'.cell? ⟨w.heap.size, 5, none⟩ = some (.int .i64 due) ∧ w'.cell? ⟨BA, 0, none⟩ = some (.int .i64 y0) ∧ w'.cell? ⟨BA, 1, none⟩ = some (.string y1) ∧ w'.cell? ⟨BA, 2, none⟩ = some (.string y2) ∧ w'.cell? ⟨BA, 3, none⟩ = some (.int .i64 y3) ∧ w'.cell? ⟨BA, 4, none⟩ = some (.int .i64 y4) ∧ w'.cell? ⟨BA, 5, none⟩ = some (.int .i64 y5) ∧ w'.cell? ⟨BB, 0, none⟩ = some (.int .i64 y0) ∧ w'.cell? ⟨BB, 1, none⟩ = some (.string y1) ∧ w'.cell? ⟨BB, 2, none⟩ = some (.string y2) ∧ w'.cell? ⟨BB, 3, none⟩ = some (.int .i64 y3) ∧ w'.cell? ⟨BB, 4, none⟩ = some (.int .i64 y4) ∧ w'.cell? ⟨BB, 5, none⟩ = some (.int .i64 y5)) → (((Below w.heap.size w w'.drew ∧ Row w'.drew (.slice a r.length c) r) ∧ (CellsF w'.drew w.heap.size [.int .i64 id, .string sku, .string loc, .int .i64 qty, .int .i64 st, .int .i64 due] ∧ CellsF w'.drew BA [.int .i64 y0, .string y1, .string y2, .int .i64 y3, .int .i64 y4, .int .i64 y5] ∧ CellsF w'.drew BB [.int .i64 y0, .string y1, .string y2, .int .i64 y3, .int .i64 y4, .int .i64 y5])) ∧ w'.drew.cell? ⟨w.heap.size, 0, none⟩ = some (.int .i64 id) ∧ w'.drew.cell? ⟨w.heap.size, 1, none⟩ = some (.string sku) ∧ w'.drew.cell? ⟨w.heap.size, 2, none⟩ = some (.string loc) ∧ w'.drew.cell? ⟨w.heap.size, 3, none⟩ = some (.int .i64 qty) ∧ w'.drew.cell? ⟨w.heap.size, 4, none⟩ = some (.int .i64 st) ∧ w'.drew.cell? ⟨w.heap.size, 5, none⟩ = some (.int .i64 due) ∧ w'.drew.cell? ⟨BA, 0, none⟩ = some (.int .i64 y0) ∧ w'.drew.cell? ⟨BA, 1, none⟩ = some (.string y1) ∧ w'.drew.cell? ⟨BA, 2, none⟩ = some (.string y2) ∧ w'.drew.cell? ⟨BA, 3, none⟩ = some (.int .i64 y3) ∧ w'.drew.cell? ⟨BA, 4, none⟩ = some (.int .i64 y4) ∧ w'.drew.cell? ⟨BA, 5, none⟩ = some (.int .i64 y5) ∧ w'.drew.cell? ⟨BB, 0, none⟩ = some (.int .i64 y0) ∧ w'.drew.cell? ⟨BB, 1, none⟩ = some (.string y1) ∧ w'.drew.cell? ⟨BB, 2, none⟩ = some (.string y2) ∧ w'.drew.cell? ⟨BB, 3, none⟩ = some (.int .i64 y3) ∧ w'.drew.cell? ⟨BB, 4, none⟩ = some (.int .i64 y4) ∧ w'.drew.cell? ⟨BB, 5, none⟩ = some (.int .i64 y5))) := fun w' h => HNX.out w' w'.drew h (Below.refl _ _).drew
  have HS0 : Hid (((Below w.heap.size w W ∧ Row W (.slice a r.length c) r) ∧ (CellsF W w.heap.size [.int .i64 id, .string sku, .string loc, .int .i64 qty, .int .i64 st, .int .i64 due] ∧ CellsF W BA [.int .i64 y0, .string y1, .string y2, .int .i64 y3, .int .i64 y4, .int .i64 y5] ∧ CellsF W BB [.int .i64 y0, .string y1, .string y2, .int .i64 y3, .int .i64 y4, .int .i64 y5])) ∧ W.cell? ⟨w.heap.size, 0, none⟩ = some (.int .i64 id) ∧ W.cell? ⟨w.heap.size, 1, none⟩ = some (.string sku) ∧ W.cell? ⟨w.heap.size, 2, none⟩ = some (.string loc) ∧ W.cell? ⟨w.heap.size, 3, none⟩ = some (.int .i64 qty) ∧ W.cell? ⟨w.heap.size, 4, none⟩ = some (.int .i64 st) ∧ W.cell? ⟨w.heap.size, 5, none⟩ = some (.int .i64 due) ∧ W.cell? ⟨BA, 0, none⟩ = some (.int .i64 y0) ∧ W.cell? ⟨BA, 1, none⟩ = some (.string y1) ∧ W.cell? ⟨BA, 2, none⟩ = some (.string y2) ∧ W.cell? ⟨BA, 3, none⟩ = some (.int .i64 y3) ∧ W.cell? ⟨BA, 4, none⟩ = some (.int .i64 y4) ∧ W.cell? ⟨BA, 5, none⟩ = some (.int .i64 y5) ∧ W.cell? ⟨BB, 0, none⟩ = some (.int .i64 y0) ∧ W.cell? ⟨BB, 1, none⟩ = some (.string y1) ∧ W.cell? ⟨BB, 2, none⟩ = some (.string y2) ∧ W.cell? ⟨BB, 3, none⟩ = some (.int .i64 y3) ∧ W.cell? ⟨BB, 4, none⟩ = some (.int .i64 y4) ∧ W.cell? ⟨BB, 5, none⟩ = some (.int .i64 y5)) := ⟨⟨⟨HB3.out, HR0.out.next HB3.out⟩, HX3.out, HA3.out, HC3.out⟩, HX3.out.cs 0 _ rfl, HX3.out.cs 1 _ rfl, HX3.out.cs 2 _ rfl, HX3.out.cs 3 _ rfl, HX3.out.cs 4 _ rfl, HX3.out.cs 5 _ rfl, HA3.out.cs 0 _ rfl, HA3.out.cs 1 _ rfl, HA3.out.cs 2 _ rfl, HA3.out.cs 3 _ rfl, HA3.out.cs 4 _ rfl, HA3.out.cs 5 _ rfl, HC3.out.cs 0 _ rfl, HC3.out.cs 1 _ rfl, HC3.out.cs 2 _ rfl, HC3.out.cs 3 _ rfl, HC3.out.cs 4 _ rfl, HC3.out.cs 5 _ rfl⟩
  have HE1 : Hid (∀ w', (((Below w.heap.size w w' ∧ Row w' (.slice a r.length c) r) ∧ (CellsF w' w.heap.size [.int .i64 id, .string sku, .string loc, .int .i64 qty, .int .i64 st, .int .i64 due] ∧ CellsF w' BA [.int .i64 y0, .string y1, .string y2, .int .i64 y3, .int .i64 y4, .int .i64 y5] ∧ CellsF w' BB [.int .i64 y0, .string y1, .string y2, .int .i64 y3, .int .i64 y4, .int .i64 y5])) ∧ w'.cell? ⟨w.heap.size, 0, none⟩ = some (.int .i64 id) ∧ w'.cell? ⟨w.heap.size, 1, none⟩ = some (.string sku) ∧ w'.cell? ⟨w.heap.size, 2, none⟩ = some (.string loc) ∧ w'.cell? ⟨w.heap.size, 3, none⟩ = some (.int .i64 qty) ∧ w'.cell? ⟨w.heap.size, 4, none⟩ = some (.int .i64 st) ∧ w'.cell? ⟨w.heap.size, 5, none⟩ = some (.int .i64 due) ∧ w'.cell? ⟨BA, 0, none⟩ = some (.int .i64 y0) ∧ w'.cell? ⟨BA, 1, none⟩ = some (.string y1) ∧ w'.cell? ⟨BA, 2, none⟩ = some (.string y2) ∧ w'.cell? ⟨BA, 3, none⟩ = some (.int .i64 y3) ∧ w'.cell? ⟨BA, 4, none⟩ = some (.int .i64 y4) ∧ w'.cell? ⟨BA, 5, none⟩ = some (.int .i64 y5) ∧ w'.cell? ⟨BB, 0, none⟩ = some (.int .i64 y0) ∧ w'.cell? ⟨BB, 1, none⟩ = some (.string y1) ∧ w'.cell? ⟨BB, 2, none⟩ = some (.string y2) ∧ w'.cell? ⟨BB, 3, none⟩ = some (.int .i64 y3) ∧ w'.cell? ⟨BB, 4, none⟩ = some (.int .i64 y4) ∧ w'.cell? ⟨BB, 5, none⟩ = some (.int .i64 y5)) → Calls Try.prog 24 #[hh id sku loc qty st due] w' fun e w'' => (∃ a c, e = .returned (.slice a m c) ∧ Row w'' (.slice a R.length c) R) ∧ (((Below w.heap.size w w'' ∧ Row w'' (.slice a r.length c) r) ∧ (CellsF w'' w.heap.size [.int .i64 id, .string sku, .string loc, .int .i64 qty, .int .i64 st, .int .i64 due] ∧ CellsF w'' BA [.int .i64 y0, .string y1, .string y2, .int .i64 y3, .int .i64 y4, .int .i64 y5] ∧ CellsF w'' BB [.int .i64 y0, .string y1, .string y2, .int .i64 y3, .int .i64 y4, .int .i64 y5])) ∧ w''.cell? ⟨w.heap.size, 0, none⟩ = some (.int .i64 id) ∧ w''.cell? ⟨w.heap.size, 1, none⟩ = some (.string sku) ∧ w''.cell? ⟨w.heap.size, 2, none⟩ = some (.string loc) ∧ w''.cell? ⟨w.heap.size, 3, none⟩ = some (.int .i64 qty) ∧ w''.cell? ⟨w.heap.size, 4, none⟩ = some (.int .i64 st) ∧ w''.cell? ⟨w.heap.size, 5, none⟩ = some (.int .i64 due) ∧ w''.cell? ⟨BA, 0, none⟩ = some (.int .i64 y0) ∧ w''.cell? ⟨BA, 1, none⟩ = some (.string y1) ∧ w''.cell? ⟨BA, 2, none⟩ = some (.string y2) ∧ w''.cell? ⟨BA, 3, none⟩ = some (.int .i64 y3) ∧ w''.cell? ⟨BA, 4, none⟩ = some (.int .i64 y4) ∧ w''.cell? ⟨BA, 5, none⟩ = some (.int .i64 y5) ∧ w''.cell? ⟨BB, 0, none⟩ = some (.int .i64 y0) ∧ w''.cell? ⟨BB, 1, none⟩ = some (.string y1) ∧ w''.cell? ⟨BB, 2, none⟩ = some (.string y2) ∧ w''.cell? ⟨BB, 3, none⟩ = some (.int .i64 y3) ∧ w''.cell? ⟨BB, 4, none⟩ = some (.int .i64 y4) ∧ w''.cell? ⟨BB, 5, none⟩ = some (.int .i64 y5)) ∧ Below w'.heap.size w' w'') := fun w' h => (HPR.out w').mono (by
    rintro e w'' ⟨q, kk⟩
    exact ⟨q, HNX.out _ _ h kk, kk⟩)
  have HE2 : Hid (∀ w', (((Below w.heap.size w w' ∧ Row w' (.slice a r.length c) r) ∧ (CellsF w' w.heap.size [.int .i64 id, .string sku, .string loc, .int .i64 qty, .int .i64 st, .int .i64 due] ∧ CellsF w' BA [.int .i64 y0, .string y1, .string y2, .int .i64 y3, .int .i64 y4, .int .i64 y5] ∧ CellsF w' BB [.int .i64 y0, .string y1, .string y2, .int .i64 y3, .int .i64 y4, .int .i64 y5])) ∧ w'.cell? ⟨w.heap.size, 0, none⟩ = some (.int .i64 id) ∧ w'.cell? ⟨w.heap.size, 1, none⟩ = some (.string sku) ∧ w'.cell? ⟨w.heap.size, 2, none⟩ = some (.string loc) ∧ w'.cell? ⟨w.heap.size, 3, none⟩ = some (.int .i64 qty) ∧ w'.cell? ⟨w.heap.size, 4, none⟩ = some (.int .i64 st) ∧ w'.cell? ⟨w.heap.size, 5, none⟩ = some (.int .i64 due) ∧ w'.cell? ⟨BA, 0, none⟩ = some (.int .i64 y0) ∧ w'.cell? ⟨BA, 1, none⟩ = some (.string y1) ∧ w'.cell? ⟨BA, 2, none⟩ = some (.string y2) ∧ w'.cell? ⟨BA, 3, none⟩ = some (.int .i64 y3) ∧ w'.cell? ⟨BA, 4, none⟩ = some (.int .i64 y4) ∧ w'.cell? ⟨BA, 5, none⟩ = some (.int .i64 y5) ∧ w'.cell? ⟨BB, 0, none⟩ = some (.int .i64 y0) ∧ w'.cell? ⟨BB, 1, none⟩ = some (.string y1) ∧ w'.cell? ⟨BB, 2, none⟩ = some (.string y2) ∧ w'.cell? ⟨BB, 3, none⟩ = some (.int .i64 y3) ∧ w'.cell? ⟨BB, 4, none⟩ = some (.int .i64 y4) ∧ w'.cell? ⟨BB, 5, none⟩ = some (.int .i64 y5)) → Calls Try.prog 25 #[hh id sku loc qty st due] w' fun e w'' => (∃ a c, e = .returned (.slice a m c) ∧ Row w'' (.slice a R.length c) R) ∧ (((Below w.heap.size w w'' ∧ Row w'' (.slice a r.length c) r) ∧ (CellsF w'' w.heap.size [.int .i64 id, .string sku, .string loc, .int .i64 qty, .int .i64 st, .int .i64 due] ∧ CellsF w'' BA [.int .i64 y0, .string y1, .string y2, .int .i64 y3, .int .i64 y4, .int .i64 y5] ∧ CellsF w'' BB [.int .i64 y0, .string y1, .string y2, .int .i64 y3, .int .i64 y4, .int .i64 y5])) ∧ w''.cell? ⟨w.heap.size, 0, none⟩ = some (.int .i64 id) ∧ w''.cell? ⟨w.heap.size, 1, none⟩ = some (.string sku) ∧ w''.cell? ⟨w.heap.size, 2, none⟩ = some (.string loc) ∧ w''.cell? ⟨w.heap.size, 3, none⟩ = some (.int .i64 qty) ∧ w''.cell? ⟨w.heap.size, 4, none⟩ = some (.int .i64 st) ∧ w''.cell? ⟨w.heap.size, 5, none⟩ = some (.int .i64 due) ∧ w''.cell? ⟨BA, 0, none⟩ = some (.int .i64 y0) ∧ w''.cell? ⟨BA, 1, none⟩ = some (.string y1) ∧ w''.cell? ⟨BA, 2, none⟩ = some (.string y2) ∧ w''.cell? ⟨BA, 3, none⟩ = some (.int .i64 y3) ∧ w''.cell? ⟨BA, 4, none⟩ = some (.int .i64 y4) ∧ w''.cell? ⟨BA, 5, none⟩ = some (.int .i64 y5) ∧ w''.cell? ⟨BB, 0, none⟩ = some (.int .i64 y0) ∧ w''.cell? ⟨BB, 1, none⟩ = some (.string y1) ∧ w''.cell? ⟨BB, 2, none⟩ = some (.string y2) ∧ w''.cell? ⟨BB, 3, none⟩ = some (.int .i64 y3) ∧ w''.cell? ⟨BB, 4, none⟩ = some (.int .i64 y4) ∧ w''.cell? ⟨BB, 5, none⟩ = some (.int .i64 y5)) ∧ Below w'.heap.size w' w'') := fun w' h => (HRR.out w').mono (by
    rintro e w'' ⟨q, kk⟩
    exact ⟨q, HNX.out _ _ h kk, kk⟩)
  have HE3 : Hid (∀ (ta tb : Option Addr) (tc td : Nat) (w' : World), (((Below w.heap.size w w' ∧ Row w' (.slice a r.length c) r) ∧ (CellsF w' w.heap.size [.int .i64 id, .string sku, .string loc, .int .i64 qty, .int .i64 st, .int .i64 due] ∧ CellsF w' BA [.int .i64 y0, .string y1, .string y2, .int .i64 y3, .int .i64 y4, .int .i64 y5] ∧ CellsF w' BB [.int .i64 y0, .string y1, .string y2, .int .i64 y3, .int .i64 y4, .int .i64 y5])) ∧ w'.cell? ⟨w.heap.size, 0, none⟩ = some (.int .i64 id) ∧ w'.cell? ⟨w.heap.size, 1, none⟩ = some (.string sku) ∧ w'.cell? ⟨w.heap.size, 2, none⟩ = some (.string loc) ∧ w'.cell? ⟨w.heap.size, 3, none⟩ = some (.int .i64 qty) ∧ w'.cell? ⟨w.heap.size, 4, none⟩ = some (.int .i64 st) ∧ w'.cell? ⟨w.heap.size, 5, none⟩ = some (.int .i64 due) ∧ w'.cell? ⟨BA, 0, none⟩ = some (.int .i64 y0) ∧ w'.cell? ⟨BA, 1, none⟩ = some (.string y1) ∧ w'.cell? ⟨BA, 2, none⟩ = some (.string y2) ∧ w'.cell? ⟨BA, 3, none⟩ = some (.int .i64 y3) ∧ w'.cell? ⟨BA, 4, none⟩ = some (.int .i64 y4) ∧ w'.cell? ⟨BA, 5, none⟩ = some (.int .i64 y5) ∧ w'.cell? ⟨BB, 0, none⟩ = some (.int .i64 y0) ∧ w'.cell? ⟨BB, 1, none⟩ = some (.string y1) ∧ w'.cell? ⟨BB, 2, none⟩ = some (.string y2) ∧ w'.cell? ⟨BB, 3, none⟩ = some (.int .i64 y3) ∧ w'.cell? ⟨BB, 4, none⟩ = some (.int .i64 y4) ∧ w'.cell? ⟨BB, 5, none⟩ = some (.int .i64 y5)) → Row w' (.slice ta R.length tc) R → Row w' (.slice tb R.length td) R → Calls Try.prog 19 #[.slice ta m tc, .slice tb m td] w' fun e w'' => e = .returned (.bool true) ∧ (((Below w.heap.size w w'' ∧ Row w'' (.slice a r.length c) r) ∧ (CellsF w'' w.heap.size [.int .i64 id, .string sku, .string loc, .int .i64 qty, .int .i64 st, .int .i64 due] ∧ CellsF w'' BA [.int .i64 y0, .string y1, .string y2, .int .i64 y3, .int .i64 y4, .int .i64 y5] ∧ CellsF w'' BB [.int .i64 y0, .string y1, .string y2, .int .i64 y3, .int .i64 y4, .int .i64 y5])) ∧ w''.cell? ⟨w.heap.size, 0, none⟩ = some (.int .i64 id) ∧ w''.cell? ⟨w.heap.size, 1, none⟩ = some (.string sku) ∧ w''.cell? ⟨w.heap.size, 2, none⟩ = some (.string loc) ∧ w''.cell? ⟨w.heap.size, 3, none⟩ = some (.int .i64 qty) ∧ w''.cell? ⟨w.heap.size, 4, none⟩ = some (.int .i64 st) ∧ w''.cell? ⟨w.heap.size, 5, none⟩ = some (.int .i64 due) ∧ w''.cell? ⟨BA, 0, none⟩ = some (.int .i64 y0) ∧ w''.cell? ⟨BA, 1, none⟩ = some (.string y1) ∧ w''.cell? ⟨BA, 2, none⟩ = some (.string y2) ∧ w''.cell? ⟨BA, 3, none⟩ = some (.int .i64 y3) ∧ w''.cell? ⟨BA, 4, none⟩ = some (.int .i64 y4) ∧ w''.cell? ⟨BA, 5, none⟩ = some (.int .i64 y5) ∧ w''.cell? ⟨BB, 0, none⟩ = some (.int .i64 y0) ∧ w''.cell? ⟨BB, 1, none⟩ = some (.string y1) ∧ w''.cell? ⟨BB, 2, none⟩ = some (.string y2) ∧ w''.cell? ⟨BB, 3, none⟩ = some (.int .i64 y3) ∧ w''.cell? ⟨BB, 4, none⟩ = some (.int .i64 y4) ∧ w''.cell? ⟨BB, 5, none⟩ = some (.int .i64 y5))) := fun ta tb tc td w' h q1 q2 => (HSM.out ta tb tc td w' q1 q2).mono (by
    rintro e w'' ⟨rfl, kk⟩
    exact ⟨rfl, HNX.out _ _ h kk⟩)
  try rw [hBA]
  try rw [hBB]
  try rw [hW]
  clear hBA hBB hW
  have hS0 := HS0.out
  go_region_held (fun (w' : World) => (((Below w.heap.size w w' ∧ Row w' (.slice a r.length c) r) ∧ (CellsF w' w.heap.size [.int .i64 id, .string sku, .string loc, .int .i64 qty, .int .i64 st, .int .i64 due] ∧ CellsF w' BA [.int .i64 y0, .string y1, .string y2, .int .i64 y3, .int .i64 y4, .int .i64 y5] ∧ CellsF w' BB [.int .i64 y0, .string y1, .string y2, .int .i64 y3, .int .i64 y4, .int .i64 y5])) ∧ w'.cell? ⟨w.heap.size, 0, none⟩ = some (.int .i64 id) ∧ w'.cell? ⟨w.heap.size, 1, none⟩ = some (.string sku) ∧ w'.cell? ⟨w.heap.size, 2, none⟩ = some (.string loc) ∧ w'.cell? ⟨w.heap.size, 3, none⟩ = some (.int .i64 qty) ∧ w'.cell? ⟨w.heap.size, 4, none⟩ = some (.int .i64 st) ∧ w'.cell? ⟨w.heap.size, 5, none⟩ = some (.int .i64 due) ∧ w'.cell? ⟨BA, 0, none⟩ = some (.int .i64 y0) ∧ w'.cell? ⟨BA, 1, none⟩ = some (.string y1) ∧ w'.cell? ⟨BA, 2, none⟩ = some (.string y2) ∧ w'.cell? ⟨BA, 3, none⟩ = some (.int .i64 y3) ∧ w'.cell? ⟨BA, 4, none⟩ = some (.int .i64 y4) ∧ w'.cell? ⟨BA, 5, none⟩ = some (.int .i64 y5) ∧ w'.cell? ⟨BB, 0, none⟩ = some (.int .i64 y0) ∧ w'.cell? ⟨BB, 1, none⟩ = some (.string y1) ∧ w'.cell? ⟨BB, 2, none⟩ = some (.string y2) ∧ w'.cell? ⟨BB, 3, none⟩ = some (.int .i64 y3) ∧ w'.cell? ⟨BB, 4, none⟩ = some (.int .i64 y4) ∧ w'.cell? ⟨BB, 5, none⟩ = some (.int .i64 y5))) (first | (with_reducible assumption) | (with_reducible exact HSD.out _ (by with_reducible assumption)))
    (first
    | ((with_reducible refine Calls.mono (HE1.out _ (by with_reducible assumption)) ?_); rintro e w5 ⟨⟨ta, tc, rfl, R1⟩, hS5, hk5⟩)
    | ((with_reducible refine Calls.mono (HE2.out _ (by with_reducible assumption)) ?_); rintro e w6 ⟨⟨tb, td, rfl, R2⟩, hS6, hk6⟩; have R1n := R1.next hk6)
    | ((with_reducible refine Calls.mono (HE3.out _ _ _ _ _ (by with_reducible assumption) (by with_reducible assumption) (by with_reducible assumption)) ?_); rintro e w7 ⟨rfl, hS7⟩))
  have hS8 : (((Below w.heap.size w w7 ∧ Row w7 (.slice a r.length c) r) ∧ (CellsF w7 w.heap.size [.int .i64 id, .string sku, .string loc, .int .i64 qty, .int .i64 st, .int .i64 due] ∧ CellsF w7 BA [.int .i64 y0, .string y1, .string y2, .int .i64 y3, .int .i64 y4, .int .i64 y5] ∧ CellsF w7 BB [.int .i64 y0, .string y1, .string y2, .int .i64 y3, .int .i64 y4, .int .i64 y5])) ∧ w7.cell? ⟨w.heap.size, 0, none⟩ = some (.int .i64 id) ∧ w7.cell? ⟨w.heap.size, 1, none⟩ = some (.string sku) ∧ w7.cell? ⟨w.heap.size, 2, none⟩ = some (.string loc) ∧ w7.cell? ⟨w.heap.size, 3, none⟩ = some (.int .i64 qty) ∧ w7.cell? ⟨w.heap.size, 4, none⟩ = some (.int .i64 st) ∧ w7.cell? ⟨w.heap.size, 5, none⟩ = some (.int .i64 due) ∧ w7.cell? ⟨BA, 0, none⟩ = some (.int .i64 y0) ∧ w7.cell? ⟨BA, 1, none⟩ = some (.string y1) ∧ w7.cell? ⟨BA, 2, none⟩ = some (.string y2) ∧ w7.cell? ⟨BA, 3, none⟩ = some (.int .i64 y3) ∧ w7.cell? ⟨BA, 4, none⟩ = some (.int .i64 y4) ∧ w7.cell? ⟨BA, 5, none⟩ = some (.int .i64 y5) ∧ w7.cell? ⟨BB, 0, none⟩ = some (.int .i64 y0) ∧ w7.cell? ⟨BB, 1, none⟩ = some (.string y1) ∧ w7.cell? ⟨BB, 2, none⟩ = some (.string y2) ∧ w7.cell? ⟨BB, 3, none⟩ = some (.int .i64 y3) ∧ w7.cell? ⟨BB, 4, none⟩ = some (.int .i64 y4) ∧ w7.cell? ⟨BB, 5, none⟩ = some (.int .i64 y5)) := by with_reducible assumption
  have HS8 : Hid (((Below w.heap.size w w7 ∧ Row w7 (.slice a r.length c) r) ∧ (CellsF w7 w.heap.size [.int .i64 id, .string sku, .string loc, .int .i64 qty, .int .i64 st, .int .i64 due] ∧ CellsF w7 BA [.int .i64 y0, .string y1, .string y2, .int .i64 y3, .int .i64 y4, .int .i64 y5] ∧ CellsF w7 BB [.int .i64 y0, .string y1, .string y2, .int .i64 y3, .int .i64 y4, .int .i64 y5])) ∧ w7.cell? ⟨w.heap.size, 0, none⟩ = some (.int .i64 id) ∧ w7.cell? ⟨w.heap.size, 1, none⟩ = some (.string sku) ∧ w7.cell? ⟨w.heap.size, 2, none⟩ = some (.string loc) ∧ w7.cell? ⟨w.heap.size, 3, none⟩ = some (.int .i64 qty) ∧ w7.cell? ⟨w.heap.size, 4, none⟩ = some (.int .i64 st) ∧ w7.cell? ⟨w.heap.size, 5, none⟩ = some (.int .i64 due) ∧ w7.cell? ⟨BA, 0, none⟩ = some (.int .i64 y0) ∧ w7.cell? ⟨BA, 1, none⟩ = some (.string y1) ∧ w7.cell? ⟨BA, 2, none⟩ = some (.string y2) ∧ w7.cell? ⟨BA, 3, none⟩ = some (.int .i64 y3) ∧ w7.cell? ⟨BA, 4, none⟩ = some (.int .i64 y4) ∧ w7.cell? ⟨BA, 5, none⟩ = some (.int .i64 y5) ∧ w7.cell? ⟨BB, 0, none⟩ = some (.int .i64 y0) ∧ w7.cell? ⟨BB, 1, none⟩ = some (.string y1) ∧ w7.cell? ⟨BB, 2, none⟩ = some (.string y2) ∧ w7.cell? ⟨BB, 3, none⟩ = some (.int .i64 y3) ∧ w7.cell? ⟨BB, 4, none⟩ = some (.int .i64 y4) ∧ w7.cell? ⟨BB, 5, none⟩ = some (.int .i64 y5)) := hS8
  clear hS0 hS5 hS6 hS7 hS8 R1 R2 R1n hk5 hk6
  obtain ⟨_, t0, t1, t2, t3, t4, t5, t6, t7, t8, t9, t10, t11, t12, t13, t14, t15, t16, t17⟩ := HS8.out
  go_wp2_with fail
  refine Calls.mono (HPR.out _) ?_; rintro e w8 ⟨⟨ta2, tc2, rfl, R8⟩, k8⟩
  have HS9 : Hid (((Below w.heap.size w w8 ∧ Row w8 (.slice a r.length c) r) ∧ (CellsF w8 w.heap.size [.int .i64 id, .string sku, .string loc, .int .i64 qty, .int .i64 st, .int .i64 due] ∧ CellsF w8 BA [.int .i64 y0, .string y1, .string y2, .int .i64 y3, .int .i64 y4, .int .i64 y5] ∧ CellsF w8 BB [.int .i64 y0, .string y1, .string y2, .int .i64 y3, .int .i64 y4, .int .i64 y5])) ∧ w8.cell? ⟨w.heap.size, 0, none⟩ = some (.int .i64 id) ∧ w8.cell? ⟨w.heap.size, 1, none⟩ = some (.string sku) ∧ w8.cell? ⟨w.heap.size, 2, none⟩ = some (.string loc) ∧ w8.cell? ⟨w.heap.size, 3, none⟩ = some (.int .i64 qty) ∧ w8.cell? ⟨w.heap.size, 4, none⟩ = some (.int .i64 st) ∧ w8.cell? ⟨w.heap.size, 5, none⟩ = some (.int .i64 due) ∧ w8.cell? ⟨BA, 0, none⟩ = some (.int .i64 y0) ∧ w8.cell? ⟨BA, 1, none⟩ = some (.string y1) ∧ w8.cell? ⟨BA, 2, none⟩ = some (.string y2) ∧ w8.cell? ⟨BA, 3, none⟩ = some (.int .i64 y3) ∧ w8.cell? ⟨BA, 4, none⟩ = some (.int .i64 y4) ∧ w8.cell? ⟨BA, 5, none⟩ = some (.int .i64 y5) ∧ w8.cell? ⟨BB, 0, none⟩ = some (.int .i64 y0) ∧ w8.cell? ⟨BB, 1, none⟩ = some (.string y1) ∧ w8.cell? ⟨BB, 2, none⟩ = some (.string y2) ∧ w8.cell? ⟨BB, 3, none⟩ = some (.int .i64 y3) ∧ w8.cell? ⟨BB, 4, none⟩ = some (.int .i64 y4) ∧ w8.cell? ⟨BB, 5, none⟩ = some (.int .i64 y5)) := HNX.out _ _ HS8.out k8
  have HBK8 : Hid _ := HBK.out ta2 tc2 w8 R8
  clear k8 R8 t0 t1 t2 t3 t4 t5 t6 t7 t8 t9 t10 t11 t12 t13 t14 t15 t16 t17
  go_wp2_with fail
  refine Calls.mono HBK8.out ?_; rintro e w9 ⟨rfl, k9⟩
  have k10 : Below w8.heap.size w8 (w9.alloc (.cells #[.int .i64 0, .string ⟨#[]⟩, .string ⟨#[]⟩, .int .i64 0, .int .i64 0, .int .i64 0] 44)) := k9.alloc k9.size _
  have HS10 : Hid (((Below w.heap.size w (w9.alloc (.cells #[.int .i64 0, .string ⟨#[]⟩, .string ⟨#[]⟩, .int .i64 0, .int .i64 0, .int .i64 0] 44)) ∧ Row (w9.alloc (.cells #[.int .i64 0, .string ⟨#[]⟩, .string ⟨#[]⟩, .int .i64 0, .int .i64 0, .int .i64 0] 44)) (.slice a r.length c) r) ∧ (CellsF (w9.alloc (.cells #[.int .i64 0, .string ⟨#[]⟩, .string ⟨#[]⟩, .int .i64 0, .int .i64 0, .int .i64 0] 44)) w.heap.size [.int .i64 id, .string sku, .string loc, .int .i64 qty, .int .i64 st, .int .i64 due] ∧ CellsF (w9.alloc (.cells #[.int .i64 0, .string ⟨#[]⟩, .string ⟨#[]⟩, .int .i64 0, .int .i64 0, .int .i64 0] 44)) BA [.int .i64 y0, .string y1, .string y2, .int .i64 y3, .int .i64 y4, .int .i64 y5] ∧ CellsF (w9.alloc (.cells #[.int .i64 0, .string ⟨#[]⟩, .string ⟨#[]⟩, .int .i64 0, .int .i64 0, .int .i64 0] 44)) BB [.int .i64 y0, .string y1, .string y2, .int .i64 y3, .int .i64 y4, .int .i64 y5])) ∧ (w9.alloc (.cells #[.int .i64 0, .string ⟨#[]⟩, .string ⟨#[]⟩, .int .i64 0, .int .i64 0, .int .i64 0] 44)).cell? ⟨w.heap.size, 0, none⟩ = some (.int .i64 id) ∧ (w9.alloc (.cells #[.int .i64 0, .string ⟨#[]⟩, .string ⟨#[]⟩, .int .i64 0, .int .i64 0, .int .i64 0] 44)).cell? ⟨w.heap.size, 1, none⟩ = some (.string sku) ∧ (w9.alloc (.cells #[.int .i64 0, .string ⟨#[]⟩, .string ⟨#[]⟩, .int .i64 0, .int .i64 0, .int .i64 0] 44)).cell? ⟨w.heap.size, 2, none⟩ = some (.string loc) ∧ (w9.alloc (.cells #[.int .i64 0, .string ⟨#[]⟩, .string ⟨#[]⟩, .int .i64 0, .int .i64 0, .int .i64 0] 44)).cell? ⟨w.heap.size, 3, none⟩ = some (.int .i64 qty) ∧ (w9.alloc (.cells #[.int .i64 0, .string ⟨#[]⟩, .string ⟨#[]⟩, .int .i64 0, .int .i64 0, .int .i64 0] 44)).cell? ⟨w.heap.size, 4, none⟩ = some (.int .i64 st) ∧ (w9.alloc (.cells #[.int .i64 0, .string ⟨#[]⟩, .string ⟨#[]⟩, .int .i64 0, .int .i64 0, .int .i64 0] 44)).cell? ⟨w.heap.size, 5, none⟩ = some (.int .i64 due) ∧ (w9.alloc (.cells #[.int .i64 0, .string ⟨#[]⟩, .string ⟨#[]⟩, .int .i64 0, .int .i64 0, .int .i64 0] 44)).cell? ⟨BA, 0, none⟩ = some (.int .i64 y0) ∧ (w9.alloc (.cells #[.int .i64 0, .string ⟨#[]⟩, .string ⟨#[]⟩, .int .i64 0, .int .i64 0, .int .i64 0] 44)).cell? ⟨BA, 1, none⟩ = some (.string y1) ∧ (w9.alloc (.cells #[.int .i64 0, .string ⟨#[]⟩, .string ⟨#[]⟩, .int .i64 0, .int .i64 0, .int .i64 0] 44)).cell? ⟨BA, 2, none⟩ = some (.string y2) ∧ (w9.alloc (.cells #[.int .i64 0, .string ⟨#[]⟩, .string ⟨#[]⟩, .int .i64 0, .int .i64 0, .int .i64 0] 44)).cell? ⟨BA, 3, none⟩ = some (.int .i64 y3) ∧ (w9.alloc (.cells #[.int .i64 0, .string ⟨#[]⟩, .string ⟨#[]⟩, .int .i64 0, .int .i64 0, .int .i64 0] 44)).cell? ⟨BA, 4, none⟩ = some (.int .i64 y4) ∧ (w9.alloc (.cells #[.int .i64 0, .string ⟨#[]⟩, .string ⟨#[]⟩, .int .i64 0, .int .i64 0, .int .i64 0] 44)).cell? ⟨BA, 5, none⟩ = some (.int .i64 y5) ∧ (w9.alloc (.cells #[.int .i64 0, .string ⟨#[]⟩, .string ⟨#[]⟩, .int .i64 0, .int .i64 0, .int .i64 0] 44)).cell? ⟨BB, 0, none⟩ = some (.int .i64 y0) ∧ (w9.alloc (.cells #[.int .i64 0, .string ⟨#[]⟩, .string ⟨#[]⟩, .int .i64 0, .int .i64 0, .int .i64 0] 44)).cell? ⟨BB, 1, none⟩ = some (.string y1) ∧ (w9.alloc (.cells #[.int .i64 0, .string ⟨#[]⟩, .string ⟨#[]⟩, .int .i64 0, .int .i64 0, .int .i64 0] 44)).cell? ⟨BB, 2, none⟩ = some (.string y2) ∧ (w9.alloc (.cells #[.int .i64 0, .string ⟨#[]⟩, .string ⟨#[]⟩, .int .i64 0, .int .i64 0, .int .i64 0] 44)).cell? ⟨BB, 3, none⟩ = some (.int .i64 y3) ∧ (w9.alloc (.cells #[.int .i64 0, .string ⟨#[]⟩, .string ⟨#[]⟩, .int .i64 0, .int .i64 0, .int .i64 0] 44)).cell? ⟨BB, 4, none⟩ = some (.int .i64 y4) ∧ (w9.alloc (.cells #[.int .i64 0, .string ⟨#[]⟩, .string ⟨#[]⟩, .int .i64 0, .int .i64 0, .int .i64 0] 44)).cell? ⟨BB, 5, none⟩ = some (.int .i64 y5)) := HNX.out _ _ HS9.out k10
  obtain ⟨_, t0, t1, t2, t3, t4, t5, t6, t7, t8, t9, t10, t11, t12, t13, t14, t15, t16, t17⟩ := HS10.out
  have HB10 : Hid (Below w.heap.size w (w9.alloc (.cells #[.int .i64 0, .string ⟨#[]⟩, .string ⟨#[]⟩, .int .i64 0, .int .i64 0, .int .i64 0] 44))) := HS10.out.1.1.1
  clear k9 k10
  by_cases b0 : sku.size ≤ 64
  · have e0 : (sku.size : Int) ≤ 64 := by omega
    by_cases b1 : loc.size ≤ 64
    · have e1 : (loc.size : Int) ≤ 64 := by omega
      by_cases b2 : 0 ≤ st
      · have e2 : 0 ≤ st := b2
        by_cases b3 : st ≤ 2
        · have e3 : st ≤ 2 := b3
          exact absurd (⟨⟨b0, b1⟩, by have e := Int.toNat_of_nonneg b2; rw [← e]; exact st_some st.toNat (by omega)⟩) HOW.out
        · have e3 : decide (st ≤ 2) = false := decide_eq_false (by omega)
          go_wp2_with fail
          refine Calls.mono (HPY.out _) ?_; rintro e w11 ⟨⟨ta3, tc3, rfl, R11⟩, k11⟩
          have HB11 : Hid (Below w.heap.size w w11) := Below.next HB10.out k11
          have HSY11 : Hid _ := HSY.out ta3 tc3 w11 R11 (HS10.out.1.1.2.next k11)
          clear k11 R11
          go_wp2_with fail
          refine Calls.mono HSY11.out ?_; rintro e w12 ⟨rfl, k12⟩
          have HB12 : Hid (Below w.heap.size w w12) := Below.next HB11.out k12
          clear k12
          go_wp2_with fail
          refine Calls.mono (HA.out _) ?_; rintro e w13 ⟨rfl, k13⟩
          have HB13 : Hid (Below w.heap.size w w13) := Below.next HB12.out k13
          clear k13
          go_wp2_with fail
          go_ret
          exact ⟨rfl, HB13.out⟩
      · have e2 : decide (0 ≤ st) = false := decide_eq_false (by omega)
        go_wp2_with fail
        refine Calls.mono (HPY.out _) ?_; rintro e w11 ⟨⟨ta3, tc3, rfl, R11⟩, k11⟩
        have HB11 : Hid (Below w.heap.size w w11) := Below.next HB10.out k11
        have HSY11 : Hid _ := HSY.out ta3 tc3 w11 R11 (HS10.out.1.1.2.next k11)
        clear k11 R11
        go_wp2_with fail
        refine Calls.mono HSY11.out ?_; rintro e w12 ⟨rfl, k12⟩
        have HB12 : Hid (Below w.heap.size w w12) := Below.next HB11.out k12
        clear k12
        go_wp2_with fail
        refine Calls.mono (HA.out _) ?_; rintro e w13 ⟨rfl, k13⟩
        have HB13 : Hid (Below w.heap.size w w13) := Below.next HB12.out k13
        clear k13
        go_wp2_with fail
        go_ret
        exact ⟨rfl, HB13.out⟩
    · have e1 : decide ((loc.size : Int) ≤ 64) = false := decide_eq_false (by omega)
      go_wp2_with fail
      refine Calls.mono (HPY.out _) ?_; rintro e w11 ⟨⟨ta3, tc3, rfl, R11⟩, k11⟩
      have HB11 : Hid (Below w.heap.size w w11) := Below.next HB10.out k11
      have HSY11 : Hid _ := HSY.out ta3 tc3 w11 R11 (HS10.out.1.1.2.next k11)
      clear k11 R11
      go_wp2_with fail
      refine Calls.mono HSY11.out ?_; rintro e w12 ⟨rfl, k12⟩
      have HB12 : Hid (Below w.heap.size w w12) := Below.next HB11.out k12
      clear k12
      go_wp2_with fail
      refine Calls.mono (HA.out _) ?_; rintro e w13 ⟨rfl, k13⟩
      have HB13 : Hid (Below w.heap.size w w13) := Below.next HB12.out k13
      clear k13
      go_wp2_with fail
      go_ret
      exact ⟨rfl, HB13.out⟩
  · have e0 : decide ((sku.size : Int) ≤ 64) = false := decide_eq_false (by omega)
    go_wp2_with fail
    refine Calls.mono (HPY.out _) ?_; rintro e w11 ⟨⟨ta3, tc3, rfl, R11⟩, k11⟩
    have HB11 : Hid (Below w.heap.size w w11) := Below.next HB10.out k11
    have HSY11 : Hid _ := HSY.out ta3 tc3 w11 R11 (HS10.out.1.1.2.next k11)
    clear k11 R11
    go_wp2_with fail
    refine Calls.mono HSY11.out ?_; rintro e w12 ⟨rfl, k12⟩
    have HB12 : Hid (Below w.heap.size w w12) := Below.next HB11.out k12
    clear k12
    go_wp2_with fail
    refine Calls.mono (HA.out _) ?_; rintro e w13 ⟨rfl, k13⟩
    have HB13 : Hid (Below w.heap.size w w13) := Below.next HB12.out k13
    clear k13
    go_wp2_with fail
    go_ret
    exact ⟨rfl, HB13.out⟩
end Go.Proofs.Ytaoboleifdgonaa.entryHolds
