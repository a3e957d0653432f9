/- entry: RowHold. -/
import Derived.Test.YtaoboleifdgonaaESpec
import Derived.Test.YtaoboleifdgonaaEHoldA
import Derived.Deep.RegionHeld
import Derived.BigQuiet
namespace Go.Proofs.Ytaoboleifdgonaa
open Go.ChangeShapes Go.WideShapes Go.RowKit
set_option linter.unusedVariables false
set_option maxRecDepth 100000

set_option maxHeartbeats 4000000 in
theorem rowHold_is (a : Option Addr) (c n : Nat) (r : List V) (hn : r.length = n) (hl : n ≤ 1000) (hs : ∀ x, x ∈ r → x.s.size ≤ 1000) (w : World) (hr : Row w (.slice a r.length c) r) : Calls Try.prog 22 #[.slice a n c] w fun e w' => (∃ v, e = .returned v ∧ SixO stT r v) ∧ Below w.heap.size w w' := by
  have HN : Hid (r.length = n) := hn
  have HNO : Hid ((¬ ∃ id sku loc qty st due, (fits r ∧ r = sixR stT id sku loc qty st due) ∧ ¬ (stT st).size = 0) → ∀ v, v = (.tuple #[.agg ([.int .i64 0, .string ⟨#[]⟩, .string ⟨#[]⟩, .int .i64 0, .int .i64 0, .int .i64 0] : List Value).toArray, .int .i64 50] : Value) → SixO stT r v) := fun h v e => .inr ⟨h, e⟩
  by_cases h7 : n = 6
  · subst h7
    obtain ⟨x0, x1, x2, x3, x4, x5, hx⟩ := six_of r hn
    have HRX : Hid (r = [x0, x1, x2, x3, x4, x5]) := hx
    rw [hn] at hr
    rw [hx] at hr hs
    have HR : Hid (Row w (.slice a 6 c) [x0, x1, x2, x3, x4, x5]) := hr
    have HSA : Hid (∀ x, x ∈ [x0, x1, x2, x3, x4, x5] → x.s.size ≤ 9223372036854775807) := fun x q => by have := hs x q; omega
    obtain ⟨b, o, rfl, c0, c1, c2, c3, c4, c5⟩ := row6 hr
    have hb : b < w.heap.size := World.block_lt_of_cell? w _ c0
    clear hx hr hs hn
    obtain ⟨st, hst⟩ : ∃ st, toldF stT [0, 1, 2] x4.s = st := ⟨_, rfl⟩
    have HIFF : Hid ((∃ id sku loc qty st due, (fits r ∧ r = sixR stT id sku loc qty st due) ∧ ¬ (stT st).size = 0) ↔ fits [x0, x1, x2, x3, x4, x5] ∧ [x0, x1, x2, x3, x4, x5] = sixR stT x0.n x1.s x2.s x3.n st x5.n) := by have := six_iff tells_state (x0 := x0) (x1 := x1) (x2 := x2) (x3 := x3) (x4 := x4) (x5 := x5); rw [hst, ← HRX.out] at this; rw [← HRX.out]; exact this
    have HOF : Hid (∀ w', (Below w.heap.size w w' ∧ CellsF w' w.heap.size [.int .i64 0, .string ⟨#[]⟩, .string ⟨#[]⟩, .int .i64 0, .int .i64 0, .int .i64 0]) ∧ w'.cell? ⟨b, o + 1, none⟩ = some (.int .i64 x0.n) ∧ w'.cell? ⟨b, o + 5, none⟩ = some (.string x1.s) ∧ w'.cell? ⟨b, o + 8, none⟩ = some (.string x2.s) ∧ w'.cell? ⟨b, o + 10, none⟩ = some (.int .i64 x3.n) ∧ w'.cell? ⟨b, o + 14, none⟩ = some (.string x4.s) ∧ w'.cell? ⟨b, o + 16, none⟩ = some (.int .i64 x5.n) → Calls Try.prog 44 #[.string x4.s] w' fun e w'' => e = .returned (.int .i64 st) ∧ ((Below w.heap.size w w'' ∧ CellsF w'' w.heap.size [.int .i64 0, .string ⟨#[]⟩, .string ⟨#[]⟩, .int .i64 0, .int .i64 0, .int .i64 0]) ∧ w''.cell? ⟨b, o + 1, none⟩ = some (.int .i64 x0.n) ∧ w''.cell? ⟨b, o + 5, none⟩ = some (.string x1.s) ∧ w''.cell? ⟨b, o + 8, none⟩ = some (.string x2.s) ∧ w''.cell? ⟨b, o + 10, none⟩ = some (.int .i64 x3.n) ∧ w''.cell? ⟨b, o + 14, none⟩ = some (.string x4.s) ∧ w''.cell? ⟨b, o + 16, none⟩ = some (.int .i64 x5.n)) ∧ Below w'.heap.size w' w'') := fun w' h => (stateOf_is x4.s w').mono (by
      rintro e w'' ⟨rfl, q⟩
      exact ⟨by rw [hst], ⟨⟨Below.next h.1.1 q, h.1.2.next q⟩, (q.cell (p := ⟨b, o + 1, none⟩) (World.block_lt_of_cell? w' _ (h.2.1))).trans (h.2.1), (q.cell (p := ⟨b, o + 5, none⟩) (World.block_lt_of_cell? w' _ (h.2.2.1))).trans (h.2.2.1), (q.cell (p := ⟨b, o + 8, none⟩) (World.block_lt_of_cell? w' _ (h.2.2.2.1))).trans (h.2.2.2.1), (q.cell (p := ⟨b, o + 10, none⟩) (World.block_lt_of_cell? w' _ (h.2.2.2.2.1))).trans (h.2.2.2.2.1), (q.cell (p := ⟨b, o + 14, none⟩) (World.block_lt_of_cell? w' _ (h.2.2.2.2.2.1))).trans (h.2.2.2.2.2.1), (q.cell (p := ⟨b, o + 16, none⟩) (World.block_lt_of_cell? w' _ (h.2.2.2.2.2.2))).trans (h.2.2.2.2.2.2)⟩, q⟩)
    clear hst
    have HIR : Hid (∀ (q : List V) (a' : Option Addr) (c' m : Nat) (w' : World), q.length = m → m ≤ 1000 → Below w.heap.size w w' → Row w' (.slice a' q.length c') q → Calls Try.prog 38 #[.slice (some ⟨b, o, none⟩) 6 c, .slice a' m c'] w' fun e w'' => Ans (fits [x0, x1, x2, x3, x4, x5] ∧ [x0, x1, x2, x3, x4, x5] = q) e ∧ Below w'.heap.size w' w'') := fun q a' c' m w' hm hm2 hB hq => isRow_is _ _ c c' 6 m _ _ rfl hm (by omega) (by omega) HSA.out w' (HR.out.next hB) hq
    have HRO : Hid _ := fun w => holdRow_is x0.n x1.s x2.s x3.n st x5.n w
    have HZ : Hid (CellsF (w.alloc (.cells #[.int .i64 0, .string ⟨#[]⟩, .string ⟨#[]⟩, .int .i64 0, .int .i64 0, .int .i64 0] 44)) w.heap.size [.int .i64 0, .string ⟨#[]⟩, .string ⟨#[]⟩, .int .i64 0, .int .i64 0, .int .i64 0]) := CellsF.new w [.int .i64 0, .string ⟨#[]⟩, .string ⟨#[]⟩, .int .i64 0, .int .i64 0, .int .i64 0] 44 (by simp)
    have d0 : (w.alloc (.cells #[.int .i64 0, .string ⟨#[]⟩, .string ⟨#[]⟩, .int .i64 0, .int .i64 0, .int .i64 0] 44)).cell? ⟨b, o + 1, none⟩ = some (.int .i64 x0.n) := ((below1 w _).cell (p := ⟨b, o + 1, none⟩) hb).trans c0
    have d1 : (w.alloc (.cells #[.int .i64 0, .string ⟨#[]⟩, .string ⟨#[]⟩, .int .i64 0, .int .i64 0, .int .i64 0] 44)).cell? ⟨b, o + 5, none⟩ = some (.string x1.s) := ((below1 w _).cell (p := ⟨b, o + 5, none⟩) hb).trans c1
    have d2 : (w.alloc (.cells #[.int .i64 0, .string ⟨#[]⟩, .string ⟨#[]⟩, .int .i64 0, .int .i64 0, .int .i64 0] 44)).cell? ⟨b, o + 8, none⟩ = some (.string x2.s) := ((below1 w _).cell (p := ⟨b, o + 8, none⟩) hb).trans c2
    have d3 : (w.alloc (.cells #[.int .i64 0, .string ⟨#[]⟩, .string ⟨#[]⟩, .int .i64 0, .int .i64 0, .int .i64 0] 44)).cell? ⟨b, o + 10, none⟩ = some (.int .i64 x3.n) := ((below1 w _).cell (p := ⟨b, o + 10, none⟩) hb).trans c3
    have d4 : (w.alloc (.cells #[.int .i64 0, .string ⟨#[]⟩, .string ⟨#[]⟩, .int .i64 0, .int .i64 0, .int .i64 0] 44)).cell? ⟨b, o + 14, none⟩ = some (.string x4.s) := ((below1 w _).cell (p := ⟨b, o + 14, none⟩) hb).trans c4
    have d5 : (w.alloc (.cells #[.int .i64 0, .string ⟨#[]⟩, .string ⟨#[]⟩, .int .i64 0, .int .i64 0, .int .i64 0] 44)).cell? ⟨b, o + 16, none⟩ = some (.int .i64 x5.n) := ((below1 w _).cell (p := ⟨b, o + 16, none⟩) hb).trans c5
    obtain ⟨W, hW⟩ : ∃ W, w.alloc (.cells #[.int .i64 0, .string ⟨#[]⟩, .string ⟨#[]⟩, .int .i64 0, .int .i64 0, .int .i64 0] 44) = W := ⟨_, rfl⟩
    have HBW : Hid (Below w.heap.size w W) := hW ▸ below1 _ _
    rw [hW] at HZ d0 d1 d2 d3 d4 d5
    go_enter Try.func22, Try.ntmps22
    go_wp2_with fail
    try rw [hW]
    clear hW
    have HNX : Hid (∀ w' w'' : World, ((Below w.heap.size w w' ∧ CellsF w' w.heap.size [.int .i64 0, .string ⟨#[]⟩, .string ⟨#[]⟩, .int .i64 0, .int .i64 0, .int .i64 0]) ∧ w'.cell? ⟨b, o + 1, none⟩ = some (.int .i64 x0.n) ∧ w'.cell? ⟨b, o + 5, none⟩ = some (.string x1.s) ∧ w'.cell? ⟨b, o + 8, none⟩ = some (.string x2.s) ∧ w'.cell? ⟨b, o + 10, none⟩ = some (.int .i64 x3.n) ∧ w'.cell? ⟨b, o + 14, none⟩ = some (.string x4.s) ∧ w'.cell? ⟨b, o + 16, none⟩ = some (.int .i64 x5.n)) → Below w'.heap.size w' w'' → ((Below w.heap.size w w'' ∧ CellsF w'' w.heap.size [.int .i64 0, .string ⟨#[]⟩, .string ⟨#[]⟩, .int .i64 0, .int .i64 0, .int .i64 0]) ∧ w''.cell? ⟨b, o + 1, none⟩ = some (.int .i64 x0.n) ∧ w''.cell? ⟨b, o + 5, none⟩ = some (.string x1.s) ∧ w''.cell? ⟨b, o + 8, none⟩ = some (.string x2.s) ∧ w''.cell? ⟨b, o + 10, none⟩ = some (.int .i64 x3.n) ∧ w''.cell? ⟨b, o + 14, none⟩ = some (.string x4.s) ∧ w''.cell? ⟨b, o + 16, none⟩ = some (.int .i64 x5.n))) := fun w' w'' h q => ⟨⟨Below.next h.1.1 q, h.1.2.next q⟩, (q.cell (p := ⟨b, o + 1, none⟩) (World.block_lt_of_cell? w' _ (h.2.1))).trans (h.2.1), (q.cell (p := ⟨b, o + 5, none⟩) (World.block_lt_of_cell? w' _ (h.2.2.1))).trans (h.2.2.1), (q.cell (p := ⟨b, o + 8, none⟩) (World.block_lt_of_cell? w' _ (h.2.2.2.1))).trans (h.2.2.2.1), (q.cell (p := ⟨b, o + 10, none⟩) (World.block_lt_of_cell? w' _ (h.2.2.2.2.1))).trans (h.2.2.2.2.1), (q.cell (p := ⟨b, o + 14, none⟩) (World.block_lt_of_cell? w' _ (h.2.2.2.2.2.1))).trans (h.2.2.2.2.2.1), (q.cell (p := ⟨b, o + 16, none⟩) (World.block_lt_of_cell? w' _ (h.2.2.2.2.2.2))).trans (h.2.2.2.2.2.2)⟩
    have HSD : Hid (∀ w', ((Below w.heap.size w w' ∧ CellsF w' w.heap.size [.int .i64 0, .string ⟨#[]⟩, .string ⟨#[]⟩, .int .i64 0, .int .i64 0, .int .i64 0]) ∧ w'.cell? ⟨b, o + 1, none⟩ = some (.int .i64 x0.n) ∧ w'.cell? ⟨b, o + 5, none⟩ = some (.string x1.s) ∧ w'.cell? ⟨b, o + 8, none⟩ = some (.string x2.s) ∧ w'.cell? ⟨b, o + 10, none⟩ = some (.int .i64 x3.n) ∧ w'.cell? ⟨b, o + 14, none⟩ = some (.string x4.s) ∧ w'.cell? ⟨b, o + 16, none⟩ = some (.int .i64 x5.n)) → ((Below w.heap.size w w'.drew ∧ CellsF w'.drew w.heap.size [.int .i64 0, .string ⟨#[]⟩, .string ⟨#[]⟩, .int .i64 0, .int .i64 0, .int .i64 0]) ∧ w'.drew.cell? ⟨b, o + 1, none⟩ = some (.int .i64 x0.n) ∧ w'.drew.cell? ⟨b, o + 5, none⟩ = some (.string x1.s) ∧ w'.drew.cell? ⟨b, o + 8, none⟩ = some (.string x2.s) ∧ w'.drew.cell? ⟨b, o + 10, none⟩ = some (.int .i64 x3.n) ∧ w'.drew.cell? ⟨b, o + 14, none⟩ = some (.string x4.s) ∧ w'.drew.cell? ⟨b, o + 16, none⟩ = some (.int .i64 x5.n))) := fun w' h => HNX.out w' w'.drew h (Below.refl _ _).drew
    have HSA2 : Hid (∀ (w' : World) (x : Obj), ((Below w.heap.size w w' ∧ CellsF w' w.heap.size [.int .i64 0, .string ⟨#[]⟩, .string ⟨#[]⟩, .int .i64 0, .int .i64 0, .int .i64 0]) ∧ w'.cell? ⟨b, o + 1, none⟩ = some (.int .i64 x0.n) ∧ w'.cell? ⟨b, o + 5, none⟩ = some (.string x1.s) ∧ w'.cell? ⟨b, o + 8, none⟩ = some (.string x2.s) ∧ w'.cell? ⟨b, o + 10, none⟩ = some (.int .i64 x3.n) ∧ w'.cell? ⟨b, o + 14, none⟩ = some (.string x4.s) ∧ w'.cell? ⟨b, o + 16, none⟩ = some (.int .i64 x5.n)) → ((Below w.heap.size w (w'.alloc x) ∧ CellsF (w'.alloc x) w.heap.size [.int .i64 0, .string ⟨#[]⟩, .string ⟨#[]⟩, .int .i64 0, .int .i64 0, .int .i64 0]) ∧ (w'.alloc x).cell? ⟨b, o + 1, none⟩ = some (.int .i64 x0.n) ∧ (w'.alloc x).cell? ⟨b, o + 5, none⟩ = some (.string x1.s) ∧ (w'.alloc x).cell? ⟨b, o + 8, none⟩ = some (.string x2.s) ∧ (w'.alloc x).cell? ⟨b, o + 10, none⟩ = some (.int .i64 x3.n) ∧ (w'.alloc x).cell? ⟨b, o + 14, none⟩ = some (.string x4.s) ∧ (w'.alloc x).cell? ⟨b, o + 16, none⟩ = some (.int .i64 x5.n))) := fun w' x h => HNX.out w' (w'.alloc x) h (below1 _ _)
    have hS0 : ((Below w.heap.size w W ∧ CellsF W w.heap.size [.int .i64 0, .string ⟨#[]⟩, .string ⟨#[]⟩, .int .i64 0, .int .i64 0, .int .i64 0]) ∧ W.cell? ⟨b, o + 1, none⟩ = some (.int .i64 x0.n) ∧ W.cell? ⟨b, o + 5, none⟩ = some (.string x1.s) ∧ W.cell? ⟨b, o + 8, none⟩ = some (.string x2.s) ∧ W.cell? ⟨b, o + 10, none⟩ = some (.int .i64 x3.n) ∧ W.cell? ⟨b, o + 14, none⟩ = some (.string x4.s) ∧ W.cell? ⟨b, o + 16, none⟩ = some (.int .i64 x5.n)) := ⟨⟨HBW.out, HZ.out⟩, d0, d1, d2, d3, d4, d5⟩
    have hWs : w.heap.size < W.heap.size := HZ.out.lt
    have HSS : Hid (∀ (w' : World) (v0 v1 v2 v3 v4 v5 : Value), ((Below w.heap.size w w' ∧ CellsF w' w.heap.size [.int .i64 0, .string ⟨#[]⟩, .string ⟨#[]⟩, .int .i64 0, .int .i64 0, .int .i64 0]) ∧ w'.cell? ⟨b, o + 1, none⟩ = some (.int .i64 x0.n) ∧ w'.cell? ⟨b, o + 5, none⟩ = some (.string x1.s) ∧ w'.cell? ⟨b, o + 8, none⟩ = some (.string x2.s) ∧ w'.cell? ⟨b, o + 10, none⟩ = some (.int .i64 x3.n) ∧ w'.cell? ⟨b, o + 14, none⟩ = some (.string x4.s) ∧ w'.cell? ⟨b, o + 16, none⟩ = some (.int .i64 x5.n)) → ((Below w.heap.size w ((((((w'.setCell ⟨W.heap.size, 0, none⟩ v0).setCell ⟨W.heap.size, 1, none⟩ v1).setCell ⟨W.heap.size, 2, none⟩ v2).setCell ⟨W.heap.size, 3, none⟩ v3).setCell ⟨W.heap.size, 4, none⟩ v4).setCell ⟨W.heap.size, 5, none⟩ v5) ∧ CellsF ((((((w'.setCell ⟨W.heap.size, 0, none⟩ v0).setCell ⟨W.heap.size, 1, none⟩ v1).setCell ⟨W.heap.size, 2, none⟩ v2).setCell ⟨W.heap.size, 3, none⟩ v3).setCell ⟨W.heap.size, 4, none⟩ v4).setCell ⟨W.heap.size, 5, none⟩ v5) w.heap.size [.int .i64 0, .string ⟨#[]⟩, .string ⟨#[]⟩, .int .i64 0, .int .i64 0, .int .i64 0]) ∧ ((((((w'.setCell ⟨W.heap.size, 0, none⟩ v0).setCell ⟨W.heap.size, 1, none⟩ v1).setCell ⟨W.heap.size, 2, none⟩ v2).setCell ⟨W.heap.size, 3, none⟩ v3).setCell ⟨W.heap.size, 4, none⟩ v4).setCell ⟨W.heap.size, 5, none⟩ v5).cell? ⟨b, o + 1, none⟩ = some (.int .i64 x0.n) ∧ ((((((w'.setCell ⟨W.heap.size, 0, none⟩ v0).setCell ⟨W.heap.size, 1, none⟩ v1).setCell ⟨W.heap.size, 2, none⟩ v2).setCell ⟨W.heap.size, 3, none⟩ v3).setCell ⟨W.heap.size, 4, none⟩ v4).setCell ⟨W.heap.size, 5, none⟩ v5).cell? ⟨b, o + 5, none⟩ = some (.string x1.s) ∧ ((((((w'.setCell ⟨W.heap.size, 0, none⟩ v0).setCell ⟨W.heap.size, 1, none⟩ v1).setCell ⟨W.heap.size, 2, none⟩ v2).setCell ⟨W.heap.size, 3, none⟩ v3).setCell ⟨W.heap.size, 4, none⟩ v4).setCell ⟨W.heap.size, 5, none⟩ v5).cell? ⟨b, o + 8, none⟩ = some (.string x2.s) ∧ ((((((w'.setCell ⟨W.heap.size, 0, none⟩ v0).setCell ⟨W.heap.size, 1, none⟩ v1).setCell ⟨W.heap.size, 2, none⟩ v2).setCell ⟨W.heap.size, 3, none⟩ v3).setCell ⟨W.heap.size, 4, none⟩ v4).setCell ⟨W.heap.size, 5, none⟩ v5).cell? ⟨b, o + 10, none⟩ = some (.int .i64 x3.n) ∧ ((((((w'.setCell ⟨W.heap.size, 0, none⟩ v0).setCell ⟨W.heap.size, 1, none⟩ v1).setCell ⟨W.heap.size, 2, none⟩ v2).setCell ⟨W.heap.size, 3, none⟩ v3).setCell ⟨W.heap.size, 4, none⟩ v4).setCell ⟨W.heap.size, 5, none⟩ v5).cell? ⟨b, o + 14, none⟩ = some (.string x4.s) ∧ ((((((w'.setCell ⟨W.heap.size, 0, none⟩ v0).setCell ⟨W.heap.size, 1, none⟩ v1).setCell ⟨W.heap.size, 2, none⟩ v2).setCell ⟨W.heap.size, 3, none⟩ v3).setCell ⟨W.heap.size, 4, none⟩ v4).setCell ⟨W.heap.size, 5, none⟩ v5).cell? ⟨b, o + 16, none⟩ = some (.int .i64 x5.n))) := fun w' v0 v1 v2 v3 v4 v5 h => ⟨⟨below_six h.1.1 _ (by omega) _ _ _ _ _ _, h.1.2.far (heap_far (by omega))⟩, (cells_far (by omega)).trans (h.2.1), (cells_far (by omega)).trans (h.2.2.1), (cells_far (by omega)).trans (h.2.2.2.1), (cells_far (by omega)).trans (h.2.2.2.2.1), (cells_far (by omega)).trans (h.2.2.2.2.2.1), (cells_far (by omega)).trans (h.2.2.2.2.2.2)⟩
    go_region_held (fun (w' : World) => ((Below w.heap.size w w' ∧ CellsF w' w.heap.size [.int .i64 0, .string ⟨#[]⟩, .string ⟨#[]⟩, .int .i64 0, .int .i64 0, .int .i64 0]) ∧ w'.cell? ⟨b, o + 1, none⟩ = some (.int .i64 x0.n) ∧ w'.cell? ⟨b, o + 5, none⟩ = some (.string x1.s) ∧ w'.cell? ⟨b, o + 8, none⟩ = some (.string x2.s) ∧ w'.cell? ⟨b, o + 10, none⟩ = some (.int .i64 x3.n) ∧ w'.cell? ⟨b, o + 14, none⟩ = some (.string x4.s) ∧ w'.cell? ⟨b, o + 16, none⟩ = some (.int .i64 x5.n))) (first | (with_reducible assumption) | (with_reducible exact HSD.out _ (by with_reducible assumption)) | (with_reducible exact HSA2.out _ _ (by with_reducible assumption)) | (with_reducible exact HSD.out _ (HSA2.out _ _ (by with_reducible assumption))) | (with_reducible exact HSS.out _ _ _ _ _ _ _ (by with_reducible assumption)))
      (((with_reducible refine Calls.mono (HOF.out _ (by with_reducible assumption)) ?_); rintro e w3 ⟨rfl, hS3, hk3⟩; (try (have hz := CellsF.next (w := (W.alloc (.cells #[.int .i64 0, .string ⟨#[]⟩, .string ⟨#[]⟩, .int .i64 0, .int .i64 0, .int .i64 0] 44)).drew) ((CellsF.new W [.int .i64 0, .string ⟨#[]⟩, .string ⟨#[]⟩, .int .i64 0, .int .i64 0, .int .i64 0] 44 (by simp)).next (Below.refl _ _).drew) hk3; have y0 : w3.cell? ⟨W.heap.size, 0, none⟩ = some (.int .i64 0) := hz.cs 0 _ rfl; have y1 : w3.cell? ⟨W.heap.size, 1, none⟩ = some (.string ⟨#[]⟩) := hz.cs 1 _ rfl; have y2 : w3.cell? ⟨W.heap.size, 2, none⟩ = some (.string ⟨#[]⟩) := hz.cs 2 _ rfl; have y3 : w3.cell? ⟨W.heap.size, 3, none⟩ = some (.int .i64 0) := hz.cs 3 _ rfl; have y4 : w3.cell? ⟨W.heap.size, 4, none⟩ = some (.int .i64 0) := hz.cs 4 _ rfl; have y5 : w3.cell? ⟨W.heap.size, 5, none⟩ = some (.int .i64 0) := hz.cs 5 _ rfl; have yf0 := hz.fz 0; have yf1 := hz.fz 1; have yf2 := hz.fz 2; have yf3 := hz.fz 3; have yf4 := hz.fz 4; have yf5 := hz.fz 5))))
    all_goals (have hS4 : ((Below w.heap.size w w3 ∧ CellsF w3 w.heap.size [.int .i64 0, .string ⟨#[]⟩, .string ⟨#[]⟩, .int .i64 0, .int .i64 0, .int .i64 0]) ∧ w3.cell? ⟨b, o + 1, none⟩ = some (.int .i64 x0.n) ∧ w3.cell? ⟨b, o + 5, none⟩ = some (.string x1.s) ∧ w3.cell? ⟨b, o + 8, none⟩ = some (.string x2.s) ∧ w3.cell? ⟨b, o + 10, none⟩ = some (.int .i64 x3.n) ∧ w3.cell? ⟨b, o + 14, none⟩ = some (.string x4.s) ∧ w3.cell? ⟨b, o + 16, none⟩ = some (.int .i64 x5.n)) := by with_reducible assumption)
    ·
      have HZD : Hid (CellsF (w3.alloc (.cells #[.int .i64 x0.n, .string x1.s, .string x2.s, .int .i64 x3.n, .int .i64 st, .int .i64 x5.n] 44)) w.heap.size [.int .i64 0, .string ⟨#[]⟩, .string ⟨#[]⟩, .int .i64 0, .int .i64 0, .int .i64 0]) := hS4.1.2.next (below1 _ _)
      have HOD : Hid (CellsF (w3.alloc (.cells #[.int .i64 x0.n, .string x1.s, .string x2.s, .int .i64 x3.n, .int .i64 st, .int .i64 x5.n] 44)) w3.heap.size [.int .i64 x0.n, .string x1.s, .string x2.s, .int .i64 x3.n, .int .i64 st, .int .i64 x5.n]) := CellsF.new w3 [.int .i64 x0.n, .string x1.s, .string x2.s, .int .i64 x3.n, .int .i64 st, .int .i64 x5.n] 44 (by simp)
      have HBD : Hid (Below w.heap.size w (w3.alloc (.cells #[.int .i64 x0.n, .string x1.s, .string x2.s, .int .i64 x3.n, .int .i64 st, .int .i64 x5.n] 44))) := hS4.1.1.alloc hS4.1.1.size _
      generalize (w3.alloc (.cells #[.int .i64 x0.n, .string x1.s, .string x2.s, .int .i64 x3.n, .int .i64 st, .int .i64 x5.n] 44)) = wd at *
      obtain ⟨OB, hOB⟩ : ∃ OB, w3.heap.size = OB := ⟨_, rfl⟩
      rw [hOB] at HOD ⊢
      clear hOB hS4
      have q0 : wd.cell? ⟨OB, 0, none⟩ = some (.int .i64 x0.n) := HOD.out.cs 0 _ rfl
      have q1 : wd.cell? ⟨OB, 1, none⟩ = some (.string x1.s) := HOD.out.cs 1 _ rfl
      have q2 : wd.cell? ⟨OB, 2, none⟩ = some (.string x2.s) := HOD.out.cs 2 _ rfl
      have q3 : wd.cell? ⟨OB, 3, none⟩ = some (.int .i64 x3.n) := HOD.out.cs 3 _ rfl
      have q4 : wd.cell? ⟨OB, 4, none⟩ = some (.int .i64 st) := HOD.out.cs 4 _ rfl
      have q5 : wd.cell? ⟨OB, 5, none⟩ = some (.int .i64 x5.n) := HOD.out.cs 5 _ rfl
      clear d0 c0 d1 c1 d2 c2 d3 c3 d4 c4 d5 c5
      go_wp2_with fail
      refine Calls.mono (HRO.out _) ?_; rintro e w5 ⟨⟨ta, tc, rfl, R5⟩, k5⟩
      have HB5 : Hid (Below w.heap.size w w5) := Below.next HBD.out k5
      have HI5 : Hid _ := HIR.out (sixR stT x0.n x1.s x2.s x3.n st x5.n) ta tc _ w5 rfl (by unfold sixR; split <;> simp) HB5.out R5
      have HZ5 : Hid (CellsF w5 w.heap.size [.int .i64 0, .string ⟨#[]⟩, .string ⟨#[]⟩, .int .i64 0, .int .i64 0, .int .i64 0]) := HZD.out.next k5
      have HO5 : Hid (CellsF w5 OB [.int .i64 x0.n, .string x1.s, .string x2.s, .int .i64 x3.n, .int .i64 st, .int .i64 x5.n]) := HOD.out.next k5
      clear k5 R5 q0 q1 q2 q3 q4 q5
      obtain ⟨m, hm⟩ : ∃ m, (sixR stT x0.n x1.s x2.s x3.n st x5.n).length = m := ⟨_, rfl⟩
      rw [hm] at HI5 ⊢
      clear hm
      go_wp2_with fail
      refine Calls.mono HI5.out ?_; rintro e w6 ⟨⟨kb, rfl, hkb⟩, k6⟩
      have HZ6 : Hid (CellsF w6 w.heap.size [.int .i64 0, .string ⟨#[]⟩, .string ⟨#[]⟩, .int .i64 0, .int .i64 0, .int .i64 0]) := HZ5.out.next k6
      have HO6 : Hid (CellsF w6 OB [.int .i64 x0.n, .string x1.s, .string x2.s, .int .i64 x3.n, .int .i64 st, .int .i64 x5.n]) := HO5.out.next k6
      have HB6 : Hid (Below w.heap.size w w6) := Below.next HB5.out k6
      have HKB : Hid (kb = true ↔ fits [x0, x1, x2, x3, x4, x5] ∧ [x0, x1, x2, x3, x4, x5] = sixR stT x0.n x1.s x2.s x3.n st x5.n) := hkb
      clear hkb k6 HI5
      cases kb with
      | false =>
        have z0 : w6.cell? ⟨w.heap.size, 0, none⟩ = some (.int .i64 0) := HZ6.out.cs 0 _ rfl
        have z1 : w6.cell? ⟨w.heap.size, 1, none⟩ = some (.string ⟨#[]⟩) := HZ6.out.cs 1 _ rfl
        have z2 : w6.cell? ⟨w.heap.size, 2, none⟩ = some (.string ⟨#[]⟩) := HZ6.out.cs 2 _ rfl
        have z3 : w6.cell? ⟨w.heap.size, 3, none⟩ = some (.int .i64 0) := HZ6.out.cs 3 _ rfl
        have z4 : w6.cell? ⟨w.heap.size, 4, none⟩ = some (.int .i64 0) := HZ6.out.cs 4 _ rfl
        have z5 : w6.cell? ⟨w.heap.size, 5, none⟩ = some (.int .i64 0) := HZ6.out.cs 5 _ rfl
        have f0 := HZ6.out.fz 0
        have f1 := HZ6.out.fz 1
        have f2 := HZ6.out.fz 2
        have f3 := HZ6.out.fz 3
        have f4 := HZ6.out.fz 4
        have f5 := HZ6.out.fz 5
        go_wp2_with fail
        try simp only [Exit.inBlock, Exit.then]
        refine bodyPost_ret (end_cell_tmp rfl rfl (loadHold _ (HZ6.out.six rfl _ _ _ _ _ _) rfl)) rfl ?_
        exact ⟨⟨_, rfl, HNO.out (fun q => by have := HKB.out.2 (HIFF.out.1 q); cases this) _ rfl⟩, below_six HB6.out _ (Nat.le_refl _) _ _ _ _ _ _⟩
      | true =>
        have z0 : w6.cell? ⟨w.heap.size, 0, none⟩ = some (.int .i64 0) := HZ6.out.cs 0 _ rfl
        have z1 : w6.cell? ⟨w.heap.size, 1, none⟩ = some (.string ⟨#[]⟩) := HZ6.out.cs 1 _ rfl
        have z2 : w6.cell? ⟨w.heap.size, 2, none⟩ = some (.string ⟨#[]⟩) := HZ6.out.cs 2 _ rfl
        have z3 : w6.cell? ⟨w.heap.size, 3, none⟩ = some (.int .i64 0) := HZ6.out.cs 3 _ rfl
        have z4 : w6.cell? ⟨w.heap.size, 4, none⟩ = some (.int .i64 0) := HZ6.out.cs 4 _ rfl
        have z5 : w6.cell? ⟨w.heap.size, 5, none⟩ = some (.int .i64 0) := HZ6.out.cs 5 _ rfl
        have f0 := HZ6.out.fz 0
        have f1 := HZ6.out.fz 1
        have f2 := HZ6.out.fz 2
        have f3 := HZ6.out.fz 3
        have f4 := HZ6.out.fz 4
        have f5 := HZ6.out.fz 5
        have q0 : w6.cell? ⟨OB, 0, none⟩ = some (.int .i64 x0.n) := HO6.out.cs 0 _ rfl
        have q1 : w6.cell? ⟨OB, 1, none⟩ = some (.string x1.s) := HO6.out.cs 1 _ rfl
        have q2 : w6.cell? ⟨OB, 2, none⟩ = some (.string x2.s) := HO6.out.cs 2 _ rfl
        have q3 : w6.cell? ⟨OB, 3, none⟩ = some (.int .i64 x3.n) := HO6.out.cs 3 _ rfl
        have q4 : w6.cell? ⟨OB, 4, none⟩ = some (.int .i64 st) := HO6.out.cs 4 _ rfl
        have q5 : w6.cell? ⟨OB, 5, none⟩ = some (.int .i64 x5.n) := HO6.out.cs 5 _ rfl
        go_wp2_with fail
        try simp only [Exit.inBlock, Exit.then]
        refine bodyPost_ret (end_cell_tmp rfl rfl (loadHold _ (HZ6.out.six rfl _ _ _ _ _ _) rfl)) rfl ?_
        exact ⟨⟨_, rfl, .inl ⟨_, _, _, _, st, _, by have h6 := HKB.out.1 (by first | rfl | trivial); have ne : ¬ (stT st).size = 0 := fun q => (by have e := h6.2; unfold sixR at e; rw [if_pos q] at e; cases e); rw [← HRX.out] at h6; exact ⟨h6, ne⟩, rfl⟩⟩, below_six HB6.out _ (Nat.le_refl _) _ _ _ _ _ _⟩
    ·
      have hz := CellsF.next (w := (W.alloc (.cells #[.int .i64 0, .string ⟨#[]⟩, .string ⟨#[]⟩, .int .i64 0, .int .i64 0, .int .i64 0] 44)).drew) ((CellsF.new W [.int .i64 0, .string ⟨#[]⟩, .string ⟨#[]⟩, .int .i64 0, .int .i64 0, .int .i64 0] 44 (by simp)).next (Below.refl _ _).drew) (by with_reducible assumption)
      have HZD : Hid (CellsF ((((((w3.setCell ⟨W.heap.size, 0, none⟩ (.int .i64 x0.n)).setCell ⟨W.heap.size, 1, none⟩ (.string x1.s)).setCell ⟨W.heap.size, 2, none⟩ (.string x2.s)).setCell ⟨W.heap.size, 3, none⟩ (.int .i64 x3.n)).setCell ⟨W.heap.size, 4, none⟩ (.int .i64 st)).setCell ⟨W.heap.size, 5, none⟩ (.int .i64 x5.n)) w.heap.size [.int .i64 0, .string ⟨#[]⟩, .string ⟨#[]⟩, .int .i64 0, .int .i64 0, .int .i64 0]) := (HSS.out w3 (.int .i64 x0.n) (.string x1.s) (.string x2.s) (.int .i64 x3.n) (.int .i64 st) (.int .i64 x5.n) hS4).1.2
      have HOD : Hid (CellsF ((((((w3.setCell ⟨W.heap.size, 0, none⟩ (.int .i64 x0.n)).setCell ⟨W.heap.size, 1, none⟩ (.string x1.s)).setCell ⟨W.heap.size, 2, none⟩ (.string x2.s)).setCell ⟨W.heap.size, 3, none⟩ (.int .i64 x3.n)).setCell ⟨W.heap.size, 4, none⟩ (.int .i64 st)).setCell ⟨W.heap.size, 5, none⟩ (.int .i64 x5.n)) W.heap.size [.int .i64 x0.n, .string x1.s, .string x2.s, .int .i64 x3.n, .int .i64 st, .int .i64 x5.n]) := hz.six rfl _ _ _ _ _ _
      have HBD : Hid (Below w.heap.size w ((((((w3.setCell ⟨W.heap.size, 0, none⟩ (.int .i64 x0.n)).setCell ⟨W.heap.size, 1, none⟩ (.string x1.s)).setCell ⟨W.heap.size, 2, none⟩ (.string x2.s)).setCell ⟨W.heap.size, 3, none⟩ (.int .i64 x3.n)).setCell ⟨W.heap.size, 4, none⟩ (.int .i64 st)).setCell ⟨W.heap.size, 5, none⟩ (.int .i64 x5.n))) := (HSS.out w3 (.int .i64 x0.n) (.string x1.s) (.string x2.s) (.int .i64 x3.n) (.int .i64 st) (.int .i64 x5.n) hS4).1.1
      generalize ((((((w3.setCell ⟨W.heap.size, 0, none⟩ (.int .i64 x0.n)).setCell ⟨W.heap.size, 1, none⟩ (.string x1.s)).setCell ⟨W.heap.size, 2, none⟩ (.string x2.s)).setCell ⟨W.heap.size, 3, none⟩ (.int .i64 x3.n)).setCell ⟨W.heap.size, 4, none⟩ (.int .i64 st)).setCell ⟨W.heap.size, 5, none⟩ (.int .i64 x5.n)) = wd at *
      obtain ⟨OB, hOB⟩ : ∃ OB, W.heap.size = OB := ⟨_, rfl⟩
      rw [hOB] at HOD ⊢
      clear hOB hS4 hz
      have q0 : wd.cell? ⟨OB, 0, none⟩ = some (.int .i64 x0.n) := HOD.out.cs 0 _ rfl
      have q1 : wd.cell? ⟨OB, 1, none⟩ = some (.string x1.s) := HOD.out.cs 1 _ rfl
      have q2 : wd.cell? ⟨OB, 2, none⟩ = some (.string x2.s) := HOD.out.cs 2 _ rfl
      have q3 : wd.cell? ⟨OB, 3, none⟩ = some (.int .i64 x3.n) := HOD.out.cs 3 _ rfl
      have q4 : wd.cell? ⟨OB, 4, none⟩ = some (.int .i64 st) := HOD.out.cs 4 _ rfl
      have q5 : wd.cell? ⟨OB, 5, none⟩ = some (.int .i64 x5.n) := HOD.out.cs 5 _ rfl
      clear d0 c0 d1 c1 d2 c2 d3 c3 d4 c4 d5 c5
      go_wp2_with fail
      refine Calls.mono (HRO.out _) ?_; rintro e w5 ⟨⟨ta, tc, rfl, R5⟩, k5⟩
      have HB5 : Hid (Below w.heap.size w w5) := Below.next HBD.out k5
      have HI5 : Hid _ := HIR.out (sixR stT x0.n x1.s x2.s x3.n st x5.n) ta tc _ w5 rfl (by unfold sixR; split <;> simp) HB5.out R5
      have HZ5 : Hid (CellsF w5 w.heap.size [.int .i64 0, .string ⟨#[]⟩, .string ⟨#[]⟩, .int .i64 0, .int .i64 0, .int .i64 0]) := HZD.out.next k5
      have HO5 : Hid (CellsF w5 OB [.int .i64 x0.n, .string x1.s, .string x2.s, .int .i64 x3.n, .int .i64 st, .int .i64 x5.n]) := HOD.out.next k5
      clear k5 R5 q0 q1 q2 q3 q4 q5
      obtain ⟨m, hm⟩ : ∃ m, (sixR stT x0.n x1.s x2.s x3.n st x5.n).length = m := ⟨_, rfl⟩
      rw [hm] at HI5 ⊢
      clear hm
      go_wp2_with fail
      refine Calls.mono HI5.out ?_; rintro e w6 ⟨⟨kb, rfl, hkb⟩, k6⟩
      have HZ6 : Hid (CellsF w6 w.heap.size [.int .i64 0, .string ⟨#[]⟩, .string ⟨#[]⟩, .int .i64 0, .int .i64 0, .int .i64 0]) := HZ5.out.next k6
      have HO6 : Hid (CellsF w6 OB [.int .i64 x0.n, .string x1.s, .string x2.s, .int .i64 x3.n, .int .i64 st, .int .i64 x5.n]) := HO5.out.next k6
      have HB6 : Hid (Below w.heap.size w w6) := Below.next HB5.out k6
      have HKB : Hid (kb = true ↔ fits [x0, x1, x2, x3, x4, x5] ∧ [x0, x1, x2, x3, x4, x5] = sixR stT x0.n x1.s x2.s x3.n st x5.n) := hkb
      clear hkb k6 HI5
      cases kb with
      | false =>
        have z0 : w6.cell? ⟨w.heap.size, 0, none⟩ = some (.int .i64 0) := HZ6.out.cs 0 _ rfl
        have z1 : w6.cell? ⟨w.heap.size, 1, none⟩ = some (.string ⟨#[]⟩) := HZ6.out.cs 1 _ rfl
        have z2 : w6.cell? ⟨w.heap.size, 2, none⟩ = some (.string ⟨#[]⟩) := HZ6.out.cs 2 _ rfl
        have z3 : w6.cell? ⟨w.heap.size, 3, none⟩ = some (.int .i64 0) := HZ6.out.cs 3 _ rfl
        have z4 : w6.cell? ⟨w.heap.size, 4, none⟩ = some (.int .i64 0) := HZ6.out.cs 4 _ rfl
        have z5 : w6.cell? ⟨w.heap.size, 5, none⟩ = some (.int .i64 0) := HZ6.out.cs 5 _ rfl
        have f0 := HZ6.out.fz 0
        have f1 := HZ6.out.fz 1
        have f2 := HZ6.out.fz 2
        have f3 := HZ6.out.fz 3
        have f4 := HZ6.out.fz 4
        have f5 := HZ6.out.fz 5
        go_wp2_with fail
        try simp only [Exit.inBlock, Exit.then]
        refine bodyPost_ret (end_cell_tmp rfl rfl (loadHold _ (HZ6.out.six rfl _ _ _ _ _ _) rfl)) rfl ?_
        exact ⟨⟨_, rfl, HNO.out (fun q => by have := HKB.out.2 (HIFF.out.1 q); cases this) _ rfl⟩, below_six HB6.out _ (Nat.le_refl _) _ _ _ _ _ _⟩
      | true =>
        have z0 : w6.cell? ⟨w.heap.size, 0, none⟩ = some (.int .i64 0) := HZ6.out.cs 0 _ rfl
        have z1 : w6.cell? ⟨w.heap.size, 1, none⟩ = some (.string ⟨#[]⟩) := HZ6.out.cs 1 _ rfl
        have z2 : w6.cell? ⟨w.heap.size, 2, none⟩ = some (.string ⟨#[]⟩) := HZ6.out.cs 2 _ rfl
        have z3 : w6.cell? ⟨w.heap.size, 3, none⟩ = some (.int .i64 0) := HZ6.out.cs 3 _ rfl
        have z4 : w6.cell? ⟨w.heap.size, 4, none⟩ = some (.int .i64 0) := HZ6.out.cs 4 _ rfl
        have z5 : w6.cell? ⟨w.heap.size, 5, none⟩ = some (.int .i64 0) := HZ6.out.cs 5 _ rfl
        have f0 := HZ6.out.fz 0
        have f1 := HZ6.out.fz 1
        have f2 := HZ6.out.fz 2
        have f3 := HZ6.out.fz 3
        have f4 := HZ6.out.fz 4
        have f5 := HZ6.out.fz 5
        have q0 : w6.cell? ⟨OB, 0, none⟩ = some (.int .i64 x0.n) := HO6.out.cs 0 _ rfl
        have q1 : w6.cell? ⟨OB, 1, none⟩ = some (.string x1.s) := HO6.out.cs 1 _ rfl
        have q2 : w6.cell? ⟨OB, 2, none⟩ = some (.string x2.s) := HO6.out.cs 2 _ rfl
        have q3 : w6.cell? ⟨OB, 3, none⟩ = some (.int .i64 x3.n) := HO6.out.cs 3 _ rfl
        have q4 : w6.cell? ⟨OB, 4, none⟩ = some (.int .i64 st) := HO6.out.cs 4 _ rfl
        have q5 : w6.cell? ⟨OB, 5, none⟩ = some (.int .i64 x5.n) := HO6.out.cs 5 _ rfl
        go_wp2_with fail
        try simp only [Exit.inBlock, Exit.then]
        refine bodyPost_ret (end_cell_tmp rfl rfl (loadHold _ (HZ6.out.six rfl _ _ _ _ _ _) rfl)) rfl ?_
        exact ⟨⟨_, rfl, .inl ⟨_, _, _, _, st, _, by have h6 := HKB.out.1 (by first | rfl | trivial); have ne : ¬ (stT st).size = 0 := fun q => (by have e := h6.2; unfold sixR at e; rw [if_pos q] at e; cases e); rw [← HRX.out] at h6; exact ⟨h6, ne⟩, rfl⟩⟩, below_six HB6.out _ (Nat.le_refl _) _ _ _ _ _ _⟩
  · have h7i : ((n : Int) == 6) = false := by simp; omega
    have h7j : ¬ (n : Int) = 6 := by omega
    have HZ : Hid (CellsF (w.alloc (.cells #[.int .i64 0, .string ⟨#[]⟩, .string ⟨#[]⟩, .int .i64 0, .int .i64 0, .int .i64 0] 44)) w.heap.size [.int .i64 0, .string ⟨#[]⟩, .string ⟨#[]⟩, .int .i64 0, .int .i64 0, .int .i64 0]) := CellsF.new w [.int .i64 0, .string ⟨#[]⟩, .string ⟨#[]⟩, .int .i64 0, .int .i64 0, .int .i64 0] 44 (by simp)
    clear hr hs hn
    go_enter Try.func22, Try.ntmps22
    go_wp2_with fail
    try simp only [Exit.inBlock, Exit.then]
    refine bodyPost_ret (end_cell_tmp rfl rfl (loadHold [.int .i64 0, .string ⟨#[]⟩, .string ⟨#[]⟩, .int .i64 0, .int .i64 0, .int .i64 0] HZ.out rfl)) rfl ?_
    exact ⟨⟨_, rfl, HNO.out (fun ⟨_, _, _, _, _, _, ⟨_, q⟩, ne⟩ => h7 (by rw [← HN.out, q, sixR_is ne]; rfl)) _ rfl⟩, below1 _ _⟩
end Go.Proofs.Ytaoboleifdgonaa
