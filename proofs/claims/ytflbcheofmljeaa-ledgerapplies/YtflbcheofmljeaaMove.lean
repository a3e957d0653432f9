/- ledger.move: what is on hand changes, and a movement tells of it. -/
import Derived.Test.YtflbcheofmljeaaStockOf
namespace Go.Proofs.Ytflbcheofmljeaa
open Go.ChangeShapes Go.WideShapes Go.RowKit
set_option linter.unusedVariables false
set_option maxRecDepth 100000

theorem hlv_one (l : List Hld) : ∀ v ∈ l.flatMap hlv, v.oneCell' = true := by
  intro v hv
  obtain ⟨x, _, hx⟩ := List.mem_flatMap.1 hv
  simp only [hlv, List.mem_cons, List.mem_nil_iff, or_false] at hx
  rcases hx with rfl | rfl | rfl | rfl | rfl | rfl <;> rfl
theorem append_H {w : World} {v : Value} {l : List Hld} (h : w.ownsRow 0 44 6 v l.length (l.flatMap hlv)) (x : Hld) (hs : l.length ≤ 100000) :
    ∃ g cap w', (Builtin.append_ #[23, 23] 23 #[v, .slice (some ⟨w.heap.size, 0, none⟩) 1 1]).run Try.prog (w.alloc (.cells #[.int .i64 x.id, .string x.sku, .string x.loc, .int .i64 x.qty, .int .i64 x.st, .int .i64 x.due] 44)) = .ok (.slice (some ⟨g, 0, none⟩) (l.length + 1) cap) w' ∧
      w'.ownsRow 0 44 6 (.slice (some ⟨g, 0, none⟩) (l.length + 1) cap) (l.length + 1) ((l ++ [x]).flatMap hlv) ∧ w.grownBy w' v.ownBlock ∧ (v.ownBlock = some g ∨ w.heap.size ≤ g) := by
  obtain ⟨i, hi, hz, h1, h2⟩ := info_of info44
  have hA := CellsF.at (w := w) (hlv x) 44 (by simp [hlv]) rfl
  obtain ⟨g, cap, w', a1, a2, a3, a4, a5⟩ := run_append_lies (P := Try.prog) (w.alloc (.cells (hlv x).toArray 44)) 23 23 0 44 i _ 6 64 Try.underlying23 hi hz h1 h2 (by simp [Value.cells]) (by omega) v l.length (l.flatMap hlv) (World.ownsRow.alloc h _) ⟨w.heap.size, 0, none⟩ 1 1 (hlv x) rfl (fun j u hu => by
    rw [Go.WideShapes.add_plain, Nat.zero_add]; exact hA.cs j u hu) (fun u hu => hlv_one [x] u (by simpa using hu)) (by omega) (by unfold maxLen; omega) (by omega) (Nat.zero_le _) _ rfl
  have hz1 : (w.alloc (.cells (hlv x).toArray 44)).heap.size = w.heap.size + 1 := by simp
  refine ⟨g, cap, w', a1, ?_, ⟨a3.os, a3.tape, a3.output, by have := a3.size; omega, fun q hq hne => (a3.block q (by omega) hne).trans (Below.heap_alloc _ _ _ hq)⟩, a4.imp id (fun e => by omega)⟩
  rw [show (l ++ [x]).flatMap hlv = l.flatMap hlv ++ hlv x by rw [List.flatMap_append]; simp]
  exact a2
theorem mvv_one (l : List Mov) : ∀ v ∈ l.flatMap mvv, v.oneCell' = true := by
  intro v hv
  obtain ⟨x, _, hx⟩ := List.mem_flatMap.1 hv
  simp only [mvv, List.mem_cons, List.mem_nil_iff, or_false] at hx
  rcases hx with rfl | rfl | rfl | rfl | rfl | rfl <;> rfl
theorem append_M {w : World} {v : Value} {l : List Mov} (h : w.ownsRow 0 42 6 v l.length (l.flatMap mvv)) (x : Mov) (hs : l.length ≤ 100000) :
    ∃ g cap w', (Builtin.append_ #[24, 24] 24 #[v, .slice (some ⟨w.heap.size, 0, none⟩) 1 1]).run Try.prog (w.alloc (.cells #[.int .i64 x.seq, .string x.sku, .string x.loc, .int .i64 x.delta, .int .i64 x.kind, .int .i64 x.hold] 42)) = .ok (.slice (some ⟨g, 0, none⟩) (l.length + 1) cap) w' ∧
      w'.ownsRow 0 42 6 (.slice (some ⟨g, 0, none⟩) (l.length + 1) cap) (l.length + 1) ((l ++ [x]).flatMap mvv) ∧ w.grownBy w' v.ownBlock ∧ (v.ownBlock = some g ∨ w.heap.size ≤ g) := by
  obtain ⟨i, hi, hz, h1, h2⟩ := info_of info42
  have hA := CellsF.at (w := w) (mvv x) 42 (by simp [mvv]) rfl
  obtain ⟨g, cap, w', a1, a2, a3, a4, a5⟩ := run_append_lies (P := Try.prog) (w.alloc (.cells (mvv x).toArray 42)) 24 24 0 42 i _ 6 64 Try.underlying24 hi hz h1 h2 (by simp [Value.cells]) (by omega) v l.length (l.flatMap mvv) (World.ownsRow.alloc h _) ⟨w.heap.size, 0, none⟩ 1 1 (mvv x) rfl (fun j u hu => by
    rw [Go.WideShapes.add_plain, Nat.zero_add]; exact hA.cs j u hu) (fun u hu => mvv_one [x] u (by simpa using hu)) (by omega) (by unfold maxLen; omega) (by omega) (Nat.zero_le _) _ rfl
  have hz1 : (w.alloc (.cells (mvv x).toArray 42)).heap.size = w.heap.size + 1 := by simp
  refine ⟨g, cap, w', a1, ?_, ⟨a3.os, a3.tape, a3.output, by have := a3.size; omega, fun q hq hne => (a3.block q (by omega) hne).trans (Below.heap_alloc _ _ _ hq)⟩, a4.imp id (fun e => by omega)⟩
  rw [show (l ++ [x]).flatMap mvv = l.flatMap mvv ++ mvv x by rw [List.flatMap_append]; simp]
  exact a2

/-- More, or fewer, on hand; held. -/
def addOn (l : List Stk) (sku loc : ByteArray) (d : Int) : List Stk := (ens l sku loc).set (posK l sku loc) { findK l sku loc with on := (findK l sku loc).on + d }
def addHeld (l : List Stk) (sku loc : ByteArray) (d : Int) : List Stk := (ens l sku loc).set (posK l sku loc) { findK l sku loc with held := (findK l sku loc).held + d }
def mvL (L : Led) (kind : Int) (sku loc : ByteArray) (d hold : Int) : Led := { L with S := addOn L.S sku loc d, M := L.M ++ [⟨(L.M.length : Int) + 1, sku, loc, d, kind, hold⟩] }
set_option maxHeartbeats 2000000 in
theorem move_is {w : World} {E : Nat → Prop} {b : Nat} {v0 v1 v2 : Value} {L : Led} (h : LedO w E b v0 v1 v2 L) (hs : Rises L.S) (hm : L.S.length ≤ 10000) (hm2 : L.M.length ≤ 10000) (kind : Int) (sku loc : ByteArray) (d hold : Int) (hin : i64b ((findK L.S sku loc).on + d)) :
    Calls Try.prog 88 #[.pointer (some ⟨b, 0, none⟩), .int .i64 kind, .string sku, .string loc, .int .i64 d, .int .i64 hold] w fun e w' => e = .returned (.tuple #[]) ∧ ∃ v0' v2', LedO w' E b v0' v1 v2' (mvL L kind sku loc d hold) ∧ Stay E w w' := by
  have HS : Hid _ := stockOf_is h hs (by omega) sku loc
  obtain ⟨hk, he⟩ := ens_at hs sku loc
  have HA : Hid (∃ h : posK L.S sku loc < (ens L.S sku loc).length, (ens L.S sku loc)[posK L.S sku loc] = findK L.S sku loc) := ⟨hk, he⟩
  have hw : IntKind.i64.wrap ((findK L.S sku loc).on + d) = (findK L.S sku loc).on + d := by rw [IntKind.wrap_i64]; unfold i64b at hin; omega
  have HMV : Hid (∀ y, y = (findK L.S sku loc).on + d → mvL L kind sku loc d hold = { L with S := (ens L.S sku loc).set (posK L.S sku loc) { findK L.S sku loc with on := y }, M := L.M ++ [⟨(L.M.length : Int) + 1, sku, loc, d, kind, hold⟩] }) := fun y hy => by subst hy; rfl
  generalize mvL L kind sku loc d hold = L9 at *
  obtain ⟨f, hf⟩ : ∃ f, findK L.S sku loc = f := ⟨_, rfl⟩
  rw [hf] at HA HMV hw hin
  obtain ⟨k, hkk⟩ : ∃ k, posK L.S sku loc = k := ⟨_, rfl⟩
  rw [hkk] at HS HMV
  have HA' : Hid (∃ h : k < (ens L.S sku loc).length, (ens L.S sku loc)[k] = f) := by subst hkk; exact HA.out
  obtain ⟨n2, hn2⟩ : ∃ n2, L.M.length = n2 := ⟨_, rfl⟩
  rw [hn2] at HMV hm2
  have HN2 : Hid (L.M.length = n2) := hn2
  have hw2 : IntKind.i64.wrap ((n2 : Int) + 1) = (n2 : Int) + 1 := by rw [IntKind.wrap_i64]; omega
  clear hf hkk hk he hs h hm HA hn2
  go_enter Try.func88, Try.ntmps88
  go_wp2_with fail
  refine Calls.mono HS.out ?_; rintro e w1 ⟨g, m, cap, rfl, q1, q2⟩
  have hk1 : k < ({ L with S := ens L.S sku loc } : Led).S.length := HA'.out.1
  obtain ⟨A1, A2⟩ := LedO.setS q1 k 2 hk1 (by omega) { f with on := f.on + d } (.int .i64 (f.on + d)) (by
    have : ({ L with S := ens L.S sku loc } : Led).S[k] = f := HA'.out.2
    rw [this]; rfl)
  obtain ⟨a0, c0, e0, hr0⟩ := own_rowS q1.S
  cases e0
  obtain ⟨g', o, eg, hgl, hc⟩ := hr0.stk (fun e => by rw [e] at hk1; simp at hk1)
  cases eg
  have hx := hc k hk1
  have hfk : ({ L with S := ens L.S sku loc } : Led).S[k] = f := HA'.out.2
  rw [hfk] at hx
  have x2 : w1.cell? ⟨g, k * 4 + 2, none⟩ = some (.int .i64 f.on) := by have := hx.c2; rwa [Nat.zero_add] at this
  have f2 : w1.frozen? ⟨g, k * 4 + 2, none⟩ = false := World.ownsRow.frozenAt q1.S _
  obtain ⟨W2, hW2⟩ : ∃ W2, w1.setCell ⟨g, k * 4 + 2, none⟩ (.int .i64 (f.on + d)) = W2 := ⟨_, rfl⟩
  rw [hW2] at A1 A2
  have HL2 : Hid (LedO W2 E b (.slice (some ⟨g, 0, none⟩) (ens L.S sku loc).length cap) v1 v2 { L with S := (ens L.S sku loc).set k { f with on := f.on + d } } ∧ Stay E w W2) := ⟨A1, q2.trans A2⟩
  obtain ⟨a2, c2, rfl, _⟩ := own_rowM A1.M
  have hM : ({ L with S := (ens L.S sku loc).set k { f with on := f.on + d } } : Led).M.length = n2 := HN2.out
  rw [show ({ L with S := ens L.S sku loc } : Led).M.length = n2 from HN2.out] at HL2
  have l2 : W2.cell? ⟨b, 2, none⟩ = some (.slice a2 n2 c2) := HL2.out.1.c.cs 2 _ rfl
  have l2f := HL2.out.1.c.fz 2
  have hbl : b < W2.heap.size := HL2.out.1.c.lt
  have l2a : ∀ o, (W2.alloc o).cell? ⟨b, 2, none⟩ = some (.slice a2 n2 c2) := fun o => ((below1 W2 o).cell (p := ⟨b, 2, none⟩) hbl).trans l2
  have l2d : ∀ o, (W2.drew.alloc o).cell? ⟨b, 2, none⟩ = some (.slice a2 n2 c2) := fun o => ((below1 W2.drew o).cell (p := ⟨b, 2, none⟩) hbl).trans l2
  have hne := World.new_ne W2 ⟨b, 2, none⟩ l2
  have hd : LedO W2.drew E b (.slice (some ⟨g, 0, none⟩) (ens L.S sku loc).length cap) v1 (.slice a2 n2 c2) { L with S := (ens L.S sku loc).set k { f with on := f.on + d } } := HL2.out.1.next (Below.refl _ _).drew
  obtain ⟨g2, cap2, w3, r1, r2, r3, r4⟩ := append_M hd.M ⟨(n2 : Int) + 1, sku, loc, d, kind, hold⟩ (by rw [hM]; omega)
  obtain ⟨N1, N2, N3, N4⟩ := LedO.newM hd (L.M ++ [⟨(n2 : Int) + 1, sku, loc, d, kind, hold⟩]) g2 (n2 + 1) cap2 (by rw [List.length_append, HN2.out]; rfl) (by rw [hM] at r2; exact r2) r3 r4
  rw [hM] at r1
  have RA : Hid ((Builtin.append_ #[24, 24] 24 #[.slice a2 n2 c2, .slice (some ⟨W2.heap.size, 0, none⟩) 1 1]).run Try.prog (W2.drew.alloc (.cells #[.int .i64 ((n2 : Int) + 1), .string sku, .string loc, .int .i64 d, .int .i64 kind, .int .i64 hold] 42)) = .ok (.slice (some ⟨g2, 0, none⟩) (n2 + 1) cap2) w3) := r1
  have HFIN : Hid (LedO (w3.setCell ⟨b, 2, none⟩ (.slice (some ⟨g2, 0, none⟩) (n2 + 1) cap2)) E b (.slice (some ⟨g, 0, none⟩) (ens L.S sku loc).length cap) v1 (.slice (some ⟨g2, 0, none⟩) (n2 + 1) cap2) L9 ∧ Stay E w (w3.setCell ⟨b, 2, none⟩ (.slice (some ⟨g2, 0, none⟩) (n2 + 1) cap2))) := ⟨by rw [HMV.out _ rfl]; exact N1, HL2.out.2.trans ⟨N2.os, N2.tape, N2.output, N2.size, N2.block⟩⟩
  obtain ⟨u, hu⟩ : ∃ u, w3.cell? ⟨b, 2, none⟩ = some u := Option.isSome_iff_exists.1 N3
  clear A1 A2 q1 q2 hx hr0 hc hgl r1 r2 r3 r4 N1 N2 N3 hd hk1 hfk hM
  have HW2 : Hid _ := hW2
  clear hW2
  go_wp2_with fail
  try rw [HW2.out]
  go_region_law (refine dr_append rfl rfl RA.out ?_)
  all_goals go_wp2_with fail
  all_goals go_end0
  all_goals exact ⟨rfl, _, _, HFIN.out.1, HFIN.out.2⟩
end Go.Proofs.Ytflbcheofmljeaa
