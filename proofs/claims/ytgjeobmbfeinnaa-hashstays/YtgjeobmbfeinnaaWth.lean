/- With, Without: nothing to do. -/
import Derived.Test.YtgjeobmbfeinnaaWdw
import Derived.Test.YtgjeobmbfeinnaaBs
namespace Go.Proofs.Ytgjeobmbfeinnaa
open Go.ChangeShapes Go.WideShapes Go.RowKit
set_option linter.unusedVariables false
set_option maxRecDepth 100000

/-- What an index is behind With. -/
def isNew (F : Val → List Int) (x : Val) (n : Int) : Prop := may x ∧ n ∉ F x
instance (F : Val → List Int) (x : Val) (n : Int) : Decidable (isNew F x n) := by unfold isNew; infer_instance
def wF (F : Val → List Int) (x : Val) (n : Int) : Val → List Int := if isNew F x n then upd F x (ins n (F x)) else F
def wC (F : Val → List Int) (x : Val) (n : Int) (c : Nat) : Nat := if isNew F x n then c + 1 else c
def wN (F : Val → List Int) (x : Val) (n : Int) (c nb : Nat) : Nat := if isNew F x n ∧ c = 32 * nb then max 1 (2 * nb) else nb
/-- Three blocks of the call's own. -/
structure Own3 (w wr : World) (px : Option Addr) (cx : Int) (k m : Int) (s : ByteArray) : Prop where
  x : Blk wr w.heap.size 27 [.pointer px, .int .i64 cx]
  v : Blk wr (w.heap.size + 1) 24 [.int .i64 k, .int .i64 m, .string s]
  r : Blk wr (w.heap.size + 2) 27 [.pointer none, .int .i64 0]
  b : Below w.heap.size w wr
theorem Own3.next {w wr w' : World} {px : Option Addr} {cx k m : Int} {s : ByteArray} (h : Own3 w wr px cx k m s) (b : Below wr.heap.size wr w') : Own3 w w' px cx k m s := ⟨h.x.next b, h.v.next b, h.r.next b, h.b.trans (b.mono h.b.size)⟩
theorem Own3.new (w : World) (px : Option Addr) (cx k m : Int) (s : ByteArray) : Own3 w (((w.alloc (.cells #[.pointer px, .int .i64 cx] 27)).alloc (.cells #[.int .i64 k, .int .i64 m, .string s] 24)).alloc (.cells #[.pointer none, .int .i64 0] 27)) px cx k m s := by
  refine ⟨(Blk.new w 27 [.pointer px, .int .i64 cx]).next (below2 _ _ _), ?_, ?_, below3 _ _ _ _⟩
  · have := (Blk.new (w.alloc (.cells #[.pointer px, .int .i64 cx] 27)) 24 [.int .i64 k, .int .i64 m, .string s]).next (below1 _ (.cells #[.pointer none, .int .i64 0] 27))
    rwa [size_alloc] at this
  · have := Blk.new ((w.alloc (.cells #[.pointer px, .int .i64 cx] 27)).alloc (.cells #[.int .i64 k, .int .i64 m, .string s] 24)) 27 [.pointer none, .int .i64 0]
    rwa [size_alloc, size_alloc] at this
/-- The answer is laid. -/
theorem Own3.ret {w wr : World} {px : Option Addr} {cx k m : Int} {s : ByteArray} (h : Own3 w wr px cx k m s) (pr : Option Addr) (cr : Int) {w' : World} (e : (wr.setCell ⟨w.heap.size + 1 + 1, 0, none⟩ (.pointer pr)).setCell ⟨w.heap.size + 1 + 1, 1, none⟩ (.int .i64 cr) = w') :
    (loadVar 27 ⟨w.heap.size + 1 + 1, 0, none⟩).run Try.prog w' = .ok (.agg #[.pointer pr, .int .i64 cr]) w' ∧ Below w.heap.size w w' := by
  have h2 := (h.r.set 0 (.pointer pr)).set 1 (.int .i64 cr)
  rw [show w.heap.size + 2 = w.heap.size + 1 + 1 by omega, e] at h2
  refine ⟨load27 (h2.cell (i := 0) rfl) (h2.cell (i := 1) rfl), ?_⟩
  rw [← e]
  exact below_set (below_set h.b _ _ _ (by omega)) _ _ _ (by omega)
/-- An index stays where only the call's own blocks are written. -/
theorem Ix.stays {w wr w' : World} {p : Option Addr} {F : Val → List Int} {nb M : Nat} (h : Ix w p F nb M) (b : Below w.heap.size w w') : Ix w' p F nb M := h.next b
theorem Sl.cut {w : World} {b o n c : Nat} {l : List Int} (h : Sl iv 1 w (.slice (some ⟨b, o, none⟩) n c) l) (i : Nat) (hi : i ≤ l.length) : Sl iv 1 w (.slice (some ⟨b, o, none⟩) i c) (l.take i) := h.head i hi
theorem check_v (x : Val) (hx : x.fit) (w : World) : Calls Try.prog 20 #[x.v] w fun e w' => e = .returned (.int .i64 (if may x then 0 else 1)) ∧ Below w.heap.size w w' := check_is x.k x.n x.s hx w

set_option maxHeartbeats 8000000 in
theorem with_not (p : Option Addr) (c : Nat) (F : Val → List Int) (nb M : Nat) (hM : M ≤ 980) (hnb : nb ≤ 100) (x : Val) (hx : x.fit) (n : Int) (w : World) (h : Ix w p F nb M) (hno : ¬ isNew F x n) :
    Calls Try.prog 15 #[.agg #[.pointer p, .int .i64 c], x.v, .int .i64 n] w fun e w' => e = .returned (.agg #[.pointer p, .int .i64 c]) ∧ Ix w' p F nb M ∧ Below w.heap.size w w' := by
  have HIX : Hid (Ix w p F nb M) := h
  have HCK : Hid (∀ w', Calls Try.prog 20 #[x.v] w' fun e w'' => e = .returned (.int .i64 (if may x then 0 else 1)) ∧ Below w'.heap.size w' w'') := fun w' => check_v x hx w'
  have HNB : Hid (∀ w', Below w.heap.size w w' → Calls Try.prog 19 #[.agg #[.pointer p, .int .i64 c], x.v] w' fun e w'' => ∃ a cc, e = .returned (.slice a (F x).length cc) ∧ Sl iv 1 w'' (.slice a (F x).length cc) (F x) ∧ Below w'.heap.size w' w'' ∧ (F x = [] → a = none ∧ cc = 0)) := fun w' hb => numbers_is p c F nb M (by omega) (by omega) x hx w' (h.next hb)
  have hrise := h.rise x
  have hlen : (F x).length ≤ 980 := Nat.le_trans (h.less x) hM
  have HRL : Hid (Rise (F x) ∧ (F x).length ≤ 980) := ⟨hrise, hlen⟩
  have HNO : Hid (¬ isNew F x n) := hno
  obtain ⟨cx, hcx⟩ : ∃ cx : Int, (c : Int) = cx := ⟨_, rfl⟩
  by_cases hmy : may x
  · rw [if_pos hmy] at HCK
    have HIN : Hid (n ∈ F x) := by
      by_cases q : n ∈ F x
      · exact q
      · exact absurd ⟨hmy, q⟩ hno
    obtain ⟨k, m, s⟩ := x
    generalize F ⟨k, m, s⟩ = l at *
    have HO0 : Hid (Own3 w (((w.alloc (.cells #[.pointer p, .int .i64 c] 27)).alloc (.cells #[.int .i64 k, .int .i64 m, .string s] 24)).alloc (.cells #[.pointer none, .int .i64 0] 27)) p c k m s) := Own3.new w p c k m s
    clear h hno hrise hlen hx hmy hcx HNO
    go_enter Try.func15, Try.ntmps15
    go_wp2_with fail
    refine Calls.mono (HCK.out _) ?_; rintro e w1 ⟨rfl, k1⟩
    have HO1 : Hid (Own3 w w1 p c k m s) := HO0.out.next k1
    have x0 := HO1.out.x.cell (i := 0) rfl
    have x1 := HO1.out.x.cell (i := 1) rfl
    have v0 := HO1.out.v.cell (i := 0) rfl
    have v1 := HO1.out.v.cell (i := 1) rfl
    have v2 := HO1.out.v.cell (i := 2) rfl
    clear k1 HO0
    go_wp2_with fail
    refine Calls.mono (HNB.out _ HO1.out.b) ?_; rintro e w2 ⟨a, cc, rfl, hsl, k2, hem⟩
    have HO2 : Hid (Own3 w w2 p c k m s) := HO1.out.next k2
    have HBS : Hid (Calls Try.prog 21 #[.slice a l.length cc, .int .i64 n] w2 fun e w' => e = .returned (.tuple #[.int .i64 (lo l n : Nat), .bool true]) ∧ w' = w2) := by
      have := bsearch_is _ l HRL.out.1 (by have := HRL.out.2; omega) n w2 hsl
      rw [decide_eq_true HIN.out] at this
      exact this
    clear k2 hem hsl x0 x1 v0 v1 v2
    go_wp2_with fail
    refine Calls.mono HBS.out ?_; rintro e w3 ⟨rfl, rfl⟩
    have x0 := (HO2.out).x.cell (i := 0) rfl
    have x1 := (HO2.out).x.cell (i := 1) rfl
    have r0 : w3.cell? ⟨w.heap.size + 1 + 1, 0, none⟩ = some (.pointer none) := (HO2.out).r.cell rfl
    have r1 : w3.cell? ⟨w.heap.size + 1 + 1, 1, none⟩ = some (.int .i64 0) := (HO2.out).r.cell rfl
    have rf : ∀ j, w3.frozen? ⟨w.heap.size + 1 + 1, j, none⟩ = false := (HO2.out).r.fz
    obtain ⟨WE, hWE⟩ : ∃ WE, (w3.setCell ⟨w.heap.size + 1 + 1, 0, none⟩ (.pointer p)).setCell ⟨w.heap.size + 1 + 1, 1, none⟩ (.int .i64 c) = WE := ⟨_, rfl⟩
    have HRT : Hid ((loadVar 27 ⟨w.heap.size + 1 + 1, 0, none⟩).run Try.prog WE = .ok (.agg #[.pointer p, .int .i64 c]) WE ∧ Below w.heap.size w WE) := (HO2.out).ret p c hWE
    have HWE : Hid ((w3.setCell ⟨w.heap.size + 1 + 1, 0, none⟩ (.pointer p)).setCell ⟨w.heap.size + 1 + 1, 1, none⟩ (.int .i64 c) = WE) := hWE
    clear hWE
    go_wp2_with fail
    rw [HWE.out]
    refine bodyPost_ret (end_cell rfl rfl HRT.out.1) rfl ?_
    exact ⟨rfl, HIX.out.next HRT.out.2, HRT.out.2⟩
  · rw [if_neg hmy] at HCK
    obtain ⟨k, m, s⟩ := x
    have HO0 : Hid (Own3 w (((w.alloc (.cells #[.pointer p, .int .i64 c] 27)).alloc (.cells #[.int .i64 k, .int .i64 m, .string s] 24)).alloc (.cells #[.pointer none, .int .i64 0] 27)) p c k m s) := Own3.new w p c k m s
    clear h hno hrise hlen hx hmy hcx HNO HRL HNB
    go_enter Try.func15, Try.ntmps15
    go_wp2_with fail
    refine Calls.mono (HCK.out _) ?_; rintro e w1 ⟨rfl, k1⟩
    have HO1 : Hid (Own3 w w1 p c k m s) := HO0.out.next k1
    clear k1 HO0
    have x0 := (HO1.out).x.cell (i := 0) rfl
    have x1 := (HO1.out).x.cell (i := 1) rfl
    have r0 : w1.cell? ⟨w.heap.size + 1 + 1, 0, none⟩ = some (.pointer none) := (HO1.out).r.cell rfl
    have r1 : w1.cell? ⟨w.heap.size + 1 + 1, 1, none⟩ = some (.int .i64 0) := (HO1.out).r.cell rfl
    have rf : ∀ j, w1.frozen? ⟨w.heap.size + 1 + 1, j, none⟩ = false := (HO1.out).r.fz
    obtain ⟨WE, hWE⟩ : ∃ WE, (w1.setCell ⟨w.heap.size + 1 + 1, 0, none⟩ (.pointer p)).setCell ⟨w.heap.size + 1 + 1, 1, none⟩ (.int .i64 c) = WE := ⟨_, rfl⟩
    have HRT : Hid ((loadVar 27 ⟨w.heap.size + 1 + 1, 0, none⟩).run Try.prog WE = .ok (.agg #[.pointer p, .int .i64 c]) WE ∧ Below w.heap.size w WE) := (HO1.out).ret p c hWE
    have HWE : Hid ((w1.setCell ⟨w.heap.size + 1 + 1, 0, none⟩ (.pointer p)).setCell ⟨w.heap.size + 1 + 1, 1, none⟩ (.int .i64 c) = WE) := hWE
    clear hWE
    go_wp2_with fail
    rw [HWE.out]
    refine bodyPost_ret (end_cell rfl rfl HRT.out.1) rfl ?_
    exact ⟨rfl, HIX.out.next HRT.out.2, HRT.out.2⟩
set_option maxHeartbeats 8000000 in
theorem wo_not (p : Option Addr) (c : Nat) (F : Val → List Int) (nb M : Nat) (hM : M ≤ 980) (hnb : nb ≤ 100) (x : Val) (hx : x.fit) (n : Int) (w : World) (h : Ix w p F nb M) (hno : n ∉ F x) :
    Calls Try.prog 16 #[.agg #[.pointer p, .int .i64 c], x.v, .int .i64 n] w fun e w' => e = .returned (.agg #[.pointer p, .int .i64 c]) ∧ Ix w' p F nb M ∧ Below w.heap.size w w' := by
  have HIX : Hid (Ix w p F nb M) := h
  have HNB : Hid (∀ w', Below w.heap.size w w' → Calls Try.prog 19 #[.agg #[.pointer p, .int .i64 c], x.v] w' fun e w'' => ∃ a cc, e = .returned (.slice a (F x).length cc) ∧ Sl iv 1 w'' (.slice a (F x).length cc) (F x) ∧ Below w'.heap.size w' w'' ∧ (F x = [] → a = none ∧ cc = 0)) := fun w' hb => numbers_is p c F nb M (by omega) (by omega) x hx w' (h.next hb)
  have HRL : Hid (Rise (F x) ∧ (F x).length ≤ 980) := ⟨h.rise x, Nat.le_trans (h.less x) hM⟩
  have HNO : Hid (n ∉ F x) := hno
  obtain ⟨k, m, s⟩ := x
  generalize F ⟨k, m, s⟩ = l at *
  have HO0 : Hid (Own3 w (((w.alloc (.cells #[.pointer p, .int .i64 c] 27)).alloc (.cells #[.int .i64 k, .int .i64 m, .string s] 24)).alloc (.cells #[.pointer none, .int .i64 0] 27)) p c k m s) := Own3.new w p c k m s
  clear h hno hx
  go_enter Try.func16, Try.ntmps16
  go_wp2_with fail
  refine Calls.mono (HNB.out _ HO0.out.b) ?_; rintro e w2 ⟨a, cc, rfl, hsl, k2, hem⟩
  have HO2 : Hid (Own3 w w2 p c k m s) := HO0.out.next k2
  have HBS : Hid (Calls Try.prog 21 #[.slice a l.length cc, .int .i64 n] w2 fun e w' => e = .returned (.tuple #[.int .i64 (lo l n : Nat), .bool false]) ∧ w' = w2) := by
    have := bsearch_is _ l HRL.out.1 (by have := HRL.out.2; omega) n w2 hsl
    rw [decide_eq_false HNO.out] at this
    exact this
  clear k2 hem hsl
  go_wp2_with fail
  refine Calls.mono HBS.out ?_; rintro e w3 ⟨rfl, rfl⟩
  have x0 := (HO2.out).x.cell (i := 0) rfl
  have x1 := (HO2.out).x.cell (i := 1) rfl
  have r0 : w3.cell? ⟨w.heap.size + 1 + 1, 0, none⟩ = some (.pointer none) := (HO2.out).r.cell rfl
  have r1 : w3.cell? ⟨w.heap.size + 1 + 1, 1, none⟩ = some (.int .i64 0) := (HO2.out).r.cell rfl
  have rf : ∀ j, w3.frozen? ⟨w.heap.size + 1 + 1, j, none⟩ = false := (HO2.out).r.fz
  obtain ⟨WE, hWE⟩ : ∃ WE, (w3.setCell ⟨w.heap.size + 1 + 1, 0, none⟩ (.pointer p)).setCell ⟨w.heap.size + 1 + 1, 1, none⟩ (.int .i64 c) = WE := ⟨_, rfl⟩
  have HRT : Hid ((loadVar 27 ⟨w.heap.size + 1 + 1, 0, none⟩).run Try.prog WE = .ok (.agg #[.pointer p, .int .i64 c]) WE ∧ Below w.heap.size w WE) := (HO2.out).ret p c hWE
  have HWE : Hid ((w3.setCell ⟨w.heap.size + 1 + 1, 0, none⟩ (.pointer p)).setCell ⟨w.heap.size + 1 + 1, 1, none⟩ (.int .i64 c) = WE) := hWE
  clear hWE
  go_wp2_with fail
  rw [HWE.out]
  refine bodyPost_ret (end_cell rfl rfl HRT.out.1) rfl ?_
  exact ⟨rfl, HIX.out.next HRT.out.2, HRT.out.2⟩
end Go.Proofs.Ytgjeobmbfeinnaa
