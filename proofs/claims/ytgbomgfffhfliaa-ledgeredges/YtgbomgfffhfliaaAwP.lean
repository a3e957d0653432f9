/- What awake asks, without memory; a ledger that is had. -/
import Derived.Test.YtgbomgfffhfliaaRepB
namespace Go.Proofs.Ytgbomgfffhfliaa
open Go.ChangeShapes Go.WideShapes Go.RowKit
set_option linter.unusedVariables false
set_option maxRecDepth 100000

abbrev tS : ByteArray := ⟨#[115]⟩
abbrev tX : ByteArray := ⟨#[120]⟩
abbrev tY : ByteArray := ⟨#[121]⟩
abbrev tN : ByteArray := ⟨#[]⟩
abbrev noL : Led := ⟨[], [], [], 0⟩
def awOps : List Opn := [⟨1, tS, tX, tN, 5, 0, 0⟩, ⟨2, tS, tX, tN, 3, 0, 0⟩, ⟨3, tN, tN, tN, 0, 1, 0⟩, ⟨6, tS, tX, tY, 1, 0, 0⟩]
def awL : Led := ⟨[⟨tS, tX, 1, 0⟩, ⟨tS, tY, 1, 0⟩], [⟨1, tS, tX, 3, 1, 0⟩], [⟨1, tS, tX, 5, 1, 0⟩, ⟨2, tS, tX, -3, 3, 1⟩, ⟨3, tS, tX, -1, 6, 0⟩, ⟨4, tS, tY, 1, 6, 0⟩], 4⟩
theorem aw1 : rpL noL awOps = (awL, 4, 0) := by decide +kernel
theorem aw2 : mayL awL := by decide +kernel
theorem aw3 : apE awL ⟨4, tN, tN, tN, 0, 1, 0⟩ = 71 := by decide +kernel
theorem aw4 : vl ((findK awL.S tS tX).on - (findK awL.S tS tX).held) = 1 := by rfl
theorem aw5 : (findK awL.S tS tY) = ⟨tS, tY, 1, 0⟩ := by rfl
theorem no_may : mayL noL := by decide
theorem no_fit : Led.fit noL := ⟨fun x h => (by cases h), fun x h => (by cases h), fun x h => (by cases h), (by unfold i64b; decide)⟩
/-- A ledger that is had as a value. -/
structure Have (w : World) (a0 : Option Addr) (n0 c0 : Nat) (a1 : Option Addr) (n1 c1 : Nat) (a2 : Option Addr) (n2 c2 : Nat) (L : Led) : Prop where
  h0 : L.S.length = n0
  h1 : L.H.length = n1
  h2 : L.M.length = n2
  z0 : a0 = none → n0 = 0 ∧ c0 = 0
  z1 : a1 = none → n1 = 0 ∧ c1 = 0
  z2 : a2 = none → n2 = 0 ∧ c2 = 0
  li : Lies w a0 a1 a2 L
theorem Have.next {w w' : World} {a0 : Option Addr} {n0 c0 : Nat} {a1 : Option Addr} {n1 c1 : Nat} {a2 : Option Addr} {n2 c2 : Nat} {L : Led} (h : Have w a0 n0 c0 a1 n1 c1 a2 n2 c2 L) (k : Below w.heap.size w w') : Have w' a0 n0 c0 a1 n1 c1 a2 n2 c2 L := ⟨h.h0, h.h1, h.h2, h.z0, h.z1, h.z2, h.li.next k⟩
theorem Have.none (w : World) : Have w .none 0 0 .none 0 0 .none 0 0 noL := ⟨rfl, rfl, rfl, fun _ => ⟨rfl, rfl⟩, fun _ => ⟨rfl, rfl⟩, fun _ => ⟨rfl, rfl⟩, Rw.nil _ _ _ _, Rw.nil _ _ _ _, Rw.nil _ _ _ _⟩
theorem own_nil {w : World} {e k n0 m c : Nat} {a : Option Addr} {xs : List Value} (h : w.ownsRow 0 e k (.slice a n0 c) m xs) : m = n0 ∧ (a = none → n0 = 0 ∧ c = 0) := by
  rcases h.2 with ⟨q, rfl⟩ | ⟨g, cap, cur, q, _⟩
  · injection q with q1 q2 q3; subst q1; subst q2; subst q3; exact ⟨rfl, fun _ => ⟨rfl, rfl⟩⟩
  · injection q with q1 q2 q3; subst q1; subst q2; subst q3; exact ⟨rfl, fun q => by cases q⟩
theorem Have.of {w w' : World} {a0 : Option Addr} {n0 c0 : Nat} {a1 : Option Addr} {n1 c1 : Nat} {a2 : Option Addr} {n2 c2 : Nat} {L : Led} (h : Own3 w w' (.slice a0 n0 c0) (.slice a1 n1 c1) (.slice a2 n2 c2) L) : Have w' a0 n0 c0 a1 n1 c1 a2 n2 c2 L := by
  obtain ⟨b0, d0, e0, r0⟩ := own_rowS h.S
  obtain ⟨b1, d1, e1, r1⟩ := own_rowH h.H
  obtain ⟨b2, d2, e2, r2⟩ := own_rowM h.M
  injection e0 with x0 y0 z0
  injection e1 with x1 y1 z1
  injection e2 with x2 y2 z2
  subst x0; subst x1; subst x2
  exact ⟨y0.symm, y1.symm, y2.symm, (own_nil h.S).2, (own_nil h.H).2, (own_nil h.M).2, r0, r1, r2⟩
theorem Have.apply {w : World} {a0 : Option Addr} {n0 c0 : Nat} {a1 : Option Addr} {n1 c1 : Nat} {a2 : Option Addr} {n2 c2 : Nat} {L : Led} (h : Have w a0 n0 c0 a1 n1 c1 a2 n2 c2 L) (hm : mayL L) (hf : L.fit) (o : Opn) (ho : o.fit) :
    Calls Try.prog 11 #[lval a0 n0 c0 a1 n1 c1 a2 n2 c2 L.ops, oval o] w fun e w' => ApP w w' L o e := by
  have hl := lens hm
  have := h.h0; have := h.h1; have := h.h2
  exact apply_is a0 n0 c0 a1 n1 c1 a2 n2 c2 L h.h0 h.h1 h.h2 (by omega) (by omega) (by omega) h.z0 h.z1 h.z2 hf o ho w h.li
theorem opv_get (l : List Opn) (i j : Nat) (x : Opn) (hx : l[i]? = some x) (u : Value) (hu : (opv x)[j]? = some u) (hj : j < 7) : (l.flatMap opv)[i * 7 + j]? = some u := by
  induction l generalizing i with
  | nil => cases hx
  | cons y r ih =>
    cases i with
    | zero =>
      cases hx
      rw [List.flatMap_cons, List.getElem?_append_left (by simp [opv]; omega), Nat.zero_mul, Nat.zero_add]
      exact hu
    | succ i =>
      rw [List.flatMap_cons, List.getElem?_append_right (by simp [opv]; omega)]
      have := ih i hx
      rwa [show (i + 1) * 7 + j - (opv y).length = i * 7 + j by simp [opv]; omega]
theorem rw_of_cells {w : World} {B : Nat} {l : List Opn} (h : CellsF w B (l.flatMap opv)) : Rw opv 7 w (some ⟨B, 0, none⟩) l := fun _ => ⟨B, 0, rfl, fun i x hx j u hu => by
  have hj : j < 7 := by
    have := (List.getElem?_eq_some_iff.1 hu).1
    simp [opv] at this; omega
  rw [Nat.zero_add]
  exact h.cs _ _ (opv_get l i j x hx u hu hj)⟩
theorem rcv_is (sku loc : ByteArray) (n : Int) (w : World) : Calls Try.prog 23 #[.string sku, .string loc, .int .i64 n] w fun e w' => e = .returned (.agg #[.int .i64 1, .string sku, .string loc, .string ⟨#[]⟩, .int .i64 n, .int .i64 0, .int .i64 0]) ∧ Below w.heap.size w w' := by
  go_enter Try.func23, Try.ntmps23
  go_wp2_with fail
  try simp only [Exit.inBlock, Exit.then]
  first
    | (refine bodyPost_ret (end_cell rfl rfl (loadOp _ (CellsF.at _ 28 (by simp) rfl) rfl)) rfl ?_; exact ⟨rfl, below1 _ _⟩)
    | (go_ret; exact ⟨rfl, below1 _ _⟩)
end Go.Proofs.Ytgbomgfffhfliaa
