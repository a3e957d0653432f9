/- What LedgerEdges asks, without memory. -/
import Derived.Test.YtgbomgfffhfliaaAwk
namespace Go.Proofs.Ytgbomgfffhfliaa
open Go.ChangeShapes Go.WideShapes Go.RowKit
set_option linter.unusedVariables false
set_option maxRecDepth 100000

theorem and_16 (n : Int) : bits .and .i64 n 65535 = n % 65536 := by
  have h : (BitVec.ofInt 64 65535).toNat = 2 ^ 16 - 1 := by decide
  have key : (BitVec.ofInt 64 n &&& BitVec.ofInt 64 65535).toNat = (n % ((2 ^ 64 : Nat) : Int)).toNat % 2 ^ 16 := by
    rw [BitVec.toNat_and, BitVec.toNat_ofInt, h, Nat.and_two_pow_sub_one_eq_mod]
  show IntKind.i64.wrap ((BitVec.ofInt 64 n &&& BitVec.ofInt 64 65535).toNat : Nat) = n % 65536
  rw [key, IntKind.wrap_i64]
  omega
theorem doE_of {L : Led} {o : Opn} {e : Int} (hm : o.may) (he : errOf L o = e) (hops : L.ops < 4611686018427387904) : doE L o = e := by
  unfold doE
  rw [if_pos hm, he]
  by_cases h : e = 0
  · rw [if_pos h, if_neg (by omega), h]
  · rw [if_neg h]
theorem nS : name tS := by decide
theorem nX : name tX := by decide
theorem nY : name tY := by decide
theorem mayR {loc : ByteArray} (hl : name loc) {n : Int} (h : 1 ≤ n) : Opn.may ⟨1, tS, loc, tN, n, 0, 0⟩ := .inl ⟨rfl, ⟨nS, hl⟩, rfl, h, rfl, rfl⟩
theorem mayA {n : Int} (h : 1 ≤ n) : Opn.may ⟨7, tS, tX, tN, n, 0, 0⟩ := .inr (.inr (.inr (.inr (.inr ⟨rfl, ⟨nS, nX⟩, rfl, (by show ¬ n = 0; omega), rfl, rfl⟩))))
theorem mayT {n : Int} (h : 1 ≤ n) : Opn.may ⟨6, tS, tY, tX, n, 0, 0⟩ := .inr (.inr (.inr (.inr (.inl ⟨rfl, ⟨nS, nY⟩, nX, (by show ¬ tY = tX; decide), h, rfl, rfl⟩))))
theorem er_in {x : Int} (h : -9223372036854775808 ≤ x ∧ x ≤ 9223372036854775807) : er x = 0 := (vl_in h).2
theorem er_out {x : Int} (h : ¬ (-9223372036854775808 ≤ x ∧ x ≤ 9223372036854775807)) : er x = 10 := (vl_out h).2
def E1 (q : Int) : Led := ⟨[⟨tS, tX, q, 0⟩], [], [⟨1, tS, tX, q, 1, 0⟩], 1⟩
def E3 (q n : Int) : Led := ⟨[⟨tS, tX, q, 0⟩, ⟨tS, tY, n, 0⟩], [], [⟨1, tS, tX, q, 1, 0⟩, ⟨2, tS, tY, n, 1, 0⟩], 2⟩
def E1' (p q : Int) : Led := ⟨[⟨tS, tX, p, 0⟩], [], [⟨1, tS, tX, q, 1, 0⟩], 1⟩
def E3' (q p n : Int) : Led := ⟨[⟨tS, tX, q, 0⟩, ⟨tS, tY, p, 0⟩], [], [⟨1, tS, tX, q, 1, 0⟩, ⟨2, tS, tY, n, 1, 0⟩], 2⟩
theorem ed1 {q : Int} (h : 1 ≤ q ∧ q ≤ 9223372036854775807) : doE noL ⟨1, tS, tX, tN, q, 0, 0⟩ = 0 := by
  refine doE_of (mayR nX h.1) ?_ (by decide)
  show errR noL ⟨1, tS, tX, tN, q, 0, 0⟩ = 0
  unfold errR
  rw [show (findK noL.S tS tX).on = 0 from rfl, er_in (by show -9223372036854775808 ≤ 0 + q ∧ 0 + q ≤ 9223372036854775807; omega), if_neg (by omega)]
  exact if_pos (show room noL 1 0 1 by decide)
theorem ed1' (q : Int) : doL noL ⟨1, tS, tX, tN, q, 0, 0⟩ = E1 q := by
  have : doL noL ⟨1, tS, tX, tN, q, 0, 0⟩ = E1' (0 + q) q := by kernel_rfl
  rw [this, Int.zero_add]; rfl
theorem roomE1 (q : Int) : room (E1 q) 0 0 1 := ⟨by show ((1 : Nat) : Int) + 0 ≤ 4096; omega, by show ((0 : Nat) : Int) + 0 ≤ 4096; omega, by show ((1 : Nat) : Int) + 1 ≤ 4096; omega⟩
theorem roomE1' (q : Int) : room (E1 q) 1 0 1 := ⟨by show ((1 : Nat) : Int) + 1 ≤ 4096; omega, by show ((0 : Nat) : Int) + 0 ≤ 4096; omega, by show ((1 : Nat) : Int) + 1 ≤ 4096; omega⟩
theorem roomE3 (q n : Int) : room (E3 q n) 0 0 2 := ⟨by show ((2 : Nat) : Int) + 0 ≤ 4096; omega, by show ((0 : Nat) : Int) + 0 ≤ 4096; omega, by show ((2 : Nat) : Int) + 2 ≤ 4096; omega⟩
/-- Why as many can not come. -/
def ovr (q n : Int) : Int := if q + n ≤ 9223372036854775807 then 0 else 10
theorem ovr_er {q n : Int} (h : 0 ≤ q) (hn : 1 ≤ n) : er (q + n) = ovr q n := by
  unfold ovr
  by_cases c : q + n ≤ 9223372036854775807
  · rw [if_pos c, er_in (by omega)]
  · rw [if_neg c, er_out (by omega)]
theorem ed2 {q n : Int} (h : 0 ≤ q) (hn : 1 ≤ n) : doE (E1 q) ⟨1, tS, tX, tN, n, 0, 0⟩ = ovr q n := by
  refine doE_of (mayR nX hn) ?_ (by show (1 : Int) < _; omega)
  show errR (E1 q) ⟨1, tS, tX, tN, n, 0, 0⟩ = _
  unfold errR
  rw [show (findK (E1 q).S tS tX).on = q from rfl, show er (q + Opn.qty ⟨1, tS, tX, tN, n, 0, 0⟩) = ovr q n from ovr_er h hn]
  by_cases c : ovr q n = 0
  · rw [if_neg (fun e => e c), c]; exact if_pos (roomE1 q)
  · rw [if_pos c]
theorem ed3 {q n : Int} (h : 0 ≤ q) (hn : 1 ≤ n) : doE (E1 q) ⟨7, tS, tX, tN, n, 0, 0⟩ = ovr q n := by
  refine doE_of (mayA hn) ?_ (by show (1 : Int) < _; omega)
  show errA (E1 q) ⟨7, tS, tX, tN, n, 0, 0⟩ = _
  unfold errA
  rw [show (findK (E1 q).S tS tX).on = q from rfl, show (findK (E1 q).S tS tX).held = 0 from rfl, show er (q + Opn.qty ⟨7, tS, tX, tN, n, 0, 0⟩) = ovr q n from ovr_er h hn]
  by_cases c : ovr q n = 0
  · rw [if_neg (fun e => e c), c, if_neg (by show ¬ q + n < 0; omega)]; exact if_pos (roomE1 q)
  · rw [if_pos c]
theorem ed4 {q n : Int} (hn : 1 ≤ n ∧ n ≤ 9223372036854775807) : doE (E1 q) ⟨1, tS, tY, tN, n, 0, 0⟩ = 0 := by
  refine doE_of (mayR nY hn.1) ?_ (by show (1 : Int) < _; omega)
  show errR (E1 q) ⟨1, tS, tY, tN, n, 0, 0⟩ = _
  unfold errR
  rw [show (findK (E1 q).S tS tY).on = 0 from rfl, er_in (by show -9223372036854775808 ≤ 0 + n ∧ 0 + n ≤ 9223372036854775807; omega), if_neg (by omega)]
  exact if_pos (roomE1' q)
theorem ed4' (q n : Int) : doL (E1 q) ⟨1, tS, tY, tN, n, 0, 0⟩ = E3 q n := by
  have : doL (E1 q) ⟨1, tS, tY, tN, n, 0, 0⟩ = E3' q (0 + n) n := by kernel_rfl
  rw [this, Int.zero_add]; rfl
theorem ed5 {q n : Int} (h : 0 ≤ q) (hn : 1 ≤ n ∧ n ≤ 9223372036854775807) : doE (E3 q n) ⟨6, tS, tY, tX, n, 0, 0⟩ = ovr q n := by
  refine doE_of (mayT hn.1) ?_ (by show (2 : Int) < _; omega)
  show errT (E3 q n) ⟨6, tS, tY, tX, n, 0, 0⟩ = _
  unfold errT
  rw [show (findK (E3 q n).S tS tY).on = n from rfl, show (findK (E3 q n).S tS tY).held = 0 from rfl, (vl_in (by omega)).1, if_neg (by show ¬ n - 0 < n; omega), show (findK (E3 q n).S tS tX).on = q from rfl, show er (q + Opn.qty ⟨6, tS, tY, tX, n, 0, 0⟩) = ovr q n from ovr_er h hn.1]
  by_cases c : ovr q n = 0
  · rw [if_neg (fun e => e c), c]; exact if_pos (roomE3 q n)
  · rw [if_pos c]
theorem ed2' (q n : Int) : findK (doL (E1 q) ⟨1, tS, tX, tN, n, 0, 0⟩).S tS tX = ⟨tS, tX, q + n, 0⟩ := by kernel_rfl
theorem ed3' (q n : Int) : findK (doL (E1 q) ⟨7, tS, tX, tN, n, 0, 0⟩).S tS tX = ⟨tS, tX, q + n, 0⟩ := by kernel_rfl
theorem ed5' (q n : Int) : findK (doL (E3 q n) ⟨6, tS, tY, tX, n, 0, 0⟩).S tS tY = ⟨tS, tY, n + -n, 0⟩ := by kernel_rfl
/-- The ledger beside an answer. -/
def apL (L : Led) (o : Opn) : Led := if doE L o = 0 then doL L o else noL
theorem apL_may {L : Led} (hm : mayL L) (hf : L.fit) {o : Opn} (ho : o.fit) : mayL (apL L o) ∧ (apL L o).fit := by
  unfold apL
  by_cases h : doE L o = 0
  · rw [if_pos h]; exact do_may hm hf ho h
  · rw [if_neg h]; exact ⟨no_may, no_fit⟩
theorem Have.of3 {w' : World} {a0 : Option Addr} {n0 c0 : Nat} {a1 : Option Addr} {n1 c1 : Nat} {a2 : Option Addr} {n2 c2 : Nat} {L : Led} (hS : w'.ownsRow 0 50 4 (.slice a0 n0 c0) L.S.length (L.S.flatMap stv)) (hH : w'.ownsRow 0 44 6 (.slice a1 n1 c1) L.H.length (L.H.flatMap hlv)) (hM : w'.ownsRow 0 42 6 (.slice a2 n2 c2) L.M.length (L.M.flatMap mvv)) : Have w' a0 n0 c0 a1 n1 c1 a2 n2 c2 L := by
  obtain ⟨b0, d0, e0, r0⟩ := own_rowS hS
  obtain ⟨b1, d1, e1, r1⟩ := own_rowH hH
  obtain ⟨b2, d2, e2, r2⟩ := own_rowM hM
  injection e0 with x0 y0 z0
  injection e1 with x1 y1 z1
  injection e2 with x2 y2 z2
  subst x0; subst x1; subst x2
  exact ⟨y0.symm, y1.symm, y2.symm, (own_nil hS).2, (own_nil hH).2, (own_nil hM).2, r0, r1, r2⟩
/-- It is had wherever the blocks from one on are as they were. -/
def Far (w w' : World) (a0 : Option Addr) (n0 c0 : Nat) (a1 : Option Addr) (n1 c1 : Nat) (a2 : Option Addr) (n2 c2 : Nat) (L : Led) : Prop := ∀ w5 : World, (∀ g, w.heap.size ≤ g → w5.heap[g]? = w'.heap[g]?) → Have w5 a0 n0 c0 a1 n1 c1 a2 n2 c2 L
theorem Far.here {w w' : World} {a0 : Option Addr} {n0 c0 : Nat} {a1 : Option Addr} {n1 c1 : Nat} {a2 : Option Addr} {n2 c2 : Nat} {L : Led} (h : Far w w' a0 n0 c0 a1 n1 c1 a2 n2 c2 L) : Have w' a0 n0 c0 a1 n1 c1 a2 n2 c2 L := h w' (fun _ _ => rfl)
theorem Far.four {w w' : World} {a0 : Option Addr} {n0 c0 : Nat} {a1 : Option Addr} {n1 c1 : Nat} {a2 : Option Addr} {n2 c2 : Nat} {L : Led} (h : Far w w' a0 n0 c0 a1 n1 c1 a2 n2 c2 L) {B : Nat} (hB : B < w.heap.size) (u0 u1 u2 u3 : Value) : Have ((((w'.setCell ⟨B, 0, none⟩ u0).setCell ⟨B, 1, none⟩ u1).setCell ⟨B, 2, none⟩ u2).setCell ⟨B, 3, none⟩ u3) a0 n0 c0 a1 n1 c1 a2 n2 c2 L := h _ (fun g hg => by
  have n0 : g ≠ B := by omega
  rw [Below.heap_setCell _ _ _ _ n0, Below.heap_setCell _ _ _ _ n0, Below.heap_setCell _ _ _ _ n0, Below.heap_setCell _ _ _ _ n0])
/-- Apply, of a ledger that may be. -/
theorem Have.applied {w : World} {a0 : Option Addr} {n0 c0 : Nat} {a1 : Option Addr} {n1 c1 : Nat} {a2 : Option Addr} {n2 c2 : Nat} {L : Led} (h : Have w a0 n0 c0 a1 n1 c1 a2 n2 c2 L) (hm : mayL L) (hf : L.fit) (o : Opn) (ho : o.fit) :
    Calls Try.prog 11 #[.agg #[.slice a0 n0 c0, .slice a1 n1 c1, .slice a2 n2 c2, .int .i64 L.ops], oval o] w fun e w' => ∃ b0 k0 d0 b1 k1 d1 b2 k2 d2, e = .returned (.tuple #[.agg #[.slice b0 k0 d0, .slice b1 k1 d1, .slice b2 k2 d2, .int .i64 (apL L o).ops], .int .i64 (doE L o)]) ∧ Far w w' b0 k0 d0 b1 k1 d1 b2 k2 d2 (apL L o) ∧ Below w.heap.size w w' := by
  have e0 : apE L o = doE L o := by unfold apE; rw [if_pos hm]
  refine (h.apply hm hf o ho).mono ?_
  rintro e w' (⟨h1, h2, h3⟩ | ⟨h1, b0, k0, d0, b1, k1, d1, b2, k2, d2, h2, h3⟩)
  · rw [e0] at h1 h2
    have e1 : apL L o = noL := by unfold apL; rw [if_neg h1]
    rw [e1]
    exact ⟨Option.none, 0, 0, Option.none, 0, 0, Option.none, 0, 0, h2, fun w5 _ => Have.none _, h3⟩
  · rw [e0] at h1
    have e1 : apL L o = doL L o := by unfold apL; rw [if_pos h1]
    rw [e1, h1]
    exact ⟨_, _, _, _, _, _, _, _, _, h2, fun w5 hk => Have.of3 (ownsRow_kept h3.S (fun g hg => hk g (h3.n0 g hg))) (ownsRow_kept h3.H (fun g hg => hk g (h3.n1 g hg))) (ownsRow_kept h3.M (fun g hg => hk g (h3.n2 g hg))), h3.bel⟩
end Go.Proofs.Ytgbomgfffhfliaa
