/- ledger.Replay of a ledger that may be. -/
import Derived.Test.YtgbomgfffhfliaaApp
namespace Go.Proofs.Ytgbomgfffhfliaa
open Go.ChangeShapes Go.WideShapes Go.RowKit
set_option linter.unusedVariables false
set_option maxRecDepth 100000

theorem ch_may {L : Led} (hm : mayL L) (hf : L.fit) (o : Opn) (ho : o.fit) (hm0 : o.may) (he : errOf L o = 0) : mayL (chL L o) ∧ (chL L o).fit := by
  rcases kinds hm0 with k | k | k | k | k | k | k
  · have e1 : errOf L o = errR L o := by unfold errOf; rw [k]; rfl
    have e2 : chL L o = mvL L o.k o.sku o.loc o.qty 0 := by unfold chL; rw [k]; rfl
    rw [e1] at he
    have q := one_receive hm hf ho hm0 k he
    exact ⟨by rw [e2]; exact q.may, by rw [e2]; exact q.fit⟩
  · have e1 : errOf L o = errH L o := by unfold errOf; rw [k]; rfl
    have e2 : chL L o = holdL L o.sku o.loc o.qty o.due := by unfold chL; rw [k]; rfl
    rw [e1] at he
    have q := hold_of hm hf ho hm0 k he
    exact ⟨by rw [e2]; exact q.may, by rw [e2]; exact q.fit⟩
  · have e1 : errOf L o = errC L o := by unfold errOf; rw [k]; rfl
    rw [e1] at he
    obtain ⟨⟨x, hx, h0⟩, hr⟩ := errC_zero he
    have q := out_of hm hf ho (may34 hm0 (.inl k)) k hx h0 hr
    have e2 : chL L o = mvL (endL L (o.id - 1).toNat x 1) o.k x.sku x.loc (-x.qty) x.id := by unfold chL; rw [k, hx]; rfl
    exact ⟨by rw [e2]; exact q.may, by rw [e2]; exact q.fit⟩
  · have e1 : errOf L o = errU L o := by unfold errOf; rw [k]; rfl
    rw [e1] at he
    obtain ⟨x, hx, h0⟩ := errU_zero he
    have q := up_of hm hf (may34 hm0 (.inr k)) (.inr rfl) hx h0
    have e2 : chL L o = endL L (o.id - 1).toNat x 2 := by unfold chL; rw [k, hx]; rfl
    exact ⟨by rw [e2]; exact q.may, by rw [e2]; exact q.fit⟩
  · have e2 : chL L o = expL L o.due L.H.length := by unfold chL; rw [k]; rfl
    exact ⟨by rw [e2]; exact expL_may hm _ _, by rw [e2]; exact expL_fit hm hf _ _⟩
  · have e1 : errOf L o = errT L o := by unfold errOf; rw [k]; rfl
    have e2 : chL L o = mvL (mvL L o.k o.sku o.loc (-o.qty) 0) o.k o.sku o.to o.qty 0 := by unfold chL; rw [k]; rfl
    rw [e1] at he
    have q := tra_of hm hf ho hm0 k he
    exact ⟨by rw [e2]; exact q.may, by rw [e2]; exact q.fit⟩
  · have e1 : errOf L o = errA L o := by unfold errOf; rw [k]; rfl
    have e2 : chL L o = mvL L o.k o.sku o.loc o.qty 0 := by unfold chL; rw [k]; rfl
    rw [e1] at he
    have q := one_adjust hm hf ho hm0 k he
    exact ⟨by rw [e2]; exact q.may, by rw [e2]; exact q.fit⟩
theorem do_zero {L : Led} {o : Opn} (h : doE L o = 0) : o.may ∧ errOf L o = 0 ∧ L.ops < 4611686018427387904 := by
  unfold doE at h
  by_cases h1 : o.may
  · rw [if_pos h1] at h
    by_cases h2 : errOf L o = 0
    · rw [if_pos h2] at h
      by_cases h3 : 4611686018427387904 ≤ L.ops
      · rw [if_pos h3] at h; omega
      · exact ⟨h1, h2, by omega⟩
    · rw [if_neg h2] at h; exact absurd h h2
  · rw [if_neg h1] at h; omega
theorem do_may {L : Led} (hm : mayL L) (hf : L.fit) {o : Opn} (ho : o.fit) (h : doE L o = 0) : mayL (doL L o) ∧ (doL L o).fit := by
  obtain ⟨h1, h2, h3⟩ := do_zero h
  obtain ⟨q1, q2⟩ := ch_may hm hf o ho h1 h2
  have := hm.ops
  exact ⟨mayL_ops q1 (by omega), fit_ops q2 (by unfold i64b; omega)⟩
/-- A ledger behind operations, how many were done, and why the next one was not. -/
def rpL : Led → List Opn → Led × Int × Int
  | L, [] => (L, 0, 0)
  | L, o :: os => if doE L o = 0 then ((rpL (doL L o) os).1, (rpL (doL L o) os).2.1 + 1, (rpL (doL L o) os).2.2) else (L, 0, doE L o)
theorem end_cell_tmp2 {fn : Func} {p u x : Tmp} {ty : TypeId} {b : Addr} {v : Value} {tmps : Array Value} {w : World} (h : fn.results = #[.cell p ty, .tmp u, .tmp x]) (hp : tmps.getD p undef = .pointer (some b)) (hl : (loadVar ty b).run Try.prog w = .ok v w) :
    (results fn tmps).run Try.prog w = .ok (.tuple #[v, tmps.getD u undef, tmps.getD x undef]) w := by
  have hp' : tmps[p]?.getD undef = .pointer (some b) := by rw [← Array.getD_eq_getD_getElem?]; exact hp
  simp only [results, h]
  simp [hp', asAddr, hl]
/-- What Replay answers. -/
def RpP (w w' : World) (r : Led × Int × Int) (e : Ending) : Prop :=
  ∃ a0 n0 c0 a1 n1 c1 a2 n2 c2, e = .returned (.tuple #[lval a0 n0 c0 a1 n1 c1 a2 n2 c2 r.1.ops, .int .i64 r.2.1, .int .i64 r.2.2]) ∧ Own3 w w' (.slice a0 n0 c0) (.slice a1 n1 c1) (.slice a2 n2 c2) r.1
/-- Between two operations. -/
structure RpI (w w1 wr : World) (N : Nat) (l : List Opn) (r : Led × Int × Int) (k : Nat) : Prop where
  i : ∃ v0 v1 v2 Lk, LedO wr (fun k => k < w1.heap.size ∧ k ≠ N) N v0 v1 v2 Lk ∧ mayL Lk ∧ Lk.fit ∧ r = ((rpL Lk (l.drop k)).1, (rpL Lk (l.drop k)).2.1 + k, (rpL Lk (l.drop k)).2.2)
  b : Below w.heap.size w wr
  s : ∀ g, g < w1.heap.size → g ≠ N → wr.heap[g]? = w1.heap[g]?
end Go.Proofs.Ytgbomgfffhfliaa
