/- The document's disk: burns, Fuse. -/
import Derived.Test.YtlkkeabenklefaaAt
import Derived.Laws.ResultCell
namespace Go.Proofs.Ytlkkeabenklefaa
open Go.ChangeShapes Go.WideShapes Go.ChangeAt Go.RowKit
set_option linter.unusedVariables false

theorem end_cell_tmp {fn : Func} {p u : Tmp} {ty : TypeId} {b : Addr} {v : Value} {tmps : Array Value} {w : World} (h : fn.results = #[.cell p ty, .tmp u]) (hp : tmps.getD p undef = .pointer (some b)) (hl : (loadVar ty b).run Try.prog w = .ok v w) :
    (results fn tmps).run Try.prog w = .ok (.tuple #[v, tmps.getD u undef]) w := by
  rw [results_cell_tmp h, hp]
  simp [asAddr, hl, Result.andThen]
theorem end_cell {fn : Func} {p : Tmp} {ty : TypeId} {b : Addr} {v : Value} {tmps : Array Value} {w : World} (h : fn.results = #[.cell p ty]) (hp : tmps.getD p undef = .pointer (some b)) (hl : (loadVar ty b).run Try.prog w = .ok v w) :
    (results fn tmps).run Try.prog w = .ok v w := by
  have hp' : tmps[p]?.getD undef = .pointer (some b) := by rw [← Array.getD_eq_getD_getElem?]; exact hp
  simp only [results, h]
  simp [hp', asAddr, hl]
theorem load30 {w : World} {b : Nat} {c0 c1 c2 c3 : Value} (h0 : w.cell? ⟨b, 0, none⟩ = some c0) (h1 : w.cell? ⟨b, 1, none⟩ = some c1) (h2 : w.cell? ⟨b, 2, none⟩ = some c2) (h3 : w.cell? ⟨b, 3, none⟩ = some c3) : (loadVar 30 ⟨b, 0, none⟩).run Try.prog w = .ok (.agg #[c0, c1, c2, c3]) w := by
  have hl := loads [c0, c1, c2, c3] (n := 4) (w := w) (b := b) (o := 0) rfl (fun j x hx => by
    match j, hx with
    | 0, hx => cases hx; simpa using h0
    | 1, hx => cases hx; simpa using h1
    | 2, hx => cases hx; simpa using h2
    | 3, hx => cases hx; simpa using h3)
  simp [loadVar, Sem.run_bind, loadCells, hl]

/-- The document's fuse and power behind a write or a flush, and whether there was power. -/
def rburn (f : Int) (off : Bool) : Int × Bool × Bool := if off = true ∨ f = 0 then (-1, true, false) else (if 0 < f then f - 1 else f, false, true)

theorem ref_burns (a b : Option Addr) (n c m k : Nat) (f : Int) (off : Bool) (hf : -1 ≤ f ∧ f ≤ 9223372036854775807) (w : World) :
    Calls Try.prog 26 #[.agg #[.slice a n c, .slice b m k, .int .i64 f, .bool off]] w fun e w' =>
      e = .returned (.tuple #[.agg #[.slice a n c, .slice b m k, .int .i64 (rburn f off).1, .bool (rburn f off).2.1], .bool (rburn f off).2.2]) ∧ w' = (w.alloc (.cells #[.slice a n c, .slice b m k, .int .i64 (rburn f off).1, .bool (rburn f off).2.1] 30)).alloc (.cells #[.slice a n c, .slice b m k, .int .i64 (rburn f off).1, .bool (rburn f off).2.1] 30) := by
  unfold rburn
  cases off with
  | true =>
    rw [if_pos (.inl rfl)]
    go_enter Try.func26, Try.ntmps26
    go_wp2_with fail
    refine bodyPost_ret (end_cell_tmp rfl rfl (load30 (by simp [go_sem]; rfl) (by simp [go_sem]; rfl) (by simp [go_sem]; rfl) (by simp [go_sem]; rfl))) rfl ?_
    exact ⟨rfl, rfl⟩
  | false =>
    by_cases h0 : f = 0
    · rw [if_pos (.inr h0)]
      subst h0
      go_enter Try.func26, Try.ntmps26
      go_wp2_with fail
      refine bodyPost_ret (end_cell_tmp rfl rfl (load30 (by simp [go_sem]; rfl) (by simp [go_sem]; rfl) (by simp [go_sem]; rfl) (by simp [go_sem]; rfl))) rfl ?_
      exact ⟨rfl, rfl⟩
    · rw [if_neg (by simp [h0])]
      have h0' : (f == 0) = false := by simp [h0]
      by_cases hp : 0 < f
      · rw [if_pos hp]
        go_enter Try.func26, Try.ntmps26
        go_wp2_with fail
        refine bodyPost_ret (end_cell_tmp rfl rfl (load30 (by simp [go_sem]; rfl) (by simp [go_sem]; rfl) (by simp [go_sem]; rfl) (by simp [go_sem]; rfl))) rfl ?_
        exact ⟨rfl, rfl⟩
      · rw [if_neg hp]
        go_enter Try.func26, Try.ntmps26
        go_wp2_with fail
        refine bodyPost_ret (end_cell_tmp rfl rfl (load30 (by simp [go_sem]; rfl) (by simp [go_sem]; rfl) (by simp [go_sem]; rfl) (by simp [go_sem]; rfl))) rfl ?_
        exact ⟨rfl, rfl⟩

theorem ref_fuse (a b : Option Addr) (n c m k : Nat) (f : Int) (off : Bool) (x : Int) (w : World) :
    Calls Try.prog 18 #[.agg #[.slice a n c, .slice b m k, .int .i64 f, .bool off], .int .i64 x] w fun e w' =>
      e = .returned (.agg #[.slice a n c, .slice b m k, .int .i64 (max x (-1)), .bool off]) ∧ Kept (fun _ => False) w w' := by
  have hm := max_fuse x
  generalize max x (-1) = y at *
  go_enter Try.func18, Try.ntmps18
  go_wp2_with fail
  refine bodyPost_ret (end_cell rfl rfl (load30 (by simp [go_sem]; rfl) (by simp [go_sem]; rfl) (by simp [go_sem]; rfl) (by simp [go_sem]; rfl))) rfl ?_
  exact ⟨rfl, ((Kept.refl _ w).alloc _).alloc _⟩
end Go.Proofs.Ytlkkeabenklefaa
