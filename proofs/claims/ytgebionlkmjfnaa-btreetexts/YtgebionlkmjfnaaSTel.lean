/- What a node tells. -/
import Derived.Test.YtgebionlkmjfnaaSWov
import Derived.RangeFuncNested
import Derived.RangeFuncBound
import Derived.RangeFuncCalls
import Derived.RangeFuncLeaves
import Derived.Shelf.Abstract
import Derived.Shelf.RegionOpen
import Derived.OwnWalkIn
import Derived.TacticsInMore
import Derived.LoopNIn
import Derived.LoopIn
import Derived.Sort.CutIn
namespace Go.Proofs.Ytgebionlkmjfnaa.Sx
open Go.ChangeShapes Go.WideShapes Go.RowKit
set_option linter.unusedVariables false
set_option maxRecDepth 100000

open Go.Shelf
attribute [local go_sem] Oper.semAt_some

theorem room_of_none {F : Fence} (hd : F.depth = none) (k : Nat) : F.room k := fun d h => by rw [hd] at h; cases h
theorem RoundIn.anyDepth {F : Fence} (hd : F.depth = none) {m m' : Nat} {P : Program} {l : Nat} {f : FuncId} {tmps : Array Value} {assign body : Code} {w : World} {R : Ending → World → Prop}
    (h : RoundIn F m P l f tmps assign body w R) : RoundIn F m' P l f tmps assign body w R := ⟨h.1, fun c cs _ => h.2 c cs (room_of_none hd _)⟩
theorem YieldAt.anyDepth {F : Fence} (hd : F.depth = none) {m : Nat} (m' : Nat) {P : Program} {l : Nat} {args : Array Value} {W : World} {R : Ending → World → Prop} (h : YieldAt F m P l args W R) : YieldAt F m' P l args W R := by
  obtain ⟨fn, tmps, assign, body, hy, hR⟩ := h
  exact ⟨fn, tmps, assign, body, hy, RoundIn.anyDepth hd hR⟩
/-- What is told, or a beginning of it. -/
def TellP (J Jx : List Itm → World → Prop) (w0 : World) (F pre : List Itm) (e : Ending) (W' : World) : Prop := ∃ bb : Bool, e = .returned (.bool bb) ∧ ((bb = true ∧ J (pre ++ F) W' ∧ Below w0.heap.size w0 W') ∨ (bb = false ∧ ∃ q, q <+: F ∧ Jx (pre ++ q) W'))
/-- Whoever is told. -/
structure Told (y N : Nat) (w0 : World) (J Jx : List Itm → World → Prop) : Prop where
  Y : ∀ m pre (x : Itm) W, J pre W → pre.length < N → YieldAt Fence.wide m Try.prog y #[.string x.1, .int .i64 x.2] W fun e W' => ∃ bb : Bool, e = .returned (.bool bb) ∧ ((bb = true ∧ J (pre ++ [x]) W' ∧ Below w0.heap.size W W') ∨ (bb = false ∧ Jx (pre ++ [x]) W'))
  B : ∀ pre A B, J pre A → Below A.heap.size A B → J pre B
end Go.Proofs.Ytgebionlkmjfnaa.Sx
