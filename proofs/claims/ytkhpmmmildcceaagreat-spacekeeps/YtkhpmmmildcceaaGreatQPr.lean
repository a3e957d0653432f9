/- Drop. -/
import Derived.Test.YtkhpmmmildcceaaGreatQPp
namespace Go.Proofs.YtkhpmmmildcceaaGreat
open Go.ChangeShapes Go.WideShapes Go.ChangeAt Go.RowKit
set_option linter.unusedVariables false
set_option maxRecDepth 100000
set_option maxRecDepth 100000

/-- What Drop answers. -/
def DropE (kd : UInt8) (cs : List Cel) (key : List UInt8) (p : Nat) (w : World) (e : Ending) (w' : World) : Prop :=
  ∃ k b, FindO cs key k b ∧ ((b = false ∧ e = .returned (.int .i64 3) ∧ Pg w' p (lay kd cs) ∧ Kept (fun _ => False) w w') ∨ (b = true ∧ e = .returned (.int .i64 0) ∧ Pg w' p (lay kd (cs.take k ++ cs.drop (k + 1))) ∧ okC (cs.take k ++ cs.drop (k + 1)) ∧ Kept (fun i => i = p) w w'))
theorem drop_ok (cs : List Cel) (k : Nat) (h : okC cs) : okC (cs.take k ++ cs.drop (k + 1)) := by
  refine ⟨fun c hc => ?_, ?_⟩
  · rcases List.mem_append.1 hc with hc | hc
    · exact h.1 c (List.mem_of_mem_take hc)
    · exact h.1 c (List.mem_of_mem_drop hc)
  · have h2 := h.2
    have e : tot cs = tot (cs.take k) + tot (cs.drop k) := by rw [← tot_append, List.take_append_drop]
    have e2 : tot (cs.drop (k + 1)) ≤ tot (cs.drop k) := by
      by_cases hk : k < cs.length
      · rw [List.drop_eq_getElem_cons hk]
        show _ ≤ csz cs[k] + tot (cs.drop (k + 1))
        omega
      · rw [List.drop_eq_nil_of_le (by omega), List.drop_eq_nil_of_le (by omega)]
        exact Nat.le_refl _
    rw [tot_append, List.length_append, List.length_take, List.length_drop]
    omega
end Go.Proofs.YtkhpmmmildcceaaGreat
