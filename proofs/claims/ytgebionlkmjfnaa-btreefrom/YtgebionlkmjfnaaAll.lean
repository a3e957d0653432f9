/- All. -/
import Derived.Test.YtgebionlkmjfnaaTelC
namespace Go.Proofs.Ytgebionlkmjfnaa
open Go.ChangeShapes Go.WideShapes Go.RowKit
set_option linter.unusedVariables false
set_option maxRecDepth 100000

open Go.Shelf
attribute [local go_sem] Oper.semAt_some

/-- The tree of a value, as it is told. -/
theorem told_of {y N : Nat} {w0 : World} {J Jx : List Itm → World → Prop} {m0 : Nat} (hJ : AbidesFrom m0 J) (hm : ∀ pre A, J pre A → True)
    (hY : ∀ pre (x : Itm) W, J pre W → pre.length < N → ∀ m, YieldAt Fence.wide m Try.prog y #[.int .i64 x.1, .string x.2] W fun e W' => (e = .returned (.bool true) ∧ J (pre ++ [x]) W' ∧ Below w0.heap.size W W') ∨ (e = .returned (.bool false) ∧ Jx (pre ++ [x]) W')) : Told y N w0 J Jx := by
  refine ⟨fun m pre x W h1 h2 => YieldAt.mono (hY pre x W h1 h2 m) fun e W' h => ?_, fun pre A B h1 h2 => ?_⟩
  · rcases h with ⟨he, h⟩ | ⟨he, h⟩
    · exact ⟨true, he, .inl ⟨rfl, h⟩⟩
    · exact ⟨false, he, .inr ⟨rfl, h⟩⟩
  · exact hJ pre A B none h1 ⟨h2.os, h2.tape, h2.output, h2.size, fun k hk _ => h2.block k hk⟩ (fun r e => by cases e)
set_option maxHeartbeats 2000000 in
/-- 'All$1'. -/
theorem all1_in (n y Bt : Nat) (w0 : World) (J Jx : List Itm → World → Prop) (p : Option Addr) (k : Int) (l : List Itm) (hv : TreeV w0 p k l) (hT : Told y l.length w0 J Jx) (W : World) (hB : Below w0.heap.size w0 W) (hc : W.cell? ⟨Bt, 0, none⟩ = some (.pointer p)) (h0 : J [] W) :
    CallsIn Fence.wide n Try.prog 47 #[.func (.yield y) #[] #[], .pointer (some ⟨Bt, 0, none⟩)] W fun e W' => (∃ v, e = .returned v) ∧ ((∃ ys, ys = l ∧ J ys W') ∨ (∃ pre, pre <+: l ∧ Jx pre W')) := by
  have hdd : ∀ k : Nat, (Fence.wide.depth.isSome = true → 1 ≤ k) := fun k h => by cases h
  obtain ⟨_, _, h3⟩ := hv
  rcases h3 with ⟨rfl, rfl⟩ | ⟨b, d, t, rfl, e2, e3, e4⟩
  · have HJ : Hid (J [] W) := h0
    clear hT h0
    refine callsIn_of_wp Try.func47 rfl trivial ?_ rfl
    simp only [Try.ntmps47, List.size_toArray, List.length_cons, List.length_nil, Nat.reduceAdd, Nat.reduceSub, Array.replicate_succ, Array.replicate_zero, List.push_toArray, List.append_toArray, List.nil_append, List.cons_append]
    gi_wp2
    go_end0
    exact ⟨⟨_, rfl⟩, .inl ⟨[], rfl, HJ.out⟩⟩
  · have HA : Hid (∀ m, CallsIn Fence.wide m Try.prog 48 #[.pointer (some ⟨b, 0, none⟩), .func (.yield y) #[] #[]] W (TellP J Jx w0 l [])) := fun m => by
      have := tellAll_in y l.length w0 J Jx hT d b t 1 12 e2 (by omega) e3 m [] W h0 hB (by rw [e4]; simp)
      rw [e4] at this
      exact this
    clear hT h0 e2 e3 e4
    refine callsIn_of_wp Try.func47 rfl trivial ?_ rfl
    simp only [Try.ntmps47, List.size_toArray, List.length_cons, List.length_nil, Nat.reduceAdd, Nat.reduceSub, Array.replicate_succ, Array.replicate_zero, List.push_toArray, List.append_toArray, List.nil_append, List.cons_append]
    gi_wp2
    refine ⟨trivial, hdd _, (HA.out _).mono ?_⟩
    rintro e w4 ⟨b2, rfl, hp2⟩
    have HP2 : Hid _ := hp2
    clear hp2
    gi_wp2
    go_end0
    refine ⟨⟨_, rfl⟩, ?_⟩
    rcases HP2.out with ⟨_, h1, _⟩ | ⟨_, q, h1, h2⟩
    · exact .inl ⟨l, rfl, h1⟩
    · exact .inr ⟨q, h1, h2⟩
/-- All. -/
theorem all_in (n : Nat) (p : Option Addr) (k : Int) (w : World) :
    CallsIn Fence.wide n Try.prog 28 #[.agg #[.pointer p, .int .i64 k]] w fun e w' => e = .returned (.func (.func 47) #[] #[.pointer (some ⟨w.heap.size, 0, none⟩)]) ∧ w' = w.alloc (.cells #[.pointer p, .int .i64 k] 25) := by
  refine callsIn_of_wp Try.func28 rfl trivial ?_ rfl
  simp only [Try.ntmps28, List.size_toArray, List.length_cons, List.length_nil, Nat.reduceAdd, Nat.reduceSub, Array.replicate_succ, Array.replicate_zero, List.push_toArray, List.append_toArray, List.nil_append, List.cons_append]
  gi_wp2
  go_ret
  exact ⟨rfl, rfl⟩
theorem all_stops (n : Nat) (Bt : Nat) (p : Option Addr) (k : Int) (l : List Itm) (w0 w : World) (hv : TreeV w0 p k l) (hw : Below w0.heap.size w0 w) (hBt : Bt < w.heap.size) (hc : w.cell? ⟨Bt, 0, none⟩ = some (.pointer p)) :
    SeqStopsK Fence.wide n Try.prog 47 #[.pointer (some ⟨Bt, 0, none⟩)] (fun x : Itm => #[Value.int .i64 x.1, .string x.2]) (Below w0.heap.size) (fun ys => ys = l) (fun pre => pre <+: l) l.length w := fun y J Jx W hW hJ hJx hY h0 =>
  all1_in n y Bt w0 J Jx p k l hv (told_of hJ (fun _ _ _ => trivial) (fun pre x W h1 h2 m => YieldAt.anyDepth rfl m (hY pre x W h1 h2))) W (Below.less hw hW hw.size) ((hW.cell (p := ⟨Bt, 0, none⟩) hBt).trans hc) h0
end Go.Proofs.Ytgebionlkmjfnaa
