/- A quoted text. -/
import Derived.Test.YtgokilochbnbaaaDoorRu
import Derived.Test.YtgokilochbnbaaaDoorShelf
import Derived.Lib.OthersKept
namespace Go.Proofs.YtgokilochbnbaaaDoor
open Go.ChangeShapes Go.WideShapes Go.ChangeAt Go.RowKit
set_option linter.unusedVariables false
set_option maxRecDepth 100000

theorem size_q (q : UInt8) : (⟨#[q]⟩ : ByteArray).size = 1 := rfl
theorem wrap_q (q : UInt8) (hq : q.toNat < 128) : wrap32 (((⟨#[q]⟩ : ByteArray)[0]'(by rw [size_q]; omega)).toNat : Int) = (q.toNat : Int) := by
  show wrap32 (q.toNat : Int) = _
  unfold wrap32; omega
theorem clo_mark (W : World) (B1 B2 : Nat) (q : UInt8) (hq : q.toNat < 128) (o : Bool) (C1 : W.cell? ⟨B1, 0, none⟩ = some (.string ⟨#[q]⟩)) (C2 : W.cell? ⟨B2, 0, none⟩ = some (.bool o)) (FZ : W.frozen? ⟨B2, 0, none⟩ = false) :
    Calls Tryd.prog 78 #[.int .i32 (q.toNat : Int), .pointer (some ⟨B1, 0, none⟩), .pointer (some ⟨B2, 0, none⟩)] W fun e w' => e = .returned (.bool true) ∧ w' = W.setCell ⟨B2, 0, none⟩ (.bool (!o)) := by
  have hz : (0 : Int) < ((⟨#[q]⟩ : ByteArray).size : Int) := Int.zero_lt_one
  have h0 : wrap32 (((⟨#[q]⟩ : ByteArray)[0]'(by rw [size_q]; omega)).toNat : Int) = (q.toNat : Int) := wrap_q q hq
  go_enter Tryd.func78, Tryd.ntmps78
  go_wp2
  go_ret
  exact ⟨rfl, rfl⟩
theorem clo_other (W : World) (B1 B2 : Nat) (q : UInt8) (hq : q.toNat < 128) (r : Int) (hr : (r == (q.toNat : Int)) = false) (o : Bool) (C1 : W.cell? ⟨B1, 0, none⟩ = some (.string ⟨#[q]⟩)) (C2 : W.cell? ⟨B2, 0, none⟩ = some (.bool o)) :
    Calls Tryd.prog 78 #[.int .i32 r, .pointer (some ⟨B1, 0, none⟩), .pointer (some ⟨B2, 0, none⟩)] W fun e w' => e = .returned (.bool o) ∧ w' = W := by
  have hz : (0 : Int) < ((⟨#[q]⟩ : ByteArray).size : Int) := Int.zero_lt_one
  have h0 : wrap32 (((⟨#[q]⟩ : ByteArray)[0]'(by rw [size_q]; omega)).toNat : Int) = (q.toNat : Int) := wrap_q q hq
  go_enter Tryd.func78, Tryd.ntmps78
  go_wp2
  go_ret
  exact ⟨rfl, rfl⟩

/-- Whether a byte belongs to a quoted text, and whether it stands open behind. -/
def fq (q : UInt8) (o : Bool) (c : UInt8) : Option Bool := if c = q then some (!o) else if o then some o else none
theorem fq_steps (q : UInt8) (hq : q.toNat < 128) : Steps (fq q) (fun o => o) := ⟨fun st c h => by
  unfold fq
  rw [if_neg (fun e => by rw [e] at h; omega)]⟩
/-- The boxes of a mark and of whether it stands open, and the place. -/
structure QS (W : World) (B B1 B2 B3 : Nat) (s : ByteArray) (q : UInt8) (o : Bool) (pos : Nat) : Prop where
  c1 : W.cell? ⟨B1, 0, none⟩ = some (.string ⟨#[q]⟩)
  c2 : W.cell? ⟨B2, 0, none⟩ = some (.bool o)
  fz : W.frozen? ⟨B2, 0, none⟩ = false
  it : W.heap[B3]? = some (.stringIter s pos)
  ne : B1 ≠ B3 ∧ B2 ≠ B3 ∧ B1 ≠ B2
  lo : B ≤ B1 ∧ B ≤ B2 ∧ B ≤ B3
theorem QS.on {W : World} {B B1 B2 B3 : Nat} {s : ByteArray} {q : UInt8} {o : Bool} {pos : Nat} (h : QS W B B1 B2 B3 s q o pos) (pos' : Nat) : QS (W.iterAt B3 s pos') B B1 B2 B3 s q o pos' :=
  ⟨(World.cell?_of_block (a := ⟨B1, 0, none⟩) (Lib.iterAt_other W B3 B1 s pos' h.ne.1)).trans h.c1, (World.cell?_of_block (a := ⟨B2, 0, none⟩) (Lib.iterAt_other W B3 B2 s pos' h.ne.2.1)).trans h.c2,
    (World.frozen?_of_block (a := ⟨B2, 0, none⟩) (Lib.iterAt_other W B3 B2 s pos' h.ne.2.1)).trans h.fz, Lib.iterAt_heap W B3 s pos pos' h.it, h.ne, h.lo⟩
theorem QS.turn {W : World} {B B1 B2 B3 : Nat} {s : ByteArray} {q : UInt8} {o : Bool} {pos : Nat} (h : QS W B B1 B2 B3 s q o pos) : QS (W.setCell ⟨B2, 0, none⟩ (.bool (!o))) B B1 B2 B3 s q (!o) pos := by
  have hb : ∀ b, b ≠ B2 → (W.setCell ⟨B2, 0, none⟩ (.bool (!o))).heap[b]? = W.heap[b]? := fun b hb => heap_setCell_other W ⟨B2, 0, none⟩ b (.bool (!o)) hb
  refine ⟨(World.cell?_of_block (a := ⟨B1, 0, none⟩) (hb B1 h.ne.2.2)).trans h.c1, World.cell?_setCell_same' _ _ _ (by rw [h.c2]; rfl), (World.frozen?_setCells B2 [.bool (!o)] 0 W _).trans h.fz, (hb B3 (Ne.symm h.ne.2.1)).trans h.it, h.ne, h.lo⟩
end Go.Proofs.YtgokilochbnbaaaDoor
