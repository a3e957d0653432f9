/-
  No cell of these rows narrows 'for every input' (looked for: loops, veiled, ifaces, maps, wideKeys, modest, calm, conditions, laid).
  DERIVED. THE GIVEN ROWS OF THIS SEAT. 4 by the template 'for every input the law returns true; each argument reads behind the call as it read before'; 0 by the template 'total and deterministic' (their statements: YtgebionlkmjfnaaTotals.lean).
  GIVEN WITH THE SEED: the statements are not yours to turn. If you find one false, say at which input.
  Laid BY PROGRAM, IN A SANDBOX (cutbox-rows.mjs): the forced cells as the released guide's own fill.sh prints them over the translation 44364bc1793bc46f… (all of the seat's roots in one cut). By AI agents, Wed Nov 11 2026. No macro, syntax, notation, axiom, sorry.
-/
import Derived.Test.YtgebionlkmjfnaaChecked
import GoSem.Claim
import GoSem.ClaimJoined
import GoSem.ClaimMapViews
import Derived.JoinedTies
import Derived.KernelRfl
namespace Go.Proofs.Ytgebionlkmjfnaa
/- THE CELL 'sum', in the pinned program and in every row, IS THE sha256 OF THE DUMP (.gsa) THAT YtgebionlkmjfnaaProg.lean LOADS. Nothing in Lean hashes anything: it is a label: what it is worth is what the hold of that sum in a sandbox is worth. -/
noncomputable def Try.pinned : Pinned := { name := "ytgebionlkmjfnaa", sum := "44364bc1793bc46f88c0fe520036da147e64c7736557c733bfe9be58475ab6a1", checked := Try.checked }
namespace Rows
def none {H : Type} : Left H := { results := [], args := [] }

/-- 'quaysidelaw09.BtreePlays': WHATEVER THE INPUT: true; the input reads as it did. -/
def btreePlaysSpec : ChangeSpec := { name := "btreePlays", fn := fun _ => fun
  | [d] => { results := [.lit (.bool true)], args := [d] }
  | _ => none }
def btreePlaysRow : OpenClaim := { program := "ytgebionlkmjfnaa", sum := "44364bc1793bc46f88c0fe520036da147e64c7736557c733bfe9be58475ab6a1", func := "quayside/quaysidelaw09.BtreePlays", spec := "btreePlays", unfollowed := true, recurses := true, apart := false }
def BtreePlaysSaid : Prop := btreePlaysRow.holds Try.pinned (OpenSpec.ofChange btreePlaysSpec)

/-- ITS FALSE NEIGHBOUR: 'it returns false'. Refute it at one input. -/
def btreePlaysWrong : ChangeSpec := { name := "btreePlays", fn := fun _ => fun
  | [d] => { results := [.lit (.bool false)], args := [d] }
  | _ => none }
def BtreePlaysWrongFalsely : Prop := btreePlaysRow.holds Try.pinned (OpenSpec.ofChange btreePlaysWrong)

/-- 'quaysidelaw09.BtreeStays': WHATEVER THE INPUT: true; the input reads as it did. -/
def btreeStaysSpec : ChangeSpec := { name := "btreeStays", fn := fun _ => fun
  | [d1, d2] => { results := [.lit (.bool true)], args := [d1, d2] }
  | _ => none }
def btreeStaysRow : OpenClaim := { program := "ytgebionlkmjfnaa", sum := "44364bc1793bc46f88c0fe520036da147e64c7736557c733bfe9be58475ab6a1", func := "quayside/quaysidelaw09.BtreeStays", spec := "btreeStays", unfollowed := true, recurses := true, apart := false }
def BtreeStaysSaid : Prop := btreeStaysRow.holds Try.pinned (OpenSpec.ofChange btreeStaysSpec)

/-- ITS FALSE NEIGHBOUR: 'it returns false'. Refute it at one input. -/
def btreeStaysWrong : ChangeSpec := { name := "btreeStays", fn := fun _ => fun
  | [d1, d2] => { results := [.lit (.bool false)], args := [d1, d2] }
  | _ => none }
def BtreeStaysWrongFalsely : Prop := btreeStaysRow.holds Try.pinned (OpenSpec.ofChange btreeStaysWrong)

/-- 'quaysidelaw09.BtreeFrom': WHATEVER THE INPUT: true; the input reads as it did. -/
def btreeFromSpec : ChangeSpec := { name := "btreeFrom", fn := fun _ => fun
  | [d1, d2, d3] => { results := [.lit (.bool true)], args := [d1, d2, d3] }
  | _ => none }
def btreeFromRow : OpenClaim := { program := "ytgebionlkmjfnaa", sum := "44364bc1793bc46f88c0fe520036da147e64c7736557c733bfe9be58475ab6a1", func := "quayside/quaysidelaw09.BtreeFrom", spec := "btreeFrom", unfollowed := true, recurses := true, apart := false }
def BtreeFromSaid : Prop := btreeFromRow.holds Try.pinned (OpenSpec.ofChange btreeFromSpec)

/-- ITS FALSE NEIGHBOUR: 'it returns false'. Refute it at one input. -/
def btreeFromWrong : ChangeSpec := { name := "btreeFrom", fn := fun _ => fun
  | [d1, d2, d3] => { results := [.lit (.bool false)], args := [d1, d2, d3] }
  | _ => none }
def BtreeFromWrongFalsely : Prop := btreeFromRow.holds Try.pinned (OpenSpec.ofChange btreeFromWrong)

/-- 'quaysidelaw09.BtreeTexts': WHATEVER THE INPUT: true; the input reads as it did. -/
def btreeTextsSpec : ChangeSpec := { name := "btreeTexts", fn := fun _ => fun
  | [d1, d2] => { results := [.lit (.bool true)], args := [d1, d2] }
  | _ => none }
def btreeTextsRow : OpenClaim := { program := "ytgebionlkmjfnaa", sum := "44364bc1793bc46f88c0fe520036da147e64c7736557c733bfe9be58475ab6a1", func := "quayside/quaysidelaw09.BtreeTexts", spec := "btreeTexts", unfollowed := true, recurses := true, apart := false }
def BtreeTextsSaid : Prop := btreeTextsRow.holds Try.pinned (OpenSpec.ofChange btreeTextsSpec)

/-- ITS FALSE NEIGHBOUR: 'it returns false'. Refute it at one input. -/
def btreeTextsWrong : ChangeSpec := { name := "btreeTexts", fn := fun _ => fun
  | [d1, d2] => { results := [.lit (.bool false)], args := [d1, d2] }
  | _ => none }
def BtreeTextsWrongFalsely : Prop := btreeTextsRow.holds Try.pinned (OpenSpec.ofChange btreeTextsWrong)

/- THE SECOND FORM. 'bulk': how many values and letters a reading holds, each counted each time it is reached (what is shared counts as often as it is met; a slice's spare places count too). A statement '..UptoSaid' is the law's where the arguments, and the package variables that the reading takes, are together of bulk at most 1048576: NARROWER than '..Said'. Prove '..Said' where nothing that the law and all that it calls make is longer than what came in: it says more and counts as full. Else prove '..UptoSaid'. A law counts once. -/
mutual
def uptoBulk {H : Type} : DataW H → Nat
  | .lit (.string bytes) => bytes.length + 1
  | .lit _ => 1
  | .nil => 1
  | .ptr d => uptoBulk d + 1
  | .slice elems spare => uptoBulkAll elems + uptoBulkAll spare + 1
  | .agg parts => uptoBulkAll parts + 1
  | .iface _ d => uptoBulk d + 1
  | .map entries => uptoBulkEntries entries + 1
  | .held _ => 1
def uptoBulkAll {H : Type} : List (DataW H) → Nat
  | [] => 0
  | d :: r => uptoBulk d + uptoBulkAll r
def uptoBulkEntries {H : Type} : List (Lit × DataW H) → Nat
  | [] => 0
  | x :: r => uptoBulkEntry x + uptoBulkEntries r
def uptoBulkEntry {H : Type} : Lit × DataW H → Nat
  | (.string bytes, d) => bytes.length + uptoBulk d + 1
  | (_, d) => uptoBulk d + 1
 end
def uptoSmall : (H : Type) → List (DataW H) → Bool := fun _ ds => decide (uptoBulkAll ds ≤ 1048576)
def OpenSpec.upto (s : _root_.Go.ChangeSpec) : _root_.Go.OpenSpec := { _root_.Go.OpenSpec.ofChange s with cond := some uptoSmall }

/-- 'quaysidelaw09.BtreePlays', WHERE WHAT IT READS IS OF BULK AT MOST 1048576: true; the input reads as it did. -/
def btreePlaysUptoRow : OpenClaim := { program := "ytgebionlkmjfnaa", sum := "44364bc1793bc46f88c0fe520036da147e64c7736557c733bfe9be58475ab6a1", func := "quayside/quaysidelaw09.BtreePlays", spec := "btreePlays", unfollowed := true, recurses := true, apart := false, narrowed := true }
def BtreePlaysUptoSaid : Prop := btreePlaysUptoRow.holds Try.pinned (OpenSpec.upto btreePlaysSpec)

/-- 'quaysidelaw09.BtreeStays', WHERE WHAT IT READS IS OF BULK AT MOST 1048576: true; the input reads as it did. -/
def btreeStaysUptoRow : OpenClaim := { program := "ytgebionlkmjfnaa", sum := "44364bc1793bc46f88c0fe520036da147e64c7736557c733bfe9be58475ab6a1", func := "quayside/quaysidelaw09.BtreeStays", spec := "btreeStays", unfollowed := true, recurses := true, apart := false, narrowed := true }
def BtreeStaysUptoSaid : Prop := btreeStaysUptoRow.holds Try.pinned (OpenSpec.upto btreeStaysSpec)

/-- 'quaysidelaw09.BtreeFrom', WHERE WHAT IT READS IS OF BULK AT MOST 1048576: true; the input reads as it did. -/
def btreeFromUptoRow : OpenClaim := { program := "ytgebionlkmjfnaa", sum := "44364bc1793bc46f88c0fe520036da147e64c7736557c733bfe9be58475ab6a1", func := "quayside/quaysidelaw09.BtreeFrom", spec := "btreeFrom", unfollowed := true, recurses := true, apart := false, narrowed := true }
def BtreeFromUptoSaid : Prop := btreeFromUptoRow.holds Try.pinned (OpenSpec.upto btreeFromSpec)

/-- 'quaysidelaw09.BtreeTexts', WHERE WHAT IT READS IS OF BULK AT MOST 1048576: true; the input reads as it did. -/
def btreeTextsUptoRow : OpenClaim := { program := "ytgebionlkmjfnaa", sum := "44364bc1793bc46f88c0fe520036da147e64c7736557c733bfe9be58475ab6a1", func := "quayside/quaysidelaw09.BtreeTexts", spec := "btreeTexts", unfollowed := true, recurses := true, apart := false, narrowed := true }
def BtreeTextsUptoSaid : Prop := btreeTextsUptoRow.holds Try.pinned (OpenSpec.upto btreeTextsSpec)

end Rows
end Go.Proofs.Ytgebionlkmjfnaa
