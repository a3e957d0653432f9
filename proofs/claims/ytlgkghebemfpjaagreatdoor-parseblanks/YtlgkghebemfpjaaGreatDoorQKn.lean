/- The grammar as a whole. -/
import Derived.Test.YtlgkghebemfpjaaGreatDoorQH2
import Derived.Test.YtlgkghebemfpjaaGreatDoorQD2
import Derived.Test.YtlgkghebemfpjaaGreatDoorQD3
import Derived.Test.YtlgkghebemfpjaaGreatDoorQD1
import Derived.Test.YtlgkghebemfpjaaGreatDoorQD4
import Derived.Test.YtlgkghebemfpjaaGreatDoorQD7
import Derived.Test.YtlgkghebemfpjaaGreatDoorQD8
import Derived.Test.YtlgkghebemfpjaaGreatDoorQD9
import Derived.Test.YtlgkghebemfpjaaGreatDoorQD11
import Derived.Test.YtlgkghebemfpjaaGreatDoorQFo
import Derived.Test.YtlgkghebemfpjaaGreatDoorQD12
import Derived.Test.YtlgkghebemfpjaaGreatDoorQJ2
import Derived.Test.YtlgkghebemfpjaaGreatDoorQK1
import Derived.Test.YtlgkghebemfpjaaGreatDoorQS4
namespace Go.Proofs.YtlgkghebemfpjaaGreatDoor.Pa
open Go.ChangeShapes Go.WideShapes Go.ChangeAt Go.RowKit
set_option linter.unusedVariables false
set_option maxRecDepth 100000
theorem knot_expr (E : PM X) (Q : PM Qy) (f : Nat) (hf0 : f ≤ 100000) (HM : MadeC)  (HE : Does XR 19 (fun F => #[ptr F]) E) (HQ : Does QR 31 (fun F => #[ptr F]) Q) : Does XR 19 (fun F => #[ptr F]) (exprM E Q f) := by
 have hnamed := named_does E f (call_does E f hf0 HM function_is HE)
 have hkey := keyAtom_does E Q f (choice_does E f hf0 HM HE) (fun a => exists_does Q a HQ)
 have hatom := atom_does E Q f hnamed (nested_does E Q HE HQ) hkey
 have hsum : Does XR 139 (fun F => #[ptr F]) (sumM E Q f) := sum_does _ f HM (product_does _ f HM (minus_does E Q f HM hatom f))
 have htest := test_does E Q f HM hsum (oneOf_does E Q f HM hsum (in_does E Q f hf0 HM HE HQ))
 exact expr_does E Q f HM (and_does _ f HM (not_does E Q f HM htest f))
theorem knot_query (E : PM X) (f : Nat) (hf0 : f ≤ 100000) (HE : Does XR 19 (fun F => #[ptr F]) E) : Does QR 31 (fun F => #[ptr F]) (queryM E f) :=
 query_does E f hf0 (selects_does E f hf0 HE)
theorem knot_does (f : Nat) (hf0 : f ≤ 100000) (HM : MadeC)  : ∀ g,Does XR 19 (fun F => #[ptr F]) (knotM f g).1 ∧ Does QR 31 (fun F => #[ptr F]) (knotM f g).2
 | 0 => ⟨fun w F A S _ _ _ _ hn => absurd rfl hn,fun w F A S _ _ _ _ hn => absurd rfl hn⟩
 | g + 1 => by
   obtain ⟨h1,h2⟩ := knot_does f hf0 HM g
   exact ⟨knot_expr _ _ f hf0 HM h1 h2,knot_query _ f hf0 h1⟩
end Go.Proofs.YtlgkghebemfpjaaGreatDoor.Pa
