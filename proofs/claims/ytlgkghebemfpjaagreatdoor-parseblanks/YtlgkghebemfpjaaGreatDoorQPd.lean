/- Deep: the walk. -/
import Derived.Test.YtlgkghebemfpjaaGreatDoorQEx
import Derived.Test.YtlgkghebemfpjaaGreatDoorQWt
import Derived.Deep.RegionHeld
namespace Go.Proofs.YtlgkghebemfpjaaGreatDoor.Pa
open Go.ChangeShapes Go.WideShapes Go.ChangeAt Go.RowKit
set_option linter.unusedVariables false
set_option maxRecDepth 100000
section
variable {P : Program} {ops : Array Oper} {Q : Exit → Act → World → Prop} {md : Region.Mode} {S : World → Prop} {n : Nat} {l : Array Bool} {a : Act} {w : World}
end
structure SD (W0 : World) (b2 b5 : Nat) (y0 y1 y2 y3 y4 y5 y6 y7 y8 y9 y10 y11 u0 u1 u2 u3 u4 u5 u6 u7 u8 u9 u10 u11 : Value) (W : World) : Prop where
 k : Kept (fun _ => False) W0 W
 r2 : W.heap[b2]? = some (.cells #[y0,y1,y2,y3,y4,y5,y6,y7,y8,y9,y10,y11] 27 (0,0))
 r5 : W.heap[b5]? = some (.cells #[u0,u1,u2,u3,u4,u5,u6,u7,u8,u9,u10,u11] 27 (0,0))
theorem SD.next {W0 : World} {b2 b5 : Nat} {y0 y1 y2 y3 y4 y5 y6 y7 y8 y9 y10 y11 u0 u1 u2 u3 u4 u5 u6 u7 u8 u9 u10 u11 : Value} {W W' : World} (h : SD W0 b2 b5 y0 y1 y2 y3 y4 y5 y6 y7 y8 y9 y10 y11 u0 u1 u2 u3 u4 u5 u6 u7 u8 u9 u10 u11 W) (k : Kept (fun _ => False) W W') : SD W0 b2 b5 y0 y1 y2 y3 y4 y5 y6 y7 y8 y9 y10 y11 u0 u1 u2 u3 u4 u5 u6 u7 u8 u9 u10 u11 W' :=
 ⟨h.k.trans k (fun i q => .inl q),(k.block _ (blk_lt h.r2) (fun z => z)).trans h.r2,(k.block _ (blk_lt h.r5) (fun z => z)).trans h.r5⟩
end Go.Proofs.YtlgkghebemfpjaaGreatDoor.Pa
