/- New lines between tokens turn nothing. -/
import Derived.Test.YtlgkghebemfpjaaGreatDoorQSm
import Derived.Test.YtlgkghebemfpjaaGreatDoorQEx
import Derived.Test.YtlgkghebemfpjaaGreatDoorQLPb
namespace Go.Proofs.YtlgkghebemfpjaaGreatDoor.Pa
open Go.ChangeShapes Go.WideShapes Go.ChangeAt Go.RowKit
set_option linter.unusedVariables false
set_option maxRecDepth 100000
theorem RX.zero : RX ⟨0,0,0,0, [], [], [],0,false,0,.none,.none⟩ ⟨0,0,0,0, [], [], [],0,false,0,.none,.none⟩ := ⟨rfl,rfl,rfl,rfl,rfl,rfl,rfl,rfl,rfl,RS.none .X,RS.none .Q⟩
theorem RQ.zero : RQ ⟨.none,.none,0,0⟩ ⟨.none,.none,0,0⟩ := ⟨RS.none .Se,RS.none .Ke,rfl,rfl⟩
def WE {α : Type} (R : α → α → Prop) : WR α → WR α → Prop
 | .out,.out => True
 | .no _ e,.no _ e' => e = e'
 | .yes x,.yes x' => R x x'
 | _,_ => False
theorem tks_sim {ts us : List (TK × Nat)} (h : us.map corep = ts.map corep) (a b : Nat) : SimS ⟨tks (ts ++ [(endT,a)]),0,0⟩ ⟨tks (us ++ [(endT,b)]),0,0⟩ := by
 have hl : us.length = ts.length := by have := congrArg List.length h; simpa using this
 refine ⟨?_,fun i t t' q q' => ?_,rfl,rfl⟩
 · show (tks (ts ++ [(endT,a)])).length = (tks (us ++ [(endT,b)])).length
   simp [tks,hl]
 · have q : (tks (ts ++ [(endT,a)]))[i]? = some t := q
   have q' : (tks (us ++ [(endT,b)]))[i]? = some t' := q'
   unfold tks at q q'
   rw [List.getElem?_map] at q q'
   by_cases hi : i < ts.length
   · rw [List.getElem?_append_left hi,List.getElem?_eq_getElem hi] at q
     rw [List.getElem?_append_left (by omega),List.getElem?_eq_getElem (by omega)] at q'
     cases q
     cases q'
     have e := congrArg (fun l => l[i]?) h
     simp only [List.getElem?_map,List.getElem?_eq_getElem hi,List.getElem?_eq_getElem (show i < us.length by omega),Option.map_some,Option.some.injEq] at e
     unfold corep core at e
     simp only [Prod.mk.injEq] at e
     exact ⟨e.1.symm,e.2.1.symm,e.2.2.symm⟩
   · rw [List.getElem?_append_right (by omega)] at q q'
     by_cases hz : i - ts.length = 0
     · rw [hz] at q
       rw [hl,hz] at q'
       cases q
       cases q'
       exact ⟨rfl,rfl,rfl⟩
     · obtain ⟨j,hj⟩ : ∃ j,i - ts.length = j + 1 := ⟨i - ts.length - 1,by omega⟩
       rw [hj] at q
       cases q
theorem wr_sim {α : Type} {s s' : PS} {P : α → α → Nat → Prop} {R : α → α → Prop} (hP : ∀ x x' d,P x x' d → R x x') {r r' : PR α} (h : SimAt s s' P r r') : WE R (toWR r) (toWR r') := by
 cases r <;> cases r' <;> first | exact h | exact False.elim h | skip
 obtain ⟨h1,d,_,h3⟩ := h
 unfold toWR
 simp only
 rw [h1.hd.k]
 split
 · rfl
 · exact hP _ _ d h3
theorem blanks_both {l : List UInt8} {ts : List (TK × Nat)} (h : HasT l ts) (hl : (blk (ts.map corep) ++ [10,32]).length ≤ 4096) :
 WE RX (exprW l) (exprW (blk (ts.map corep) ++ [10,32])) ∧ WE RQ (queryW l) (queryW (blk (ts.map corep) ++ [10,32])) := by
 obtain ⟨us,hu,hm⟩ := again_blk h hl
 generalize blk (ts.map corep) ++ [10,32] = L at hu hl ⊢
 have hs := tks_sim hm l.length L.length
 have hn : (tks (ts ++ [(endT,l.length)])).length ≤ 100000 := by
  have := tok_few l
  rw [h.eq] at this
  have e : (tks (ts ++ [(endT,l.length)])).length = (ts ++ [(endT,l.length)]).length := List.length_map _
  simp only at this
  omega
 have hk := sim_knot 5000 (n := 100000) (Nat.le_refl _) 5000
 have e1 : ∀ {α : Type} (m : PM α),wholeM m l = toWR (m ⟨tks (ts ++ [(endT,l.length)]),0,0⟩) := fun m => by
  unfold wholeM
  rw [h.eq]
  exact if_neg (fun q => q rfl)
 have e2 : ∀ {α : Type} (m : PM α),wholeM m L = toWR (m ⟨tks (us ++ [(endT,L.length)]),0,0⟩) := fun m => by
  unfold wholeM
  rw [hu.eq]
  exact if_neg (fun q => q rfl)
 refine ⟨?_, ?_⟩
 · unfold exprW
   rw [e1,e2]
   exact wr_sim (fun x x' d q => q.1) (hk.1 _ _ hs hn)
 · unfold queryW
   rw [e1,e2]
   exact wr_sim (fun x x' d q => q.1) (hk.2 _ _ hs hn)
end Go.Proofs.YtlgkghebemfpjaaGreatDoor.Pa
