/- The parser, without a program. How deep a tree is. What lies in memory: trees of leaves, and a parser. -/
import Derived.WalkKit
import Derived.Test.YtlgkghebemfpjaaGreatDoorRows
import Derived.ChangeAt
import Derived.ChangeShapes
import Derived.Shelf.Strings.MapAny
import Derived.ProofKit
import Derived.OpenShut
import Derived.WalkSpells
import Derived.Handy
import Derived.Below
import Derived.Laws.OwnMore
import Derived.Laws.AppendOwn
import Derived.WalkLawsBesides
import Derived.Laws.Tables
import Derived.Laws.Rows
import Derived.Recover
import Derived.Deep.RegionHeld
namespace Go.Proofs.YtlgkghebemfpjaaGreatDoor.Pa
open Go.ChangeShapes Go.WideShapes Go.ChangeAt Go.RowKit
set_option linter.unusedVariables false
set_option maxRecDepth 100000
inductive DT where
 | i (n : Int)
 | p (n : Int)
 | s (b : List UInt8)
 | b (x : Bool)
 | sl (n : Nat) (l : List DT)
mutual
def DT.dep : DT → Nat
 | .sl _ l => DT.depL 0 l
 | _ => 0
def DT.depL : Nat → List DT → Nat
 | _, [] => 0
 | j,d :: ds => max (if j % 12 = 10 then 1 + d.dep else 0) (DT.depL (j + 1) ds)
end
structure Sl where
 n : Nat
 l : List DT
def Sl.none : Sl := ⟨0, []⟩
def Sl.dt (s : Sl) : DT := .sl s.n s.l
structure Tk where
 k : Int
 t : List UInt8
 n : Int
 a : Int
structure X where
 k : Int
 op : Int
 vk : Int
 vn : Int
 vs : List UInt8
 tb : List UInt8
 nm : List UInt8
 col : Int
 dn : Bool
 a : Int
 ar : Sl
 sb : Sl
def X.flat (x : X) : List DT := [.i x.k,.i x.op,.i x.vk,.i x.vn,.s x.vs,.s x.tb,.s x.nm,.i x.col,.b x.dn,.p x.a,x.ar.dt,x.sb.dt]
def X.deep (x : X) : Nat := 1 + DT.depL 0 x.ar.l
structure It where
 star : Bool
 x : X
 asn : List UInt8
def It.flat (x : It) : List DT := .b x.star :: (x.x.flat ++ [.s x.asn])
structure So where
 tb : List UInt8
 asn : List UInt8
 left : Bool
 on : Sl
 a : Int
def So.flat (x : So) : List DT := [.s x.tb,.s x.asn,.b x.left,x.on.dt,.p x.a]
structure Ke where
 pl : Int
 nm : List UInt8
 dn : Bool
 a : Int
def Ke.flat (x : Ke) : List DT := [.i x.pl,.s x.nm,.b x.dn,.p x.a]
structure Se where
 how : Int
 di : Bool
 it : Sl
 fr : Sl
 wh : Sl
 gr : Sl
 hv : Sl
def Se.flat (x : Se) : List DT := [.i x.how,.b x.di,x.it.dt,x.fr.dt,x.wh.dt,x.gr.dt,x.hv.dt]
structure Qy where
 se : Sl
 od : Sl
 li : Int
 off : Int
def Qy.flat (x : Qy) : List DT := [x.se.dt,x.od.dt,.i x.li,.i x.off]
structure Wh where
 c : X
 v : X
def Wh.flat (x : Wh) : List DT := x.c.flat ++ x.v.flat
structure PS where
 ts : List Tk
 wi : Int
 bar : Int
inductive PR (α : Type) where
 | out
 | bad (a e : Int)
 | ok (x : α) (s : PS)
def PM (α : Type) := PS → PR α
def PM.ret {α : Type} (x : α) : PM α := fun s => .ok x s
def PM.then {α β : Type} (m : PM α) (f : α → PM β) : PM β := fun s => match m s with
 | .out => .out
 | .bad a e => .bad a e
 | .ok x s' => f x s'
instance : Monad PM where
 pure := PM.ret
 bind := PM.then
def endTk : Tk := ⟨0, [],0,0⟩
def PS.hd (s : PS) : Tk := s.ts.headD endTk
def refuseM {α : Type} : PM α := fun s => .bad s.hd.a 170
def barM (e : Int) : PM Unit := fun s => .ok () (if s.bar = 0 then { s with bar := e } else s)
def enterM : PM Unit := fun s => .ok () { s with wi := wrap64 (s.wi + 1),bar := if 32 < wrap64 (s.wi + 1) ∧ s.bar = 0 then 171 else s.bar }
def leaveM : PM Unit := fun s => .ok () { s with wi := wrap64 (s.wi - 1) }
def takeM : PM Tk := fun s => if s.bar ≠ 0 then .bad s.hd.a s.bar else .ok s.hd { s with ts := s.ts.tail }
def kindM (k : Int) : PM Tk := fun s => if s.hd.k ≠ k then .bad s.hd.a 170 else takeM s
def isT (t : Tk) (x : List UInt8) : Bool := (decide (t.k = 2) || decide (t.k = 5)) && (t.t == x)
def seesB (x : List UInt8) (s : PS) : Bool := isT s.hd x
def skipM (x : List UInt8) : PM Bool := fun s => if seesB x s then (takeM.then fun _ => PM.ret true) s else .ok false s
def needM (x : List UInt8) : PM Unit := (skipM x).then fun b => if b then PM.ret () else refuseM
def tail1 (s : PS) : Tk := s.ts.tail.headD endTk
def listG {α : Type} (fl : α → List DT) (most : Nat) (one : PM α) (more : PM Bool) : Nat → Sl → PM Sl
 | 0,_ => fun _ => .out
 | f + 1,l => more.then fun b => if b then ((if l.n = most then barM 2 else PM.ret ()).then fun _ => one.then fun x => listG fl most one more f ⟨l.n + 1,l.l ++ fl x⟩) else PM.ret l
def listM {α : Type} (fl : α → List DT) (most : Nat) (one : PM α) (more : PM Bool) (f : Nat) : PM Sl := one.then fun x => listG fl most one more f ⟨1,fl x⟩
def litX (a : Int) (vk vn : Int) (vs : List UInt8) : X := ⟨1,0,vk,vn,vs, [], [],0,false,a,.none,.none⟩
def opX (k op : Int) (dn : Bool) (a : Int) (n : Nat) (l : List DT) (sb : Sl) : X := ⟨k,op,0,0, [], [], [],0,dn,a,⟨n,l⟩,sb⟩
mutual
def DT.okE : DT → Bool
 | .sl n l => decide (n ≤ 9223372036854775807) && (l.length == n * 12 && DT.okL 0 l)
 | _ => false
def DT.okL : Nat → List DT → Bool
 | _, [] => true
 | j,d :: ds => (if j % 12 = 10 then d.okE else true) && DT.okL (j + 1) ds
end
def madeM (x : X) : PM X := fun s => if x.ar.dt.okE = true then (if 32 < x.deep then .bad x.a 171 else .ok x s) else .out
def betweenF (t : List UInt8) : Int × Int :=
 if (t == [79,82]) = true then (5,1) else if (t == [65,78,68]) = true then (6,2) else if (t == [61]) = true then (7,3) else if (t == [60,62]) = true then (8,3) else if (t == [60]) = true then (9,3) else if (t == [60,61]) = true then (10,3) else if (t == [62]) = true then (11,3) else if (t == [62,61]) = true then (12,3)
 else if (t == [43]) = true then (13,4) else if (t == [45]) = true then (14,4) else if (t == [124,124]) = true then (18,4) else if (t == [42]) = true then (15,5) else if (t == [47]) = true then (16,5) else if (t == [37]) = true then (17,5) else (0,0)
def keysign (t : Tk) : Bool := decide (t.k = 2) || decide (t.k = 5)
def operationM (lv : Int) : PM Int := fun s => if (betweenF s.hd.t).2 = lv ∧ keysign s.hd = true then (takeM.then fun _ => PM.ret (betweenF s.hd.t).1) s else .ok 0 s
def chainG (one : PM X) (lv : Int) : Nat → X → PM X
 | 0,_ => fun _ => .out
 | f + 1,e => (operationM lv).then fun op => if op = 0 then PM.ret e else one.then fun b => (madeM (opX 4 op false e.a 2 (e.flat ++ b.flat) .none)).then fun e' => chainG one lv f e'
def chainM (one : PM X) (lv : Int) (f : Nat) : PM X := one.then fun e => chainG one lv f e
def aheadM (op : Int) (one : PM X) : PM X := enterM.then fun _ => takeM.then fun t => one.then fun x => (madeM (opX 3 op false t.a 1 x.flat .none)).then fun e => leaveM.then fun _ => PM.ret e
def commaM : PM Bool := skipM [44]
def capI (r : Int) : Int := if 97 ≤ r ∧ r ≤ 122 then r - 97 + 65 else r
structure Fu where
 kind : Int
 op : Int
 least : Int
 most : Int
def functionF (name : List UInt8) : Fu :=
 let t := Lib.mapD capI name
 if (t == [67,79,85,78,84]) = true then ⟨5,20,1,1⟩ else if (t == [83,85,77]) = true then ⟨5,21,1,1⟩ else if (t == [77,73,78]) = true then ⟨5,22,1,1⟩ else if (t == [77,65,88]) = true then ⟨5,23,1,1⟩ else if (t == [65,66,83]) = true then ⟨10,24,1,1⟩ else if (t == [76,69,78,71,84,72]) = true then ⟨10,25,1,1⟩
 else if (t == [85,80,80,69,82]) = true then ⟨10,26,1,1⟩ else if (t == [76,79,87,69,82]) = true then ⟨10,27,1,1⟩ else if (t == [83,85,66,83,84,82]) = true then ⟨10,28,3,3⟩ else if (t == [78,85,76,76,73,70]) = true then ⟨10,30,2,2⟩ else if (t == [67,79,65,76,69,83,67,69]) = true then ⟨10,29,1,16⟩ else if (t == [76,69,65,83,84]) = true then ⟨10,31,1,16⟩ else if (t == [71,82,69,65,84,69,83,84]) = true then ⟨10,32,1,16⟩ else ⟨0,0,0,0⟩
section
variable (E : PM X) (Q : PM Qy) (f : Nat)
def exprsM : PM Sl := listM X.flat 16 E commaM f
def existsM (a : Int) : PM X := (needM [40]).then fun _ => Q.then fun q => (needM [41]).then fun _ => PM.ret ⟨13,0,0,0, [], [], [],0,false,a,.none,⟨1,q.flat⟩⟩
def whenM : PM Wh := (needM [87,72,69,78]).then fun _ => E.then fun c => (needM [84,72,69,78]).then fun _ => E.then fun v => PM.ret ⟨c,v⟩
def choiceM (a : Int) : PM X := (listM Wh.flat 16 (whenM E) (fun s => .ok (seesB [87,72,69,78] s) s) f).then fun l => (skipM [69,76,83,69]).then fun b => (if b then E else PM.ret (litX 0 0 0 [])).then fun last => (needM [69,78,68]).then fun _ => madeM (opX 6 0 false a (2 * l.n + 1) (l.l ++ last.flat) .none)
def nestedIn : PM X := fun s => if seesB [83,69,76,69,67,84] s then (Q.then fun q => PM.ret (⟨11,0,0,0, [], [], [],0,false,s.hd.a,.none,⟨1,q.flat⟩⟩ : X)) s else E s
def nestedM : PM X := (needM [40]).then fun _ => (nestedIn E Q).then fun e => (needM [41]).then fun _ => PM.ret e
def keyAtomM : PM X := fun s => ((skipM [84,82,85,69]).then fun b => if b then PM.ret (litX s.hd.a 3 1 []) else (skipM [70,65,76,83,69]).then fun b => if b then PM.ret (litX s.hd.a 3 0 []) else (skipM [78,85,76,76]).then fun b => if b then PM.ret (litX s.hd.a 0 0 []) else (skipM [67,65,83,69]).then fun b => if b then choiceM E f s.hd.a else (skipM [69,88,73,83,84,83]).then fun b => if b then existsM Q s.hd.a else refuseM) s
def argsM (all : Bool) : PM Sl := fun s => if all = false ∧ seesB [41] s = false then exprsM E f s else .ok .none s
def callM : PM X := fun s => if (functionF s.hd.t).op = 0 then .bad s.hd.a 170 else
 (takeM.then fun _ => (needM [40]).then fun _ => (skipM [42]).then fun all => (argsM E f all).then fun l => (needM [41]).then fun _ =>
  if all = true ∧ (functionF s.hd.t).op = 20 then PM.ret (opX (functionF s.hd.t).kind 19 false s.hd.a l.n l.l .none) else
  if (l.n : Int) < (functionF s.hd.t).least ∨ (functionF s.hd.t).most < (l.n : Int) then (fun _ => .bad s.hd.a 170) else madeM (opX (functionF s.hd.t).kind (functionF s.hd.t).op false s.hd.a l.n l.l .none)) s
def colX (a : Int) (tb nm : List UInt8) : X := ⟨2,0,0,0, [],tb,nm,0,false,a,.none,.none⟩
def namedM : PM X := fun s => if isT (tail1 s) [40] = true then callM E f s else (takeM.then fun t => (skipM [46]).then fun b => if b then (kindM 1).then fun u => PM.ret (colX t.a t.t u.t) else PM.ret (colX t.a [] t.t)) s
def atomM : PM X := fun s => if s.hd.k = 3 then (takeM.then fun t => PM.ret (litX t.a 1 s.hd.n [])) s else if s.hd.k = 4 then (takeM.then fun t => PM.ret (litX t.a 2 0 s.hd.t)) s else if s.hd.k = 1 then namedM E f s else if s.hd.k = 5 then nestedM E Q s else keyAtomM E Q f s
def minusM : Nat → PM X
 | 0 => fun _ => .out
 | g + 1 => fun s => if seesB [45] s then (if (tail1 s).k = 3 then (takeM.then fun t => takeM.then fun u => PM.ret (litX t.a 1 (wrap64 (-u.n)) [])) s else aheadM 2 (minusM g) s) else atomM E Q f s
def productM : PM X := chainM (minusM E Q f f) 5 f
def sumM : PM X := chainM (productM E Q f) 4 f
def isNullM (e : X) : PM X := (skipM [78,79,84]).then fun b => (needM [78,85,76,76]).then fun _ => madeM (opX 3 (if b then 4 else 3) false e.a 1 e.flat .none)
def inIn (e : X) (d : Bool) : PM X := fun s => if seesB [83,69,76,69,67,84] s then (Q.then fun q => PM.ret (opX 12 0 d e.a 1 e.flat ⟨1,q.flat⟩)) s else ((exprsM E f).then fun l => PM.ret (opX 7 0 d e.a (1 + l.n) (e.flat ++ l.l) .none)) s
def inM (e : X) (d : Bool) : PM X := (needM [40]).then fun _ => (inIn E Q f e d).then fun x => (needM [41]).then fun _ => madeM x
def oneOfM (e : X) (d : Bool) : PM X := (skipM [73,78]).then fun b => if b then inM E Q f e d else (skipM [66,69,84,87,69,69,78]).then fun b => if b then (sumM E Q f).then fun lo => (needM [65,78,68]).then fun _ => (sumM E Q f).then fun hi => madeM (opX 8 0 d e.a 3 (e.flat ++ lo.flat ++ hi.flat) .none) else (skipM [76,73,75,69]).then fun b => if b then (sumM E Q f).then fun x => madeM (opX 9 0 d e.a 2 (e.flat ++ x.flat) .none) else if d then refuseM else PM.ret e
def testM : PM X := (sumM E Q f).then fun e => (operationM 3).then fun op => if op = 0 then (skipM [73,83]).then fun b => if b then isNullM e else (skipM [78,79,84]).then fun d => oneOfM E Q f e d else (sumM E Q f).then fun b => madeM (opX 4 op false e.a 2 (e.flat ++ b.flat) .none)
def notM : Nat → PM X
 | 0 => fun _ => .out
 | g + 1 => fun s => if seesB [78,79,84] s then aheadM 1 (notM g) s else testM E Q f s
def andM : PM X := chainM (notM E Q f f) 2 f
def exprM : PM X := enterM.then fun _ => (chainM (andM E Q f) 1 f).then fun e => leaveM.then fun _ => PM.ret e
def itemM : PM It := (skipM [42]).then fun b => if b then PM.ret ⟨true,⟨0,0,0,0, [], [], [],0,false,0,.none,.none⟩, []⟩ else E.then fun x => (skipM [65,83]).then fun b => if b then (kindM 1).then fun t => PM.ret ⟨false,x,t.t⟩ else PM.ret ⟨false,x, []⟩
def conditionM (w : List UInt8) : PM Sl := (skipM w).then fun b => if b then E.then fun x => PM.ret ⟨1,x.flat⟩ else PM.ret .none
def asM (b : Bool) : PM (List UInt8) := fun s => if b = true ∨ s.hd.k = 1 then ((kindM 1).then fun u => PM.ret u.t) s else .ok [] s
def sourceM (left joined : Bool) : PM So := (kindM 1).then fun t => (skipM [65,83]).then fun b => (asM b).then fun an => if joined then (needM [79,78]).then fun _ => E.then fun x => PM.ret ⟨t.t,an,left,⟨1,x.flat⟩,t.a⟩ else PM.ret ⟨t.t,an,left,.none,t.a⟩
def joinM : PM (Bool × Bool) := (skipM [76,69,70,84]).then fun left => (if left then PM.ret true else skipM [73,78,78,69,82]).then fun b => if b then (needM [74,79,73,78]).then fun _ => PM.ret (left,true) else (skipM [74,79,73,78]).then fun j => PM.ret (false,j)
def listT {α σ : Type} (fl : α → List DT) (most : Nat) (one : σ → PM α) (more : PM (Option σ)) : Nat → Sl → PM Sl
 | 0,_ => fun _ => .out
 | g + 1,l => more.then fun o => match o with
   | none => PM.ret l
   | some x => (if l.n = most then barM 2 else PM.ret ()).then fun _ => (one x).then fun y => listT fl most one more g ⟨l.n + 1,l.l ++ fl y⟩
def moreSrc : PM (Option (Bool × Bool)) := joinM.then fun lj => if lj.2 then PM.ret (some lj) else commaM.then fun b => PM.ret (if b then some lj else none)
def sourcesM : PM Sl := (sourceM E false false).then fun x => listT So.flat 6 (fun lj => sourceM E lj.1 lj.2) moreSrc f ⟨1,x.flat⟩
def keyM : PM Ke := fun s => if s.hd.k ≠ 1 ∧ (s.hd.k ≠ 3 ∨ s.hd.n = 0) then .bad s.hd.a 170 else (takeM.then fun _ => (skipM [68,69,83,67]).then fun d => (if d then PM.ret true else (skipM [65,83,67]).then fun _ => PM.ret false).then fun _ => PM.ret ⟨s.hd.n,s.hd.t,d,s.hd.a⟩) s
def selectOneM (how : Int) : PM Se := (needM [83,69,76,69,67,84]).then fun _ => (skipM [68,73,83,84,73,78,67,84]).then fun di => (listM It.flat 16 (itemM E) commaM f).then fun it => (skipM [70,82,79,77]).then fun b => (if b then sourcesM E f else PM.ret .none).then fun fr => (conditionM E [87,72,69,82,69]).then fun wh => (skipM [71,82,79,85,80]).then fun b => (if b then (needM [66,89]).then fun _ => exprsM E f else PM.ret .none).then fun gr => (conditionM E [72,65,86,73,78,71]).then fun hv => PM.ret ⟨how,di,it,fr,wh,gr,hv⟩
def joiningM : PM Int := (skipM [85,78,73,79,78]).then fun b => if b then (skipM [65,76,76]).then fun b => PM.ret (if b then 1 else 2) else (skipM [73,78,84,69,82,83,69,67,84]).then fun b => if b then PM.ret 3 else (skipM [69,88,67,69,80,84]).then fun b => PM.ret (if b then 4 else 0)
def selectsM : PM Sl := (selectOneM E f 0).then fun x => listT Se.flat 8 (fun how => selectOneM E f how) (joiningM.then fun how => PM.ret (if how = 0 then none else some how)) f ⟨1,x.flat⟩
def queryM : PM Qy := enterM.then fun _ => (selectsM E f).then fun se => (skipM [79,82,68,69,82]).then fun b => (if b then (needM [66,89]).then fun _ => listM Ke.flat 16 keyM commaM f else PM.ret .none).then fun od => (skipM [76,73,77,73,84]).then fun b => (if b then (kindM 3).then fun t => (skipM [79,70,70,83,69,84]).then fun b => if b then (kindM 3).then fun u => PM.ret (t.n,u.n) else PM.ret (t.n,0) else PM.ret ((-1 : Int),(0 : Int))).then fun lo => leaveM.then fun _ => PM.ret ⟨se,od,lo.1,lo.2⟩
end
def knotM (f : Nat) : Nat → PM X × PM Qy
 | 0 => (fun _ => .out,fun _ => .out)
 | g + 1 => (exprM (knotM f g).1 (knotM f g).2 f,queryM (knotM f g).1 f)
theorem DT.depL_nil (j : Nat) : DT.depL j [] = 0 := by simp only [DT.depL]
theorem DT.depL_cons (j : Nat) (d : DT) (ds : List DT) : DT.depL j (d :: ds) = max (if j % 12 = 10 then 1 + d.dep else 0) (DT.depL (j + 1) ds) := by simp only [DT.depL]
theorem DT.okL_cons (j : Nat) (d : DT) (ds : List DT) : DT.okL j (d :: ds) = ((if j % 12 = 10 then d.okE else true) && DT.okL (j + 1) ds) := by simp only [DT.okL]
theorem DT.depL_app (a b : List DT) : ∀ j,DT.depL j (a ++ b) = max (DT.depL j a) (DT.depL (j + a.length) b) := by
 induction a with
 | nil => intro j; simp [DT.depL_nil]
 | cons d ds ih =>
   intro j
   rw [List.cons_append,DT.depL_cons,DT.depL_cons,ih,Nat.max_assoc,List.length_cons]
   congr 3
   omega
theorem DT.depL_mod (l : List DT) : ∀ j k,j % 12 = k % 12 → DT.depL j l = DT.depL k l := by
 induction l with
 | nil => intro j k _; rw [DT.depL_nil,DT.depL_nil]
 | cons d ds ih =>
   intro j k h
   rw [DT.depL_cons,DT.depL_cons,h,ih (j + 1) (k + 1) (by omega)]
theorem DT.okL_get (l : List DT) : ∀ j,DT.okL j l = true → ∀ (k : Nat) (d : DT),l[k]? = some d → (j + k) % 12 = 10 → d.okE = true := by
 induction l with
 | nil => intro j _ k d h; simp at h
 | cons e ds ih =>
   intro j h k d hk hm
   rw [DT.okL_cons,Bool.and_eq_true] at h
   cases k with
   | zero =>
     simp only [List.getElem?_cons_zero,Option.some.injEq] at hk
     subst hk
     rw [Nat.add_zero] at hm
     have := h.1
     rw [if_pos hm] at this
     exact this
   | succ k => exact ih (j + 1) h.2 k d (by simpa using hk) (by omega)
theorem DT.depL_step {l : List DT} {n i : Nat} (hl : l.length = n * 12) (hi : i < n) : ∃ d,l[i * 12 + 10]? = some d ∧ DT.depL 0 (l.take (12 * (i + 1))) = max (DT.depL 0 (l.take (12 * i))) (1 + d.dep) := by
 have h1 : ((l.drop (12 * i)).take 12).length = 12 := by rw [List.length_take,List.length_drop]; omega
 have h2 : l.take (12 * (i + 1)) = l.take (12 * i) ++ (l.drop (12 * i)).take 12 := by rw [Nat.mul_succ,List.take_add]
 have h3 : (l.take (12 * i)).length = 12 * i := by rw [List.length_take]; omega
 have h4 : l[i * 12 + 10]? = ((l.drop (12 * i)).take 12)[10]? := by
  rw [List.getElem?_take,if_pos (by omega),List.getElem?_drop,Nat.mul_comm i 12]
 match hz : (l.drop (12 * i)).take 12,h1 with
 | [y0,y1,y2,y3,y4,y5,y6,y7,y8,y9,y10,y11],_ =>
   rw [hz] at h2 h4
   refine ⟨y10,h4, ?_⟩
   rw [h2,DT.depL_app,h3,DT.depL_mod _ (0 + 12 * i) 0 (by omega)]
   congr 1
   simp [DT.depL_cons,DT.depL_nil]
theorem DT.okE_sl {n : Nat} {l : List DT} (h : (DT.sl n l).okE = true) : n ≤ 9223372036854775807 ∧ l.length = n * 12 ∧ DT.okL 0 l = true := by
 simp only [DT.okE,Bool.and_eq_true,beq_iff_eq,decide_eq_true_eq] at h
 exact h
theorem DT.okE_get {n : Nat} {l : List DT} (h : (DT.sl n l).okE = true) {i : Nat} {d : DT} (hd : l[i * 12 + 10]? = some d) : d.okE = true := DT.okL_get l 0 (DT.okE_sl h).2.2 _ d hd (by omega)
theorem DT.okE_is {d : DT} (h : d.okE = true) : ∃ n l,d = .sl n l ∧ d.dep = DT.depL 0 l := by
 cases d with
 | sl n l => exact ⟨n,l,rfl,by simp only [DT.dep]⟩
 | _ => simp [DT.okE] at h
structure Kept (F : Nat → Prop) (w w' : World) : Prop where
 os : w'.os = w.os
 tape : w'.tape = w.tape
 output : w'.output = w.output
 size : w.heap.size ≤ w'.heap.size
 block : ∀ k,k < w.heap.size → ¬ F k → w'.heap[k]? = w.heap[k]?
theorem Kept.refl (F : Nat → Prop) (w : World) : Kept F w w := ⟨rfl,rfl,rfl,Nat.le_refl _,fun _ _ _ => rfl⟩
theorem Kept.trans {F F' : Nat → Prop} {a b c : World} (h : Kept F a b) (k : Kept F' b c) (hF : ∀ i,F' i → F i ∨ a.heap.size ≤ i) : Kept F a c :=
 ⟨k.os.trans h.os,k.tape.trans h.tape,k.output.trans h.output,Nat.le_trans h.size k.size,fun i hi hn =>
  (k.block i (Nat.lt_of_lt_of_le hi h.size) (fun q => (hF i q).elim hn (fun q => absurd hi (Nat.not_lt.2 q)))).trans (h.block i hi hn)⟩
theorem Kept.mono {F F' : Nat → Prop} {a b : World} (h : Kept F a b) (hF : ∀ i,F i → F' i) : Kept F' a b :=
 ⟨h.os,h.tape,h.output,h.size,fun i hi hn => h.block i hi (fun q => hn (hF i q))⟩
theorem Kept.drew {F : Nat → Prop} {a w : World} (h : Kept F a w) : Kept F a w.drew := ⟨h.os,h.tape,h.output,h.size,h.block⟩
theorem Kept.alloc {F : Nat → Prop} {a w : World} (h : Kept F a w) (o : Obj) : Kept F a (w.alloc o) :=
 ⟨h.os,h.tape,h.output,by simp; have := h.size; omega,fun i hi hn => (Below.heap_alloc w o i (Nat.lt_of_lt_of_le hi h.size)).trans (h.block i hi hn)⟩
theorem Kept.setCell {F : Nat → Prop} {a w : World} (h : Kept F a w) {p : Addr} (hp : F p.block ∨ a.heap.size ≤ p.block) (u : Value) : Kept F a (w.setCell p u) :=
 ⟨h.os,h.tape,h.output,by simpa using h.size,fun i hi hn => (Below.heap_setCell w p u i (fun e => by subst e; exact hp.elim hn (fun q => absurd hi (Nat.not_lt.2 q)))).trans (h.block i hi hn)⟩
theorem Kept.grown {F : Nat → Prop} {a w w' : World} {row : Option Nat} (h : Kept F a w) (hg : w.grownBy w' row) (hr : ∀ k,row = some k → F k ∨ a.heap.size ≤ k) : Kept F a w' :=
 ⟨hg.os.trans h.os,hg.tape.trans h.tape,hg.output.trans h.output,Nat.le_trans h.size hg.size,fun i hi hn =>
  (hg.block i (Nat.lt_of_lt_of_le hi h.size) (fun e => (hr i e.symm).elim hn (fun q => absurd hi (Nat.not_lt.2 q)))).trans (h.block i hi hn)⟩
theorem Kept.below {F : Nat → Prop} {a b : World} (h : Kept F a b) {B : Nat} (hB : B ≤ a.heap.size) (hF : ∀ k,F k → B ≤ k) : Below B a b :=
 ⟨h.os,h.tape,h.output,h.size,fun k hk => h.block k (Nat.lt_of_lt_of_le hk hB) (fun q => absurd hk (Nat.not_lt.2 (hF k q)))⟩
theorem Kept.cell {F : Nat → Prop} {a b : World} (h : Kept F a b) {p : Addr} {v : Value} (hc : a.cell? p = some v) (hn : ¬ F p.block) : b.cell? p = some v :=
 (World.cell?_of_block (w := a) (h.block p.block (World.block_lt_of_cell? a p hc) hn)).trans hc
structure CellsF (w : World) (b : Nat) (l : List Value) : Prop where
 cs : ∀ i v,l[i]? = some v → w.cell? ⟨b,i,none⟩ = some v
 fz : ∀ j,w.frozen? ⟨b,j,none⟩ = false
 ne : l ≠ []
theorem CellsF.lt {w : World} {b : Nat} {l : List Value} (h : CellsF w b l) : b < w.heap.size := by
 cases l with
 | nil => exact absurd rfl h.ne
 | cons x r => exact World.block_lt_of_cell? w _ (h.cs 0 x rfl)
theorem CellsF.far {w w' : World} {b : Nat} {l : List Value} (h : CellsF w b l) (hb : w'.heap[b]? = w.heap[b]?) : CellsF w' b l :=
 ⟨fun i v q => (World.cell?_of_block (a := ⟨b,i,none⟩) hb).trans (h.cs i v q),fun j => (World.frozen?_of_block (a := ⟨b,j,none⟩) hb).trans (h.fz j),h.ne⟩
theorem CellsF.kept {w w' : World} {b : Nat} {l : List Value} {F : Nat → Prop} (h : CellsF w b l) (k : Kept F w w') (hn : ¬ F b) : CellsF w' b l := h.far (k.block b h.lt hn)
theorem CellsF.step {w w' : World} {b : Nat} {l : List Value} (h : CellsF w b l) (k : Kept (fun _ => False) w w') : CellsF w' b l := h.kept k (fun z => z)
theorem CellsF.new (w : World) (l : List Value) (t : TypeId) (hl : l ≠ []) : CellsF (w.alloc (.cells l.toArray t)) w.heap.size l :=
 ⟨fun i v q => by simp [q],fun j => by simp,hl⟩
theorem CellsF.set {w : World} {b : Nat} {l : List Value} (h : CellsF w b l) (i : Nat) (v : Value) (hi : i < l.length) : CellsF (w.setCell ⟨b,i,none⟩ v) b (l.set i v) := by
 refine ⟨fun j u q => ?_,fun j => (World.frozen?_setCells b [v] i w _).trans (h.fz j),fun e => ?_⟩
 · by_cases hij : j = i
   · subst hij
     rw [List.getElem?_set_self hi] at q
     cases q
     obtain ⟨x,hx⟩ : ∃ x,l[j]? = some x := ⟨l[j],List.getElem?_eq_getElem hi⟩
     exact World.cell?_setCell_same' _ _ _ (by rw [h.cs j x hx]; rfl)
   · rw [List.getElem?_set_ne (Ne.symm hij)] at q
     exact (World.cell?_setCell_other _ _ _ _ (fun e => hij (by cases e; rfl))).trans (h.cs j u q)
 · have := congrArg List.length e
   rw [List.length_set] at this
   exact h.ne (List.eq_nil_of_length_eq_zero this)
theorem end_cell {fn : Func} {p : Tmp} {ty : TypeId} {b : Addr} {v : Value} {tmps : Array Value} {w : World} (h : fn.results = #[.cell p ty]) (hp : tmps.getD p undef = .pointer (some b)) (hl : (loadVar ty b).run Tryz.prog w = .ok v w) :
 (results fn tmps).run Tryz.prog w = .ok v w := by
 have hp' : tmps[p]?.getD undef = .pointer (some b) := by rw [← Array.getD_eq_getD_getElem?]; exact hp
 simp only [results,h]
 simp [hp',asAddr,hl]
theorem loads {w : World} {b o n : Nat} (cs : List Value) (hn : cs.length = n) (h : ∀ j x,cs[j]? = some x → w.cell? ⟨b,o + j,none⟩ = some x) : (loadCellsFrom ⟨b,o,none⟩ 0 n #[]).run Tryz.prog w = .ok cs.toArray w := by
 have := run_loadCells_list (P := Tryz.prog) w ⟨b,o,none⟩ cs (fun j x hx => by rw [Go.WideShapes.add_plain]; exact h j x hx)
 rw [hn] at this
 exact this
inductive Rep (A : Nat → Prop) (w : World) : Value → DT → Prop where
 | i (x : Int) : Rep A w (.int .i64 x) (.i x)
 | p (x : Int) : Rep A w (.int .i64 x) (.p x)
 | s (b : List UInt8) : Rep A w (.string ⟨b.toArray⟩) (.s b)
 | b (x : Bool) : Rep A w (.bool x) (.b x)
 | nil (p : Option Addr) (c : Nat) : Rep A w (.slice p 0 c) (.sl 0 [])
 | sl (g o k cap : Nat) (cs : List Value) (l : List DT) (hA : A g) (hg : g < w.heap.size) (hz : ∃ u t,w.heap[g]? = some (.cells u t (0,0))) (hn : cs.length = l.length) (hc : ∀ i c,cs[i]? = some c → w.cell? ⟨g,o + i,none⟩ = some c)
  (h : ∀ (i : Nat) (c : Value) (d : DT),cs[i]? = some c → l[i]? = some d → Rep A w c d) : Rep A w (.slice (some ⟨g,o,none⟩) k cap) (.sl k l)
theorem Rep.mono {A A' : Nat → Prop} {w w' : World} {v : Value} {d : DT} (h : Rep A w v d) (hs : w.heap.size ≤ w'.heap.size) (hA : ∀ g,A g → g < w.heap.size → A' g ∧ w'.heap[g]? = w.heap[g]?) : Rep A' w' v d := by
 induction h with
 | i x => exact .i x
 | p x => exact .p x
 | s b => exact .s b
 | b x => exact .b x
 | nil p c => exact .nil p c
 | sl g o k cap cs l a hg hz hn hc _ ih =>
   exact .sl g o k cap cs l (hA g a hg).1 (Nat.lt_of_lt_of_le hg hs) (by rw [(hA g a hg).2]; exact hz) hn (fun i c q => (World.cell?_of_block (a := ⟨g,o + i,none⟩) (hA g a hg).2).trans (hc i c q)) ih
def RepL (A : Nat → Prop) (w : World) (cs : List Value) (l : List DT) : Prop := cs.length = l.length ∧ ∀ (i : Nat) (c : Value) (d : DT),cs[i]? = some c → l[i]? = some d → Rep A w c d
theorem RepL.mono {A A' : Nat → Prop} {w w' : World} {cs : List Value} {l : List DT} (h : RepL A w cs l) (hs : w.heap.size ≤ w'.heap.size) (hA : ∀ g,A g → g < w.heap.size → A' g ∧ w'.heap[g]? = w.heap[g]?) : RepL A' w' cs l :=
 ⟨h.1,fun i c d hc hd => (h.2 i c d hc hd).mono hs hA⟩
theorem RepL.nil {A : Nat → Prop} {w : World} : RepL A w [] [] := ⟨rfl,fun i c d h => by simp at h⟩
theorem RepL.cons {A : Nat → Prop} {w : World} {c : Value} {d : DT} {cs : List Value} {l : List DT} (h : Rep A w c d) (k : RepL A w cs l) : RepL A w (c :: cs) (d :: l) := by
 refine ⟨by simp [k.1],fun i c' d' hc hd => ?_⟩
 cases i with
 | zero => simp at hc hd; subst hc; subst hd; exact h
 | succ i => exact k.2 i c' d' (by simpa using hc) (by simpa using hd)
theorem RepL.append {A : Nat → Prop} {w : World} {cs cs' : List Value} {l l' : List DT} (h : RepL A w cs l) (k : RepL A w cs' l') : RepL A w (cs ++ cs') (l ++ l') := by
 refine ⟨by simp [h.1,k.1],fun i c d hc hd => ?_⟩
 by_cases hi : i < cs.length
 · rw [List.getElem?_append_left hi] at hc
   rw [List.getElem?_append_left (by rw [← h.1]; exact hi)] at hd
   exact h.2 i c d hc hd
 · rw [List.getElem?_append_right (by omega)] at hc
   rw [List.getElem?_append_right (by rw [← h.1]; omega), ← h.1] at hd
   exact k.2 _ c d hc hd
theorem RepL.head {A : Nat → Prop} {w : World} {c : Value} {d : DT} {cs : List Value} {l : List DT} (h : RepL A w (c :: cs) (d :: l)) : Rep A w c d ∧ RepL A w cs l :=
 ⟨h.2 0 c d rfl rfl,by have := h.1; simpa using this,fun i c' d' hc hd => h.2 (i + 1) c' d' (by simpa using hc) (by simpa using hd)⟩
theorem Rep.row {A : Nat → Prop} {w : World} {g o k cap : Nat} {cs : List Value} {l : List DT} (hA : A g) (hg : g < w.heap.size) (hz : ∃ u t,w.heap[g]? = some (.cells u t (0,0))) (hc : ∀ i c,cs[i]? = some c → w.cell? ⟨g,o + i,none⟩ = some c) (h : RepL A w cs l) : Rep A w (.slice (some ⟨g,o,none⟩) k cap) (.sl k l) :=
 .sl g o k cap cs l hA hg hz h.1 hc h.2
theorem Rep.slice {A : Nat → Prop} {w : World} {v : Value} {n : Nat} {l : List DT} (h : Rep A w v (.sl n l)) : ∃ p c,v = .slice p n c := by
 cases h with
 | nil p c => exact ⟨p,c,rfl⟩
 | sl g o k cap cs l a hg hz hn hc h => exact ⟨_,_,rfl⟩
abbrev xc (x : X) (a b : Value) : List Value := [.int .i64 x.k,.int .i64 x.op,.int .i64 x.vk,.int .i64 x.vn,.string ⟨x.vs.toArray⟩,.string ⟨x.tb.toArray⟩,.string ⟨x.nm.toArray⟩,.int .i64 x.col,.bool x.dn,.int .i64 x.a,a,b]
theorem xc_rep {A : Nat → Prop} {w : World} {x : X} {a b : Value} (ha : Rep A w a x.ar.dt) (hb : Rep A w b x.sb.dt) : RepL A w (xc x a b) x.flat :=
 .cons (.i _) (.cons (.i _) (.cons (.i _) (.cons (.i _) (.cons (.s _) (.cons (.s _) (.cons (.s _) (.cons (.i _) (.cons (.b _) (.cons (.p _) (.cons ha (.cons hb .nil)))))))))))
def XR (A : Nat → Prop) (w : World) (v : Value) (x : X) : Prop := ∃ p c q d,v = .agg #[.int .i64 x.k,.int .i64 x.op,.int .i64 x.vk,.int .i64 x.vn,.string ⟨x.vs.toArray⟩,.string ⟨x.tb.toArray⟩,.string ⟨x.nm.toArray⟩,.int .i64 x.col,.bool x.dn,.int .i64 x.a,.slice p x.ar.n c,.slice q x.sb.n d] ∧ Rep A w (.slice p x.ar.n c) x.ar.dt ∧ Rep A w (.slice q x.sb.n d) x.sb.dt
structure TkAt (w : World) (T o : Nat) (t : Tk) : Prop where
 c0 : w.cell? ⟨T,o,none⟩ = some (.int .i64 t.k)
 c1 : w.cell? ⟨T,o + 1,none⟩ = some (.string ⟨t.t.toArray⟩)
 c2 : w.cell? ⟨T,o + 2,none⟩ = some (.int .i64 t.n)
 c3 : w.cell? ⟨T,o + 3,none⟩ = some (.int .i64 t.a)
def WF (l : List Tk) : Prop := ∃ m e,l = m ++ [e] ∧ e.k = 0
theorem WF.ne {l : List Tk} (h : WF l) : l ≠ [] := by
 obtain ⟨m,e,rfl,_⟩ := h
 simp
theorem WF.tail {t : Tk} {l : List Tk} (h : WF (t :: l)) (hk : t.k ≠ 0) : WF l := by
 obtain ⟨m,e,he,h0⟩ := h
 cases m with
 | nil => simp at he; rw [he.1] at hk; exact absurd h0 hk
 | cons x m => simp at he; exact ⟨m,e,he.2,h0⟩
theorem tabs_stay {w w' : World} (h : Lib.Utf8Tabs 2 3 w) (h2 : w'.heap[2]? = w.heap[2]?) (h3 : w'.heap[3]? = w.heap[3]?) : Lib.Utf8Tabs 2 3 w' :=
 ⟨fun c hc => (World.cell?_of_block (a := ⟨2,c,none⟩) h2).trans (h.1 c hc),fun i hi => ⟨(World.cell?_of_block (a := ⟨3,2 * i,none⟩) h3).trans (h.2 i hi).1,(World.cell?_of_block (a := ⟨3,2 * i + 1,none⟩) h3).trans (h.2 i hi).2⟩⟩
structure PAt (w : World) (F T o cap : Nat) (S : PS) : Prop where
 bx : CellsF w F [.slice (some ⟨T,o,none⟩) S.ts.length cap,.int .i64 S.wi,.int .i64 S.bar]
 le : S.ts.length ≤ cap
 sm : cap ≤ 9223372036854775807
 lt : T < F
 tk : ∀ i t,S.ts[i]? = some t → TkAt w T (o + i * 4) t
 wf : WF S.ts
 g3 : 3 < T
 gl : Lib.Utf8Tabs 2 3 w
 tx : ∀ (i : Nat) (t : Tk),S.ts[i]? = some t → t.t.length ≤ 5000
def PA (w : World) (F : Nat) (S : PS) : Prop := ∃ T o cap,PAt w F T o cap S
abbrev On (F : Nat) : Nat → Prop := fun g => g = F
abbrev flt (a e : Int) : List PanicEntry := [{ v := .iface 86 (.agg #[.int .i64 a,.int .i64 e]),recovered := false }]
theorem TkAt.far {w w' : World} {T o : Nat} {t : Tk} (h : TkAt w T o t) (hb : w'.heap[T]? = w.heap[T]?) : TkAt w' T o t :=
 ⟨(World.cell?_of_block (a := ⟨T,o,none⟩) hb).trans h.c0,(World.cell?_of_block (a := ⟨T,o + 1,none⟩) hb).trans h.c1,(World.cell?_of_block (a := ⟨T,o + 2,none⟩) hb).trans h.c2,(World.cell?_of_block (a := ⟨T,o + 3,none⟩) hb).trans h.c3⟩
theorem TkAt.lt {w : World} {T o : Nat} {t : Tk} (h : TkAt w T o t) : T < w.heap.size := World.block_lt_of_cell? w _ h.c0
theorem PAt.kept {w w' : World} {F T o cap : Nat} {S : PS} {G : Nat → Prop} (h : PAt w F T o cap S) (k : Kept G w w') (h1 : ¬ G F) (h2 : ¬ G T) (h3 : ¬ G 2) (h4 : ¬ G 3) : PAt w' F T o cap S :=
 ⟨h.bx.kept k h1,h.le,h.sm,h.lt,fun i t q => (h.tk i t q).far (k.block T (h.tk i t q).lt h2),h.wf,h.g3,by
  have hl := h.lt
  have hF := h.bx.lt
  have h3' := h.g3
  exact tabs_stay h.gl (k.block 2 (by omega) h3) (k.block 3 (by omega) h4),h.tx⟩
theorem PAt.same {w w' : World} {F T o cap : Nat} {S : PS} (h : PAt w F T o cap S) (k : Kept (fun _ => False) w w') : PAt w' F T o cap S := h.kept k (fun z => z) (fun z => z) (fun z => z) (fun z => z)
theorem PAt.hd {w : World} {F T o cap : Nat} {S : PS} (h : PAt w F T o cap S) : TkAt w T o S.hd := by
 obtain ⟨m,e,he,_⟩ := h.wf
 cases hts : S.ts with
 | nil => exact absurd hts h.wf.ne
 | cons t l =>
   have := h.tk 0 t (by rw [hts]; rfl)
   simpa [PS.hd,hts] using this
theorem PAt.hdx {w : World} {F T o cap : Nat} {S : PS} (h : PAt w F T o cap S) : S.hd.t.length ≤ 5000 := by
 cases hts : S.ts with
 | nil => exact absurd hts h.wf.ne
 | cons t l => simpa [PS.hd,hts] using h.tx 0 t (by rw [hts]; rfl)
theorem PAt.pos {w : World} {F T o cap : Nat} {S : PS} (h : PAt w F T o cap S) : 0 < S.ts.length := List.length_pos_iff.2 h.wf.ne
def Out {α : Type} (R : (Nat → Prop) → World → Value → α → Prop) (F : Nat) (A : Nat → Prop) (w : World) (r : PR α) (e : Ending) (w' : World) : Prop := match r with
 | .out => False
 | .bad a er => e = .panicked (flt a er) ∧ Kept (On F) w w'
 | .ok x S' => ∃ v,e = .returned v ∧ R A w' v x ∧ PA w' F S' ∧ Kept (On F) w w'
def DoesI {α : Type} (pre : (Nat → Prop) → World → PS → Prop) (R : (Nat → Prop) → World → Value → α → Prop) (f : Nat) (args : Nat → Array Value) (m : PM α) : Prop :=
 ∀ (w : World) (F : Nat) (A : Nat → Prop) (S : PS),PA w F S → (∀ g,w.heap.size ≤ g → A g) → ¬ A F → pre A w S → m S ≠ .out → Calls Tryz.prog f (args F) w (Out R F A w (m S))
abbrev ptr (F : Nat) : Value := .pointer (some ⟨F,0,none⟩)
abbrev Does {α : Type} (R : (Nat → Prop) → World → Value → α → Prop) (f : Nat) (args : Nat → Array Value) (m : PM α) : Prop := DoesI (fun _ _ _ => True) R f args m
def apartB (bs : List (Nat × TypeId × Array Value)) : Prop := (bs.map (·.1)).Nodup
structure FR (w0 : World) (F : Nat) (A : Nat → Prop) (bs : List (Nat × TypeId × Array Value)) (ts : List (Value × DT)) (S : PS) (w : World) : Prop where
 kp : Kept (On F) w0 w
 fl : F < w0.heap.size
 nw : ∀ g,w0.heap.size ≤ g → A g
 nF : ¬ A F
 bx : ∀ x ∈ bs,w0.heap.size ≤ x.1 ∧ w.heap[x.1]? = some (.cells x.2.2 x.2.1 (0,0))
 tr : ∀ y ∈ ts,Rep (fun g => A g ∧ ∀ x ∈ bs,x.1 ≠ g) w y.1 y.2
 pa : PA w F S
 ap : apartB bs
theorem blk_lt {w : World} {b : Nat} {o : Obj} (h : w.heap[b]? = some o) : b < w.heap.size := by
 rcases Nat.lt_or_ge b w.heap.size with q | q
 · exact q
 · rw [Array.getElem?_eq_none q] at h; cases h
theorem hidF {w0 : World} {F : Nat} {A : Nat → Prop} {bs : List (Nat × TypeId × Array Value)} {ts : List (Value × DT)} {S : PS} {w : World} (h : FR w0 F A bs ts S w) : Hid (FR w0 F A bs ts S w) := h
theorem sI {α : Type} (l : List α) (i : Nat) (a : α) : l.toArray.setIfInBounds i a = (l.set i a).toArray := by simp
theorem sS {α : Type} (a b : α) (l : List α) (i : Nat) : (a :: l).set (i + 1) b = a :: l.set i b := rfl
theorem sZ {α : Type} (a b : α) (l : List α) : (a :: l).set 0 b = b :: l := rfl
theorem FR.lt {w0 : World} {F : Nat} {A : Nat → Prop} {bs : List (Nat × TypeId × Array Value)} {ts : List (Value × DT)} {S : PS} {w : World} (h : FR w0 F A bs ts S w) {x : Nat × TypeId × Array Value} (hx : x ∈ bs) : x.1 < w.heap.size := blk_lt (h.bx x hx).2
theorem FR.init {w : World} {F : Nat} {A : Nat → Prop} {S : PS} (ts : List (Value × DT)) (hp : PA w F S) (hA : ∀ g,w.heap.size ≤ g → A g) (hF : ¬ A F) (ht : ∀ y ∈ ts,Rep A w y.1 y.2) : FR w F A [] ts S w := by
 have hl : F < w.heap.size := by obtain ⟨T,o,cap,hp⟩ := hp; exact hp.bx.lt
 exact ⟨Kept.refl _ _,hl,hA,hF,fun x h => (by cases h),fun y hy => (ht y hy).mono (Nat.le_refl _) (fun g a _ => ⟨⟨a,fun x h => (by cases h)⟩,rfl⟩),hp,by simp [apartB]⟩
theorem FR.drew {w0 : World} {F : Nat} {A : Nat → Prop} {bs : List (Nat × TypeId × Array Value)} {ts : List (Value × DT)} {S : PS} {w : World} (h : FR w0 F A bs ts S w) : FR w0 F A bs ts S w.drew :=
 ⟨h.kp.drew,h.fl,h.nw,h.nF,h.bx,fun y hy => (h.tr y hy).mono (Nat.le_refl _) (fun g a _ => ⟨a,rfl⟩),by obtain ⟨T,o,cap,hp⟩ := h.pa; exact ⟨T,o,cap,hp.same ((Kept.refl _ w).drew)⟩,h.ap⟩
theorem PA.same {w w' : World} {F : Nat} {S : PS} (h : PA w F S) (k : Kept (fun _ => False) w w') : PA w' F S := by
 obtain ⟨T,o,cap,hp⟩ := h
 exact ⟨T,o,cap,hp.same k⟩
theorem FR.alloc {w0 : World} {F : Nat} {A : Nat → Prop} {bs : List (Nat × TypeId × Array Value)} {ts : List (Value × DT)} {S : PS} {w : World} (h : FR w0 F A bs ts S w) (cs : Array Value) (t : TypeId) : FR w0 F A ((w.heap.size,t,cs) :: bs) ts S (w.alloc (.cells cs t)) := by
 have k : Kept (fun _ => False) w (w.alloc (.cells cs t)) := (Kept.refl _ w).alloc _
 refine ⟨h.kp.alloc _,h.fl,h.nw,h.nF, ?_, ?_,h.pa.same k,List.nodup_cons.2 ⟨fun hm => ?_,h.ap⟩⟩
 rotate_left 2
 · obtain ⟨x,hx,e⟩ := List.mem_map.1 hm
   have := h.lt hx
   have e' : x.1 = w.heap.size := e
   omega
 · intro x hx
   rcases List.mem_cons.1 hx with rfl | hx
   · exact ⟨h.kp.size,heap_alloc_new _ _⟩
   · exact ⟨(h.bx x hx).1,(k.block _ (h.lt hx) (fun z => z)).trans (h.bx x hx).2⟩
 · intro y hy
   refine (h.tr y hy).mono k.size (fun g a hg => ⟨⟨a.1, ?_⟩,k.block g hg (fun z => z)⟩)
   intro x hx
   rcases List.mem_cons.1 hx with rfl | hx
   · exact (Nat.ne_of_gt hg)
   · exact a.2 x hx
theorem FR.less {w0 : World} {F : Nat} {A : Nat → Prop} {bs bs' : List (Nat × TypeId × Array Value)} {ts ts' : List (Value × DT)} {S : PS} {w : World} (h : FR w0 F A bs ts S w) (hb : ∀ x ∈ bs',x ∈ bs) (ht : ∀ y ∈ ts',y ∈ ts) (hap : apartB bs') : FR w0 F A bs' ts' S w :=
 ⟨h.kp,h.fl,h.nw,h.nF,fun x hx => h.bx x (hb x hx),fun y hy => (h.tr y (ht y hy)).mono (Nat.le_refl _) (fun g a _ => ⟨⟨a.1,fun x hx => a.2 x (hb x hx)⟩,rfl⟩),h.pa,hap⟩
theorem FR.call {w0 : World} {F : Nat} {A : Nat → Prop} {bs : List (Nat × TypeId × Array Value)} {ts : List (Value × DT)} {S S1 : PS} {w w' : World} (h : FR w0 F A bs ts S w) (k : Kept (On F) w w') (hp : PA w' F S1) : FR w0 F A bs ts S1 w' := by
 refine ⟨h.kp.trans k (fun i q => .inl q),h.fl,h.nw,h.nF,fun x hx => ⟨(h.bx x hx).1,(k.block _ (h.lt hx) (fun e => ?_)).trans (h.bx x hx).2⟩,fun y hy => (h.tr y hy).mono k.size (fun g a hg => ⟨a,k.block g hg (fun e => h.nF (e ▸ a.1))⟩),hp,h.ap⟩
 have := (h.bx x hx).1
 have := h.fl
 have e' : x.1 = F := e
 omega
theorem FR.tree {w0 : World} {F : Nat} {A : Nat → Prop} {bs : List (Nat × TypeId × Array Value)} {ts : List (Value × DT)} {S : PS} {w : World} (h : FR w0 F A bs ts S w) {v : Value} {d : DT} (hr : Rep (fun g => A g ∧ ∀ x ∈ bs,x.1 ≠ g) w v d) : FR w0 F A bs ((v,d) :: ts) S w :=
 ⟨h.kp,h.fl,h.nw,h.nF,h.bx,fun y hy => by
  rcases List.mem_cons.1 hy with rfl | hy
  · exact hr
  · exact h.tr y hy,h.pa,h.ap⟩
theorem FR.set {w0 : World} {F : Nat} {A : Nat → Prop} {bs : List (Nat × TypeId × Array Value)} {ts : List (Value × DT)} {S : PS} {w w' : World} (h : FR w0 F A bs ts S w) (i : Nat) {b : Nat} {t : TypeId} {old cs : Array Value} (hi : bs[i]? = some (b,t,old))
 (hn : ∀ j x,bs[j]? = some x → j ≠ i → x.1 ≠ b) (hw : w'.heap[b]? = some (.cells cs t (0,0))) (k : Kept (On b) w w') : FR w0 F A (bs.set i (b,t,cs)) ts S w' := by
 have hb := h.bx _ (List.mem_of_getElem? hi)
 have hbF : ¬ (b = F) := by have := h.fl; have := hb.1; simp at this; omega
 have hm : ∀ x ∈ bs.set i (b,t,cs),x = (b,t,cs) ∨ (x ∈ bs ∧ x.1 ≠ b) := by
  intro x hx
  obtain ⟨j,hj⟩ := List.getElem?_of_mem hx
  by_cases hji : j = i
  · subst hji
    rw [List.getElem?_set_self (by rcases Nat.lt_or_ge j bs.length with q | q; exact q; rw [List.getElem?_eq_none q] at hi; cases hi)] at hj
    exact .inl (by cases hj; rfl)
  · rw [List.getElem?_set_ne (Ne.symm hji)] at hj
    exact .inr ⟨List.mem_of_getElem? hj,hn j x hj hji⟩
 refine ⟨h.kp.trans k (fun j q => .inr (by have e : j = b := q; rw [e]; exact hb.1)),h.fl,h.nw,h.nF, ?_, ?_, ?_, ?_⟩
 · intro x hx
   rcases hm x hx with rfl | ⟨h1,h2⟩
   · exact ⟨hb.1,hw⟩
   · exact ⟨(h.bx x h1).1,(k.block _ (h.lt h1) (fun e => h2 e)).trans (h.bx x h1).2⟩
 · intro y hy
   refine (h.tr y hy).mono k.size (fun g a hg => ⟨⟨a.1,fun x hx => ?_⟩,k.block g hg (fun e => a.2 _ (List.mem_of_getElem? hi) (show b = g from (show g = b from e).symm))⟩)
   rcases hm x hx with rfl | ⟨h1,h2⟩
   · exact (a.2 (b,t,old) (List.mem_of_getElem? hi) : b ≠ g)
   · exact a.2 x h1
 · obtain ⟨T,o,cap,hp⟩ := h.pa
   have q1 := hp.lt
   have q2 := h.fl
   have q3 := hb.1
   have q4 := hp.g3
   simp at q3
   exact ⟨T,o,cap,hp.kept k (fun e => hbF e.symm) (fun e => by have e' : T = b := e; omega) (fun e => by have e' : 2 = b := e; omega) (fun e => by have e' : 3 = b := e; omega)⟩
 · unfold apartB
   have e : (bs.set i (b,t,cs)).map (·.1) = bs.map (·.1) := by
    rw [List.map_set]
    apply List.ext_getElem?
    intro j
    by_cases hj : i = j
    · subst hj
      have hl : i < (bs.map (·.1)).length := by
       rw [List.length_map]
       rcases Nat.lt_or_ge i bs.length with q | q
       · exact q
       · rw [List.getElem?_eq_none q] at hi; cases hi
      rw [List.getElem?_set_self hl,List.getElem?_map,hi]
      rfl
    · rw [List.getElem?_set_ne hj]
   rw [e]
   exact h.ap
def rowy : TypeDesc → Bool
 | .struct _ => true
 | _ => false
theorem FR.loads {w0 : World} {F : Nat} {A : Nat → Prop} {bs : List (Nat × TypeId × Array Value)} {ts : List (Value × DT)} {S : PS} {w : World} (h : FR w0 F A bs ts S w) (i : Nat) {b : Nat} {t : TypeId} {cs : Array Value} (hi : bs[i]? = some (b,t,cs)) (ty : TypeId) {d : TypeDesc}
 (hu : Tryz.prog.underlying ty = some d) (hd : rowy d = true) (hs : (Tryz.prog.info? ty).map (·.size) = some cs.size) : (loadVar ty ⟨b,0,none⟩).run Tryz.prog w = .ok (.agg cs) w := by
 cases d with
 | struct f => exact run_loadVar_row w b t ty cs (0,0) _ (h.bx _ (List.mem_of_getElem? hi)).2 hu rfl hs
 | _ => cases hd
theorem FR.cell {w0 : World} {F : Nat} {A : Nat → Prop} {bs : List (Nat × TypeId × Array Value)} {ts : List (Value × DT)} {S : PS} {w : World} (h : FR w0 F A bs ts S w) (i : Nat) {b : Nat} {t : TypeId} {cs : Array Value} (hi : bs[i]? = some (b,t,cs)) (j : Nat) : w.cell? ⟨b,j,none⟩ = cs[j]? :=
 cell_of_row w b j cs t (0,0) (h.bx _ (List.mem_of_getElem? hi)).2
theorem kept_row {w : World} {b : Nat} (cs : Array Value) : Kept (On b) w (w.setRow b cs) :=
 ⟨rfl,rfl,rfl,by simp [World.setRow],fun k _ hn => by
  have : ¬ b = k := fun e => hn e.symm
  simp [World.setRow,Array.getElem?_modify,this]⟩
theorem row_new {w : World} {b : Nat} {t : TypeId} {old : Array Value} (cs : Array Value) (h : w.heap[b]? = some (.cells old t (0,0))) : (w.setRow b cs).heap[b]? = some (.cells cs t (0,0)) := setRow_heap w b old cs t (0,0) h
theorem FR.stores {w0 : World} {F : Nat} {A : Nat → Prop} {bs : List (Nat × TypeId × Array Value)} {ts : List (Value × DT)} {S : PS} {w : World} (h : FR w0 F A bs ts S w) (i : Nat) {b : Nat} {t : TypeId} {old cs : Array Value} (hi : bs[i]? = some (b,t,old))
 (hn : ∀ j x,bs[j]? = some x → j ≠ i → x.1 ≠ b) (ty : TypeId) (hs : (Tryz.prog.info? ty).map (·.size) = some cs.size) (ho : old.size = cs.size) (h1 : cs.all (·.oneCell') = true) :
 ∃ w',(storeVar ty ⟨b,0,none⟩ (.agg cs)).run Tryz.prog w = .ok () w' ∧ FR w0 F A (bs.set i (b,t,cs)) ts S w' :=
 ⟨_,run_storeVar_row w b t ty old cs (h.bx _ (List.mem_of_getElem? hi)).2 hs ho h1,h.set i hi hn (row_new cs (h.bx _ (List.mem_of_getElem? hi)).2) (kept_row cs)⟩
end Go.Proofs.YtlgkghebemfpjaaGreatDoor.Pa
