/- Fuel that is enough, and rows that are well told. Fuel that is enough: the grammar. -/
import Derived.Test.YtlgkghebemfpjaaGreatDoorQPm
namespace Go.Proofs.YtlgkghebemfpjaaGreatDoor.Pa
open Go.ChangeShapes Go.WideShapes Go.ChangeAt Go.RowKit
set_option linter.unusedVariables false
set_option maxRecDepth 100000
def SatAt {α : Type} (s : PS) (P : α → Nat → Prop) : PR α → Prop
 | .out => False
 | .bad _ _ => True
 | .ok x s' => WF s'.ts ∧ ∃ d,s'.ts.length + d = s.ts.length ∧ P x d
def Sat {α : Type} (n : Nat) (P : α → Nat → Prop) (m : PM α) : Prop := ∀ s,WF s.ts → s.ts.length ≤ n → SatAt s P (m s)
section
variable {α β : Type} {n : Nat} {P P' : α → Nat → Prop} {Q : β → Nat → Prop}
theorem SatAt.mono {s : PS} {r : PR α} (h : SatAt s P r) (k : ∀ x d,P x d → P' x d) : SatAt s P' r := by
 cases r with
 | out => exact h
 | bad a e => trivial
 | ok x s' =>
   obtain ⟨h1,d,h2,h3⟩ := h
   exact ⟨h1,d,h2,k x d h3⟩
theorem Sat.mono {m : PM α} (h : Sat n P m) (k : ∀ x d,P x d → P' x d) : Sat n P' m := fun s h1 h2 => (h s h1 h2).mono k
theorem Sat.less {m : PM α} {n' : Nat} (h : Sat n P m) (hn : n' ≤ n) : Sat n' P m := fun s h1 h2 => h s h1 (Nat.le_trans h2 hn)
theorem SatAt.then {s : PS} {m : PM α} {f : α → PM β} (hn : s.ts.length ≤ n) (h : SatAt s P (m s)) (k : ∀ x d,P x d → Sat (n - d) (fun y d' => Q y (d + d')) (f x)) : SatAt s Q ((m.then f) s) := by
 unfold PM.then
 cases hm : m s with
 | out => rw [hm] at h; exact h
 | bad a e => trivial
 | ok x s' =>
   rw [hm] at h
   obtain ⟨h1,d,h2,h3⟩ := h
   have h4 := k x d h3 s' h1 (by omega)
   show SatAt s Q (f x s')
   cases hf : f x s' with
   | out => rw [hf] at h4; exact h4
   | bad a e => trivial
   | ok y s2 =>
     rw [hf] at h4
     obtain ⟨h5,d2,h6,h7⟩ := h4
     exact ⟨h5,d + d2,by omega,h7⟩
theorem Sat.then {m : PM α} {f : α → PM β} (h : Sat n P m) (k : ∀ x d,P x d → Sat (n - d) (fun y d' => Q y (d + d')) (f x)) : Sat n Q (m.then f) :=
 fun s h1 h2 => SatAt.then h2 (h s h1 h2) k
theorem Sat.thenB {m : PM α} {f : α → PM β} (h : Sat n P m) (k : ∀ x d,P x d → d ≤ n → Sat (n - d) (fun y d' => Q y (d + d')) (f x)) : Sat n Q (m.then f) := by
 refine Sat.then (P := fun x d => P x d ∧ d ≤ n) (fun s h1 h2 => ?_) (fun x d q => k x d q.1 q.2)
 have h3 := h s h1 h2
 cases hm : m s with
 | out => rw [hm] at h3; exact h3
 | bad a e => trivial
 | ok x s' =>
   rw [hm] at h3
   obtain ⟨h4,d,h5,h6⟩ := h3
   exact ⟨h4,d,h5,h6,by omega⟩
theorem SatAt.thenB {s : PS} {m : PM α} {f : α → PM β} (hn : s.ts.length ≤ n) (h : SatAt s P (m s)) (k : ∀ x d,P x d → d ≤ n → Sat (n - d) (fun y d' => Q y (d + d')) (f x)) : SatAt s Q ((m.then f) s) := by
 refine SatAt.then (P := fun x d => P x d ∧ d ≤ n) hn ?_ (fun x d q => k x d q.1 q.2)
 cases hm : m s with
 | out => rw [hm] at h; exact h
 | bad a e => trivial
 | ok x s' =>
   rw [hm] at h
   obtain ⟨h4,d,h5,h6⟩ := h
   exact ⟨h4,d,h5,h6,by omega⟩
theorem Sat.ret {x : α} (h : P x 0) : Sat n P (PM.ret x) := fun s h1 h2 => ⟨h1,0,rfl,h⟩
end
theorem sat_ite {α : Type} {n : Nat} {P : α → Nat → Prop} {c : Prop} [Decidable c] {m1 m2 : PM α} (h1 : c → Sat n P m1) (h2 : ¬ c → Sat n P m2) : Sat n P (if c then m1 else m2) := by
 by_cases h : c
 · rw [if_pos h]; exact h1 h
 · rw [if_neg h]; exact h2 h
theorem then_ok {α β : Type} {m : PM α} {f : α → PM β} {s s' : PS} {x : α} (h : m s = .ok x s') : (m.then f) s = f x s' := by
 unfold PM.then
 rw [h]
theorem then_bad {α β : Type} {m : PM α} {f : α → PM β} {s : PS} {a e : Int} (h : m s = .bad a e) : (m.then f) s = .bad a e := by
 unfold PM.then
 rw [h]
theorem sat_bad {α : Type} {n : Nat} {P : α → Nat → Prop} (a e : Int) : Sat n P (fun _ => .bad a e) := fun s h1 h2 => trivial
theorem sat_refuse {α : Type} {n : Nat} {P : α → Nat → Prop} : Sat n P (refuseM : PM α) := fun s h1 h2 => trivial
theorem sat_bar {n : Nat} (e : Int) : Sat n (fun _ d => d = 0) (barM e) := fun s h1 h2 => by
 unfold barM
 refine ⟨?_,0, ?_,rfl⟩
 · split <;> exact h1
 · split <;> rfl
theorem sat_enter {n : Nat} : Sat n (fun _ d => d = 0) enterM := fun s h1 h2 => ⟨h1,0,rfl,rfl⟩
theorem sat_leave {n : Nat} : Sat n (fun _ d => d = 0) leaveM := fun s h1 h2 => ⟨h1,0,rfl,rfl⟩
theorem take_at {s : PS} (h1 : WF s.ts) (hk : s.hd.k ≠ 0) : SatAt s (fun t d => d = 1 ∧ t = s.hd) (takeM s) := by
 unfold takeM
 split
 · trivial
 · cases hs : s.ts with
   | nil => exact absurd hs h1.ne
   | cons t l =>
     have ht : s.hd = t := by unfold PS.hd; rw [hs]; rfl
     refine ⟨?_,1, ?_,rfl,rfl⟩
     · show WF l
       rw [hs] at h1
       exact h1.tail (ht ▸ hk)
     · show l.length + 1 = s.ts.length
       rw [hs]
       simp
theorem sees_kind {x : List UInt8} {s : PS} (h : seesB x s = true) : s.hd.k ≠ 0 := by
 unfold seesB isT at h
 intro e
 rw [e] at h
 simp at h
theorem sat_skip {n : Nat} (x : List UInt8) : Sat n (fun b d => d = if b = true then 1 else 0) (skipM x) := fun s h1 h2 => by
 unfold skipM
 split
 · rename_i h
   exact SatAt.then h2 (take_at h1 (sees_kind h)) (fun t d hd => Sat.ret (by simp [hd.1]))
 · exact ⟨h1,0,rfl,by simp⟩
theorem sat_need {n : Nat} (x : List UInt8) : Sat n (fun _ d => d = 1) (needM x) := by
 refine (sat_skip x).then fun b d hd => ?_
 cases b with
 | true => exact Sat.ret (by simpa using hd)
 | false => exact sat_refuse
theorem sat_kind {n : Nat} {k : Int} (hk : k ≠ 0) : Sat n (fun t d => d = 1) (kindM k) := fun s h1 h2 => by
 unfold kindM
 split
 · trivial
 · rename_i h
   exact (take_at h1 (by intro e; rw [e] at h; exact h (fun q => hk q.symm))).mono (fun t d h => h.1)
theorem sat_op {n : Nat} (lv : Int) : Sat n (fun op d => (d = 0 ∧ op = 0) ∨ d = 1) (operationM lv) := fun s h1 h2 => by
 unfold operationM
 split
 · rename_i h
   refine SatAt.then h2 (take_at h1 ?_) (fun t d hd => Sat.ret (.inr (by simp [hd.1])))
   intro e
   have := h.2
   unfold keysign at this
   rw [e] at this
   simp at this
 · exact ⟨h1,0,rfl,.inl ⟨rfl,rfl⟩⟩
def GX (x : X) : Prop := x.ar.dt.okE = true ∧ x.deep ≤ 32
theorem okL_mod (l : List DT) : ∀ j k,j % 12 = k % 12 → DT.okL j l = DT.okL k l := by
 induction l with
 | nil => intro j k _; simp only [DT.okL]
 | cons d ds ih =>
   intro j k h
   rw [DT.okL_cons,DT.okL_cons,h,ih (j + 1) (k + 1) (by omega)]
theorem okL_app (a b : List DT) : ∀ j,DT.okL j (a ++ b) = (DT.okL j a && DT.okL (j + a.length) b) := by
 induction a with
 | nil => intro j; simp [DT.okL]
 | cons d ds ih =>
   intro j
   rw [List.cons_append,DT.okL_cons,DT.okL_cons,ih,Bool.and_assoc,List.length_cons]
   congr 3
   omega
theorem okL_flat {x : X} (h : x.ar.dt.okE = true) : DT.okL 0 x.flat = true := by
 unfold X.flat
 simp [DT.okL,h]
theorem GX.row {x : X} (h : GX x) : x.flat.length = 1 * 12 ∧ DT.okL 0 x.flat = true := ⟨rfl,okL_flat h.1⟩
theorem row_app {a b : List DT} {n m : Nat} (ha : a.length = n * 12 ∧ DT.okL 0 a = true) (hb : b.length = m * 12 ∧ DT.okL 0 b = true) : (a ++ b).length = (n + m) * 12 ∧ DT.okL 0 (a ++ b) = true := by
 refine ⟨by rw [List.length_append,ha.1,hb.1]; omega, ?_⟩
 rw [okL_app,ha.2,okL_mod b (0 + a.length) 0 (by rw [ha.1]; omega),hb.2]
 rfl
theorem okE_row {n : Nat} {l : List DT} (h : l.length = n * 12 ∧ DT.okL 0 l = true) (hn : n ≤ 9223372036854775807) : (Sl.dt ⟨n,l⟩).okE = true := by
 unfold Sl.dt
 simp only [DT.okE,Bool.and_eq_true,beq_iff_eq,decide_eq_true_eq]
 exact ⟨hn,h.1,h.2⟩
theorem sat_made {n : Nat} {x : X} (h : x.ar.dt.okE = true) : Sat n (fun y d => d = 0 ∧ GX y) (madeM x) := fun s h1 h2 => by
 unfold madeM
 rw [if_pos h]
 split
 · trivial
 · rename_i hd
   exact ⟨h1,0,rfl,rfl,h,by omega⟩
abbrev PX (x : X) (d : Nat) : Prop := GX x ∧ 1 ≤ d
theorem GX.none {x : X} (h : x.ar = .none) : GX x := by
 unfold GX X.deep
 rw [h]
 exact ⟨by decide,by simp [Sl.none,DT.depL_nil]⟩
theorem made2 {n : Nat} {k op a : Int} {dn : Bool} {m : Nat} {l : List DT} {sb : Sl} (h : l.length = m * 12 ∧ DT.okL 0 l = true) (hn : m ≤ 9223372036854775807) {d : Nat} (hd : 1 ≤ d) : Sat n (fun y d' => PX y (d + d')) (madeM (opX k op dn a m l sb)) :=
 (sat_made (okE_row h hn)).mono (fun y d' q => ⟨q.2,by omega⟩)
theorem sat_mk {n : Nat} {k op a : Int} {dn : Bool} {m : Nat} {l : List DT} {sb : Sl} (h : l.length = m * 12 ∧ DT.okL 0 l = true) (hn : m ≤ 9223372036854775807) : Sat n (fun y _ => GX y) (madeM (opX k op dn a m l sb)) :=
 (sat_made (okE_row h hn)).mono (fun y d' q => q.2)
theorem sat_chainG {one : PM X} {lv : Int} : ∀ (f n : Nat) (e : X),n < f → Sat n PX one → GX e → Sat n (fun x d => GX x) (chainG one lv f e)
 | 0,n,e,hn,_,_ => by omega
 | f + 1,n,e,hn,h1,he => by
   unfold chainG
   refine (sat_op lv).thenB fun op d hd hdn => ?_
   split
   · exact Sat.ret he
   · rename_i hop
     have hd1 : d = 1 := by rcases hd with ⟨_,q⟩ | q; exact absurd q hop; exact q
     subst hd1
     refine (h1.less (Nat.sub_le _ _)).then fun b d2 hb => ?_
     refine (made2 (d := 1) (row_app he.row hb.1.row) (by omega) (Nat.le_refl 1)).then fun e' d3 he' => ?_
     exact (sat_chainG f _ e' (by omega) (h1.less (by omega)) he'.1).mono (fun x d q => q)
theorem sat_chain {one : PM X} {lv : Int} {f n : Nat} (hn : n < f) (h : Sat n PX one) : Sat n PX (chainM one lv f) := by
 unfold chainM
 refine h.then fun e d he => ?_
 exact (sat_chainG f (n - d) e (by omega) (h.less (by omega)) he.1).mono (fun x d' q => ⟨q,by have := he.2; omega⟩)
theorem sat_ahead {op : Int} {one : PM X} {n : Nat} (s : PS) (h1 : WF s.ts) (h2 : s.ts.length ≤ n) (hk : s.hd.k ≠ 0) (h : Sat (n - 1) PX one) : SatAt s PX (aheadM op one s) := by
 unfold aheadM
 have hb : SatAt s (fun _ d => d = 0 ∧ True) (enterM s) := ⟨h1,0,rfl,rfl,trivial⟩
 unfold PM.then
 show SatAt s PX ((takeM.then fun t => one.then fun x => (madeM (opX 3 op false t.a 1 x.flat .none)).then fun e => leaveM.then fun _ => PM.ret e) { s with wi := wrap64 (s.wi + 1),bar := if 32 < wrap64 (s.wi + 1) ∧ s.bar = 0 then 171 else s.bar })
 have h3 : SatAt ({ s with wi := wrap64 (s.wi + 1),bar := if 32 < wrap64 (s.wi + 1) ∧ s.bar = 0 then 171 else s.bar } : PS) PX ((takeM.then fun t => one.then fun x => (madeM (opX 3 op false t.a 1 x.flat .none)).then fun e => leaveM.then fun _ => PM.ret e) { s with wi := wrap64 (s.wi + 1),bar := if 32 < wrap64 (s.wi + 1) ∧ s.bar = 0 then 171 else s.bar }) := by
  refine SatAt.then h2 (take_at (s := { s with wi := wrap64 (s.wi + 1),bar := if 32 < wrap64 (s.wi + 1) ∧ s.bar = 0 then 171 else s.bar }) h1 hk) fun t d hd => ?_
  obtain ⟨rfl,_⟩ := hd
  refine h.then fun x d2 hx => ?_
  refine (made2 (d := 1) hx.1.row (by omega) (Nat.le_refl 1)).then fun e d3 he => ?_
  refine sat_leave.then fun _ d4 hd4 => ?_
  exact Sat.ret ⟨he.1,by omega⟩
 exact h3
theorem sat_listG {α : Type} {fl : α → List DT} {most : Nat} {one : PM α} {more : PM Bool} {G : α → Prop} {w : Nat} (hfl : ∀ x,G x → (fl x).length = w * 12 ∧ DT.okL 0 (fl x) = true) : ∀ (f n : Nat) (l : Sl),n < f → Sat n (fun x d => G x ∧ 1 ≤ d) one → Sat n (fun _ _ => True) more →
 (l.l.length = (w * l.n) * 12 ∧ DT.okL 0 l.l = true) → Sat n (fun l' d => (l'.l.length = (w * l'.n) * 12 ∧ DT.okL 0 l'.l = true) ∧ l'.n ≤ l.n + d) (listG fl most one more f l)
 | 0,n,l,hn,_,_,_ => by omega
 | f + 1,n,l,hn,h1,hm,hl => by
   unfold listG
   refine hm.thenB fun b d _ hdn => ?_
   cases b with
   | false => exact Sat.ret ⟨hl,by omega⟩
   | true =>
     simp only [if_true]
     have hbar : Sat (n - d) (fun _ d => d = 0) (if l.n = most then barM 2 else PM.ret ()) := by
      split
      · exact sat_bar 2
      · exact Sat.ret rfl
     refine hbar.then fun _ d2 hd2 => ?_
     subst hd2
     refine (h1.less (by omega)).thenB fun x d3 hx hd3 => ?_
     have hrow := row_app hl (hfl x hx.1)
     refine (sat_listG hfl f (n - d - 0 - d3) ⟨l.n + 1,l.l ++ fl x⟩ (by omega) (h1.less (by omega)) (hm.less (by omega)) ⟨?_,hrow.2⟩).mono (fun l' d' q => ⟨q.1, ?_⟩)
     · rw [hrow.1,show w * (l.n + 1) = w * l.n + w from Nat.mul_succ w l.n]
     · have q2 := q.2
       have := hx.2
       simp only at q2
       omega
theorem sat_list {α : Type} {fl : α → List DT} {most : Nat} {one : PM α} {more : PM Bool} {G : α → Prop} {w f n : Nat} (hfl : ∀ x,G x → (fl x).length = w * 12 ∧ DT.okL 0 (fl x) = true) (hn : n < f) (h1 : Sat n (fun x d => G x ∧ 1 ≤ d) one) (hm : Sat n (fun _ _ => True) more) :
 Sat n (fun l d => (l.l.length = (w * l.n) * 12 ∧ DT.okL 0 l.l = true) ∧ l.n ≤ d ∧ 1 ≤ d) (listM fl most one more f) := by
 unfold listM
 refine h1.then fun x d hx => ?_
 have hrow := hfl x hx.1
 refine (sat_listG hfl f (n - d) ⟨1,fl x⟩ (by omega) (h1.less (by omega)) (hm.less (by omega)) ⟨by rw [hrow.1,Nat.mul_one],hrow.2⟩).mono (fun l' d' q => ⟨q.1, ?_, ?_⟩)
 · have := q.2
   simp only at this
   have := hx.2
   omega
 · have := hx.2; omega
theorem sat_listF {α : Type} {fl : α → List DT} {most : Nat} {one : PM α} {more : PM Bool} : ∀ (f n : Nat) (l : Sl),n < f → Sat n (fun x d => 1 ≤ d) one → Sat n (fun _ _ => True) more → Sat n (fun l' d => True) (listG fl most one more f l)
 | 0,n,l,hn,_,_ => by omega
 | f + 1,n,l,hn,h1,hm => by
   unfold listG
   refine hm.thenB fun b d _ hdn => ?_
   cases b with
   | false => exact Sat.ret trivial
   | true =>
     simp only [if_true]
     have hbar : Sat (n - d) (fun _ d => d = 0) (if l.n = most then barM 2 else PM.ret ()) := by
      split
      · exact sat_bar 2
      · exact Sat.ret rfl
     refine hbar.then fun _ d2 hd2 => ?_
     refine (h1.less (by omega)).thenB fun x d3 hx hd3 => ?_
     exact (sat_listF f (n - d - d2 - d3) ⟨l.n + 1,l.l ++ fl x⟩ (by omega) (h1.less (by omega)) (hm.less (by omega))).mono (fun _ _ _ => trivial)
theorem sat_listE {α : Type} {fl : α → List DT} {most : Nat} {one : PM α} {more : PM Bool} {f n : Nat} (hn : n < f) (h1 : Sat n (fun x d => 1 ≤ d) one) (hm : Sat n (fun _ _ => True) more) : Sat n (fun l d => 1 ≤ d) (listM fl most one more f) := by
 unfold listM
 refine h1.then fun x d hx => ?_
 exact (sat_listF f (n - d) ⟨1,fl x⟩ (by omega) (h1.less (by omega)) (hm.less (by omega))).mono (fun _ _ _ => by omega)
theorem sat_listT {α σ : Type} {fl : α → List DT} {most : Nat} {one : σ → PM α} {more : PM (Option σ)} : ∀ (f n : Nat) (l : Sl),n < f → (∀ x,Sat n (fun x d => 1 ≤ d) (one x)) → Sat n (fun _ _ => True) more → Sat n (fun l' d => True) (listT fl most one more f l)
 | 0,n,l,hn,_,_ => by omega
 | f + 1,n,l,hn,h1,hm => by
   unfold listT
   refine hm.thenB fun o d _ hdn => ?_
   cases o with
   | none => exact Sat.ret trivial
   | some x =>
     have hbar : Sat (n - d) (fun _ d => d = 0) (if l.n = most then barM 2 else PM.ret ()) := by
      split
      · exact sat_bar 2
      · exact Sat.ret rfl
     refine hbar.then fun _ d2 hd2 => ?_
     refine ((h1 x).less (by omega)).thenB fun y d3 hx hd3 => ?_
     exact (sat_listT f (n - d - d2 - d3) ⟨l.n + 1,l.l ++ fl y⟩ (by omega) (fun x => (h1 x).less (by omega)) (hm.less (by omega))).mono (fun _ _ _ => trivial)
section
variable {E : PM X} {Q : PM Qy} {f n : Nat}
theorem GX.sub {k op a : Int} {dn : Bool} {sb : Sl} : GX ⟨k,op,0,0, [], [], [],0,dn,a,.none,sb⟩ := GX.none rfl
theorem sat_comma : Sat n (fun _ _ => True) commaM := (sat_skip [44]).mono (fun b d h => trivial)
theorem list1 {l : Sl} (h : l.l.length = (1 * l.n) * 12 ∧ DT.okL 0 l.l = true) : l.l.length = l.n * 12 ∧ DT.okL 0 l.l = true := by rw [Nat.one_mul] at h; exact h
theorem sat_seesM (x : List UInt8) : Sat n (fun _ _ => True) (fun s => .ok (seesB x s) s) := fun s h1 h2 => ⟨h1,0,rfl,trivial⟩
theorem sat_exprs (hn : n < f) (hE : Sat n PX E) : Sat n (fun l d => (l.l.length = l.n * 12 ∧ DT.okL 0 l.l = true) ∧ l.n ≤ d ∧ 1 ≤ d) (exprsM E f) :=
 (sat_list (G := GX) (w := 1) (fun x h => h.row) hn hE sat_comma).mono (fun l d q => ⟨list1 q.1,q.2⟩)
theorem sat_exists (a : Int) (hQ : Sat n (fun _ d => 1 ≤ d) Q) : Sat (n + 1) PX (existsM Q a) := by
 unfold existsM
 refine (sat_need _).then fun _ d hd => ?_
 refine (hQ.less (by omega)).then fun q d2 hq => ?_
 refine (sat_need _).then fun _ d3 hd3 => ?_
 exact Sat.ret ⟨GX.sub,by omega⟩
theorem sat_when (hE : Sat n PX E) : Sat n (fun (x : Wh) d => (GX x.c ∧ GX x.v) ∧ 1 ≤ d) (whenM E) := by
 unfold whenM
 refine (sat_need _).then fun _ d hd => ?_
 refine (hE.less (by omega)).then fun c d2 hc => ?_
 refine (sat_need _).then fun _ d3 hd3 => ?_
 refine (hE.less (by omega)).then fun v d4 hv => ?_
 exact Sat.ret ⟨⟨hc.1,hv.1⟩,by omega⟩
theorem sat_choice (a : Int) (hn : n < f) (hf : f ≤ 100000) (hE : Sat n PX E) : Sat n PX (choiceM E f a) := by
 unfold choiceM
 refine (sat_list (G := fun x : Wh => GX x.c ∧ GX x.v) (w := 2) (fun x h => row_app h.1.row h.2.row) hn (sat_when hE) (sat_seesM _)).thenB fun l d hl hdn => ?_
 refine (sat_skip _).then fun b d2 hb => ?_
 have hlast : Sat (n - d - d2) (fun x _ => GX x) (if b then E else PM.ret (litX 0 0 0 [])) := by
  split
  · exact (hE.less (by omega)).mono (fun x d q => q.1)
  · exact Sat.ret (GX.none rfl)
 refine hlast.then fun last d3 h3 => ?_
 refine (sat_need _).then fun _ d4 h4 => ?_
 refine (made2 (d := 1) (row_app (n := 2 * l.n) hl.1 h3.row) (by have := hl.2.1; omega) (Nat.le_refl 1)).mono (fun x d5 q => ⟨q.1,by have := hl.2.2; omega⟩)
theorem sat_nested (hE : Sat n PX E) (hQ : Sat n (fun _ d => 1 ≤ d) Q) : Sat (n + 1) PX (nestedM E Q) := by
 unfold nestedM
 refine (sat_need _).then fun _ d hd => ?_
 have hin : Sat (n + 1 - d) PX (nestedIn E Q) := fun s h1 h2 => by
  unfold nestedIn
  split
  · exact SatAt.then h2 (hQ s h1 (by omega)) (fun q d hd => Sat.ret ⟨GX.sub,by omega⟩)
  · exact hE s h1 (by omega)
 refine hin.then fun x d2 hx => ?_
 refine (sat_need _).then fun _ d3 hd3 => ?_
 exact Sat.ret ⟨hx.1,by omega⟩
theorem sat_keyAtom (hn : n + 1 < f) (hf : f ≤ 100000) (hE : Sat n PX E) (hQ : Sat n (fun _ d => 1 ≤ d) Q) : Sat (n + 1) PX (keyAtomM E Q f) := fun s h1 h2 => by
 have hlit : ∀ (m d a vk vn : Nat → Int) (k : Nat),True := fun _ _ _ _ _ _ => trivial
 refine Sat.thenB (n := n + 1) (sat_skip _) (fun b d hb hdn => ?_) s h1 h2
 cases b with
 | true => simp only [if_true] at hb ⊢; exact Sat.ret ⟨GX.none rfl,by omega⟩
 | false =>
   simp only [Bool.false_eq_true,if_false] at hb ⊢
   subst hb
   refine (sat_skip _).thenB fun b d hb hdn => ?_
   cases b with
   | true => simp only [if_true] at hb ⊢; exact Sat.ret ⟨GX.none rfl,by omega⟩
   | false =>
     simp only [Bool.false_eq_true,if_false] at hb ⊢
     subst hb
     refine (sat_skip _).thenB fun b d hb hdn => ?_
     cases b with
     | true => simp only [if_true] at hb ⊢; exact Sat.ret ⟨GX.none rfl,by omega⟩
     | false =>
       simp only [Bool.false_eq_true,if_false] at hb ⊢
       subst hb
       refine (sat_skip _).thenB fun b d hb hdn => ?_
       cases b with
       | true =>
         simp only [if_true] at hb ⊢
         subst hb
         exact ((sat_choice s.hd.a (n := n) (by omega) hf hE).less (by omega)).mono (fun x d q => ⟨q.1,by omega⟩)
       | false =>
         simp only [Bool.false_eq_true,if_false] at hb ⊢
         subst hb
         refine (sat_skip _).thenB fun b d hb hdn => ?_
         cases b with
         | true =>
           simp only [if_true] at hb ⊢
           subst hb
           exact ((sat_exists s.hd.a (n := n) hQ).less (by omega)).mono (fun x d q => ⟨q.1,by omega⟩)
         | false =>
           simp only [Bool.false_eq_true,if_false]
           exact sat_refuse
theorem sat_args (all : Bool) (hn : n < f) (hE : Sat n PX E) : Sat n (fun l d => ((l.l.length = l.n * 12 ∧ DT.okL 0 l.l = true) ∧ l.n ≤ d) ∧ (all = true → l = .none)) (argsM E f all) := fun s h1 h2 => by
 unfold argsM
 split
 · rename_i h
   exact (sat_exprs hn hE s h1 h2).mono (fun l d q => ⟨⟨q.1,q.2.1⟩,fun e => by rw [h.1] at e; cases e⟩)
 · exact ⟨h1,0,rfl,⟨⟨rfl,by decide⟩,Nat.le_refl _⟩,fun _ => rfl⟩
theorem sat_call (hn : n + 1 < f) (hf : f ≤ 100000) (hE : Sat n PX E) (s : PS) (h1 : WF s.ts) (h2 : s.ts.length ≤ n + 1) (hk : s.hd.k ≠ 0) : SatAt s PX (callM E f s) := by
 unfold callM
 split
 · trivial
 · refine SatAt.then h2 (take_at h1 hk) fun t d hd => ?_
   obtain ⟨rfl,_⟩ := hd
   refine (sat_need _).then fun _ d2 hd2 => ?_
   refine (sat_skip _).then fun all d3 hd3 => ?_
   refine ((sat_args all (n := n) (by omega) hE).less (by omega)).thenB fun l d4 hl hdn => ?_
   refine (sat_need _).then fun _ d5 hd5 => ?_
   refine sat_ite (fun hc => ?_) (fun hc => sat_ite (fun hq => sat_bad _ _) (fun hq => ?_))
   · have := hl.2 hc.1
     subst this
     exact Sat.ret ⟨GX.none rfl,by omega⟩
   · exact (made2 (d := 1) hl.1.1 (by have := hl.1.2; omega) (Nat.le_refl 1)).mono (fun x d q => ⟨q.1,by omega⟩)
theorem sat_named (hn : n + 1 < f) (hf : f ≤ 100000) (hE : Sat n PX E) (s : PS) (h1 : WF s.ts) (h2 : s.ts.length ≤ n + 1) (hk : s.hd.k ≠ 0) : SatAt s PX (namedM E f s) := by
 unfold namedM
 split
 · exact sat_call hn hf hE s h1 h2 hk
 · refine SatAt.then h2 (take_at h1 hk) fun t d hd => ?_
   obtain ⟨rfl,_⟩ := hd
   refine (sat_skip _).then fun b d2 hb => ?_
   split
   · refine (sat_kind (by decide)).then fun u d3 hd3 => ?_
     exact Sat.ret ⟨GX.none rfl,by omega⟩
   · exact Sat.ret ⟨GX.none rfl,by omega⟩
theorem sat_atom (hn : n + 1 < f) (hf : f ≤ 100000) (hE : Sat n PX E) (hQ : Sat n (fun _ d => 1 ≤ d) Q) : Sat (n + 1) PX (atomM E Q f) := fun s h1 h2 => by
 unfold atomM
 split
 · rename_i h
   exact SatAt.then h2 (take_at h1 (by omega)) fun t d hd => Sat.ret ⟨GX.none rfl,by omega⟩
 · split
   · rename_i h
     exact SatAt.then h2 (take_at h1 (by omega)) fun t d hd => Sat.ret ⟨GX.none rfl,by omega⟩
   · split
     · rename_i h
       exact sat_named hn hf hE s h1 h2 (by omega)
     · split
       · exact sat_nested hE hQ s h1 h2
       · exact sat_keyAtom hn hf hE hQ s h1 h2
theorem wf_tail {s : PS} (h1 : WF s.ts) (hk : s.hd.k ≠ 0) : WF s.ts.tail ∧ s.ts.tail.length + 1 = s.ts.length := by
 cases hs : s.ts with
 | nil => exact absurd hs h1.ne
 | cons t l =>
   have ht : s.hd = t := by unfold PS.hd; rw [hs]; rfl
   rw [hs] at h1
   exact ⟨h1.tail (ht ▸ hk),by simp⟩
theorem take_two {s : PS} (h1 : WF s.ts) (hk : s.hd.k ≠ 0) (hk2 : (tail1 s).k ≠ 0) (f : Tk → Tk → X) (hf : ∀ t u,GX (f t u)) : SatAt s PX ((takeM.then fun t => takeM.then fun u => PM.ret (f t u)) s) := by
 by_cases hb : s.bar = 0
 · have ht := wf_tail h1 hk
   have e1 : takeM s = .ok s.hd { s with ts := s.ts.tail } := if_neg (fun q => q hb)
   have e2 : takeM { s with ts := s.ts.tail } = .ok (tail1 s) { s with ts := s.ts.tail.tail } := if_neg (fun q => q hb)
   have ht2 := wf_tail (s := { s with ts := s.ts.tail }) ht.1 hk2
   have e : (takeM.then fun t => takeM.then fun u => PM.ret (f t u)) s = .ok (f s.hd (tail1 s)) { s with ts := s.ts.tail.tail } := by
    rw [then_ok e1,then_ok e2]
    rfl
   rw [e]
   refine ⟨ht2.1,2, ?_,hf _ _,by omega⟩
   have h3 : s.ts.tail.tail.length + 1 = s.ts.tail.length := ht2.2
   have h4 := ht.2
   show s.ts.tail.tail.length + 2 = s.ts.length
   omega
 · have e1 : takeM s = .bad s.hd.a s.bar := if_pos hb
   have e : (takeM.then fun t => takeM.then fun u => PM.ret (f t u)) s = .bad s.hd.a s.bar := then_bad e1
   rw [e]
   trivial
theorem sat_minus (hn : n + 1 < f) (hf : f ≤ 100000) (hE : Sat n PX E) (hQ : Sat n (fun _ d => 1 ≤ d) Q) : ∀ (g m : Nat),m < g → m ≤ n + 1 → Sat m PX (minusM E Q f g)
 | 0,m,h,_ => by omega
 | g + 1,m,h,hm => fun s h1 h2 => by
   unfold minusM
   split
   · rename_i hs
     split
     · rename_i h3
       exact take_two h1 (sees_kind hs) (by omega) (fun t u => litX t.a 1 (wrap64 (-u.n)) []) (fun t u => GX.none rfl)
     · have hpos : 1 ≤ s.ts.length := List.length_pos_iff.2 h1.ne
       exact sat_ahead s h1 h2 (sees_kind hs) (sat_minus hn hf hE hQ g (m - 1) (by omega) (by omega))
   · exact sat_atom hn hf hE hQ s h1 (by omega)
theorem sat_product (hn : n + 1 < f) (hf : f ≤ 100000) (hE : Sat n PX E) (hQ : Sat n (fun _ d => 1 ≤ d) Q) : Sat (n + 1) PX (productM E Q f) := sat_chain hn (sat_minus hn hf hE hQ f (n + 1) hn (Nat.le_refl _))
theorem sat_sum (hn : n + 1 < f) (hf : f ≤ 100000) (hE : Sat n PX E) (hQ : Sat n (fun _ d => 1 ≤ d) Q) : Sat (n + 1) PX (sumM E Q f) := sat_chain hn (sat_product hn hf hE hQ)
theorem sat_isNull {m : Nat} {e : X} (he : GX e) : Sat m (fun x _ => GX x) (isNullM e) := by
 unfold isNullM
 refine (sat_skip _).then fun b d hd => ?_
 refine (sat_need _).then fun _ d2 hd2 => ?_
 exact sat_mk he.row (by omega)
theorem sat_in {e : X} (d : Bool) (hn : n < f) (hf : f ≤ 100000) (hE : Sat n PX E) (hQ : Sat n (fun _ d => 1 ≤ d) Q) (he : GX e) : Sat n (fun x _ => GX x) (inM E Q f e d) := by
 unfold inM
 refine (sat_need _).thenB fun _ d2 hd2 hdn => ?_
 have hin : Sat (n - d2) (fun (x : X) _ => x.ar.dt.okE = true) (inIn E Q f e d) := fun s h1 h2 => by
  unfold inIn
  split
  · exact SatAt.then h2 (hQ s h1 (by omega)) (fun q d hd => Sat.ret (okE_row (n := 1) he.row (by omega)))
  · refine SatAt.thenB (n := n - d2) h2 (sat_exprs (n := n) hn hE s h1 (by omega)) (fun l d hl hd => ?_)
    exact Sat.ret (okE_row (n := 1 + l.n) (row_app he.row hl.1) (by have := hl.2.1; omega))
 refine hin.then fun x d3 hx => ?_
 refine (sat_need _).then fun _ d4 hd4 => ?_
 exact (sat_made hx).mono (fun x d q => q.2)
theorem sat_oneOf {e : X} (d : Bool) (hn : n + 1 < f) (hf : f ≤ 100000) (hE : Sat n PX E) (hQ : Sat n (fun _ d => 1 ≤ d) Q) (he : GX e) : Sat (n + 1) (fun x _ => GX x) (oneOfM E Q f e d) := by
 have hs := sat_sum hn hf hE hQ
 unfold oneOfM
 refine (sat_skip _).thenB fun b d1 hb hdn => ?_
 cases b with
 | true =>
   simp only [if_true] at hb ⊢
   subst hb
   exact (sat_in d (by omega) hf hE hQ he).less (by omega)
 | false =>
   simp only [Bool.false_eq_true,if_false]
   refine (sat_skip _).thenB fun b d2 hb hdn => ?_
   cases b with
   | true =>
     simp only [if_true]
     refine (hs.less (by omega)).then fun lo d3 hlo => ?_
     refine (sat_need _).then fun _ d4 hd4 => ?_
     refine (hs.less (by omega)).then fun hi d5 hhi => ?_
     exact sat_mk (row_app (row_app he.row hlo.1.row) hhi.1.row) (by omega)
   | false =>
     simp only [Bool.false_eq_true,if_false]
     refine (sat_skip _).thenB fun b d3 hb hdn => ?_
     cases b with
     | true =>
       simp only [if_true]
       refine (hs.less (by omega)).then fun x d4 hx => ?_
       exact sat_mk (row_app he.row hx.1.row) (by omega)
     | false =>
       simp only [Bool.false_eq_true,if_false]
       cases d with
       | true => exact sat_refuse
       | false => exact Sat.ret he
theorem sat_test (hn : n + 1 < f) (hf : f ≤ 100000) (hE : Sat n PX E) (hQ : Sat n (fun _ d => 1 ≤ d) Q) : Sat (n + 1) PX (testM E Q f) := by
 have hs := sat_sum hn hf hE hQ
 unfold testM
 refine hs.then fun e d he => ?_
 refine (sat_op 3).then fun op d2 hd2 => ?_
 by_cases ho : op = 0
 · rw [if_pos ho]
   refine (sat_skip _).then fun b d3 hd3 => ?_
   cases b with
   | true =>
     simp only [if_true]
     exact (sat_isNull he.1).mono (fun x d q => ⟨q,by have := he.2; omega⟩)
   | false =>
     simp only [Bool.false_eq_true,if_false]
     refine (sat_skip _).then fun b d4 hd4 => ?_
     exact ((sat_oneOf b hn hf hE hQ he.1).less (by omega)).mono (fun x d q => ⟨q,by have := he.2; omega⟩)
 · rw [if_neg ho]
   refine (hs.less (by omega)).then fun b d3 hb => ?_
   exact (made2 (d := 1) (row_app he.1.row hb.1.row) (by omega) (Nat.le_refl 1)).mono (fun x d q => ⟨q.1,by have := he.2; omega⟩)
theorem sat_not (hn : n + 1 < f) (hf : f ≤ 100000) (hE : Sat n PX E) (hQ : Sat n (fun _ d => 1 ≤ d) Q) : ∀ (g m : Nat),m < g → m ≤ n + 1 → Sat m PX (notM E Q f g)
 | 0,m,h,_ => by omega
 | g + 1,m,h,hm => fun s h1 h2 => by
   unfold notM
   split
   · rename_i hs
     have hpos : 1 ≤ s.ts.length := List.length_pos_iff.2 h1.ne
     exact sat_ahead s h1 h2 (sees_kind hs) (sat_not hn hf hE hQ g (m - 1) (by omega) (by omega))
   · exact sat_test hn hf hE hQ s h1 (by omega)
theorem sat_expr (hn : n + 1 < f) (hf : f ≤ 100000) (hE : Sat n PX E) (hQ : Sat n (fun _ d => 1 ≤ d) Q) : Sat (n + 1) PX (exprM E Q f) := by
 unfold exprM
 refine sat_enter.then fun _ d hd => ?_
 subst hd
 refine (sat_chain (n := n + 1 - 0) (by omega) (sat_chain (n := n + 1) hn (sat_not hn hf hE hQ f (n + 1) hn (Nat.le_refl _)))).then fun e d2 he => ?_
 refine sat_leave.then fun _ d3 hd3 => ?_
 exact Sat.ret ⟨he.1,by have := he.2; omega⟩
theorem sat_item (hE : Sat n PX E) : Sat n (fun (_ : It) d => 1 ≤ d) (itemM E) := by
 unfold itemM
 refine (sat_skip _).then fun b d hd => ?_
 cases b with
 | true => simp only [if_true] at hd ⊢; exact Sat.ret (by omega)
 | false =>
   simp only [Bool.false_eq_true,if_false]
   refine (hE.less (by omega)).then fun x d2 hx => ?_
   have := hx.2
   refine (sat_skip _).then fun b d3 hd3 => ?_
   cases b with
   | true =>
     simp only [if_true]
     refine (sat_kind (by decide)).then fun t d4 hd4 => ?_
     exact Sat.ret (by omega)
   | false =>
     simp only [Bool.false_eq_true,if_false]
     exact Sat.ret (by omega)
theorem sat_condition (w : List UInt8) (hE : Sat n PX E) : Sat n (fun (_ : Sl) _ => True) (conditionM E w) := by
 unfold conditionM
 refine (sat_skip _).then fun b d hd => ?_
 cases b with
 | true =>
   simp only [if_true]
   exact (hE.less (by omega)).then fun x d2 hx => Sat.ret trivial
 | false => exact Sat.ret trivial
theorem sat_as (b : Bool) : Sat n (fun (_ : List UInt8) _ => True) (asM b) := fun s h1 h2 => by
 unfold asM
 split
 · exact Sat.then (n := n) (sat_kind (by decide)) (fun t d hd => Sat.ret trivial) s h1 h2
 · exact ⟨h1,0,rfl,trivial⟩
theorem sat_source (left joined : Bool) (hE : Sat n PX E) : Sat n (fun (_ : So) d => 1 ≤ d) (sourceM E left joined) := by
 unfold sourceM
 refine (sat_kind (by decide)).then fun t d hd => ?_
 refine (sat_skip _).then fun b d2 hd2 => ?_
 refine (sat_as b).then fun an d3 hd3 => ?_
 cases joined with
 | true =>
   simp only [if_true]
   refine (sat_need _).then fun _ d4 hd4 => ?_
   refine (hE.less (by omega)).then fun x d5 hx => ?_
   exact Sat.ret (by omega)
 | false =>
   simp only [Bool.false_eq_true,if_false]
   exact Sat.ret (by omega)
theorem sat_join : Sat n (fun (_ : Bool × Bool) _ => True) joinM := by
 unfold joinM
 refine (sat_skip _).then fun left d hd => ?_
 have h1 : Sat (n - d) (fun (_ : Bool) _ => True) (if left then PM.ret true else skipM [73,78,78,69,82]) := by
  cases left with
  | true => exact Sat.ret trivial
  | false => exact (sat_skip _).mono (fun _ _ _ => trivial)
 refine h1.then fun b d2 hd2 => ?_
 cases b with
 | true =>
   simp only [if_true]
   refine (sat_need _).then fun _ d3 hd3 => ?_
   exact Sat.ret trivial
 | false =>
   simp only [Bool.false_eq_true,if_false]
   refine (sat_skip _).then fun j d3 hd3 => ?_
   exact Sat.ret trivial
theorem sat_moreSrc : Sat n (fun (_ : Option (Bool × Bool)) _ => True) moreSrc := by
 unfold moreSrc
 refine sat_join.then fun lj d hd => ?_
 by_cases h : lj.2 = true
 · rw [if_pos h]; exact Sat.ret trivial
 · rw [if_neg h]
   refine sat_comma.then fun b d2 hd2 => ?_
   exact Sat.ret trivial
theorem sat_sources (hn : n < f) (hE : Sat n PX E) : Sat n (fun (_ : Sl) _ => True) (sourcesM E f) := by
 unfold sourcesM
 refine (sat_source false false hE).then fun x d hx => ?_
 exact (sat_listT f (n - d) ⟨1,x.flat⟩ (by omega) (fun lj => (sat_source lj.1 lj.2 hE).less (by omega)) sat_moreSrc).mono (fun _ _ _ => trivial)
theorem sat_key : Sat n (fun (_ : Ke) d => 1 ≤ d) keyM := fun s h1 h2 => by
 unfold keyM
 by_cases h : s.hd.k ≠ 1 ∧ (s.hd.k ≠ 3 ∨ s.hd.n = 0)
 · rw [if_pos h]; trivial
 · rw [if_neg h]
   refine SatAt.then h2 (take_at h1 (by omega)) fun t d hd => ?_
   refine (sat_skip _).then fun b d2 hd2 => ?_
   have h3 : Sat (n - d - d2) (fun (_ : Bool) _ => True) (if b then PM.ret true else (skipM [65,83,67]).then fun _ => PM.ret false) := by
    cases b with
    | true => exact Sat.ret trivial
    | false =>
      simp only [Bool.false_eq_true,if_false]
      exact (sat_skip _).then fun _ _ _ => Sat.ret trivial
   refine h3.then fun _ d3 hd3 => ?_
   exact Sat.ret (by omega)
theorem sat_exprsF (hn : n < f) (hE : Sat n PX E) : Sat n (fun (_ : Sl) _ => True) (exprsM E f) := (sat_exprs hn hE).mono (fun _ _ _ => trivial)
theorem sat_select (how : Int) (hn : n + 1 < f) (hE : Sat n PX E) : Sat (n + 1) (fun (_ : Se) d => 1 ≤ d) (selectOneM E f how) := by
 unfold selectOneM
 refine (sat_need _).then fun _ d hd => ?_
 refine (sat_skip _).then fun di d2 hd2 => ?_
 refine (sat_listE (n := n + 1 - d - d2) (by omega) (sat_item (hE.less (by omega))) sat_comma).then fun it d3 hd3 => ?_
 refine (sat_skip _).then fun b d4 hd4 => ?_
 have h1 : Sat (n + 1 - d - d2 - d3 - d4) (fun (_ : Sl) _ => True) (if b then sourcesM E f else PM.ret .none) := by
  cases b with
  | true => exact sat_sources (by omega) (hE.less (by omega))
  | false => exact Sat.ret trivial
 refine h1.then fun fr d5 hd5 => ?_
 refine (sat_condition _ (hE.less (by omega))).then fun wh d6 hd6 => ?_
 refine (sat_skip _).then fun b d7 hd7 => ?_
 have h2 : Sat (n + 1 - d - d2 - d3 - d4 - d5 - d6 - d7) (fun (_ : Sl) _ => True) (if b then (needM [66,89]).then fun _ => exprsM E f else PM.ret .none) := by
  cases b with
  | true =>
    simp only [if_true]
    exact (sat_need _).then fun _ d8 hd8 => sat_exprsF (by omega) (hE.less (by omega))
  | false => exact Sat.ret trivial
 refine h2.then fun gr d8 hd8 => ?_
 refine (sat_condition _ (hE.less (by omega))).then fun hv d9 hd9 => ?_
 exact Sat.ret (by omega)
theorem sat_joining : Sat n (fun (_ : Int) _ => True) joiningM := by
 unfold joiningM
 refine (sat_skip _).then fun b d hd => ?_
 cases b with
 | true =>
   simp only [if_true]
   exact (sat_skip _).then fun _ _ _ => Sat.ret trivial
 | false =>
   simp only [Bool.false_eq_true,if_false]
   refine (sat_skip _).then fun b d hd => ?_
   cases b with
   | true => exact Sat.ret trivial
   | false =>
     simp only [Bool.false_eq_true,if_false]
     exact (sat_skip _).then fun _ _ _ => Sat.ret trivial
theorem sat_selects (hn : n + 1 < f) (hE : Sat n PX E) : Sat (n + 1) (fun (_ : Sl) d => 1 ≤ d) (selectsM E f) := by
 unfold selectsM
 refine (sat_select 0 hn hE).then fun x d hx => ?_
 refine (sat_listT f (n + 1 - d) ⟨1,x.flat⟩ (by omega) (fun how => (sat_select how hn hE).less (by omega)) ?_).mono (fun _ _ _ => by omega)
 exact sat_joining.then fun how d2 hd2 => Sat.ret trivial
theorem sat_query (hn : n + 1 < f) (hE : Sat n PX E) : Sat (n + 1) (fun (_ : Qy) d => 1 ≤ d) (queryM E f) := by
 unfold queryM
 refine sat_enter.then fun _ d hd => ?_
 refine ((sat_selects hn hE).less (by omega)).then fun se d2 hd2 => ?_
 refine (sat_skip _).then fun b d3 hd3 => ?_
 have h1 : Sat (n + 1 - d - d2 - d3) (fun (_ : Sl) _ => True) (if b then (needM [66,89]).then fun _ => listM Ke.flat 16 keyM commaM f else PM.ret .none) := by
  cases b with
  | true =>
    simp only [if_true]
    exact (sat_need _).then fun _ d4 hd4 => (sat_listE (by omega) sat_key sat_comma).mono (fun _ _ _ => trivial)
  | false => exact Sat.ret trivial
 refine h1.then fun od d4 hd4 => ?_
 refine (sat_skip _).then fun b d5 hd5 => ?_
 have h2 : Sat (n + 1 - d - d2 - d3 - d4 - d5) (fun (_ : Int × Int) _ => True) (if b then (kindM 3).then fun t => (skipM [79,70,70,83,69,84]).then fun b => if b then (kindM 3).then fun u => PM.ret (t.n,u.n) else PM.ret (t.n,0) else PM.ret ((-1 : Int),(0 : Int))) := by
  cases b with
  | true =>
    simp only [if_true]
    refine (sat_kind (by decide)).then fun t d6 hd6 => ?_
    refine (sat_skip _).then fun b d7 hd7 => ?_
    cases b with
    | true =>
      simp only [if_true]
      exact (sat_kind (by decide)).then fun _ _ _ => Sat.ret trivial
    | false => exact Sat.ret trivial
  | false => exact Sat.ret trivial
 refine h2.then fun lo d6 hd6 => ?_
 refine sat_leave.then fun _ d7 hd7 => ?_
 exact Sat.ret (by omega)
end
theorem sat_knot {f : Nat} (hf : f ≤ 100000) : ∀ (g n : Nat),n < g → n < f → Sat n PX (knotM f g).1 ∧ Sat n (fun (_ : Qy) d => 1 ≤ d) (knotM f g).2
 | 0,n,h,_ => by omega
 | g + 1,n,h,hn => by
   cases n with
   | zero =>
     refine ⟨fun s h1 h2 => ?_,fun s h1 h2 => ?_⟩
     · have := List.length_pos_iff.2 h1.ne; omega
     · have := List.length_pos_iff.2 h1.ne; omega
   | succ n =>
     obtain ⟨h1,h2⟩ := sat_knot hf g n (by omega) (by omega)
     exact ⟨sat_expr hn hf h1 h2,sat_query hn h1⟩
end Go.Proofs.YtlgkghebemfpjaaGreatDoor.Pa
