/- Trees that are the same but for places. Parsers over tokens that are the same but for where they are. The grammar over tokens that are the same but for where they are. -/
import Derived.Test.YtlgkghebemfpjaaGreatDoorQEn
namespace Go.Proofs.YtlgkghebemfpjaaGreatDoor.Pa
open Go.ChangeShapes Go.WideShapes Go.ChangeAt Go.RowKit
set_option linter.unusedVariables false
set_option maxRecDepth 100000
inductive Kd where
 | X | Q | Se | It | So | Ke
deriving DecidableEq
inductive LT where
 | i | s | b | p
 | sl (k : Kd)
deriving DecidableEq
def Kd.pat : Kd → List LT
 | .X => [.i,.i,.i,.i,.s,.s,.s,.i,.b,.p,.sl .X,.sl .Q]
 | .Q => [.sl .Se,.sl .Ke,.i,.i]
 | .Se => [.i,.b,.sl .It,.sl .So,.sl .X,.sl .X,.sl .X]
 | .It => [.b,.i,.i,.i,.i,.s,.s,.s,.i,.b,.p,.sl .X,.sl .Q,.s]
 | .So => [.s,.s,.b,.sl .X,.p]
 | .Ke => [.i,.s,.b,.p]
def Kd.sz : Kd → Nat
 | .X => 12
 | .Q => 4
 | .Se => 7
 | .It => 14
 | .So => 5
 | .Ke => 4
theorem Kd.pos (k : Kd) : 0 < k.sz := by cases k <;> decide
inductive EqD : LT → DT → DT → Prop where
 | i (n : Int) : EqD .i (.i n) (.i n)
 | s (x : List UInt8) : EqD .s (.s x) (.s x)
 | b (x : Bool) : EqD .b (.b x) (.b x)
 | p (m n : Int) : EqD .p (.p m) (.p n)
 | sl (k : Kd) (n : Nat) (l l' : List DT) (hn : n ≤ 9223372036854775807) (h1 : l.length = n * k.sz) (h2 : l'.length = n * k.sz) (h : ∀ (j : Nat) (t : LT) (d d' : DT),k.pat[j % k.sz]? = some t → l[j]? = some d → l'[j]? = some d' → EqD t d d') : EqD (.sl k) (.sl n l) (.sl n l')
structure RowE (k : Kd) (n : Nat) (l l' : List DT) : Prop where
 h1 : l.length = n * k.sz
 h2 : l'.length = n * k.sz
 h : ∀ (j : Nat) (t : LT) (d d' : DT),k.pat[j % k.sz]? = some t → l[j]? = some d → l'[j]? = some d' → EqD t d d'
theorem RowE.nil (k : Kd) : RowE k 0 [] [] := ⟨by simp,by simp,fun j t d d' _ h => by simp at h⟩
theorem RowE.eqD {k : Kd} {n : Nat} {l l' : List DT} (h : RowE k n l l') (hn : n ≤ 9223372036854775807) : EqD (.sl k) (.sl n l) (.sl n l') := .sl k n l l' hn h.h1 h.h2 h.h
theorem RowE.app {k : Kd} {n m : Nat} {a a' b b' : List DT} (h : RowE k n a a') (g : RowE k m b b') : RowE k (n + m) (a ++ b) (a' ++ b') := by
 refine ⟨by rw [List.length_append,h.h1,g.h1,Nat.add_mul],by rw [List.length_append,h.h2,g.h2,Nat.add_mul],fun j t d d' ht hd hd' => ?_⟩
 by_cases hj : j < n * k.sz
 · rw [List.getElem?_append_left (by rw [h.h1]; exact hj)] at hd
   rw [List.getElem?_append_left (by rw [h.h2]; exact hj)] at hd'
   exact h.h j t d d' ht hd hd'
 · rw [List.getElem?_append_right (by rw [h.h1]; omega),h.h1] at hd
   rw [List.getElem?_append_right (by rw [h.h2]; omega),h.h2] at hd'
   refine g.h (j - n * k.sz) t d d' ?_ hd hd'
   rw [← ht]
   congr 1
   have e : j = (j - n * k.sz) + k.sz * n := by rw [Nat.mul_comm k.sz n]; omega
   conv => rhs; rw [e,Nat.add_mul_mod_self_left]
theorem okL_of (l : List DT) : ∀ j,(∀ (k : Nat) (d : DT),l[k]? = some d → (j + k) % 12 = 10 → d.okE = true) → DT.okL j l = true := by
 induction l with
 | nil => intro j _; simp only [DT.okL]
 | cons e ds ih =>
   intro j h
   rw [DT.okL_cons,Bool.and_eq_true]
   refine ⟨?_,ih (j + 1) (fun k d hd hm => h (k + 1) d (by simpa using hd) (by omega))⟩
   by_cases q : j % 12 = 10
   · rw [if_pos q]; exact h 0 e rfl (by omega)
   · rw [if_neg q]
theorem depL_same (l : List DT) : ∀ (l' : List DT) (j : Nat),l.length = l'.length → (∀ (k : Nat) (d d' : DT),l[k]? = some d → l'[k]? = some d' → (j + k) % 12 = 10 → d.dep = d'.dep) → DT.depL j l = DT.depL j l' := by
 induction l with
 | nil =>
   intro l' j hl _
   cases l' with
   | nil => rfl
   | cons => simp at hl
 | cons e ds ih =>
   intro l' j hl h
   cases l' with
   | nil => simp at hl
   | cons e' ds' =>
     rw [DT.depL_cons,DT.depL_cons,ih ds' (j + 1) (by simpa using hl) (fun k d d' hd hd' hm => h (k + 1) d d' (by simpa using hd) (by simpa using hd') (by omega))]
     by_cases q : j % 12 = 10
     · rw [if_pos q,if_pos q,h 0 e e' rfl rfl (by omega)]
     · rw [if_neg q,if_neg q]
theorem EqD.same {t : LT} {d d' : DT} (h : EqD t d d') : t = .sl .X → d.okE = true ∧ d'.okE = true ∧ d.dep = d'.dep := by
 induction h with
 | i n => intro e; cases e
 | s x => intro e; cases e
 | b x => intro e; cases e
 | p m n => intro e; cases e
 | sl k n l l' hn h1 h2 h ih =>
   intro e
   cases e
   have hp : ∀ j,j % 12 = 10 → Kd.X.pat[j % Kd.X.sz]? = some (.sl .X) := by
    intro j hj
    show Kd.X.pat[j % 12]? = some (.sl .X)
    rw [hj]
    rfl
   have hl : l.length = l'.length := by rw [h1,h2]
   have hq : ∀ (k : Nat) (d : DT),l[k]? = some d → k % 12 = 10 → ∃ d',l'[k]? = some d' ∧ d.okE = true ∧ d'.okE = true ∧ d.dep = d'.dep := by
    intro k d hd hm
    have hk : k < l'.length := by
     rw [← hl]
     rcases Nat.lt_or_ge k l.length with q | q
     · exact q
     · rw [List.getElem?_eq_none q] at hd; cases hd
    exact ⟨_,List.getElem?_eq_getElem hk,ih k _ d _ (hp k hm) hd (List.getElem?_eq_getElem hk) rfl⟩
   have hq' : ∀ (k : Nat) (d : DT),l'[k]? = some d → k % 12 = 10 → d.okE = true := by
    intro k d hd hm
    have hk : k < l.length := by
     rw [hl]
     rcases Nat.lt_or_ge k l'.length with q | q
     · exact q
     · rw [List.getElem?_eq_none q] at hd; cases hd
    exact (ih k _ _ d (hp k hm) (List.getElem?_eq_getElem hk) hd rfl).2.1
   refine ⟨?_, ?_, ?_⟩
   · exact okE_row (n := n) ⟨h1,okL_of l 0 (fun k d hd hm => (hq k d hd (by omega)).choose_spec.2.1)⟩ hn
   · exact okE_row (n := n) ⟨h2,okL_of l' 0 (fun k d hd hm => hq' k d hd (by omega))⟩ hn
   · simp only [DT.dep]
     refine depL_same l l' 0 hl (fun k d d' hd hd' hm => ?_)
     obtain ⟨e,he,_,_,h5⟩ := hq k d hd (by omega)
     rw [hd'] at he
     injection he with q
     rw [q]
     exact h5
structure RX (x x' : X) : Prop where
 k : x.k = x'.k
 op : x.op = x'.op
 vk : x.vk = x'.vk
 vn : x.vn = x'.vn
 vs : x.vs = x'.vs
 tb : x.tb = x'.tb
 nm : x.nm = x'.nm
 col : x.col = x'.col
 dn : x.dn = x'.dn
 ar : EqD (.sl .X) x.ar.dt x'.ar.dt
 sb : EqD (.sl .Q) x.sb.dt x'.sb.dt
abbrev RS (k : Kd) (l l' : Sl) : Prop := EqD (.sl k) l.dt l'.dt
theorem RS.none (k : Kd) : RS k .none .none := (RowE.nil k).eqD (by omega)
theorem RX.row {x x' : X} (h : RX x x') : RowE .X 1 x.flat x'.flat := by
 refine ⟨rfl,rfl,fun j t d d' ht hd hd' => ?_⟩
 obtain ⟨h1,h2,h3,h4,h5,h6,h7,h8,h9,h10,h11⟩ := h
 unfold X.flat at hd hd'
 rw [← h1, ← h2, ← h3, ← h4, ← h5, ← h6, ← h7, ← h8, ← h9] at hd'
 have hj : j < 12 := by
  rcases Nat.lt_or_ge j 12 with q | q
  · exact q
  · rw [List.getElem?_eq_none (by simpa using q)] at hd; cases hd
 have e : j % Kd.X.sz = j := Nat.mod_eq_of_lt hj
 rw [e] at ht
 match j,hj with
 | 0,_ => cases ht; cases hd; cases hd'; exact .i _
 | 1,_ => cases ht; cases hd; cases hd'; exact .i _
 | 2,_ => cases ht; cases hd; cases hd'; exact .i _
 | 3,_ => cases ht; cases hd; cases hd'; exact .i _
 | 4,_ => cases ht; cases hd; cases hd'; exact .s _
 | 5,_ => cases ht; cases hd; cases hd'; exact .s _
 | 6,_ => cases ht; cases hd; cases hd'; exact .s _
 | 7,_ => cases ht; cases hd; cases hd'; exact .i _
 | 8,_ => cases ht; cases hd; cases hd'; exact .b _
 | 9,_ => cases ht; cases hd; cases hd'; exact .p _ _
 | 10,_ => cases ht; cases hd; cases hd'; exact h10
 | 11,_ => cases ht; cases hd; cases hd'; exact h11
structure RQ (x x' : Qy) : Prop where
 se : RS .Se x.se x'.se
 od : RS .Ke x.od x'.od
 li : x.li = x'.li
 off : x.off = x'.off
theorem RQ.row {x x' : Qy} (h : RQ x x') : RowE .Q 1 x.flat x'.flat := by
 refine ⟨rfl,rfl,fun j t d d' ht hd hd' => ?_⟩
 obtain ⟨h1,h2,h3,h4⟩ := h
 unfold Qy.flat at hd hd'
 rw [← h3, ← h4] at hd'
 have hj : j < 4 := by
  rcases Nat.lt_or_ge j 4 with q | q
  · exact q
  · rw [List.getElem?_eq_none (by simpa using q)] at hd; cases hd
 have e : j % Kd.Q.sz = j := Nat.mod_eq_of_lt hj
 rw [e] at ht
 match j,hj with
 | 0,_ => cases ht; cases hd; cases hd'; exact h1
 | 1,_ => cases ht; cases hd; cases hd'; exact h2
 | 2,_ => cases ht; cases hd; cases hd'; exact .i _
 | 3,_ => cases ht; cases hd; cases hd'; exact .i _
structure RIt (x x' : It) : Prop where
 star : x.star = x'.star
 xx : RX x.x x'.x
 asn : x.asn = x'.asn
theorem RIt.row {x x' : It} (h : RIt x x') : RowE .It 1 x.flat x'.flat := by
 refine ⟨rfl,rfl,fun j t d d' ht hd hd' => ?_⟩
 obtain ⟨h1,h2,h3⟩ := h
 unfold It.flat at hd hd'
 rw [← h1, ← h3] at hd'
 have hj : j < 14 := by
  rcases Nat.lt_or_ge j 14 with q | q
  · exact q
  · rw [List.getElem?_eq_none (by simpa [X.flat] using q)] at hd; cases hd
 have e : j % Kd.It.sz = j := Nat.mod_eq_of_lt hj
 rw [e] at ht
 rcases Nat.eq_zero_or_pos j with q | q
 · subst q; cases ht; cases hd; cases hd'; exact .b _
 · by_cases q2 : j = 13
   · subst q2; cases ht; cases hd; cases hd'; exact .s _
   · have hx := h2.row
     obtain ⟨i,rfl⟩ : ∃ i,j = i + 1 := ⟨j - 1,by omega⟩
     rw [List.getElem?_cons_succ,List.getElem?_append_left (by simp [X.flat]; omega)] at hd hd'
     refine hx.h i t d d' ?_ hd hd'
     rw [show i % Kd.X.sz = i from Nat.mod_eq_of_lt (by show i < 12; omega), ← ht]
     have : ∀ i < 12,Kd.X.pat[i]? = Kd.It.pat[i + 1]? := by decide
     exact this i (by omega)
structure RSo (x x' : So) : Prop where
 tb : x.tb = x'.tb
 asn : x.asn = x'.asn
 left : x.left = x'.left
 on : RS .X x.on x'.on
theorem RSo.row {x x' : So} (h : RSo x x') : RowE .So 1 x.flat x'.flat := by
 refine ⟨rfl,rfl,fun j t d d' ht hd hd' => ?_⟩
 obtain ⟨h1,h2,h3,h4⟩ := h
 unfold So.flat at hd hd'
 rw [← h1, ← h2, ← h3] at hd'
 have hj : j < 5 := by
  rcases Nat.lt_or_ge j 5 with q | q
  · exact q
  · rw [List.getElem?_eq_none (by simpa using q)] at hd; cases hd
 have e : j % Kd.So.sz = j := Nat.mod_eq_of_lt hj
 rw [e] at ht
 match j,hj with
 | 0,_ => cases ht; cases hd; cases hd'; exact .s _
 | 1,_ => cases ht; cases hd; cases hd'; exact .s _
 | 2,_ => cases ht; cases hd; cases hd'; exact .b _
 | 3,_ => cases ht; cases hd; cases hd'; exact h4
 | 4,_ => cases ht; cases hd; cases hd'; exact .p _ _
structure RKe (x x' : Ke) : Prop where
 pl : x.pl = x'.pl
 nm : x.nm = x'.nm
 dn : x.dn = x'.dn
theorem RKe.row {x x' : Ke} (h : RKe x x') : RowE .Ke 1 x.flat x'.flat := by
 refine ⟨rfl,rfl,fun j t d d' ht hd hd' => ?_⟩
 obtain ⟨h1,h2,h3⟩ := h
 unfold Ke.flat at hd hd'
 rw [← h1, ← h2, ← h3] at hd'
 have hj : j < 4 := by
  rcases Nat.lt_or_ge j 4 with q | q
  · exact q
  · rw [List.getElem?_eq_none (by simpa using q)] at hd; cases hd
 have e : j % Kd.Ke.sz = j := Nat.mod_eq_of_lt hj
 rw [e] at ht
 match j,hj with
 | 0,_ => cases ht; cases hd; cases hd'; exact .i _
 | 1,_ => cases ht; cases hd; cases hd'; exact .s _
 | 2,_ => cases ht; cases hd; cases hd'; exact .b _
 | 3,_ => cases ht; cases hd; cases hd'; exact .p _ _
structure RSe (x x' : Se) : Prop where
 how : x.how = x'.how
 di : x.di = x'.di
 it : RS .It x.it x'.it
 fr : RS .So x.fr x'.fr
 wh : RS .X x.wh x'.wh
 gr : RS .X x.gr x'.gr
 hv : RS .X x.hv x'.hv
theorem RSe.row {x x' : Se} (h : RSe x x') : RowE .Se 1 x.flat x'.flat := by
 refine ⟨rfl,rfl,fun j t d d' ht hd hd' => ?_⟩
 obtain ⟨h1,h2,h3,h4,h5,h6,h7⟩ := h
 unfold Se.flat at hd hd'
 rw [← h1, ← h2] at hd'
 have hj : j < 7 := by
  rcases Nat.lt_or_ge j 7 with q | q
  · exact q
  · rw [List.getElem?_eq_none (by simpa using q)] at hd; cases hd
 have e : j % Kd.Se.sz = j := Nat.mod_eq_of_lt hj
 rw [e] at ht
 match j,hj with
 | 0,_ => cases ht; cases hd; cases hd'; exact .i _
 | 1,_ => cases ht; cases hd; cases hd'; exact .b _
 | 2,_ => cases ht; cases hd; cases hd'; exact h3
 | 3,_ => cases ht; cases hd; cases hd'; exact h4
 | 4,_ => cases ht; cases hd; cases hd'; exact h5
 | 5,_ => cases ht; cases hd; cases hd'; exact h6
 | 6,_ => cases ht; cases hd; cases hd'; exact h7
def RWh (x x' : Wh) : Prop := RX x.c x'.c ∧ RX x.v x'.v
theorem RWh.row {x x' : Wh} (h : RWh x x') : RowE .X 2 x.flat x'.flat := h.1.row.app h.2.row
structure TkE (t t' : Tk) : Prop where
 k : t.k = t'.k
 tt : t.t = t'.t
 n : t.n = t'.n
theorem TkE.refl (t : Tk) : TkE t t := ⟨rfl,rfl,rfl⟩
structure SimS (s s' : PS) : Prop where
 len : s.ts.length = s'.ts.length
 tk : ∀ (i : Nat) (t t' : Tk),s.ts[i]? = some t → s'.ts[i]? = some t' → TkE t t'
 wi : s.wi = s'.wi
 bar : s.bar = s'.bar
theorem SimS.hd {s s' : PS} (h : SimS s s') : TkE s.hd s'.hd := by
 unfold PS.hd
 have hl := h.len
 have ht := h.tk 0
 cases hs : s.ts with
 | nil =>
   cases hs' : s'.ts with
   | nil => exact TkE.refl _
   | cons t' l' => rw [hs,hs'] at hl; simp at hl
 | cons t l =>
   cases hs' : s'.ts with
   | nil => rw [hs,hs'] at hl; simp at hl
   | cons t' l' =>
     rw [hs,hs'] at ht
     exact ht t t' rfl rfl
theorem SimS.tail {s s' : PS} (h : SimS s s') : SimS { s with ts := s.ts.tail } { s' with ts := s'.ts.tail } :=
 ⟨by show s.ts.tail.length = s'.ts.tail.length; rw [List.length_tail,List.length_tail,h.len],fun i t t' q q' => h.tk (i + 1) t t' (by rw [← List.getElem?_tail]; exact q) (by rw [← List.getElem?_tail]; exact q'),h.wi,h.bar⟩
theorem SimS.tail1 {s s' : PS} (h : SimS s s') : TkE (tail1 s) (tail1 s') := h.tail.hd
theorem TkE.isT {t t' : Tk} (h : TkE t t') (x : List UInt8) : isT t x = isT t' x := by
 unfold Pa.isT
 rw [h.k,h.tt]
theorem SimS.sees {s s' : PS} (h : SimS s s') (x : List UInt8) : seesB x s = seesB x s' := h.hd.isT x
def SimAt {α : Type} (s s' : PS) (P : α → α → Nat → Prop) : PR α → PR α → Prop
 | .out,.out => True
 | .bad _ e,.bad _ e' => e = e'
 | .ok x S,.ok x' S' => SimS S S' ∧ ∃ d,S.ts.length + d = s.ts.length ∧ P x x' d
 | _,_ => False
def Sim {α : Type} (n : Nat) (P : α → α → Nat → Prop) (m m' : PM α) : Prop := ∀ s s',SimS s s' → s.ts.length ≤ n → SimAt s s' P (m s) (m' s')
section
variable {α β : Type} {n : Nat} {P P' : α → α → Nat → Prop} {Q : β → β → Nat → Prop}
theorem SimAt.mono {s s' : PS} {r r' : PR α} (h : SimAt s s' P r r') (k : ∀ x x' d,P x x' d → P' x x' d) : SimAt s s' P' r r' := by
 cases r <;> cases r' <;> first | exact h | (obtain ⟨h1,d,h2,h3⟩ := h; exact ⟨h1,d,h2,k _ _ d h3⟩)
theorem Sim.mono {m m' : PM α} (h : Sim n P m m') (k : ∀ x x' d,P x x' d → P' x x' d) : Sim n P' m m' := fun s s' h1 h2 => (h s s' h1 h2).mono k
theorem Sim.monoB {m m' : PM α} (h : Sim n P m m') (k : ∀ x x' d,d ≤ n → P x x' d → P' x x' d) : Sim n P' m m' := fun s s' h1 h2 => by
 have h3 := h s s' h1 h2
 cases hm : m s <;> cases hm' : m' s' <;> rw [hm,hm'] at h3 <;> first | exact h3 | (obtain ⟨g1,d,g2,g3⟩ := h3; exact ⟨g1,d,g2,k _ _ d (by omega) g3⟩)
theorem Sim.less {m m' : PM α} {n' : Nat} (h : Sim n P m m') (hn : n' ≤ n) : Sim n' P m m' := fun s s' h1 h2 => h s s' h1 (Nat.le_trans h2 hn)
theorem SimAt.then {s s' : PS} {m m' : PM α} {f f' : α → PM β} (hn : s.ts.length ≤ n) (h : SimAt s s' P (m s) (m' s')) (k : ∀ x x' d,P x x' d → d ≤ n → Sim (n - d) (fun y y' d' => Q y y' (d + d')) (f x) (f' x')) : SimAt s s' Q ((m.then f) s) ((m'.then f') s') := by
 unfold PM.then
 cases hm : m s with
 | out =>
   cases hm' : m' s' with
   | out => trivial
   | bad a e => rw [hm,hm'] at h; exact h.elim
   | ok x S => rw [hm,hm'] at h; exact h.elim
 | bad a e =>
   cases hm' : m' s' with
   | out => rw [hm,hm'] at h; exact h.elim
   | bad a e => rw [hm,hm'] at h; exact h
   | ok x S => rw [hm,hm'] at h; exact h.elim
 | ok x S =>
   cases hm' : m' s' with
   | out => rw [hm,hm'] at h; exact h.elim
   | bad a e => rw [hm,hm'] at h; exact h.elim
   | ok x' S' =>
     rw [hm,hm'] at h
     obtain ⟨h1,d,h2,h3⟩ := h
     have h4 := k x x' d h3 (by omega) S S' h1 (by omega)
     show SimAt s s' Q (f x S) (f' x' S')
     cases hf : f x S <;> cases hf' : f' x' S' <;> rw [hf,hf'] at h4 <;> first | exact h4 | (obtain ⟨h5,d2,h6,h7⟩ := h4; exact ⟨h5,d + d2,by omega,h7⟩)
theorem Sim.then {m m' : PM α} {f f' : α → PM β} (h : Sim n P m m') (k : ∀ x x' d,P x x' d → d ≤ n → Sim (n - d) (fun y y' d' => Q y y' (d + d')) (f x) (f' x')) : Sim n Q (m.then f) (m'.then f') :=
 fun s s' h1 h2 => SimAt.then h2 (h s s' h1 h2) k
theorem Sim.ret {x x' : α} (h : P x x' 0) : Sim n P (PM.ret x) (PM.ret x') := fun s s' h1 h2 => ⟨h1,0,rfl,h⟩
theorem sim_bad {a a' e : Int} : Sim n P (fun _ => .bad a e) (fun _ => .bad a' e) := fun s s' h1 h2 => rfl
theorem sim_refuse : Sim n P (refuseM : PM α) (refuseM : PM α) := fun s s' h1 h2 => rfl
theorem sim_ite {c c' : Prop} [Decidable c] [Decidable c'] (hc : c ↔ c') {m1 m2 m1' m2' : PM α} (h1 : c → Sim n P m1 m1') (h2 : ¬ c → Sim n P m2 m2') : Sim n P (if c then m1 else m2) (if c' then m1' else m2') := by
 by_cases h : c
 · rw [if_pos h,if_pos (hc.1 h)]; exact h1 h
 · rw [if_neg h,if_neg (fun q => h (hc.2 q))]; exact h2 h
theorem simAt_ite {c c' : Prop} [Decidable c] [Decidable c'] (hc : c ↔ c') {s s' : PS} {r1 r2 r1' r2' : PR α} (h1 : c → SimAt s s' P r1 r1') (h2 : ¬ c → SimAt s s' P r2 r2') : SimAt s s' P (if c then r1 else r2) (if c' then r1' else r2') := by
 by_cases h : c
 · rw [if_pos h,if_pos (hc.1 h)]; exact h1 h
 · rw [if_neg h,if_neg (fun q => h (hc.2 q))]; exact h2 h
end
theorem sim_bar {n : Nat} (e : Int) : Sim n (fun _ _ d => d = 0) (barM e) (barM e) := fun s s' h1 h2 => by
 unfold barM
 refine ⟨?_,0, ?_,rfl⟩
 · rw [← h1.bar]
   split
   · exact ⟨h1.len,h1.tk,h1.wi,rfl⟩
   · exact h1
 · split <;> rfl
theorem SimS.enter {s s' : PS} (h : SimS s s') : SimS { s with wi := wrap64 (s.wi + 1),bar := if 32 < wrap64 (s.wi + 1) ∧ s.bar = 0 then 171 else s.bar } { s' with wi := wrap64 (s'.wi + 1),bar := if 32 < wrap64 (s'.wi + 1) ∧ s'.bar = 0 then 171 else s'.bar } :=
 ⟨h.len,h.tk,by show wrap64 (s.wi + 1) = wrap64 (s'.wi + 1); rw [h.wi],by show (if 32 < wrap64 (s.wi + 1) ∧ s.bar = 0 then 171 else s.bar) = (if 32 < wrap64 (s'.wi + 1) ∧ s'.bar = 0 then 171 else s'.bar); rw [h.wi,h.bar]⟩
theorem sim_enter {n : Nat} : Sim n (fun _ _ d => d = 0) enterM enterM := fun s s' h1 h2 => ⟨h1.enter,0,rfl,rfl⟩
theorem sim_leave {n : Nat} : Sim n (fun _ _ d => d = 0) leaveM leaveM := fun s s' h1 h2 => ⟨⟨h1.len,h1.tk,by show wrap64 (s.wi - 1) = wrap64 (s'.wi - 1); rw [h1.wi],h1.bar⟩,0,rfl,rfl⟩
theorem hd_ne {s : PS} (hk : s.hd.k ≠ 0) : s.ts.tail.length + 1 = s.ts.length := by
 cases hs : s.ts with
 | nil => exact absurd (by unfold PS.hd; rw [hs]; rfl) hk
 | cons t l => simp
theorem simtake_at {s s' : PS} (h1 : SimS s s') (hk : s.hd.k ≠ 0) : SimAt s s' (fun t t' d => d = 1 ∧ TkE t t') (takeM s) (takeM s') := by
 unfold takeM
 refine simAt_ite (by rw [h1.bar]) (fun _ => h1.bar) (fun _ => ?_)
 exact ⟨h1.tail,1,hd_ne hk,rfl,h1.hd⟩
theorem sim_skip {n : Nat} (x : List UInt8) : Sim n (fun b b' d => b = b' ∧ d = if b = true then 1 else 0) (skipM x) (skipM x) := fun s s' h1 h2 => by
 unfold skipM
 refine simAt_ite (by rw [h1.sees]) (fun h => ?_) (fun h => ⟨h1,0,rfl,rfl,by simp⟩)
 exact SimAt.then h2 (simtake_at h1 (sees_kind h)) (fun t t' d hd _ => Sim.ret (by simp [hd.1]))
theorem sim_need {n : Nat} (x : List UInt8) : Sim n (fun _ _ d => d = 1) (needM x) (needM x) := by
 refine (sim_skip x).then fun b b' d hd _ => ?_
 obtain ⟨rfl,hd⟩ := hd
 cases b with
 | true => exact Sim.ret (by simpa using hd)
 | false => exact sim_refuse
theorem sim_kind {n : Nat} {k : Int} (hk : k ≠ 0) : Sim n (fun t t' d => d = 1 ∧ TkE t t') (kindM k) (kindM k) := fun s s' h1 h2 => by
 unfold kindM
 refine simAt_ite (by rw [h1.hd.k]) (fun _ => rfl) (fun h => ?_)
 exact simtake_at h1 (by intro e; rw [e] at h; exact h (fun q => hk q.symm))
theorem sim_op {n : Nat} (lv : Int) : Sim n (fun op op' d => op = op' ∧ ((d = 0 ∧ op = 0) ∨ d = 1)) (operationM lv) (operationM lv) := fun s s' h1 h2 => by
 unfold operationM
 have he : keysign s.hd = keysign s'.hd := by unfold keysign; rw [h1.hd.k]
 refine simAt_ite (by rw [h1.hd.tt,he]) (fun h => ?_) (fun h => ⟨h1,0,rfl,rfl,.inl ⟨rfl,rfl⟩⟩)
 rw [← h1.hd.tt]
 refine SimAt.then h2 (simtake_at h1 ?_) (fun t t' d hd _ => Sim.ret (by simp [hd.1]))
 intro e
 have := h.2
 unfold keysign at this
 rw [e] at this
 simp at this
abbrev QX (x x' : X) (d : Nat) : Prop := RX x x' ∧ 1 ≤ d
theorem RX.deep {x x' : X} (h : RX x x') : x.ar.dt.okE = true ∧ x'.ar.dt.okE = true ∧ x.deep = x'.deep := by
 obtain ⟨h1,h2,h3⟩ := h.ar.same rfl
 refine ⟨h1,h2, ?_⟩
 unfold X.deep
 unfold Sl.dt at h3
 simp only [DT.dep] at h3
 rw [h3]
theorem sim_made {n : Nat} {x x' : X} (h : RX x x') : Sim n (fun y y' d => d = 0 ∧ RX y y') (madeM x) (madeM x') := fun s s' h1 h2 => by
 obtain ⟨g1,g2,g3⟩ := h.deep
 unfold madeM
 rw [if_pos g1,if_pos g2]
 exact simAt_ite (by rw [g3]) (fun _ => rfl) (fun _ => ⟨h1,0,rfl,rfl,h⟩)
theorem RX.opx {k o a a' : Int} {dn : Bool} {m : Nat} {l l' : List DT} {sb sb' : Sl} (h : RowE .X m l l') (hm : m ≤ 9223372036854775807) (hs : RS .Q sb sb') : RX (opX k o dn a m l sb) (opX k o dn a' m l' sb') :=
 ⟨rfl,rfl,rfl,rfl,rfl,rfl,rfl,rfl,rfl,h.eqD hm,hs⟩
theorem RX.lit {vk vn a a' : Int} {vs : List UInt8} : RX (litX a vk vn vs) (litX a' vk vn vs) := ⟨rfl,rfl,rfl,rfl,rfl,rfl,rfl,rfl,rfl,RS.none .X,RS.none .Q⟩
theorem sim_mk {n : Nat} {k o a a' : Int} {dn : Bool} {m : Nat} {l l' : List DT} (h : RowE .X m l l') (hm : m ≤ 9223372036854775807) : Sim n (fun y y' d => d = 0 ∧ RX y y') (madeM (opX k o dn a m l .none)) (madeM (opX k o dn a' m l' .none)) := sim_made (RX.opx h hm (RS.none .Q))
theorem sim_chainG {one one' : PM X} {lv : Int} : ∀ (f n : Nat) (e e' : X),Sim n QX one one' → RX e e' → Sim n (fun x x' d => RX x x') (chainG one lv f e) (chainG one' lv f e')
 | 0,n,e,e',_,_ => fun s s' h1 h2 => trivial
 | f + 1,n,e,e',h1,he => by
   unfold chainG
   refine (sim_op lv).then fun op op' d hd hdn => ?_
   obtain ⟨rfl,hd⟩ := hd
   refine sim_ite Iff.rfl (fun _ => Sim.ret he) (fun hop => ?_)
   refine (h1.less (Nat.sub_le _ _)).then fun b b' d2 hb _ => ?_
   refine (sim_mk (he.row.app hb.1.row) (by omega)).then fun y y' d3 hy _ => ?_
   exact (sim_chainG f _ y y' (h1.less (by omega)) hy.2).mono (fun x x' d q => q)
theorem sim_chain {one one' : PM X} {lv : Int} {f n : Nat} (h : Sim n QX one one') : Sim n QX (chainM one lv f) (chainM one' lv f) := by
 unfold chainM
 refine h.then fun e e' d he _ => ?_
 exact (sim_chainG f (n - d) e e' (h.less (by omega)) he.1).mono (fun x x' d' q => ⟨q,by have := he.2; omega⟩)
theorem sim_ahead {op : Int} {one one' : PM X} {n : Nat} (s s' : PS) (h1 : SimS s s') (h2 : s.ts.length ≤ n) (hk : s.hd.k ≠ 0) (h : Sim (n - 1) QX one one') : SimAt s s' QX (aheadM op one s) (aheadM op one' s') := by
 have h3 : SimAt ({ s with wi := wrap64 (s.wi + 1),bar := if 32 < wrap64 (s.wi + 1) ∧ s.bar = 0 then 171 else s.bar } : PS) ({ s' with wi := wrap64 (s'.wi + 1),bar := if 32 < wrap64 (s'.wi + 1) ∧ s'.bar = 0 then 171 else s'.bar } : PS) QX
  ((takeM.then fun t => one.then fun x => (madeM (opX 3 op false t.a 1 x.flat .none)).then fun e => leaveM.then fun _ => PM.ret e) { s with wi := wrap64 (s.wi + 1),bar := if 32 < wrap64 (s.wi + 1) ∧ s.bar = 0 then 171 else s.bar })
  ((takeM.then fun t => one'.then fun x => (madeM (opX 3 op false t.a 1 x.flat .none)).then fun e => leaveM.then fun _ => PM.ret e) { s' with wi := wrap64 (s'.wi + 1),bar := if 32 < wrap64 (s'.wi + 1) ∧ s'.bar = 0 then 171 else s'.bar }) := by
  refine SimAt.then h2 (simtake_at h1.enter hk) fun t t' d hd _ => ?_
  obtain ⟨rfl,_⟩ := hd
  refine h.then fun x x' d2 hx _ => ?_
  refine (sim_mk hx.1.row (by omega)).then fun e e' d3 he _ => ?_
  refine sim_leave.then fun _ _ d4 hd4 _ => ?_
  exact Sim.ret ⟨he.2,by omega⟩
 exact h3
theorem sim_listG {α : Type} {fl : α → List DT} {most : Nat} {one one' : PM α} {more more' : PM Bool} {k : Kd} {w : Nat} {R : α → α → Prop} (hfl : ∀ x x',R x x' → RowE k w (fl x) (fl x')) : ∀ (f n : Nat) (l l' : Sl),Sim n (fun x x' d => R x x' ∧ 1 ≤ d) one one' → Sim n (fun b b' _ => b = b') more more' →
 RowE k (w * l.n) l.l l'.l → l.n = l'.n → Sim n (fun r r' d => RowE k (w * r.n) r.l r'.l ∧ r.n = r'.n ∧ r.n ≤ l.n + d) (listG fl most one more f l) (listG fl most one' more' f l')
 | 0,n,l,l',_,_,_,_ => fun s s' h1 h2 => trivial
 | f + 1,n,l,l',h1,hm,hl,hn => by
   unfold listG
   refine hm.then fun b b' d hb hdn => ?_
   subst hb
   cases b with
   | false => exact Sim.ret ⟨hl,hn,by omega⟩
   | true =>
     simp only [if_true]
     have hbar : Sim (n - d) (fun _ _ d => d = 0) (if l.n = most then barM 2 else PM.ret ()) (if l'.n = most then barM 2 else PM.ret ()) := sim_ite (by rw [hn]) (fun _ => sim_bar 2) (fun _ => Sim.ret rfl)
     refine hbar.then fun _ _ d2 hd2 _ => ?_
     subst hd2
     refine (h1.less (by omega)).then fun x x' d3 hx _ => ?_
     have hrow := hl.app (hfl x x' hx.1)
     rw [← Nat.mul_succ] at hrow
     refine (sim_listG hfl f (n - d - 0 - d3) ⟨l.n + 1,l.l ++ fl x⟩ ⟨l'.n + 1,l'.l ++ fl x'⟩ (h1.less (by omega)) (hm.less (by omega)) hrow (by show l.n + 1 = l'.n + 1; rw [hn])).mono (fun r r' d' q => ⟨q.1,q.2.1, ?_⟩)
     have q2 := q.2.2
     have := hx.2
     simp only at q2
     omega
theorem sim_list {α : Type} {fl : α → List DT} {most : Nat} {one one' : PM α} {more more' : PM Bool} {k : Kd} {w f n : Nat} {R : α → α → Prop} (hfl : ∀ x x',R x x' → RowE k w (fl x) (fl x')) (h1 : Sim n (fun x x' d => R x x' ∧ 1 ≤ d) one one') (hm : Sim n (fun b b' _ => b = b') more more') :
 Sim n (fun r r' d => RowE k (w * r.n) r.l r'.l ∧ r.n = r'.n ∧ r.n ≤ d ∧ 1 ≤ d) (listM fl most one more f) (listM fl most one' more' f) := by
 unfold listM
 refine h1.then fun x x' d hx _ => ?_
 have hrow := hfl x x' hx.1
 rw [← Nat.mul_one w] at hrow
 refine (sim_listG hfl f (n - d) ⟨1,fl x⟩ ⟨1,fl x'⟩ (h1.less (by omega)) (hm.less (by omega)) hrow rfl).mono (fun r r' d' q => ⟨q.1,q.2.1, ?_, ?_⟩)
 · have q2 := q.2.2
   have := hx.2
   simp only at q2
   omega
 · have := hx.2; omega
theorem sim_listT {α σ : Type} {fl : α → List DT} {most : Nat} {one one' : σ → PM α} {more more' : PM (Option σ)} {k : Kd} {R : α → α → Prop} (hfl : ∀ x x',R x x' → RowE k 1 (fl x) (fl x')) : ∀ (f n : Nat) (l l' : Sl),(∀ x,Sim n (fun x x' d => R x x' ∧ 1 ≤ d) (one x) (one' x)) → Sim n (fun o o' _ => o = o') more more' →
 RowE k l.n l.l l'.l → l.n = l'.n → Sim n (fun r r' d => RowE k r.n r.l r'.l ∧ r.n = r'.n ∧ r.n ≤ l.n + d) (listT fl most one more f l) (listT fl most one' more' f l')
 | 0,n,l,l',_,_,_,_ => fun s s' h1 h2 => trivial
 | f + 1,n,l,l',h1,hm,hl,hn => by
   unfold listT
   refine hm.then fun o o' d ho hdn => ?_
   subst ho
   cases o with
   | none => exact Sim.ret ⟨hl,hn,by omega⟩
   | some x =>
     have hbar : Sim (n - d) (fun _ _ d => d = 0) (if l.n = most then barM 2 else PM.ret ()) (if l'.n = most then barM 2 else PM.ret ()) := sim_ite (by rw [hn]) (fun _ => sim_bar 2) (fun _ => Sim.ret rfl)
     refine hbar.then fun _ _ d2 hd2 _ => ?_
     subst hd2
     refine ((h1 x).less (by omega)).then fun y y' d3 hx _ => ?_
     have hrow := hl.app (hfl y y' hx.1)
     refine (sim_listT hfl f (n - d - 0 - d3) ⟨l.n + 1,l.l ++ fl y⟩ ⟨l'.n + 1,l'.l ++ fl y'⟩ (fun x => (h1 x).less (by omega)) (hm.less (by omega)) hrow (by show l.n + 1 = l'.n + 1; rw [hn])).mono (fun r r' d' q => ⟨q.1,q.2.1, ?_⟩)
     have q2 := q.2.2
     have := hx.2
     simp only at q2
     omega
theorem RS.of {k : Kd} {r r' : Sl} (h : RowE k r.n r.l r'.l) (hn : r.n = r'.n) (hb : r.n ≤ 9223372036854775807) : RS k r r' := by
 have := h.eqD hb
 unfold RS Sl.dt
 rw [← hn]
 exact this
section
variable {E E' : PM X} {Q Q' : PM Qy} {f n : Nat}
abbrev HE (n : Nat) (E E' : PM X) : Prop := Sim n QX E E'
abbrev HQ (n : Nat) (Q Q' : PM Qy) : Prop := Sim n (fun q q' d => RQ q q' ∧ 1 ≤ d) Q Q'
theorem sim_comma : Sim n (fun b b' _ => b = b') commaM commaM := (sim_skip [44]).mono (fun b b' d h => h.1)
theorem sim_seesM (x : List UInt8) : Sim n (fun b b' _ => b = b') (fun s => .ok (seesB x s) s) (fun s => .ok (seesB x s) s) := fun s s' h1 h2 => ⟨h1,0,rfl,h1.sees x⟩
theorem sim_exprs (hE : HE n E E') : Sim n (fun l l' d => (RowE .X l.n l.l l'.l ∧ l.n = l'.n ∧ l.n ≤ d) ∧ 1 ≤ d) (exprsM E f) (exprsM E' f) :=
 (sim_list (k := .X) (w := 1) (R := RX) (fun x x' h => h.row) hE sim_comma).mono (fun l l' d q => by rw [Nat.one_mul] at q; exact ⟨⟨q.1,q.2.1,q.2.2.1⟩,q.2.2.2⟩)
theorem RX.sub {k a a' : Int} {dn : Bool} {q q' : Qy} (h : RQ q q') : RX ⟨k,0,0,0, [], [], [],0,dn,a,.none,⟨1,q.flat⟩⟩ ⟨k,0,0,0, [], [], [],0,dn,a',.none,⟨1,q'.flat⟩⟩ :=
 ⟨rfl,rfl,rfl,rfl,rfl,rfl,rfl,rfl,rfl,RS.none .X,h.row.eqD (by omega)⟩
theorem sim_exists (a a' : Int) (hQ : HQ n Q Q') : Sim n QX (existsM Q a) (existsM Q' a') := by
 unfold existsM
 refine (sim_need _).then fun _ _ d hd _ => ?_
 refine (hQ.less (by omega)).then fun q q' d2 hq _ => ?_
 refine (sim_need _).then fun _ _ d3 hd3 _ => ?_
 exact Sim.ret ⟨RX.sub hq.1,by omega⟩
theorem sim_when (hE : HE n E E') : Sim n (fun (x x' : Wh) d => RWh x x' ∧ 1 ≤ d) (whenM E) (whenM E') := by
 unfold whenM
 refine (sim_need _).then fun _ _ d hd _ => ?_
 refine (hE.less (by omega)).then fun c c' d2 hc _ => ?_
 refine (sim_need _).then fun _ _ d3 hd3 _ => ?_
 refine (hE.less (by omega)).then fun v v' d4 hv _ => ?_
 exact Sim.ret ⟨⟨hc.1,hv.1⟩,by omega⟩
theorem sim_choice (a a' : Int) (hn : n ≤ 100000) (hE : HE n E E') : Sim n QX (choiceM E f a) (choiceM E' f a') := by
 unfold choiceM
 refine (sim_list (k := .X) (w := 2) (R := RWh) (fun x x' h => h.row) (sim_when hE) (sim_seesM _)).then fun l l' d hl hdn => ?_
 refine (sim_skip _).then fun b b' d2 hb _ => ?_
 obtain ⟨rfl,hb⟩ := hb
 have hlast : Sim (n - d - d2) (fun x x' _ => RX x x') (if b then E else PM.ret (litX 0 0 0 [])) (if b then E' else PM.ret (litX 0 0 0 [])) :=
  sim_ite Iff.rfl (fun _ => (hE.less (by omega)).mono (fun x x' d q => q.1)) (fun _ => Sim.ret RX.lit)
 refine hlast.then fun last last' d3 h3 _ => ?_
 refine (sim_need _).then fun _ _ d4 h4 _ => ?_
 rw [← hl.2.1]
 exact (sim_mk (hl.1.app h3.row) (by have := hl.2.2.1; omega)).mono (fun x x' d5 q => ⟨q.2,by have := hl.2.2.2; omega⟩)
theorem sim_nested (hE : HE n E E') (hQ : HQ n Q Q') : Sim n QX (nestedM E Q) (nestedM E' Q') := by
 unfold nestedM
 refine (sim_need _).then fun _ _ d hd hdn => ?_
 have hin : Sim (n - d) QX (nestedIn E Q) (nestedIn E' Q') := fun s s' h1 h2 => by
  unfold nestedIn
  refine simAt_ite (by rw [h1.sees]) (fun _ => ?_) (fun _ => hE s s' h1 (by omega))
  exact SimAt.then (n := n - d) h2 (hQ s s' h1 (by omega)) (fun q q' d hd _ => Sim.ret ⟨RX.sub hd.1,by omega⟩)
 refine hin.then fun x x' d2 hx _ => ?_
 refine (sim_need _).then fun _ _ d3 hd3 _ => ?_
 exact Sim.ret ⟨hx.1,by omega⟩
theorem sim_keyAtom (hn : n ≤ 100000) (hE : HE n E E') (hQ : HQ n Q Q') : Sim n QX (keyAtomM E Q f) (keyAtomM E' Q' f) := fun s s' h1 h2 => by
 refine Sim.then (n := n) (sim_skip _) (fun b b' d hb hdn => ?_) s s' h1 h2
 obtain ⟨rfl,hb⟩ := hb
 refine sim_ite Iff.rfl (fun h => Sim.ret ⟨RX.lit,by rw [if_pos h] at hb; omega⟩) (fun _ => ?_)
 refine (sim_skip _).then fun b b' d2 hb _ => ?_
 obtain ⟨rfl,hb⟩ := hb
 refine sim_ite Iff.rfl (fun h => Sim.ret ⟨RX.lit,by rw [if_pos h] at hb; omega⟩) (fun _ => ?_)
 refine (sim_skip _).then fun b b' d3 hb _ => ?_
 obtain ⟨rfl,hb⟩ := hb
 refine sim_ite Iff.rfl (fun h => Sim.ret ⟨RX.lit,by rw [if_pos h] at hb; omega⟩) (fun _ => ?_)
 refine (sim_skip _).then fun b b' d4 hb _ => ?_
 obtain ⟨rfl,hb⟩ := hb
 refine sim_ite Iff.rfl (fun h => ((sim_choice s.hd.a s'.hd.a hn hE).less (by omega)).mono (fun x x' d q => ⟨q.1,by omega⟩)) (fun _ => ?_)
 refine (sim_skip _).then fun b b' d5 hb _ => ?_
 obtain ⟨rfl,hb⟩ := hb
 exact sim_ite Iff.rfl (fun h => ((sim_exists s.hd.a s'.hd.a hQ).less (by omega)).mono (fun x x' d q => ⟨q.1,by omega⟩)) (fun _ => sim_refuse)
theorem sim_args (all : Bool) (hE : HE n E E') : Sim n (fun l l' d => RowE .X l.n l.l l'.l ∧ l.n = l'.n ∧ l.n ≤ d) (argsM E f all) (argsM E' f all) := fun s s' h1 h2 => by
 unfold argsM
 refine simAt_ite (by rw [h1.sees]) (fun _ => (sim_exprs hE s s' h1 h2).mono (fun l l' d q => q.1)) (fun _ => ⟨h1,0,rfl,RowE.nil .X,rfl,Nat.le_refl _⟩)
theorem sim_call (hn : n ≤ 100000) (hE : HE n E E') (s s' : PS) (h1 : SimS s s') (h2 : s.ts.length ≤ n) (hk : s.hd.k ≠ 0) : SimAt s s' QX (callM E f s) (callM E' f s') := by
 have ht := h1.hd.tt
 unfold callM
 rw [← ht]
 refine simAt_ite Iff.rfl (fun _ => rfl) (fun _ => ?_)
 refine SimAt.then h2 (simtake_at h1 hk) fun t t' d hd _ => ?_
 obtain ⟨rfl,_⟩ := hd
 refine (sim_need _).then fun _ _ d2 hd2 _ => ?_
 refine (sim_skip _).then fun all all' d3 hd3 _ => ?_
 obtain ⟨rfl,hd3⟩ := hd3
 refine ((sim_args all hE).less (by omega)).then fun l l' d4 hl hdn => ?_
 refine (sim_need _).then fun _ _ d5 hd5 _ => ?_
 obtain ⟨hl1,hl2,hl3⟩ := hl
 rw [← hl2]
 refine sim_ite Iff.rfl (fun hc => Sim.ret ⟨RX.opx hl1 (by omega) (RS.none .Q),by omega⟩) (fun hc => sim_ite Iff.rfl (fun hq => sim_bad) (fun hq => ?_))
 exact (sim_mk hl1 (by omega)).mono (fun x x' d q => ⟨q.2,by omega⟩)
theorem RX.col_ {a a' : Int} {tb nm : List UInt8} : RX (colX a tb nm) (colX a' tb nm) := ⟨rfl,rfl,rfl,rfl,rfl,rfl,rfl,rfl,rfl,RS.none .X,RS.none .Q⟩
theorem sim_named (hn : n ≤ 100000) (hE : HE n E E') (s s' : PS) (h1 : SimS s s') (h2 : s.ts.length ≤ n) (hk : s.hd.k ≠ 0) : SimAt s s' QX (namedM E f s) (namedM E' f s') := by
 unfold namedM
 refine simAt_ite (by rw [h1.tail1.isT]) (fun _ => sim_call hn hE s s' h1 h2 hk) (fun _ => ?_)
 refine SimAt.then h2 (simtake_at h1 hk) fun t t' d hd _ => ?_
 obtain ⟨rfl,ht⟩ := hd
 refine (sim_skip _).then fun b b' d2 hb _ => ?_
 obtain ⟨rfl,hb⟩ := hb
 rw [← ht.tt]
 refine sim_ite Iff.rfl (fun _ => ?_) (fun _ => Sim.ret ⟨RX.col_,by omega⟩)
 refine (sim_kind (by decide)).then fun u u' d3 hd3 _ => ?_
 rw [← hd3.2.tt]
 exact Sim.ret ⟨RX.col_,by omega⟩
theorem sim_atom (hn : n ≤ 100000) (hE : HE n E E') (hQ : HQ n Q Q') : Sim n QX (atomM E Q f) (atomM E' Q' f) := fun s s' h1 h2 => by
 have hh := h1.hd
 unfold atomM
 rw [← hh.k, ← hh.n, ← hh.tt]
 refine simAt_ite Iff.rfl (fun h => SimAt.then h2 (simtake_at h1 (by omega)) fun t t' d hd _ => Sim.ret ⟨RX.lit,by omega⟩) (fun _ => ?_)
 refine simAt_ite Iff.rfl (fun h => SimAt.then h2 (simtake_at h1 (by omega)) fun t t' d hd _ => Sim.ret ⟨RX.lit,by omega⟩) (fun _ => ?_)
 refine simAt_ite Iff.rfl (fun h => sim_named hn hE s s' h1 h2 (by omega)) (fun _ => ?_)
 exact simAt_ite Iff.rfl (fun h => sim_nested hE hQ s s' h1 h2) (fun _ => sim_keyAtom hn hE hQ s s' h1 h2)
theorem simtake_two {s s' : PS} (h1 : SimS s s') (hk : s.hd.k ≠ 0) (hk2 : (tail1 s).k ≠ 0) {f f' : Tk → Tk → X} (hf : ∀ t t' u u',TkE t t' → TkE u u' → RX (f t u) (f' t' u')) : SimAt s s' QX ((takeM.then fun t => takeM.then fun u => PM.ret (f t u)) s) ((takeM.then fun t => takeM.then fun u => PM.ret (f' t u)) s') := by
 by_cases hb : s.bar = 0
 · have hb' : s'.bar = 0 := h1.bar ▸ hb
   have ht := hd_ne hk
   have e1 : takeM s = .ok s.hd { s with ts := s.ts.tail } := if_neg (fun q => q hb)
   have e2 : takeM { s with ts := s.ts.tail } = .ok (tail1 s) { s with ts := s.ts.tail.tail } := if_neg (fun q => q hb)
   have e1' : takeM s' = .ok s'.hd { s' with ts := s'.ts.tail } := if_neg (fun q => q hb')
   have e2' : takeM { s' with ts := s'.ts.tail } = .ok (tail1 s') { s' with ts := s'.ts.tail.tail } := if_neg (fun q => q hb')
   have ht2 := hd_ne (s := { s with ts := s.ts.tail }) hk2
   rw [then_ok e1,then_ok e2,then_ok e1',then_ok e2']
   refine ⟨h1.tail.tail,2, ?_,hf _ _ _ _ h1.hd h1.tail1,by omega⟩
   have h3 : s.ts.tail.tail.length + 1 = s.ts.tail.length := ht2
   show s.ts.tail.tail.length + 2 = s.ts.length
   omega
 · have e1 : takeM s = .bad s.hd.a s.bar := if_pos hb
   have e1' : takeM s' = .bad s'.hd.a s'.bar := if_pos (h1.bar ▸ hb)
   rw [then_bad e1,then_bad e1']
   exact h1.bar
theorem sim_minus (hn : n ≤ 100000) (hE : HE n E E') (hQ : HQ n Q Q') : ∀ (g m : Nat),m ≤ n → Sim m QX (minusM E Q f g) (minusM E' Q' f g)
 | 0,m,_ => fun s s' h1 h2 => trivial
 | g + 1,m,hm => fun s s' h1 h2 => by
   unfold minusM
   refine simAt_ite (by rw [h1.sees]) (fun hs => ?_) (fun _ => sim_atom hn hE hQ s s' h1 (by omega))
   refine simAt_ite (by rw [h1.tail1.k]) (fun h3 => ?_) (fun _ => ?_)
   · exact simtake_two h1 (sees_kind hs) (by omega) (fun t t' u u' ht hu => by rw [hu.n]; exact RX.lit)
   · exact sim_ahead s s' h1 h2 (sees_kind hs) (sim_minus hn hE hQ g (m - 1) (by omega))
theorem sim_product (hn : n ≤ 100000) (hE : HE n E E') (hQ : HQ n Q Q') : Sim n QX (productM E Q f) (productM E' Q' f) := sim_chain (sim_minus hn hE hQ f n (Nat.le_refl _))
theorem sim_sum (hn : n ≤ 100000) (hE : HE n E E') (hQ : HQ n Q Q') : Sim n QX (sumM E Q f) (sumM E' Q' f) := sim_chain (sim_product hn hE hQ)
theorem sim_isNull {m : Nat} {e e' : X} (he : RX e e') : Sim m (fun x x' _ => RX x x') (isNullM e) (isNullM e') := by
 unfold isNullM
 refine (sim_skip _).then fun b b' d hd _ => ?_
 obtain ⟨rfl,_⟩ := hd
 refine (sim_need _).then fun _ _ d2 hd2 _ => ?_
 exact (sim_mk he.row (by omega)).mono (fun x x' d q => q.2)
theorem sim_in {e e' : X} (d : Bool) (hn : n ≤ 100000) (hE : HE n E E') (hQ : HQ n Q Q') (he : RX e e') : Sim n (fun x x' _ => RX x x') (inM E Q f e d) (inM E' Q' f e' d) := by
 unfold inM
 refine (sim_need _).then fun _ _ d2 hd2 hdn => ?_
 have hin : Sim (n - d2) (fun (x x' : X) _ => RX x x') (inIn E Q f e d) (inIn E' Q' f e' d) := fun s s' h1 h2 => by
  unfold inIn
  refine simAt_ite (by rw [h1.sees]) (fun _ => ?_) (fun _ => ?_)
  · exact SimAt.then (n := n - d2) h2 (hQ s s' h1 (by omega)) (fun q q' d hd _ => Sim.ret (RX.opx (m := 1) he.row (by omega) (hd.1.row.eqD (by omega))))
  · refine SimAt.then (n := n - d2) h2 (sim_exprs hE s s' h1 (by omega)) (fun l l' d hl hd => ?_)
    rw [← hl.1.2.1]
    exact Sim.ret (RX.opx (he.row.app hl.1.1) (by have := hl.1.2.2; omega) (RS.none .Q))
 refine hin.then fun x x' d3 hx _ => ?_
 refine (sim_need _).then fun _ _ d4 hd4 _ => ?_
 exact (sim_made hx).mono (fun x x' d q => q.2)
theorem sim_oneOf {e e' : X} (d : Bool) (hn : n ≤ 100000) (hE : HE n E E') (hQ : HQ n Q Q') (he : RX e e') : Sim n (fun x x' _ => RX x x') (oneOfM E Q f e d) (oneOfM E' Q' f e' d) := by
 have hs := sim_sum (f := f) hn hE hQ
 unfold oneOfM
 refine (sim_skip _).then fun b b' d1 hb _ => ?_
 obtain ⟨rfl,_⟩ := hb
 refine sim_ite Iff.rfl (fun _ => (sim_in d hn hE hQ he).less (by omega)) (fun _ => ?_)
 refine (sim_skip _).then fun b b' d2 hb _ => ?_
 obtain ⟨rfl,_⟩ := hb
 refine sim_ite Iff.rfl (fun _ => ?_) (fun _ => ?_)
 · refine (hs.less (by omega)).then fun lo lo' d3 hlo _ => ?_
   refine (sim_need _).then fun _ _ d4 hd4 _ => ?_
   refine (hs.less (by omega)).then fun hi hi' d5 hhi _ => ?_
   exact (sim_mk ((he.row.app hlo.1.row).app hhi.1.row) (by omega)).mono (fun x x' d q => q.2)
 · refine (sim_skip _).then fun b b' d3 hb _ => ?_
   obtain ⟨rfl,_⟩ := hb
   refine sim_ite Iff.rfl (fun _ => ?_) (fun _ => sim_ite Iff.rfl (fun _ => sim_refuse) (fun _ => Sim.ret he))
   refine (hs.less (by omega)).then fun x x' d4 hx _ => ?_
   exact (sim_mk (he.row.app hx.1.row) (by omega)).mono (fun x x' d q => q.2)
theorem sim_test (hn : n ≤ 100000) (hE : HE n E E') (hQ : HQ n Q Q') : Sim n QX (testM E Q f) (testM E' Q' f) := by
 have hs := sim_sum (f := f) hn hE hQ
 unfold testM
 refine hs.then fun e e' d he _ => ?_
 refine (sim_op 3).then fun op op' d2 hd2 _ => ?_
 obtain ⟨rfl,hd2⟩ := hd2
 refine sim_ite Iff.rfl (fun _ => ?_) (fun _ => ?_)
 · refine (sim_skip _).then fun b b' d3 hb _ => ?_
   obtain ⟨rfl,_⟩ := hb
   refine sim_ite Iff.rfl (fun _ => (sim_isNull he.1).mono (fun x x' d q => ⟨q,by have := he.2; omega⟩)) (fun _ => ?_)
   refine (sim_skip _).then fun b b' d4 hb _ => ?_
   obtain ⟨rfl,_⟩ := hb
   exact ((sim_oneOf b hn hE hQ he.1).less (by omega)).mono (fun x x' d q => ⟨q,by have := he.2; omega⟩)
 · refine (hs.less (by omega)).then fun b b' d3 hb _ => ?_
   exact (sim_mk (he.1.row.app hb.1.row) (by omega)).mono (fun x x' d q => ⟨q.2,by have := he.2; omega⟩)
theorem sim_not (hn : n ≤ 100000) (hE : HE n E E') (hQ : HQ n Q Q') : ∀ (g m : Nat),m ≤ n → Sim m QX (notM E Q f g) (notM E' Q' f g)
 | 0,m,_ => fun s s' h1 h2 => trivial
 | g + 1,m,hm => fun s s' h1 h2 => by
   unfold notM
   refine simAt_ite (by rw [h1.sees]) (fun hs => ?_) (fun _ => sim_test hn hE hQ s s' h1 (by omega))
   exact sim_ahead s s' h1 h2 (sees_kind hs) (sim_not hn hE hQ g (m - 1) (by omega))
theorem sim_expr (hn : n ≤ 100000) (hE : HE n E E') (hQ : HQ n Q Q') : Sim n QX (exprM E Q f) (exprM E' Q' f) := by
 unfold exprM
 refine sim_enter.then fun _ _ d hd _ => ?_
 subst hd
 refine (sim_chain (sim_chain (sim_not hn hE hQ f n (Nat.le_refl _)))).then fun e e' d2 he _ => ?_
 refine sim_leave.then fun _ _ d3 hd3 _ => ?_
 exact Sim.ret ⟨he.1,by have := he.2; omega⟩
theorem sim_item (hE : HE n E E') : Sim n (fun (x x' : It) d => RIt x x' ∧ 1 ≤ d) (itemM E) (itemM E') := by
 unfold itemM
 refine (sim_skip _).then fun b b' d hb _ => ?_
 obtain ⟨rfl,hb⟩ := hb
 refine sim_ite Iff.rfl (fun h => Sim.ret ⟨⟨rfl,⟨rfl,rfl,rfl,rfl,rfl,rfl,rfl,rfl,rfl,RS.none .X,RS.none .Q⟩,rfl⟩,by rw [if_pos h] at hb; omega⟩) (fun _ => ?_)
 refine (hE.less (by omega)).then fun x x' d2 hx _ => ?_
 have := hx.2
 refine (sim_skip _).then fun b b' d3 hb3 _ => ?_
 obtain ⟨rfl,hb3⟩ := hb3
 refine sim_ite Iff.rfl (fun _ => ?_) (fun _ => Sim.ret ⟨⟨rfl,hx.1,rfl⟩,by omega⟩)
 refine (sim_kind (by decide)).then fun t t' d4 hd4 _ => ?_
 exact Sim.ret ⟨⟨rfl,hx.1,hd4.2.tt⟩,by omega⟩
theorem sim_condition (w : List UInt8) (hE : HE n E E') : Sim n (fun (x x' : Sl) _ => RS .X x x') (conditionM E w) (conditionM E' w) := by
 unfold conditionM
 refine (sim_skip _).then fun b b' d hb _ => ?_
 obtain ⟨rfl,hb⟩ := hb
 refine sim_ite Iff.rfl (fun _ => ?_) (fun _ => Sim.ret (RS.none .X))
 exact (hE.less (by omega)).then fun x x' d2 hx _ => Sim.ret (hx.1.row.eqD (by omega))
theorem sim_as (b : Bool) : Sim n (fun (x x' : List UInt8) _ => x = x') (asM b) (asM b) := fun s s' h1 h2 => by
 unfold asM
 refine simAt_ite (by rw [h1.hd.k]) (fun _ => ?_) (fun _ => ⟨h1,0,rfl,rfl⟩)
 exact Sim.then (n := n) (sim_kind (by decide)) (fun t t' d hd _ => Sim.ret hd.2.tt) s s' h1 h2
theorem sim_source (left joined : Bool) (hE : HE n E E') : Sim n (fun (x x' : So) d => RSo x x' ∧ 1 ≤ d) (sourceM E left joined) (sourceM E' left joined) := by
 unfold sourceM
 refine (sim_kind (by decide)).then fun t t' d hd _ => ?_
 refine (sim_skip _).then fun b b' d2 hb _ => ?_
 obtain ⟨rfl,hb⟩ := hb
 refine (sim_as b).then fun an an' d3 han _ => ?_
 subst han
 refine sim_ite Iff.rfl (fun _ => ?_) (fun _ => Sim.ret ⟨⟨hd.2.tt,rfl,rfl,RS.none .X⟩,by omega⟩)
 refine (sim_need _).then fun _ _ d4 hd4 _ => ?_
 refine (hE.less (by omega)).then fun x x' d5 hx _ => ?_
 exact Sim.ret ⟨⟨hd.2.tt,rfl,rfl,hx.1.row.eqD (by omega)⟩,by omega⟩
theorem sim_join : Sim n (fun (x x' : Bool × Bool) _ => x = x') joinM joinM := by
 unfold joinM
 refine (sim_skip _).then fun left left' d hb _ => ?_
 obtain ⟨rfl,hb⟩ := hb
 have h1 : Sim (n - d) (fun (b b' : Bool) _ => b = b') (if left then PM.ret true else skipM [73,78,78,69,82]) (if left then PM.ret true else skipM [73,78,78,69,82]) :=
  sim_ite Iff.rfl (fun _ => Sim.ret rfl) (fun _ => (sim_skip _).mono (fun b b' d h => h.1))
 refine h1.then fun b b' d2 hd2 _ => ?_
 subst hd2
 refine sim_ite Iff.rfl (fun _ => ?_) (fun _ => ?_)
 · exact (sim_need _).then fun _ _ d3 hd3 _ => Sim.ret rfl
 · refine (sim_skip _).then fun j j' d3 hd3 _ => ?_
   exact Sim.ret (by rw [hd3.1])
theorem sim_moreSrc : Sim n (fun (x x' : Option (Bool × Bool)) _ => x = x') moreSrc moreSrc := by
 unfold moreSrc
 refine sim_join.then fun lj lj' d hd _ => ?_
 subst hd
 refine sim_ite Iff.rfl (fun _ => Sim.ret rfl) (fun _ => ?_)
 exact sim_comma.then fun b b' d2 hd2 _ => Sim.ret (by rw [hd2])
theorem sim_sources (hn : n ≤ 100000) (hE : HE n E E') : Sim n (fun (x x' : Sl) _ => RS .So x x') (sourcesM E f) (sourcesM E' f) := by
 unfold sourcesM
 refine (sim_source false false hE).then fun x x' d hx _ => ?_
 exact (sim_listT (k := .So) (R := RSo) (fun x x' h => h.row) f (n - d) ⟨1,x.flat⟩ ⟨1,x'.flat⟩ (fun lj => (sim_source lj.1 lj.2 hE).less (by omega)) sim_moreSrc hx.1.row rfl).monoB (fun r r' d' hd q => RS.of q.1 q.2.1 (by have := q.2.2; simp only at this; have := hx.2; omega))
theorem sim_key : Sim n (fun (x x' : Ke) d => RKe x x' ∧ 1 ≤ d) keyM keyM := fun s s' h1 h2 => by
 have hh := h1.hd
 unfold keyM
 rw [← hh.k, ← hh.n, ← hh.tt]
 refine simAt_ite Iff.rfl (fun _ => rfl) (fun h => ?_)
 refine SimAt.then h2 (simtake_at h1 (by omega)) fun t t' d hd _ => ?_
 refine (sim_skip _).then fun b b' d2 hb _ => ?_
 obtain ⟨rfl,hb⟩ := hb
 have h3 : Sim (n - d - d2) (fun (b b' : Bool) _ => b = b') (if b then PM.ret true else (skipM [65,83,67]).then fun _ => PM.ret false) (if b then PM.ret true else (skipM [65,83,67]).then fun _ => PM.ret false) :=
  sim_ite Iff.rfl (fun _ => Sim.ret rfl) (fun _ => (sim_skip _).then fun _ _ _ _ _ => Sim.ret rfl)
 refine h3.then fun _ _ d3 hd3 _ => ?_
 exact Sim.ret ⟨⟨rfl,rfl,rfl⟩,by omega⟩
theorem sim_group (hn : n ≤ 100000) (hE : HE n E E') : Sim n (fun (x x' : Sl) _ => RS .X x x') (exprsM E f) (exprsM E' f) := fun s s' h1 h2 => by
 have h := sim_exprs (f := f) hE s s' h1 h2
 cases hm : exprsM E f s <;> cases hm' : exprsM E' f s' <;> rw [hm,hm'] at h <;> first | exact h | skip
 obtain ⟨g1,d,g2,g3⟩ := h
 exact ⟨g1,d,g2,RS.of g3.1.1 g3.1.2.1 (by have := g3.1.2.2; omega)⟩
theorem sim_items (hn : n ≤ 100000) (hE : HE n E E') : Sim n (fun (x x' : Sl) d => RS .It x x' ∧ 1 ≤ d) (listM It.flat 16 (itemM E) commaM f) (listM It.flat 16 (itemM E') commaM f) := fun s s' h1 h2 => by
 have h := sim_list (f := f) (most := 16) (k := .It) (w := 1) (R := RIt) (fun x x' h => h.row) (sim_item hE) sim_comma s s' h1 h2
 cases hm : listM It.flat 16 (itemM E) commaM f s <;> cases hm' : listM It.flat 16 (itemM E') commaM f s' <;> rw [hm,hm'] at h <;> first | exact h | skip
 obtain ⟨g1,d,g2,g3⟩ := h
 rw [Nat.one_mul] at g3
 exact ⟨g1,d,g2,RS.of g3.1 g3.2.1 (by have := g3.2.2.1; omega),g3.2.2.2⟩
theorem sim_keys (hn : n ≤ 100000) : Sim n (fun (x x' : Sl) _ => RS .Ke x x') (listM Ke.flat 16 keyM commaM f) (listM Ke.flat 16 keyM commaM f) := fun s s' h1 h2 => by
 have h := sim_list (f := f) (most := 16) (k := .Ke) (w := 1) (R := RKe) (fun x x' h => h.row) sim_key sim_comma s s' h1 h2
 cases hm : listM Ke.flat 16 keyM commaM f s <;> cases hm' : listM Ke.flat 16 keyM commaM f s' <;> rw [hm,hm'] at h <;> first | exact h | skip
 obtain ⟨g1,d,g2,g3⟩ := h
 rw [Nat.one_mul] at g3
 exact ⟨g1,d,g2,RS.of g3.1 g3.2.1 (by have := g3.2.2.1; omega)⟩
theorem sim_select (how : Int) (hn : n ≤ 100000) (hE : HE n E E') : Sim n (fun (x x' : Se) d => RSe x x' ∧ 1 ≤ d) (selectOneM E f how) (selectOneM E' f how) := by
 unfold selectOneM
 refine (sim_need _).then fun _ _ d hd _ => ?_
 refine (sim_skip _).then fun di di' d2 hb _ => ?_
 obtain ⟨rfl,_⟩ := hb
 refine (sim_items (n := n - d - d2) (by omega) (hE.less (by omega))).then fun it it' d3 hit _ => ?_
 refine (sim_skip _).then fun b b' d4 hb _ => ?_
 obtain ⟨rfl,_⟩ := hb
 have h1 : Sim (n - d - d2 - d3 - d4) (fun (x x' : Sl) _ => RS .So x x') (if b then sourcesM E f else PM.ret .none) (if b then sourcesM E' f else PM.ret .none) :=
  sim_ite Iff.rfl (fun _ => sim_sources (by omega) (hE.less (by omega))) (fun _ => Sim.ret (RS.none .So))
 refine h1.then fun fr fr' d5 hfr _ => ?_
 refine (sim_condition _ (hE.less (by omega))).then fun wh wh' d6 hwh _ => ?_
 refine (sim_skip _).then fun b b' d7 hb _ => ?_
 obtain ⟨rfl,_⟩ := hb
 have h2 : Sim (n - d - d2 - d3 - d4 - d5 - d6 - d7) (fun (x x' : Sl) _ => RS .X x x') (if b then (needM [66,89]).then fun _ => exprsM E f else PM.ret .none) (if b then (needM [66,89]).then fun _ => exprsM E' f else PM.ret .none) :=
  sim_ite Iff.rfl (fun _ => (sim_need _).then fun _ _ d8 hd8 _ => sim_group (by omega) (hE.less (by omega))) (fun _ => Sim.ret (RS.none .X))
 refine h2.then fun gr gr' d8 hgr _ => ?_
 refine (sim_condition _ (hE.less (by omega))).then fun hv hv' d9 hhv _ => ?_
 exact Sim.ret ⟨⟨rfl,rfl,hit.1,hfr,hwh,hgr,hhv⟩,by omega⟩
theorem sim_joining : Sim n (fun (x x' : Int) _ => x = x') joiningM joiningM := by
 unfold joiningM
 refine (sim_skip _).then fun b b' d hb _ => ?_
 obtain ⟨rfl,_⟩ := hb
 refine sim_ite Iff.rfl (fun _ => (sim_skip _).then fun b b' d hb _ => Sim.ret (by rw [hb.1])) (fun _ => ?_)
 refine (sim_skip _).then fun b b' d hb _ => ?_
 obtain ⟨rfl,_⟩ := hb
 refine sim_ite Iff.rfl (fun _ => Sim.ret rfl) (fun _ => ?_)
 exact (sim_skip _).then fun b b' d hb _ => Sim.ret (by rw [hb.1])
theorem sim_selects (hn : n ≤ 100000) (hE : HE n E E') : Sim n (fun (x x' : Sl) d => RS .Se x x' ∧ 1 ≤ d) (selectsM E f) (selectsM E' f) := by
 unfold selectsM
 refine (sim_select 0 hn hE).then fun x x' d hx hdn => ?_
 refine (sim_listT (k := .Se) (R := RSe) (fun x x' h => h.row) f (n - d) ⟨1,x.flat⟩ ⟨1,x'.flat⟩ (fun how => (sim_select how hn hE).less (by omega)) ?_ hx.1.row rfl).monoB (fun r r' d' hd q => ⟨RS.of q.1 q.2.1 (by have := q.2.2; simp only at this; omega),by have := hx.2; omega⟩)
 exact sim_joining.then fun how how' d2 hd2 _ => Sim.ret (by rw [hd2])
theorem sim_query (hn : n ≤ 100000) (hE : HE n E E') : Sim n (fun (x x' : Qy) d => RQ x x' ∧ 1 ≤ d) (queryM E f) (queryM E' f) := by
 unfold queryM
 refine sim_enter.then fun _ _ d hd _ => ?_
 refine (sim_selects (n := n - d) (by omega) (hE.less (by omega))).then fun se se' d2 hse _ => ?_
 refine (sim_skip _).then fun b b' d3 hb _ => ?_
 obtain ⟨rfl,_⟩ := hb
 have h1 : Sim (n - d - d2 - d3) (fun (x x' : Sl) _ => RS .Ke x x') (if b then (needM [66,89]).then fun _ => listM Ke.flat 16 keyM commaM f else PM.ret .none) (if b then (needM [66,89]).then fun _ => listM Ke.flat 16 keyM commaM f else PM.ret .none) :=
  sim_ite Iff.rfl (fun _ => (sim_need _).then fun _ _ d4 hd4 _ => sim_keys (by omega)) (fun _ => Sim.ret (RS.none .Ke))
 refine h1.then fun od od' d4 hod _ => ?_
 refine (sim_skip _).then fun b b' d5 hb _ => ?_
 obtain ⟨rfl,_⟩ := hb
 have h2 : Sim (n - d - d2 - d3 - d4 - d5) (fun (x x' : Int × Int) _ => x = x') (if b then (kindM 3).then fun t => (skipM [79,70,70,83,69,84]).then fun b => if b then (kindM 3).then fun u => PM.ret (t.n,u.n) else PM.ret (t.n,0) else PM.ret ((-1 : Int),(0 : Int))) (if b then (kindM 3).then fun t => (skipM [79,70,70,83,69,84]).then fun b => if b then (kindM 3).then fun u => PM.ret (t.n,u.n) else PM.ret (t.n,0) else PM.ret ((-1 : Int),(0 : Int))) := by
  refine sim_ite Iff.rfl (fun _ => ?_) (fun _ => Sim.ret rfl)
  refine (sim_kind (by decide)).then fun t t' d6 hd6 _ => ?_
  refine (sim_skip _).then fun b b' d7 hb _ => ?_
  obtain ⟨rfl,_⟩ := hb
  rw [← hd6.2.n]
  refine sim_ite Iff.rfl (fun _ => ?_) (fun _ => Sim.ret rfl)
  exact (sim_kind (by decide)).then fun u u' d8 hd8 _ => Sim.ret (by rw [hd8.2.n])
 refine h2.then fun lo lo' d6 hlo _ => ?_
 subst hlo
 refine sim_leave.then fun _ _ d7 hd7 _ => ?_
 exact Sim.ret ⟨⟨hse.1,hod,rfl,rfl⟩,by have := hse.2; omega⟩
end
theorem sim_knot (f : Nat) {n : Nat} (hn : n ≤ 100000) : ∀ g : Nat,Sim n QX (knotM f g).1 (knotM f g).1 ∧ Sim n (fun q q' d => RQ q q' ∧ 1 ≤ d) (knotM f g).2 (knotM f g).2
 | 0 => ⟨fun s s' h1 h2 => trivial,fun s s' h1 h2 => trivial⟩
 | g + 1 => by
   obtain ⟨h1,h2⟩ := sim_knot f hn g
   exact ⟨sim_expr hn h1 h2,sim_query hn h1⟩
end Go.Proofs.YtlgkghebemfpjaaGreatDoor.Pa
