/- Tokens put as text are the same tokens: no Go in sight. Whether two rows of tokens are the same. Tokens as text, and back. Tokens with new lines between. -/
import Derived.Test.YtlgkghebemfpjaaGreatDoorQLAs
import Derived.LoopTactic
import Derived.BigQuiet
namespace Go.Proofs.YtlgkghebemfpjaaGreatDoor
open Go.ChangeShapes Go.WideShapes Go.ChangeAt Go.RowKit
set_option linter.unusedVariables false
set_option maxRecDepth 100000
set_option maxRecDepth 100000
abbrev Core := Int × List UInt8 × Int
def core (x : TK) : Core := (x.k,x.t,x.n)
def corep (x : TK × Nat) : Core := core x.1
inductive Toks : List UInt8 → List Core → Prop
 | nil : Toks [] []
 | gap {l : List UInt8} {ts : List Core} : l ≠ [] → 0 < gapN l → Toks (l.drop (gapN l)) ts → Toks l ts
 | tok {l : List UInt8} {ts : List Core} : l ≠ [] → gapN l = 0 → (firstV l).z ≠ 0 → Toks (l.drop (firstV l).z) ts → Toks l (core (firstV l) :: ts)
theorem Toks.lex {l : List UInt8} {ts : List Core} (h : Toks l ts) : ∀ f a,l.length ≤ f → (lexF f l a).2 = none ∧ (lexF f l a).1.map corep = ts := by
 induction h with
 | nil => intro f a _; rw [lexF_nil]; exact ⟨rfl,rfl⟩
 | @gap l ts hl hg _ ih =>
   intro f a hf
   have h1 : 1 ≤ l.length := List.length_pos_iff.2 hl
   cases f with
   | zero => omega
   | succ f =>
     rw [lexF_gap hl hg]
     exact ih f _ (by rw [List.length_drop]; omega)
 | @tok l ts hl hg hz _ ih =>
   intro f a hf
   have h1 : 1 ≤ l.length := List.length_pos_iff.2 hl
   cases f with
   | zero => omega
   | succ f =>
     rw [lexF_tok hl hg hz]
     have := ih f (a + (firstV l).z) (by rw [List.length_drop]; omega)
     exact ⟨this.1,by rw [List.map_cons,this.2]; rfl⟩
theorem lexF_len : ∀ (f : Nat) (l : List UInt8) (a : Nat),l.length ≤ f → (lexF f l a).1.length ≤ l.length
 | 0,l,a,hf => by simp [lexF]
 | f + 1,l,a,hf => by
   by_cases hl : l = []
   · subst hl; rw [lexF_nil]; simp
   · have h1 : 1 ≤ l.length := List.length_pos_iff.2 hl
     by_cases hg : 0 < gapN l
     · rw [lexF_gap hl hg]
       have := lexF_len f (l.drop (gapN l)) (a + gapN l) (by rw [List.length_drop]; omega)
       rw [List.length_drop] at this
       omega
     · have hg0 : gapN l = 0 := by omega
       by_cases hz : (firstV l).z = 0
       · rw [lexF_bad hl hg0 hz]; simp
       · rw [lexF_tok hl hg0 hz]
         have := lexF_len f (l.drop (firstV l).z) (a + (firstV l).z) (by rw [List.length_drop]; omega)
         rw [List.length_drop] at this
         have := first_le l hl
         simp only [List.length_cons]
         omega
def signsL : List (List UInt8) := [[60,62], [60,61], [62,61], [124,124], [40], [41], [44], [46], [42], [43], [45], [47], [37], [61], [60], [62]]
inductive Good : Core → Prop
 | name (t : List UInt8) : t ≠ [] → t.length ≤ 64 → Good (1,t,0)
 | key (t : List UInt8) : keyB t = true → Good (2,t,0)
 | int (n : Int) : 0 ≤ n → n ≤ 9223372036854775807 → Good (3, [],n)
 | text (t : List UInt8) : t.length ≤ 64 → Good (4,t,0)
 | sign (t : List UInt8) : t ∈ signsL → Good (5,t,0)
theorem keyB_mem {t : List UInt8} (h : keyB t = true) : t ∈ keysL := by unfold keyB at h; simpa using h
theorem dg_dig (c : UInt8) : dgB c = Num.dig c := by
 unfold dgB Num.dig
 rw [Bool.eq_iff_iff]; simp
theorem tw_all (p : UInt8 → Bool) (l : List UInt8) : (l.takeWhile p).all p = true := List.all_takeWhile
theorem all_dg1 {l : List UInt8} : (l.takeWhile dgB).all Num.dig = true := by
 have := tw_all dgB l
 rw [List.all_eq_true] at this ⊢
 intro x hx
 rw [← dg_dig]; exact this x hx
theorem good_first (l : List UInt8) (hz : (firstV l).z ≠ 0) : Good (core (firstV l)) := by
 unfold firstV at hz ⊢
 split at hz
 · rename_i h0
   rw [if_pos h0]
   unfold wordV at hz ⊢
   have hne : l.takeWhile wdB ≠ [] := by
    cases l with
    | nil => cases h0
    | cons c r =>
      have : wdB c = true := by unfold wdB; rw [show ltB c = true from h0]; rfl
      rw [List.takeWhile_cons_of_pos this]; simp
   split at hz
   · exact absurd rfl hz
   · rename_i h1
     rw [if_neg h1]
     split
     · rename_i h2
       exact Good.key _ h2
     · exact Good.name _ hne (Nat.le_of_not_lt h1)
 · rename_i h0
   rw [if_neg h0]
   split at hz
   · rename_i h1
     rw [if_pos h1]
     unfold nameV at hz ⊢
     split at hz
     · rename_i t m hq
       split at hz
       · exact absurd rfl hz
       · rename_i h2
         simp only [if_neg h2]
         exact Good.name t (fun e => h2 (.inl e)) (by
          rcases Nat.lt_or_ge 64 t.length with q | q
          · exact absurd (.inr q) h2
          · exact q)
     · exact absurd rfl hz
   · rename_i h1
     rw [if_neg h1]
     split at hz
     · rename_i h2
       rw [if_pos h2]
       unfold digV at hz ⊢
       split at hz
       · rename_i h3
         rw [if_pos h3]
         have ha := all_dg1 (l := l)
         have hb : Num.rdBad (l.takeWhile dgB) = false := by
          unfold Num.rdE at h3
          cases hb : Num.rdBad (l.takeWhile dgB)
          · rfl
          · rw [hb] at h3; cases h3
         have he : Num.er (Num.rdNum (l.takeWhile dgB)) = 0 := by
          unfold Num.rdE at h3
          rw [hb] at h3; exact h3
         have hv : Num.rdV (l.takeWhile dgB) = Num.vl (Num.rdNum (l.takeWhile dgB)) := by unfold Num.rdV; rw [hb]; rfl
         have hn : Num.rdNum (l.takeWhile dgB) = (Num.num (l.takeWhile dgB) : Int) := by
          unfold Num.rdNum Num.rdDig
          rw [Num.head_dig _ ha]; rfl
         have hr : -9223372036854775808 ≤ Num.rdNum (l.takeWhile dgB) ∧ Num.rdNum (l.takeWhile dgB) ≤ 9223372036854775807 := by
          refine Decidable.byContradiction (fun q => ?_)
          rw [(Num.vl_out q).2] at he
          cases he
         rw [(Num.vl_in hr).1,hn] at hv
         show Good (3, [],Num.rdV (l.takeWhile dgB))
         rw [hv]
         exact Good.int _ (by omega) (by rw [← hn]; exact hr.2)
       · exact absurd rfl hz
     · rename_i h2
       rw [if_neg h2]
       split at hz
       · rename_i h3
         rw [if_pos h3]
         unfold textV at hz ⊢
         split at hz
         · rename_i t m hq
           split at hz
           · exact absurd rfl hz
           · rename_i h4
             simp only [if_neg h4]
             exact Good.text t (by omega)
         · exact absurd rfl hz
       · rename_i h3
         rw [if_neg h3]
         unfold signV at hz ⊢
         split at hz
         · exact absurd rfl hz
         · rename_i h4
           rw [if_neg h4]
           refine Good.sign _ ?_
           unfold signN at h4 ⊢
           split
           · rename_i h5
             rcases h5 with h5 | h5 | h5 | h5 | h5
             all_goals rw [h5]; decide
           · rename_i h5
             split
             · rename_i h6; rw [if_neg h5,if_pos h6] at h4; exact absurd rfl h4
             · rename_i h6
               split
               · rename_i h7
                 cases l with
                 | nil => cases h7
                 | cons c r =>
                   have hc : c ∈ shortL := by simpa using h7
                   show sgnT [c] ∈ signsL
                   have : ∀ c ∈ shortL,sgnT [c] ∈ signsL := by decide
                   exact this c hc
               · rename_i h7; rw [if_neg h5,if_neg h6,if_neg h7] at h4; exact absurd rfl h4
theorem good_lex : ∀ (f : Nat) (l : List UInt8) (a : Nat),∀ x ∈ (lexF f l a).1,Good (corep x)
 | 0,l,a => by simp [lexF]
 | f + 1,l,a => by
   intro x hx
   by_cases hl : l = []
   · subst hl; rw [lexF_nil] at hx; cases hx
   · by_cases hg : 0 < gapN l
     · rw [lexF_gap hl hg] at hx
       exact good_lex f _ _ x hx
     · have hg0 : gapN l = 0 := by omega
       by_cases hz : (firstV l).z = 0
       · rw [lexF_bad hl hg0 hz] at hx; cases hx
       · rw [lexF_tok hl hg0 hz] at hx
         rcases List.mem_cons.1 hx with rfl | hx
         · exact good_first l hz
         · exact good_lex f _ _ x hx
theorem gap0 (c : UInt8) (r : List UInt8) (h1 : c ≠ 45) (h2 : c ≠ 47) (h3 : blB c = false) : gapN (c :: r) = 0 := by
 unfold gapN
 have e1 : Lib.hasPrefix (c :: r) [45,45] = false := by
  unfold Lib.hasPrefix
  simp [List.isPrefixOf]
  intro e; exact absurd e.symm h1
 have e2 : Lib.hasPrefix (c :: r) [47,42] = false := by
  unfold Lib.hasPrefix
  simp [List.isPrefixOf]
  intro e; exact absurd e.symm h2
 rw [e1,e2]
 simp only [Bool.false_eq_true,if_false]
 rw [List.takeWhile_cons_of_neg (p := blB) (by rw [h3]; exact fun e => by cases e)]
 rfl
theorem bl_of (c : UInt8) : blB c = (decide (c.toNat = 9) || decide (c.toNat = 10) || decide (c.toNat = 13) || decide (c.toNat = 32)) := by
 have e1 : (c == 9) = decide (c.toNat = 9) := u8_eq c 9 (by omega)
 have e2 : (c == 10) = decide (c.toNat = 10) := u8_eq c 10 (by omega)
 have e3 : (c == 13) = decide (c.toNat = 13) := u8_eq c 13 (by omega)
 have e4 : (c == 32) = decide (c.toNat = 32) := u8_eq c 32 (by omega)
 unfold blB
 rw [e1,e2,e3,e4]
theorem tw_stop (p : UInt8 → Bool) (t : List UInt8) (c : UInt8) (r : List UInt8) (h : t.all p = true) (hc : p c = false) : (t ++ c :: r).takeWhile p = t := by
 rw [List.takeWhile_append_of_pos (by rw [List.all_eq_true] at h; exact h),List.takeWhile_cons_of_neg (by rw [hc]; exact fun e => by cases e)]
 simp
theorem quo_dup (q : UInt8) (r : List UInt8) (hr : r.headD (q + 1) ≠ q) : ∀ t,quo q (dupL q t ++ q :: r) = some (t,(dupL q t).length + 1)
 | [] => by
   cases r with
   | nil => show quo q [q] = _; rw [quo,if_pos rfl]; rfl
   | cons d r =>
     show quo q (q :: d :: r) = _
     rw [quo,if_pos rfl,if_neg (show ¬ d = q from hr)]; rfl
 | c :: t => by
   have ih := quo_dup q r hr t
   by_cases hc : c = q
   · subst hc
     rw [dupL_hit]
     show quo c (c :: c :: (dupL c t ++ c :: r)) = _
     rw [quo,if_pos rfl,if_pos rfl,ih]
     rfl
   · rw [dupL_miss q c t hc]
     obtain ⟨d,r',e⟩ : ∃ d r',dupL q t ++ q :: r = d :: r' := by
      cases h : dupL q t ++ q :: r with
      | nil => simp at h
      | cons d r' => exact ⟨d,r',rfl⟩
     show quo q (c :: (dupL q t ++ q :: r)) = _
     rw [e,quo,if_neg hc, ← e,ih]
     rfl
theorem wordB_parts {t : List UInt8} (h : wordB t = true) : t ≠ [] ∧ ltB (t.headD 0) = true ∧ t.all wdB = true ∧ t.length ≤ 64 ∧ keyB (up t) = false := by
 unfold wordB at h
 obtain ⟨h0,h1,h2,h3⟩ := of_decide_eq_true h
 refine ⟨h0, ?_⟩
 have hk : firstV t = wordV t ∧ ltB (t.headD 0) = true := by
  unfold firstV at h1 h2 ⊢
  by_cases c : ltB (t.headD 0) = true
  · rw [if_pos c]; exact ⟨rfl,c⟩
  · exfalso
    rw [if_neg c] at h1 h2
    by_cases c2 : t.headD 0 = 34
    · rw [if_pos c2] at h1 h2
      unfold nameV at h1 h2
      cases hq : quo 34 (t.drop 1) with
      | none => rw [hq] at h1; cases h1
      | some x =>
        obtain ⟨t',m⟩ := x
        rw [hq] at h1 h2
        simp only at h1 h2
        split at h1
        · cases h1
        · rename_i c3
          rw [if_neg c3] at h2
          have e : t' = t := h2
          have hm := (quo_some 34 _ _ _ hq).1
          have hl := quo_len 34 hq
          rw [List.length_drop,e] at *
          have := (dupL_len 34 t).1
          have : 1 ≤ t.length := List.length_pos_iff.2 h0
          omega
    · rw [if_neg c2] at h1
      split at h1
      · unfold digV at h1
        split at h1 <;> cases h1
      · split at h1
        · unfold textV at h1
          split at h1
          · split at h1 <;> cases h1
          · cases h1
        · unfold signV at h1
          split at h1 <;> cases h1
 rw [hk.1] at h1 h2
 unfold wordV at h1 h2
 split at h1
 · cases h1
 · rename_i c1
   rw [if_neg c1] at h2
   split at h1
   · cases h1
   · rename_i c2
     rw [if_neg c2] at h2
     have e : t.takeWhile wdB = t := h2
     rw [e] at c1 c2
     exact ⟨hk.2,by rw [← e]; exact tw_all wdB t,by omega,by simpa using c2⟩
theorem up_len (l : List UInt8) : (up l).length = l.length := by unfold up Lib.toUpperA; simp
theorem head_app {t r : List UInt8} (h : t ≠ []) : (t ++ r).headD 0 = t.headD 0 := by
 cases t with
 | nil => exact absurd rfl h
 | cons c t => rfl
theorem lt_out {c : UInt8} (h : ltB c = true) : c ≠ 45 ∧ c ≠ 47 ∧ blB c = false := by
 unfold ltB at h
 have : (97 ≤ c.toNat ∧ c.toNat ≤ 122 ∨ 65 ≤ c.toNat ∧ c.toNat ≤ 90) ∨ c.toNat = 95 := by simpa using h
 refine ⟨fun e => by rw [e] at this; revert this; decide,fun e => by rw [e] at this; revert this; decide, ?_⟩
 rw [bl_of]
 simp; omega
theorem dg_out {c : UInt8} (h : dgB c = true) : c ≠ 45 ∧ c ≠ 47 ∧ blB c = false ∧ ltB c = false ∧ c ≠ 34 := by
 unfold dgB at h
 have : 48 ≤ c.toNat ∧ c.toNat ≤ 57 := by simpa using h
 refine ⟨fun e => by rw [e] at this; revert this; decide,fun e => by rw [e] at this; revert this; decide, ?_, ?_,fun e => by rw [e] at this; revert this; decide⟩
 · rw [bl_of]
   simp; omega
 · unfold ltB
   simp; omega
def putC (x : Core) : List UInt8 := putV x.1 x.2.1 x.2.2
theorem back_word {t r : List UInt8} (h0 : t ≠ []) (h1 : ltB (t.headD 0) = true) (h2 : t.all wdB = true) (h3 : t.length ≤ 64) : gapN (t ++ 32 :: r) = 0 ∧ firstV (t ++ 32 :: r) = if keyB (up t) then ⟨2,up t,0,t.length⟩ else ⟨1,t,0,t.length⟩ := by
 have hh := head_app (r := 32 :: r) h0
 constructor
 · cases t with
   | nil => exact absurd rfl h0
   | cons c t =>
     obtain ⟨a,b,d⟩ := lt_out h1
     exact gap0 c _ a b d
 · unfold firstV
   rw [hh,if_pos h1]
   unfold wordV
   rw [tw_stop wdB t 32 r h2 (by decide),if_neg (by omega)]
theorem quote_len (q : UInt8) (t r : List UInt8) : (q :: (dupL q t ++ [q])) ++ 32 :: r = q :: (dupL q t ++ q :: 32 :: r) := by simp
theorem keys_ok : ∀ t ∈ keysL,t ≠ [] ∧ ltB (t.headD 0) = true ∧ t.all wdB = true ∧ t.length ≤ 64 ∧ up t = t ∧ keyB t = true := by decide +kernel
theorem sign_ok' : ∀ t ∈ signsL,∀ r : List UInt8,gapN (t ++ 32 :: r) = 0 ∧ firstV (t ++ 32 :: r) = ⟨5,t,0,t.length⟩ := by
 intro t ht r
 simp only [signsL,List.mem_cons,List.mem_nil_iff,or_false] at ht
 rcases ht with rfl | rfl | rfl | rfl | rfl | rfl | rfl | rfl | rfl | rfl | rfl | rfl | rfl | rfl | rfl | rfl
 all_goals exact ⟨rfl,rfl⟩
theorem back_one {x : Core} (h : Good x) (r : List UInt8) : putC x ++ 32 :: r ≠ [] ∧ gapN (putC x ++ 32 :: r) = 0 ∧ core (firstV (putC x ++ 32 :: r)) = x ∧ (firstV (putC x ++ 32 :: r)).z = (putC x).length ∧ (putC x).length ≠ 0 := by
 refine ⟨by simp, ?_⟩
 cases h with
 | name t h0 h1 =>
   show gapN (putV 1 t 0 ++ 32 :: r) = 0 ∧ _
   unfold putC
   simp only
   unfold putV
   rw [if_pos rfl]
   cases hw : wordB t
   · simp only [Bool.false_eq_true,if_false]
     rw [quote_len]
     refine ⟨gap0 34 _ (by decide) (by decide) (by decide), ?_⟩
     have hf : firstV (34 :: (dupL 34 t ++ 34 :: 32 :: r)) = ⟨1,t,0,(dupL 34 t).length + 1 + 1⟩ := by
      unfold firstV
      rw [show (34 :: (dupL 34 t ++ 34 :: 32 :: r)).headD 0 = 34 from rfl,if_neg (by decide),if_pos rfl]
      unfold nameV
      have : quo 34 ((34 :: (dupL 34 t ++ 34 :: 32 :: r)).drop 1) = some (t,(dupL 34 t).length + 1) := quo_dup 34 (32 :: r) (show (32 : UInt8) ≠ 34 by decide) t
      simp only [this]
      rw [if_neg (fun e => e.elim h0 (by omega))]
     rw [hf]
     refine ⟨rfl, ?_,by simp⟩
     simp
   · simp only [if_true]
     obtain ⟨_,h2,h3,_,h5⟩ := wordB_parts hw
     obtain ⟨g1,g2⟩ := back_word (r := r) h0 h2 h3 h1
     rw [h5] at g2
     rw [g2]
     exact ⟨g1,rfl,rfl,fun e => h0 (List.eq_nil_of_length_eq_zero e)⟩
 | key t hk =>
   obtain ⟨h0,h1,h2,h3,h4,h5⟩ := keys_ok t (keyB_mem hk)
   obtain ⟨g1,g2⟩ := back_word (r := r) h0 h1 h2 h3
   rw [h4,hk] at g2
   have e : putC (2,t,0) = t := rfl
   rw [e,g2]
   exact ⟨g1,rfl,rfl,fun q => h0 (List.eq_nil_of_length_eq_zero q)⟩
 | int n hn hm =>
   have e : putC (3, [],n) = Num.dg n.natAbs := by
    show Num.txt n = _
    unfold Num.txt
    rw [if_neg (by omega)]
   rw [e]
   have ha : (Num.dg n.natAbs).all dgB = true := by
    have := Num.all_dg n.natAbs
    rw [List.all_eq_true] at this ⊢
    intro c hc; rw [dg_dig]; exact this c hc
   have h0 := Num.dg_ne n.natAbs
   have hd : dgB ((Num.dg n.natAbs).headD 0) = true := by
    cases hq : Num.dg n.natAbs with
    | nil => exact absurd hq h0
    | cons c t => rw [hq,List.all_cons,Bool.and_eq_true] at ha; exact ha.1
   obtain ⟨o1,o2,o3,o4,o5⟩ := dg_out hd
   have hr := Num.rd_txt n
   have et : Num.txt n = Num.dg n.natAbs := by unfold Num.txt; rw [if_neg (by omega)]
   rw [et] at hr
   have hf : firstV (Num.dg n.natAbs ++ 32 :: r) = ⟨3, [],n,(Num.dg n.natAbs).length⟩ := by
    unfold firstV
    rw [head_app h0,if_neg (by rw [o4]; exact fun q => by cases q),if_neg o5,if_pos hd]
    unfold digV
    rw [tw_stop dgB _ 32 r ha (by decide)]
    have e1 : Num.rdE (Num.dg n.natAbs) = 0 := by unfold Num.rdE; rw [hr.1,hr.2,(Num.vl_in (by omega)).2]; rfl
    have e2 : Num.rdV (Num.dg n.natAbs) = n := by unfold Num.rdV; rw [hr.1,hr.2,(Num.vl_in (by omega)).1]; rfl
    rw [if_pos e1,e2]
   rw [hf]
   refine ⟨?_,rfl,rfl,fun q => h0 (List.eq_nil_of_length_eq_zero q)⟩
   cases hq : Num.dg n.natAbs with
   | nil => exact absurd hq h0
   | cons c t =>
     rw [hq] at o1 o2 o3
     exact gap0 c _ o1 o2 o3
 | text t h1 =>
   have e : putC (4,t,0) = 39 :: (dupL 39 t ++ [39]) := by
    show (if t.length ≤ 64 then 39 :: (dupL 39 t ++ [39]) else _) = _
    rw [if_pos h1]
   rw [e,quote_len]
   refine ⟨gap0 39 _ (by decide) (by decide) (by decide), ?_⟩
   have hf : firstV (39 :: (dupL 39 t ++ 39 :: 32 :: r)) = ⟨4,t,0,(dupL 39 t).length + 1 + 1⟩ := by
    unfold firstV
    rw [show (39 :: (dupL 39 t ++ 39 :: 32 :: r)).headD 0 = 39 from rfl,if_neg (by decide),if_neg (by decide),if_neg (by decide),if_pos rfl]
    unfold textV
    have : quo 39 ((39 :: (dupL 39 t ++ 39 :: 32 :: r)).drop 1) = some (t,(dupL 39 t).length + 1) := quo_dup 39 (32 :: r) (show (32 : UInt8) ≠ 39 by decide) t
    simp only [this]
    rw [if_neg (by omega)]
   rw [hf]
   refine ⟨rfl, ?_,by simp⟩
   simp
 | sign t ht =>
   obtain ⟨g1,g2⟩ := sign_ok' t ht r
   have e : putC (5,t,0) = t := rfl
   rw [e,g2]
   refine ⟨g1,rfl,rfl, ?_⟩
   have : ∀ t ∈ signsL,t.length ≠ 0 := by decide
   exact this t ht
theorem toks_blank {b : UInt8} (hb : blB b = true) {l : List UInt8} {ts : List Core} (h : Toks l ts) : Toks (b :: l) ts := by
 have ho : b ≠ 45 ∧ b ≠ 47 := by
  constructor
  · intro e; rw [e] at hb; revert hb; decide
  · intro e; rw [e] at hb; revert hb; decide
 have hg : ∀ (b : UInt8) (l : List UInt8),blB b = true → b ≠ 45 ∧ b ≠ 47 → gapN (b :: l) = ((b :: l).takeWhile blB).length := fun b l hb ho => by
  unfold gapN
  have e1 : Lib.hasPrefix (b :: l) [45,45] = false := by
   unfold Lib.hasPrefix
   simp [List.isPrefixOf]
   intro e; exact absurd e.symm ho.1
  have e2 : Lib.hasPrefix (b :: l) [47,42] = false := by
   unfold Lib.hasPrefix
   simp [List.isPrefixOf]
   intro e; exact absurd e.symm ho.2
  rw [e1,e2]
  simp
 have hgb := hg b l hb ho
 rw [List.takeWhile_cons_of_pos hb,List.length_cons] at hgb
 refine Toks.gap (by simp) (by omega) ?_
 rw [hgb,List.drop_succ_cons]
 cases h with
 | nil => exact Toks.nil
 | @gap l ts hl hgp hr =>
   cases l with
   | nil => exact absurd rfl hl
   | cons c r =>
     by_cases hc : blB c = true
     · have hoc : c ≠ 45 ∧ c ≠ 47 := by
        constructor
        · intro e; rw [e] at hc; revert hc; decide
        · intro e; rw [e] at hc; revert hc; decide
       rw [hg c r hc hoc] at hr
       exact hr
     · rw [List.takeWhile_cons_of_neg hc]
       exact Toks.gap hl hgp hr
 | @tok l ts hl hgp hz hr =>
   cases l with
   | nil => exact absurd rfl hl
   | cons c r =>
     by_cases hc : blB c = true
     · have hoc : c ≠ 45 ∧ c ≠ 47 := by
        constructor
        · intro e; rw [e] at hc; revert hc; decide
        · intro e; rw [e] at hc; revert hc; decide
       have := hg c r hc hoc
       rw [List.takeWhile_cons_of_pos hc,List.length_cons] at this
       omega
     · rw [List.takeWhile_cons_of_neg hc]
       exact Toks.tok hl hgp hz hr
theorem toks_one {x : Core} (h : Good x) {r : List UInt8} {ts : List Core} (k : Toks (32 :: r) ts) : Toks (putC x ++ 32 :: r) (x :: ts) := by
 obtain ⟨a,b,c,d,e⟩ := back_one h r
 have := Toks.tok a b (by rw [d]; exact e) (ts := ts) (by rw [d,List.drop_left]; exact k)
 rw [c] at this
 exact this
def Sep (sep : List UInt8) : Prop := ∀ l ts,Toks l ts → Toks (sep ++ l) ts
theorem toks_back {sep : List UInt8} (hs : Sep sep) : ∀ ts : List Core,(∀ x ∈ ts,Good x) → Toks (ts.flatMap (fun x => putC x ++ 32 :: sep) ++ 32 :: sep) ts
 | [],_ => by
   have := toks_blank (b := 32) (by decide) (hs [] [] Toks.nil)
   rw [List.append_nil] at this
   exact this
 | x :: ts,h => by
   have ih := toks_back hs ts (fun y hy => h y (by simp [hy]))
   rw [List.flatMap_cons,List.append_assoc,List.append_assoc,List.cons_append]
   exact toks_one (h x (by simp)) (toks_blank (by decide) (hs _ _ ih))
def RowT (w : World) (v : Value) (r : List (TK × Nat)) : Prop := ∃ a c,v = .slice a r.length c ∧ (r = [] ∨ ∃ g,a = some ⟨g,0,none⟩ ∧ ∀ j u,(r.flatMap rt)[j]? = some u → w.cell? ⟨g,j,none⟩ = some u)
theorem OwnT.row {w : World} {B : Nat} {v : Value} {r : List (TK × Nat)} (h : OwnT w B v r) : RowT w v r := by
 by_cases hr : r = []
 · subst hr
   rcases h.2 with ⟨rfl,_⟩ | ⟨g,cap,cur,rfl,_⟩
   · exact ⟨none,0,rfl,.inl rfl⟩
   · exact ⟨_,cap,rfl,.inl rfl⟩
 · obtain ⟨g,c,rfl,hc,_⟩ := OwnT.cells h hr
   exact ⟨_,c,rfl,.inr ⟨g,rfl,hc⟩⟩
theorem RowT.next {w w' : World} {v : Value} {r : List (TK × Nat)} (h : RowT w v r) (k : Below w.heap.size w w') : RowT w' v r := by
 obtain ⟨a,c,rfl,h⟩ := h
 refine ⟨a,c,rfl, ?_⟩
 rcases h with h | ⟨g,rfl,hc⟩
 · exact .inl h
 · exact .inr ⟨g,rfl,fun j u hu => (k.cell (p := ⟨g,j,none⟩) (World.block_lt_of_cell? w _ (hc j u hu))).trans (hc j u hu)⟩
theorem RowT.drew {w : World} {v : Value} {r : List (TK × Nat)} (h : RowT w v r) : RowT w.drew v r := by
 obtain ⟨a,c,rfl,h⟩ := h
 exact ⟨a,c,rfl,h⟩
theorem rt_get (r : List (TK × Nat)) (i : Nat) (h : i < r.length) {w : World} {g : Nat} (hc : ∀ j u,(r.flatMap rt)[j]? = some u → w.cell? ⟨g,j,none⟩ = some u) :
 w.cell? ⟨g,i * 4,none⟩ = some (.int .i64 r[i].1.k) ∧ w.cell? ⟨g,i * 4 + 1,none⟩ = some (.string ⟨r[i].1.t.toArray⟩) ∧ w.cell? ⟨g,i * 4 + 2,none⟩ = some (.int .i64 r[i].1.n) ∧ w.cell? ⟨g,i * 4 + 3,none⟩ = some (.int .i64 (r[i].2 : Int)) := by
 obtain ⟨h0,h1,h2,h3⟩ := rt_at r i h
 exact ⟨hc _ _ h0,hc _ _ h1,hc _ _ h2,hc _ _ h3⟩
def sameB (r r' : List (TK × Nat)) : Bool := decide (r.map corep = r'.map corep)
theorem same_all {r r' : List (TK × Nat)} (hl : r.length = r'.length) (h : ∀ i (h : i < r.length) (h' : i < r'.length),r[i].1.k = r'[i].1.k ∧ r[i].1.t = r'[i].1.t ∧ r[i].1.n = r'[i].1.n) : sameB r r' = true := by
 unfold sameB
 rw [decide_eq_true_eq]
 apply List.ext_getElem
 · simpa using hl
 · intro i h1 h2
   rw [List.getElem_map,List.getElem_map]
   rw [List.length_map] at h1 h2
   obtain ⟨a,b,c⟩ := h i h1 h2
   show (_,_,_) = (_,_,_)
   rw [a,b,c]
def catL (b : List UInt8) (r : List (TK × Nat)) : List UInt8 := r.flatMap (fun x => putC (corep x) ++ b)
theorem catL_snoc (b : List UInt8) (r : List (TK × Nat)) (x : TK × Nat) : catL b (r ++ [x]) = catL b r ++ (putC (corep x) ++ b) := by simp [catL]
def Fine (r : List (TK × Nat)) : Prop := ∀ x ∈ r,x.1.t.length ≤ 64 ∧ -9223372036854775808 ≤ x.1.n ∧ x.1.n ≤ 9223372036854775807 ∧ (putC (corep x)).length ≤ 300
theorem take_snocT (r : List (TK × Nat)) (j : Nat) (h : j < r.length) : r.take (j + 1) = r.take j ++ [r[j]] := List.take_succ_eq_append_getElem h
theorem good_fine {x : TK × Nat} (h : Good (corep x)) : x.1.t.length ≤ 64 ∧ -9223372036854775808 ≤ x.1.n ∧ x.1.n ≤ 9223372036854775807 ∧ (putC (corep x)).length ≤ 300 := by
 obtain ⟨⟨k,t,n,z⟩,a⟩ := x
 have hh : Good (k,t,n) := h
 show t.length ≤ 64 ∧ -9223372036854775808 ≤ n ∧ n ≤ 9223372036854775807 ∧ (putC (k,t,n)).length ≤ 300
 clear h
 cases hh with
 | name _ h0 h1 =>
   refine ⟨h1,by omega,by omega, ?_⟩
   show (putV 1 t 0).length ≤ 300
   unfold putV
   rw [if_pos rfl]
   split
   · omega
   · have := (dupL_len 34 t).2
     simp; omega
 | key _ h0 =>
   obtain ⟨_,_,_,h3,_,_⟩ := keys_ok t (keyB_mem h0)
   exact ⟨h3,by omega,by omega,by show t.length ≤ 300; omega⟩
 | int _ h0 h1 =>
   refine ⟨by simp,by omega,h1, ?_⟩
   show (Num.txt n).length ≤ 300
   unfold Num.txt
   rw [if_neg (by omega)]
   have := Num.len_dg n.natAbs 19 (by omega) (by omega)
   omega
 | text _ h0 =>
   refine ⟨h0,by omega,by omega, ?_⟩
   show (putV 4 t 0).length ≤ 300
   have e : putV 4 t 0 = 39 :: (dupL 39 t ++ [39]) := by
    show (if t.length ≤ 64 then 39 :: (dupL 39 t ++ [39]) else _) = _
    rw [if_pos h0]
   rw [e]
   have := (dupL_len 39 t).2
   simp; omega
 | sign _ h0 =>
   have : ∀ t ∈ signsL,t.length ≤ 2 := by decide
   have := this t h0
   exact ⟨by omega,by omega,by omega,by show t.length ≤ 300; omega⟩
theorem fine_end (a : Nat) : (endT,a).1.t.length ≤ 64 ∧ -9223372036854775808 ≤ (endT,a).1.n ∧ (endT,a).1.n ≤ 9223372036854775807 ∧ (putC (corep (endT,a))).length ≤ 300 := by
 refine ⟨by simp [endT],by simp [endT],by simp [endT], ?_⟩
 have : putC (corep (endT,a)) = [] := rfl
 rw [this]; simp
structure HasT (l : List UInt8) (ts : List (TK × Nat)) : Prop where
 eq : tokV l = (ts ++ [(endT,l.length)],0,0)
 good : ∀ x ∈ ts,Good (corep x)
 len : ts.length ≤ l.length
theorem tokV_cases (l : List UInt8) : (∃ ts,HasT l ts) ∨ ((tokV l).1 = [] ∧ (tokV l).2.2 ≠ 0) := by
 unfold tokV
 by_cases h : 4096 < l.length
 · right; rw [if_pos h]; exact ⟨rfl,by simp⟩
 · cases hx : (lexF l.length l 0).2 with
   | none =>
     left
     refine ⟨(lexF l.length l 0).1, ?_,good_lex _ _ _,lexF_len _ _ _ (Nat.le_refl _)⟩
     unfold tokV
     rw [if_neg h,hx]
   | some p => right; rw [if_neg h]; exact ⟨rfl,by simp⟩
theorem HasT.fine {l : List UInt8} {ts : List (TK × Nat)} (h : HasT l ts) (a : Nat) : Fine (ts ++ [(endT,a)]) := fun x hx => by
 rcases List.mem_append.1 hx with hx | hx
 · exact good_fine (h.good x hx)
 · obtain rfl : x = (endT,a) := by simpa using hx
   exact fine_end a
theorem catL_back {ts : List (TK × Nat)} (sep : List UInt8) (a : Nat) : catL (32 :: sep) (ts ++ [(endT,a)]) = (ts.map corep).flatMap (fun x => putC x ++ 32 :: sep) ++ 32 :: sep := by
 rw [catL_snoc]
 have : putC (corep (endT,a)) = [] := rfl
 rw [this,List.nil_append]
 congr 1
 simp [catL,List.flatMap_map]
theorem again {l : List UInt8} {ts : List (TK × Nat)} (h : HasT l ts) {sep : List UInt8} (hs : Sep sep) (hl : (catL (32 :: sep) (ts ++ [(endT,l.length)])).length ≤ 4096) :
 ∃ us,HasT (catL (32 :: sep) (ts ++ [(endT,l.length)])) us ∧ sameB (ts ++ [(endT,l.length)]) (us ++ [(endT,(catL (32 :: sep) (ts ++ [(endT,l.length)])).length)]) = true := by
 have hb := toks_back hs (ts.map corep) (fun x hx => by
  obtain ⟨y,hy,rfl⟩ := List.mem_map.1 hx
  exact h.good y hy)
 rw [← catL_back sep l.length] at hb
 generalize catL (32 :: sep) (ts ++ [(endT,l.length)]) = L at *
 obtain ⟨h1,h2⟩ := hb.lex L.length 0 (Nat.le_refl _)
 refine ⟨(lexF L.length L 0).1,⟨?_,good_lex _ _ _,lexF_len _ _ _ (Nat.le_refl _)⟩, ?_⟩
 · unfold tokV
   rw [if_neg (by omega),h1]
 · unfold sameB
   rw [decide_eq_true_eq,List.map_append,List.map_append,h2]
   rfl
theorem back_wordN {t r : List UInt8} (h0 : t ≠ []) (h1 : ltB (t.headD 0) = true) (h2 : t.all wdB = true) (h3 : t.length ≤ 64) : gapN (t ++ 10 :: r) = 0 ∧ firstV (t ++ 10 :: r) = if keyB (up t) then ⟨2,up t,0,t.length⟩ else ⟨1,t,0,t.length⟩ := by
 have hh := head_app (r := 10 :: r) h0
 constructor
 · cases t with
   | nil => exact absurd rfl h0
   | cons c t =>
     obtain ⟨a,b,d⟩ := lt_out h1
     exact gap0 c _ a b d
 · unfold firstV
   rw [hh,if_pos h1]
   unfold wordV
   rw [tw_stop wdB t 10 r h2 (by decide),if_neg (by omega)]
theorem quote_lenN (q : UInt8) (t r : List UInt8) : (q :: (dupL q t ++ [q])) ++ 10 :: r = q :: (dupL q t ++ q :: 10 :: r) := by simp
theorem sign_okN : ∀ t ∈ signsL,∀ r : List UInt8,gapN (t ++ 10 :: r) = 0 ∧ firstV (t ++ 10 :: r) = ⟨5,t,0,t.length⟩ := by
 intro t ht r
 simp only [signsL,List.mem_cons,List.mem_nil_iff,or_false] at ht
 rcases ht with rfl | rfl | rfl | rfl | rfl | rfl | rfl | rfl | rfl | rfl | rfl | rfl | rfl | rfl | rfl | rfl
 all_goals exact ⟨rfl,rfl⟩
theorem back_oneN {x : Core} (h : Good x) (r : List UInt8) : putC x ++ 10 :: r ≠ [] ∧ gapN (putC x ++ 10 :: r) = 0 ∧ core (firstV (putC x ++ 10 :: r)) = x ∧ (firstV (putC x ++ 10 :: r)).z = (putC x).length ∧ (putC x).length ≠ 0 := by
 refine ⟨by simp, ?_⟩
 cases h with
 | name t h0 h1 =>
   show gapN (putV 1 t 0 ++ 10 :: r) = 0 ∧ _
   unfold putC
   simp only
   unfold putV
   rw [if_pos rfl]
   cases hw : wordB t
   · simp only [Bool.false_eq_true,if_false]
     rw [quote_lenN]
     refine ⟨gap0 34 _ (by decide) (by decide) (by decide), ?_⟩
     have hf : firstV (34 :: (dupL 34 t ++ 34 :: 10 :: r)) = ⟨1,t,0,(dupL 34 t).length + 1 + 1⟩ := by
      unfold firstV
      rw [show (34 :: (dupL 34 t ++ 34 :: 10 :: r)).headD 0 = 34 from rfl,if_neg (by decide),if_pos rfl]
      unfold nameV
      have : quo 34 ((34 :: (dupL 34 t ++ 34 :: 10 :: r)).drop 1) = some (t,(dupL 34 t).length + 1) := quo_dup 34 (10 :: r) (show (10 : UInt8) ≠ 34 by decide) t
      simp only [this]
      rw [if_neg (fun e => e.elim h0 (by omega))]
     rw [hf]
     refine ⟨rfl, ?_,by simp⟩
     simp
   · simp only [if_true]
     obtain ⟨_,h2,h3,_,h5⟩ := wordB_parts hw
     obtain ⟨g1,g2⟩ := back_wordN (r := r) h0 h2 h3 h1
     rw [h5] at g2
     rw [g2]
     exact ⟨g1,rfl,rfl,fun e => h0 (List.eq_nil_of_length_eq_zero e)⟩
 | key t hk =>
   obtain ⟨h0,h1,h2,h3,h4,h5⟩ := keys_ok t (keyB_mem hk)
   obtain ⟨g1,g2⟩ := back_wordN (r := r) h0 h1 h2 h3
   rw [h4,hk] at g2
   have e : putC (2,t,0) = t := rfl
   rw [e,g2]
   exact ⟨g1,rfl,rfl,fun q => h0 (List.eq_nil_of_length_eq_zero q)⟩
 | int n hn hm =>
   have e : putC (3, [],n) = Num.dg n.natAbs := by
    show Num.txt n = _
    unfold Num.txt
    rw [if_neg (by omega)]
   rw [e]
   have ha : (Num.dg n.natAbs).all dgB = true := by
    have := Num.all_dg n.natAbs
    rw [List.all_eq_true] at this ⊢
    intro c hc; rw [dg_dig]; exact this c hc
   have h0 := Num.dg_ne n.natAbs
   have hd : dgB ((Num.dg n.natAbs).headD 0) = true := by
    cases hq : Num.dg n.natAbs with
    | nil => exact absurd hq h0
    | cons c t => rw [hq,List.all_cons,Bool.and_eq_true] at ha; exact ha.1
   obtain ⟨o1,o2,o3,o4,o5⟩ := dg_out hd
   have hr := Num.rd_txt n
   have et : Num.txt n = Num.dg n.natAbs := by unfold Num.txt; rw [if_neg (by omega)]
   rw [et] at hr
   have hf : firstV (Num.dg n.natAbs ++ 10 :: r) = ⟨3, [],n,(Num.dg n.natAbs).length⟩ := by
    unfold firstV
    rw [head_app h0,if_neg (by rw [o4]; exact fun q => by cases q),if_neg o5,if_pos hd]
    unfold digV
    rw [tw_stop dgB _ 10 r ha (by decide)]
    have e1 : Num.rdE (Num.dg n.natAbs) = 0 := by unfold Num.rdE; rw [hr.1,hr.2,(Num.vl_in (by omega)).2]; rfl
    have e2 : Num.rdV (Num.dg n.natAbs) = n := by unfold Num.rdV; rw [hr.1,hr.2,(Num.vl_in (by omega)).1]; rfl
    rw [if_pos e1,e2]
   rw [hf]
   refine ⟨?_,rfl,rfl,fun q => h0 (List.eq_nil_of_length_eq_zero q)⟩
   cases hq : Num.dg n.natAbs with
   | nil => exact absurd hq h0
   | cons c t =>
     rw [hq] at o1 o2 o3
     exact gap0 c _ o1 o2 o3
 | text t h1 =>
   have e : putC (4,t,0) = 39 :: (dupL 39 t ++ [39]) := by
    show (if t.length ≤ 64 then 39 :: (dupL 39 t ++ [39]) else _) = _
    rw [if_pos h1]
   rw [e,quote_lenN]
   refine ⟨gap0 39 _ (by decide) (by decide) (by decide), ?_⟩
   have hf : firstV (39 :: (dupL 39 t ++ 39 :: 10 :: r)) = ⟨4,t,0,(dupL 39 t).length + 1 + 1⟩ := by
    unfold firstV
    rw [show (39 :: (dupL 39 t ++ 39 :: 10 :: r)).headD 0 = 39 from rfl,if_neg (by decide),if_neg (by decide),if_neg (by decide),if_pos rfl]
    unfold textV
    have : quo 39 ((39 :: (dupL 39 t ++ 39 :: 10 :: r)).drop 1) = some (t,(dupL 39 t).length + 1) := quo_dup 39 (10 :: r) (show (10 : UInt8) ≠ 39 by decide) t
    simp only [this]
    rw [if_neg (by omega)]
   rw [hf]
   refine ⟨rfl, ?_,by simp⟩
   simp
 | sign t ht =>
   obtain ⟨g1,g2⟩ := sign_okN t ht r
   have e : putC (5,t,0) = t := rfl
   rw [e,g2]
   refine ⟨g1,rfl,rfl, ?_⟩
   have : ∀ t ∈ signsL,t.length ≠ 0 := by decide
   exact this t ht
theorem toks_oneN {x : Core} (h : Good x) {r : List UInt8} {ts : List Core} (k : Toks (10 :: r) ts) : Toks (putC x ++ 10 :: r) (x :: ts) := by
 obtain ⟨a,b,c,d,e⟩ := back_oneN h r
 have := Toks.tok a b (by rw [d]; exact e) (ts := ts) (by rw [d,List.drop_left]; exact k)
 rw [c] at this
 exact this
def blk (ts : List Core) : List UInt8 := ts.flatMap (fun x => 10 :: 32 :: putC x)
theorem toks_blk : ∀ ts : List Core,(∀ x ∈ ts,Good x) → Toks (blk ts ++ [10,32]) ts
 | [],_ => toks_blank (b := 10) (by decide) (toks_blank (b := 32) (by decide) Toks.nil)
 | x :: ts,h => by
   have ih := toks_blk ts (fun y hy => h y (by simp [hy]))
   have e : blk (x :: ts) ++ [10,32] = 10 :: 32 :: (putC x ++ (blk ts ++ [10,32])) := by
    unfold blk
    rw [List.flatMap_cons]
    simp
   rw [e]
   refine toks_blank (by decide) (toks_blank (by decide) ?_)
   obtain ⟨r,hr⟩ : ∃ r,blk ts ++ [10,32] = 10 :: r := by
    cases ts with
    | nil => exact ⟨[32],rfl⟩
    | cons y ts => exact ⟨32 :: (putC y ++ blk ts) ++ [10,32],by unfold blk; rw [List.flatMap_cons]; simp⟩
   rw [hr] at ih ⊢
   exact toks_oneN (h x (by simp)) ih
theorem again_blk {l : List UInt8} {ts : List (TK × Nat)} (h : HasT l ts) (hl : (blk (ts.map corep) ++ [10,32]).length ≤ 4096) :
 ∃ us,HasT (blk (ts.map corep) ++ [10,32]) us ∧ us.map corep = ts.map corep := by
 have hb := toks_blk (ts.map corep) (fun x hx => by
  obtain ⟨y,hy,rfl⟩ := List.mem_map.1 hx
  exact h.good y hy)
 generalize blk (ts.map corep) ++ [10,32] = L at *
 obtain ⟨h1,h2⟩ := hb.lex L.length 0 (Nat.le_refl _)
 refine ⟨(lexF L.length L 0).1,⟨?_,good_lex _ _ _,lexF_len _ _ _ (Nat.le_refl _)⟩,h2⟩
 unfold tokV
 rw [if_neg (by omega),h1]
end Go.Proofs.YtlgkghebemfpjaaGreatDoor
