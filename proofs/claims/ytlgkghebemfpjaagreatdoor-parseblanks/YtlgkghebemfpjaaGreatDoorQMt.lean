/- A map from addresses to numbers. What is noted of how deep expressions are. The steps of a map from addresses. How deep an expression is, of the program. Deep, of the program. -/
import Derived.Test.YtlgkghebemfpjaaGreatDoorQPm
import Derived.LaidEql
import Derived.MapKept
import Derived.Test.YtlgkghebemfpjaaGreatDoorQAr
import Derived.WideMake
import Derived.Test.YtlgkghebemfpjaaGreatDoorQWt
import Derived.Test.YtlgkghebemfpjaaGreatDoorQD1
namespace Go.Proofs.YtlgkghebemfpjaaGreatDoor.Pa
open Go.ChangeShapes Go.WideShapes Go.ChangeAt Go.RowKit
set_option linter.unusedVariables false
set_option maxRecDepth 100000
def getA (es : List (Addr × Int)) (a : Addr) : Option Int := match es with
 | [] => none
 | x :: r => if x.1 = a then some x.2 else getA r a
def seekA (a : Addr) : List MapEntry → Nat → Option (Nat × Value)
 | [],_ => none
 | e :: es,i => match e.key with
   | .pointer (some b) => if b = a then some (i,e.val) else seekA a es (i + 1)
   | _ => seekA a es (i + 1)
def Plainly (w : World) (a : Addr) : Prop := ∃ u t,w.heap[a.block]? = some (.cells u t (0,0))
structure MpAt (w : World) (b : Nat) (m : Addr → Option Int) : Prop where
 ex : ∃ (arr : Array MapEntry) (clock : Nat) (es : List (Addr × Int)),w.heap[b]? = some (.map arr clock) ∧ arr.toList.map (fun e => (e.key,e.val)) = es.map (fun x => (.pointer (some x.1),.int .i64 x.2)) ∧ (∀ x ∈ es,Plainly w x.1) ∧ ∀ a,getA es a = m a
theorem MpAt.lt {w : World} {b : Nat} {m : Addr → Option Int} (h : MpAt w b m) : b < w.heap.size := by
 obtain ⟨arr,clock,es,hb,_⟩ := h.ex
 rcases Nat.lt_or_ge b w.heap.size with q | q
 · exact q
 · rw [Array.getElem?_eq_none q] at hb; cases hb
theorem Plainly.lt {w : World} {a : Addr} (h : Plainly w a) : a.block < w.heap.size := by
 obtain ⟨u,t,hb⟩ := h
 rcases Nat.lt_or_ge a.block w.heap.size with q | q
 · exact q
 · rw [Array.getElem?_eq_none q] at hb; cases hb
theorem MpAt.new (w : World) : MpAt (w.alloc (.map #[] 0)) w.heap.size (fun _ => none) :=
 ⟨#[],0, [],heap_alloc_new w _,rfl,fun x h => (by cases h),fun a => rfl⟩
section
variable {P : Program} {kt te mt et : TypeId} {j : TypeInfo}
theorem find_run (w : World) (a : Addr) (hk : P.underlying kt = some (.pointer te)) (hte : P.info? te = some j) (hsz : j.size ≠ 0) (ha : Plainly w a) : ∀ (L : List MapEntry) (es : List (Addr × Int)) (i : Nat),L.map (fun e => (e.key,e.val)) = es.map (fun x => (.pointer (some x.1),.int .i64 x.2)) → (∀ x ∈ es,Plainly w x.1) →
 (Instr.findAsking kt (.pointer (some a)) L i).run P w = .ok (seekA a L i) w := by
 intro L
 induction L with
 | nil => intro es i _ _; simp [Instr.findAsking,seekA]
 | cons e L ih =>
   intro es i h hp
   cases es with
   | nil => simp at h
   | cons x es =>
     simp only [List.map_cons,List.cons.injEq,Prod.mk.injEq] at h
     obtain ⟨⟨h1,h2⟩,h3⟩ := h
     have IH := ih es (i + 1) h3 (fun y hy => hp y (List.mem_cons_of_mem _ hy))
     have hx := hp x (List.mem_cons_self)
     have he : (Op.equal kt (.pointer (some a)) e.key).run P w = .ok (decide (a = x.1)) w := by
      rw [h1]
      have hs : (sameAddr a x.1).run P w = .ok (decide (a = x.1)) w := by
       by_cases q : a = x.1
       · rw [← q]; simpa using run_sameAddr_same w a
       · obtain ⟨u,t,hu⟩ := ha
         obtain ⟨u2,t2,hu2⟩ := hx
         simpa [q] using run_sameAddr_other (P := P) w q hu hu2
      have hd : ∀ d,(Op.equalIn (d + 1) kt (.pointer (some a)) (.pointer (some x.1))).run P w = .ok (decide (a = x.1)) w := fun d => by
       simp [Op.equalIn,run_underlying hk,sizeOf,typeInfo,hte,hsz,hs]
      exact hd 9999
     rw [h1] at he
     unfold Instr.findAsking seekA
     simp only [Sem.run_bind,h1,he,Result.andThen_ok]
     by_cases q : x.1 = a
     · simp [q]
     · have q2 : ¬ a = x.1 := fun z => q z.symm
       simp [q,q2,IH]
theorem key_run (w : World) (a : Addr) (hk : P.underlying kt = some (.pointer te)) (hte : P.info? te = some j) (hsz : j.size ≠ 0) (ha : Plainly w a) (L : List MapEntry) (es : List (Addr × Int)) (h : L.map (fun e => (e.key,e.val)) = es.map (fun x => (.pointer (some x.1),.int .i64 x.2))) (hp : ∀ x ∈ es,Plainly w x.1) :
 (Instr.findKey kt (.pointer (some a)) L).run P w = .ok (seekA a L 0) w := by
 cases L with
 | nil => simp [Instr.findKey,run_underlying hk,Instr.findNow,seekA]
 | cons e L =>
   have := find_run w a hk hte hsz ha (e :: L) es 0 h hp
   simp [Instr.findKey,run_underlying hk,Instr.findNow,Instr.sameNow,this]
theorem check_run (w : World) (a : Addr) (hk : P.underlying kt = some (.pointer te)) (b : Bool) : (Instr.checkKey b 10000 kt (.pointer (some a))).run P w = .ok () w := by
 show (Instr.checkKey b (9999 + 1) kt (.pointer (some a))).run P w = .ok () w
 unfold Instr.checkKey
 simp [run_underlying hk]
theorem seek_get (a : Addr) : ∀ (L : List MapEntry) (es : List (Addr × Int)) (i : Nat),L.map (fun e => (e.key,e.val)) = es.map (fun x => (.pointer (some x.1),.int .i64 x.2)) →
 (getA es a = none → seekA a L i = none) ∧ (∀ n,getA es a = some n → ∃ k,seekA a L i = some (i + k,.int .i64 n) ∧ es[k]? = some (a,n) ∧ ∀ j x,j < k → es[j]? = some x → x.1 ≠ a) := by
 intro L
 induction L with
 | nil =>
   intro es i h
   cases es with
   | nil => exact ⟨fun _ => rfl,fun n q => by cases q⟩
   | cons x es => simp at h
 | cons e L ih =>
   intro es i h
   cases es with
   | nil => simp at h
   | cons x es =>
     simp only [List.map_cons,List.cons.injEq,Prod.mk.injEq] at h
     obtain ⟨⟨h1,h2⟩,h3⟩ := h
     have IH := ih es (i + 1) h3
     unfold seekA getA
     simp only [h1,h2]
     by_cases q : x.1 = a
     · subst q
       simp only [if_true]
       refine ⟨fun z => (by cases z),fun n z => ⟨0, ?_, ?_,fun j x hj => absurd hj (Nat.not_lt_zero j)⟩⟩
       · injection z with z; rw [z]; rfl
       · injection z with z; rw [← z]; rfl
     · simp only [q,if_false]
       refine ⟨IH.1,fun n z => ?_⟩
       obtain ⟨k,h4,h5,h6⟩ := IH.2 n z
       refine ⟨k + 1,by rw [h4]; congr 2; omega,h5,fun j y hj hy => ?_⟩
       cases j with
       | zero => simp at hy; rw [← hy]; exact q
       | succ j => exact h6 j y (by omega) (by simpa using hy)
theorem MpAt.look {w : World} {b : Nat} {m : Addr → Option Int} (h : MpAt w b m) (hm : P.underlying mt = some (.map kt et)) (hk : P.underlying kt = some (.pointer te)) (hte : P.info? te = some j) (hsz : j.size ≠ 0) (hz : (zeroValue et).run P w = .ok (.int .i64 0) w) (a : Addr) (ha : Plainly w a) :
 (Instr.lookup mt (.map (some b)) (.pointer (some a)) true).run P w = .ok (.tuple #[.int .i64 ((m a).getD 0),.bool (m a).isSome]) w := by
 obtain ⟨arr,clock,es,hb,he,hp,hg⟩ := h.ex
 have h1 := key_run w a hk hte hsz ha arr.toList es he hp
 have h2 := seek_get a arr.toList es 0 he
 rw [hg] at h2
 cases q : m a with
 | none =>
   rw [h2.1 q] at h1
   simp [Instr.lookup,run_underlying hm,MapKept.run_getObj_map hb,check_run w a hk,h1,hz]
 | some n =>
   obtain ⟨k,h3,_⟩ := h2.2 n q
   rw [h3] at h1
   simp [Instr.lookup,run_underlying hm,MapKept.run_getObj_map hb,check_run w a hk,h1]
theorem MpAt.look_one {w : World} {b : Nat} {m : Addr → Option Int} (h : MpAt w b m) (hm : P.underlying mt = some (.map kt et)) (hk : P.underlying kt = some (.pointer te)) (hte : P.info? te = some j) (hsz : j.size ≠ 0) (hz : (zeroValue et).run P w = .ok (.int .i64 0) w) (a : Addr) (ha : Plainly w a) :
 (Instr.lookup mt (.map (some b)) (.pointer (some a)) false).run P w = .ok (.int .i64 ((m a).getD 0)) w := by
 obtain ⟨arr,clock,es,hb,he,hp,hg⟩ := h.ex
 have h1 := key_run w a hk hte hsz ha arr.toList es he hp
 have h2 := seek_get a arr.toList es 0 he
 rw [hg] at h2
 cases q : m a with
 | none =>
   rw [h2.1 q] at h1
   simp [Instr.lookup,run_underlying hm,MapKept.run_getObj_map hb,check_run w a hk,h1,hz]
 | some n =>
   obtain ⟨k,h3,_⟩ := h2.2 n q
   rw [h3] at h1
   simp [Instr.lookup,run_underlying hm,MapKept.run_getObj_map hb,check_run w a hk,h1]
theorem getA_app (a : Addr) (n : Int) (c : Addr) : ∀ es : List (Addr × Int),getA es a = none → getA (es ++ [(a,n)]) c = if c = a then some n else getA es c := by
 intro es
 induction es with
 | nil =>
   intro _
   simp only [List.nil_append,getA]
   by_cases q : c = a
   · rw [if_pos q,if_pos q.symm]
   · rw [if_neg q,if_neg (fun z => q z.symm)]
 | cons x es ih =>
   intro h
   unfold getA at h
   by_cases q : x.1 = a
   · rw [if_pos q] at h; cases h
   · rw [if_neg q] at h
     rw [List.cons_append]
     unfold getA
     rw [ih h]
     by_cases z : x.1 = c
     · rw [if_pos z,if_pos z,if_neg (by rw [← z]; exact q)]
     · rw [if_neg z,if_neg z]
theorem getA_set (a : Addr) (n : Int) (c : Addr) : ∀ (es : List (Addr × Int)) (k : Nat) (n0 : Int),es[k]? = some (a,n0) → (∀ j x,j < k → es[j]? = some x → x.1 ≠ a) → getA (es.set k (a,n)) c = if c = a then some n else getA es c := by
 intro es
 induction es with
 | nil => intro k n0 h; simp at h
 | cons x es ih =>
   intro k n0 h hj
   cases k with
   | zero =>
     simp at h
     rw [List.set_cons_zero]
     unfold getA
     rw [h]
     by_cases q : c = a
     · rw [if_pos q,if_pos q.symm]
     · rw [if_neg q,if_neg (fun z => q z.symm),if_neg (fun z => q z.symm)]
   | succ k =>
     rw [List.set_cons_succ]
     unfold getA
     rw [ih k n0 (by simpa using h) (fun j y q hy => hj (j + 1) y (by omega) (by simpa using hy))]
     have q := hj 0 x (by omega) rfl
     by_cases z : x.1 = c
     · rw [if_pos z,if_pos z,if_neg (by rw [← z]; exact q)]
     · rw [if_neg z,if_neg z]
theorem same_ptr (a : Addr) : Instr.sameBits 10000 (.pointer (some a)) (.pointer (some a)) = true := by
 simp [Instr.sameBits]
theorem kept_map {w : World} {b : Nat} (o : Obj) : Kept (On b) w { w with heap := w.heap.setIfInBounds b o } :=
 ⟨rfl,rfl,rfl,by simp,fun k _ hn => by
  have : ¬ b = k := fun e => hn e.symm
  simp [this]⟩
theorem MpAt.put {w : World} {b : Nat} {m : Addr → Option Int} (h : MpAt w b m) (hm : P.underlying mt = some (.map kt et)) (hk : P.underlying kt = some (.pointer te)) (hte : P.info? te = some j) (hsz : j.size ≠ 0) (a : Addr) (ha : Plainly w a) (n : Int) :
 ∃ w',(Instr.mapUpdate mt (.map (some b)) (.pointer (some a)) (.int .i64 n)).run P w = .ok () w' ∧ MpAt w' b (fun c => if c = a then some n else m c) ∧ Kept (On b) w w' ∧ w'.heap.size = w.heap.size := by
 obtain ⟨arr,clock,es,hb,he,hp,hg⟩ := h.ex
 have h1 := key_run w a hk hte hsz ha arr.toList es he hp
 have h2 := seek_get a arr.toList es 0 he
 have hlt := h.lt
 have hpl : ∀ (o : Obj) (c : Addr),Plainly w c → Plainly { w with heap := w.heap.setIfInBounds b o } c := by
  rintro o c ⟨u,t,hu⟩
  refine ⟨u,t, ?_⟩
  have hne : ¬ b = c.block := by
   intro q
   rw [q] at hb
   rw [hu] at hb
   cases hb
  simp [hne,hu]
 have hnw : ∀ o : Obj,({ w with heap := w.heap.setIfInBounds b o } : World).heap[b]? = some o := by
  intro o
  simp [hlt]
 rw [hg] at h2
 cases q : m a with
 | none =>
   rw [h2.1 q] at h1
   refine ⟨{ w with heap := w.heap.setIfInBounds b (.map (arr.push { key := .pointer (some a),val := .int .i64 n,born := clock }) (clock + 1)) }, ?_,⟨_,_,es ++ [(a,n)],hnw _, ?_, ?_, ?_⟩,kept_map _,by simp⟩
   · simp [Instr.mapUpdate,run_underlying hm,MapKept.run_getObj_map hb,check_run w a hk,h1,MapKept.run_setObj_map _ hb]
   · rw [Array.toList_push,List.map_append,List.map_append,he]
     rfl
   · intro x hx
     rcases List.mem_append.1 hx with hx | hx
     · exact hpl _ _ (hp x hx)
     · rw [List.mem_singleton] at hx; rw [hx]; exact hpl _ _ ha
   · intro c
     rw [getA_app a n c es (by rw [hg]; exact q),hg]
 | some n0 =>
   obtain ⟨k,h3,h4,h5⟩ := h2.2 n0 q
   rw [Nat.zero_add] at h3
   rw [h3] at h1
   have hkl : k < es.length := by
    rcases Nat.lt_or_ge k es.length with q | q
    · exact q
    · rw [List.getElem?_eq_none q] at h4; cases h4
   have hke : ((arr[k]?).map (·.key)).getD (.pointer (some a)) = .pointer (some a) := by
    have := congrArg (fun l => l[k]?) he
    simp only [List.getElem?_map,h4,Option.map_some,Array.getElem?_toList] at this
    cases q : arr[k]? with
    | none => rw [q] at this; cases this
    | some e =>
      rw [q] at this
      simp only [Option.map_some,Option.some.injEq,Prod.mk.injEq] at this
      simp [this.1]
   refine ⟨{ w with heap := w.heap.setIfInBounds b (.map (arr.modify k fun e => { e with key := .pointer (some a),val := .int .i64 n }) clock) }, ?_,⟨_,_,es.set k (a,n),hnw _, ?_, ?_, ?_⟩,kept_map _,by simp⟩
   · simp [Instr.mapUpdate,run_underlying hm,MapKept.run_getObj_map hb,check_run w a hk,h1,MapKept.run_setObj_map _ hb,Instr.keyThatStays,hke,same_ptr]
   · apply List.ext_getElem?
     intro i
     have := congrArg (fun l => l[i]?) he
     simp only [List.getElem?_map,Array.getElem?_toList] at this
     simp only [List.getElem?_map,Array.getElem?_toList,Array.getElem?_modify,List.getElem?_set]
     by_cases hi : k = i
     · subst hi
       rw [if_pos rfl,if_pos rfl,if_pos hkl]
       rw [h4] at this
       cases q : arr[k]? with
       | none => rw [q] at this; cases this
       | some e => rfl
     · rw [if_neg hi,if_neg hi]
       exact this
   · intro x hx
     rcases List.mem_or_eq_of_mem_set hx with hx | hx
     · exact hpl _ _ (hp x hx)
     · rw [hx]; exact hpl _ _ ha
   · intro c
     rw [getA_set a n c es k n0 h4 h5,hg]
end
theorem Plainly.kept {w w' : World} {a : Addr} {F : Nat → Prop} (h : Plainly w a) (k : Kept F w w') (hn : ¬ F a.block) : Plainly w' a := by
 have hl := h.lt
 obtain ⟨u,t,hb⟩ := h
 exact ⟨u,t,(k.block _ hl hn).trans hb⟩
theorem MpAt.kept {w w' : World} {b : Nat} {m : Addr → Option Int} (h : MpAt w b m) (k : Kept (fun _ => False) w w') : MpAt w' b m := by
 have hl := h.lt
 obtain ⟨arr,clock,es,hb,he,hp,hg⟩ := h.ex
 exact ⟨arr,clock,es,(k.block b hl (fun z => z)).trans hb,he,fun x hx => (hp x hx).kept k (fun z => z),hg⟩
theorem repdep_aux : ∀ (N : Nat) (A A' : Nat → Prop) (w : World) (v : Value) (d d' : DT),SizeOf.sizeOf d ≤ N → Rep A w v d → Rep A' w v d' → d.okE = true → d'.okE = true → d.dep = d'.dep := by
 intro N
 induction N with
 | zero =>
   intro A A' w v d d' hs
   cases d <;> simp at hs
 | succ N ih =>
   intro A A' w v d d' hs hr hr' ho ho'
   obtain ⟨n,l,rfl,hdep⟩ := DT.okE_is ho
   obtain ⟨n',l',rfl,hdep'⟩ := DT.okE_is ho'
   have hsl := DT.okE_sl ho
   have hsl' := DT.okE_sl ho'
   rw [hdep,hdep']
   have hsz : ∀ e ∈ l,SizeOf.sizeOf e ≤ N := by
    intro e he
    have := List.sizeOf_lt_of_mem he
    simp at hs
    omega
   cases hr with
   | nil p c =>
     cases hr' with
     | nil p c => rfl
     | sl g o k cap cs' l' a' hg' hz' hn' hc' h' =>
       have : l' = [] := List.eq_nil_of_length_eq_zero (by rw [hsl'.2.1,Nat.zero_mul])
       rw [this]
   | sl g o k cap cs l a hg hz hn hc h =>
     cases hr' with
     | nil p c =>
       have : l = [] := List.eq_nil_of_length_eq_zero (by rw [hsl.2.1,Nat.zero_mul])
       rw [this]
     | sl g o k cap cs' l' a' hg' hz' hn' hc' h' =>
       have hst : ∀ i,i ≤ n → DT.depL 0 (l.take (12 * i)) = DT.depL 0 (l'.take (12 * i)) := by
        intro i
        induction i with
        | zero => intro _; rfl
        | succ i ihi =>
          intro hi
          obtain ⟨x,hx,h1⟩ := DT.depL_step hsl.2.1 (show i < n by omega)
          obtain ⟨x',hx',h1'⟩ := DT.depL_step hsl'.2.1 (show i < n by omega)
          rw [h1,h1',ihi (by omega)]
          have hlt : i * 12 + 10 < cs.length := by rw [hn,hsl.2.1]; omega
          have hlt' : i * 12 + 10 < cs'.length := by rw [hn',hsl'.2.1]; omega
          have e1 := hc _ _ (List.getElem?_eq_getElem hlt)
          have e2 := hc' _ _ (List.getElem?_eq_getElem hlt')
          have e3 : cs[i * 12 + 10] = cs'[i * 12 + 10] := by
           rw [e1] at e2
           injection e2
          have r1 := h _ _ _ (List.getElem?_eq_getElem hlt) hx
          have r2 := h' _ _ _ (List.getElem?_eq_getElem hlt') hx'
          rw [← e3] at r2
          rw [ih A A' w _ x x' (hsz x (List.mem_of_getElem? hx)) r1 r2 (DT.okE_get ho hx) (DT.okE_get ho' hx')]
       have := hst n (Nat.le_refl n)
       rw [List.take_of_length_le (by rw [hsl.2.1]; omega),List.take_of_length_le (by rw [hsl'.2.1]; omega)] at this
       exact this
theorem rep_dep {A A' : Nat → Prop} {w : World} {v : Value} {d d' : DT} (h : Rep A w v d) (h' : Rep A' w v d') (ho : d.okE = true) (ho' : d'.okE = true) : d.dep = d'.dep := repdep_aux _ A A' w v d d' (Nat.le_refl _) h h' ho ho'
structure El (M : Nat) (w : World) (a : Addr) (d : DT) : Prop where
 ex : ∃ z,a.spot = none ∧ a.block ≠ M ∧ w.cell? ⟨a.block,a.off + 10,none⟩ = some z ∧ Rep (fun g => g ≠ M) w z d
 ok : d.okE = true
 pl : Plainly w a
theorem El.dep {M : Nat} {w : World} {a : Addr} {d d' : DT} (h : El M w a d) (h' : El M w a d') : d.dep = d'.dep := by
 obtain ⟨z,_,_,h1,h2⟩ := h.ex
 obtain ⟨z',_,_,h1',h2'⟩ := h'.ex
 rw [h1] at h1'
 injection h1' with e
 subst e
 exact rep_dep h2 h2' h.ok h'.ok
def okV (R : Nat) (v : Int) (d : DT) : Prop := (min (1 + d.dep) 1000 : Nat) ≤ v ∧ v ≤ 1000 ∧ (v ≤ (1 + d.dep : Nat) ∨ 1000 ≤ R)
theorem okV.eq {R : Nat} {v : Int} {d d' : DT} (h : okV R v d) (e : d.dep = d'.dep) : okV R v d' := by
 unfold okV at h ⊢
 rw [← e]
 exact h
theorem okV.root {v : Int} {d : DT} (h : okV (1 + d.dep) v d) : v = (min (1 + d.dep) 1000 : Nat) := by
 obtain ⟨h1,h2,h3⟩ := h
 rcases h3 with h3 | h3 <;> omega
def Inv (M : Nat) (w : World) (R : Nat) (m : Addr → Option Int) (B : Nat) : Prop := ∀ a v d,m a = some v → El M w a d → 1 + d.dep < B → okV R v d
def New (M : Nat) (w : World) (R : Nat) (m m' : Addr → Option Int) : Prop := ∀ a v,m' a = some v → m a = some v ∨ ∀ d,El M w a d → okV R v d
theorem New.refl (M : Nat) (w : World) (R : Nat) (m : Addr → Option Int) : New M w R m m := fun a v h => .inl h
theorem New.trans {M : Nat} {w : World} {R : Nat} {m m1 m2 : Addr → Option Int} (h : New M w R m m1) (k : New M w R m1 m2) : New M w R m m2 := fun a v q => (k a v q).elim (fun q => h a v q) .inr
abbrev putM (m : Addr → Option Int) (a : Addr) (n : Int) : Addr → Option Int := fun c => if c = a then some n else m c
theorem Inv.child {M : Nat} {w : World} {R : Nat} {m mi : Addr → Option Int} {a : Addr} {d e : DT} {n : Int} (h : Inv M w R m (1 + d.dep + 1)) (ha : El M w a d) (k : New M w R (putM m a n) mi) (hl : 1 + e.dep < 1 + d.dep) : Inv M w R mi (1 + e.dep + 1) := by
 intro b v f hb hf hlt
 rcases k b v hb with q | q
 · by_cases hba : b = a
   · subst hba
     have := hf.dep ha
     omega
   · simp only [putM,hba,if_false] at q
     exact h b v f q hf (by omega)
 · exact q f hf
theorem New.end {M : Nat} {w : World} {R : Nat} {m mi : Addr → Option Int} {a : Addr} {d : DT} {n r : Int} (ha : El M w a d) (k : New M w R (putM m a n) mi) (hr : okV R r d) : New M w R m (putM mi a r) := by
 intro b v hb
 by_cases hba : b = a
 · subst hba
   simp only [putM,if_true,Option.some.injEq] at hb
   exact .inr (fun f hf => by rw [← hb]; exact hr.eq (ha.dep hf))
 · simp only [putM,hba,if_false] at hb
   rcases k b v hb with q | q
   · simp only [putM,hba,if_false] at q
     exact .inl q
   · exact .inr q
theorem New.one {M : Nat} {w : World} {R : Nat} {m : Addr → Option Int} {a : Addr} {d : DT} {r : Int} (ha : El M w a d) (hr : okV R r d) : New M w R m (putM m a r) := (New.refl M w R (putM m a r)).end ha hr |> fun h => by
 intro b v hb
 by_cases hba : b = a
 · subst hba
   simp only [putM,if_true,Option.some.injEq] at hb
   exact .inr (fun f hf => by rw [← hb]; exact hr.eq (ha.dep hf))
 · simp only [putM,hba,if_false] at hb
   exact .inl hb
theorem El.arg {M : Nat} {w : World} {a : Addr} {n i : Nat} {l : List DT} {e : DT} (h : El M w a (.sl n l)) (hi : i < n) (he : l[i * 12 + 10]? = some e) :
 ∃ g o c,w.cell? ⟨a.block,a.off + 10,none⟩ = some (.slice (some ⟨g,o,none⟩) n c) ∧ El M w ⟨g,o + i * 12,none⟩ e ∧ 1 + e.dep < 1 + (DT.sl n l).dep ∧ g < w.heap.size := by
 obtain ⟨z,h0,h1,h2,h3⟩ := h.ex
 have hsl := DT.okE_sl h.ok
 cases h3 with
 | nil => omega
 | sl g o k cap cs l hA hg hz hn hc hr =>
   have hlt : i * 12 + 10 < cs.length := by rw [hn,hsl.2.1]; omega
   refine ⟨g,o,cap,h2,⟨⟨cs[i * 12 + 10],rfl,hA, ?_,hr _ _ _ (List.getElem?_eq_getElem hlt) he⟩,DT.okE_get h.ok he,hz⟩, ?_,hg⟩
   · have := hc _ _ (List.getElem?_eq_getElem hlt)
     rw [show o + i * 12 + 10 = o + (i * 12 + 10) by omega]
     exact this
   · have hdep : (DT.sl n l).dep = DT.depL 0 l := by simp only [DT.dep]
     obtain ⟨e',he',hst⟩ := DT.depL_step hsl.2.1 hi
     rw [he] at he'
     injection he' with q
     subst q
     have hm : DT.depL 0 (l.take (12 * (i + 1))) ≤ DT.depL 0 l := by
      have := DT.depL_app (l.take (12 * (i + 1))) (l.drop (12 * (i + 1))) 0
      rw [List.take_append_drop] at this
      omega
     omega
theorem El.slice {M : Nat} {w : World} {a : Addr} {n : Nat} {l : List DT} (h : El M w a (.sl n l)) : a.spot = none ∧ a.block ≠ M ∧ ∃ p c,w.cell? ⟨a.block,a.off + 10,none⟩ = some (.slice p n c) := by
 obtain ⟨z,h0,h1,h2,h3⟩ := h.ex
 obtain ⟨p,c,rfl⟩ := h3.slice
 exact ⟨h0,h1,p,c,h2⟩
theorem El.kept {M : Nat} {w w' : World} {a : Addr} {d : DT} (h : El M w a d) (k : Kept (On M) w w') : El M w' a d := by
 obtain ⟨z,h0,h1,h2,h3⟩ := h.ex
 exact ⟨⟨z,h0,h1,k.cell h2 h1,h3.mono k.size (fun g a hg => ⟨a,k.block g hg a⟩)⟩,h.ok,h.pl.kept k h1⟩
theorem u65 : Tryz.prog.underlying 65 = some (.map 67 3) := by kernel_rfl
theorem u67 : Tryz.prog.underlying 67 = some (.pointer 27) := by kernel_rfl
theorem i27 : ∃ j,Tryz.prog.info? 27 = some j ∧ j.size ≠ 0 := by
 obtain ⟨j,hj⟩ : ∃ j,Tryz.prog.info? 27 = some j := by
  cases h : Tryz.prog.info? 27 with
  | some j => exact ⟨j,rfl⟩
  | none =>
    have : (Tryz.prog.info? 27).isSome = true := by kernel_rfl
    rw [h] at this; cases this
 refine ⟨j,hj, ?_⟩
 have : (Tryz.prog.info? 27).map (·.size) = some 12 := by kernel_rfl
 rw [hj] at this
 simp at this
 omega
theorem z3 (w : World) : (zeroValue 3).run Tryz.prog w = .ok (.int .i64 0) w := by kernel_rfl
section
variable {w w' : World} {ops : Array Oper} {rest : List Oper} {o : Oper} {a : Act} {Q : Exit → Act → World → Prop}
theorem st_look {ty : TypeId} {x y : Operand} {c : Bool} {X Y v : Value} (hr : (Instr.lookup ty X Y c).run Tryz.prog w = .ok v w) (h : wpList Tryz.prog ops Q rest (a.put o.dst v) w)
 (hgd : o.guard = none := by rfl) (ho : o.op = .lookup ty x y c := by rfl) (hx : a.eval x = X := by rfl) (hy : a.eval y = Y := by rfl) : wpList Tryz.prog ops Q (o :: rest) a w :=
 wpList_plain hgd fun _ hK => by
  unfold Oper.wp execOp
  simp only [ho,hx,hy,Sem.run_bind,Sem.run_pure,Result.andThen_ok,hr]
  exact hK _ _ h
theorem st_upd {ty : TypeId} {x y z : Operand} {X Y Z : Value} (hr : (Instr.mapUpdate ty X Y Z).run Tryz.prog w = .ok () w') (h : wpList Tryz.prog ops Q rest (a.put o.dst undef) w')
 (hgd : o.guard = none := by rfl) (ho : o.op = .mapUpdate ty x y z := by rfl) (hx : a.eval x = X := by rfl) (hy : a.eval y = Y := by rfl) (hz : a.eval z = Z := by rfl) : wpList Tryz.prog ops Q (o :: rest) a w :=
 wpList_plain hgd fun _ hK => by
  unfold Oper.wp execOp
  simp only [ho,hx,hy,hz,Sem.run_bind,Sem.run_pure,Result.andThen_ok,hr]
  exact hK _ _ h
end
theorem st_mkm {w : World} {ops : Array Oper} {rest : List Oper} {o : Oper} {a : Act} {Q : Exit → Act → World → Prop} {ty : TypeId} (h : wpList Tryz.prog ops Q rest (a.put o.dst (.map (some w.heap.size))) (w.alloc (.map #[] 0)))
 (hgd : o.guard = none := by rfl) (ho : o.op = .makeMap ty none := by rfl) : wpList Tryz.prog ops Q (o :: rest) a w :=
 wpList_plain hgd fun _ hK => by
  unfold Oper.wp execOp
  simp only [ho,Sem.run_bind,Sem.run_pure]
  exact hK _ _ h
theorem MpAt.look2 {w : World} {b : Nat} {m : Addr → Option Int} (h : MpAt w b m) (a : Addr) (ha : Plainly w a) :
 (Instr.lookup 65 (.map (some b)) (.pointer (some a)) true).run Tryz.prog w = .ok (.tuple #[.int .i64 ((m a).getD 0),.bool (m a).isSome]) w := by
 obtain ⟨j,h1,h2⟩ := i27
 exact h.look u65 u67 h1 h2 (z3 w) a ha
theorem MpAt.look1 {w : World} {b : Nat} {m : Addr → Option Int} (h : MpAt w b m) (a : Addr) (ha : Plainly w a) :
 (Instr.lookup 65 (.map (some b)) (.pointer (some a)) false).run Tryz.prog w = .ok (.int .i64 ((m a).getD 0)) w := by
 obtain ⟨j,h1,h2⟩ := i27
 exact h.look_one u65 u67 h1 h2 (z3 w) a ha
theorem MpAt.put2 {w : World} {b : Nat} {m : Addr → Option Int} (h : MpAt w b m) (a : Addr) (ha : Plainly w a) (n : Int) :
 ∃ w',(Instr.mapUpdate 65 (.map (some b)) (.pointer (some a)) (.int .i64 n)).run Tryz.prog w = .ok () w' ∧ MpAt w' b (putM m a n) ∧ Kept (On b) w w' ∧ w'.heap.size = w.heap.size := by
 obtain ⟨j,h1,h2⟩ := i27
 exact h.put u65 u67 h1 h2 a ha n
def OfPost (M R : Nat) (w0 : World) (d : DT) (m : Addr → Option Int) (e : Ending) (w' : World) : Prop := ∃ (v : Int) (m' : Addr → Option Int),e = .returned (.int .i64 v) ∧ okV R v d ∧ Kept (On M) w0 w' ∧ MpAt w' M m' ∧ New M w0 R m m'
set_option maxHeartbeats 4000000 in
theorem of_is (M R : Nat) (w0 : World) : ∀ (N : Nat) (d : DT),d.dep ≤ N → ∀ (g o : Nat) (m : Addr → Option Int) (w : World) (k : Nat) (K : Int),K = (k : Int) → El M w0 ⟨g,o,none⟩ d → Kept (On M) w0 w → MpAt w M m → 1 ≤ k → k ≤ 1000 → k + d.dep ≤ R → Inv M w0 R m (1 + d.dep + 1) →
 Calls Tryz.prog 20 #[.map (some M),.pointer (some ⟨g,o,none⟩),.int .i64 K] w (OfPost M R w0 d m) := by
 intro N
 induction N with
 | zero =>
   intro d hd g o m w k K hK hE hk hm h1 h2 h3 hi
   obtain ⟨n,l,rfl,hdep⟩ := DT.okE_is hE.ok
   have hn : n = 0 := by
    rcases Nat.eq_zero_or_pos n with q | q
    · exact q
    · obtain ⟨e,he,_⟩ := DT.depL_step (DT.okE_sl hE.ok).2.1 q
      obtain ⟨_,_,_,_,_,hlt,_⟩ := hE.arg q he
      omega
   subst hn
   obtain ⟨_,hM,p,c,hc⟩ := hE.slice
   have L24 : Hid ((loadVar 24 ⟨g,o + 10,none⟩).run Tryz.prog w = .ok (.slice p 0 c) w) := lv24 (hk.cell hc hM)
   have HE : Hid (Kept (On M) w0 w ∧ MpAt w M m ∧ okV R 1 (.sl 0 l)) := ⟨hk,hm,by unfold okV; omega⟩
   clear hE hk hm hi hc hdep hd
   go_enter Tryz.func20,Tryz.ntmps20
   go_wp2_with (first | (refine st_ld L24.out ?_))
   go_ret
   exact ⟨1,m,rfl,HE.out.2.2,HE.out.1,HE.out.2.1,New.refl _ _ _ _⟩
 | succ N ih =>
   intro d hd g o m w k K hK hE hk hm h1 h2 h3 hi
   obtain ⟨n,l,rfl,hdep⟩ := DT.okE_is hE.ok
   obtain ⟨_,hM,p,c,hc⟩ := hE.slice
   have hsl := DT.okE_sl hE.ok
   have L24 : Hid (∀ W,Kept (On M) w0 W → (loadVar 24 ⟨g,o + 10,none⟩).run Tryz.prog W = .ok (.slice p n c) W) := fun W kW => lv24 (kW.cell hc hM)
   have IH : Hid (∀ (d : DT),d.dep ≤ N → ∀ (g o : Nat) (m : Addr → Option Int) (w : World) (k : Nat) (K : Int),K = (k : Int) → El M w0 ⟨g,o,none⟩ d → Kept (On M) w0 w → MpAt w M m → 1 ≤ k → k ≤ 1000 → k + d.dep ≤ R → Inv M w0 R m (1 + d.dep + 1) →
    Calls Tryz.prog 20 #[.map (some M),.pointer (some ⟨g,o,none⟩),.int .i64 K] w (OfPost M R w0 d m)) := ih
   have HE : Hid (El M w0 ⟨g,o,none⟩ (.sl n l)) := hE
   have HI : Hid (Inv M w0 R m (1 + (DT.sl n l).dep + 1)) := hi
   have HD : Hid ((DT.sl n l).dep = DT.depL 0 l ∧ (DT.sl n l).dep ≤ N + 1 ∧ k + (DT.sl n l).dep ≤ R ∧ l.length = n * 12) := ⟨hdep,hd,h3,hsl.2.1⟩
   have HKk : Hid (K = (k : Int) ∧ 1 ≤ k ∧ k ≤ 1000) := ⟨hK,h1,h2⟩
   have HK0 : Hid (Kept (On M) w0 w) := hk
   have HM0 : Hid (MpAt w M m) := hm
   have hnb : (n : Int) ≤ 9223372036854775807 := by have := hsl.1; omega
   have hk1 : 1 ≤ K := by omega
   have hk2 : K ≤ 1000 := by omega
   have HP : Hid (∀ W,Kept (On M) w0 W → Plainly W ⟨g,o,none⟩) := fun W kW => hE.pl.kept kW hM
   clear ih hE hi hd hdep h3 hsl hK h1 h2 hk hm hc
   by_cases hn : n = 0
   · subst hn
     have hl : l = [] := List.eq_nil_of_length_eq_zero (by have := HD.out.2.2.2; omega)
     have HV : Hid (okV R 1 (.sl 0 l)) := by
      have h1 := HD.out.1
      rw [hl,DT.depL_nil] at h1
      unfold Hid okV
      rw [hl,h1]
      omega
     have LL : Hid ((loadVar 24 ⟨g,o + 10,none⟩).run Tryz.prog w = .ok (.slice p 0 c) w) := L24.out w HK0.out
     clear hl
     go_enter Tryz.func20,Tryz.ntmps20
     go_wp2_with (first | (refine st_ld LL.out ?_))
     go_ret
     exact ⟨1,m,rfl,HV.out,HK0.out,HM0.out,New.refl _ _ _ _⟩
   · have hn1 : ¬ (n : Int) = 0 := by omega
     have hn2 : (0 : Int) < (n : Int) := by omega
     have LL : Hid ((loadVar 24 ⟨g,o + 10,none⟩).run Tryz.prog w = .ok (.slice p n c) w) := L24.out w HK0.out
     have LK : Hid ((Instr.lookup 65 (.map (some M)) (.pointer (some ⟨g,o,none⟩)) true).run Tryz.prog w = .ok (.tuple #[.int .i64 ((m ⟨g,o,none⟩).getD 0),.bool (m ⟨g,o,none⟩).isSome]) w) := HM0.out.look2 _ (HP.out w HK0.out)
     have hpos : 1 ≤ (DT.sl n l).dep := by
      obtain ⟨e,he,_⟩ := DT.depL_step HD.out.2.2.2 (show 0 < n by omega)
      obtain ⟨_,_,_,_,_,hlt,_⟩ := HE.out.arg (show 0 < n by omega) he
      omega
     have HPOS : Hid (1 ≤ (DT.sl n l).dep) := hpos
     clear hpos
     cases hq : m ⟨g,o,none⟩ with
     | some v =>
       have HV : Hid (okV R v (.sl n l)) := HI.out _ v _ hq HE.out (by omega)
       have LK : Hid ((Instr.lookup 65 (.map (some M)) (.pointer (some ⟨g,o,none⟩)) true).run Tryz.prog w = .ok (.tuple #[.int .i64 v,.bool true]) w) := by have := LK.out; rw [hq] at this; exact this
       clear hq
       go_enter Tryz.func20,Tryz.ntmps20
       go_wp2_with (first | (refine st_ld LL.out ?_) | (refine st_look LK.out ?_))
       go_ret
       exact ⟨v,m,rfl,HV.out,HK0.out,HM0.out,New.refl _ _ _ _⟩
     | none =>
       have LK : Hid ((Instr.lookup 65 (.map (some M)) (.pointer (some ⟨g,o,none⟩)) true).run Tryz.prog w = .ok (.tuple #[.int .i64 0,.bool false]) w) := by have := LK.out; rw [hq] at this; exact this
       clear hq
       obtain ⟨w1,hu1,hm1,hkk1,hs1⟩ := HM0.out.put2 ⟨g,o,none⟩ (HP.out w HK0.out) 1000
       have HU1 : Hid ((Instr.mapUpdate 65 (.map (some M)) (.pointer (some ⟨g,o,none⟩)) (.int .i64 1000)).run Tryz.prog w = .ok () w1) := hu1
       have HM1 : Hid (MpAt w1 M (putM m ⟨g,o,none⟩ 1000)) := hm1
       have HK1 : Hid (Kept (On M) w0 w1) := HK0.out.trans hkk1 (fun i q => .inl q)
       clear hu1 hm1 hkk1 hs1
       by_cases hkm : K = 1000
       · have HV : Hid (okV R 1000 (.sl n l)) := by
          have h1 := HD.out.2.2.1
          have h2 := HKk.out
          have h3 := HPOS.out
          unfold Hid okV
          omega
         go_enter Tryz.func20,Tryz.ntmps20
         go_wp2_with (first | (refine st_ld LL.out ?_) | (refine st_look LK.out ?_) | (refine st_upd HU1.out ?_))
         go_ret
         exact ⟨1000,_,rfl,HV.out,HK1.out,HM1.out,New.one HE.out HV.out⟩
       · have LL1 : Hid ((loadVar 24 ⟨g,o + 10,none⟩).run Tryz.prog w1 = .ok (.slice p n c) w1) := L24.out w1 HK1.out
         go_enter Tryz.func20,Tryz.ntmps20
         go_wp2_with (first | (refine st_ld LL.out ?_) | (refine st_look LK.out ?_) | (refine st_upd HU1.out ?_) | (refine st_ld LL1.out ?_))
         go_loopg [9,34] n (fun (gk : Nat) (v9 v34 : Value) (wr : World) => ∃ (i : Nat) (V : Int) (mi : Addr → Option Int),v9 = .int .i64 V ∧ v34 = .int .i64 (i : Int) ∧ 0 ≤ V ∧ V ≤ 1000 ∧ Hid (i + gk = n) ∧ Hid ((min (DT.depL 0 (l.take (12 * i))) 1000 : Nat) ≤ V ∧ (V ≤ (DT.depL 0 (l.take (12 * i)) : Nat) ∨ 1000 ≤ R)) ∧ Hid (Kept (On M) w0 wr) ∧ Hid (MpAt wr M mi) ∧ Hid (New M w0 R (putM m ⟨g,o,none⟩ 1000) mi))
         case atStart => exact ⟨0,0,_,rfl,rfl,by omega,by omega,Nat.zero_add _,(by unfold Hid; simp [DT.depL_nil]),HK1,HM1,New.refl _ _ _ _⟩
         case round =>
          obtain ⟨i,V,mi,rfl,rfl,hV1,hV2,HIg,HV,HK,HM,HN⟩ := hrel
          by_cases hi : i < n
          · have hii : (i : Int) < (n : Int) := by omega
            obtain ⟨gk,rfl⟩ : ∃ g,gk = g + 1 := ⟨gk - 1,by have := HIg.out; omega⟩
            obtain ⟨e,he,hst⟩ := DT.depL_step HD.out.2.2.2 hi
            obtain ⟨g2,o2,c2,hc2,hE2,hlt,hg2⟩ := HE.out.arg hi he
            have LLr : Hid ((loadVar 24 ⟨g,o + 10,none⟩).run Tryz.prog wr = .ok (.slice (some ⟨g2,o2,none⟩) n c2) wr) := lv24 (HK.out.cell hc2 HE.out.slice.2.1)
            have HST : Hid (DT.depL 0 (l.take (12 * (i + 1))) = max (DT.depL 0 (l.take (12 * i))) (1 + e.dep) ∧ 1 + e.dep < 1 + (DT.sl n l).dep) := ⟨hst,hlt⟩
            have HC : Hid (Calls Tryz.prog 20 #[.map (some M),.pointer (some ⟨g2,o2 + i * 12,none⟩),.int .i64 (K + 1)] wr (OfPost M R w0 e mi)) :=
             IH.out e (by have := HD.out.2.1; omega) g2 (o2 + i * 12) mi wr (k + 1) (K + 1) (by have := HKk.out.1; omega) hE2 HK.out HM.out (by omega) (by have := HKk.out; omega) (by have := HD.out.2.2.1; omega) (HI.out.child HE.out HN.out hlt)
            clear he hst hc2 hE2 hlt hg2 hi
            go_wp2_with (first | (refine st_ld LLr.out ?_))
            refine Calls.mono HC.out ?_; rintro e' w2 ⟨v,m2,rfl,hv,k2,hm2,hn2⟩
            have hv0 : 0 ≤ v ∧ v ≤ 1000 := by unfold okV at hv; omega
            have HV2 : Hid (okV R v e) := hv
            have HK2 : Hid (Kept (On M) w0 w2) := k2
            have HM2 : Hid (MpAt w2 M m2) := hm2
            have HN2 : Hid (New M w0 R (putM m ⟨g,o,none⟩ 1000) m2) := HN.out.trans hn2
            clear hv k2 hm2 hn2 HC HK HM HN
            obtain ⟨hv1,hv2⟩ := hv0
            go_wp2_with fail
            go_roundg gk
            case measure => omega
            case rel =>
             refine ⟨i + 1,max V v,m2, ?_,by simp,by omega,by omega,by show i + 1 + gk = n; have := HIg.out; omega, ?_,HK2,HM2,HN2⟩
             · first | rfl | (congr 1; omega)
             · have h1 := HV.out
               have h2 := HV2.out
               unfold okV at h2
               have h3 := HST.out.1
               unfold Hid
               rw [h3]
               omega
          · have hii : ¬ (i : Int) < (n : Int) := by omega
            have htk : l.take (12 * i) = l := List.take_of_length_le (by rw [HD.out.2.2.2]; omega)
            obtain ⟨r,hr⟩ : ∃ r : Int,r = min (V + 1) 1000 := ⟨_,rfl⟩
            have HVr : Hid (okV R r (.sl n l)) := by
             have h1 := HV.out
             rw [htk] at h1
             have h2 := HD.out.1
             unfold Hid okV
             rw [hr,h2]
             omega
            obtain ⟨w3,hu3,hm3,hk3,_⟩ := HM.out.put2 ⟨g,o,none⟩ (HP.out wr HK.out) r
            have HU3 : Hid ((Instr.mapUpdate 65 (.map (some M)) (.pointer (some ⟨g,o,none⟩)) (.int .i64 r)).run Tryz.prog wr = .ok () w3) := hu3
            have HK3 : Hid (Kept (On M) w0 w3) := HK.out.trans hk3 (fun i q => .inl q)
            have HM3 : Hid (MpAt w3 M (putM mi ⟨g,o,none⟩ r)) := hm3
            have LK3 : Hid ((Instr.lookup 65 (.map (some M)) (.pointer (some ⟨g,o,none⟩)) false).run Tryz.prog w3 = .ok (.int .i64 r) w3) := by
             have := hm3.look1 ⟨g,o,none⟩ (HP.out w3 HK3.out)
             simp only [putM,if_true,Option.getD_some] at this
             exact this
            clear hu3 hm3 hk3 htk
            have HRR : Hid (r = min (V + 1) 1000) := hr
            clear hr
            go_wp2_with (first | (refine st_upd HU3.out ?_ (hz := by first | rfl | (rw [HRR.out]; rfl))) | (refine st_look LK3.out ?_))
            go_ret
            exact ⟨r,_,rfl,HVr.out,HK3.out,HM3.out,New.end HE.out HN.out HVr.out⟩
set_option maxHeartbeats 2000000 in
theorem deep_is (A : Nat → Prop) (w : World) (y0 y1 y2 y3 y4 y5 y6 y7 y8 y9 y10 y11 : Value) (d : DT) (hr : Rep A w y10 d) (hok : d.okE = true) :
 Calls Tryz.prog 9 #[.agg #[y0,y1,y2,y3,y4,y5,y6,y7,y8,y9,y10,y11]] w fun e w' => e = .returned (.int .i64 ((min (1 + d.dep) 1000 : Nat) : Int)) ∧ Kept (fun _ => False) w w' := by
 obtain ⟨w1,hw1⟩ : ∃ w1,w1 = w.alloc (.cells #[y0,y1,y2,y3,y4,y5,y6,y7,y8,y9,y10,y11] 27) := ⟨_,rfl⟩
 have hb : w1.heap[w.heap.size]? = some (.cells #[y0,y1,y2,y3,y4,y5,y6,y7,y8,y9,y10,y11] 27 (0,0)) := by rw [hw1]; exact heap_alloc_new w _
 have hk1 : Kept (fun _ => False) w w1 := by rw [hw1]; exact (Kept.refl _ w).alloc _
 have hs1 : w1.heap.size = w.heap.size + 1 := by rw [hw1]; exact Array.size_push _
 obtain ⟨w2,hw2⟩ : ∃ w2,w2 = w1.alloc (.map #[] 0) := ⟨_,rfl⟩
 have hk2 : Kept (fun _ => False) w1 w2 := by rw [hw2]; exact (Kept.refl _ w1).alloc _
 have hm2 : MpAt w2 w1.heap.size (fun _ => none) := by rw [hw2]; exact MpAt.new w1
 have hb2 : w2.heap[w.heap.size]? = some (.cells #[y0,y1,y2,y3,y4,y5,y6,y7,y8,y9,y10,y11] 27 (0,0)) := (hk2.block _ (by omega) (fun z => z)).trans hb
 have hE : El w1.heap.size w2 ⟨w.heap.size,0,none⟩ d := by
  refine ⟨⟨y10,rfl, ?_, ?_, ?_⟩,hok,⟨_,_,hb2⟩⟩
  · show w.heap.size ≠ w1.heap.size
    omega
  · exact (cell_of_row w2 _ 10 _ 27 (0,0) hb2).trans rfl
  · exact (hr.mono (w' := w2) (A' := fun g => g < w.heap.size) (by have := hk1.size; have := hk2.size; omega) (fun g a hg => ⟨hg,(hk2.block g (by omega) (fun z => z)).trans (hk1.block g hg (fun z => z))⟩)).mono (Nat.le_refl _) (fun g a hg => ⟨fun e => by omega,rfl⟩)
 have HC : Hid (Calls Tryz.prog 20 #[.map (some w1.heap.size),.pointer (some ⟨w.heap.size,0,none⟩),.int .i64 1] w2 (OfPost w1.heap.size (1 + d.dep) w2 d (fun _ => none))) :=
  of_is w1.heap.size (1 + d.dep) w2 d.dep d (Nat.le_refl _) w.heap.size 0 _ w2 1 1 rfl hE (Kept.refl _ _) hm2 (Nat.le_refl _) (by omega) (Nat.le_refl _) (fun a v f q => by cases q)
 have H1 : Hid (w1 = w.alloc (.cells #[y0,y1,y2,y3,y4,y5,y6,y7,y8,y9,y10,y11] 27)) := hw1
 have H2 : Hid (w2 = w1.alloc (.map #[] 0)) := hw2
 have HK : Hid (Kept (fun _ => False) w w2 ∧ w.heap.size ≤ w1.heap.size) := ⟨hk1.trans hk2 (fun i q => .inl q),by omega⟩
 clear hw1 hb hk1 hs1 hw2 hk2 hm2 hb2 hE hr hok
 go_enter Tryz.func9,Tryz.ntmps9
 go_wp2_with (first | (rw [← H1.out]; refine st_mkm ?_; rw [← H2.out]) | (refine st_mkm ?_; rw [← H2.out]))
 refine Calls.mono HC.out ?_; rintro e w3 ⟨v,m',rfl,hv,k3,_,_⟩
 have HV : Hid (v = (min (1 + d.dep) 1000 : Nat)) := hv.root
 have HK3 : Hid (Kept (fun _ => False) w w3) := ⟨k3.os.trans HK.out.1.os,k3.tape.trans HK.out.1.tape,k3.output.trans HK.out.1.output,Nat.le_trans HK.out.1.size k3.size,fun i hi hn => (k3.block i (Nat.lt_of_lt_of_le hi HK.out.1.size) (fun q => by have q' : i = w1.heap.size := q; have := HK.out.2; omega)).trans (HK.out.1.block i hi hn)⟩
 clear hv k3 HC
 go_wp2_with fail
 go_ret
 refine ⟨?_,HK3.out⟩
 rw [← HV.out]
 rfl
theorem deep_c : DeepC := by
 intro x p c q d A w hok h1 h2
 refine (deep_is A w _ _ _ _ _ _ _ _ _ _ _ _ _ h1 hok).mono ?_
 rintro e w' ⟨rfl,k⟩
 refine ⟨⟨_,rfl, ?_⟩,k⟩
 have : x.deep = 1 + x.ar.dt.dep := by unfold X.deep Sl.dt; simp only [DT.dep]
 omega
theorem made_c : MadeC := made_does deep_c
end Go.Proofs.YtlgkghebemfpjaaGreatDoor.Pa
