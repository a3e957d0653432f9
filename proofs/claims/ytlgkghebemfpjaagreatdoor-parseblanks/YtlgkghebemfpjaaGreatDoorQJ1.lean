/- Pieces of choice. joining, join. -/
import Derived.Test.YtlgkghebemfpjaaGreatDoorQS7
import Derived.Test.YtlgkghebemfpjaaGreatDoorQLXs
import Derived.Deep.MidRow
import Derived.Test.YtlgkghebemfpjaaGreatDoorQD1
namespace Go.Proofs.YtlgkghebemfpjaaGreatDoor.Pa
open Go.ChangeShapes Go.WideShapes Go.ChangeAt Go.RowKit
set_option linter.unusedVariables false
set_option maxRecDepth 100000
theorem FR.perm {w0 : World} {F : Nat} {A : Nat → Prop} {bs : List (Nat × TypeId × Array Value)} {ts : List (Value × DT)} {S : PS} {w : World} {bs' : List (Nat × TypeId × Array Value)} (h : FR w0 F A bs ts S w) (p : bs.Perm bs') : FR w0 F A bs' ts S w :=
 h.less (fun x hx => p.symm.subset hx) (fun y hy => hy) ((p.map (fun x : Nat × TypeId × Array Value => x.1)).nodup_iff.1 h.ap)
theorem cut24 {xs : List Value} {n j : Nat} (h : xs.length = n * 24) (hj : j < n) : ∃ y0 y1 y2 y3 y4 y5 y6 y7 y8 y9 y10 y11 y12 y13 y14 y15 y16 y17 y18 y19 y20 y21 y22 y23,xs.take (24 * (j + 1)) = xs.take (24 * j) ++ [y0,y1,y2,y3,y4,y5,y6,y7,y8,y9,y10,y11,y12,y13,y14,y15,y16,y17,y18,y19,y20,y21,y22,y23] ∧ ∀ k u, [y0,y1,y2,y3,y4,y5,y6,y7,y8,y9,y10,y11,y12,y13,y14,y15,y16,y17,y18,y19,y20,y21,y22,y23][k]? = some u → xs[j * 24 + k]? = some u := by
 have hl : ((xs.drop (24 * j)).take 24).length = 24 := by
  rw [List.length_take,List.length_drop]
  omega
 have h1 : xs.take (24 * (j + 1)) = xs.take (24 * j) ++ (xs.drop (24 * j)).take 24 := by
  rw [Nat.mul_succ,List.take_add]
 have h2 : ∀ k u,((xs.drop (24 * j)).take 24)[k]? = some u → xs[j * 24 + k]? = some u := by
  intro k u q
  rw [List.getElem?_take] at q
  split at q
  · rw [List.getElem?_drop] at q
    rw [Nat.mul_comm j 24]
    exact q
  · cases q
 match hz : (xs.drop (24 * j)).take 24,hl with
 | [y0,y1,y2,y3,y4,y5,y6,y7,y8,y9,y10,y11,y12,y13,y14,y15,y16,y17,y18,y19,y20,y21,y22,y23],_ =>
   rw [hz] at h1 h2
   exact ⟨y0,y1,y2,y3,y4,y5,y6,y7,y8,y9,y10,y11,y12,y13,y14,y15,y16,y17,y18,y19,y20,y21,y22,y23,h1,h2⟩
theorem bs24w (y0 y1 y2 y3 y4 y5 y6 y7 y8 y9 y10 y11 y12 y13 y14 y15 y16 y17 y18 y19 y20 y21 y22 y23 : Value) (w : World) : (Instr.buildSlice 24 2 #[(0,.agg #[y0,y1,y2,y3,y4,y5,y6,y7,y8,y9,y10,y11]),(1,.agg #[y12,y13,y14,y15,y16,y17,y18,y19,y20,y21,y22,y23])]).run Tryz.prog w = .ok (.slice (some ⟨w.heap.size,0,none⟩) 2 2) (w.alloc (.cells #[y0,y1,y2,y3,y4,y5,y6,y7,y8,y9,y10,y11,y12,y13,y14,y15,y16,y17,y18,y19,y20,y21,y22,y23] 27)) := by
 simp [go_sem]
theorem FR.append0 {w0 : World} {F : Nat} {A : Nat → Prop} {bs : List (Nat × TypeId × Array Value)} {ts : List (Value × DT)} {S : PS} {w : World} {sz by' : Nat} {t ty st : TypeId} (h : FR w0 F A bs ts S w) (i : TypeInfo) (z : Value) (ht : Tryz.prog.underlying st = some (.slice t)) (hi : Tryz.prog.info? t = some i) (hz : i.zero = some z)
 (hsize : i.size = sz) (hby : i.bytes = by') (hzs : z.cells.size = sz) (b m c : Nat) (o' : Nat) (news : List Value) (hl : news.length = m * sz) (hnews : ∀ j u,news[j]? = some u → w.cell? ⟨b,o' + j,none⟩ = some u) (h0 : 0 < m)
 (h63 : m ≤ maxLen) (hbytes : m * by' ≤ 140737488355328) :
 ∃ g' cap' cur' w',(Builtin.append_ #[st,st] ty #[.slice none 0 0,.slice (some ⟨b,o',none⟩) m c]).run Tryz.prog w = .ok (.slice (some ⟨g',0,none⟩) m cap') w' ∧ FR w0 F A ((g',t,cur') :: bs) ts S w' ∧ Own sz g' m cap' cur' news := by
 subst hsize
 subst hby
 have hnw : ∀ j u,news[j]? = some u → w.cell? ((⟨b,o',none⟩ : Addr).add j) = some u := fun j u q => by rw [Go.WideShapes.add_plain]; exact hnews j u q
 have hsmall : m ≤ 9223372036854775807 := by simp only [maxLen] at h63; omega
 have hr := run_append_nil (P := Tryz.prog) (w := w) st ty t i z ht hi hz ⟨b,o',none⟩ m c news hl hnw h0 (by omega) (by omega)
 have hge := grownCap_ge w m 0 t
 have hcm := grownCap_le_maxLen w m 0 t h63
 refine ⟨w.heap.size,_,_,_,hr,h.drew.alloc _ t,⟨hge,hcm, ?_, ?_,hl⟩⟩
 · simp only [Array.size_append,List.size_toArray,size_zeroCells,hzs,hl, ← Nat.add_mul]
   congr 1
   omega
 · simp only [Array.toList_append]
   rw [← hl]
   exact List.take_left
theorem app2 {w0 : World} {F : Nat} {A : Nat → Prop} {bs : List (Nat × TypeId × Array Value)} {ts : List (Value × DT)} {S : PS} {w : World} {g k cap b : Nat} {cur : Array Value} {xs news : List Value} (h : FR w0 F A ((b,27,news.toArray) :: (g,27,cur) :: bs) ts S w) (o : Own 12 g k cap cur xs) (hk : k ≤ 400000) (hn : news.length = 24) (h1 : ∀ u ∈ news,u.oneCell' = true) :
 ∃ g' cap' cur' w',(Builtin.append_ #[24,24] 24 #[.slice (some ⟨g,0,none⟩) k cap,.slice (some ⟨b,0,none⟩) 2 2]).run Tryz.prog w = .ok (.slice (some ⟨g',0,none⟩) (k + 2) cap') w' ∧ FR w0 F A ((g',27,cur') :: bs) ts S w' ∧ Own 12 g' (k + 2) cap' cur' (xs ++ news) := by
 obtain ⟨i,hi,hz,h2,h3⟩ := info_of inf27
 obtain ⟨g',cap',cur',w',e1,e2,e3,_⟩ := FR.append (ty := 24) h.tl o i _ Tryz.underlying24 hi hz h2 h3 rfl b 2 2 0 news (by rw [hn]) (fun j u q => by
  rw [Nat.zero_add,h.cell 0 rfl j]
  simpa using q) h1 (by omega) (by unfold maxLen; omega) (by omega)
 exact ⟨g',cap',cur',w',e1,e2,e3⟩
theorem app27w {w0 : World} {F : Nat} {A : Nat → Prop} {bs : List (Nat × TypeId × Array Value)} {ts : List (Value × DT)} {S : PS} {w : World} {g k cap b : Nat} {cur : Array Value} {xs news : List Value} (h : FR w0 F A ((b,27,news.toArray) :: (g,27,cur) :: bs) ts S w) (o : Own 12 g k cap cur xs) (hk : k ≤ 400000) (hn : news.length = 12) (h1 : ∀ u ∈ news,u.oneCell' = true) :
 ∃ g' cap' cur' w',(Builtin.append_ #[24,24] 24 #[.slice (some ⟨g,0,none⟩) k cap,.slice (some ⟨b,0,none⟩) 1 1]).run Tryz.prog w = .ok (.slice (some ⟨g',0,none⟩) (k + 1) cap') w' ∧ FR w0 F A ((g',27,cur') :: bs) ts S w' ∧ Own 12 g' (k + 1) cap' cur' (xs ++ news) ∧ Kept (On g) w w' := by
 obtain ⟨i,hi,hz,h2,h3⟩ := info_of inf27
 exact FR.append (ty := 24) h.tl o i _ Tryz.underlying24 hi hz h2 h3 rfl b 1 1 0 news (by rw [hn]) (fun j u q => by
  rw [Nat.zero_add,h.cell 0 rfl j]
  simpa using q) h1 (by omega) (by unfold maxLen; omega) (by omega)
theorem app20 {w0 : World} {F : Nat} {A : Nat → Prop} {bs : List (Nat × TypeId × Array Value)} {ts : List (Value × DT)} {S : PS} {w : World} {b : Nat} {news : List Value} (h : FR w0 F A ((b,27,news.toArray) :: bs) ts S w) (hn : news.length = 24) :
 ∃ g' cap' cur' w',(Builtin.append_ #[24,24] 24 #[.slice none 0 0,.slice (some ⟨b,0,none⟩) 2 2]).run Tryz.prog w = .ok (.slice (some ⟨g',0,none⟩) 2 cap') w' ∧ FR w0 F A ((g',27,cur') :: bs) ts S w' ∧ Own 12 g' 2 cap' cur' news := by
 obtain ⟨i,hi,hz,h2,h3⟩ := info_of inf27
 exact FR.append0 (ty := 24) h.tl i _ Tryz.underlying24 hi hz h2 h3 rfl b 2 2 0 news (by rw [hn]) (fun j u q => by
  rw [Nat.zero_add]
  rw [h.cell 0 rfl j]
  simpa using q) (by omega) (by unfold maxLen; omega) (by omega)
section
variable {w0 : World} {F : Nat} {A : Nat → Prop} {bs : List (Nat × TypeId × Array Value)} {ts : List (Value × DT)} {S : PS} {w : World}
variable {ops : Array Oper} {rest : List Oper} {o : Oper} {a : Act} {Q : Exit → Act → World → Prop}
theorem wl_mid (HF : Hid (FR w0 F A bs ts S w)) (i : Nat) {b p : Nat} {t : TypeId} {cs : Array Value} {ty : TypeId} {x : Operand} {d : TypeDesc} (ys : List Value) (hu : Tryz.prog.underlying ty = some d) (h : wpList Tryz.prog ops Q rest (a.put o.dst (.agg ys.toArray)) w)
 (hy : ∀ k u,ys[k]? = some u → cs[p + k]? = some u) (hi : bs[i]? = some (b,t,cs)) (hx : a.eval x = .pointer (some ⟨b,p,none⟩)) (hgd : o.guard = none := by rfl) (ho : o.op = .load ty x := by rfl)
 (hd : d.isRow = true := by rfl) (hs : (Tryz.prog.info? ty).map (·.size) = some ys.length := by kernel_rfl) : wpList Tryz.prog ops Q (o :: rest) a w :=
 wpList_plain hgd fun _ hK => wp_load_mid ty x ho b p hx ys d (fun j v q => by rw [HF.out.cell i hi]; exact hy j v q) hu hd hs (hK _ _ h)
theorem wl_rowbox2 (HF : Hid (FR w0 F A bs ts S w)) {ty el : TypeId} {x y : Operand} {cs : Array Value} {v u : Value} (hr : ∀ w : World,(Instr.buildSlice ty 2 #[(0,v),(1,u)]).run Tryz.prog w = .ok (.slice (some ⟨w.heap.size,0,none⟩) 2 2) (w.alloc (.cells cs el)))
 (h : ∀ w' b,FR w0 F A ((b,el,cs) :: bs) ts S w' → wpList Tryz.prog ops Q rest (a.put o.dst (.slice (some ⟨b,0,none⟩) 2 2)) w')
 (hgd : o.guard = none := by rfl) (ho : o.op = .buildSlice ty 2 #[(0,x),(1,y)] := by rfl) (hx : a.eval x = v := by rfl) (hy : a.eval y = u := by rfl) : wpList Tryz.prog ops Q (o :: rest) a w :=
 wpList_plain hgd fun _ hK => by
  unfold Oper.wp execOp
  simp only [ho,hx,hy,List.map_toArray,List.map_cons,List.map_nil,Sem.run_bind,hr,Result.andThen_ok]
  exact hK _ _ (h _ _ (HF.out.alloc cs el))
end
theorem mid12a (y0 y1 y2 y3 y4 y5 y6 y7 y8 y9 y10 y11 y12 y13 y14 y15 y16 y17 y18 y19 y20 y21 y22 y23 : Value) : ∀ k u, [y0,y1,y2,y3,y4,y5,y6,y7,y8,y9,y10,y11][k]? = some u → (#[y0,y1,y2,y3,y4,y5,y6,y7,y8,y9,y10,y11,y12,y13,y14,y15,y16,y17,y18,y19,y20,y21,y22,y23] : Array Value)[0 + k]? = some u := by
 intro k u q
 rw [Nat.zero_add,show (#[y0,y1,y2,y3,y4,y5,y6,y7,y8,y9,y10,y11,y12,y13,y14,y15,y16,y17,y18,y19,y20,y21,y22,y23] : Array Value) = ([y0,y1,y2,y3,y4,y5,y6,y7,y8,y9,y10,y11] ++ [y12,y13,y14,y15,y16,y17,y18,y19,y20,y21,y22,y23]).toArray from rfl,List.getElem?_toArray,List.getElem?_append_left (List.getElem?_eq_some_iff.1 q).1]
 exact q
theorem mid12b (y0 y1 y2 y3 y4 y5 y6 y7 y8 y9 y10 y11 y12 y13 y14 y15 y16 y17 y18 y19 y20 y21 y22 y23 : Value) : ∀ k u, [y12,y13,y14,y15,y16,y17,y18,y19,y20,y21,y22,y23][k]? = some u → (#[y0,y1,y2,y3,y4,y5,y6,y7,y8,y9,y10,y11,y12,y13,y14,y15,y16,y17,y18,y19,y20,y21,y22,y23] : Array Value)[12 + k]? = some u := by
 intro k u q
 rw [show (#[y0,y1,y2,y3,y4,y5,y6,y7,y8,y9,y10,y11,y12,y13,y14,y15,y16,y17,y18,y19,y20,y21,y22,y23] : Array Value) = ([y0,y1,y2,y3,y4,y5,y6,y7,y8,y9,y10,y11] ++ [y12,y13,y14,y15,y16,y17,y18,y19,y20,y21,y22,y23]).toArray from rfl,List.getElem?_toArray,List.getElem?_append_right (Nat.le_add_right 12 k),show 12 + k - [y0,y1,y2,y3,y4,y5,y6,y7,y8,y9,y10,y11].length = k from Nat.add_sub_cancel_left 12 k]
 exact q
theorem joining_does : Does IR 91 (fun F => #[ptr F]) joiningM := by
 intro w F A S hp hA hF hpre hn
 have HF : Hid (FR w F A [] [] S w) := FR.init [] hp hA hF (fun y h => (by cases h))
 obtain ⟨r,hr⟩ : ∃ r,(joiningM) S = r := ⟨_,rfl⟩
 have HR : Hid ((joiningM) S = r) := hr
 rw [hr] at hn ⊢
 have HN : Hid (r ≠ .out) := hn
 clear hp hA hF hr hn
 go_enter Tryz.func91,Tryz.ntmps91
 go_wp2_with fail
 refine DoesI.go (skip_does [85,78,73,79,78]) (HF.out) (trivial) HR.out HN.out ?_ ?_
 · intro a er wN hb hk
   have HB : Hid (r = .bad a er ∧ Kept (On F) w wN) := ⟨hb,hk⟩
   clear hb hk
   go_wp2_with fail
   exact ⟨rfl,out_bad HB.out.1 HB.out.2⟩
 intro x1 S1 v1 w1 hv hk hf
 cases hv
 clear HF HR
 have HF := hidF <| hf
 clear hf
 have HR : Hid (_ = r) := hk
 clear hk
 cases x1 with
 | true =>
   replace HR : Hid ((((skipM [65,76,76]).then fun b => PM.ret (if b then (1 : Int) else 2)) S1) = r) := HR.out
   go_wp2_with fail
   refine DoesI.go (skip_does [65,76,76]) (HF.out) (trivial) HR.out HN.out ?_ ?_
   · intro a er wN hb hk
     have HB : Hid (r = .bad a er ∧ Kept (On F) w wN) := ⟨hb,hk⟩
     clear hb hk
     go_wp2_with fail
     exact ⟨rfl,out_bad HB.out.1 HB.out.2⟩
   intro x2 S2 v2 w2 hv hk hf
   cases hv
   clear HF HR
   have HF := hidF <| hf
   clear hf
   have HR : Hid (_ = r) := hk
   clear hk
   cases x2 with
   | true =>
     replace HR : Hid ((PM.ret (1 : Int) S2) = r) := HR.out
     go_wp2_with fail
     go_ret
     exact out_ok HR.out.symm HF.out rfl
   | false =>
     replace HR : Hid ((PM.ret (2 : Int) S2) = r) := HR.out
     go_wp2_with fail
     go_ret
     exact out_ok HR.out.symm HF.out rfl
 | false =>
   replace HR : Hid ((((skipM [73,78,84,69,82,83,69,67,84]).then fun b => if b then PM.ret (3 : Int) else (skipM [69,88,67,69,80,84]).then fun b => PM.ret (if b then (4 : Int) else 0)) S1) = r) := HR.out
   go_wp2_with fail
   refine DoesI.go (skip_does [73,78,84,69,82,83,69,67,84]) (HF.out) (trivial) HR.out HN.out ?_ ?_
   · intro a er wN hb hk
     have HB : Hid (r = .bad a er ∧ Kept (On F) w wN) := ⟨hb,hk⟩
     clear hb hk
     go_wp2_with fail
     exact ⟨rfl,out_bad HB.out.1 HB.out.2⟩
   intro x2 S2 v2 w2 hv hk hf
   cases hv
   clear HF HR
   have HF := hidF <| hf
   clear hf
   have HR : Hid (_ = r) := hk
   clear hk
   cases x2 with
   | true =>
     replace HR : Hid ((PM.ret (3 : Int) S2) = r) := HR.out
     go_wp2_with fail
     go_ret
     exact out_ok HR.out.symm HF.out rfl
   | false =>
     replace HR : Hid ((((skipM [69,88,67,69,80,84]).then fun b => PM.ret (if b then (4 : Int) else 0)) S2) = r) := HR.out
     go_wp2_with fail
     refine DoesI.go (skip_does [69,88,67,69,80,84]) (HF.out) (trivial) HR.out HN.out ?_ ?_
     · intro a er wN hb hk
       have HB : Hid (r = .bad a er ∧ Kept (On F) w wN) := ⟨hb,hk⟩
       clear hb hk
       go_wp2_with fail
       exact ⟨rfl,out_bad HB.out.1 HB.out.2⟩
     intro x3 S3 v3 w3 hv hk hf
     cases hv
     clear HF HR
     have HF := hidF <| hf
     clear hf
     have HR : Hid (_ = r) := hk
     clear hk
     cases x3 with
     | true =>
       replace HR : Hid ((PM.ret (4 : Int) S3) = r) := HR.out
       go_wp2_with fail
       go_ret
       exact out_ok HR.out.symm HF.out rfl
     | false =>
       replace HR : Hid ((PM.ret (0 : Int) S3) = r) := HR.out
       go_wp2_with fail
       go_ret
       exact out_ok HR.out.symm HF.out rfl
def B2R (A : Nat → Prop) (w : World) (v : Value) (b : Bool × Bool) : Prop := v = .tuple #[.bool b.1,.bool b.2]
theorem join_does : Does B2R 149 (fun F => #[ptr F]) joinM := by
 intro w F A S hp hA hF hpre hn
 have HF : Hid (FR w F A [] [] S w) := FR.init [] hp hA hF (fun y h => (by cases h))
 obtain ⟨r,hr⟩ : ∃ r,(joinM) S = r := ⟨_,rfl⟩
 have HR : Hid ((joinM) S = r) := hr
 rw [hr] at hn ⊢
 have HN : Hid (r ≠ .out) := hn
 clear hp hA hF hr hn
 go_enter Tryz.func149,Tryz.ntmps149
 go_wp2_with fail
 refine DoesI.go (skip_does [76,69,70,84]) (HF.out) (trivial) HR.out HN.out ?_ ?_
 · intro a er wN hb hk
   have HB : Hid (r = .bad a er ∧ Kept (On F) w wN) := ⟨hb,hk⟩
   clear hb hk
   go_wp2_with fail
   exact ⟨rfl,out_bad HB.out.1 HB.out.2⟩
 intro x1 S1 v1 w1 hv hk hf
 cases hv
 clear HF HR
 have HF := hidF <| hf
 clear hf
 have HR : Hid (_ = r) := hk
 clear hk
 cases x1 with
 | true =>
   replace HR : Hid (((needM [74,79,73,78]).then fun _ => PM.ret (true,true)) S1 = r) := HR.out
   go_wp2_with fail
   refine DoesI.go (need_does [74,79,73,78]) (HF.out) (trivial) HR.out HN.out ?_ ?_
   · intro a er wN hb hk
     have HB : Hid (r = .bad a er ∧ Kept (On F) w wN) := ⟨hb,hk⟩
     clear hb hk
     go_wp2_with fail
     exact ⟨rfl,out_bad HB.out.1 HB.out.2⟩
   intro x2 S2 v2 w2 hv hk hf
   cases hv
   clear HF HR
   have HF := hidF <| hf
   clear hf
   have HR : Hid (_ = r) := hk
   clear hk
   replace HR : Hid ((PM.ret (true,true) S2) = r) := HR.out
   go_wp2_with fail
   go_ret2
   exact out_ok HR.out.symm HF.out rfl
 | false =>
   replace HR : Hid ((((skipM [73,78,78,69,82]).then fun b => if b then (needM [74,79,73,78]).then fun _ => PM.ret (false,true) else (skipM [74,79,73,78]).then fun j => PM.ret (false,j)) S1) = r) := HR.out
   go_wp2_with fail
   refine DoesI.go (skip_does [73,78,78,69,82]) (HF.out) (trivial) HR.out HN.out ?_ ?_
   · intro a er wN hb hk
     have HB : Hid (r = .bad a er ∧ Kept (On F) w wN) := ⟨hb,hk⟩
     clear hb hk
     go_wp2_with fail
     exact ⟨rfl,out_bad HB.out.1 HB.out.2⟩
   intro x2 S2 v2 w2 hv hk hf
   cases hv
   clear HF HR
   have HF := hidF <| hf
   clear hf
   have HR : Hid (_ = r) := hk
   clear hk
   cases x2 with
   | true =>
     replace HR : Hid ((((needM [74,79,73,78]).then fun _ => PM.ret (false,true)) S2) = r) := HR.out
     go_wp2_with fail
     refine DoesI.go (need_does [74,79,73,78]) (HF.out) (trivial) HR.out HN.out ?_ ?_
     · intro a er wN hb hk
       have HB : Hid (r = .bad a er ∧ Kept (On F) w wN) := ⟨hb,hk⟩
       clear hb hk
       go_wp2_with fail
       exact ⟨rfl,out_bad HB.out.1 HB.out.2⟩
     intro x3 S3 v3 w3 hv hk hf
     cases hv
     clear HF HR
     have HF := hidF <| hf
     clear hf
     have HR : Hid (_ = r) := hk
     clear hk
     replace HR : Hid ((PM.ret (false,true) S3) = r) := HR.out
     go_wp2_with fail
     go_ret2
     exact out_ok HR.out.symm HF.out rfl
   | false =>
     replace HR : Hid ((((skipM [74,79,73,78]).then fun j => PM.ret (false,j)) S2) = r) := HR.out
     go_wp2_with fail
     refine DoesI.go (skip_does [74,79,73,78]) (HF.out) (trivial) HR.out HN.out ?_ ?_
     · intro a er wN hb hk
       have HB : Hid (r = .bad a er ∧ Kept (On F) w wN) := ⟨hb,hk⟩
       clear hb hk
       go_wp2_with fail
       exact ⟨rfl,out_bad HB.out.1 HB.out.2⟩
     intro x3 S3 v3 w3 hv hk hf
     cases hv
     clear HF HR
     have HF := hidF <| hf
     clear hf
     have HR : Hid (_ = r) := hk
     clear hk
     replace HR : Hid ((PM.ret (false,x3) S3) = r) := HR.out
     go_wp2_with fail
     go_ret2
     exact out_ok HR.out.symm HF.out rfl
end Go.Proofs.YtlgkghebemfpjaaGreatDoor.Pa
