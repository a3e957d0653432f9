/- parse.Expr and parse.Query. What must come, told. What must come, whatever the arguments are. -/
import Derived.Test.YtlgkghebemfpjaaGreatDoorQWo
import Derived.Test.YtlgkghebemfpjaaGreatDoorQMt
import Derived.Test.YtlgkghebemfpjaaGreatDoorQEn
namespace Go.Proofs.YtlgkghebemfpjaaGreatDoor.Pa
open Go.ChangeShapes Go.WideShapes Go.ChangeAt Go.RowKit
set_option linter.unusedVariables false
set_option maxRecDepth 100000
theorem resM {w : World} {b : Nat} {t : TypeId} {z : Array Value} {x y : Value} (h : w.heap[b]? = some (.cells z t (0,0))) {fn : Func} {tmps : Array Value} (hf : fn.results = #[.cell 2 t,.tmp 3,.tmp 4]) (h2 : tmps.getD 2 undef = ptr b) (h3 : tmps.getD 3 undef = x) (h4 : tmps.getD 4 undef = y)
 {d : TypeDesc} (hu : Tryz.prog.underlying t = some d) (hd : rowy d = true) (hs : (Tryz.prog.info? t).map (·.size) = some z.size) : (results fn tmps).run Tryz.prog w = .ok (.tuple #[.agg z,x,y]) w := by
 have l4 : (loadVar t ⟨b,0,none⟩).run Tryz.prog w = .ok (.agg z) w := by
  cases d with
  | struct f => exact run_loadVar_row w b t t z (0,0) _ h hu rfl hs
  | _ => cases hd
 have h2' : tmps[2]?.getD undef = ptr b := by rw [← Array.getD_eq_getD_getElem?]; exact h2
 have h3' : tmps[3]?.getD undef = x := by rw [← Array.getD_eq_getD_getElem?]; exact h3
 have h4' : tmps[4]?.getD undef = y := by rw [← Array.getD_eq_getD_getElem?]; exact h4
 simp only [results,hf]
 simp [h2',h3',h4',asAddr,l4]
def exprW (l : List UInt8) : WR X := wholeM (knotM 5000 5000).1 l
theorem exprW_ne (l : List UInt8) : exprW l ≠ .out := by
 unfold exprW wholeM
 split
 · intro h; cases h
 · rename_i h
   have h0 : (tokV l).2.2 = 0 := by
    by_cases q : (tokV l).2.2 = 0
    · exact q
    · exact absurd q h
   have hs := (sat_knot (f := 5000) (by omega) 5000 4098 (by omega) (by omega)).1 ⟨tks (tokV l).1,0,0⟩ (tok_wf h0) (by have := tok_few l; have e : (tks (tokV l).1).length = (tokV l).1.length := List.length_map _; show (tks (tokV l).1).length ≤ 4098; omega)
   generalize (knotM 5000 5000).1 ⟨tks (tokV l).1,0,0⟩ = r at hs ⊢
   cases r with
   | out => exact hs.elim
   | bad a e => intro q; cases q
   | ok x S =>
     unfold toWR
     simp only
     split <;> (intro q; cases q)
set_option maxHeartbeats 2000000 in
theorem expr_is (s : ByteArray) (w : World) (hG : Glob w) (hT : Lib.Utf8Tabs 2 3 w) : Calls Tryz.prog 8 #[.string s] w (fun e w' => WOut (.agg #[.int .i64 0,.int .i64 0,.int .i64 0,.int .i64 0,.string ⟨#[]⟩,.string ⟨#[]⟩,.string ⟨#[]⟩,.int .i64 0,.bool false,.int .i64 0,.slice none 0 0,.slice none 0 0]) XR w (exprW s.data.toList) e w') := by
 obtain ⟨W1,hW1⟩ : ∃ W1,W1 = w.alloc (.cells #[.int .i64 0,.int .i64 0,.int .i64 0,.int .i64 0,.string ⟨#[]⟩,.string ⟨#[]⟩,.string ⟨#[]⟩,.int .i64 0,.bool false,.int .i64 0,.slice none 0 0,.slice none 0 0] 27) := ⟨_,rfl⟩
 have k1 : Kept (fun _ => False) w W1 := by rw [hW1]; exact (Kept.refl _ _).alloc _
 have s1 : W1.heap.size = w.heap.size + 1 := by rw [hW1]; exact Array.size_push _
 have hb1 : W1.heap[w.heap.size]? = some (.cells #[.int .i64 0,.int .i64 0,.int .i64 0,.int .i64 0,.string ⟨#[]⟩,.string ⟨#[]⟩,.string ⟨#[]⟩,.int .i64 0,.bool false,.int .i64 0,.slice none 0 0,.slice none 0 0] 27 (0,0)) := by rw [hW1]; exact heap_alloc_new w _
 have HC : Hid (Calls Tryz.prog 18 #[.string s,.func (.func 19) #[] #[]] W1 (fun e w' => WOut (.agg #[.int .i64 0,.int .i64 0,.int .i64 0,.int .i64 0,.string ⟨#[]⟩,.string ⟨#[]⟩,.string ⟨#[]⟩,.int .i64 0,.bool false,.int .i64 0,.slice none 0 0,.slice none 0 0]) XR W1 (exprW s.data.toList) e w')) :=
  whole18_is (knotM 5000 5000).1 (knot_does 5000 (by omega) made_c 5000).1 s W1 (hG.next (k1.below (Nat.le_refl _) (fun k q => q.elim))) (tabs_stay hT (k1.block 2 (by have := World.block_lt_of_cell? w _ (hT.1 0 (by omega)); simp at this; omega) (fun z => z)) (k1.block 3 (by have := World.block_lt_of_cell? w _ (hT.2 0 (by omega)).1; simp at this; omega) (fun z => z))) (exprW_ne _)
 have H1 : Hid (W1 = w.alloc (.cells #[.int .i64 0,.int .i64 0,.int .i64 0,.int .i64 0,.string ⟨#[]⟩,.string ⟨#[]⟩,.string ⟨#[]⟩,.int .i64 0,.bool false,.int .i64 0,.slice none 0 0,.slice none 0 0] 27)) := hW1
 have HW : Hid (Kept (fun _ => False) w W1 ∧ W1.heap.size = w.heap.size + 1 ∧ W1.heap[w.heap.size]? = some (.cells #[.int .i64 0,.int .i64 0,.int .i64 0,.int .i64 0,.string ⟨#[]⟩,.string ⟨#[]⟩,.string ⟨#[]⟩,.int .i64 0,.bool false,.int .i64 0,.slice none 0 0,.slice none 0 0] 27 (0,0))) := ⟨k1,s1,hb1⟩
 clear hG hT hW1 k1 s1 hb1
 obtain ⟨r,hr⟩ : ∃ r,r = exprW s.data.toList := ⟨_,rfl⟩
 have HNE : Hid (r ≠ .out) := by rw [hr]; exact exprW_ne _
 rw [← hr] at HC ⊢
 clear hr
 go_enter Tryz.func8,Tryz.ntmps8
 go_wp2_with (first | (refine st_al al27 ?_; rw [← H1.out]))
 refine Calls.mono HC.out ?_; rintro e w2 ⟨k2,hq⟩
 clear HC
 have hb2 := (k2.block _ (by have := HW.out.2.1; omega) (fun z => z)).trans HW.out.2.2
 cases r with
 | out => exact absurd rfl HNE.out
 | no a er =>
   obtain rfl := hq
   obtain ⟨W3,e3,f3,k3,s3⟩ := row_store w2 w.heap.size 27 27 _ #[.int .i64 0,.int .i64 0,.int .i64 0,.int .i64 0,.string ⟨#[]⟩,.string ⟨#[]⟩,.string ⟨#[]⟩,.int .i64 0,.bool false,.int .i64 0,.slice none 0 0,.slice none 0 0] hb2 (by kernel_rfl) rfl (by rfl)
   have E3 : Hid ((storeVar 27 ⟨w.heap.size,0,none⟩ (.agg #[.int .i64 0,.int .i64 0,.int .i64 0,.int .i64 0,.string ⟨#[]⟩,.string ⟨#[]⟩,.string ⟨#[]⟩,.int .i64 0,.bool false,.int .i64 0,.slice none 0 0,.slice none 0 0])).run Tryz.prog w2 = .ok () W3) := e3
   have K3 : Hid (Kept (fun _ => False) w W3 ∧ W3.heap[w.heap.size]? = some (.cells #[.int .i64 0,.int .i64 0,.int .i64 0,.int .i64 0,.string ⟨#[]⟩,.string ⟨#[]⟩,.string ⟨#[]⟩,.int .i64 0,.bool false,.int .i64 0,.slice none 0 0,.slice none 0 0] 27 (0,0))) := ⟨(HW.out.1.trans k2 (fun i q => .inl q)).trans k3 (fun i q => .inr (by have q' : i = w.heap.size := q; omega)),f3⟩
   clear k2 hb2 e3 f3 k3 s3
   go_wp2_with (first | (refine st_sto E3.out ?_))
   refine bodyPost_ret (resM K3.out.2 rfl rfl rfl rfl Tryz.underlying27 rfl (by kernel_rfl)) rfl ?_
   exact ⟨K3.out.1,rfl⟩
 | yes x =>
   obtain ⟨v,rfl,p,c,q,d,rfl,hr1,hr2⟩ := hq
   obtain ⟨W3,e3,f3,k3,s3⟩ := row_store w2 w.heap.size 27 27 _ #[.int .i64 x.k,.int .i64 x.op,.int .i64 x.vk,.int .i64 x.vn,.string ⟨x.vs.toArray⟩,.string ⟨x.tb.toArray⟩,.string ⟨x.nm.toArray⟩,.int .i64 x.col,.bool x.dn,.int .i64 x.a,.slice p x.ar.n c,.slice q x.sb.n d] hb2 (by kernel_rfl) rfl (by rfl)
   have E3 : Hid ((storeVar 27 ⟨w.heap.size,0,none⟩ (.agg #[.int .i64 x.k,.int .i64 x.op,.int .i64 x.vk,.int .i64 x.vn,.string ⟨x.vs.toArray⟩,.string ⟨x.tb.toArray⟩,.string ⟨x.nm.toArray⟩,.int .i64 x.col,.bool x.dn,.int .i64 x.a,.slice p x.ar.n c,.slice q x.sb.n d])).run Tryz.prog w2 = .ok () W3) := e3
   have K3 : Hid (Kept (fun _ => False) w W3 ∧ W3.heap[w.heap.size]? = some (.cells #[.int .i64 x.k,.int .i64 x.op,.int .i64 x.vk,.int .i64 x.vn,.string ⟨x.vs.toArray⟩,.string ⟨x.tb.toArray⟩,.string ⟨x.nm.toArray⟩,.int .i64 x.col,.bool x.dn,.int .i64 x.a,.slice p x.ar.n c,.slice q x.sb.n d] 27 (0,0))) := ⟨(HW.out.1.trans k2 (fun i q => .inl q)).trans k3 (fun i q => .inr (by have q' : i = w.heap.size := q; omega)),f3⟩
   have HX : Hid ((Rep (fun g => w.heap.size ≤ g) W3 (.slice p x.ar.n c) x.ar.dt) ∧ (Rep (fun g => w.heap.size ≤ g) W3 (.slice q x.sb.n d) x.sb.dt)) :=
    ⟨hr1.mono k3.size (fun g a hg => ⟨by have a' : W1.heap.size ≤ g := a; have := HW.out.2.1; show w.heap.size ≤ g; omega,k3.block g hg (fun q => by have q' : g = w.heap.size := q; have a' : W1.heap.size ≤ g := a; have := HW.out.2.1; omega)⟩),
     hr2.mono k3.size (fun g a hg => ⟨by have a' : W1.heap.size ≤ g := a; have := HW.out.2.1; show w.heap.size ≤ g; omega,k3.block g hg (fun q => by have q' : g = w.heap.size := q; have a' : W1.heap.size ≤ g := a; have := HW.out.2.1; omega)⟩)⟩
   clear k2 hb2 e3 f3 k3 s3 hr1 hr2
   go_wp2_with (first | (refine st_sto E3.out ?_))
   refine bodyPost_ret (resM K3.out.2 rfl rfl rfl rfl Tryz.underlying27 rfl (by kernel_rfl)) rfl ?_
   exact ⟨K3.out.1,_,rfl,p,c,q,d,rfl,HX.out.1,HX.out.2⟩
def queryW (l : List UInt8) : WR Qy := wholeM (knotM 5000 5000).2 l
theorem queryW_ne (l : List UInt8) : queryW l ≠ .out := by
 unfold queryW wholeM
 split
 · intro h; cases h
 · rename_i h
   have h0 : (tokV l).2.2 = 0 := by
    by_cases q : (tokV l).2.2 = 0
    · exact q
    · exact absurd q h
   have hs := (sat_knot (f := 5000) (by omega) 5000 4098 (by omega) (by omega)).2 ⟨tks (tokV l).1,0,0⟩ (tok_wf h0) (by have := tok_few l; have e : (tks (tokV l).1).length = (tokV l).1.length := List.length_map _; show (tks (tokV l).1).length ≤ 4098; omega)
   generalize (knotM 5000 5000).2 ⟨tks (tokV l).1,0,0⟩ = r at hs ⊢
   cases r with
   | out => exact hs.elim
   | bad a e => intro q; cases q
   | ok x S =>
     unfold toWR
     simp only
     split <;> (intro q; cases q)
set_option maxHeartbeats 2000000 in
theorem query_is (s : ByteArray) (w : World) (hG : Glob w) (hT : Lib.Utf8Tabs 2 3 w) : Calls Tryz.prog 14 #[.string s] w (fun e w' => WOut (.agg #[.slice none 0 0,.slice none 0 0,.int .i64 0,.int .i64 0]) QR w (queryW s.data.toList) e w') := by
 obtain ⟨W1,hW1⟩ : ∃ W1,W1 = w.alloc (.cells #[.slice none 0 0,.slice none 0 0,.int .i64 0,.int .i64 0] 44) := ⟨_,rfl⟩
 have k1 : Kept (fun _ => False) w W1 := by rw [hW1]; exact (Kept.refl _ _).alloc _
 have s1 : W1.heap.size = w.heap.size + 1 := by rw [hW1]; exact Array.size_push _
 have hb1 : W1.heap[w.heap.size]? = some (.cells #[.slice none 0 0,.slice none 0 0,.int .i64 0,.int .i64 0] 44 (0,0)) := by rw [hW1]; exact heap_alloc_new w _
 have HC : Hid (Calls Tryz.prog 30 #[.string s,.func (.func 31) #[] #[]] W1 (fun e w' => WOut (.agg #[.slice none 0 0,.slice none 0 0,.int .i64 0,.int .i64 0]) QR W1 (queryW s.data.toList) e w')) :=
  whole30_is (knotM 5000 5000).2 (knot_does 5000 (by omega) made_c 5000).2 s W1 (hG.next (k1.below (Nat.le_refl _) (fun k q => q.elim))) (tabs_stay hT (k1.block 2 (by have := World.block_lt_of_cell? w _ (hT.1 0 (by omega)); simp at this; omega) (fun z => z)) (k1.block 3 (by have := World.block_lt_of_cell? w _ (hT.2 0 (by omega)).1; simp at this; omega) (fun z => z))) (queryW_ne _)
 have H1 : Hid (W1 = w.alloc (.cells #[.slice none 0 0,.slice none 0 0,.int .i64 0,.int .i64 0] 44)) := hW1
 have HW : Hid (Kept (fun _ => False) w W1 ∧ W1.heap.size = w.heap.size + 1 ∧ W1.heap[w.heap.size]? = some (.cells #[.slice none 0 0,.slice none 0 0,.int .i64 0,.int .i64 0] 44 (0,0))) := ⟨k1,s1,hb1⟩
 clear hG hT hW1 k1 s1 hb1
 obtain ⟨r,hr⟩ : ∃ r,r = queryW s.data.toList := ⟨_,rfl⟩
 have HNE : Hid (r ≠ .out) := by rw [hr]; exact queryW_ne _
 rw [← hr] at HC ⊢
 clear hr
 go_enter Tryz.func14,Tryz.ntmps14
 go_wp2_with (first | (refine st_al al44 ?_; rw [← H1.out]))
 refine Calls.mono HC.out ?_; rintro e w2 ⟨k2,hq⟩
 clear HC
 have hb2 := (k2.block _ (by have := HW.out.2.1; omega) (fun z => z)).trans HW.out.2.2
 cases r with
 | out => exact absurd rfl HNE.out
 | no a er =>
   obtain rfl := hq
   obtain ⟨W3,e3,f3,k3,s3⟩ := row_store w2 w.heap.size 44 44 _ #[.slice none 0 0,.slice none 0 0,.int .i64 0,.int .i64 0] hb2 (by kernel_rfl) rfl (by rfl)
   have E3 : Hid ((storeVar 44 ⟨w.heap.size,0,none⟩ (.agg #[.slice none 0 0,.slice none 0 0,.int .i64 0,.int .i64 0])).run Tryz.prog w2 = .ok () W3) := e3
   have K3 : Hid (Kept (fun _ => False) w W3 ∧ W3.heap[w.heap.size]? = some (.cells #[.slice none 0 0,.slice none 0 0,.int .i64 0,.int .i64 0] 44 (0,0))) := ⟨(HW.out.1.trans k2 (fun i q => .inl q)).trans k3 (fun i q => .inr (by have q' : i = w.heap.size := q; omega)),f3⟩
   clear k2 hb2 e3 f3 k3 s3
   go_wp2_with (first | (refine st_sto E3.out ?_))
   refine bodyPost_ret (resM K3.out.2 rfl rfl rfl rfl Tryz.underlying44 rfl (by kernel_rfl)) rfl ?_
   exact ⟨K3.out.1,rfl⟩
 | yes x =>
   obtain ⟨v,rfl,p,c,q,d,rfl,hr1,hr2⟩ := hq
   obtain ⟨W3,e3,f3,k3,s3⟩ := row_store w2 w.heap.size 44 44 _ #[.slice p x.se.n c,.slice q x.od.n d,.int .i64 x.li,.int .i64 x.off] hb2 (by kernel_rfl) rfl (by rfl)
   have E3 : Hid ((storeVar 44 ⟨w.heap.size,0,none⟩ (.agg #[.slice p x.se.n c,.slice q x.od.n d,.int .i64 x.li,.int .i64 x.off])).run Tryz.prog w2 = .ok () W3) := e3
   have K3 : Hid (Kept (fun _ => False) w W3 ∧ W3.heap[w.heap.size]? = some (.cells #[.slice p x.se.n c,.slice q x.od.n d,.int .i64 x.li,.int .i64 x.off] 44 (0,0))) := ⟨(HW.out.1.trans k2 (fun i q => .inl q)).trans k3 (fun i q => .inr (by have q' : i = w.heap.size := q; omega)),f3⟩
   have HX : Hid ((Rep (fun g => w.heap.size ≤ g) W3 (.slice p x.se.n c) x.se.dt) ∧ (Rep (fun g => w.heap.size ≤ g) W3 (.slice q x.od.n d) x.od.dt)) :=
    ⟨hr1.mono k3.size (fun g a hg => ⟨by have a' : W1.heap.size ≤ g := a; have := HW.out.2.1; show w.heap.size ≤ g; omega,k3.block g hg (fun q => by have q' : g = w.heap.size := q; have a' : W1.heap.size ≤ g := a; have := HW.out.2.1; omega)⟩),
     hr2.mono k3.size (fun g a hg => ⟨by have a' : W1.heap.size ≤ g := a; have := HW.out.2.1; show w.heap.size ≤ g; omega,k3.block g hg (fun q => by have q' : g = w.heap.size := q; have a' : W1.heap.size ≤ g := a; have := HW.out.2.1; omega)⟩)⟩
   clear k2 hb2 e3 f3 k3 s3 hr1 hr2
   go_wp2_with (first | (refine st_sto E3.out ?_))
   refine bodyPost_ret (resM K3.out.2 rfl rfl rfl rfl Tryz.underlying44 rfl (by kernel_rfl)) rfl ?_
   exact ⟨K3.out.1,_,rfl,p,c,q,d,rfl,HX.out.1,HX.out.2⟩
def awkS : List UInt8 := [115,101,108,101,99,116,32,97,44,32,99,111,117,110,116,40,42,41,32,97,115,32,110,32,102,114,111,109,32,116,32,108,101,102,116,32,106,111,105,110,32,117,32,111,110,32,116,46,97,32,61,32,117,46,98,32,119,104,101,114,101,32,97,32,105,110,32,40,49,44,32,50,41,32,103,114,111,117,112,32,98,121,32,97,32,111,114,100,101,114,32,98,121,32,110,32,100,101,115,99,32,108,105,109,105,116,32,51]
def awkE : List UInt8 := [49,32,43,32,50,32,42,32,51]
def awkQ : Qy := ⟨⟨1, [.i 0,.b false,.sl 2 [.b false,.i 2,.i 0,.i 0,.i 0,.s [],.s [],.s [97],.i 0,.b false,.p 7,.sl 0 [],.sl 0 [],.s [],.b false,.i 5,.i 19,.i 0,.i 0,.s [],.s [],.s [],.i 0,.b false,.p 10,.sl 0 [],.sl 0 [],.s [110]],.sl 2 [.s [116],.s [],.b false,.sl 0 [],.p 29,.s [117],.s [],.b true,.sl 1 [.i 4,.i 7,.i 0,.i 0,.s [],.s [],.s [],.i 0,.b false,.p 46,.sl 2 [.i 2,.i 0,.i 0,.i 0,.s [],.s [116],.s [97],.i 0,.b false,.p 46,.sl 0 [],.sl 0 [],.i 2,.i 0,.i 0,.i 0,.s [],.s [117],.s [98],.i 0,.b false,.p 52,.sl 0 [],.sl 0 []],.sl 0 []],.p 41],.sl 1 [.i 7,.i 0,.i 0,.i 0,.s [],.s [],.s [],.i 0,.b false,.p 62,.sl 3 [.i 2,.i 0,.i 0,.i 0,.s [],.s [],.s [97],.i 0,.b false,.p 62,.sl 0 [],.sl 0 [],.i 1,.i 0,.i 1,.i 1,.s [],.s [],.s [],.i 0,.b false,.p 68,.sl 0 [],.sl 0 [],.i 1,.i 0,.i 1,.i 2,.s [],.s [],.s [],.i 0,.b false,.p 71,.sl 0 [],.sl 0 []],.sl 0 []],.sl 1 [.i 2,.i 0,.i 0,.i 0,.s [],.s [],.s [97],.i 0,.b false,.p 83,.sl 0 [],.sl 0 []],.sl 0 []]⟩,⟨1, [.i 0,.s [110],.b true,.p 94]⟩,3,0⟩
def awkX : X := ⟨4,13,0,0, [], [], [],0,false,0,⟨2, [.i 1,.i 0,.i 1,.i 1,.s [],.s [],.s [],.i 0,.b false,.p 0,.sl 0 [],.sl 0 [],.i 4,.i 15,.i 0,.i 0,.s [],.s [],.s [],.i 0,.b false,.p 4,.sl 2 [.i 1,.i 0,.i 1,.i 2,.s [],.s [],.s [],.i 0,.b false,.p 4,.sl 0 [],.sl 0 [],.i 1,.i 0,.i 1,.i 3,.s [],.s [],.s [],.i 0,.b false,.p 8,.sl 0 [],.sl 0 []],.sl 0 []]⟩,⟨0, []⟩⟩
theorem awk_q : queryW awkS = .yes awkQ := by kernel_rfl
theorem awk_x : exprW awkE = .yes awkX := by kernel_rfl
theorem rep_row {A : Nat → Prop} {w : World} {p : Option Addr} {n c : Nat} {l : List DT} (h : Rep A w (.slice p n c) (.sl n l)) (hl : l ≠ []) : ∃ g o,p = some ⟨g,o,none⟩ ∧ A g ∧ g < w.heap.size ∧ ∀ i d,l[i]? = some d → ∃ v,w.cell? ⟨g,o + i,none⟩ = some v ∧ Rep A w v d := by
 cases h with
 | nil => exact absurd rfl hl
 | sl g o k cap cs l hA hg hz hn hc h =>
   refine ⟨g,o,rfl,hA,hg,fun i d hd => ?_⟩
   have hi : i < cs.length := by
    rw [hn]
    rcases Nat.lt_or_ge i l.length with q | q
    · exact q
    · rw [List.getElem?_eq_none q] at hd; cases hd
   exact ⟨cs[i],hc i _ (List.getElem?_eq_getElem hi),h i _ d (List.getElem?_eq_getElem hi) hd⟩
theorem rep_i {A : Nat → Prop} {w : World} {v : Value} {n : Int} (h : Rep A w v (.i n)) : v = .int .i64 n := by cases h; rfl
theorem rep_s {A : Nat → Prop} {w : World} {v : Value} {b : List UInt8} (h : Rep A w v (.s b)) : v = .string ⟨b.toArray⟩ := by cases h; rfl
theorem rep_b {A : Nat → Prop} {w : World} {v : Value} {b : Bool} (h : Rep A w v (.b b)) : v = .bool b := by cases h; rfl
theorem rep_sl {A : Nat → Prop} {w : World} {p : Option Addr} {n c i : Nat} {g o : Nat} {l : List DT} {m : Nat} {k : List DT} (h : ∀ i d,l[i]? = some d → ∃ v,w.cell? ⟨g,o + i,none⟩ = some v ∧ Rep A w v d) (hi : l[i]? = some (.sl m k)) (hk : k ≠ []) :
 ∃ g2 o2 c2,w.cell? ⟨g,o + i,none⟩ = some (.slice (some ⟨g2,o2,none⟩) m c2) ∧ ∀ i d,k[i]? = some d → ∃ v,w.cell? ⟨g2,o2 + i,none⟩ = some v ∧ Rep A w v d := by
 obtain ⟨v,hv,hr⟩ := h i _ hi
 obtain ⟨p2,c2,rfl⟩ := hr.slice
 obtain ⟨g2,o2,rfl,_,_,h2⟩ := rep_row hr hk
 exact ⟨g2,o2,c2,hv,h2⟩
theorem str_e : (⟨#[115,101,108,101,99,116,32,97,44,32,99,111,117,110,116,40,42,41,32,97,115,32,110,32,102,114,111,109,32,116,32,108,101,102,116,32,106,111,105,110,32,117,32,111,110,32,116,46,97,32,61,32,117,46,98,32,119,104,101,114,101,32,97,32,105,110,32,40,49,44,32,50,41,32,103,114,111,117,112,32,98,121,32,97,32,111,114,100,101,114,32,98,121,32,110,32,100,101,115,99,32,108,105,109,105,116,32,51]⟩ : ByteArray).data.toList = awkS := rfl
set_option maxHeartbeats 4000000 in
theorem awake_is (w : World) (hG : Glob w) (hT : Lib.Utf8Tabs 2 3 w) : Calls Tryz.prog 7 #[] w fun e w' => e = .returned (.bool true) ∧ Kept (fun _ => False) w w' := by
 have hGT : ∀ W,Kept (fun _ => False) w W → Glob W ∧ Lib.Utf8Tabs 2 3 W := fun W k => ⟨hG.next (k.below (Nat.le_refl _) (fun k q => q.elim)),tabs_stay hT (k.block 2 (by have := World.block_lt_of_cell? w _ (hT.1 0 (by omega)); simp at this; omega) (fun z => z)) (k.block 3 (by have := World.block_lt_of_cell? w _ (hT.2 0 (by omega)).1; simp at this; omega) (fun z => z))⟩
 have HQ : Hid (Calls Tryz.prog 14 #[.string ⟨#[115,101,108,101,99,116,32,97,44,32,99,111,117,110,116,40,42,41,32,97,115,32,110,32,102,114,111,109,32,116,32,108,101,102,116,32,106,111,105,110,32,117,32,111,110,32,116,46,97,32,61,32,117,46,98,32,119,104,101,114,101,32,97,32,105,110,32,40,49,44,32,50,41,32,103,114,111,117,112,32,98,121,32,97,32,111,114,100,101,114,32,98,121,32,110,32,100,101,115,99,32,108,105,109,105,116,32,51]⟩] w (fun e w' => Kept (fun _ => False) w w' ∧ ∃ v,e = .returned (.tuple #[v,.int .i64 0,.int .i64 0]) ∧ QR (fun g => w.heap.size ≤ g) w' v awkQ)) := by
  refine (query_is ⟨#[115,101,108,101,99,116,32,97,44,32,99,111,117,110,116,40,42,41,32,97,115,32,110,32,102,114,111,109,32,116,32,108,101,102,116,32,106,111,105,110,32,117,32,111,110,32,116,46,97,32,61,32,117,46,98,32,119,104,101,114,101,32,97,32,105,110,32,40,49,44,32,50,41,32,103,114,111,117,112,32,98,121,32,97,32,111,114,100,101,114,32,98,121,32,110,32,100,101,115,99,32,108,105,109,105,116,32,51]⟩ w hG hT).mono ?_
  rintro e w' ⟨k,h⟩
  rw [str_e,awk_q] at h
  exact ⟨k,h⟩
 have HE : Hid (∀ W,Kept (fun _ => False) w W → Calls Tryz.prog 8 #[.string ⟨#[49,32,43,32,50,32,42,32,51]⟩] W (fun e w' => Kept (fun _ => False) W w' ∧ ∃ v,e = .returned (.tuple #[v,.int .i64 0,.int .i64 0]) ∧ XR (fun g => W.heap.size ≤ g) w' v awkX)) := by
  intro W k
  refine (expr_is ⟨#[49,32,43,32,50,32,42,32,51]⟩ W (hGT W k).1 (hGT W k).2).mono ?_
  rintro e w' ⟨k,h⟩
  rw [show (⟨#[49,32,43,32,50,32,42,32,51]⟩ : ByteArray).data.toList = awkE from rfl,awk_x] at h
  exact ⟨k,h⟩
 clear hG hT hGT
 go_enter Tryz.func7,Tryz.ntmps7
 go_wp2_with fail
 refine Calls.mono HQ.out ?_; rintro e w1 ⟨k1,v,rfl,p,c,q,d,rfl,hr1,hr2⟩
 obtain ⟨W2,hW2⟩ : ∃ W2,W2 = w1.alloc (.cells #[.slice none 0 0,.slice none 0 0,.int .i64 0,.int .i64 0] 44) := ⟨_,rfl⟩
 have ka : Kept (fun _ => False) w1 W2 := by rw [hW2]; exact (Kept.refl _ _).alloc _
 have hb2 : W2.heap[w1.heap.size]? = some (.cells #[.slice none 0 0,.slice none 0 0,.int .i64 0,.int .i64 0] 44 (0,0)) := by rw [hW2]; exact heap_alloc_new w1 _
 have s2 : W2.heap.size = w1.heap.size + 1 := by rw [hW2]; exact Array.size_push _
 obtain ⟨W3,e3,f3,k3,s3⟩ := row_store W2 w1.heap.size 44 44 _ #[.slice p awkQ.se.n c,.slice q awkQ.od.n d,.int .i64 awkQ.li,.int .i64 awkQ.off] hb2 (by kernel_rfl) rfl (by rfl)
 have k13 : Kept (fun _ => False) w1 W3 := ka.trans k3 (fun i q => .inr (by have q' : i = w1.heap.size := q; omega))
 have H2 : Hid (W2 = w1.alloc (.cells #[.slice none 0 0,.slice none 0 0,.int .i64 0,.int .i64 0] 44)) := hW2
 have E3 : Hid ((storeVar 44 ⟨w1.heap.size,0,none⟩ (.agg #[.slice p awkQ.se.n c,.slice q awkQ.od.n d,.int .i64 awkQ.li,.int .i64 awkQ.off])).run Tryz.prog W2 = .ok () W3) := e3
 have K3 : Hid (Kept (fun _ => False) w w1 ∧ Kept (fun _ => False) w1 W3 ∧ W3.heap[w1.heap.size]? = some (.cells #[.slice p awkQ.se.n c,.slice q awkQ.od.n d,.int .i64 awkQ.li,.int .i64 awkQ.off] 44 (0,0)) ∧ Rep (fun g => w.heap.size ≤ g) w1 (.slice p awkQ.se.n c) awkQ.se.dt ∧ Rep (fun g => w.heap.size ≤ g) w1 (.slice q awkQ.od.n d) awkQ.od.dt) := ⟨k1,k13,f3,hr1,hr2⟩
 clear k1 hr1 hr2 hW2 ka hb2 s2 e3 f3 k3 s3 k13 HQ
 go_wp2_with (first | (refine st_al al44 ?_; rw [← H2.out]) | (refine st_sto E3.out ?_))
 refine Calls.mono (HE.out W3 (K3.out.1.trans K3.out.2.1 (fun i q => .inl q))) ?_; rintro e w4 ⟨k4,v,rfl,p2,c2,q2,d2,rfl,hr3,hr4⟩
 obtain ⟨W5,hW5⟩ : ∃ W5,W5 = w4.alloc (.cells #[.int .i64 0,.int .i64 0,.int .i64 0,.int .i64 0,.string ⟨#[]⟩,.string ⟨#[]⟩,.string ⟨#[]⟩,.int .i64 0,.bool false,.int .i64 0,.slice none 0 0,.slice none 0 0] 27) := ⟨_,rfl⟩
 have ka : Kept (fun _ => False) w4 W5 := by rw [hW5]; exact (Kept.refl _ _).alloc _
 have hb5 : W5.heap[w4.heap.size]? = some (.cells #[.int .i64 0,.int .i64 0,.int .i64 0,.int .i64 0,.string ⟨#[]⟩,.string ⟨#[]⟩,.string ⟨#[]⟩,.int .i64 0,.bool false,.int .i64 0,.slice none 0 0,.slice none 0 0] 27 (0,0)) := by rw [hW5]; exact heap_alloc_new w4 _
 have s5 : W5.heap.size = w4.heap.size + 1 := by rw [hW5]; exact Array.size_push _
 obtain ⟨W6,e6,f6,k6,s6⟩ := row_store W5 w4.heap.size 27 27 _ #[.int .i64 awkX.k,.int .i64 awkX.op,.int .i64 awkX.vk,.int .i64 awkX.vn,.string ⟨awkX.vs.toArray⟩,.string ⟨awkX.tb.toArray⟩,.string ⟨awkX.nm.toArray⟩,.int .i64 awkX.col,.bool awkX.dn,.int .i64 awkX.a,.slice p2 awkX.ar.n c2,.slice q2 awkX.sb.n d2] hb5 (by kernel_rfl) rfl (by rfl)
 have k46 : Kept (fun _ => False) w4 W6 := ka.trans k6 (fun i q => .inr (by have q' : i = w4.heap.size := q; omega))
 have k16 : Kept (fun _ => False) w1 W6 := (K3.out.2.1.trans k4 (fun i q => .inl q)).trans k46 (fun i q => .inl q)
 have hb1 : W6.heap[w1.heap.size]? = some (.cells #[.slice p awkQ.se.n c,.slice q awkQ.od.n d,.int .i64 awkQ.li,.int .i64 awkQ.off] 44 (0,0)) := (k46.block _ (Nat.lt_of_lt_of_le (blk_lt K3.out.2.2.1) k4.size) (fun z => z)).trans ((k4.block _ (blk_lt K3.out.2.2.1) (fun z => z)).trans K3.out.2.2.1)
 have R1 : Rep (fun g => w.heap.size ≤ g) W6 (.slice p 1 c) (.sl 1 awkQ.se.l) := K3.out.2.2.2.1.mono k16.size (fun g a hg => ⟨a,k16.block g hg (fun z => z)⟩)
 have R2 : Rep (fun g => w.heap.size ≤ g) W6 (.slice q 1 d) (.sl 1 awkQ.od.l) := K3.out.2.2.2.2.mono k16.size (fun g a hg => ⟨a,k16.block g hg (fun z => z)⟩)
 have R3 : Rep (fun g => W3.heap.size ≤ g) W6 (.slice p2 2 c2) (.sl 2 awkX.ar.l) := hr3.mono k46.size (fun g a hg => ⟨a,k46.block g hg (fun z => z)⟩)
 have HD : Hid (∀ y0 y1 y2 y3 y4 y5 y6 y7 y8 y9 y11 : Value,Calls Tryz.prog 9 #[.agg #[y0,y1,y2,y3,y4,y5,y6,y7,y8,y9,.slice p2 2 c2,y11]] W6 fun e w' => e = .returned (.int .i64 3) ∧ Kept (fun _ => False) W6 w') := fun y0 y1 y2 y3 y4 y5 y6 y7 y8 y9 y11 => by
  have := deep_is _ W6 y0 y1 y2 y3 y4 y5 y6 y7 y8 y9 (.slice p2 2 c2) y11 _ R3 (by kernel_rfl)
  rw [show ((min (1 + (DT.sl 2 awkX.ar.l).dep) 1000 : Nat) : Int) = 3 by kernel_rfl] at this
  exact this
 have HK : Hid (Kept (fun _ => False) w W6) := K3.out.1.trans k16 (fun i q => .inl q)
 have L6 : Hid ((loadVar 27 ⟨w4.heap.size,0,none⟩).run Tryz.prog W6 = .ok (.agg #[.int .i64 4,.int .i64 13,.int .i64 0,.int .i64 0,.string ⟨#[]⟩,.string ⟨#[]⟩,.string ⟨#[]⟩,.int .i64 0,.bool false,.int .i64 0,.slice p2 2 c2,.slice q2 0 d2]) W6) := run_loadVar_row W6 _ 27 27 _ (0,0) _ f6 Tryz.underlying27 rfl (by kernel_rfl)
 have H5 : Hid (W5 = w4.alloc (.cells #[.int .i64 0,.int .i64 0,.int .i64 0,.int .i64 0,.string ⟨#[]⟩,.string ⟨#[]⟩,.string ⟨#[]⟩,.int .i64 0,.bool false,.int .i64 0,.slice none 0 0,.slice none 0 0] 27)) := hW5
 have E6 : Hid ((storeVar 27 ⟨w4.heap.size,0,none⟩ (.agg #[.int .i64 awkX.k,.int .i64 awkX.op,.int .i64 awkX.vk,.int .i64 awkX.vn,.string ⟨awkX.vs.toArray⟩,.string ⟨awkX.tb.toArray⟩,.string ⟨awkX.nm.toArray⟩,.int .i64 awkX.col,.bool awkX.dn,.int .i64 awkX.a,.slice p2 awkX.ar.n c2,.slice q2 awkX.sb.n d2])).run Tryz.prog W5 = .ok () W6) := e6
 obtain ⟨gS,oS,rfl,_,_,hS⟩ := rep_row R1 (by intro h; cases h)
 obtain ⟨gK,oK,rfl,_,_,hK⟩ := rep_row R2 (by intro h; cases h)
 obtain ⟨gA,oA,rfl,_,_,hA⟩ := rep_row R3 (by intro h; cases h)
 have c0 : W6.cell? ⟨w1.heap.size,0,none⟩ = some (.slice (some ⟨gS,oS,none⟩) 1 c) := cell_of_row W6 _ 0 _ 44 (0,0) hb1
 have c1 : W6.cell? ⟨w1.heap.size,1,none⟩ = some (.slice (some ⟨gK,oK,none⟩) 1 d) := cell_of_row W6 _ 1 _ 44 (0,0) hb1
 have c2' : W6.cell? ⟨w1.heap.size,2,none⟩ = some (.int .i64 3) := cell_of_row W6 _ 2 _ 44 (0,0) hb1
 have x0 : W6.cell? ⟨w4.heap.size,0,none⟩ = some (.int .i64 4) := cell_of_row W6 _ 0 _ 27 (0,0) f6
 have x1 : W6.cell? ⟨w4.heap.size,1,none⟩ = some (.int .i64 13) := cell_of_row W6 _ 1 _ 27 (0,0) f6
 have x2 : W6.cell? ⟨w4.heap.size,2,none⟩ = some (.int .i64 0) := cell_of_row W6 _ 2 _ 27 (0,0) f6
 have x3 : W6.cell? ⟨w4.heap.size,3,none⟩ = some (.int .i64 0) := cell_of_row W6 _ 3 _ 27 (0,0) f6
 have x4 : W6.cell? ⟨w4.heap.size,4,none⟩ = some (.string ⟨#[]⟩) := cell_of_row W6 _ 4 _ 27 (0,0) f6
 have x5 : W6.cell? ⟨w4.heap.size,5,none⟩ = some (.string ⟨#[]⟩) := cell_of_row W6 _ 5 _ 27 (0,0) f6
 have x6 : W6.cell? ⟨w4.heap.size,6,none⟩ = some (.string ⟨#[]⟩) := cell_of_row W6 _ 6 _ 27 (0,0) f6
 have x7 : W6.cell? ⟨w4.heap.size,7,none⟩ = some (.int .i64 0) := cell_of_row W6 _ 7 _ 27 (0,0) f6
 have x8 : W6.cell? ⟨w4.heap.size,8,none⟩ = some (.bool false) := cell_of_row W6 _ 8 _ 27 (0,0) f6
 have x9 : W6.cell? ⟨w4.heap.size,9,none⟩ = some (.int .i64 0) := cell_of_row W6 _ 9 _ 27 (0,0) f6
 have x10 : W6.cell? ⟨w4.heap.size,10,none⟩ = some (.slice (some ⟨gA,oA,none⟩) 2 c2) := cell_of_row W6 _ 10 _ 27 (0,0) f6
 have x11 : W6.cell? ⟨w4.heap.size,11,none⟩ = some (.slice q2 0 d2) := cell_of_row W6 _ 11 _ 27 (0,0) f6
 obtain ⟨gI,oI,cI,cS2,hI⟩ := rep_sl (p := none) (n := 0) (c := 0) hS (i := 2) rfl (by intro h; cases h)
 obtain ⟨gF,oF,cF,cS3,hF⟩ := rep_sl (p := none) (n := 0) (c := 0) hS (i := 3) rfl (by intro h; cases h)
 obtain ⟨v27,i27',r27⟩ := hI 27 _ rfl
 obtain rfl := rep_s r27
 obtain ⟨v7,f7',r7⟩ := hF 7 _ rfl
 obtain rfl := rep_b r7
 obtain ⟨vk1,ck1,rk1⟩ := hK 1 _ rfl
 obtain rfl := rep_s rk1
 obtain ⟨vk2,ck2,rk2⟩ := hK 2 _ rfl
 obtain rfl := rep_b rk2
 obtain ⟨va,ca,ra⟩ := hA 13 _ rfl
 obtain rfl := rep_i ra
 clear k4 hr3 hr4 hW5 ka hb5 s5 e6 f6 k6 s6 k46 k16 hb1 R1 R2 R3 hS hK hA hI hF r27 r7 rk1 rk2 ra K3 HE
 go_wp2_with (first | (refine st_al al27 ?_; rw [← H5.out]) | (refine st_sto E6.out ?_) | (refine st_ld L6.out ?_))
 refine Calls.mono (HD.out _ _ _ _ _ _ _ _ _ _ _) ?_; rintro e w7 ⟨rfl,k7⟩
 have HK7 : Hid (Kept (fun _ => False) w w7) := HK.out.trans k7 (fun i q => .inl q)
 clear k7
 go_wp2_with fail
 go_ret
 exact ⟨rfl,HK7.out⟩
end Go.Proofs.YtlgkghebemfpjaaGreatDoor.Pa
