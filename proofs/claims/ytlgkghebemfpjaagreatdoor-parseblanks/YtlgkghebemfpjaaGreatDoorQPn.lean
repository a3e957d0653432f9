/- The document's comparisons. ParseBlanks: what its walk leans on. ParseBlanks: the walk. -/
import Derived.Test.YtlgkghebemfpjaaGreatDoorQXl
import Derived.Test.YtlgkghebemfpjaaGreatDoorQXe
import Derived.Test.YtlgkghebemfpjaaGreatDoorQXq
import Derived.Test.YtlgkghebemfpjaaGreatDoorQBl
import Derived.Test.YtlgkghebemfpjaaGreatDoorQLRo
import Derived.Test.YtlgkghebemfpjaaGreatDoorQLRq2
import Derived.Test.YtlgkghebemfpjaaGreatDoorQLNf
namespace Go.Proofs.YtlgkghebemfpjaaGreatDoor.Pa
open Go.ChangeShapes Go.WideShapes Go.ChangeAt Go.RowKit
set_option linter.unusedVariables false
set_option maxRecDepth 100000
theorem sz_pos (d : DT) : 1 ≤ SizeOf.sizeOf d := by cases d <;> simp <;> omega
theorem VS.zero {k : Kd} {w : World} {u v : Value} (h : VS k 0 w u v) : False := by
 obtain ⟨p,c,q,c',n,l,l',_,_,_,_,_,_,h5⟩ := h.ex
 have := sz_pos (DT.sl n l)
 omega
theorem VR.zero {k : Kd} {w : World} {us vs : List Value} (h : VR k 0 w us vs) : False := by
 obtain ⟨ds,ds',_,_,h3,h4⟩ := h.ex
 have h1 := h3.h1
 rw [Nat.one_mul] at h1
 have hp := k.pos
 cases ds with
 | nil => simp at h1; omega
 | cons d ds =>
   have := h4 d (by simp)
   have := sz_pos d
   omega
theorem same_all : ∀ N : Nat,C33 N ∧ C16 N ∧ C15 N ∧ C32 N
 | 0 => ⟨fun w u v h => h.zero.elim,fun w _ _ _ _ _ _ _ _ _ _ _ _ _ _ _ _ _ _ _ _ _ _ _ _ h => h.zero.elim,fun w _ _ _ _ _ _ _ _ h => h.zero.elim,fun w _ _ _ _ _ _ _ _ _ _ _ _ _ _ h => h.zero.elim⟩
 | N + 1 => by
   obtain ⟨h33,h16,h15,h32⟩ := same_all N
   have g33 : C33 (N + 1) := exprs_same (N + 1) h16
   exact ⟨g33,expr_same (N + 1) g33 h15,query_same (N + 1) h32,select_same (N + 1) h16 h33 g33⟩
theorem le_max (l : List DT) : ∃ N,∀ d ∈ l,SizeOf.sizeOf d ≤ N := by
 induction l with
 | nil => exact ⟨0,fun d h => by cases h⟩
 | cons e l ih =>
   obtain ⟨N,h⟩ := ih
   refine ⟨max N (SizeOf.sizeOf e),fun d hd => ?_⟩
   rcases List.mem_cons.1 hd with rfl | hd
   · omega
   · have := h d hd; omega
theorem VR.of {k : Kd} {w : World} {us vs : List Value} {ds ds' : List DT} (h1 : RepL (fun _ => True) w us ds) (h2 : RepL (fun _ => True) w vs ds') (h3 : RowE k 1 ds ds') : ∃ N,VR k N w us vs := by
 obtain ⟨N,hN⟩ := le_max ds
 exact ⟨N,ds,ds',h1,h2,h3,hN⟩
theorem rtokens_is (s : ByteArray) (w : World) : Calls Tryz.prog 12 #[.string s] w fun e w' => TokR w w' s.data.toList e := by
 by_cases h : s.size ≤ 4096
 · exact rtokens_some s h (fun j w hj hp => one_ref s j hj (by omega) hp w) w
 · exact rtokens_full s (by omega) w
def zeroQ : Qy := ⟨.none,.none,0,0⟩
def zeroX : X := ⟨0,0,0,0, [], [], [],0,false,0,.none,.none⟩
def qv : WR Qy → Qy × Int
 | .out => (zeroQ,0)
 | .no _ e => (zeroQ,e)
 | .yes x => (x,0)
def xv : WR X → X × Int
 | .out => (zeroX,0)
 | .no _ e => (zeroX,e)
 | .yes x => (x,0)
theorem qv_same {r r' : WR Qy} (h : WE RQ r r') : RQ (qv r).1 (qv r').1 ∧ (qv r).2 = (qv r').2 := by
 cases r <;> cases r' <;> first | exact False.elim h | exact ⟨RQ.zero,rfl⟩ | exact ⟨RQ.zero,h⟩ | exact ⟨h,rfl⟩
theorem xv_same {r r' : WR X} (h : WE RX r r') : RX (xv r).1 (xv r').1 ∧ (xv r).2 = (xv r').2 := by
 cases r <;> cases r' <;> first | exact False.elim h | exact ⟨RX.zero,rfl⟩ | exact ⟨RX.zero,h⟩ | exact ⟨h,rfl⟩
theorem query_v (s : ByteArray) (w : World) (hG : Glob w) (hT : Lib.Utf8Tabs 2 3 w) : Calls Tryz.prog 14 #[.string s] w (fun e w' => Kept (fun _ => False) w w' ∧ ∃ u0 u1 u2 u3 a,e = .returned (.tuple #[.agg #[u0,u1,u2,u3],.int .i64 a,.int .i64 (qv (queryW s.data.toList)).2]) ∧ ([u0,u1,u2,u3].all (·.oneCell') = true) ∧ RepL (fun _ => True) w' [u0,u1,u2,u3] (qv (queryW s.data.toList)).1.flat) := by
 refine (query_is s w hG hT).mono ?_
 rintro e w' ⟨k,h⟩
 refine ⟨k, ?_⟩
 cases hr : queryW s.data.toList with
 | out => rw [hr] at h; exact h.elim
 | no a er =>
   rw [hr] at h
   exact ⟨_,_,_,_,a,h,rfl,.cons (.nil _ _) (.cons (.nil _ _) (.cons (.i _) (.cons (.i _) .nil)))⟩
 | yes x =>
   rw [hr] at h
   obtain ⟨v,rfl,p,c,q,d,rfl,h1,h2⟩ := h
   exact ⟨_,_,_,_,0,rfl,rfl,qc_rep (h1.mono (Nat.le_refl _) (fun g a hg => ⟨trivial,rfl⟩)) (h2.mono (Nat.le_refl _) (fun g a hg => ⟨trivial,rfl⟩))⟩
theorem expr_v (s : ByteArray) (w : World) (hG : Glob w) (hT : Lib.Utf8Tabs 2 3 w) : Calls Tryz.prog 8 #[.string s] w (fun e w' => Kept (fun _ => False) w w' ∧ ∃ x0 x1 x2 x3 x4 x5 x6 x7 x8 x9 x10 x11 a,e = .returned (.tuple #[.agg #[x0,x1,x2,x3,x4,x5,x6,x7,x8,x9,x10,x11],.int .i64 a,.int .i64 (xv (exprW s.data.toList)).2]) ∧ ([x0,x1,x2,x3,x4,x5,x6,x7,x8,x9,x10,x11].all (·.oneCell') = true) ∧ RepL (fun _ => True) w' [x0,x1,x2,x3,x4,x5,x6,x7,x8,x9,x10,x11] (xv (exprW s.data.toList)).1.flat) := by
 refine (expr_is s w hG hT).mono ?_
 rintro e w' ⟨k,h⟩
 refine ⟨k, ?_⟩
 cases hr : exprW s.data.toList with
 | out => rw [hr] at h; exact h.elim
 | no a er =>
   rw [hr] at h
   exact ⟨_,_,_,_,_,_,_,_,_,_,_,_,a,h,rfl,xc_rep (x := zeroX) (.nil _ _) (.nil _ _)⟩
 | yes x =>
   rw [hr] at h
   obtain ⟨v,rfl,p,c,q,d,rfl,h1,h2⟩ := h
   exact ⟨_,_,_,_,_,_,_,_,_,_,_,_,0,rfl,rfl,xc_rep (h1.mono (Nat.le_refl _) (fun g a hg => ⟨trivial,rfl⟩)) (h2.mono (Nat.le_refl _) (fun g a hg => ⟨trivial,rfl⟩))⟩
theorem mk_var (wa : World) (ty : TypeId) (z cs : Array Value) (hs : (Tryz.prog.info? ty).map (·.size) = some cs.size) (hz : z.size = cs.size) (h1 : cs.toList.all (·.oneCell') = true) :
 ∃ W2 W3,W2 = wa.alloc (.cells z ty) ∧ (storeVar ty ⟨wa.heap.size,0,none⟩ (.agg cs)).run Tryz.prog W2 = .ok () W3 ∧ W3.heap[wa.heap.size]? = some (.cells cs ty (0,0)) ∧ Kept (fun _ => False) wa W3 := by
 have k : Kept (fun _ => False) wa (wa.alloc (.cells z ty)) := (Kept.refl _ _).alloc _
 obtain ⟨W3,e,f,k3,_⟩ := row_store (wa.alloc (.cells z ty)) wa.heap.size ty ty z cs (heap_alloc_new wa _) hs hz h1
 exact ⟨_,W3,rfl,e,f,k.trans k3 (fun i q => .inr (by have q' : i = wa.heap.size := q; omega))⟩
theorem repl_kept {w w' : World} {us : List Value} {ds : List DT} (h : RepL (fun _ => True) w us ds) (k : Kept (fun _ => False) w w') : RepL (fun _ => True) w' us ds := ⟨h.1,fun i c d hc hd => rt_kept (h.2 i c d hc hd) k⟩
def nlL (r : List (TK × Nat)) : List UInt8 := r.flatMap (fun x => 10 :: 32 :: putC (corep x))
theorem nlL_snoc (r : List (TK × Nat)) (x : TK × Nat) : nlL (r ++ [x]) = nlL r ++ (10 :: 32 :: putC (corep x)) := by simp [nlL]
theorem nlL_len (r : List (TK × Nat)) (h : ∀ x ∈ r,(putC (corep x)).length ≤ 300) : (nlL r).length ≤ 302 * r.length := by
 induction r with
 | nil => simp [nlL]
 | cons x r ih =>
   have h1 := ih (fun y hy => h y (by simp [hy]))
   have h2 := h x (by simp)
   show ((10 :: 32 :: putC (corep x)) ++ nlL r).length ≤ _
   rw [List.length_append,List.length_cons,List.length_cons,List.length_cons]
   omega
theorem nlL_full (ts : List (TK × Nat)) (a : Nat) : nlL (ts ++ [(endT,a)]) = blk (ts.map corep) ++ [10,32] := by
 rw [nlL_snoc]
 have : putC (corep (endT,a)) = [] := rfl
 rw [this]
 congr 1
 simp [nlL,blk,List.flatMap_map]
set_option maxHeartbeats 8000000 in
theorem walk_blanks (s : ByteArray) (w : World) (hG : Glob w) (hT : Lib.Utf8Tabs 2 3 w) : Calls Tryz.prog 5 #[.string s] w fun e w' => e = .returned (.bool true) ∧ Kept (fun _ => False) w w' := by
 have hGT : ∀ W,Kept (fun _ => False) w W → Glob W ∧ Lib.Utf8Tabs 2 3 W := fun W k => ⟨hG.next (k.below (Nat.le_refl _) (fun k q => q.elim)),tabs_stay hT (k.block 2 (by have := World.block_lt_of_cell? w _ (hT.1 0 (by omega)); simp at this; omega) (fun z => z)) (k.block 3 (by have := World.block_lt_of_cell? w _ (hT.2 0 (by omega)).1; simp at this; omega) (fun z => z))⟩
 have HA : Hid (∀ W,Kept (fun _ => False) w W → Calls Tryz.prog 7 #[] W fun e w' => e = .returned (.bool true) ∧ Kept (fun _ => False) W w') := fun W k => awake_is W (hGT W k).1 (hGT W k).2
 have HQA : Hid (∀ (T : ByteArray) W,Kept (fun _ => False) w W → Calls Tryz.prog 14 #[.string T] W (fun e w' => Kept (fun _ => False) W w' ∧ ∃ u0 u1 u2 u3 a,e = .returned (.tuple #[.agg #[u0,u1,u2,u3],.int .i64 a,.int .i64 (qv (queryW T.data.toList)).2]) ∧ ([u0,u1,u2,u3].all (·.oneCell') = true) ∧ RepL (fun _ => True) w' [u0,u1,u2,u3] (qv (queryW T.data.toList)).1.flat)) := fun T W k => query_v T W (hGT W k).1 (hGT W k).2
 have HXA : Hid (∀ (T : ByteArray) W,Kept (fun _ => False) w W → Calls Tryz.prog 8 #[.string T] W (fun e w' => Kept (fun _ => False) W w' ∧ ∃ x0 x1 x2 x3 x4 x5 x6 x7 x8 x9 x10 x11 a,e = .returned (.tuple #[.agg #[x0,x1,x2,x3,x4,x5,x6,x7,x8,x9,x10,x11],.int .i64 a,.int .i64 (xv (exprW T.data.toList)).2]) ∧ ([x0,x1,x2,x3,x4,x5,x6,x7,x8,x9,x10,x11].all (·.oneCell') = true) ∧ RepL (fun _ => True) w' [x0,x1,x2,x3,x4,x5,x6,x7,x8,x9,x10,x11] (xv (exprW T.data.toList)).1.flat)) := fun T W k => expr_v T W (hGT W k).1 (hGT W k).2
 have HTK : Hid (Calls Tryz.prog 12 #[.string s] w fun e w' => TokR w w' s.data.toList e) := rtokens_is s w
 clear hG hT hGT
 by_cases hlen : (512 : Int) < (s.size : Int)
 · go_enter Tryz.func5,Tryz.ntmps5
   go_wp2_with fail
   refine Calls.mono (HA.out w (Kept.refl _ _)) ?_; rintro e w2 ⟨rfl,k2⟩
   have HK : Hid (Kept (fun _ => False) w w2) := k2
   clear k2
   go_wp2_with fail
   go_ret
   exact ⟨rfl,HK.out⟩
 · rcases tokV_cases s.data.toList with ⟨ts,hts⟩ | ⟨_,hbad⟩
   · have HTS : Hid (HasT s.data.toList ts) := hts
     have HF : Hid (Fine (ts ++ [(endT,s.data.toList.length)])) := hts.fine _
     have hn : ts.length ≤ 512 := by have := hts.len; rw [len_of] at this; omega
     obtain ⟨n,hnn⟩ : ∃ n,n = (ts ++ [(endT,s.data.toList.length)]).length := ⟨_,rfl⟩
     have hn2 : (n : Int) ≤ 513 := by rw [hnn,List.length_append]; simp; omega
     have HN : Hid ((ts ++ [(endT,s.data.toList.length)]).length = n) := hnn.symm
     clear hts hn hnn
     go_enter Tryz.func5,Tryz.ntmps5
     go_wp2_with fail
     refine Calls.mono HTK.out ?_; rintro e w1 ⟨v,rfl,ho,kb⟩
     rw [HTS.out.eq] at ho ⊢
     obtain ⟨g,c,rfl,hc,_⟩ := OwnT.cells ho (by simp)
     simp only at hc
     have K1 : Hid (Kept (fun _ => False) w w1) := kept_of kb
     have H1 : Hid (∀ j u,((ts ++ [(endT,s.data.toList.length)]).flatMap rt)[j]? = some u → w1.cell? ⟨g,j,none⟩ = some u) := hc
     rw [HN.out]
     clear ho hc kb
     go_wp2_with fail
     go_loopg [6,7] n (fun (gk : Nat) (v6 v7 : Value) (wr : World) => ∃ j : Nat,v7 = .int .i64 (j : Int) ∧ v6 = .string ⟨(nlL ((ts ++ [(endT,s.data.toList.length)]).take j)).toArray⟩ ∧ Hid (j + gk = n) ∧ Hid (Kept (fun _ => False) w1 wr))
     case atStart => exact ⟨0,rfl,rfl,Nat.zero_add _,Kept.refl _ _⟩
     case round =>
      obtain ⟨j,rfl,rfl,HI,HK⟩ := hrel
      have hcl := nlL_len ((ts ++ [(endT,s.data.toList.length)]).take j) (fun x hx => (HF.out x (List.mem_of_mem_take hx)).2.2.2)
      rw [List.length_take] at hcl
      by_cases hlt : j < n
      · have hlti : (j : Int) < (n : Int) := by omega
        obtain ⟨gk,rfl⟩ : ∃ g,gk = g + 1 := ⟨gk - 1,by have := HI.out; omega⟩
        have hr : j < (ts ++ [(endT,s.data.toList.length)]).length := by have := HN.out; omega
        obtain ⟨c0,c1,c2,c3⟩ := rt_get _ j hr (w := wr) (g := g) (fun k u hu => HK.out.cell (H1.out k u hu) (fun z => z))
        obtain ⟨f1,f2,f3,f4⟩ := HF.out (ts ++ [(endT,s.data.toList.length)])[j] (List.getElem_mem hr)
        have hp := rput_is ⟨(ts ++ [(endT,s.data.toList.length)])[j].1.t.toArray⟩ (by rw [size_ba]; omega) (ts ++ [(endT,s.data.toList.length)])[j].1.k (ts ++ [(endT,s.data.toList.length)])[j].1.n ((ts ++ [(endT,s.data.toList.length)])[j].2 : Int) ⟨f2,f3⟩ wr
        have HP : Hid (Calls Tryz.prog 13 #[tv (ts ++ [(endT,s.data.toList.length)])[j].1.k ⟨(ts ++ [(endT,s.data.toList.length)])[j].1.t.toArray⟩ (ts ++ [(endT,s.data.toList.length)])[j].1.n ((ts ++ [(endT,s.data.toList.length)])[j].2 : Int)] wr fun e w' => e = .returned (.string ⟨(putC (corep (ts ++ [(endT,s.data.toList.length)])[j])).toArray⟩) ∧ Below wr.heap.size wr w') := hp
        have HS : Hid ((⟨(nlL ((ts ++ [(endT,s.data.toList.length)]).take j)).toArray⟩ ++ ⟨#[10,32]⟩ ++ ⟨(putC (corep (ts ++ [(endT,s.data.toList.length)])[j])).toArray⟩ : ByteArray) = ⟨(nlL ((ts ++ [(endT,s.data.toList.length)]).take (j + 1))).toArray⟩) := by
         show _ = _
         rw [take_snocT _ j hr,nlL_snoc]
         exact ba_ext (by simp [ByteArray.data_append])
        have s1 := size_ba (nlL ((ts ++ [(endT,s.data.toList.length)]).take j))
        have s2 := size_ba (putC (corep (ts ++ [(endT,s.data.toList.length)])[j]))
        obtain ⟨A,hA⟩ : ∃ A : ByteArray,A = ⟨(nlL ((ts ++ [(endT,s.data.toList.length)]).take j)).toArray⟩ := ⟨_,rfl⟩
        obtain ⟨P,hP⟩ : ∃ P : ByteArray,P = ⟨(putC (corep (ts ++ [(endT,s.data.toList.length)])[j])).toArray⟩ := ⟨_,rfl⟩
        rw [← hA] at HS s1 ⊢
        rw [← hP] at HP HS s2
        have hAs : A.size ≤ 400000 := by rw [s1]; omega
        have hPs : P.size ≤ 300 := by rw [s2]; exact f4
        generalize (ts ++ [(endT,s.data.toList.length)])[j] = x at *
        obtain ⟨⟨xk,xt,xn,xz⟩,xa⟩ := x
        simp only at c0 c1 c2 c3 HP
        clear hA hP hp f1 f2 f3 f4 hcl s1 s2 hr hlt
        go_wp2_with fail
        refine Calls.mono HP.out ?_; rintro e w2 ⟨rfl,k2⟩
        have HK2 : Hid (Kept (fun _ => False) w1 w2) := HK.out.trans (kept_of k2) (fun i q => .inl q)
        clear k2 HP c0 c1 c2 c3 HK
        go_wp2_with fail
        go_roundg gk
        case measure => omega
        case rel => exact ⟨j + 1,by simp,by rw [← HS.out],by show j + 1 + gk = n; have := HI.out; omega,HK2⟩
      · have hge : ¬ (j : Int) < (n : Int) := by omega
        have htk : (ts ++ [(endT,s.data.toList.length)]).take j = ts ++ [(endT,s.data.toList.length)] := List.take_of_length_le (by have := HN.out; omega)
        rw [htk,nlL_full]
        obtain ⟨T,hT⟩ : ∃ T : ByteArray,T = ⟨(blk (ts.map corep) ++ [10,32]).toArray⟩ := ⟨_,rfl⟩
        have hTl : T.data.toList = blk (ts.map corep) ++ [10,32] := by rw [hT]
        have hTs : T.size ≤ 400000 := by
         have := size_ba (nlL (ts ++ [(endT,s.data.toList.length)]))
         rw [htk] at hcl
         rw [nlL_full] at this hcl
         rw [hT,this]
         have := HN.out
         omega
        rw [← hT]
        have HTL : Hid (T.data.toList = blk (ts.map corep) ++ [10,32]) := hTl
        obtain ⟨w4,hw4⟩ : ∃ w4,w4 = wr := ⟨_,rfl⟩
        rw [← hw4] at HK ⊢
        have KW4 : Hid (Kept (fun _ => False) w w4) := K1.out.trans HK.out (fun i q => .inl q)
        clear hT hTl htk hcl hw4 HK HI
        by_cases hbig : (4096 : Int) < (T.size : Int)
        · go_wp2_with fail
          refine Calls.mono (HA.out w4 KW4.out) ?_; rintro e w5 ⟨rfl,k5⟩
          have HK5 : Hid (Kept (fun _ => False) w w5) := KW4.out.trans k5 (fun i q => .inl q)
          clear k5
          go_wp2_with fail
          go_ret
          exact ⟨rfl,HK5.out⟩
        · have hbl := blanks_both HTS.out (by rw [← HTL.out,len_of]; omega)
          rw [← HTL.out] at hbl
          have SM : Hid ((RQ (qv (queryW s.data.toList)).1 (qv (queryW T.data.toList)).1 ∧ (qv (queryW s.data.toList)).2 = (qv (queryW T.data.toList)).2) ∧ (RX (xv (exprW s.data.toList)).1 (xv (exprW T.data.toList)).1 ∧ (xv (exprW s.data.toList)).2 = (xv (exprW T.data.toList)).2)) := ⟨qv_same hbl.2,xv_same hbl.1⟩
          have HQS : Hid _ := HQA.out s
          have HQT : Hid _ := HQA.out T
          have HXS : Hid _ := HXA.out s
          have HXT : Hid _ := HXA.out T
          clear hbl HQA HXA
          go_wp2_with fail
          refine Calls.mono (HQS.out w4 KW4.out) ?_; rintro e wa1 ⟨ka1,u0,u1,u2,u3,a1,rfl,ho1,hr1⟩
          obtain ⟨WA1,W1,hA1,hE1,hB1,hK1⟩ := mk_var wa1 44 #[.slice none 0 0,.slice none 0 0,.int .i64 0,.int .i64 0] #[u0,u1,u2,u3] (by kernel_rfl) rfl ho1
          obtain ⟨b1,hb1⟩ : ∃ b,b = wa1.heap.size := ⟨_,rfl⟩
          rw [← hb1] at hE1 hB1
          have A1 : Hid (WA1 = wa1.alloc (.cells #[.slice none 0 0,.slice none 0 0,.int .i64 0,.int .i64 0] 44)) := hA1
          have E1 : Hid ((storeVar 44 ⟨b1,0,none⟩ (.agg #[u0,u1,u2,u3])).run Tryz.prog WA1 = .ok () W1) := hE1
          have B1 : Hid (b1 = wa1.heap.size) := hb1
          have HP1 : Hid (W1.heap[b1]? = some (.cells #[u0,u1,u2,u3] 44 (0,0)) ∧ RepL (fun _ => True) W1 [u0,u1,u2,u3] (qv (queryW s.data.toList)).1.flat ∧ Kept (fun _ => False) w W1) := ⟨hB1,repl_kept hr1 hK1,(KW4.out.trans ka1 (fun i q => .inl q)).trans hK1 (fun i q => .inl q)⟩
          have KS1 : Hid (Kept (fun _ => False) w4 W1) := ka1.trans hK1 (fun i q => .inl q)
          clear ka1 ho1 hr1 hA1 hE1 hB1 hK1 hb1
          go_wp2_with (first | (refine st_al al44 ?_; rw [← A1.out, ← B1.out]) | (refine st_sto E1.out ?_))
          refine Calls.mono (HQT.out W1 HP1.out.2.2) ?_; rintro e wa2 ⟨ka2,v0,v1,v2,v3,a2,rfl,ho2,hr2⟩
          obtain ⟨WA2,W2,hA2,hE2,hB2,hK2⟩ := mk_var wa2 44 #[.slice none 0 0,.slice none 0 0,.int .i64 0,.int .i64 0] #[v0,v1,v2,v3] (by kernel_rfl) rfl ho2
          obtain ⟨b2,hb2⟩ : ∃ b,b = wa2.heap.size := ⟨_,rfl⟩
          rw [← hb2] at hE2 hB2
          have A2 : Hid (WA2 = wa2.alloc (.cells #[.slice none 0 0,.slice none 0 0,.int .i64 0,.int .i64 0] 44)) := hA2
          have E2 : Hid ((storeVar 44 ⟨b2,0,none⟩ (.agg #[v0,v1,v2,v3])).run Tryz.prog WA2 = .ok () W2) := hE2
          have B2 : Hid (b2 = wa2.heap.size) := hb2
          have HP2 : Hid (W2.heap[b2]? = some (.cells #[v0,v1,v2,v3] 44 (0,0)) ∧ RepL (fun _ => True) W2 [v0,v1,v2,v3] (qv (queryW T.data.toList)).1.flat ∧ Kept (fun _ => False) w W2) := ⟨hB2,repl_kept hr2 hK2,(HP1.out.2.2.trans ka2 (fun i q => .inl q)).trans hK2 (fun i q => .inl q)⟩
          have KS2 : Hid (Kept (fun _ => False) W1 W2) := ka2.trans hK2 (fun i q => .inl q)
          clear ka2 ho2 hr2 hA2 hE2 hB2 hK2 hb2
          go_wp2_with (first | (refine st_al al44 ?_; rw [← A2.out, ← B2.out]) | (refine st_sto E2.out ?_))
          refine Calls.mono (HXS.out W2 HP2.out.2.2) ?_; rintro e wa3 ⟨ka3,x0,x1,x2,x3,x4,x5,x6,x7,x8,x9,x10,x11,a3,rfl,ho3,hr3⟩
          obtain ⟨WA3,W3,hA3,hE3,hB3,hK3⟩ := mk_var wa3 27 #[.int .i64 0,.int .i64 0,.int .i64 0,.int .i64 0,.string ⟨#[]⟩,.string ⟨#[]⟩,.string ⟨#[]⟩,.int .i64 0,.bool false,.int .i64 0,.slice none 0 0,.slice none 0 0] #[x0,x1,x2,x3,x4,x5,x6,x7,x8,x9,x10,x11] (by kernel_rfl) rfl ho3
          obtain ⟨b3,hb3⟩ : ∃ b,b = wa3.heap.size := ⟨_,rfl⟩
          rw [← hb3] at hE3 hB3
          have A3 : Hid (WA3 = wa3.alloc (.cells #[.int .i64 0,.int .i64 0,.int .i64 0,.int .i64 0,.string ⟨#[]⟩,.string ⟨#[]⟩,.string ⟨#[]⟩,.int .i64 0,.bool false,.int .i64 0,.slice none 0 0,.slice none 0 0] 27)) := hA3
          have E3 : Hid ((storeVar 27 ⟨b3,0,none⟩ (.agg #[x0,x1,x2,x3,x4,x5,x6,x7,x8,x9,x10,x11])).run Tryz.prog WA3 = .ok () W3) := hE3
          have B3 : Hid (b3 = wa3.heap.size) := hb3
          have HP3 : Hid (W3.heap[b3]? = some (.cells #[x0,x1,x2,x3,x4,x5,x6,x7,x8,x9,x10,x11] 27 (0,0)) ∧ RepL (fun _ => True) W3 [x0,x1,x2,x3,x4,x5,x6,x7,x8,x9,x10,x11] (xv (exprW s.data.toList)).1.flat ∧ Kept (fun _ => False) w W3) := ⟨hB3,repl_kept hr3 hK3,(HP2.out.2.2.trans ka3 (fun i q => .inl q)).trans hK3 (fun i q => .inl q)⟩
          have KS3 : Hid (Kept (fun _ => False) W2 W3) := ka3.trans hK3 (fun i q => .inl q)
          clear ka3 ho3 hr3 hA3 hE3 hB3 hK3 hb3
          go_wp2_with (first | (refine st_al al27 ?_; rw [← A3.out, ← B3.out]) | (refine st_sto E3.out ?_))
          refine Calls.mono (HXT.out W3 HP3.out.2.2) ?_; rintro e wa4 ⟨ka4,y0,y1,y2,y3,y4,y5,y6,y7,y8,y9,y10,y11,a4,rfl,ho4,hr4⟩
          obtain ⟨WA4,W4,hA4,hE4,hB4,hK4⟩ := mk_var wa4 27 #[.int .i64 0,.int .i64 0,.int .i64 0,.int .i64 0,.string ⟨#[]⟩,.string ⟨#[]⟩,.string ⟨#[]⟩,.int .i64 0,.bool false,.int .i64 0,.slice none 0 0,.slice none 0 0] #[y0,y1,y2,y3,y4,y5,y6,y7,y8,y9,y10,y11] (by kernel_rfl) rfl ho4
          obtain ⟨b4,hb4⟩ : ∃ b,b = wa4.heap.size := ⟨_,rfl⟩
          rw [← hb4] at hE4 hB4
          have A4 : Hid (WA4 = wa4.alloc (.cells #[.int .i64 0,.int .i64 0,.int .i64 0,.int .i64 0,.string ⟨#[]⟩,.string ⟨#[]⟩,.string ⟨#[]⟩,.int .i64 0,.bool false,.int .i64 0,.slice none 0 0,.slice none 0 0] 27)) := hA4
          have E4 : Hid ((storeVar 27 ⟨b4,0,none⟩ (.agg #[y0,y1,y2,y3,y4,y5,y6,y7,y8,y9,y10,y11])).run Tryz.prog WA4 = .ok () W4) := hE4
          have B4 : Hid (b4 = wa4.heap.size) := hb4
          have HP4 : Hid (W4.heap[b4]? = some (.cells #[y0,y1,y2,y3,y4,y5,y6,y7,y8,y9,y10,y11] 27 (0,0)) ∧ RepL (fun _ => True) W4 [y0,y1,y2,y3,y4,y5,y6,y7,y8,y9,y10,y11] (xv (exprW T.data.toList)).1.flat ∧ Kept (fun _ => False) w W4) := ⟨hB4,repl_kept hr4 hK4,(HP3.out.2.2.trans ka4 (fun i q => .inl q)).trans hK4 (fun i q => .inl q)⟩
          have KS4 : Hid (Kept (fun _ => False) W3 W4) := ka4.trans hK4 (fun i q => .inl q)
          clear ka4 ho4 hr4 hA4 hE4 hB4 hK4 hb4
          have f0 : W4.cell? ⟨b1,0,none⟩ = some u0 := ((KS2.out.trans (KS3.out.trans KS4.out (fun i q => .inl q)) (fun i q => .inl q))).cell (cell_of_row W1 _ 0 _ 44 (0,0) HP1.out.1) (fun z => z)
          have f1 : W4.cell? ⟨b1,1,none⟩ = some u1 := ((KS2.out.trans (KS3.out.trans KS4.out (fun i q => .inl q)) (fun i q => .inl q))).cell (cell_of_row W1 _ 1 _ 44 (0,0) HP1.out.1) (fun z => z)
          have f2 : W4.cell? ⟨b1,2,none⟩ = some u2 := ((KS2.out.trans (KS3.out.trans KS4.out (fun i q => .inl q)) (fun i q => .inl q))).cell (cell_of_row W1 _ 2 _ 44 (0,0) HP1.out.1) (fun z => z)
          have f3 : W4.cell? ⟨b1,3,none⟩ = some u3 := ((KS2.out.trans (KS3.out.trans KS4.out (fun i q => .inl q)) (fun i q => .inl q))).cell (cell_of_row W1 _ 3 _ 44 (0,0) HP1.out.1) (fun z => z)
          have g0 : W4.cell? ⟨b2,0,none⟩ = some v0 := ((KS3.out.trans KS4.out (fun i q => .inl q))).cell (cell_of_row W2 _ 0 _ 44 (0,0) HP2.out.1) (fun z => z)
          have g1 : W4.cell? ⟨b2,1,none⟩ = some v1 := ((KS3.out.trans KS4.out (fun i q => .inl q))).cell (cell_of_row W2 _ 1 _ 44 (0,0) HP2.out.1) (fun z => z)
          have g2 : W4.cell? ⟨b2,2,none⟩ = some v2 := ((KS3.out.trans KS4.out (fun i q => .inl q))).cell (cell_of_row W2 _ 2 _ 44 (0,0) HP2.out.1) (fun z => z)
          have g3 : W4.cell? ⟨b2,3,none⟩ = some v3 := ((KS3.out.trans KS4.out (fun i q => .inl q))).cell (cell_of_row W2 _ 3 _ 44 (0,0) HP2.out.1) (fun z => z)
          have h0 : W4.cell? ⟨b3,0,none⟩ = some x0 := (KS4.out).cell (cell_of_row W3 _ 0 _ 27 (0,0) HP3.out.1) (fun z => z)
          have h1 : W4.cell? ⟨b3,1,none⟩ = some x1 := (KS4.out).cell (cell_of_row W3 _ 1 _ 27 (0,0) HP3.out.1) (fun z => z)
          have h2 : W4.cell? ⟨b3,2,none⟩ = some x2 := (KS4.out).cell (cell_of_row W3 _ 2 _ 27 (0,0) HP3.out.1) (fun z => z)
          have h3 : W4.cell? ⟨b3,3,none⟩ = some x3 := (KS4.out).cell (cell_of_row W3 _ 3 _ 27 (0,0) HP3.out.1) (fun z => z)
          have h4 : W4.cell? ⟨b3,4,none⟩ = some x4 := (KS4.out).cell (cell_of_row W3 _ 4 _ 27 (0,0) HP3.out.1) (fun z => z)
          have h5 : W4.cell? ⟨b3,5,none⟩ = some x5 := (KS4.out).cell (cell_of_row W3 _ 5 _ 27 (0,0) HP3.out.1) (fun z => z)
          have h6 : W4.cell? ⟨b3,6,none⟩ = some x6 := (KS4.out).cell (cell_of_row W3 _ 6 _ 27 (0,0) HP3.out.1) (fun z => z)
          have h7 : W4.cell? ⟨b3,7,none⟩ = some x7 := (KS4.out).cell (cell_of_row W3 _ 7 _ 27 (0,0) HP3.out.1) (fun z => z)
          have h8 : W4.cell? ⟨b3,8,none⟩ = some x8 := (KS4.out).cell (cell_of_row W3 _ 8 _ 27 (0,0) HP3.out.1) (fun z => z)
          have h9 : W4.cell? ⟨b3,9,none⟩ = some x9 := (KS4.out).cell (cell_of_row W3 _ 9 _ 27 (0,0) HP3.out.1) (fun z => z)
          have h10 : W4.cell? ⟨b3,10,none⟩ = some x10 := (KS4.out).cell (cell_of_row W3 _ 10 _ 27 (0,0) HP3.out.1) (fun z => z)
          have h11 : W4.cell? ⟨b3,11,none⟩ = some x11 := (KS4.out).cell (cell_of_row W3 _ 11 _ 27 (0,0) HP3.out.1) (fun z => z)
          have i0 : W4.cell? ⟨b4,0,none⟩ = some y0 := ((Kept.refl (fun _ => False) W4)).cell (cell_of_row W4 _ 0 _ 27 (0,0) HP4.out.1) (fun z => z)
          have i1 : W4.cell? ⟨b4,1,none⟩ = some y1 := ((Kept.refl (fun _ => False) W4)).cell (cell_of_row W4 _ 1 _ 27 (0,0) HP4.out.1) (fun z => z)
          have i2 : W4.cell? ⟨b4,2,none⟩ = some y2 := ((Kept.refl (fun _ => False) W4)).cell (cell_of_row W4 _ 2 _ 27 (0,0) HP4.out.1) (fun z => z)
          have i3 : W4.cell? ⟨b4,3,none⟩ = some y3 := ((Kept.refl (fun _ => False) W4)).cell (cell_of_row W4 _ 3 _ 27 (0,0) HP4.out.1) (fun z => z)
          have i4 : W4.cell? ⟨b4,4,none⟩ = some y4 := ((Kept.refl (fun _ => False) W4)).cell (cell_of_row W4 _ 4 _ 27 (0,0) HP4.out.1) (fun z => z)
          have i5 : W4.cell? ⟨b4,5,none⟩ = some y5 := ((Kept.refl (fun _ => False) W4)).cell (cell_of_row W4 _ 5 _ 27 (0,0) HP4.out.1) (fun z => z)
          have i6 : W4.cell? ⟨b4,6,none⟩ = some y6 := ((Kept.refl (fun _ => False) W4)).cell (cell_of_row W4 _ 6 _ 27 (0,0) HP4.out.1) (fun z => z)
          have i7 : W4.cell? ⟨b4,7,none⟩ = some y7 := ((Kept.refl (fun _ => False) W4)).cell (cell_of_row W4 _ 7 _ 27 (0,0) HP4.out.1) (fun z => z)
          have i8 : W4.cell? ⟨b4,8,none⟩ = some y8 := ((Kept.refl (fun _ => False) W4)).cell (cell_of_row W4 _ 8 _ 27 (0,0) HP4.out.1) (fun z => z)
          have i9 : W4.cell? ⟨b4,9,none⟩ = some y9 := ((Kept.refl (fun _ => False) W4)).cell (cell_of_row W4 _ 9 _ 27 (0,0) HP4.out.1) (fun z => z)
          have i10 : W4.cell? ⟨b4,10,none⟩ = some y10 := ((Kept.refl (fun _ => False) W4)).cell (cell_of_row W4 _ 10 _ 27 (0,0) HP4.out.1) (fun z => z)
          have i11 : W4.cell? ⟨b4,11,none⟩ = some y11 := ((Kept.refl (fun _ => False) W4)).cell (cell_of_row W4 _ 11 _ 27 (0,0) HP4.out.1) (fun z => z)
          obtain ⟨fe,hfe⟩ : ∃ f : Int,f = (qv (queryW s.data.toList)).2 := ⟨_,rfl⟩
          obtain ⟨ge,hge⟩ : ∃ f : Int,f = (xv (exprW s.data.toList)).2 := ⟨_,rfl⟩
          rw [← SM.out.1.2, ← hfe, ← SM.out.2.2, ← hge]
          have HSQ : Hid (Calls Tryz.prog 15 #[.agg #[u0,u1,u2,u3],.agg #[v0,v1,v2,v3],.bool false] W4 fun e w' => e = .returned (.bool true) ∧ Kept (fun _ => False) W4 w') := by
           obtain ⟨N,hN⟩ := VR.of (repl_kept HP1.out.2.1 (KS2.out.trans (KS3.out.trans KS4.out (fun i q => .inl q)) (fun i q => .inl q))) (repl_kept HP2.out.2.1 (KS3.out.trans KS4.out (fun i q => .inl q))) SM.out.1.1.row
           exact (same_all N).2.2.1 W4 _ _ _ _ _ _ _ _ hN
          have HSX : Hid (∀ W,Kept (fun _ => False) W4 W → Calls Tryz.prog 16 #[.agg #[x0,x1,x2,x3,x4,x5,x6,x7,x8,x9,x10,x11],.agg #[y0,y1,y2,y3,y4,y5,y6,y7,y8,y9,y10,y11],.bool false] W fun e w' => e = .returned (.bool true) ∧ Kept (fun _ => False) W w') := fun W k => by
           obtain ⟨N,hN⟩ := VR.of (repl_kept (repl_kept HP3.out.2.1 KS4.out) k) (repl_kept HP4.out.2.1 k) SM.out.2.1.row
           exact (same_all N).2.1 W _ _ _ _ _ _ _ _ _ _ _ _ _ _ _ _ _ _ _ _ _ _ _ _ hN
          have HK3 : Hid (Kept (fun _ => False) W3 W4) := KS4.out
          clear hfe hge
          go_wp2_with (first | (refine st_al al27 ?_; rw [← A4.out, ← B4.out]) | (refine st_sto E4.out ?_))
          refine Calls.mono HSQ.out ?_; rintro e w6 ⟨rfl,k6⟩
          have KW6 : Hid (Kept (fun _ => False) W4 w6) := k6
          clear k6 f0 g0 f1 g1 f2 g2 f3 g3 h0 i0 h1 i1 h2 i2 h3 i3 h4 i4 h5 i5 h6 i6 h7 i7 h8 i8 h9 i9 h10 i10 h11 i11
          have h0 : w6.cell? ⟨b3,0,none⟩ = some x0 := ((HK3.out.trans KW6.out (fun i q => .inl q))).cell (cell_of_row W3 _ 0 _ 27 (0,0) HP3.out.1) (fun z => z)
          have h1 : w6.cell? ⟨b3,1,none⟩ = some x1 := ((HK3.out.trans KW6.out (fun i q => .inl q))).cell (cell_of_row W3 _ 1 _ 27 (0,0) HP3.out.1) (fun z => z)
          have h2 : w6.cell? ⟨b3,2,none⟩ = some x2 := ((HK3.out.trans KW6.out (fun i q => .inl q))).cell (cell_of_row W3 _ 2 _ 27 (0,0) HP3.out.1) (fun z => z)
          have h3 : w6.cell? ⟨b3,3,none⟩ = some x3 := ((HK3.out.trans KW6.out (fun i q => .inl q))).cell (cell_of_row W3 _ 3 _ 27 (0,0) HP3.out.1) (fun z => z)
          have h4 : w6.cell? ⟨b3,4,none⟩ = some x4 := ((HK3.out.trans KW6.out (fun i q => .inl q))).cell (cell_of_row W3 _ 4 _ 27 (0,0) HP3.out.1) (fun z => z)
          have h5 : w6.cell? ⟨b3,5,none⟩ = some x5 := ((HK3.out.trans KW6.out (fun i q => .inl q))).cell (cell_of_row W3 _ 5 _ 27 (0,0) HP3.out.1) (fun z => z)
          have h6 : w6.cell? ⟨b3,6,none⟩ = some x6 := ((HK3.out.trans KW6.out (fun i q => .inl q))).cell (cell_of_row W3 _ 6 _ 27 (0,0) HP3.out.1) (fun z => z)
          have h7 : w6.cell? ⟨b3,7,none⟩ = some x7 := ((HK3.out.trans KW6.out (fun i q => .inl q))).cell (cell_of_row W3 _ 7 _ 27 (0,0) HP3.out.1) (fun z => z)
          have h8 : w6.cell? ⟨b3,8,none⟩ = some x8 := ((HK3.out.trans KW6.out (fun i q => .inl q))).cell (cell_of_row W3 _ 8 _ 27 (0,0) HP3.out.1) (fun z => z)
          have h9 : w6.cell? ⟨b3,9,none⟩ = some x9 := ((HK3.out.trans KW6.out (fun i q => .inl q))).cell (cell_of_row W3 _ 9 _ 27 (0,0) HP3.out.1) (fun z => z)
          have h10 : w6.cell? ⟨b3,10,none⟩ = some x10 := ((HK3.out.trans KW6.out (fun i q => .inl q))).cell (cell_of_row W3 _ 10 _ 27 (0,0) HP3.out.1) (fun z => z)
          have h11 : w6.cell? ⟨b3,11,none⟩ = some x11 := ((HK3.out.trans KW6.out (fun i q => .inl q))).cell (cell_of_row W3 _ 11 _ 27 (0,0) HP3.out.1) (fun z => z)
          have i0 : w6.cell? ⟨b4,0,none⟩ = some y0 := (KW6.out).cell (cell_of_row W4 _ 0 _ 27 (0,0) HP4.out.1) (fun z => z)
          have i1 : w6.cell? ⟨b4,1,none⟩ = some y1 := (KW6.out).cell (cell_of_row W4 _ 1 _ 27 (0,0) HP4.out.1) (fun z => z)
          have i2 : w6.cell? ⟨b4,2,none⟩ = some y2 := (KW6.out).cell (cell_of_row W4 _ 2 _ 27 (0,0) HP4.out.1) (fun z => z)
          have i3 : w6.cell? ⟨b4,3,none⟩ = some y3 := (KW6.out).cell (cell_of_row W4 _ 3 _ 27 (0,0) HP4.out.1) (fun z => z)
          have i4 : w6.cell? ⟨b4,4,none⟩ = some y4 := (KW6.out).cell (cell_of_row W4 _ 4 _ 27 (0,0) HP4.out.1) (fun z => z)
          have i5 : w6.cell? ⟨b4,5,none⟩ = some y5 := (KW6.out).cell (cell_of_row W4 _ 5 _ 27 (0,0) HP4.out.1) (fun z => z)
          have i6 : w6.cell? ⟨b4,6,none⟩ = some y6 := (KW6.out).cell (cell_of_row W4 _ 6 _ 27 (0,0) HP4.out.1) (fun z => z)
          have i7 : w6.cell? ⟨b4,7,none⟩ = some y7 := (KW6.out).cell (cell_of_row W4 _ 7 _ 27 (0,0) HP4.out.1) (fun z => z)
          have i8 : w6.cell? ⟨b4,8,none⟩ = some y8 := (KW6.out).cell (cell_of_row W4 _ 8 _ 27 (0,0) HP4.out.1) (fun z => z)
          have i9 : w6.cell? ⟨b4,9,none⟩ = some y9 := (KW6.out).cell (cell_of_row W4 _ 9 _ 27 (0,0) HP4.out.1) (fun z => z)
          have i10 : w6.cell? ⟨b4,10,none⟩ = some y10 := (KW6.out).cell (cell_of_row W4 _ 10 _ 27 (0,0) HP4.out.1) (fun z => z)
          have i11 : w6.cell? ⟨b4,11,none⟩ = some y11 := (KW6.out).cell (cell_of_row W4 _ 11 _ 27 (0,0) HP4.out.1) (fun z => z)
          go_wp2_with fail
          refine Calls.mono (HSX.out w6 KW6.out) ?_; rintro e w7 ⟨rfl,k7⟩
          have KW7 : Hid (Kept (fun _ => False) w w7) := (HP4.out.2.2.trans KW6.out (fun i q => .inl q)).trans k7 (fun i q => .inl q)
          clear k7 h0 i0 h1 i1 h2 i2 h3 i3 h4 i4 h5 i5 h6 i6 h7 i7 h8 i8 h9 i9 h10 i10 h11 i11
          go_wp2_with fail
          refine Calls.mono (HA.out w7 KW7.out) ?_; rintro e w8 ⟨rfl,k8⟩
          have KW8 : Hid (Kept (fun _ => False) w w8) := KW7.out.trans k8 (fun i q => .inl q)
          clear k8
          go_wp2_with fail
          go_ret
          exact ⟨rfl,KW8.out⟩
   · have hb : ¬ (tokV s.data.toList).2.2 = 0 := hbad
     clear hbad
     go_enter Tryz.func5,Tryz.ntmps5
     go_wp2_with fail
     refine Calls.mono HTK.out ?_; rintro e w1 ⟨v,rfl,ho,kb⟩
     have K1 : Hid (Kept (fun _ => False) w w1) := kept_of kb
     obtain ⟨ee,hee⟩ : ∃ ee : Int,ee = (tokV s.data.toList).2.2 := ⟨_,rfl⟩
     rw [← hee] at hb ⊢
     obtain ⟨pp,hpp⟩ : ∃ pp : Int,pp = (tokV s.data.toList).2.1 := ⟨_,rfl⟩
     rw [← hpp]
     clear ho kb hee hpp
     go_wp2_with fail
     refine Calls.mono (HA.out w1 K1.out) ?_; rintro e w2 ⟨rfl,k2⟩
     have HK : Hid (Kept (fun _ => False) w w2) := K1.out.trans k2 (fun i q => .inl q)
     clear k2
     go_wp2_with fail
     go_ret
     exact ⟨rfl,HK.out⟩
end Go.Proofs.YtlgkghebemfpjaaGreatDoor.Pa
