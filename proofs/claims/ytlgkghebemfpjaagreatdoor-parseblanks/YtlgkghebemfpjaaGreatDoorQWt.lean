/- Tokens in memory, and a parser over them. Deep, of the document. The steps of whole. -/
import Derived.Test.YtlgkghebemfpjaaGreatDoorQAr
import Derived.Test.YtlgkghebemfpjaaGreatDoorQLAs
import Derived.Test.YtlgkghebemfpjaaGreatDoorQFo
import Derived.Test.YtlgkghebemfpjaaGreatDoorQLn
import Derived.Test.YtlgkghebemfpjaaGreatDoorQPm
import Derived.Deep.LoopGhost
import Derived.Deep.MidRow
import Derived.Deep.RegionHeld
namespace Go.Proofs.YtlgkghebemfpjaaGreatDoor.Pa
open Go.ChangeShapes Go.WideShapes Go.ChangeAt Go.RowKit
set_option linter.unusedVariables false
set_option maxRecDepth 100000
theorem signN_two (l : List UInt8) : signN l ≤ 2 := by
 unfold signN
 split
 · omega
 · split
   · omega
   · split <;> omega
theorem first_small (l : List UInt8) : (firstV l).t.length ≤ 64 ∧ ((firstV l).z ≠ 0 → (firstV l).k ≠ 0) := by
 have h0 : noT.t.length ≤ 64 ∧ (noT.z ≠ 0 → noT.k ≠ 0) := ⟨Nat.zero_le _,fun h => absurd rfl h⟩
 unfold firstV
 split
 · unfold wordV
   split
   · exact h0
   · split
     · refine ⟨?_,fun _ => (by decide : (2 : Int) ≠ 0)⟩
       show (up (l.takeWhile wdB)).length ≤ 64
       simp only [up,Lib.toUpperA,List.length_map]
       omega
     · refine ⟨?_,fun _ => (by decide : (1 : Int) ≠ 0)⟩
       show (l.takeWhile wdB).length ≤ 64
       omega
 · split
   · unfold nameV
     split
     · rename_i t m h
       split
       · exact h0
       · rename_i hh
         refine ⟨?_,fun _ => (by decide : (1 : Int) ≠ 0)⟩
         show t.length ≤ 64
         by_cases q : t.length ≤ 64
         · exact q
         · exact absurd (.inr (by omega)) hh
     · exact h0
   · split
     · unfold digV
       split
       · exact ⟨Nat.zero_le _,fun _ => (by decide : (3 : Int) ≠ 0)⟩
       · exact h0
     · split
       · unfold textV
         split
         · rename_i t m h
           split
           · exact h0
           · refine ⟨?_,fun _ => (by decide : (4 : Int) ≠ 0)⟩
             show t.length ≤ 64
             omega
         · exact h0
       · unfold signV
         split
         · exact h0
         · refine ⟨?_,fun _ => (by decide : (5 : Int) ≠ 0)⟩
           show (sgnT (l.take (signN l))).length ≤ 64
           unfold sgnT
           split
           · simp
           · have := signN_two l
             rw [List.length_take]
             omega
theorem lexF_small : ∀ (f : Nat) (l : List UInt8) (a : Nat) (x : TK × Nat),x ∈ (lexF f l a).1 → x.1.t.length ≤ 64 ∧ x.1.k ≠ 0
 | 0,l,a,x,h => by simp [lexF] at h
 | f + 1,l,a,x,h => by
   by_cases hl : l = []
   · rw [hl,lexF_nil] at h; cases h
   · by_cases hg : 0 < gapN l
     · rw [lexF_gap hl hg] at h
       exact lexF_small f _ _ x h
     · by_cases hz : (firstV l).z = 0
       · rw [lexF_bad hl (by omega) hz] at h; cases h
       · rw [lexF_tok hl (by omega) hz] at h
         rcases List.mem_cons.1 h with rfl | h
         · exact ⟨(first_small l).1,(first_small l).2 hz⟩
         · exact lexF_small f _ _ x h
theorem lexF_few : ∀ (f : Nat) (l : List UInt8) (a : Nat),(lexF f l a).1.length ≤ l.length
 | 0,l,a => by simp [lexF]
 | f + 1,l,a => by
   by_cases hl : l = []
   · rw [hl,lexF_nil]; simp
   · by_cases hg : 0 < gapN l
     · rw [lexF_gap hl hg]
       have := lexF_few f (l.drop (gapN l)) (a + gapN l)
       rw [List.length_drop] at this
       omega
     · by_cases hz : (firstV l).z = 0
       · rw [lexF_bad hl (by omega) hz]; simp
       · rw [lexF_tok hl (by omega) hz]
         have := lexF_few f (l.drop (firstV l).z) (a + (firstV l).z)
         have h2 := first_le l hl
         rw [List.length_drop] at this
         show (lexF f (l.drop (firstV l).z) (a + (firstV l).z)).1.length + 1 ≤ l.length
         omega
def tks (r : List (TK × Nat)) : List Tk := r.map fun x => ⟨x.1.k,x.1.t,x.1.n,x.2⟩
theorem tok_small {l : List UInt8} {x : TK × Nat} (h : x ∈ (tokV l).1) : x.1.t.length ≤ 64 := by
 unfold tokV at h
 split at h
 · cases h
 · split at h
   · rcases List.mem_append.1 h with h | h
     · exact (lexF_small _ _ _ x h).1
     · rw [List.mem_singleton] at h
       rw [h]
       exact Nat.zero_le _
   · cases h
theorem tok_few (l : List UInt8) : (tokV l).1.length ≤ 4097 := by
 unfold tokV
 split
 · exact Nat.zero_le _
 · split
   · have := lexF_few l.length l 0
     rw [List.length_append]
     simp only [List.length_cons,List.length_nil]
     omega
   · exact Nat.zero_le _
theorem tok_wf {l : List UInt8} (h : (tokV l).2.2 = 0) : WF (tks (tokV l).1) := by
 unfold tokV at h ⊢
 split at h
 · cases h
 · rename_i hl
   rw [if_neg hl]
   split at h
   · rename_i hn
     refine ⟨tks (lexF l.length l 0).1,⟨0, [],0,l.length⟩, ?_,rfl⟩
     simp [tks,endT]
   · cases h
theorem kept_of {w w' : World} (h : Below w.heap.size w w') : Kept (fun _ => False) w w' := ⟨h.os,h.tape,h.output,h.size,fun k hk _ => h.block k hk⟩
theorem pa_new {w : World} {B : Nat} {v : Value} {l : List UInt8} (h : OwnT w B v (tokV l).1) (h0 : (tokV l).2.2 = 0) (hT : Lib.Utf8Tabs 2 3 w) (hB : 4 ≤ B) : PA (w.alloc (.cells #[v,.int .i64 0,.int .i64 0] 88)) w.heap.size ⟨tks (tokV l).1,0,0⟩ := by
 have hne : (tokV l).1 ≠ [] := by
  intro e
  have := (tok_wf h0).ne
  rw [e] at this
  exact this rfl
 have hlen : (tks (tokV l).1).length = (tokV l).1.length := List.length_map _
 have hpos : (tokV l).1.length ≠ 0 := fun e => hne (List.eq_nil_of_length_eq_zero e)
 obtain ⟨_,h2⟩ := h
 rcases h2 with ⟨_,e⟩ | ⟨g,cap,cur,rfl,hg,hb,hn,hc,hs,ht⟩
 · exact absurd e hpos
 have hgl : g < w.heap.size := blk_lt hb
 have hk : Kept (fun _ => False) w (w.alloc (.cells #[.slice (some ⟨g,0,none⟩) (tokV l).1.length cap,.int .i64 0,.int .i64 0] 88)) := (Kept.refl _ w).alloc _
 refine ⟨g,0,cap, ?_, ?_, ?_,hgl, ?_,tok_wf h0,by omega,tabs_stay hT (hk.block 2 (by omega) (fun z => z)) (hk.block 3 (by omega) (fun z => z)), ?_⟩
 · show CellsF _ _ [.slice (some ⟨g,0,none⟩) (tks (tokV l).1).length cap,.int .i64 0,.int .i64 0]
   rw [hlen]
   exact CellsF.new w [.slice (some ⟨g,0,none⟩) (tokV l).1.length cap,.int .i64 0,.int .i64 0] 88 (by simp)
 · show (tks (tokV l).1).length ≤ cap
   omega
 · have : maxLen = 9223372036854775807 := rfl
   omega
 · intro i t ht'
   have hi : i < (tokV l).1.length := by
    rcases Nat.lt_or_ge i (tokV l).1.length with q | q
    · exact q
    · have : (tks (tokV l).1)[i]? = none := List.getElem?_eq_none (by omega)
      rw [this] at ht'; cases ht'
   have e : t = ⟨((tokV l).1[i]).1.k,((tokV l).1[i]).1.t,((tokV l).1[i]).1.n,((tokV l).1[i]).2⟩ := by
    unfold tks at ht'
    rw [List.getElem?_map,List.getElem?_eq_getElem hi] at ht'
    injection ht' with q
    exact q.symm
   have ha := rt_at (tokV l).1 i hi
   have hcell : ∀ j u,((tokV l).1.flatMap rt)[j]? = some u → j < (tokV l).1.length * 4 → (w.alloc (.cells #[.slice (some ⟨g,0,none⟩) (tokV l).1.length cap,.int .i64 0,.int .i64 0] 88)).cell? ⟨g,0 + j,none⟩ = some u := by
    intro j u hu hj
    rw [Nat.zero_add]
    refine (World.cell?_of_block (a := ⟨g,j,none⟩) (hk.block g hgl (fun z => z))).trans ?_
    refine (cell_of_row w g j cur 40 (0,0) hb).trans ?_
    rw [← ht,List.getElem?_take,if_pos hj] at hu
    rw [← hu,Array.getElem?_toList]
   rw [e]
   have hj : i * 4 + 3 < (tokV l).1.length * 4 := by omega
   exact ⟨hcell _ _ ha.1 (by omega),hcell _ _ ha.2.1 (by omega),hcell _ _ ha.2.2.1 (by omega),hcell _ _ ha.2.2.2 (by omega)⟩
 · intro i t ht'
   unfold tks at ht'
   rw [List.getElem?_map] at ht'
   cases q : (tokV l).1[i]? with
   | none => rw [q] at ht'; cases ht'
   | some x =>
     rw [q] at ht'
     injection ht' with q2
     rw [← q2]
     have := tok_small (List.mem_of_getElem? q)
     show x.1.t.length ≤ 5000
     omega
inductive WR (α : Type) where
 | out
 | no (a e : Int)
 | yes (x : α)
def toWR {α : Type} : PR α → WR α
 | .out => .out
 | .bad a e => .no a e
 | .ok x S => if S.hd.k ≠ 0 then .no S.hd.a 170 else .yes x
def wholeM {α : Type} (m : PM α) (l : List UInt8) : WR α := if (tokV l).2.2 ≠ 0 then .no (tokV l).2.1 (tokV l).2.2 else toWR (m ⟨tks (tokV l).1,0,0⟩)
def WOut {α : Type} (z : Value) (R : (Nat → Prop) → World → Value → α → Prop) (w : World) (r : WR α) (e : Ending) (w' : World) : Prop := Kept (fun _ => False) w w' ∧ match r with
 | .out => False
 | .no a er => e = .returned (.tuple #[z,.int .i64 a,.int .i64 er])
 | .yes x => ∃ v,e = .returned (.tuple #[v,.int .i64 0,.int .i64 0]) ∧ R (fun g => w.heap.size ≤ g) w' v x
theorem row_store (w : World) (b : Nat) (t ty : TypeId) (old cs : Array Value) (hb : w.heap[b]? = some (.cells old t (0,0))) (hs : (Tryz.prog.info? ty).map (·.size) = some cs.size) (ho : old.size = cs.size) (h1 : cs.toList.all (·.oneCell') = true) :
 ∃ w',(storeVar ty ⟨b,0,none⟩ (.agg cs)).run Tryz.prog w = .ok () w' ∧ w'.heap[b]? = some (.cells cs t (0,0)) ∧ Kept (On b) w w' ∧ w'.heap.size = w.heap.size :=
 ⟨_,run_storeVar_row w b t ty old cs hb hs ho (by rw [← Array.all_toList]; exact h1),row_new cs hb,kept_row cs,by simp [World.setRow]⟩
theorem one_store (w : World) (b : Nat) (t ty : TypeId) (u v : Value) (hb : w.heap[b]? = some (.cells #[u] t (0,0))) (hs : ∀ {w : World} {b j : Nat} {u v : Value},w.cell? ⟨b,j,none⟩ = some u → w.frozen? ⟨b,j,none⟩ = false → Lf v = true → (storeVar ty ⟨b,j,none⟩ v).run Tryz.prog w = .ok () (w.setCell ⟨b,j,none⟩ v)) (h1 : Lf v = true) :
 ∃ w',(storeVar ty ⟨b,0,none⟩ v).run Tryz.prog w = .ok () w' ∧ w'.heap[b]? = some (.cells #[v] t (0,0)) ∧ Kept (On b) w w' ∧ w'.heap.size = w.heap.size :=
 ⟨_,hs (cell_of_row w b 0 _ t (0,0) hb) (frozen_of_row w _ _ _ _ hb) h1,cells_set w b 0 #[u] t v hb,kept_set w b 0 v,by simp⟩
theorem st_sto {w w' : World} {ops : Array Oper} {rest : List Oper} {o : Oper} {a : Act} {Q : Exit → Act → World → Prop} {ty : TypeId} {x y : Operand} {ad : Addr} {v : Value} (hr : (storeVar ty ad v).run Tryz.prog w = .ok () w') (h : wpList Tryz.prog ops Q rest (a.put o.dst undef) w')
 (hgd : o.guard = none := by rfl) (ho : o.op = .store ty x y := by rfl) (hx : a.eval x = .pointer (some ad) := by rfl) (hy : a.eval y = v := by rfl) : wpList Tryz.prog ops Q (o :: rest) a w :=
 wpList_plain hgd fun _ hK => by
  unfold Oper.wp execOp
  simp only [ho,hx,hy,Instr.storeAt,Instr.sureAddr,Sem.run_bind,Sem.run_pure,Result.andThen_ok,hr]
  exact hK _ _ h
theorem st_ld {ops : Array Oper} {rest : List Oper} {o : Oper} {a : Act} {Q : Exit → Act → World → Prop} {w : World} {ty : TypeId} {x : Operand} {ad : Addr} {v : Value} (hr : (loadVar ty ad).run Tryz.prog w = .ok v w) (h : wpList Tryz.prog ops Q rest (a.put o.dst v) w)
 (hgd : o.guard = none := by rfl) (ho : o.op = .load ty x := by rfl) (hx : a.eval x = .pointer (some ad) := by rfl) : wpList Tryz.prog ops Q (o :: rest) a w :=
 wpList_plain hgd fun _ hK => by
  unfold Oper.wp execOp
  simp only [ho,hx,Instr.loadAt,Instr.sureAddr,Sem.run_bind,Sem.run_pure,Result.andThen_ok,hr]
  exact hK _ _ h
theorem al29 (w : World) : (Instr.alloc 29 true (.tuple #[])).run Tryz.prog w = .ok (ptr w.heap.size) (w.alloc (.cells #[.int .i64 0] 29)) := by
 simp [go_sem]
theorem bx88 (c0 c1 c2 : Value) (w : World) : (Instr.box 88 (.agg #[c0,c1,c2])).run Tryz.prog w = .ok (ptr w.heap.size) (w.alloc (.cells #[c0,c1,c2] 88)) := by
 simp [go_sem]
theorem st_al {w : World} {ops : Array Oper} {rest : List Oper} {o : Oper} {a : Act} {Q : Exit → Act → World → Prop} {ty : TypeId} {z : Array Value} (hr : ∀ w : World,(Instr.alloc ty true (.tuple #[])).run Tryz.prog w = .ok (ptr w.heap.size) (w.alloc (.cells z ty))) (h : wpList Tryz.prog ops Q rest (a.put o.dst (ptr w.heap.size)) (w.alloc (.cells z ty)))
 (hgd : o.guard = none := by rfl) (ho : o.op = .alloc ty := by rfl) : wpList Tryz.prog ops Q (o :: rest) a w :=
 wpList_plain hgd fun _ hK => by
  unfold Oper.wp execOp
  simp only [ho,Sem.run_bind,hr,Result.andThen_ok]
  exact hK _ _ h
theorem st_bx {w : World} {ops : Array Oper} {rest : List Oper} {o : Oper} {a : Act} {Q : Exit → Act → World → Prop} {ty : TypeId} {x : Operand} {cs : Array Value} {v : Value} (hr : ∀ w : World,(Instr.box ty v).run Tryz.prog w = .ok (ptr w.heap.size) (w.alloc (.cells cs ty))) (h : wpList Tryz.prog ops Q rest (a.put o.dst (ptr w.heap.size)) (w.alloc (.cells cs ty)))
 (hgd : o.guard = none := by rfl) (ho : o.op = .box ty x := by rfl) (hx : a.eval x = v := by rfl) : wpList Tryz.prog ops Q (o :: rest) a w :=
 wpList_plain hgd fun _ hK => by
  unfold Oper.wp execOp
  simp only [ho,hx,Sem.run_bind,hr,Result.andThen_ok]
  exact hK _ _ h
section
variable {P : Program} {ops : Array Oper} {Q : Exit → Act → World → Prop} {md : Region.Mode} {S : World → Prop} {n : Nat} {l : Array Bool} {a : Act} {w : World}
theorem tH (i : Nat) {oi : Oper} (v : Value) (hS : S w) (hy : ∀ w,S w → (execOp a.eval oi).run P w = .ok (.value v) w) (h : wpAnyH P md ops Q S n (l.setIfInBounds i true) (a.put oi.dst v) w) (hi : ops[i]? = some oi := by rfl) (hwt : Region.wanted oi (yielded ops a.tmps) = true := by rfl)
 (hs : Region.noSelect ops = true := by kernel_rfl) (hf : Region.free md ops l i = true := by kernel_rfl) (hr : (Region.ready md ops l).contains i = true := by kernel_rfl)
 (hQ : ∀ c a w,Q (.panic c) (a.put oi.dst v) w → Q (.panic c) a w := by exact (fun _ _ _ h => h)) : wpAnyH P md ops Q S (n + 1) l a w :=
 wpAnyH_take hi hs hf hr hQ (Or.inl ⟨hwt,hy⟩) hS h
end
def OnlyN (K : Act → World → Prop) : Exit → Act → World → Prop
 | .normal,a,w => K a w
 | _,_,_ => False
theorem wp_only {P : Program} {c : Code} {K : Act → World → Prop} {Q : Exit → Act → World → Prop} {a : Act} {w : World} (h : c.wp P (OnlyN K) a w) : c.wp P (Exit.then K Q) a w :=
 wp_mono h (fun e a w q => by cases e <;> first | exact q | exact q.elim)
theorem ex_load {o : Oper} {a : Act} {ty : TypeId} {x : Operand} {ad : Addr} {v : Value} {w : World} (hr : (loadVar ty ad).run Tryz.prog w = .ok v w) (ho : o.op = .load ty x := by rfl) (hx : a.eval x = .pointer (some ad) := by rfl) : (execOp a.eval o).run Tryz.prog w = .ok (.value v) w := by
 unfold execOp
 simp only [ho,hx,Instr.loadAt,Instr.sureAddr,Sem.run_bind,Sem.run_pure,Result.andThen_ok,hr]
theorem op_sto {o : Oper} {a : Act} {ty : TypeId} {x y : Operand} {ad : Addr} {v : Value} {w : World} {K : Act → World → Prop} {Q : Exit → Act → World → Prop} (hr : (storeVar ty ad v).run Tryz.prog w = .ok () w) (h : K (a.put o.dst undef) w) (ho : o.op = .store ty x y := by rfl) (hx : a.eval x = .pointer (some ad) := by rfl) (hy : a.eval y = v := by rfl) : Oper.wp Tryz.prog o a w K Q := by
 unfold Oper.wp execOp
 simp only [ho,hx,hy,Instr.storeAt,Instr.sureAddr,Sem.run_bind,Sem.run_pure,Result.andThen_ok,hr]
 exact h
theorem modify_same {l : Array Obj} {b : Nat} {o : Obj} {f : Obj → Obj} (h : l[b]? = some o) (hf : f o = o) : l.modify b f = l := by
 apply Array.ext_getElem?
 intro i
 rw [Array.getElem?_modify]
 by_cases q : b = i
 · subst q
   rw [if_pos rfl,h,Option.map_some,hf]
 · rw [if_neg q]
theorem setRow_same {w : World} {b : Nat} {t : TypeId} {cs : Array Value} (h : w.heap[b]? = some (.cells cs t (0,0))) : w.setRow b cs = w := by
 unfold World.setRow
 rw [modify_same h rfl]
theorem setOne_same {w : World} {b : Nat} {t : TypeId} {v : Value} (h : w.heap[b]? = some (.cells #[v] t (0,0))) : w.setCell ⟨b,0,none⟩ v = w := by
 unfold World.setCell
 rw [modify_same h (by simp)]
theorem row_again (w : World) (b : Nat) (t ty : TypeId) (cs : Array Value) (hb : w.heap[b]? = some (.cells cs t (0,0))) (hs : (Tryz.prog.info? ty).map (·.size) = some cs.size) (h1 : cs.toList.all (·.oneCell') = true) : (storeVar ty ⟨b,0,none⟩ (.agg cs)).run Tryz.prog w = .ok () w := by
 have := run_storeVar_row w b t ty cs cs hb hs rfl (by rw [← Array.all_toList]; exact h1)
 rw [setRow_same hb] at this
 exact this
theorem one_again (w : World) (b : Nat) (t ty : TypeId) (v : Value) (hb : w.heap[b]? = some (.cells #[v] t (0,0))) (hs : ∀ {w : World} {b j : Nat} {u v : Value},w.cell? ⟨b,j,none⟩ = some u → w.frozen? ⟨b,j,none⟩ = false → Lf v = true → (storeVar ty ⟨b,j,none⟩ v).run Tryz.prog w = .ok () (w.setCell ⟨b,j,none⟩ v)) (h1 : Lf v = true) : (storeVar ty ⟨b,0,none⟩ v).run Tryz.prog w = .ok () w := by
 have := hs (cell_of_row w b 0 _ t (0,0) hb) (frozen_of_row w _ _ _ _ hb) h1
 rw [setOne_same hb] at this
 exact this
structure R3 (w : World) (b4 b5 b6 : Nat) (t : TypeId) (z : Array Value) (x y : Int) : Prop where
 h4 : w.heap[b4]? = some (.cells z t (0,0))
 h5 : w.heap[b5]? = some (.cells #[.int .i64 x] 3 (0,0))
 h6 : w.heap[b6]? = some (.cells #[.int .i64 y] 29 (0,0))
theorem R3.kept {w w' : World} {b4 b5 b6 : Nat} {t : TypeId} {z : Array Value} {x y : Int} {F : Nat → Prop} (h : R3 w b4 b5 b6 t z x y) (k : Kept F w w') (h4 : ¬ F b4) (h5 : ¬ F b5) (h6 : ¬ F b6) : R3 w' b4 b5 b6 t z x y :=
 ⟨(k.block _ (blk_lt h.h4) h4).trans h.h4,(k.block _ (blk_lt h.h5) h5).trans h.h5,(k.block _ (blk_lt h.h6) h6).trans h.h6⟩
theorem res3 {w : World} {b4 b5 b6 : Nat} {t : TypeId} {z : Array Value} {x y : Int} (h : R3 w b4 b5 b6 t z x y) {fn : Func} {tmps : Array Value} (hf : fn.results = #[.cell 4 t,.cell 5 3,.cell 6 29]) (h4 : tmps.getD 4 undef = ptr b4) (h5 : tmps.getD 5 undef = ptr b5) (h6 : tmps.getD 6 undef = ptr b6)
 {d : TypeDesc} (hu : Tryz.prog.underlying t = some d) (hd : rowy d = true) (hs : (Tryz.prog.info? t).map (·.size) = some z.size) : (results fn tmps).run Tryz.prog w = .ok (.tuple #[.agg z,.int .i64 x,.int .i64 y]) w := by
 have l4 : (loadVar t ⟨b4,0,none⟩).run Tryz.prog w = .ok (.agg z) w := by
  cases d with
  | struct f => exact run_loadVar_row w b4 t t z (0,0) _ h.h4 hu rfl hs
  | _ => cases hd
 have l5 := lv3 ((cell_of_row w b5 0 _ 3 (0,0) h.h5).trans rfl)
 have l6 := lv29 ((cell_of_row w b6 0 _ 29 (0,0) h.h6).trans rfl)
 have h4' : tmps[4]?.getD undef = ptr b4 := by rw [← Array.getD_eq_getD_getElem?]; exact h4
 have h5' : tmps[5]?.getD undef = ptr b5 := by rw [← Array.getD_eq_getD_getElem?]; exact h5
 have h6' : tmps[6]?.getD undef = ptr b6 := by rw [← Array.getD_eq_getD_getElem?]; exact h6
 simp only [results,hf]
 simp [h4',h5',h6',asAddr,l4,l5,l6]
end Go.Proofs.YtlgkghebemfpjaaGreatDoor.Pa
