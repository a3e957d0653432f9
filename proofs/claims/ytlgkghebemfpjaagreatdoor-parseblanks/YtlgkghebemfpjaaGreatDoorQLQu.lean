/- A quoted text. Quotes, twice and once: no Go in sight. How far a quoted text goes. Quoted texts. -/
import Derived.Test.YtlgkghebemfpjaaGreatDoorQLRu
import Derived.Test.YtlgkghebemfpjaaGreatDoorQLShelf
import Derived.Lib.OthersKept
import Derived.Lib.SplitLaws
import Derived.Lib.Replace
import Derived.LoopTactic
import Derived.Lib.Strings
import Derived.Lib.IndexBytes
import Derived.Deep.RegionHeld
import Derived.BigQuiet
import Derived.Laws.DeepStrings4
namespace Go.Proofs.YtlgkghebemfpjaaGreatDoor
open Go.ChangeShapes Go.WideShapes Go.ChangeAt Go.RowKit
set_option linter.unusedVariables false
set_option maxRecDepth 100000
set_option maxRecDepth 100000
theorem size_q (q : UInt8) : (⟨#[q]⟩ : ByteArray).size = 1 := rfl
theorem wrap_q (q : UInt8) (hq : q.toNat < 128) : wrap32 (((⟨#[q]⟩ : ByteArray)[0]'(by rw [size_q]; omega)).toNat : Int) = (q.toNat : Int) := by
 show wrap32 (q.toNat : Int) = _
 unfold wrap32; omega
theorem clo_mark (W : World) (B1 B2 : Nat) (q : UInt8) (hq : q.toNat < 128) (o : Bool) (C1 : W.cell? ⟨B1,0,none⟩ = some (.string ⟨#[q]⟩)) (C2 : W.cell? ⟨B2,0,none⟩ = some (.bool o)) (FZ : W.frozen? ⟨B2,0,none⟩ = false) :
 Calls Tryz.prog 158 #[.int .i32 (q.toNat : Int),.pointer (some ⟨B1,0,none⟩),.pointer (some ⟨B2,0,none⟩)] W fun e w' => e = .returned (.bool true) ∧ w' = W.setCell ⟨B2,0,none⟩ (.bool (!o)) := by
 have hz : (0 : Int) < ((⟨#[q]⟩ : ByteArray).size : Int) := Int.zero_lt_one
 have h0 : wrap32 (((⟨#[q]⟩ : ByteArray)[0]'(by rw [size_q]; omega)).toNat : Int) = (q.toNat : Int) := wrap_q q hq
 go_enter Tryz.func158,Tryz.ntmps158
 go_wp2
 go_ret
 exact ⟨rfl,rfl⟩
theorem clo_other (W : World) (B1 B2 : Nat) (q : UInt8) (hq : q.toNat < 128) (r : Int) (hr : (r == (q.toNat : Int)) = false) (o : Bool) (C1 : W.cell? ⟨B1,0,none⟩ = some (.string ⟨#[q]⟩)) (C2 : W.cell? ⟨B2,0,none⟩ = some (.bool o)) :
 Calls Tryz.prog 158 #[.int .i32 r,.pointer (some ⟨B1,0,none⟩),.pointer (some ⟨B2,0,none⟩)] W fun e w' => e = .returned (.bool o) ∧ w' = W := by
 have hz : (0 : Int) < ((⟨#[q]⟩ : ByteArray).size : Int) := Int.zero_lt_one
 have h0 : wrap32 (((⟨#[q]⟩ : ByteArray)[0]'(by rw [size_q]; omega)).toNat : Int) = (q.toNat : Int) := wrap_q q hq
 go_enter Tryz.func158,Tryz.ntmps158
 go_wp2
 go_ret
 exact ⟨rfl,rfl⟩
def fq (q : UInt8) (o : Bool) (c : UInt8) : Option Bool := if c = q then some (!o) else if o then some o else none
theorem fq_steps (q : UInt8) (hq : q.toNat < 128) : Steps (fq q) (fun o => o) := ⟨fun st c h => by
 unfold fq
 rw [if_neg (fun e => by rw [e] at h; omega)]⟩
structure QS (W : World) (B B1 B2 B3 : Nat) (s : ByteArray) (q : UInt8) (o : Bool) (pos : Nat) : Prop where
 c1 : W.cell? ⟨B1,0,none⟩ = some (.string ⟨#[q]⟩)
 c2 : W.cell? ⟨B2,0,none⟩ = some (.bool o)
 fz : W.frozen? ⟨B2,0,none⟩ = false
 it : W.heap[B3]? = some (.stringIter s pos)
 ne : B1 ≠ B3 ∧ B2 ≠ B3 ∧ B1 ≠ B2
 lo : B ≤ B1 ∧ B ≤ B2 ∧ B ≤ B3
theorem QS.on {W : World} {B B1 B2 B3 : Nat} {s : ByteArray} {q : UInt8} {o : Bool} {pos : Nat} (h : QS W B B1 B2 B3 s q o pos) (pos' : Nat) : QS (W.iterAt B3 s pos') B B1 B2 B3 s q o pos' :=
 ⟨(World.cell?_of_block (a := ⟨B1,0,none⟩) (Lib.iterAt_other W B3 B1 s pos' h.ne.1)).trans h.c1,(World.cell?_of_block (a := ⟨B2,0,none⟩) (Lib.iterAt_other W B3 B2 s pos' h.ne.2.1)).trans h.c2,
   (World.frozen?_of_block (a := ⟨B2,0,none⟩) (Lib.iterAt_other W B3 B2 s pos' h.ne.2.1)).trans h.fz,Lib.iterAt_heap W B3 s pos pos' h.it,h.ne,h.lo⟩
theorem QS.turn {W : World} {B B1 B2 B3 : Nat} {s : ByteArray} {q : UInt8} {o : Bool} {pos : Nat} (h : QS W B B1 B2 B3 s q o pos) : QS (W.setCell ⟨B2,0,none⟩ (.bool (!o))) B B1 B2 B3 s q (!o) pos := by
 have hb : ∀ b,b ≠ B2 → (W.setCell ⟨B2,0,none⟩ (.bool (!o))).heap[b]? = W.heap[b]? := fun b hb => heap_setCell_other W ⟨B2,0,none⟩ b (.bool (!o)) hb
 refine ⟨(World.cell?_of_block (a := ⟨B1,0,none⟩) (hb B1 h.ne.2.2)).trans h.c1,World.cell?_setCell_same' _ _ _ (by rw [h.c2]; rfl),(World.frozen?_setCells B2 [.bool (!o)] 0 W _).trans h.fz,(hb B3 (Ne.symm h.ne.2.1)).trans h.it,h.ne,h.lo⟩
def dupL (q : UInt8) (l : List UInt8) : List UInt8 := l.flatMap (fun c => if c = q then [q,q] else [c])
theorem dupL_cons (q c : UInt8) (l : List UInt8) : dupL q (c :: l) = (if c = q then [q,q] else [c]) ++ dupL q l := by simp [dupL]
theorem dupL_hit (q : UInt8) (l : List UInt8) : dupL q (q :: l) = q :: q :: dupL q l := by rw [dupL_cons,if_pos rfl]; rfl
theorem dupL_miss (q c : UInt8) (l : List UInt8) (h : c ≠ q) : dupL q (c :: l) = c :: dupL q l := by rw [dupL_cons,if_neg h]; rfl
theorem dupL_snoc (q c : UInt8) (l : List UInt8) : dupL q (l ++ [c]) = dupL q l ++ (if c = q then [q,q] else [c]) := by simp [dupL]
theorem dupL_none (q : UInt8) (l : List UInt8) (h : ∀ c ∈ l,c ≠ q) : dupL q l = l := by
 induction l with
 | nil => rfl
 | cons c r ih => rw [dupL_miss q c r (h c (by simp)),ih (fun d hd => h d (by simp [hd]))]
theorem dupL_app (q : UInt8) (a b : List UInt8) : dupL q (a ++ b) = dupL q a ++ dupL q b := by simp [dupL]
theorem dupL_len (q : UInt8) (l : List UInt8) : l.length ≤ (dupL q l).length ∧ (dupL q l).length ≤ 2 * l.length := by
 induction l with
 | nil => simp [dupL]
 | cons c r ih =>
   rw [dupL_cons,List.length_append,List.length_cons]
   split <;> simp <;> omega
theorem pair_occ (q : UInt8) (a x : List UInt8) (ha : ∀ c ∈ a,c ≠ q) : Lib.index (a ++ q :: q :: x) [q,q] = (a.length : Int) := by
 induction a with
 | nil =>
   rw [List.nil_append,Lib.index,if_pos (by simp [List.isPrefixOf])]
   rfl
 | cons c r ih =>
   have h1 := ih (fun d hd => ha d (by simp [hd]))
   have hc : c ≠ q := ha c (by simp)
   have hp : ¬ ([q,q] : List UInt8).isPrefixOf (c :: (r ++ q :: q :: x)) = true := by
    intro h
    simp [List.isPrefixOf] at h
    exact hc h.1.symm
   rw [List.cons_append,Lib.index,if_neg hp,h1,if_neg (fun e => by have := beq_iff_eq.1 e; omega)]
   simp
theorem pair_none (q : UInt8) (a : List UInt8) (ha : ∀ c ∈ a,c ≠ q) : Lib.index a [q,q] = -1 := by
 induction a with
 | nil => rfl
 | cons c r ih =>
   have h1 := ih (fun d hd => ha d (by simp [hd]))
   have hc : c ≠ q := ha c (by simp)
   have hp : ¬ ([q,q] : List UInt8).isPrefixOf (c :: r) = true := by
    intro h
    simp [List.isPrefixOf] at h
    exact hc h.1.symm
   rw [Lib.index,if_neg hp,h1]
   rfl
theorem cut_at (q : UInt8) : ∀ t : List UInt8,(∀ c ∈ t,c ≠ q) ∨ ∃ a b,t = a ++ q :: b ∧ (∀ c ∈ a,c ≠ q)
 | [] => .inl (by simp)
 | c :: r => by
   by_cases h : c = q
   · exact .inr ⟨[],r,by rw [h]; rfl,by simp⟩
   · rcases cut_at q r with k | ⟨a,b,e,k⟩
     · exact .inl (fun d hd => by
        rcases List.mem_cons.1 hd with rfl | hd
        · exact h
        · exact k d hd)
     · refine .inr ⟨c :: a,b,by rw [e]; rfl,fun d hd => ?_⟩
       rcases List.mem_cons.1 hd with rfl | hd
       · exact h
       · exact k d hd
theorem replace_pairs (q : UInt8) : ∀ n (t : List UInt8),t.length ≤ n → Lib.replaceK [q,q] [q] (Lib.count (dupL q t) [q,q]) (dupL q t) = t := by
 intro n
 induction n with
 | zero =>
   intro t h
   have : t = [] := List.eq_nil_of_length_eq_zero (by omega)
   subst this
   rw [Lib.count_miss (pair_none q _ (by simp [dupL]))]
   rfl
 | succ n ih =>
   intro t h
   rcases cut_at q t with k | ⟨a,b,rfl,k⟩
   · rw [dupL_none q t k,Lib.count_miss (pair_none q t k)]
     rfl
   · have e : dupL q (a ++ q :: b) = a ++ q :: q :: dupL q b := by rw [dupL_app,dupL_none q a k,dupL_hit]
     have hi := pair_occ q a (dupL q b) k
     have hd : (a ++ q :: q :: dupL q b).drop (a.length + ([q,q] : List UInt8).length) = dupL q b := by
      rw [← List.drop_drop,List.drop_left]; rfl
     rw [e,Lib.count_hit (by simp) hi,hd,Nat.add_comm 1,Lib.replaceK_hit _ _ _ _ _ hi,hd,ih b (by rw [List.length_append,List.length_cons] at h; omega)]
     rw [List.take_left]
     simp
theorem replace_back (q : UInt8) (t : List UInt8) : Lib.replaceAll (dupL q t) [q,q] [q] = t := by
 unfold Lib.replaceAll Lib.replace
 rw [if_neg (by simp)]
 have e : Lib.replaceNum (dupL q t) [q,q] (-1) = Lib.count (dupL q t) [q,q] := by unfold Lib.replaceNum; rw [if_pos (.inl (by omega))]
 rw [e,replace_pairs q t.length t (Nat.le_refl _)]
def quo (q : UInt8) : List UInt8 → Option (List UInt8 × Nat)
 | [] => none
 | [c] => if c = q then some ([],1) else none
 | c :: d :: r =>
   if c = q then (if d = q then (quo q r).map (fun x => (q :: x.1,x.2 + 2)) else some ([],1))
   else (quo q (d :: r)).map (fun x => (c :: x.1,x.2 + 1))
theorem q_next (q : UInt8) : q + 1 ≠ q := by
 intro e
 have := congrArg UInt8.toNat e
 have := q.toNat_lt
 simp at *
theorem quo_some (q : UInt8) : ∀ l t m,quo q l = some (t,m) → m = (dupL q t).length + 1 ∧ ∃ r,l = dupL q t ++ q :: r ∧ r.headD (q + 1) ≠ q := by
 intro l
 induction l using quo.induct (q := q) with
 | case1 => intro t m h; cases h
 | case2 =>
   intro t m h
   rw [quo,if_pos rfl] at h
   cases h
   exact ⟨by simp [dupL], [],by simp [dupL],q_next q⟩
 | case3 c hc =>
   intro t m h
   rw [quo,if_neg hc] at h
   cases h
 | case4 r ih =>
   intro t m h
   rw [quo,if_pos rfl,if_pos rfl] at h
   cases hx : quo q r with
   | none => rw [hx] at h; cases h
   | some x =>
     obtain ⟨t',m'⟩ := x
     rw [hx] at h
     simp only [Option.map_some,Option.some.injEq,Prod.mk.injEq] at h
     obtain ⟨rfl,rfl⟩ := h
     obtain ⟨h1,r',h2,h3⟩ := ih t' m' hx
     refine ⟨by rw [dupL_hit]; simp; omega,r',by rw [dupL_hit,h2]; rfl,h3⟩
 | case5 d r hd =>
   intro t m h
   rw [quo,if_pos rfl,if_neg hd] at h
   cases h
   exact ⟨by simp [dupL],d :: r,by simp [dupL],by simpa using hd⟩
 | case6 c d r hc ih =>
   intro t m h
   rw [quo,if_neg hc] at h
   cases hx : quo q (d :: r) with
   | none => rw [hx] at h; cases h
   | some x =>
     obtain ⟨t',m'⟩ := x
     rw [hx] at h
     simp only [Option.map_some,Option.some.injEq,Prod.mk.injEq] at h
     obtain ⟨rfl,rfl⟩ := h
     obtain ⟨h1,r',h2,h3⟩ := ih t' m' hx
     refine ⟨by rw [dupL_miss q c t' hc]; simp; omega,r',by rw [dupL_miss q c t' hc,h2]; rfl,h3⟩
def Agree (q : UInt8) (l : List UInt8) : Prop := (∃ t m,quo q l = some (t,m) ∧ scan (fq q) true l = (m,false)) ∨ (quo q l = none ∧ (scan (fq q) true l).2 = true)
theorem quo_scan (q : UInt8) : ∀ l,Agree q l := by
 have g1 : fq q true q = some false := by unfold fq; rw [if_pos rfl]; rfl
 have g2 : fq q false q = some true := by unfold fq; rw [if_pos rfl]; rfl
 have g3 : ∀ c,c ≠ q → fq q true c = some true := fun c hc => by unfold fq; rw [if_neg hc]; rfl
 have g4 : ∀ c,c ≠ q → fq q false c = none := fun c hc => by unfold fq; rw [if_neg hc]; rfl
 intro l
 induction l using quo.induct (q := q) with
 | case1 => exact .inr ⟨rfl,rfl⟩
 | case2 => exact .inl ⟨[],1,by rw [quo,if_pos rfl],by rw [scan_go g1]; rfl⟩
 | case3 c hc => exact .inr ⟨by rw [quo,if_neg hc],by rw [scan_go (g3 c hc)]; rfl⟩
 | case4 r ih =>
   unfold Agree
   rw [quo,if_pos rfl,if_pos rfl,scan_go g1,scan_go g2]
   rcases ih with ⟨t,m,h1,h2⟩ | ⟨h1,h2⟩
   · exact .inl ⟨q :: t,m + 2,by rw [h1]; rfl,by rw [h2]⟩
   · exact .inr ⟨by rw [h1]; rfl,h2⟩
 | case5 d r hd =>
   unfold Agree
   rw [quo,if_pos rfl,if_neg hd,scan_go g1,scan_stop (g4 d hd)]
   exact .inl ⟨[],1,rfl,rfl⟩
 | case6 c d r hc ih =>
   unfold Agree
   rw [quo,if_neg hc,scan_go (g3 c hc)]
   rcases ih with ⟨t,m,h1,h2⟩ | ⟨h1,h2⟩
   · exact .inl ⟨c :: t,m + 1,by rw [h1]; rfl,by rw [h2]⟩
   · exact .inr ⟨by rw [h1]; rfl,h2⟩
theorem below_set {B : Nat} {w : World} (a : Addr) (v : Value) (h : B ≤ a.block) : Below B w (w.setCell a v) :=
 ⟨rfl,rfl,rfl,by simp,fun i hi => heap_setCell_other w a i v (by omega)⟩
set_option maxHeartbeats 400000 in
theorem run_q (s : ByteArray) (hs : s.size ≤ 140737488351232) (q : UInt8) (hq : q.toNat < 128) (W : World) (B B1 B2 : Nat) (C1 : W.cell? ⟨B1,0,none⟩ = some (.string ⟨#[q]⟩)) (C2 : W.cell? ⟨B2,0,none⟩ = some (.bool false)) (FZ : W.frozen? ⟨B2,0,none⟩ = false)
 (hB : B ≤ B1 ∧ B ≤ B2 ∧ B1 < W.heap.size ∧ B2 < W.heap.size ∧ B1 ≠ B2) :
 Calls Tryz.prog 100 #[.string s,.func (.func 158) #[] #[.pointer (some ⟨B1,0,none⟩),.pointer (some ⟨B2,0,none⟩)]] W fun e w' => e = .returned (.int .i64 ((scan (fq q) false s.data.toList).1 : Int)) ∧ Below B W w' ∧ w'.cell? ⟨B1,0,none⟩ = some (.string ⟨#[q]⟩) ∧ w'.cell? ⟨B2,0,none⟩ = some (.bool (scan (fq q) false s.data.toList).2) := by
 obtain ⟨T,hT⟩ : ∃ T,T = scan (fq q) false s.data.toList := ⟨_,rfl⟩
 rw [← hT]
 have HT : Hid (T = (0 + (scan (fq q) false (s.data.toList.drop 0)).1,(scan (fq q) false (s.data.toList.drop 0)).2)) := by
  show _ = _
  rw [hT]; simp
 clear hT
 have HQ : Hid (QS (W.iter s 0) B B1 B2 W.heap.size s q false 0) := by
  refine ⟨?_, ?_, ?_,World.iter_heap W s 0,⟨by omega,by omega,by omega⟩,by omega⟩
  · rw [← C1]; exact World.cell?_of_block (a := ⟨B1,0,none⟩) ((below1 W (.stringIter s 0)).block B1 (by omega))
  · rw [← C2]; exact World.cell?_of_block (a := ⟨B2,0,none⟩) ((below1 W (.stringIter s 0)).block B2 (by omega))
  · rw [← FZ]; exact World.frozen?_of_block (a := ⟨B2,0,none⟩) ((below1 W (.stringIter s 0)).block B2 (by omega))
 have HK : Hid (Below B W (W.iter s 0)) := (below1 W (.stringIter s 0)).mono (by omega)
 clear C1 C2 FZ hB
 go_enter Tryz.func100,Tryz.ntmps100
 go_wp2_with fail
 go_loopw [] (fun w' => ∃ pos o,Hid (QS w' B B1 B2 W.heap.size s q o pos) ∧ Hid (Below B W w') ∧ pos ≤ s.size ∧ Hid (T = (pos + (scan (fq q) o (s.data.toList.drop pos)).1,(scan (fq q) o (s.data.toList.drop pos)).2))) (fun w' => s.size - w'.iterPos W.heap.size)
 case atStart => exact ⟨0,false,HQ,HK,by omega,HT⟩
 case round =>
  obtain ⟨pos,o,HS,HL,hle,HP⟩ := hrel
  have hip : wr.iterPos W.heap.size = pos := by unfold World.iterPos; rw [HS.out.it]
  by_cases hp : pos < s.size
  · have hnx : ∀ ty,(Instr.next (.pointer (some ⟨W.heap.size,0,none⟩)) true ty).run Tryz.prog wr = _ := fun ty => Lib.run_next_any_at wr W.heap.size s pos ty HS.out.it hp
    have hwd := run_pos s pos hp
    by_cases hc : s[pos] = q
    · have hd := decode_ascii s pos hp (by rw [hc]; exact hq)
      rw [hc] at hd
      simp only [hd] at hnx
      have HS2 : Hid (QS (wr.iterAt W.heap.size s (pos + 1)) B B1 B2 W.heap.size s q o (pos + 1)) := HS.out.on _
      have HL2 : Hid (Below B W ((wr.iterAt W.heap.size s (pos + 1)).setCell ⟨B2,0,none⟩ (.bool (!o)))) := (Lib.below_iterAt HL.out HS.out.lo.2.2 s (pos + 1)).trans (below_set _ _ HS.out.lo.2.1)
      have HC : Hid (Calls Tryz.prog 158 #[.int .i32 (q.toNat : Int),.pointer (some ⟨B1,0,none⟩),.pointer (some ⟨B2,0,none⟩)] (wr.iterAt W.heap.size s (pos + 1)) fun e w' => e = .returned (.bool true) ∧ w' = (wr.iterAt W.heap.size s (pos + 1)).setCell ⟨B2,0,none⟩ (.bool (!o))) := clo_mark (wr.iterAt W.heap.size s (pos + 1)) B1 B2 q hq o HS2.out.c1 HS2.out.c2 HS2.out.fz
      have HG : Hid (T = (pos + 1 + (scan (fq q) (!o) (s.data.toList.drop (pos + 1))).1,(scan (fq q) (!o) (s.data.toList.drop (pos + 1))).2)) := by
       show _ = _
       rw [HP.out,drop_at s pos hp,scan_go (st' := !o) (by unfold fq; rw [if_pos hc])]
       rw [Prod.mk.injEq]; exact ⟨by simp; omega,rfl⟩
      obtain ⟨V,hV⟩ : ∃ V,V = wr.iterAt W.heap.size s (pos + 1) := ⟨_,rfl⟩
      rw [← hV] at hnx HS2 HL2 HC
      clear hV HP hd
      go_wp2_with fail
      refine Calls.mono HC.out ?_; rintro e w1 ⟨rfl,rfl⟩
      go_wp2_with fail
      go_roundw
      case rel => exact ⟨pos + 1, !o,HS2.out.turn,HL2,by omega,HG⟩
      case measure =>
       have e2 : (V.setCell ⟨B2,0,none⟩ (.bool (!o))).iterPos W.heap.size = pos + 1 := by unfold World.iterPos; rw [HS2.out.turn.it]
       rw [e2,hip]; omega
    · obtain ⟨r,hr⟩ : ∃ r : Nat,r = (Utf8.decode s pos).1 := ⟨_,rfl⟩
      obtain ⟨d,hd⟩ : ∃ d : Nat,d = (Utf8.decode s pos).2 := ⟨_,rfl⟩
      have hrq : ((r : Int) == (q.toNat : Int)) = false := by
       rw [beq_eq,decide_eq_false_iff_not]
       by_cases ha : (s[pos]'hp).toNat < 128
       · rw [hr,decode_ascii s pos hp ha]
         intro e
         exact hc (UInt8.toNat_inj.1 (Int.ofNat_inj.1 e))
       · have := decode_high s pos hp (by omega)
         omega
      have HG : Hid (o = true → pos + d ≤ s.size ∧ T = (pos + d + (scan (fq q) o (s.data.toList.drop (pos + d))).1,(scan (fq q) o (s.data.toList.drop (pos + d))).2)) := fun ho => by
       by_cases ha : (s[pos]'hp).toNat < 128
       · have e1 : d = 1 := by rw [hd,decode_ascii s pos hp ha]
         rw [e1]
         refine ⟨by omega, ?_⟩
         rw [HP.out,drop_at s pos hp,scan_go (st' := o) (by unfold fq; rw [if_neg hc,if_pos ho])]
         rw [Prod.mk.injEq]; exact ⟨by simp; omega,rfl⟩
       · obtain ⟨h1,h2⟩ := step_high (fq_steps q hq) s pos o hp (by omega) ho
         rw [← hd] at h1 h2
         refine ⟨h1, ?_⟩
         rw [HP.out,h2]
         rw [Prod.mk.injEq]; exact ⟨by simp; omega,rfl⟩
      have HE : Hid (o = false → T = (pos,false)) := fun ho => by
       rw [HP.out,drop_at s pos hp,scan_stop (by unfold fq; rw [if_neg hc,ho]; rfl),ho]; rfl
      simp only [← hr, ← hd] at hnx
      rw [← hd] at hwd
      clear hr hd HP
      have HS2 : Hid (QS (wr.iterAt W.heap.size s (pos + d)) B B1 B2 W.heap.size s q o (pos + d)) := HS.out.on _
      have HL2 : Hid (Below B W (wr.iterAt W.heap.size s (pos + d))) := Lib.below_iterAt HL.out HS.out.lo.2.2 s (pos + d)
      have HC : Hid (Calls Tryz.prog 158 #[.int .i32 (r : Int),.pointer (some ⟨B1,0,none⟩),.pointer (some ⟨B2,0,none⟩)] (wr.iterAt W.heap.size s (pos + d)) fun e w' => e = .returned (.bool o) ∧ w' = wr.iterAt W.heap.size s (pos + d)) := clo_other (wr.iterAt W.heap.size s (pos + d)) B1 B2 q hq r hrq o HS2.out.c1 HS2.out.c2
      obtain ⟨V,hV⟩ : ∃ V,V = wr.iterAt W.heap.size s (pos + d) := ⟨_,rfl⟩
      rw [← hV] at hnx HS2 HL2 HC
      clear hV
      cases o
      · have HE2 : Hid (T = (pos,false)) := HE.out rfl
        clear HE HG
        go_wp2_with fail
        refine Calls.mono HC.out ?_; rintro e w1 ⟨rfl,rfl⟩
        go_wp2_with fail
        go_ret
        exact ⟨ret_int (by rw [HE2.out]),HL2.out,HS2.out.c1,by rw [HE2.out]; exact HS2.out.c2⟩
      · have HG2 := (HG.out rfl).1
        have HG3 : Hid (T = (pos + d + (scan (fq q) true (s.data.toList.drop (pos + d))).1,(scan (fq q) true (s.data.toList.drop (pos + d))).2)) := (HG.out rfl).2
        clear HE HG
        go_wp2_with fail
        refine Calls.mono HC.out ?_; rintro e w1 ⟨rfl,rfl⟩
        go_wp2_with fail
        go_roundw
        case rel => exact ⟨pos + d,true,HS2,HL2,HG2,HG3⟩
        case measure =>
         have e2 : w1.iterPos W.heap.size = pos + d := by unfold World.iterPos; rw [HS2.out.it]
         rw [e2,hip]; omega
  · have hnx : ∀ ty,(Instr.next (.pointer (some ⟨W.heap.size,0,none⟩)) true ty).run Tryz.prog wr = _ := fun ty => Lib.run_next_end_at wr W.heap.size s pos ty HS.out.it hp
    have HE : Hid (T = (s.size,o)) := by
     show _ = _
     rw [HP.out,List.drop_of_length_le (by simp; omega)]
     simp [scan]; omega
    go_wp2_with fail
    go_ret
    exact ⟨ret_int (by rw [HE.out]),HL.out,HS.out.c1,by rw [HE.out]; exact HS.out.c2⟩
theorem clone_is (s : ByteArray) (w : World) (hlim : s.size ≤ 281474976710656) : Calls Tryz.prog 133 #[.string s] w fun e w' => e = .returned (.string s) ∧ Below w.heap.size w w' := by
 have H : Hid (∀ w,Calls Tryz.prog 151 #[.string s] w fun e w' => e = .returned (.string s) ∧ Below w.heap.size w w') := fun w => Tryz.stringslite_Clone s w hlim
 clear hlim
 go_enter Tryz.func133,Tryz.ntmps133
 go_wp2_with fail
 refine Calls.mono (H.out _) ?_; rintro e w1 ⟨rfl,k1⟩
 have HK : Hid (Below w.heap.size w w1) := k1
 clear k1
 go_wp2_with fail
 go_ret
 exact ⟨rfl,HK.out⟩
theorem ext_list (s : ByteArray) (a b : Nat) : (s.extract a b).data.toList = (s.data.toList.take b).drop a := by
 rw [Lib.extract_data,List.drop_take]
theorem ba_ext {s t : ByteArray} (h : s.data.toList = t.data.toList) : s = t := ByteArray.ext (Array.toList_inj.1 h)
theorem ba_of (s : ByteArray) : s = ⟨s.data.toList.toArray⟩ := ba_ext (by simp)
theorem back_is (q : UInt8) (S : ByteArray) (t : List UInt8) (hS : S.data.toList = dupL q t) (hs : S.size ≤ 100000) (w : World) (hg : Glob w) :
 Calls Tryz.prog 159 #[.string S,.string ⟨#[q,q]⟩,.string ⟨#[q]⟩] w fun e w' => e = .returned (.string ⟨t.toArray⟩) ∧ Below w.heap.size w w' := by
 obtain ⟨m,hm⟩ := hg
 have e1 : (⟨#[q]⟩ : ByteArray).size = 1 := rfl
 have e2 : (⟨#[q,q]⟩ : ByteArray).size = 2 := rfl
 have hcn := Lib.countB_le ⟨#[q,q]⟩ (by rw [e2]; omega) S.size S (Nat.le_refl _)
 have H := Tryz.strings_ReplaceAll S ⟨#[q,q]⟩ ⟨#[q]⟩ m w (by omega) hm (by rw [e2]; omega) (by rw [e1]; omega)
 have e3 : Lib.replaceAll S.data.toList (⟨#[q,q]⟩ : ByteArray).data.toList (⟨#[q]⟩ : ByteArray).data.toList = t := by
  rw [hS]; exact replace_back q t
 rw [e3] at H
 exact H
theorem quoted_no (s : ByteArray) (hs : s.size ≤ 100000) (q : UInt8) (hq : q.toNat < 128) (r : List UInt8) (hl : s.data.toList = q :: r) (hn : quo q r = none) (w : World) :
 Calls Tryz.prog 136 #[.string s] w fun e w' => e = .returned (.tuple #[.string ⟨#[]⟩,.int .i64 0]) ∧ Below w.heap.size w w' := by
 have h1 : 1 ≤ s.size := by rw [← len_of,hl]; simp
 have hx : s.extract 0 1 = ⟨#[q]⟩ := ba_ext (by rw [ext_list,hl]; simp)
 have hz : (scan (fq q) false s.data.toList).2 = true := by
  rw [hl,scan_go (st' := true) (by unfold fq; rw [if_pos rfl]; rfl)]
  rcases quo_scan q r with ⟨t,m,a,_⟩ | ⟨_,a⟩
  · rw [hn] at a; cases a
  · exact a
 have HR : Hid (∀ (W : World) (B B1 B2 : Nat),W.cell? ⟨B1,0,none⟩ = some (.string ⟨#[q]⟩) → W.cell? ⟨B2,0,none⟩ = some (.bool false) → W.frozen? ⟨B2,0,none⟩ = false → B ≤ B1 ∧ B ≤ B2 ∧ B1 < W.heap.size ∧ B2 < W.heap.size ∧ B1 ≠ B2 →
  Calls Tryz.prog 100 #[.string s,.func (.func 158) #[] #[.pointer (some ⟨B1,0,none⟩),.pointer (some ⟨B2,0,none⟩)]] W fun e w' => e = .returned (.int .i64 ((scan (fq q) false s.data.toList).1 : Int)) ∧ Below B W w' ∧ w'.cell? ⟨B1,0,none⟩ = some (.string ⟨#[q]⟩) ∧ w'.cell? ⟨B2,0,none⟩ = some (.bool true)) :=
  fun W B B1 B2 a b c d => hz ▸ run_q s (by omega) q hq W B B1 B2 a b c d
 generalize (scan (fq q) false s.data.toList).1 = N at *
 clear hl hn hz
 go_enter Tryz.func136,Tryz.ntmps136
 go_wp2_with fail
 refine Calls.mono (HR.out _ w.heap.size w.heap.size (w.heap.size + 1) (by simp) (by simp) (by simp) (by simp; omega)) ?_; rintro e w1 ⟨rfl,k1,c1,c2⟩
 have HK : Hid (Below w.heap.size w w1) := (below2 w _ _).trans k1
 clear k1
 go_wp2_with fail
 go_ret2
 exact ⟨rfl,HK.out⟩
theorem str_slice (s : ByteArray) (lo hi : Nat) (h1 : lo ≤ hi) (h2 : hi ≤ s.size) (W : World) : (Instr.sliceAt 9 (.string s) (some (.int .i64 (lo : Int))) (some (.int .i64 (hi : Int))) none).run Tryz.prog W = .ok (.string (s.extract lo hi)) W := by
 rw [run_sliceAt_string W 9 _ _ _ _ Tryz.underlying9]
 have := run_slice_string_if (P := Tryz.prog) (w := W) 9 s .i64 .i64 (lo : Int) (hi : Int) Tryz.underlying9
 rw [this,if_pos (by omega),if_pos (by omega)]
 simp
set_option maxHeartbeats 800000 in
theorem quoted_yes (s : ByteArray) (hs : s.size ≤ 100000) (q : UInt8) (hq : q.toNat < 128) (r t : List UInt8) (m : Nat) (hl : s.data.toList = q :: r) (hn : quo q r = some (t,m)) (w : World) (hg : Glob w) :
 Calls Tryz.prog 136 #[.string s] w fun e w' => e = .returned (.tuple #[.string ⟨t.toArray⟩,.int .i64 ((m + 1 : Nat) : Int)]) ∧ Below w.heap.size w w' := by
 have h1 : 1 ≤ s.size := by rw [← len_of,hl]; simp
 have hx : s.extract 0 1 = ⟨#[q]⟩ := ba_ext (by rw [ext_list,hl]; simp)
 obtain ⟨hm,r',hr,_⟩ := quo_some q r t m hn
 have hz : scan (fq q) false s.data.toList = (m + 1,false) := by
  rw [hl,scan_go (st' := true) (by unfold fq; rw [if_pos rfl]; rfl)]
  rcases quo_scan q r with ⟨t',m',a,b⟩ | ⟨a,_⟩
  · rw [hn] at a
    cases a
    rw [b]
  · rw [hn] at a; cases a
 have hms : m + 1 ≤ s.size := by
  rw [← len_of,hl,hr,hm]; simp
 have hm1 : 1 ≤ m := by omega
 have htl : t.length ≤ 100000 := by
  have := (dupL_len q t).1
  omega
 have hS : (s.extract 1 m).data.toList = dupL q t := by
  rw [ext_list,hl,hr,hm]
  simp
 have HR : Hid (∀ (W : World) (B B1 B2 : Nat),W.cell? ⟨B1,0,none⟩ = some (.string ⟨#[q]⟩) → W.cell? ⟨B2,0,none⟩ = some (.bool false) → W.frozen? ⟨B2,0,none⟩ = false → B ≤ B1 ∧ B ≤ B2 ∧ B1 < W.heap.size ∧ B2 < W.heap.size ∧ B1 ≠ B2 →
  Calls Tryz.prog 100 #[.string s,.func (.func 158) #[] #[.pointer (some ⟨B1,0,none⟩),.pointer (some ⟨B2,0,none⟩)]] W fun e w' => e = .returned (.int .i64 ((m + 1 : Nat) : Int)) ∧ Below B W w' ∧ w'.cell? ⟨B1,0,none⟩ = some (.string ⟨#[q]⟩) ∧ w'.cell? ⟨B2,0,none⟩ = some (.bool false)) :=
  fun W B B1 B2 a b c d => by
   have := run_q s (by omega) q hq W B B1 B2 a b c d
   rw [hz] at this
   exact this
 have HB : Hid (∀ w,Glob w → Calls Tryz.prog 159 #[.string (s.extract 1 m),.string (⟨#[q]⟩ ++ ⟨#[q]⟩),.string ⟨#[q]⟩] w fun e w' => e = .returned (.string ⟨t.toArray⟩) ∧ Below w.heap.size w w') :=
  fun w hg => by rw [show (⟨#[q]⟩ ++ ⟨#[q]⟩ : ByteArray) = ⟨#[q,q]⟩ from ba_ext (by simp [ByteArray.data_append])]; exact back_is q (s.extract 1 m) t hS (by simp; omega) w hg
 have HC : Hid (∀ w,Calls Tryz.prog 133 #[.string ⟨t.toArray⟩] w fun e w' => e = .returned (.string ⟨t.toArray⟩) ∧ Below w.heap.size w w') :=
  fun w => clone_is ⟨t.toArray⟩ w (by show t.toArray.size ≤ _; rw [List.size_toArray]; omega)
 have HG : Hid (Glob w) := hg
 have HQQ : Hid ((⟨#[q]⟩ ++ ⟨#[q]⟩ : ByteArray) = ⟨#[q,q]⟩) := ba_ext (by simp [ByteArray.data_append])
 have hsz : (⟨#[q]⟩ : ByteArray).size = 1 := rfl
 obtain ⟨n,hnn⟩ : ∃ n : Nat,n = m + 1 := ⟨_,rfl⟩
 rw [← hnn] at HR ⊢
 have hn2 : wrap64 ((n : Int) - 1) = (m : Int) := by unfold wrap64; omega
 have hn3 : IntKind.i64.wrap ((n : Int) - 1) = (m : Int) := by rw [IntKind.wrap_i64]; omega
 clear hnn
 have hA1 : (1 : Int) ≤ (m : Int) := by omega
 have hA2 : (m : Int) ≤ (s.size : Int) := by omega
 have hSL : ∀ W,(Instr.sliceAt 9 (.string s) (some (.int .i64 1)) (some (.int .i64 (m : Int))) none).run Tryz.prog W = .ok (.string (s.extract 1 m)) W := fun W => str_slice s 1 m hm1 (by omega) W
 clear hl hz hr hm hS htl hg
 go_enter Tryz.func136,Tryz.ntmps136
 go_wp2_with fail
 refine Calls.mono (HR.out _ w.heap.size w.heap.size (w.heap.size + 1) (by simp) (by simp) (by simp) (by simp; omega)) ?_; rintro e w1 ⟨rfl,k1,c1,c2⟩
 have HK : Hid (Below w.heap.size w w1) := (below2 w _ _).trans k1
 have HG1 : Hid (Glob w1) := HG.out.next HK.out
 clear k1
 have HS0 : Hid ((Below w.heap.size w w1.drew ∧ Glob w1.drew) ∧ w1.drew.cell? ⟨w.heap.size,0,none⟩ = some (.string ⟨#[q]⟩)) := ⟨⟨HK.out.drew,HG1.out⟩,c1⟩
 have HB2 : Hid (∀ w',((Below w.heap.size w w' ∧ Glob w') ∧ w'.cell? ⟨w.heap.size,0,none⟩ = some (.string ⟨#[q]⟩)) → Calls Tryz.prog 159 #[.string (s.extract 1 m),.string (⟨#[q]⟩ ++ ⟨#[q]⟩),.string ⟨#[q]⟩] w' fun e w'' => e = .returned (.string ⟨t.toArray⟩) ∧ ((Below w.heap.size w w'' ∧ Glob w'') ∧ w''.cell? ⟨w.heap.size,0,none⟩ = some (.string ⟨#[q]⟩))) :=
  fun w' h => (HB.out w' h.1.2).mono (fun e w'' k => ⟨k.1,⟨Below.less h.1.1 k.2 h.1.1.size,h.1.2.next k.2⟩,(k.2.cell (p := ⟨w.heap.size,0,none⟩) (World.block_lt_of_cell? w' _ h.2)).trans h.2⟩)
 have HC2 : Hid (∀ w',((Below w.heap.size w w' ∧ Glob w') ∧ w'.cell? ⟨w.heap.size,0,none⟩ = some (.string ⟨#[q]⟩)) → Calls Tryz.prog 133 #[.string ⟨t.toArray⟩] w' fun e w'' => e = .returned (.string ⟨t.toArray⟩) ∧ ((Below w.heap.size w w'' ∧ Glob w'') ∧ w''.cell? ⟨w.heap.size,0,none⟩ = some (.string ⟨#[q]⟩))) :=
  fun w' h => (HC.out w').mono (fun e w'' k => ⟨k.1,⟨Below.less h.1.1 k.2 h.1.1.size,h.1.2.next k.2⟩,(k.2.cell (p := ⟨w.heap.size,0,none⟩) (World.block_lt_of_cell? w' _ h.2)).trans h.2⟩)
 clear HB HC HR HG HG1
 go_wp2_with fail
 go_region_held (fun (w' : World) => (Below w.heap.size w w' ∧ Glob w') ∧ w'.cell? ⟨w.heap.size,0,none⟩ = some (.string ⟨#[q]⟩)) (first | exact HS0.out | with_reducible assumption)
  (first
  | ((with_reducible refine Calls.mono (HB2.out _ (by with_reducible assumption)) ?_); rintro e w2 ⟨rfl,hS2⟩)
  | ((with_reducible refine Calls.mono (HC2.out _ (by with_reducible assumption)) ?_); rintro e w3 ⟨rfl,hS3⟩))
 all_goals have HB3 : Hid (Below w.heap.size w w3) := hS3.1.1
 all_goals clear hS2 hS3
 all_goals go_wp2_with fail
 all_goals go_ret2
 all_goals exact ⟨rfl,HB3.out⟩
end Go.Proofs.YtlgkghebemfpjaaGreatDoor
