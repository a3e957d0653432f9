/- Values and tokens in memory. A text gone over rune by rune is gone over byte by byte. What is asked of a rune. -/
import Derived.Test.YtlgkghebemfpjaaGreatDoorProg
import Derived.WalkKit
import Derived.Below
import Derived.ChangeAt
import Derived.ChangeMaps
import Derived.ChangeShapes
import Derived.Laws.ResultCell
import Derived.ChangeOld
import Derived.Deep.Slices
namespace Go.Proofs.YtlgkghebemfpjaaGreatDoor
open Go.ChangeShapes Go.WideShapes Go.ChangeAt Go.RowKit
set_option linter.unusedVariables false
set_option maxRecDepth 100000
set_option maxRecDepth 100000
theorem below1 (w : World) (a : Obj) : Below w.heap.size w (w.alloc a) := (Below.refl _ _).alloc (Nat.le_refl _) _
theorem below2 (w : World) (a b : Obj) : Below w.heap.size w ((w.alloc a).alloc b) := (below1 w a).alloc (by simp) _
theorem Below.next {a b c : World} (h : Below a.heap.size a b) (k : Below b.heap.size b c) : Below a.heap.size a c := h.trans (k.mono h.size)
theorem Below.less {B : Nat} {a b c : World} (h : Below B a b) (k : Below b.heap.size b c) (hB : B ≤ b.heap.size) : Below B a c := h.trans (k.mono hB)
abbrev vv (k n : Int) (s : ByteArray) : Value := .agg #[.int .i64 k,.int .i64 n,.string s]
structure At (w : World) (b o : Nat) (k n : Int) (s : ByteArray) : Prop where
 c0 : w.cell? ⟨b,o,none⟩ = some (.int .i64 k)
 c1 : w.cell? ⟨b,o + 1,none⟩ = some (.int .i64 n)
 c2 : w.cell? ⟨b,o + 2,none⟩ = some (.string s)
theorem At.lt {w : World} {b o : Nat} {k n : Int} {s : ByteArray} (h : At w b o k n s) : b < w.heap.size := World.block_lt_of_cell? w _ h.c0
theorem At.below {B : Nat} {w w' : World} {b o : Nat} {k n : Int} {s : ByteArray} (h : At w b o k n s) (hb : Below B w w') (hB : b < B) : At w' b o k n s :=
 ⟨(hb.cell (p := ⟨b,o,none⟩) hB).trans h.c0,(hb.cell (p := ⟨b,o + 1,none⟩) hB).trans h.c1,(hb.cell (p := ⟨b,o + 2,none⟩) hB).trans h.c2⟩
theorem At.next {w w' : World} {b o : Nat} {k n : Int} {s : ByteArray} (h : At w b o k n s) (hb : Below w.heap.size w w') : At w' b o k n s := h.below hb h.lt
theorem At.new (w : World) (k n : Int) (s : ByteArray) : At (w.alloc (.cells #[.int .i64 k,.int .i64 n,.string s] 23)) w.heap.size 0 k n s := ⟨by simp,by simp,by simp⟩
theorem At.two (w : World) (k n k' n' : Int) (s s' : ByteArray) :
 At ((w.alloc (.cells #[.int .i64 k,.int .i64 n,.string s] 23)).alloc (.cells #[.int .i64 k',.int .i64 n',.string s'] 23)) w.heap.size 0 k n s ∧
 At ((w.alloc (.cells #[.int .i64 k,.int .i64 n,.string s] 23)).alloc (.cells #[.int .i64 k',.int .i64 n',.string s'] 23)) (w.heap.size + 1) 0 k' n' s' := by
 refine ⟨(At.new w k n s).next (below1 _ _), ?_⟩
 have := At.new (w.alloc (.cells #[.int .i64 k,.int .i64 n,.string s] 23)) k' n' s'
 rwa [show (w.alloc (.cells #[.int .i64 k,.int .i64 n,.string s] 23)).heap.size = w.heap.size + 1 by simp] at this
theorem end_cell_tmp {fn : Func} {p u : Tmp} {ty : TypeId} {b : Addr} {v : Value} {tmps : Array Value} {w : World} (h : fn.results = #[.cell p ty,.tmp u]) (hp : tmps.getD p undef = .pointer (some b)) (hl : (loadVar ty b).run Tryz.prog w = .ok v w) :
 (results fn tmps).run Tryz.prog w = .ok (.tuple #[v,tmps.getD u undef]) w := by
 rw [results_cell_tmp h,hp]
 simp [asAddr,hl,Result.andThen]
theorem end_cell {fn : Func} {p : Tmp} {ty : TypeId} {b : Addr} {v : Value} {tmps : Array Value} {w : World} (h : fn.results = #[.cell p ty]) (hp : tmps.getD p undef = .pointer (some b)) (hl : (loadVar ty b).run Tryz.prog w = .ok v w) :
 (results fn tmps).run Tryz.prog w = .ok v w := by
 have hp' : tmps[p]?.getD undef = .pointer (some b) := by rw [← Array.getD_eq_getD_getElem?]; exact hp
 simp only [results,h]
 simp [hp',asAddr,hl]
theorem loads {w : World} {b o n : Nat} (cs : List Value) (hn : cs.length = n) (h : ∀ j x,cs[j]? = some x → w.cell? ⟨b,o + j,none⟩ = some x) : (loadCellsFrom ⟨b,o,none⟩ 0 n #[]).run Tryz.prog w = .ok cs.toArray w := by
 have := run_loadCells_list (P := Tryz.prog) w ⟨b,o,none⟩ cs (fun j x hx => by rw [Go.WideShapes.add_plain]; exact h j x hx)
 rw [hn] at this
 exact this
def Glob (w : World) : Prop := ∃ m,w.cell? ⟨0,0,none⟩ = some (.int .i64 m)
theorem Glob.next {w w' : World} (h : Glob w) (hb : Below w.heap.size w w') : Glob w' := by
 obtain ⟨m,hm⟩ := h
 exact ⟨m,(hb.cell (p := ⟨0,0,none⟩) (World.block_lt_of_cell? w _ hm)).trans hm⟩
theorem len_of (s : ByteArray) : s.data.toList.length = s.size := by simp
theorem info_of {t : TypeId} {z : Value} {n k : Nat} (h : (Tryz.prog.info? t).map (fun i => (i.zero,i.size,i.bytes)) = some (some z,n,k)) : ∃ i,Tryz.prog.info? t = some i ∧ i.zero = some z ∧ i.size = n ∧ i.bytes = k := by
 cases hi : Tryz.prog.info? t with
 | none => rw [hi] at h; cases h
 | some i =>
   rw [hi] at h
   simp only [Option.map_some,Option.some.injEq,Prod.mk.injEq] at h
   exact ⟨i,rfl,h.1,h.2.1,h.2.2⟩
abbrev tv (k : Int) (s : ByteArray) (n a : Int) : Value := .agg #[.int .i64 k,.string s,.int .i64 n,.int .i64 a]
theorem at_of (s : ByteArray) (i : Nat) (h : i < s.size) : s.get! i = s[i] := by
 simp [ByteArray.get!,getElem!_pos,h]; rfl
theorem decode_span (s : ByteArray) (pos : Nat) (h : pos < s.size) (ha : 128 ≤ (s[pos]'h).toNat) :
 pos + (Utf8.decode s pos).2 ≤ s.size ∧ ∀ i (hi : i < s.size),pos ≤ i → i < pos + (Utf8.decode s pos).2 → 128 ≤ (s[i]).toNat := by
 have hn : ¬ (s[pos]'h).toNat < 128 := by omega
 have key : ∀ k,(pos + k < s.size ∧ (s.get! (pos + k)).toNat / 64 = 2) → ∀ (hi : pos + k < s.size),128 ≤ (s[pos + k]).toNat := fun k q hi => by
  have := q.2
  rw [at_of s _ hi] at this
  omega
 have one : ∀ c : Nat,pos + (c,1).2 ≤ s.size ∧ ∀ i (hi : i < s.size),pos ≤ i → i < pos + (c,1).2 → 128 ≤ (s[i]).toNat := fun c => ⟨by simp; omega,fun i hi h1 h2 => by
  simp at h2
  obtain rfl : i = pos := by omega
  exact ha⟩
 simp only [Utf8.decode,get_at s pos h,hn,if_false]
 simp only [Bool.and_eq_true,decide_eq_true_eq,beq_iff_eq]
 split
 · rename_i c1
   split
   · refine ⟨by simp; omega,fun i hi h1 h2 => ?_⟩
     simp at h2
     rcases (show i = pos ∨ i = pos + 1 by omega) with rfl | rfl
     · exact ha
     · exact key 1 c1.2 hi
   · exact one _
 · split
   · rename_i c1
     split
     · refine ⟨by simp; omega,fun i hi h1 h2 => ?_⟩
       simp at h2
       rcases (show i = pos ∨ i = pos + 1 ∨ i = pos + 2 by omega) with rfl | rfl | rfl
       · exact ha
       · exact key 1 c1.1.2 hi
       · exact key 2 c1.2 hi
     · exact one _
   · split
     · rename_i c1
       split
       · refine ⟨by simp; omega,fun i hi h1 h2 => ?_⟩
         simp at h2
         rcases (show i = pos ∨ i = pos + 1 ∨ i = pos + 2 ∨ i = pos + 3 by omega) with rfl | rfl | rfl | rfl
         · exact ha
         · exact key 1 c1.1.1.2 hi
         · exact key 2 c1.1.2 hi
         · exact key 3 c1.2 hi
       · exact one _
     · exact one _
def scan {σ : Type} (f : σ → UInt8 → Option σ) (st : σ) : List UInt8 → Nat × σ
 | [] => (0,st)
 | c :: r => match f st c with
   | none => (0,st)
   | some st' => ((scan f st' r).1 + 1,(scan f st' r).2)
theorem scan_stop {σ : Type} {f : σ → UInt8 → Option σ} {st : σ} {c : UInt8} {r : List UInt8} (h : f st c = none) : scan f st (c :: r) = (0,st) := by rw [scan,h]
theorem scan_go {σ : Type} {f : σ → UInt8 → Option σ} {st st' : σ} {c : UInt8} {r : List UInt8} (h : f st c = some st') : scan f st (c :: r) = ((scan f st' r).1 + 1,(scan f st' r).2) := by rw [scan,h]
theorem scan_skip {σ : Type} {f : σ → UInt8 → Option σ} {st : σ} : ∀ (x r : List UInt8),(∀ c ∈ x,f st c = some st) → scan f st (x ++ r) = (x.length + (scan f st r).1,(scan f st r).2)
 | [],r,_ => by simp
 | c :: x,r,h => by
   rw [List.cons_append,scan_go (h c (by simp)),scan_skip x r (fun d hd => h d (by simp [hd]))]
   simp; omega
theorem scan_take {f : Unit → UInt8 → Option Unit} {p : UInt8 → Bool} (h : ∀ c,f () c = if p c then some () else none) : ∀ l,(scan f () l).1 = (l.takeWhile p).length
 | [] => rfl
 | c :: r => by
   by_cases hp : p c = true
   · rw [scan_go (st' := ()) (by rw [h,if_pos hp]),List.takeWhile_cons_of_pos hp]
     simp [scan_take h r]
   · rw [scan_stop (by rw [h,if_neg hp]),List.takeWhile_cons_of_neg hp]
     rfl
theorem drop_at (s : ByteArray) (i : Nat) (h : i < s.size) : s.data.toList.drop i = s[i] :: s.data.toList.drop (i + 1) := by
 rw [List.drop_eq_getElem_cons (by simpa using h)]; rfl
theorem drop_span (s : ByteArray) (i k : Nat) (h : i + k ≤ s.size) (P : UInt8 → Prop) (hp : ∀ j (hj : j < s.size),i ≤ j → j < i + k → P s[j]) : ∃ x : List UInt8,x.length = k ∧ s.data.toList.drop i = x ++ s.data.toList.drop (i + k) ∧ ∀ c ∈ x,P c := by
 refine ⟨(s.data.toList.drop i).take k,by simp; omega, ?_,fun c hc => ?_⟩
 · rw [← List.drop_drop,List.take_append_drop]
 · obtain ⟨j,hj,e⟩ := List.getElem_of_mem hc
   have hj' : j < k ∧ i + j < s.size := by simp at hj; omega
   have := hp (i + j) hj'.2 (by omega) (by omega)
   rw [List.getElem_take,List.getElem_drop] at e
   rw [← e]
   exact this
structure Steps {σ : Type} (f : σ → UInt8 → Option σ) (high : σ → Bool) : Prop where
 hi : ∀ st c,128 ≤ c.toNat → f st c = if high st then some st else none
theorem step_high {σ : Type} {f : σ → UInt8 → Option σ} {high : σ → Bool} (H : Steps f high) (s : ByteArray) (pos : Nat) (st : σ) (h : pos < s.size) (ha : 128 ≤ (s[pos]'h).toNat) (hh : high st = true) :
 pos + (Utf8.decode s pos).2 ≤ s.size ∧ scan f st (s.data.toList.drop pos) = ((Utf8.decode s pos).2 + (scan f st (s.data.toList.drop (pos + (Utf8.decode s pos).2))).1,(scan f st (s.data.toList.drop (pos + (Utf8.decode s pos).2))).2) := by
 obtain ⟨h1,h2⟩ := decode_span s pos h ha
 obtain ⟨x,hx,e,hp⟩ := drop_span s pos _ h1 (fun c => 128 ≤ c.toNat) h2
 refine ⟨h1, ?_⟩
 rw [e,scan_skip x _ (fun c hc => by rw [H.hi st c (hp c hc),if_pos hh]),hx]
theorem beq_eq (r n : Int) : (r == n) = decide (r = n) := by
 rcases Int.decEq r n with h | h
 · rw [decide_eq_false h]; simpa using h
 · rw [decide_eq_true h]; simpa using h
theorem notNl_is (r : Int) (w : World) : Calls Tryz.prog 101 #[.int .i32 r] w fun e w' => e = .returned (.bool (!(r == 10))) ∧ w' = w := by
 go_enter Tryz.func101,Tryz.ntmps101
 go_wp2
 go_ret
 exact ⟨by simp [bne],rfl⟩
theorem blank_is (r : Int) (w : World) : Calls Tryz.prog 104 #[.int .i32 r] w fun e w' => e = .returned (.bool (r == 9 || r == 10 || r == 13 || r == 32)) ∧ w' = w := by
 have t1 : (r == 9) = true ∨ (r == 9) = false := by cases (r == 9) <;> simp
 have t2 : (r == 10) = true ∨ (r == 10) = false := by cases (r == 10) <;> simp
 have t3 : (r == 13) = true ∨ (r == 13) = false := by cases (r == 13) <;> simp
 have t4 : (r == 32) = true ∨ (r == 32) = false := by cases (r == 32) <;> simp
 rcases t1 with t1 | t1 <;> rcases t2 with t2 | t2 <;> rcases t3 with t3 | t3 <;> rcases t4 with t4 | t4 <;> rw [t1,t2,t3,t4] <;>
 · go_enter Tryz.func104,Tryz.ntmps104
   go_wp2
   go_ret
   exact ⟨rfl,rfl⟩
theorem letter_is (r : Int) (w : World) : Calls Tryz.prog 131 #[.int .i32 r] w fun e w' => e = .returned (.bool (decide (97 ≤ r ∧ r ≤ 122 ∨ 65 ≤ r ∧ r ≤ 90))) ∧ w' = w := by
 by_cases c1 : 97 ≤ r <;> by_cases c2 : r ≤ 122 <;> by_cases c3 : 65 ≤ r <;> by_cases c4 : r ≤ 90 <;>
 · first
   | (have hd : decide (97 ≤ r ∧ r ≤ 122 ∨ 65 ≤ r ∧ r ≤ 90) = true := by (rw [decide_eq_true_eq]; omega)
      rw [hd]; clear hd
      go_enter Tryz.func131,Tryz.ntmps131
      go_wp2
      go_ret
      exact ⟨rfl,rfl⟩)
   | (have hd : decide (97 ≤ r ∧ r ≤ 122 ∨ 65 ≤ r ∧ r ≤ 90) = false := by (rw [decide_eq_false_iff_not]; omega)
      rw [hd]; clear hd
      go_enter Tryz.func131,Tryz.ntmps131
      go_wp2
      go_ret
      exact ⟨rfl,rfl⟩)
theorem digit_is (r : Int) (w : World) : Calls Tryz.prog 108 #[.int .i32 r] w fun e w' => e = .returned (.bool (decide (48 ≤ r ∧ r ≤ 57))) ∧ w' = w := by
 by_cases c1 : 48 ≤ r <;> by_cases c2 : r ≤ 57 <;>
 · first
   | (have hd : decide (48 ≤ r ∧ r ≤ 57) = true := by (rw [decide_eq_true_eq]; omega)
      rw [hd]; clear hd
      go_enter Tryz.func108,Tryz.ntmps108
      go_wp2
      go_ret
      exact ⟨rfl,rfl⟩)
   | (have hd : decide (48 ≤ r ∧ r ≤ 57) = false := by (rw [decide_eq_false_iff_not]; omega)
      rw [hd]; clear hd
      go_enter Tryz.func108,Tryz.ntmps108
      go_wp2
      go_ret
      exact ⟨rfl,rfl⟩)
def begV (r : Int) : Bool := decide (97 ≤ r ∧ r ≤ 122 ∨ 65 ≤ r ∧ r ≤ 90) || r == 95
theorem begins_is (r : Int) (w : World) : Calls Tryz.prog 105 #[.int .i32 r] w fun e w' => e = .returned (.bool (begV r)) ∧ w' = w := by
 have H : Hid (∀ w,Calls Tryz.prog 131 #[.int .i32 r] w fun e w' => e = .returned (.bool (decide (97 ≤ r ∧ r ≤ 122 ∨ 65 ≤ r ∧ r ≤ 90))) ∧ w' = w) := fun w => letter_is r w
 unfold begV
 generalize decide (97 ≤ r ∧ r ≤ 122 ∨ 65 ≤ r ∧ r ≤ 90) = b at *
 cases b
 all_goals go_enter Tryz.func105,Tryz.ntmps105
 all_goals go_wp2_with fail
 all_goals (refine (H.out _).mono ?_; rintro e w1 ⟨rfl,rfl⟩)
 all_goals go_wp2_with fail
 all_goals go_ret
 all_goals exact ⟨rfl,rfl⟩
def inV (r : Int) : Bool := begV r || decide (48 ≤ r ∧ r ≤ 57)
theorem inWord_is (r : Int) (w : World) : Calls Tryz.prog 132 #[.int .i32 r] w fun e w' => e = .returned (.bool (inV r)) ∧ w' = w := by
 have H : Hid (∀ w,Calls Tryz.prog 105 #[.int .i32 r] w fun e w' => e = .returned (.bool (begV r)) ∧ w' = w) := fun w => begins_is r w
 have H2 : Hid (∀ w,Calls Tryz.prog 108 #[.int .i32 r] w fun e w' => e = .returned (.bool (decide (48 ≤ r ∧ r ≤ 57))) ∧ w' = w) := fun w => digit_is r w
 unfold inV
 generalize decide (48 ≤ r ∧ r ≤ 57) = c at *
 generalize begV r = b at *
 cases b
 · go_enter Tryz.func132,Tryz.ntmps132
   go_wp2_with fail
   refine (H.out _).mono ?_; rintro e w1 ⟨rfl,rfl⟩
   go_wp2_with fail
   refine (H2.out _).mono ?_; rintro e w1 ⟨rfl,rfl⟩
   go_wp2_with fail
   go_ret
   exact ⟨rfl,rfl⟩
 · go_enter Tryz.func132,Tryz.ntmps132
   go_wp2_with fail
   refine (H.out _).mono ?_; rintro e w1 ⟨rfl,rfl⟩
   go_wp2_with fail
   go_ret
   exact ⟨rfl,rfl⟩
end Go.Proofs.YtlgkghebemfpjaaGreatDoor
