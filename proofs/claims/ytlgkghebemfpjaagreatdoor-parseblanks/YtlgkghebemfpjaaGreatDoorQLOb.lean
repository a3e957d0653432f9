/- Rows of bytes of one's own. The document's key words and letters. The document's words. LexBack walked. What is left of a text; how it begins. Behind blanks and remarks, by the document. Between quotes, by the document. -/
import Derived.Test.YtlgkghebemfpjaaGreatDoorQLPb
import Derived.Maps.AppendAt
import Derived.Laws.BytesString
import Derived.Laws.IdiomStrings
import Derived.LoopTactic
namespace Go.Proofs.YtlgkghebemfpjaaGreatDoor
open Go.ChangeShapes Go.WideShapes Go.ChangeAt Go.RowKit
set_option linter.unusedVariables false
set_option maxRecDepth 100000
set_option maxRecDepth 100000
theorem info5 : (Tryz.prog.info? 5).map (fun i => (i.zero,i.size,i.bytes)) = some (some (.int .u8 0),1,1) := by kernel_rfl
def bvs (l : List UInt8) : List Value := l.map fun c => Value.int .u8 (c.toNat : Int)
theorem bvs_at (l : List UInt8) (k : Nat) (h : k < l.length) : (bvs l)[k]? = some (Value.int .u8 (l[k].toNat : Int)) := by unfold bvs; simp [h]
def OwnB (w : World) (B : Nat) (v : Value) (l : List UInt8) : Prop := w.ownsRow B 5 1 v l.length (bvs l)
theorem OwnB.nil (w : World) (B : Nat) : OwnB w B (.slice none 0 0) [] := ⟨by simp [bvs],.inl ⟨rfl,rfl⟩⟩
theorem OwnB.far {w w' : World} {B : Nat} {v : Value} {r : List UInt8} (h : OwnB w B v r) (k : ∀ g,v.ownBlock = some g → w'.heap[g]? = w.heap[g]?) : OwnB w' B v r := by
 refine ⟨h.1, ?_⟩
 rcases h.2 with q | ⟨g,cap,cur,e,hg,hh,q⟩
 · exact .inl q
 · exact .inr ⟨g,cap,cur,e,hg,(k g (by rw [e]; rfl)).trans hh,q⟩
theorem OwnB.next {w w' : World} {B : Nat} {v : Value} {r : List UInt8} (h : OwnB w B v r) (k : Below w.heap.size w w') : OwnB w' B v r := h.far (fun g hg => k.block g (World.ownsRow.lt h g hg).2)
def NewOr (n : Nat) (v v' : Value) : Prop := v'.ownBlock = v.ownBlock ∨ ∃ k,v'.ownBlock = some k ∧ n ≤ k
theorem append_byte {w : World} {v : Value} {r : List UInt8} {B : Nat} (h : OwnB w B v r) (c : UInt8) (hs : r.length ≤ 1000000) (hb : B ≤ w.heap.size) :
 ∃ v' w',(Builtin.append_ #[77,77] 77 #[v,.slice (some ⟨w.heap.size,0,none⟩) 1 1]).run Tryz.prog (w.alloc (.cells #[.int .u8 (c.toNat : Int)] 5)) = .ok v' w' ∧ OwnB w' B v' (r ++ [c]) ∧ Below B w w' ∧
  (∀ k,k < w.heap.size → some k ≠ v.ownBlock → w'.heap[k]? = w.heap[k]?) ∧ NewOr w.heap.size v v' := by
 obtain ⟨i,hi,hz,h1,h2⟩ := info_of info5
 obtain ⟨v',w',a1,a2,a3,a4,a5⟩ := run_append_own_at (P := Tryz.prog) (w.alloc (.cells #[.int .u8 (c.toNat : Int)] 5)) B 77 77 5 i _ 1 1 Tryz.underlying77 hi hz h1 h2 (by simp [Value.cells]) (by omega) v r.length (bvs r) (World.ownsRow.alloc h _) ⟨w.heap.size,0,none⟩ 1 1 (bvs [c]) (by simp [bvs])
  (fun j u hu => by
   rw [Go.WideShapes.add_plain,Nat.zero_add]
   match j,hu with
   | 0,hu => cases hu; simp) (fun u hu => by
     have : u = .int .u8 (c.toNat : Int) := by simpa [bvs] using hu
     rw [this]; rfl) (by unfold maxLen; omega) (by omega) (Nat.le_trans hb (by simp))
 refine ⟨v',w',a1, ?_,((Below.refl B w).alloc hb _).grown a3 (Nat.le_trans hb (by simp)) (fun k hk => (World.ownsRow.lt h k hk).1),fun k hk hne => ?_, ?_⟩
 · unfold OwnB
   rw [List.length_append]
   have : bvs (r ++ [c]) = bvs r ++ bvs [c] := by unfold bvs; simp
   rw [this]
   exact a2
 · exact (a3.block k (by simp; omega) hne).trans ((below1 w _).block k hk)
 · rcases a5 with a5 | a5
   · exact .inl a5
   · exact .inr ⟨_,a5,by simp⟩
theorem OwnB.str {w : World} {B : Nat} {v : Value} {l : List UInt8} (h : OwnB w B v l) : (convert 77 9 v).run Tryz.prog w = .ok (.string ⟨l.toArray⟩) w := by
 by_cases hl : l = []
 · subst hl
   rcases h.2 with ⟨rfl,_⟩ | ⟨g,cap,cur,rfl,_⟩
   · show (convert 77 9 (.slice none 0 0)).run Tryz.prog w = _
     rw [run_convert_bytes_string w 77 9 5 none 0 0 Tryz.underlying77 Tryz.underlying5 Tryz.underlying9]
     rfl
   · show (convert 77 9 (.slice (some ⟨g,0,none⟩) 0 cap)).run Tryz.prog w = _
     rw [run_convert_bytes_string w 77 9 5 _ 0 cap Tryz.underlying77 Tryz.underlying5 Tryz.underlying9]
     rfl
 · have h0 : l.length ≠ 0 := fun e => hl (List.eq_nil_of_length_eq_zero e)
   rcases h.2 with ⟨_,e⟩ | ⟨g,cap,cur,rfl,_⟩
   · exact absurd e h0
   · exact run_convert_bytes_back w 77 9 5 ⟨g,0,none⟩ cap l Tryz.underlying77 Tryz.underlying5 Tryz.underlying9 (fun j hj => by
      rw [Go.WideShapes.add_plain,Nat.zero_add,World.ownsRow.cellAt h j (by simpa using hj),bvs_at _ j hj])
theorem has_is (L : List (List UInt8)) (n : Nat) (hn : L.length = n) (hm : n ≤ 1000) (s : ByteArray) (g c : Nat) (w : World) (hc : ∀ i (h : i < L.length),w.cell? ⟨g,i,none⟩ = some (.string ⟨(L[i]).toArray⟩)) :
 Calls Tryz.prog 82 #[.slice (some ⟨g,0,none⟩) n c,.string s] w fun e w' => e = .returned (.bool (L.contains s.data.toList)) ∧ w' = w := by
 obtain ⟨v,hv⟩ : ∃ v,L.contains s.data.toList = v := ⟨_,rfl⟩
 rw [hv]
 have HV : Hid (L.contains s.data.toList = v) := hv
 have HC : Hid (∀ i (h : i < L.length),w.cell? ⟨g,i,none⟩ = some (.string ⟨(L[i]).toArray⟩)) := hc
 have HN : Hid (L.length = n) := hn
 clear hv hc hn
 go_enter Tryz.func82,Tryz.ntmps82
 go_wp2
 go_loop [5] (fun i => ∃ j : Nat,j ≤ n ∧ i = .int .i64 j ∧ Hid (∀ i (h : i < L.length),i < j → L[i] ≠ s.data.toList)) (fun i => n - (intOf i).toNat)
 case atStart => exact ⟨0,Nat.zero_le _,rfl,fun i h hi => by omega⟩
 case round =>
  obtain ⟨j,hj,rfl,HA⟩ := hrel
  by_cases hlt : j < n
  · have hlti : (j : Int) < (n : Int) := by omega
    have hL : j < L.length := by have := HN.out; omega
    have c0 := HC.out j hL
    by_cases hq : L[j] = s.data.toList
    · have h1 : ((⟨(L[j]).toArray⟩ : ByteArray).toList == s.toList) = true := by rw [toList_ba,hq,ByteArray.toList_eq]; simp
      have HT : Hid (v = true) := by
       show _ = _
       rw [← HV.out,List.contains_iff_mem, ← hq]
       exact List.getElem_mem hL
      generalize (⟨(L[j]).toArray⟩ : ByteArray) = A at *
      clear hq
      go_wp2
      go_ret
      exact ⟨ret_b HT.out.symm,rfl⟩
    · have h1 : ((⟨(L[j]).toArray⟩ : ByteArray).toList == s.toList) = false := by rw [toList_ba,ByteArray.toList_eq]; simpa using hq
      have HA2 : Hid (∀ i (h : i < L.length),i < j + 1 → L[i] ≠ s.data.toList) := fun i h hi => by
       by_cases e : i = j
       · subst e; exact hq
       · exact HA.out i h (by omega)
      generalize (⟨(L[j]).toArray⟩ : ByteArray) = A at *
      clear hq HA
      go_wp2
      go_round
      case rel => exact ⟨j + 1,by omega,by go_num,HA2⟩
      case measure => simp [intOf]; omega
  · have hlti : ¬ (j : Int) < (n : Int) := by omega
    have HT : Hid (v = false) := by
     show _ = _
     rw [← HV.out]
     cases hq : L.contains s.data.toList
     · rfl
     · exfalso
       rw [List.contains_iff_mem] at hq
       obtain ⟨i,hi,e⟩ := List.getElem_of_mem hq
       exact HA.out i hi (by have := HN.out; omega) e
    go_wp2
    go_ret
    exact ⟨ret_b HT.out.symm,rfl⟩
theorem keys_ref (w : World) : Calls Tryz.prog 83 #[] w fun e w' => e = .returned (.slice (some ⟨w.heap.size,0,none⟩) 37 37) ∧ w' = w.alloc (.cells (keysL.map (fun k => Value.string ⟨k.toArray⟩)).toArray 9) := by
 go_enter Tryz.func83,Tryz.ntmps83
 go_wp2
 go_ret
 exact ⟨rfl,rfl⟩
theorem row_cell (L : List (List UInt8)) (w : World) (i : Nat) (h : i < L.length) : (w.alloc (.cells (L.map (fun k => Value.string ⟨k.toArray⟩)).toArray 9)).cell? ⟨w.heap.size,i,none⟩ = some (.string ⟨(L[i]).toArray⟩) := by
 simp [h]
theorem key_ref (s : ByteArray) (w : World) : Calls Tryz.prog 53 #[.string s] w fun e w' => e = .returned (.bool (keyB s.data.toList)) ∧ Below w.heap.size w w' := by
 have H1 : Hid (∀ w,Calls Tryz.prog 83 #[] w fun e w' => e = .returned (.slice (some ⟨w.heap.size,0,none⟩) 37 37) ∧ w' = w.alloc (.cells (keysL.map (fun k => Value.string ⟨k.toArray⟩)).toArray 9)) := fun w => keys_ref w
 have H2 : Hid (∀ w : World,Calls Tryz.prog 82 #[.slice (some ⟨w.heap.size,0,none⟩) 37 37,.string s] (w.alloc (.cells (keysL.map (fun k => Value.string ⟨k.toArray⟩)).toArray 9)) fun e w' => e = .returned (.bool (keyB s.data.toList)) ∧ w' = w.alloc (.cells (keysL.map (fun k => Value.string ⟨k.toArray⟩)).toArray 9)) :=
  fun w => has_is keysL 37 rfl (by omega) s w.heap.size 37 _ (fun i h => row_cell keysL w i h)
 generalize (keysL.map (fun k => Value.string ⟨k.toArray⟩)).toArray = KC at *
 go_enter Tryz.func53,Tryz.ntmps53
 go_wp2_with fail
 refine Calls.mono (H1.out _) ?_; rintro e w1 ⟨rfl,rfl⟩
 go_wp2_with fail
 refine Calls.mono (H2.out _) ?_; rintro e w2 ⟨rfl,rfl⟩
 go_wp2_with fail
 go_ret
 exact ⟨rfl,below1 _ _⟩
def letB (c : UInt8) (first : Bool) : Bool := ltB c || (!first && dgB c)
theorem letter_ref (c : UInt8) (f : Bool) (w : World) : Calls Tryz.prog 50 #[.int .u8 (c.toNat : Int),.bool f] w fun e w' => e = .returned (.bool (letB c f)) ∧ w' = w := by
 have he : letB c f = (decide ((97 : Int) ≤ (c.toNat : Int) ∧ (c.toNat : Int) ≤ 122 ∨ 65 ≤ (c.toNat : Int) ∧ (c.toNat : Int) ≤ 90) || ((c.toNat : Int) == 95) || (!f && decide ((48 : Int) ≤ (c.toNat : Int) ∧ (c.toNat : Int) ≤ 57))) := by
  unfold letB ltB dgB
  rw [beq_eq]
  cases f
  · rw [Bool.eq_iff_iff]
    simp
    omega
  · rw [Bool.eq_iff_iff]
    simp
    omega
 rw [he]
 generalize (c.toNat : Int) = r at *
 clear he
 have HE : ∀ b : Bool,Hid ((decide ((97 : Int) ≤ r ∧ r ≤ 122 ∨ 65 ≤ r ∧ r ≤ 90) || (r == 95) || (!f && decide ((48 : Int) ≤ r ∧ r ≤ 57))) = b → (decide ((97 : Int) ≤ r ∧ r ≤ 122 ∨ 65 ≤ r ∧ r ≤ 90) || (r == 95) || (!f && decide ((48 : Int) ≤ r ∧ r ≤ 57))) = b) := fun b h => h
 obtain ⟨v,hv⟩ : ∃ v,(decide ((97 : Int) ≤ r ∧ r ≤ 122 ∨ 65 ≤ r ∧ r ≤ 90) || (r == 95) || (!f && decide ((48 : Int) ≤ r ∧ r ≤ 57))) = v := ⟨_,rfl⟩
 rw [hv]
 have HV : Hid ((decide ((97 : Int) ≤ r ∧ r ≤ 122 ∨ 65 ≤ r ∧ r ≤ 90) || decide (r = 95) || (!f && decide ((48 : Int) ≤ r ∧ r ≤ 57))) = v) := by rw [beq_eq] at hv; exact hv
 clear hv HE
 by_cases c5 : r = 95
 · subst c5
   have q : v = true := by rw [← HV.out]; simp
   subst q
   clear HV
   cases f
   all_goals go_enter Tryz.func50,Tryz.ntmps50
   all_goals go_wp2
   all_goals go_ret
   all_goals exact ⟨rfl,rfl⟩
 · have c5' : (r == 95) = false := by simpa using c5
   by_cases c1 : 97 ≤ r <;> by_cases c2 : r ≤ 122 <;> by_cases c3 : 65 ≤ r <;> by_cases c4 : r ≤ 90 <;> by_cases c6 : 48 ≤ r <;> by_cases c7 : r ≤ 57 <;> cases f <;>
   first
   | (exfalso; omega)
   | (have q : v = true := by
       rw [← HV.out,Bool.eq_iff_iff]; simp; omega
      subst q; clear HV
      go_enter Tryz.func50,Tryz.ntmps50
      go_wp2
      go_ret
      exact ⟨rfl,rfl⟩)
   | (have q : v = false := by
       rw [← HV.out]; simp; omega
      subst q; clear HV
      go_enter Tryz.func50,Tryz.ntmps50
      go_wp2
      go_ret
      exact ⟨rfl,rfl⟩)
theorem letB_wd (c : UInt8) : letB c false = wdB c := by unfold letB wdB; simp
theorem word_ref_false (s : ByteArray) (hs : s.size ≤ 100000) (a : Nat) (ha : a ≤ s.size) (w : World) :
 Calls Tryz.prog 51 #[.string s,.int .i64 (a : Int),.bool false] w fun e w' => e = .returned (.int .i64 ((a + ((s.data.toList.drop a).takeWhile wdB).length : Nat) : Int)) ∧ w' = w := by
 obtain ⟨T,hT⟩ : ∃ T,a + ((s.data.toList.drop a).takeWhile wdB).length = T := ⟨_,rfl⟩
 rw [hT]
 have HT : Hid (T = a + ((s.data.toList.drop a).takeWhile wdB).length) := hT.symm
 clear hT
 go_enter Tryz.func51,Tryz.ntmps51
 go_wp2_with fail
 go_loop [1] (fun i => ∃ j : Nat,j ≤ s.size ∧ i = .int .i64 j ∧ Hid (T = j + ((s.data.toList.drop j).takeWhile wdB).length)) (fun i => s.size - (intOf i).toNat)
 case atStart => exact ⟨a,ha,rfl,HT⟩
 case round =>
  obtain ⟨j,hj,rfl,HP⟩ := hrel
  by_cases hlt : j < s.size
  · have hlti : (j : Int) < (s.size : Int) := by omega
    have hd := drop_at s j hlt
    have HL : Hid (∀ w,Calls Tryz.prog 50 #[.int .u8 (s[j].toNat : Int),.bool false] w fun e w' => e = .returned (.bool (wdB s[j])) ∧ w' = w) := fun w => by
     rw [← letB_wd]; exact letter_ref s[j] false w
    have hdg : dgB s[j] = decide ((48 : Int) ≤ (s[j].toNat : Int) ∧ (s[j].toNat : Int) ≤ 57) := by unfold dgB; rw [decide_eq_decide]; omega
    have hwd : dgB s[j] = true → wdB s[j] = true := fun h => by unfold wdB; rw [h]; simp
    by_cases hp : wdB s[j] = true
    · have HN : Hid (T = j + 1 + ((s.data.toList.drop (j + 1)).takeWhile wdB).length) := by
       show _ = _
       rw [HP.out,hd,List.takeWhile_cons_of_pos hp]
       simp; omega
      rw [hp] at HL
      clear hdg hwd hp hd HP
      go_wp2_with fail
      refine (HL.out _).mono ?_; rintro e w1 ⟨rfl,rfl⟩
      go_wp2_with fail
      go_round
      case rel => exact ⟨j + 1,by omega,by go_num,HN⟩
      case measure => simp [intOf]; omega
    · have hp2 : wdB s[j] = false := by simpa using hp
      have HN : Hid (T = j) := by
       show _ = _
       rw [HP.out,hd,List.takeWhile_cons_of_neg hp]
       rfl
      have hn : ¬ ((48 : Int) ≤ (s[j].toNat : Int) ∧ (s[j].toNat : Int) ≤ 57) := fun q => hp (hwd (by rw [hdg,decide_eq_true q]))
      rw [hp2] at HL
      clear hdg hwd hp hp2 hd HP
      by_cases q1 : (48 : Int) ≤ (s[j].toNat : Int)
      · have q2 : ¬ (s[j].toNat : Int) ≤ 57 := fun q => hn ⟨q1,q⟩
        clear hn
        go_wp2_with fail
        refine (HL.out _).mono ?_; rintro e w1 ⟨rfl,rfl⟩
        go_wp2_with fail
        go_ret
        exact ⟨ret_int (by rw [HN.out]),rfl⟩
      · clear hn
        go_wp2_with fail
        refine (HL.out _).mono ?_; rintro e w1 ⟨rfl,rfl⟩
        go_wp2_with fail
        go_ret
        exact ⟨ret_int (by rw [HN.out]),rfl⟩
  · have hlti : ¬ (j : Int) < (s.size : Int) := by omega
    have HN : Hid (T = j) := by
     show _ = _
     rw [HP.out,List.drop_of_length_le (by rw [len_of]; omega)]
     rfl
    clear HP
    go_wp2_with fail
    go_ret
    exact ⟨ret_int (by rw [HN.out]),rfl⟩
theorem word_ref_true (s : ByteArray) (hs : s.size ≤ 100000) (a : Nat) (ha : a ≤ s.size) (w : World) :
 Calls Tryz.prog 51 #[.string s,.int .i64 (a : Int),.bool true] w fun e w' => e = .returned (.int .i64 ((a + ((s.data.toList.drop a).takeWhile dgB).length : Nat) : Int)) ∧ w' = w := by
 obtain ⟨T,hT⟩ : ∃ T,a + ((s.data.toList.drop a).takeWhile dgB).length = T := ⟨_,rfl⟩
 rw [hT]
 have HT : Hid (T = a + ((s.data.toList.drop a).takeWhile dgB).length) := hT.symm
 clear hT
 go_enter Tryz.func51,Tryz.ntmps51
 go_wp2_with fail
 go_loop [1] (fun i => ∃ j : Nat,j ≤ s.size ∧ i = .int .i64 j ∧ Hid (T = j + ((s.data.toList.drop j).takeWhile dgB).length)) (fun i => s.size - (intOf i).toNat)
 case atStart => exact ⟨a,ha,rfl,HT⟩
 case round =>
  obtain ⟨j,hj,rfl,HP⟩ := hrel
  by_cases hlt : j < s.size
  · have hlti : (j : Int) < (s.size : Int) := by omega
    have hd := drop_at s j hlt
    have HL : Hid (∀ w,Calls Tryz.prog 50 #[.int .u8 (s[j].toNat : Int),.bool false] w fun e w' => e = .returned (.bool (wdB s[j])) ∧ w' = w) := fun w => by
     rw [← letB_wd]; exact letter_ref s[j] false w
    have hdg : dgB s[j] = decide ((48 : Int) ≤ (s[j].toNat : Int) ∧ (s[j].toNat : Int) ≤ 57) := by unfold dgB; rw [decide_eq_decide]; omega
    have hwd : dgB s[j] = true → wdB s[j] = true := fun h => by unfold wdB; rw [h]; simp
    by_cases hp : dgB s[j] = true
    · have HN : Hid (T = j + 1 + ((s.data.toList.drop (j + 1)).takeWhile dgB).length) := by
       show _ = _
       rw [HP.out,hd,List.takeWhile_cons_of_pos hp]
       simp; omega
      rw [hdg,decide_eq_true_eq] at hp
      obtain ⟨q1,q2⟩ := hp
      clear hdg hwd hd HP HL
      go_wp2_with fail
      go_round
      case rel => exact ⟨j + 1,by omega,by go_num,HN⟩
      case measure => simp [intOf]; omega
    · have hp2 : dgB s[j] = false := by simpa using hp
      have HN : Hid (T = j) := by
       show _ = _
       rw [HP.out,hd,List.takeWhile_cons_of_neg hp]
       rfl
      have hn : ¬ ((48 : Int) ≤ (s[j].toNat : Int) ∧ (s[j].toNat : Int) ≤ 57) := fun q => hp (by rw [hdg,decide_eq_true q])
      clear hdg hwd hp hp2 hd HP HL
      by_cases q1 : (48 : Int) ≤ (s[j].toNat : Int)
      · have q2 : ¬ (s[j].toNat : Int) ≤ 57 := fun q => hn ⟨q1,q⟩
        clear hn
        go_wp2_with fail
        go_ret
        exact ⟨ret_int (by rw [HN.out]),rfl⟩
      · clear hn
        go_wp2_with fail
        go_ret
        exact ⟨ret_int (by rw [HN.out]),rfl⟩
  · have hlti : ¬ (j : Int) < (s.size : Int) := by omega
    have HN : Hid (T = j) := by
     show _ = _
     rw [HP.out,List.drop_of_length_le (by rw [len_of]; omega)]
     rfl
    clear HP
    go_wp2_with fail
    go_ret
    exact ⟨ret_int (by rw [HN.out]),rfl⟩
theorem OwnB.new (w : World) (x : UInt8) {y : Int} (hy : (x.toNat : Int) = y) : OwnB (w.alloc (.cells #[.int .u8 y] 5)) w.heap.size (.slice (some ⟨w.heap.size,0,none⟩) 1 1) [x] := by
 subst hy
 exact ⟨rfl,.inr ⟨w.heap.size,1,#[.int .u8 (x.toNat : Int)],rfl,Nat.le_refl _,heap_alloc_new w _,Nat.le_refl _,by decide,rfl,rfl⟩⟩
theorem take_byte (s : ByteArray) (k : Nat) (h : k < s.size) : s.data.toList.take (k + 1) = s.data.toList.take k ++ [s[k]] := by
 rw [List.take_succ_eq_append_getElem (by simpa using h)]; rfl
theorem up_snoc (l : List UInt8) (c : UInt8) : up (l ++ [c]) = up l ++ [Lib.upperB c] := by simp [up,Lib.toUpperA]
theorem upper_yes {c : UInt8} (h1 : 97 ≤ (c.toNat : Int)) (h2 : (c.toNat : Int) ≤ 122) : ((Lib.upperB c).toNat : Int) = (c.toNat : Int) - 32 := by
 have a : (97 : UInt8) ≤ c := by rw [UInt8.le_iff_toNat_le]; show 97 ≤ c.toNat; omega
 have b : c ≤ (122 : UInt8) := by rw [UInt8.le_iff_toNat_le]; show c.toNat ≤ 122; omega
 unfold Lib.upperB Lib.isLowerB
 rw [decide_eq_true a,decide_eq_true b]
 simp only [Bool.and_true,if_true]
 rw [UInt8.toNat_sub]
 have : (32 : UInt8).toNat = 32 := rfl
 omega
theorem upper_no {c : UInt8} (h : ¬ (97 ≤ (c.toNat : Int) ∧ (c.toNat : Int) ≤ 122)) : Lib.upperB c = c := by
 unfold Lib.upperB Lib.isLowerB
 rw [if_neg]
 intro q
 simp only [Bool.and_eq_true,decide_eq_true_eq] at q
 have a := UInt8.le_iff_toNat_le.1 q.1
 have b := UInt8.le_iff_toNat_le.1 q.2
 have e1 : (97 : UInt8).toNat = 97 := rfl
 have e2 : (122 : UInt8).toNat = 122 := rfl
 exact h ⟨by omega,by omega⟩
theorem capital_ref (s : ByteArray) (hs : s.size ≤ 100000) (w : World) : Calls Tryz.prog 52 #[.string s] w fun e w' => e = .returned (.string ⟨(up s.data.toList).toArray⟩) ∧ Below w.heap.size w w' := by
 have H0 : Hid (OwnB w w.heap.size (.slice none 0 0) (up (s.data.toList.take 0))) := OwnB.nil _ _
 have HALL : Hid (s.data.toList.take s.size = s.data.toList) := List.take_of_length_le (by rw [len_of]; exact Nat.le_refl _)
 go_enter Tryz.func52,Tryz.ntmps52
 go_wp2_with fail
 go_loopw [3,4] (fun v i wr => ∃ j : Nat,j ≤ s.size ∧ i = .int .i64 j ∧ Hid (OwnB wr w.heap.size v (up (s.data.toList.take j)) ∧ Below w.heap.size w wr)) (fun _ i _ => s.size - (intOf i).toNat)
 case atStart => exact ⟨0,Nat.zero_le _,rfl,H0.out,Below.refl _ _⟩
 case round =>
  obtain ⟨j,hj,rfl,HI⟩ := hrel
  by_cases hlt : j < s.size
  · have hlti : (j : Int) < (s.size : Int) := by omega
    have hln : (up (s.data.toList.take j)).length ≤ 1000000 := by rw [up_len,List.length_take]; omega
    by_cases q1 : (97 : Int) ≤ (s[j].toNat : Int)
    · by_cases q2 : (s[j].toNat : Int) ≤ 122
      · obtain ⟨v2,w2,ra,o2,b2,_,_⟩ := append_byte HI.out.1 (Lib.upperB s[j]) hln HI.out.2.size
        rw [upper_yes q1 q2] at ra
        rw [← up_snoc, ← take_byte s j hlt] at o2
        have RA : Hid ((Builtin.append_ #[77,77] 77 #[u3,.slice (some ⟨wr.heap.size,0,none⟩) 1 1]).run Tryz.prog (wr.alloc (.cells #[.int .u8 ((s[j].toNat : Int) - 32)] 5)) = .ok v2 w2) := ra
        have HE : Hid (OwnB w2 w.heap.size v2 (up (s.data.toList.take (j + 1))) ∧ Below w.heap.size w w2) := ⟨o2,HI.out.2.trans b2⟩
        clear ra o2 b2 HI hln
        go_wp2_with (first | ((with_reducible apply st_append (x := .tmp 23)); (case ho => rfl); (case hgd => rfl); (case hr => exact RA.out)))
        go_roundw
        case rel => exact ⟨j + 1,by omega,by go_num,HE⟩
        case measure => simp [intOf]; omega
      · obtain ⟨v2,w2,ra,o2,b2,_,_⟩ := append_byte HI.out.1 (Lib.upperB s[j]) hln HI.out.2.size
        rw [← up_snoc, ← take_byte s j hlt] at o2
        rw [upper_no (by omega)] at ra
        have RA : Hid ((Builtin.append_ #[77,77] 77 #[u3,.slice (some ⟨wr.heap.size,0,none⟩) 1 1]).run Tryz.prog (wr.alloc (.cells #[.int .u8 (s[j].toNat : Int)] 5)) = .ok v2 w2) := ra
        have HE : Hid (OwnB w2 w.heap.size v2 (up (s.data.toList.take (j + 1))) ∧ Below w.heap.size w w2) := ⟨o2,HI.out.2.trans b2⟩
        clear ra o2 b2 HI hln
        go_wp2_with (first | ((with_reducible apply st_append (x := .tmp 23)); (case ho => rfl); (case hgd => rfl); (case hr => exact RA.out)))
        go_roundw
        case rel => exact ⟨j + 1,by omega,by go_num,HE⟩
        case measure => simp [intOf]; omega
    · obtain ⟨v2,w2,ra,o2,b2,_,_⟩ := append_byte HI.out.1 (Lib.upperB s[j]) hln HI.out.2.size
      rw [← up_snoc, ← take_byte s j hlt] at o2
      rw [upper_no (by omega)] at ra
      have RA : Hid ((Builtin.append_ #[77,77] 77 #[u3,.slice (some ⟨wr.heap.size,0,none⟩) 1 1]).run Tryz.prog (wr.alloc (.cells #[.int .u8 (s[j].toNat : Int)] 5)) = .ok v2 w2) := ra
      have HE : Hid (OwnB w2 w.heap.size v2 (up (s.data.toList.take (j + 1))) ∧ Below w.heap.size w w2) := ⟨o2,HI.out.2.trans b2⟩
      clear ra o2 b2 HI hln
      go_wp2_with (first | ((with_reducible apply st_append (x := .tmp 23)); (case ho => rfl); (case hgd => rfl); (case hr => exact RA.out)))
      go_roundw
      case rel => exact ⟨j + 1,by omega,by go_num,HE⟩
      case measure => simp [intOf]; omega
  · have hlti : ¬ (j : Int) < (s.size : Int) := by omega
    obtain rfl : j = s.size := by omega
    have o := HI.out.1
    rw [HALL.out] at o
    have cv := o.str
    have HB : Hid (Below w.heap.size w wr) := HI.out.2
    clear HI o
    go_wp2_with fail
    go_ret
    exact ⟨rfl,HB.out⟩
theorem tw_whole' (p : UInt8 → Bool) (l : List UInt8) (h : l.all p = true) : l.takeWhile p = l := by
 have := List.takeWhile_append_of_pos (p := p) (l₁ := l) (l₂ := []) (by rw [List.all_eq_true] at h; exact h)
 simpa using this
theorem wordB_is (l : List UInt8) : wordB l = decide (l ≠ [] ∧ l.length ≤ 64 ∧ ltB (l.headD 0) = true ∧ (l.takeWhile wdB).length = l.length ∧ keyB (up l) = false) := by
 cases h : wordB l
 · symm
   rw [decide_eq_false_iff_not]
   rintro ⟨h0,h1,h2,h3,h4⟩
   have e : l.takeWhile wdB = l := by
    have := take_tw wdB l
    rw [h3,List.take_length] at this
    exact this.symm
   have hf : firstV l = ⟨1,l,0,l.length⟩ := by
    unfold firstV
    rw [if_pos h2]
    unfold wordV
    rw [e,if_neg (by omega),if_neg (by rw [h4]; exact fun q => by cases q)]
   unfold wordB at h
   rw [hf] at h
   simp [h0] at h
 · symm
   rw [decide_eq_true_eq]
   obtain ⟨a,b,c,d,e⟩ := wordB_parts h
   exact ⟨a,d,b,by rw [tw_whole' wdB l c],e⟩
theorem word_r_empty (w : World) : Calls Tryz.prog 27 #[.string ⟨#[]⟩] w fun e w' => e = .returned (.bool false) ∧ Below w.heap.size w w' := by
 go_enter Tryz.func27,Tryz.ntmps27
 go_wp2_with fail
 go_ret
 exact ⟨rfl,Below.refl _ _⟩
theorem word_r_long (s : ByteArray) (h0 : s.toList.isEmpty = false) (h1 : ¬ s.toList = []) (hl : 64 < (s.size : Int)) (w : World) : Calls Tryz.prog 27 #[.string s] w fun e w' => e = .returned (.bool false) ∧ Below w.heap.size w w' := by
 go_enter Tryz.func27,Tryz.ntmps27
 go_wp2_with fail
 go_ret
 exact ⟨rfl,Below.refl _ _⟩
theorem word_r_first (s : ByteArray) (h0 : s.toList.isEmpty = false) (h1 : ¬ s.toList = []) (hp : 0 < s.size) (hl : ¬ 64 < (s.size : Int)) (H : Hid (∀ w,Calls Tryz.prog 50 #[.int .u8 (s[0].toNat : Int),.bool true] w fun e w' => e = .returned (.bool false) ∧ w' = w)) (w : World) : Calls Tryz.prog 27 #[.string s] w fun e w' => e = .returned (.bool false) ∧ Below w.heap.size w w' := by
 have hpi : (0 : Int) < (s.size : Int) := by omega
 go_enter Tryz.func27,Tryz.ntmps27
 go_wp2_with fail
 refine (H.out _).mono ?_; rintro e w1 ⟨rfl,rfl⟩
 go_wp2_with fail
 go_ret
 exact ⟨rfl,Below.refl _ _⟩
theorem word_r_in (s : ByteArray) (h0 : s.toList.isEmpty = false) (h1 : ¬ s.toList = []) (hp : 0 < s.size) (hl : ¬ 64 < (s.size : Int)) (n : Int) (hn : (n != (s.size : Int)) = true) (H : Hid (∀ w,Calls Tryz.prog 50 #[.int .u8 (s[0].toNat : Int),.bool true] w fun e w' => e = .returned (.bool true) ∧ w' = w)) (H2 : Hid (∀ w,Calls Tryz.prog 51 #[.string s,.int .i64 0,.bool false] w fun e w' => e = .returned (.int .i64 n) ∧ w' = w)) (w : World) : Calls Tryz.prog 27 #[.string s] w fun e w' => e = .returned (.bool false) ∧ Below w.heap.size w w' := by
 have hpi : (0 : Int) < (s.size : Int) := by omega
 go_enter Tryz.func27,Tryz.ntmps27
 go_wp2_with fail
 refine (H.out _).mono ?_; rintro e w1 ⟨rfl,rfl⟩
 go_wp2_with fail
 refine (H2.out _).mono ?_; rintro e w2 ⟨rfl,rfl⟩
 go_wp2_with fail
 go_ret
 exact ⟨rfl,Below.refl _ _⟩
theorem word_r_key (s U : ByteArray) (kb : Bool) (h0 : s.toList.isEmpty = false) (h1 : ¬ s.toList = []) (hp : 0 < s.size) (hl : ¬ 64 < (s.size : Int)) (H : Hid (∀ w,Calls Tryz.prog 50 #[.int .u8 (s[0].toNat : Int),.bool true] w fun e w' => e = .returned (.bool true) ∧ w' = w)) (H2 : Hid (∀ w,Calls Tryz.prog 51 #[.string s,.int .i64 0,.bool false] w fun e w' => e = .returned (.int .i64 (s.size : Int)) ∧ w' = w))
 (H3 : Hid (∀ w,Calls Tryz.prog 52 #[.string s] w fun e w' => e = .returned (.string U) ∧ Below w.heap.size w w')) (H4 : Hid (∀ w,Calls Tryz.prog 53 #[.string U] w fun e w' => e = .returned (.bool kb) ∧ Below w.heap.size w w')) (w : World) : Calls Tryz.prog 27 #[.string s] w fun e w' => e = .returned (.bool (!kb)) ∧ Below w.heap.size w w' := by
 have hpi : (0 : Int) < (s.size : Int) := by omega
 go_enter Tryz.func27,Tryz.ntmps27
 go_wp2_with fail
 refine (H.out _).mono ?_; rintro e w1 ⟨rfl,rfl⟩
 go_wp2_with fail
 refine (H2.out _).mono ?_; rintro e w2 ⟨rfl,rfl⟩
 go_wp2_with fail
 refine (H3.out _).mono ?_; rintro e w3 ⟨rfl,k3⟩
 have HK3 : Hid (Below w2.heap.size w2 w3) := k3
 clear k3
 go_wp2_with fail
 refine (H4.out _).mono ?_; rintro e w4 ⟨rfl,k4⟩
 have HK4 : Hid (Below w2.heap.size w2 w4) := Below.next HK3.out k4
 clear k4
 go_wp2_with fail
 go_ret
 exact ⟨rfl,HK4.out⟩
theorem word_ref (s : ByteArray) (hs : s.size ≤ 100000) (w : World) : Calls Tryz.prog 27 #[.string s] w fun e w' => e = .returned (.bool (wordB s.data.toList)) ∧ Below w.heap.size w w' := by
 rw [wordB_is]
 by_cases h : s.data.toList = []
 · rw [decide_eq_false (fun q => q.1 h),ba_nil h]
   exact word_r_empty w
 have h1 : ¬ s.toList = [] := by rw [ByteArray.toList_eq]; exact h
 have h0 : s.toList.isEmpty = false := by simpa using h1
 have hp : 0 < s.size := by
  rw [← len_of]
  exact List.length_pos_iff.2 h
 by_cases hl : 64 < s.size
 · rw [decide_eq_false (fun q => by have := q.2.1; rw [len_of] at this; omega)]
   exact word_r_long s h0 h1 (by omega) w
 have hd := drop_at s 0 hp
 rw [List.drop_zero] at hd
 have hh : s.data.toList.headD 0 = s[0] := by rw [hd]; rfl
 have hL := fun w => letter_ref s[0] true w
 have e1 : letB s[0] true = ltB s[0] := by unfold letB; simp
 rw [e1] at hL
 cases hf : ltB s[0]
 · rw [hf] at hL
   rw [decide_eq_false (fun q => by have := q.2.2.1; rw [hh,hf] at this; cases this)]
   exact word_r_first s h0 h1 hp (by omega) hL w
 rw [hf] at hL
 have hW := fun w => word_ref_false s hs 0 (by omega) w
 simp only [List.drop_zero,Nat.zero_add] at hW
 by_cases hn : (s.data.toList.takeWhile wdB).length = s.size
 · rw [hn] at hW
   have hC := fun w => capital_ref s hs w
   have hK := fun w => key_ref ⟨(up s.data.toList).toArray⟩ w
   have := word_r_key s ⟨(up s.data.toList).toArray⟩ (keyB (up s.data.toList)) h0 h1 hp (by omega) hL hW hC hK w
   have e2 : decide (s.data.toList ≠ [] ∧ s.data.toList.length ≤ 64 ∧ ltB (s.data.toList.headD 0) = true ∧ (s.data.toList.takeWhile wdB).length = s.data.toList.length ∧ keyB (up s.data.toList) = false) = !keyB (up s.data.toList) := by
    rw [hh,hf,hn,len_of]
    cases keyB (up s.data.toList)
    · rw [decide_eq_true ⟨h,by omega,rfl,rfl,rfl⟩]; rfl
    · rw [decide_eq_false (fun q => by cases q.2.2.2.2)]; rfl
   rw [e2]
   exact this
 · rw [decide_eq_false (fun q => hn (by rw [q.2.2.2.1,len_of]))]
   exact word_r_in s h0 h1 hp (by omega) _ (by simp; omega) hL hW w
def Cells (w : World) (g : Nat) (r : List (TK × Nat)) : Prop := ∀ j u,(r.flatMap rt)[j]? = some u → w.cell? ⟨g,j,none⟩ = some u
theorem Cells.next {w w' : World} {g : Nat} {r : List (TK × Nat)} (h : Cells w g r) (k : Below w.heap.size w w') : Cells w' g r := fun j u hu => (k.cell (p := ⟨g,j,none⟩) (World.block_lt_of_cell? w _ (h j u hu))).trans (h j u hu)
def LX (l : List UInt8) (a : Nat) : List (TK × Nat) × Option Nat := lexF l.length l a
theorem lexF_fuel : ∀ (f : Nat) (l : List UInt8) (a : Nat),l.length ≤ f → ∀ f',l.length ≤ f' → lexF f l a = lexF f' l a
 | 0,l,a,h,f',h' => by
   have : l = [] := List.eq_nil_of_length_eq_zero (by omega)
   subst this
   rw [lexF_nil,lexF_nil]
 | f + 1,l,a,h,f',h' => by
   by_cases hl : l = []
   · subst hl; rw [lexF_nil,lexF_nil]
   · have h1 : 1 ≤ l.length := List.length_pos_iff.2 hl
     cases f' with
     | zero => omega
     | succ f' =>
       by_cases hg : 0 < gapN l
       · rw [lexF_gap hl hg,lexF_gap hl hg]
         exact lexF_fuel f _ _ (by rw [List.length_drop]; omega) f' (by rw [List.length_drop]; omega)
       · have hg0 : gapN l = 0 := by omega
         by_cases hz : (firstV l).z = 0
         · rw [lexF_bad hl hg0 hz,lexF_bad hl hg0 hz]
         · rw [lexF_tok hl hg0 hz,lexF_tok hl hg0 hz,lexF_fuel f (l.drop (firstV l).z) _ (by rw [List.length_drop]; omega) f' (by rw [List.length_drop]; omega)]
theorem lexF_LX {f : Nat} {l : List UInt8} {a : Nat} (h : l.length ≤ f) : lexF f l a = LX l a := lexF_fuel f l a h _ (Nat.le_refl _)
theorem LX_nil (a : Nat) : LX [] a = ([],none) := lexF_nil _ _
theorem LX_step {l : List UInt8} (hl : l ≠ []) (a : Nat) : LX l a = lexF (l.length - 1 + 1) l a := by
 have h1 : 1 ≤ l.length := List.length_pos_iff.2 hl
 unfold LX
 congr 1; omega
theorem LX_gap {l : List UInt8} {a : Nat} (hl : l ≠ []) (hg : 0 < gapN l) : LX l a = LX (l.drop (gapN l)) (a + gapN l) := by
 have h1 : 1 ≤ l.length := List.length_pos_iff.2 hl
 rw [LX_step hl,lexF_gap hl hg,lexF_LX (by rw [List.length_drop]; omega)]
theorem LX_bad {l : List UInt8} {a : Nat} (hl : l ≠ []) (hg : gapN l = 0) (hz : (firstV l).z = 0) : LX l a = ([],some a) := by
 rw [LX_step hl,lexF_bad hl hg hz]
theorem LX_tok {l : List UInt8} {a : Nat} (hl : l ≠ []) (hg : gapN l = 0) (hz : (firstV l).z ≠ 0) : LX l a = ((firstV l,a) :: (LX (l.drop (firstV l).z) (a + (firstV l).z)).1,(LX (l.drop (firstV l).z) (a + (firstV l).z)).2) := by
 have h1 : 1 ≤ l.length := List.length_pos_iff.2 hl
 rw [LX_step hl,lexF_tok hl hg hz,lexF_LX (by rw [List.length_drop]; omega)]
theorem gap_blanks (c : UInt8) (r : List UInt8) (hb : blB c = true) : gapN (c :: r) = (r.takeWhile blB).length + 1 := by
 have ho : c ≠ 45 ∧ c ≠ 47 := by
  constructor
  · intro e; rw [e] at hb; revert hb; decide
  · intro e; rw [e] at hb; revert hb; decide
 unfold gapN
 have e1 : Lib.hasPrefix (c :: r) [45,45] = false := by
  unfold Lib.hasPrefix
  simp [List.isPrefixOf]
  intro e; exact absurd e.symm ho.1
 have e2 : Lib.hasPrefix (c :: r) [47,42] = false := by
  unfold Lib.hasPrefix
  simp [List.isPrefixOf]
  intro e; exact absurd e.symm ho.2
 rw [e1,e2]
 simp only [Bool.false_eq_true,if_false]
 rw [List.takeWhile_cons_of_pos hb,List.length_cons]
theorem LX_blank {c : UInt8} {r : List UInt8} {a : Nat} (hb : blB c = true) : LX (c :: r) a = LX r (a + 1) := by
 have hg := gap_blanks c r hb
 rw [LX_gap (by simp) (by omega),hg,List.drop_succ_cons]
 cases r with
 | nil => simp
 | cons d t =>
   by_cases hd : blB d = true
   · have hg2 := gap_blanks d t hd
     rw [List.takeWhile_cons_of_pos hd,List.length_cons]
     rw [LX_gap (l := d :: t) (a := a + 1) (by simp) (by omega),hg2]
     congr 1; omega
   · rw [List.takeWhile_cons_of_neg hd]
     rfl
theorem pre_ne {l p : List UInt8} (h : Lib.hasPrefix l p = true) (hp : p ≠ []) : l ≠ [] := by
 intro e
 rw [e] at h
 have := List.IsPrefix.length_le (List.isPrefixOf_iff_prefix.1 h)
 exact hp (List.eq_nil_of_length_eq_zero (by simpa using this))
theorem pre_len {l p : List UInt8} (h : Lib.hasPrefix l p = true) : p.length ≤ l.length := List.IsPrefix.length_le (List.isPrefixOf_iff_prefix.1 h)
theorem pre_take {l p : List UInt8} : Lib.hasPrefix l p = true ↔ l.take p.length = p := by
 unfold Lib.hasPrefix
 rw [List.isPrefixOf_iff_prefix,List.prefix_iff_eq_take]
 exact ⟨fun h => h.symm,fun h => h.symm⟩
theorem LX_line {l : List UInt8} {a : Nat} (h : Lib.hasPrefix l [45,45] = true) : LX l a = LX (l.drop (l.takeWhile nlB).length) (a + (l.takeWhile nlB).length) ∧ 2 ≤ (l.takeWhile nlB).length := by
 have hg : gapN l = (l.takeWhile nlB).length := by unfold gapN; rw [if_pos h]
 have h2 : 2 ≤ (l.takeWhile nlB).length := by
  have ht := pre_take.1 h
  have hl : l = 45 :: 45 :: l.drop 2 := by
   have := List.take_append_drop 2 l
   rw [show l.take 2 = [45,45] from ht] at this
   exact this.symm
  rw [hl,List.takeWhile_cons_of_pos (by decide),List.takeWhile_cons_of_pos (by decide)]
  simp
 refine ⟨?_,h2⟩
 rw [LX_gap (pre_ne h (by simp)) (by omega),hg]
theorem rem_gap {l : List UInt8} (h : Lib.hasPrefix l [47,42] = true) : gapN l = remN (l.drop 2) := by
 unfold gapN
 rw [if_neg,if_pos h]
 intro q
 have a := pre_take.1 h
 have b := pre_take.1 q
 rw [show ([47,42] : List UInt8).length = 2 from rfl] at a
 rw [show ([45,45] : List UInt8).length = 2 from rfl] at b
 rw [a] at b
 exact absurd b (by decide)
theorem LX_remark {l : List UInt8} {a i : Nat} (h : Lib.hasPrefix l [47,42] = true) (hi : Lib.index (l.drop 2) [42,47] = (i : Int)) : LX l a = LX (l.drop (i + 4)) (a + (i + 4)) := by
 have hg : gapN l = i + 4 := by
  rw [rem_gap h]; unfold remN; rw [hi,if_neg (by omega)]; simp
 rw [LX_gap (pre_ne h (by simp)) (by omega),hg]
theorem LX_open {l : List UInt8} {a : Nat} (h : Lib.hasPrefix l [47,42] = true) (hi : Lib.index (l.drop 2) [42,47] = -1) : LX l a = ([],some a) := by
 have hg : gapN l = 0 := by rw [rem_gap h]; unfold remN; rw [hi]; rfl
 have ht := pre_take.1 h
 rw [show ([47,42] : List UInt8).length = 2 from rfl] at ht
 have hl : l = 47 :: 42 :: l.drop 2 := by
  have := List.take_append_drop 2 l
  rw [ht] at this
  exact this.symm
 have hz : (firstV l).z = 0 := by
  unfold firstV
  have hh : l.headD 0 = 47 := by rw [hl]; rfl
  rw [hh,if_neg (by decide),if_neg (by decide),if_neg (by decide),if_neg (by decide)]
  unfold signV
  have : signN l = 0 := by
   unfold signN
   rw [ht,if_neg (by decide),if_pos rfl]
  rw [if_pos this]
  rfl
 exact LX_bad (pre_ne h (by simp)) hg hz
theorem begins_ref (s t : ByteArray) (hs : s.size ≤ 100000) (ht : t.size ≤ 100) (a : Nat) (ha : a ≤ s.size) (w : World) :
 Calls Tryz.prog 49 #[.string s,.int .i64 (a : Int),.string t] w fun e w' => e = .returned (.bool (Lib.hasPrefix (s.data.toList.drop a) t.data.toList)) ∧ w' = w := by
 by_cases hl : a + t.size ≤ s.size
 · have hSL : ∀ W,(Instr.sliceAt 9 (.string s) (some (.int .i64 (a : Int))) (some (.int .i64 ((a : Int) + (t.size : Int)))) none).run Tryz.prog W = .ok (.string (s.extract a (a + t.size))) W := fun W => by
    have := str_slice s a (a + t.size) (by omega) hl W
    rw [show ((a + t.size : Nat) : Int) = (a : Int) + (t.size : Int) by omega] at this
    exact this
   have hX : (s.extract a (a + t.size)).toList = (s.data.toList.drop a).take t.data.toList.length := by
    rw [ByteArray.toList_eq,ext_list,List.drop_take,len_of]
    congr 1; omega
   obtain ⟨X,hXX⟩ : ∃ X,s.extract a (a + t.size) = X := ⟨_,rfl⟩
   rw [hXX] at hSL hX
   clear hXX
   have h1 : (t.size : Int) ≤ (s.size : Int) - (a : Int) := by omega
   have h2 : wrap64 ((s.size : Int) - (a : Int)) = (s.size : Int) - (a : Int) := by unfold wrap64; omega
   have h3 : wrap64 ((a : Int) + (t.size : Int)) = (a : Int) + (t.size : Int) := by unfold wrap64; omega
   cases hb : Lib.hasPrefix (s.data.toList.drop a) t.data.toList
   · have hq : (X.toList == t.toList) = false := by
      rw [beq_eq_false_iff_ne,hX,ByteArray.toList_eq]
      intro e
      rw [pre_take.2 e] at hb; cases hb
     clear hX hb
     go_enter Tryz.func49,Tryz.ntmps49
     go_wp2
     go_ret
     exact ⟨rfl,rfl⟩
   · have hq : (X.toList == t.toList) = true := by
      rw [beq_iff_eq,hX,ByteArray.toList_eq]
      exact pre_take.1 hb
     clear hX hb
     go_enter Tryz.func49,Tryz.ntmps49
     go_wp2
     go_ret
     exact ⟨rfl,rfl⟩
 · have hb : Lib.hasPrefix (s.data.toList.drop a) t.data.toList = false := by
    cases hb : Lib.hasPrefix (s.data.toList.drop a) t.data.toList
    · rfl
    · have := pre_len hb
      rw [List.length_drop,len_of,len_of] at this
      omega
   rw [hb]
   clear hb
   have h1 : ¬ (t.size : Int) ≤ (s.size : Int) - (a : Int) := by omega
   have h2 : wrap64 ((s.size : Int) - (a : Int)) = (s.size : Int) - (a : Int) := by unfold wrap64; omega
   go_enter Tryz.func49,Tryz.ntmps49
   go_wp2
   go_ret
   exact ⟨rfl,rfl⟩
theorem occ_drop (l : List UInt8) (p : List UInt8) (i j : Nat) : Lib.occAt (l.drop i) p j = Lib.hasPrefix (l.drop (i + j)) p := by
 unfold Lib.occAt Lib.hasPrefix
 rw [List.drop_drop]
def quoF (Q : Option (List UInt8 × Nat)) (a : Nat) : List UInt8 × Int := match Q with | some (t,m) => (t,((a + 1 + m : Nat) : Int)) | none => ([], -1)
def quoV (q : UInt8) (r : List UInt8) (a : Nat) : List UInt8 × Int := quoF (quo q r) a
theorem quo_cons_ne {q c : UInt8} (r : List UInt8) (h : c ≠ q) : quo q (c :: r) = (quo q r).map (fun x => (c :: x.1,x.2 + 1)) := by
 cases r with
 | nil => simp [quo,h]
 | cons d r => rw [quo,if_neg h]
set_option maxHeartbeats 2000000 in
theorem quoted_ref (s : ByteArray) (hs : s.size ≤ 100000) (a : Nat) (ha : a < s.size) (q : UInt8) (hq : s[a] = q) (w : World) :
 Calls Tryz.prog 54 #[.string s,.int .i64 (a : Int)] w fun e w' => e = .returned (.tuple #[.string ⟨(quoV q (s.data.toList.drop (a + 1)) a).1.toArray⟩,.int .i64 (quoV q (s.data.toList.drop (a + 1)) a).2]) ∧ Below w.heap.size w w' := by
 obtain ⟨Q,hQ⟩ : ∃ Q,quo q (s.data.toList.drop (a + 1)) = Q := ⟨_,rfl⟩
 obtain ⟨V,hV⟩ : ∃ V,quoV q (s.data.toList.drop (a + 1)) a = V := ⟨_,rfl⟩
 rw [hV]
 have HV : Hid (V = quoF Q a) := by rw [← hV, ← hQ]; rfl
 have H0 : Hid (Q = (quo q (s.data.toList.drop (a + 1))).map (fun x => (([] : List UInt8) ++ x.1,(a + 1 - (a + 1)) + x.2))) := by
  show _ = _
  rw [hQ]; cases Q <;> simp
 have hqn : (s[a].toNat : Int) = (q.toNat : Int) := by rw [hq]
 have hai : (a : Int) < (s.size : Int) := by omega
 have HW1 : Hid (wrap64 ((a : Int) + 1) = ((a + 1 : Nat) : Int)) := by show _ = _; unfold wrap64; omega
 clear hQ hV hq
 go_enter Tryz.func54,Tryz.ntmps54
 go_wp2_with fail
 go_loopw [7,8] (fun v i wr => ∃ j acc,a + 1 ≤ j ∧ j ≤ s.size ∧ i = .int .i64 ((j : Nat) : Int) ∧ Hid (OwnB wr w.heap.size v acc ∧ Below w.heap.size w wr ∧ acc.length ≤ j ∧ Q = (quo q (s.data.toList.drop j)).map (fun x => (acc ++ x.1,(j - (a + 1)) + x.2)))) (fun _ i _ => s.size - (intOf i).toNat)
 case atStart => exact ⟨a + 1, [],Nat.le_refl _,by omega,by first | rw [HW1.out] | go_num,OwnB.nil _ _,Below.refl _ _,by simp,H0.out⟩
 case round =>
  obtain ⟨j,acc,hj1,hj,rfl,HI⟩ := hrel
  by_cases hlt : j < s.size
  · have hlti : (j : Int) < (s.size : Int) := by omega
    have hd := drop_at s j hlt
    have hln : acc.length ≤ 1000000 := by have := HI.out.2.2.1; omega
    by_cases hc : s[j] = q
    · have q1 : ((s[j].toNat : Int) == (q.toNat : Int)) = true := by rw [hc]; simp
      by_cases hl2 : j + 1 < s.size
      · have hl2i : (j : Int) + 1 < (s.size : Int) := by omega
        have hd2 := drop_at s (j + 1) hl2
        by_cases hc2 : s[j + 1] = q
        · have q2 : ((s[j + 1].toNat : Int) == (q.toNat : Int)) = true := by rw [hc2]; simp
          obtain ⟨v2,w2,ra,o2,b2,_,_⟩ := append_byte HI.out.1 s[j + 1] hln HI.out.2.1.size
          have RA : Hid ((Builtin.append_ #[77,77] 77 #[u7,.slice (some ⟨wr.heap.size,0,none⟩) 1 1]).run Tryz.prog (wr.alloc (.cells #[.int .u8 (q.toNat : Int)] 5)) = .ok v2 w2) := hc2 ▸ ra
          have HE : Hid (OwnB w2 w.heap.size v2 (acc ++ [s[j + 1]]) ∧ Below w.heap.size w w2 ∧ (acc ++ [s[j + 1]]).length ≤ j + 2 ∧ Q = (quo q (s.data.toList.drop (j + 2))).map (fun x => ((acc ++ [s[j + 1]]) ++ x.1,(j + 2 - (a + 1)) + x.2))) := by
           refine ⟨o2,HI.out.2.1.trans b2,by rw [List.length_append]; have := HI.out.2.2.1; simp; omega, ?_⟩
           rw [HI.out.2.2.2,hd,hd2,hc,hc2,quo,if_pos rfl,if_pos rfl,Option.map_map]
           congr 1
           funext x
           simp
           omega
          have HW : Hid (wrap64 ((j : Int) + 1) = ((j + 1 : Nat) : Int) ∧ wrap64 (((j + 1 : Nat) : Int) + 1) = ((j + 2 : Nat) : Int)) := by show _ ∧ _; unfold wrap64; omega
          clear ra o2 b2 hd hd2 HI
          go_wp2_with (first | ((with_reducible apply st_append (x := .tmp 44)); (case ho => rfl); (case hgd => rfl); (case hr => exact RA.out)))
          go_roundw
          case rel => exact ⟨j + 2,_,by omega,by omega,by go_num,HE⟩
          case measure => simp [intOf]; omega
        · have q2 : ((s[j + 1].toNat : Int) == (q.toNat : Int)) = false := by
           rw [beq_eq,decide_eq_false_iff_not]
           intro e
           exact hc2 (UInt8.toNat_inj.1 (Int.ofNat_inj.1 e))
          have HQ : Hid (V = (acc,((j + 1 : Nat) : Int))) := by
           show _ = _
           rw [HV.out,HI.out.2.2.2,hd,hd2,hc,quo,if_pos rfl,if_neg hc2]
           simp [quoF]
           omega
          have cv := HI.out.1.str
          have HB : Hid (Below w.heap.size w wr) := HI.out.2.1
          clear hd hd2 HI
          go_wp2_with fail
          go_ret2
          exact ⟨by rw [HQ.out]; first | rfl | (simp; go_num),HB.out⟩
      · have hl2i : ¬ (j : Int) + 1 < (s.size : Int) := by omega
        have HQ : Hid (V = (acc,((j + 1 : Nat) : Int))) := by
         show _ = _
         rw [HV.out,HI.out.2.2.2,hd,List.drop_of_length_le (i := j + 1) (by rw [len_of]; omega),hc,quo,if_pos rfl]
         simp [quoF]
         omega
        have cv := HI.out.1.str
        have HB : Hid (Below w.heap.size w wr) := HI.out.2.1
        clear hd HI
        go_wp2_with fail
        go_ret2
        exact ⟨by rw [HQ.out]; first | rfl | (simp; go_num),HB.out⟩
    · have q1 : ((s[j].toNat : Int) == (q.toNat : Int)) = false := by
       rw [beq_eq,decide_eq_false_iff_not]
       intro e
       exact hc (UInt8.toNat_inj.1 (Int.ofNat_inj.1 e))
      obtain ⟨v2,w2,ra,o2,b2,_,_⟩ := append_byte HI.out.1 s[j] hln HI.out.2.1.size
      have RA : Hid ((Builtin.append_ #[77,77] 77 #[u7,.slice (some ⟨wr.heap.size,0,none⟩) 1 1]).run Tryz.prog (wr.alloc (.cells #[.int .u8 (s[j].toNat : Int)] 5)) = .ok v2 w2) := ra
      have HE : Hid (OwnB w2 w.heap.size v2 (acc ++ [s[j]]) ∧ Below w.heap.size w w2 ∧ (acc ++ [s[j]]).length ≤ j + 1 ∧ Q = (quo q (s.data.toList.drop (j + 1))).map (fun x => ((acc ++ [s[j]]) ++ x.1,(j + 1 - (a + 1)) + x.2))) := by
       refine ⟨o2,HI.out.2.1.trans b2,by rw [List.length_append]; have := HI.out.2.2.1; simp; omega, ?_⟩
       rw [HI.out.2.2.2,hd,quo_cons_ne _ hc,Option.map_map]
       congr 1
       funext x
       simp
       omega
      clear ra o2 b2 hd HI
      go_wp2_with (first | ((with_reducible apply st_append (x := .tmp 44)); (case ho => rfl); (case hgd => rfl); (case hr => exact RA.out)))
      go_roundw
      case rel => exact ⟨j + 1,_,by omega,by omega,by go_num,HE⟩
      case measure => simp [intOf]; omega
  · have hlti : ¬ (j : Int) < (s.size : Int) := by omega
    have HQ : Hid (V = ([], -1)) := by
     show _ = _
     rw [HV.out,HI.out.2.2.2,List.drop_of_length_le (i := j) (by rw [len_of]; omega)]
     rfl
    have HB : Hid (Below w.heap.size w wr) := HI.out.2.1
    clear HI
    go_wp2_with fail
    go_ret2
    exact ⟨by rw [HQ.out]; rfl,HB.out⟩
end Go.Proofs.YtlgkghebemfpjaaGreatDoor
