/- A number's digits. Contracts of num.plain, num.sizeOf, strings.CutPrefix at a minus sign, and num.Read. -/
import Derived.Test.YtlgkghebemfpjaaGreatDoorQLKy
import Derived.WalkKit
import Derived.ProofKit
import Derived.OpenShut
import Derived.WalkSpells
import Derived.Handy
import Derived.Lib.Strings
import Derived.Laws.BitsAll
import Derived.Laws.IdiomStrings
namespace Go.Proofs.YtlgkghebemfpjaaGreatDoor.Num
open Go.ChangeShapes Go.WideShapes Go.ChangeAt Go.RowKit
set_option linter.unusedVariables false
set_option maxRecDepth 100000
set_option maxRecDepth 100000
def ch (d : Nat) : UInt8 := UInt8.ofNat (48 + d)
def dg (n : Nat) : List UInt8 := if n < 10 then [ch n] else dg (n / 10) ++ [ch (n % 10)]
def num (l : List UInt8) : Nat := l.foldl (fun a c => a * 10 + (c.toNat - 48)) 0
def dig (c : UInt8) : Bool := 48 ≤ c.toNat && c.toNat ≤ 57
def pl (l : List UInt8) : Bool := !l.isEmpty && !(1 < l.length && l.headD 0 == 48) && l.all dig
theorem ch_toNat (d : Nat) (h : d < 10) : (ch d).toNat = 48 + d := by
 unfold ch
 rw [UInt8.toNat_ofNat']
 omega
theorem dig_ch (d : Nat) (h : d < 10) : dig (ch d) = true := by
 unfold dig
 rw [ch_toNat d h]
 simp; omega
theorem dg_small (n : Nat) (h : n < 10) : dg n = [ch n] := by rw [dg,if_pos h]
theorem dg_step (n : Nat) (h : 10 ≤ n) : dg n = dg (n / 10) ++ [ch (n % 10)] := by rw [dg,if_neg (by omega)]
theorem num_nil : num [] = 0 := rfl
theorem num_snoc (l : List UInt8) (c : UInt8) : num (l ++ [c]) = num l * 10 + (c.toNat - 48) := by
 unfold num
 rw [List.foldl_append]
 rfl
theorem num_dg (n : Nat) : num (dg n) = n := by
 induction n using Nat.strongRecOn with
 | _ n ih =>
   by_cases h : n < 10
   · rw [dg_small n h]
     show 0 * 10 + ((ch n).toNat - 48) = n
     rw [ch_toNat n h]; omega
   · rw [dg_step n (by omega),num_snoc,ih (n / 10) (by omega),ch_toNat _ (by omega)]
     omega
theorem dg_ne (n : Nat) : dg n ≠ [] := by
 by_cases h : n < 10
 · rw [dg_small n h]; simp
 · rw [dg_step n (by omega)]; simp
theorem all_dg (n : Nat) : (dg n).all dig = true := by
 induction n using Nat.strongRecOn with
 | _ n ih =>
   by_cases h : n < 10
   · rw [dg_small n h]; simp [dig_ch n h]
   · rw [dg_step n (by omega),List.all_append,ih (n / 10) (by omega)]
     simp [dig_ch (n % 10) (by omega)]
theorem head_dg (n : Nat) (h : 1 ≤ n) : (dg n).headD 0 ≠ 48 := by
 induction n using Nat.strongRecOn with
 | _ n ih =>
   by_cases c : n < 10
   · rw [dg_small n c]
     intro e
     have := congrArg UInt8.toNat e
     simp [ch_toNat n c] at this
     omega
   · rw [dg_step n (by omega)]
     have := ih (n / 10) (by omega) (by omega)
     have ne := dg_ne (n / 10)
     generalize dg (n / 10) = l at *
     cases l with
     | nil => exact absurd rfl ne
     | cons a r => simpa using this
theorem len_dg (n k : Nat) (hk : 1 ≤ k) (h : n < 10 ^ k) : (dg n).length ≤ k := by
 induction n using Nat.strongRecOn generalizing k with
 | _ n ih =>
   by_cases c : n < 10
   · rw [dg_small n c]; simpa using hk
   · rw [dg_step n (by omega),List.length_append]
     have hk2 : 2 ≤ k := by
      rcases Nat.lt_or_ge k 2 with h2 | h2
      · obtain rfl : k = 1 := by omega
        omega
      · exact h2
     have := ih (n / 10) (by omega) (k - 1) (by omega) (by
      have e : 10 ^ k = 10 ^ (k - 1) * 10 := by rw [← Nat.pow_succ]; congr 1; omega
      omega)
     simp; omega
def txt (n : Int) : List UInt8 := if n < 0 then 45 :: dg n.natAbs else dg n.natAbs
structure Room (w : World) (B g : Nat) (T : List UInt8) : Prop where
 len : T.length = 18 - g
 cells : ∀ k (hk : k < T.length),w.cell? ⟨B,g + 1 + k,none⟩ = some (.int .u8 (T[k].toNat : Int))
 there : ∀ k,k < 19 → ∃ v,w.cell? ⟨B,k,none⟩ = some v
 free : ∀ k,w.frozen? ⟨B,k,none⟩ = false
theorem Room.put {w : World} {B g m : Nat} {T : List UInt8} (h : Room w B g T) (hg : g ≤ 18) (hm : m < 10) :
 (∀ k (hk : k < (ch m :: T).length),(w.setCell ⟨B,g,none⟩ (.int .u8 (48 + (m : Int)))).cell? ⟨B,g + k,none⟩ = some (.int .u8 ((ch m :: T)[k].toNat : Int))) ∧
 (∀ k,k < 19 → ∃ v,(w.setCell ⟨B,g,none⟩ (.int .u8 (48 + (m : Int)))).cell? ⟨B,k,none⟩ = some v) ∧ (∀ k,(w.setCell ⟨B,g,none⟩ (.int .u8 (48 + (m : Int)))).frozen? ⟨B,k,none⟩ = false) := by
 obtain ⟨v,hv⟩ := h.there g (by omega)
 refine ⟨fun k hk => ?_,fun k hk => ?_,fun k => ?_⟩
 · cases k with
   | zero =>
     have e : (((ch m :: T)[0]'hk).toNat : Int) = 48 + (m : Int) := by
      show ((ch m).toNat : Int) = _
      rw [ch_toNat m hm]; omega
     rw [e]
     simp [go_sem,hv]
   | succ k =>
     have hk' : k < T.length := by simpa using hk
     have := h.cells k hk'
     have e : g + (k + 1) = g + 1 + k := by omega
     rw [e]
     simp [go_sem,this]
 · obtain ⟨u,hu⟩ := h.there k hk
   by_cases e : k = g
   · subst e
     exact ⟨.int .u8 (48 + (m : Int)),by simp [go_sem,hv]⟩
   · exact ⟨u,by simp [go_sem,hu]⟩
 · have := h.free k
   simp [go_sem,this]
theorem ret_str {a b : List UInt8} (h : a = b) : Ending.returned (.string ⟨a.toArray⟩) = .returned (.string ⟨b.toArray⟩) := by rw [h]
def vl (x : Int) : Int := if -9223372036854775808 ≤ x ∧ x ≤ 9223372036854775807 then x else 0
def er (x : Int) : Int := if -9223372036854775808 ≤ x ∧ x ≤ 9223372036854775807 then 0 else 10
theorem vl_in {x : Int} (h : -9223372036854775808 ≤ x ∧ x ≤ 9223372036854775807) : vl x = x ∧ er x = 0 := ⟨if_pos h,if_pos h⟩
theorem vl_out {x : Int} (h : ¬ (-9223372036854775808 ≤ x ∧ x ≤ 9223372036854775807)) : vl x = 0 ∧ er x = 10 := ⟨if_neg h,if_neg h⟩
theorem pl_dg (n : Nat) : pl (dg n) = true := by
 unfold pl
 rw [all_dg]
 have ne := dg_ne n
 by_cases c : n < 10
 · rw [dg_small n c]; simp
 · have h := head_dg n (by omega)
   simp [ne]
   right
   simpa using h
theorem snoc_ind {P : List UInt8 → Prop} (nil : P []) (append_singleton : ∀ l c,P l → P (l ++ [c])) (l : List UInt8) : P l := by
 have h : ∀ r : List UInt8,P r.reverse := fun r => by
  induction r with
  | nil => exact nil
  | cons a r ih => rw [List.reverse_cons]; exact append_singleton _ _ ih
 have := h l.reverse
 rwa [List.reverse_reverse] at this
theorem num_ge (l r : List UInt8) : num l ≤ num (l ++ r) := by
 unfold num
 rw [List.foldl_append]
 generalize List.foldl (fun a c => a * 10 + (c.toNat - 48)) 0 l = a
 induction r generalizing a with
 | nil => exact Nat.le_refl _
 | cons c r ih =>
   rw [List.foldl_cons]
   have := ih (a * 10 + (c.toNat - 48))
   omega
theorem num_take (l : List UInt8) (k : Nat) : num (l.take k) ≤ num l := by
 have := num_ge (l.take k) (l.drop k)
 rwa [List.take_append_drop] at this
theorem num_lt (l : List UInt8) (h : l.all dig = true) : num l < 10 ^ l.length := by
 induction l using snoc_ind with
 | nil => simp [num_nil]
 | append_singleton l c ih =>
   rw [List.all_append,Bool.and_eq_true] at h
   have h1 := ih h.1
   have h2 : dig c = true := by simpa using h.2
   unfold dig at h2
   simp at h2
   rw [num_snoc,List.length_append]
   show _ < 10 ^ (l.length + 1)
   rw [Nat.pow_succ]
   omega
theorem num_big (l : List UInt8) (h : l.all dig = true) (hh : l.headD 0 ≠ 48) (hn : l ≠ []) : 10 ^ (l.length - 1) ≤ num l := by
 induction l using snoc_ind with
 | nil => exact absurd rfl hn
 | append_singleton l c ih =>
   rw [List.all_append,Bool.and_eq_true] at h
   have h2 : dig c = true := by simpa using h.2
   unfold dig at h2
   simp at h2
   rw [num_snoc,List.length_append]
   cases l with
   | nil =>
     simp only [List.nil_append,List.headD_cons] at hh
     have : c.toNat ≠ 48 := fun e => hh (UInt8.toNat_inj.1 e)
     show 10 ^ 0 ≤ _
     simp [num_nil]
     omega
   | cons a r =>
     have h3 := ih h.1 (by simpa using hh) (by simp)
     simp only [List.length_cons,Nat.add_sub_cancel] at h3 ⊢
     show 10 ^ (r.length + 1 + 1 - 1) ≤ _
     rw [Nat.add_sub_cancel,Nat.pow_succ]
     omega
theorem pl_parts {l : List UInt8} (h : pl l = true) : l ≠ [] ∧ (1 < l.length → l.headD 0 ≠ 48) ∧ l.all dig = true := by
 unfold pl at h
 simp only [Bool.and_eq_true,Bool.not_eq_true',Bool.and_eq_false_iff,decide_eq_false_iff_not] at h
 obtain ⟨⟨h1,h2⟩,h3⟩ := h
 refine ⟨by simpa using h1,fun h => ?_,h3⟩
 rcases h2 with h2 | h2
 · exact absurd h h2
 · simpa using h2
def rdNeg (l : List UInt8) : Bool := l.headD 0 == 45
def rdDig (l : List UInt8) : List UInt8 := if rdNeg l then l.drop 1 else l
def rdBad (l : List UInt8) : Bool := !pl (rdDig l) || rdNeg l && rdDig l == [48]
def rdNum (l : List UInt8) : Int := if rdNeg l then -(num (rdDig l) : Int) else (num (rdDig l) : Int)
def rdV (l : List UInt8) : Int := if rdBad l then 0 else vl (rdNum l)
def rdE (l : List UInt8) : Int := if rdBad l then 1 else er (rdNum l)
theorem head_dig (l : List UInt8) (h : l.all dig = true) : rdNeg l = false := by
 unfold rdNeg
 cases l with
 | nil => rfl
 | cons a r =>
   simp at h
   have := h.1
   unfold dig at this
   simp at this ⊢
   intro e
   subst e
   simp at this
theorem rd_txt (n : Int) : rdBad (txt n) = false ∧ rdNum (txt n) = n := by
 unfold txt
 by_cases c : n < 0
 · rw [if_pos c]
   have hn : rdNeg (45 :: dg n.natAbs) = true := by simp [rdNeg]
   have hd : rdDig (45 :: dg n.natAbs) = dg n.natAbs := by unfold rdDig; rw [hn]; simp
   refine ⟨?_, ?_⟩
   · unfold rdBad
     rw [hd,hn,pl_dg]
     simp
     intro e
     have := congrArg num e
     rw [num_dg] at this
     have e2 : num [48] = 0 := rfl
     omega
   · unfold rdNum
     rw [hd,hn,num_dg]
     simp
     omega
 · rw [if_neg c]
   have hn := head_dig _ (all_dg n.natAbs)
   have hd : rdDig (dg n.natAbs) = dg n.natAbs := by unfold rdDig; rw [hn]; simp
   refine ⟨?_, ?_⟩
   · unfold rdBad
     rw [hd,hn,pl_dg]
     simp
   · unfold rdNum
     rw [hd,hn,num_dg]
     simp
     omega
theorem ret2 {a b : Int} (h : a = b) : Ending.returned (.tuple #[.int .i64 a,.int .i64 0]) = .returned (.tuple #[.int .i64 b,.int .i64 0]) := by rw [h]
theorem take_snoc (s : ByteArray) (k : Nat) (h : k < s.size) : s.data.toList.take (k + 1) = s.data.toList.take k ++ [s[k]] := by
 rw [List.take_succ_eq_append_getElem (by simpa using h)]; rfl
theorem len_of (s : ByteArray) : s.data.toList.length = s.size := by simp
theorem take_all (s : ByteArray) : s.data.toList.take s.size = s.data.toList := List.take_of_length_le (by simp)
theorem ret_bool {a b : Bool} (h : a = b) : Ending.returned (.bool a) = .returned (.bool b) := by rw [h]
theorem all_split {s : ByteArray} {k : Nat} (h : k < s.size) : s.data.toList = s.data.toList.take k ++ s[k] :: s.data.toList.drop (k + 1) := by
 have := List.take_append_drop k s.data.toList
 rw [List.drop_eq_getElem_cons (by simpa using h)] at this
 exact this.symm
theorem pl_is {l : List UInt8} (h : l ≠ []) (hh : ¬ (1 < l.length ∧ l.headD 0 = 48)) : pl l = l.all dig := by
 unfold pl
 have h1 : l.isEmpty = false := by simpa using h
 have h2 : (decide (1 < l.length) && l.headD 0 == 48) = false := by
  rw [Bool.and_eq_false_iff]
  by_cases c : 1 < l.length
  · right
    have : ¬ l.headD 0 = 48 := fun e => hh ⟨c,e⟩
    simpa using this
  · left; simpa using c
 rw [h1,h2]; simp
theorem pl_not {l : List UInt8} (h1 : 1 < l.length) (h2 : l.headD 0 = 48) : pl l = false := by
 unfold pl
 rw [h2]
 simp [h1]
theorem dig_int {c : UInt8} : dig c = decide ((48 : Int) ≤ (c.toNat : Int) ∧ (c.toNat : Int) ≤ 57) := by
 unfold dig
 rw [Bool.eq_iff_iff]; simp; omega
theorem ne_of (s : ByteArray) (h : 0 < s.size) : s.toList.isEmpty = false := by
 rw [ByteArray.toList_eq]
 have := len_of s
 cases hl : s.data.toList with
 | nil => rw [hl] at this; simp at this; omega
 | cons a r => rfl
theorem plain_empty (s : ByteArray) (h : s.toList = []) (w : World) :
 Calls Tryz.prog 160 #[.string s] w fun e w' => e = .returned (.bool (pl s.data.toList)) ∧ w' = w := by
 have h1 : s.toList.isEmpty = true := by simpa using h
 have h2 : pl s.data.toList = false := by rw [← ByteArray.toList_eq,h]; rfl
 rw [h2]
 clear h2
 go_enter Tryz.func160,Tryz.ntmps160
 go_wp2
 go_ret
 exact ⟨rfl,rfl⟩
theorem plain_nought (s : ByteArray) (hs : s.size ≤ 140737488351232) (hp : 1 < s.size) (h : s[0].toNat = 48) (w : World) :
 Calls Tryz.prog 160 #[.string s] w fun e w' => e = .returned (.bool (pl s.data.toList)) ∧ w' = w := by
 have hne : s.toList.isEmpty = false := ne_of s (by omega)
 have hne' : ¬ s.toList = [] := by simpa using hne
 have h48 : (((s[0]).toNat : Int) == 48) = true := by simp; omega
 have h2 : pl s.data.toList = false := by
  refine pl_not (by simpa using hp) ?_
  have e := all_split (s := s) (k := 0) (by omega)
  rw [e]
  simp
  exact UInt8.toNat_inj.1 h
 rw [h2]
 clear h2 h
 go_enter Tryz.func160,Tryz.ntmps160
 go_wp2
 go_ret
 exact ⟨rfl,rfl⟩
set_option maxHeartbeats 400000 in
theorem plain_loop (s : ByteArray) (hs : s.size ≤ 140737488351232) (hp : 0 < s.size) (h : 1 < s.size → s[0].toNat ≠ 48) (w : World) :
 Calls Tryz.prog 160 #[.string s] w fun e w' => e = .returned (.bool (pl s.data.toList)) ∧ w' = w := by
 have hne : s.toList.isEmpty = false := ne_of s (by omega)
 have hne' : ¬ s.toList = [] := by simpa using hne
 have HP : Hid (pl s.data.toList = s.data.toList.all dig) := by
  refine pl_is (by rw [← ByteArray.toList_eq]; exact hne') ?_
  rintro ⟨h1,h2⟩
  have e := all_split (s := s) (k := 0) (by omega)
  rw [e] at h2
  simp at h2
  exact h (by simpa using h1) (by rw [h2]; rfl)
 have fin : ∀ k (hk : k < s.size),¬ ((48 : Int) ≤ (s[k].toNat : Int) ∧ (s[k].toNat : Int) ≤ 57) → Hid (pl s.data.toList = false) := fun k hk hd => by
  show _ = _
  rw [HP.out,all_split hk,List.all_append,List.all_cons,dig_int,decide_eq_false hd]
  simp
 have FIN := (show Hid _ from fin)
 clear fin
 by_cases c1 : 1 < s.size
 · have h48 : (((s[0]).toNat : Int) == 48) = false := by have := h c1; simp; omega
   clear h
   go_enter Tryz.func160,Tryz.ntmps160
   go_wp2
   go_loop [18] (fun i => ∃ k : Nat,k ≤ s.size ∧ i = .int .i64 k ∧ Hid ((s.data.toList.take k).all dig = true)) (fun i => s.size - (intOf i).toNat)
   case atStart => exact ⟨0,Nat.zero_le _,rfl,rfl⟩
   case round =>
    obtain ⟨k,hk,rfl,HA⟩ := hrel
    by_cases hlt : k < s.size
    · have hd := dig_int (c := s[k])
      have HD : Hid (dig s[k] = decide ((48 : Int) ≤ (s[k].toNat : Int) ∧ (s[k].toNat : Int) ≤ 57)) := hd
      clear hd
      by_cases g1 : (48 : Int) ≤ (s[k].toNat : Int)
      · by_cases g2 : (s[k].toNat : Int) ≤ 57
        · go_wp2
          go_round
          case rel =>
           refine ⟨k + 1,by omega,by go_num, ?_⟩
           show _ = _
           rw [take_snoc s k hlt,List.all_append,HA.out]
           simp [HD.out]; omega
          case measure => simp [intOf]; omega
        · go_wp2
          go_ret
          exact ⟨ret_bool (FIN.out k hlt (by omega)).out.symm,rfl⟩
      · go_wp2
        go_ret
        exact ⟨ret_bool (FIN.out k hlt (by omega)).out.symm,rfl⟩
    · obtain rfl : k = s.size := by omega
      go_wp2
      go_ret
      exact ⟨ret_bool (by rw [HP.out, ← HA.out,take_all]),rfl⟩
 · clear h
   go_enter Tryz.func160,Tryz.ntmps160
   go_wp2
   go_loop [18] (fun i => ∃ k : Nat,k ≤ s.size ∧ i = .int .i64 k ∧ Hid ((s.data.toList.take k).all dig = true)) (fun i => s.size - (intOf i).toNat)
   case atStart => exact ⟨0,Nat.zero_le _,rfl,rfl⟩
   case round =>
    obtain ⟨k,hk,rfl,HA⟩ := hrel
    by_cases hlt : k < s.size
    · have hd := dig_int (c := s[k])
      have HD : Hid (dig s[k] = decide ((48 : Int) ≤ (s[k].toNat : Int) ∧ (s[k].toNat : Int) ≤ 57)) := hd
      clear hd
      by_cases g1 : (48 : Int) ≤ (s[k].toNat : Int)
      · by_cases g2 : (s[k].toNat : Int) ≤ 57
        · go_wp2
          go_round
          case rel =>
           refine ⟨k + 1,by omega,by go_num, ?_⟩
           show _ = _
           rw [take_snoc s k hlt,List.all_append,HA.out]
           simp [HD.out]; omega
          case measure => simp [intOf]; omega
        · go_wp2
          go_ret
          exact ⟨ret_bool (FIN.out k hlt (by omega)).out.symm,rfl⟩
      · go_wp2
        go_ret
        exact ⟨ret_bool (FIN.out k hlt (by omega)).out.symm,rfl⟩
    · obtain rfl : k = s.size := by omega
      go_wp2
      go_ret
      exact ⟨ret_bool (by rw [HP.out, ← HA.out,take_all]),rfl⟩
theorem plain_any (s : ByteArray) (hs : s.size ≤ 140737488351232) (w : World) :
 Calls Tryz.prog 160 #[.string s] w fun e w' => e = .returned (.bool (pl s.data.toList)) ∧ w' = w := by
 by_cases h : s.size = 0
 · refine plain_empty s ?_ w
   rw [ByteArray.toList_eq]
   have := len_of s
   cases hl : s.data.toList <;> simp_all
 by_cases c : 1 < s.size
 · by_cases d : s[0].toNat = 48
   · exact plain_nought s hs c d w
   · exact plain_loop s hs (by omega) (fun _ => d) w
 · exact plain_loop s hs (by omega) (fun x => absurd x c) w
theorem pow18 {l : List UInt8} {k : Nat} (h : l.all dig = true) (hl : l.length ≤ k) (hk : k ≤ 18) : (num l : Int) ≤ 999999999999999999 := by
 have h1 := num_lt l h
 have h2 : 10 ^ l.length ≤ 10 ^ 18 := Nat.pow_le_pow_right (by omega) (by omega)
 omega
theorem all_take {l : List UInt8} (h : l.all dig = true) (k : Nat) : (l.take k).all dig = true := by
 rw [List.all_eq_true] at h ⊢
 exact fun x hx => h x (List.mem_of_mem_take hx)
theorem dig_at {s : ByteArray} (h : s.data.toList.all dig = true) {k : Nat} (hk : k < s.size) : (48 : Int) ≤ (s[k].toNat : Int) ∧ (s[k].toNat : Int) ≤ 57 := by
 rw [all_split hk,List.all_append,List.all_cons,dig_int] at h
 simp at h
 omega
theorem ret_u64 {a b : Int} (h : a = b) : Ending.returned (.int .u64 a) = .returned (.int .u64 b) := by rw [h]
set_option maxHeartbeats 400000 in
theorem size_any (s : ByteArray) (hs : s.size ≤ 19) (hd : s.data.toList.all dig = true) (w : World) :
 Calls Tryz.prog 161 #[.string s] w fun e w' => e = .returned (.int .u64 (num s.data.toList)) ∧ w' = w := by
 have HD : Hid (s.data.toList.all dig = true) := hd
 clear hd
 go_enter Tryz.func161,Tryz.ntmps161
 go_wp2
 go_loop [3,7] (fun x i => ∃ k : Nat,k ≤ s.size ∧ i = .int .i64 k ∧ ∃ y : Int,x = .int .u64 y ∧ Hid (y = (num (s.data.toList.take k) : Int))) (fun _ i => s.size - (intOf i).toNat)
 case atStart => exact ⟨0,Nat.zero_le _,rfl,0,rfl,rfl⟩
 case round =>
  obtain ⟨k,hk,rfl,y,rfl,HY⟩ := hrel
  by_cases hlt : k < s.size
  · have hb := dig_at HD.out hlt
    have hy : 0 ≤ y ∧ y ≤ 999999999999999999 := by
     have h1 := HY.out
     have h2 := pow18 (all_take HD.out k) (k := k) (List.length_take_le _ _) (by omega)
     omega
    have HS : Hid ((num (s.data.toList.take (k + 1)) : Int) = (num (s.data.toList.take k) : Int) * 10 + ((s[k].toNat : Int) - 48)) := by
     show _ = _
     rw [take_snoc s k hlt,num_snoc]
     omega
    go_wp2
    go_round
    case rel =>
     refine ⟨k + 1,by omega,by go_num,_,rfl, ?_⟩
     show _ = _
     rw [HS.out, ← HY.out]
    case measure => simp [intOf]; omega
  · obtain rfl : k = s.size := by omega
    go_wp2
    go_ret
    exact ⟨ret_u64 (by rw [HY.out,take_all]),rfl⟩
theorem first_of (s : ByteArray) (h : 0 < s.size) : (s.extract 0 1).toList = [s[0]] := by
 rw [Lib.extract_toList,all_split h]
 simp
theorem cut_yes (s : ByteArray) (hs : s.size ≤ 140737488351232) (hp : 0 < s.size) (h : s[0] = 45) (w : World) :
 Calls Tryz.prog 102 #[.string s,.string ⟨#[45]⟩] w fun e w' => e = .returned (.tuple #[.string (s.extract 1 s.size),.bool true]) ∧ w' = w := by
 have h1 : ((s.extract 0 1).toList == [45]) = true := by rw [first_of s hp,h]; rfl
 clear h
 go_enter Tryz.func102,Tryz.ntmps102
 go_wp2
 go_ret2
 exact ⟨rfl,rfl⟩
theorem cut_no (s : ByteArray) (hs : s.size ≤ 140737488351232) (h : ∀ hp : 0 < s.size,s[0] ≠ 45) (w : World) :
 Calls Tryz.prog 102 #[.string s,.string ⟨#[45]⟩] w fun e w' => e = .returned (.tuple #[.string s,.bool false]) ∧ w' = w := by
 by_cases hp : 0 < s.size
 · have h1 : ((s.extract 0 1).toList == [45]) = false := by
    rw [first_of s hp]
    have := h hp
    simpa using this
   clear h
   go_enter Tryz.func102,Tryz.ntmps102
   go_wp2
   go_ret2
   exact ⟨rfl,rfl⟩
 · clear h
   go_enter Tryz.func102,Tryz.ntmps102
   go_wp2
   go_ret2
   exact ⟨rfl,rfl⟩
theorem read_bad (s D : ByteArray) (b : Bool) (hc : ∀ w,Calls Tryz.prog 102 #[.string s,.string ⟨#[45]⟩] w fun e w' => e = .returned (.tuple #[.string D,.bool b]) ∧ w' = w) (hD : D.size ≤ 140737488351232) (hp : pl D.data.toList = false) (w : World) :
 Calls Tryz.prog 137 #[.string s] w fun e w' => e = .returned (.tuple #[.int .i64 0,.int .i64 1]) ∧ w' = w := by
 have H1 : Hid (∀ w,Calls Tryz.prog 102 #[.string s,.string ⟨#[45]⟩] w fun e w' => e = .returned (.tuple #[.string D,.bool b]) ∧ w' = w) := hc
 have H2 : Hid (∀ w,Calls Tryz.prog 160 #[.string D] w fun e w' => e = .returned (.bool false) ∧ w' = w) := fun w => hp ▸ plain_any D hD w
 clear hc hp
 go_enter Tryz.func137,Tryz.ntmps137
 go_wp2_with fail
 refine (H1.out _).mono ?_; rintro e w1 ⟨rfl,rfl⟩
 go_wp2_with fail
 refine (H2.out _).mono ?_; rintro e w1 ⟨rfl,rfl⟩
 go_wp2_with fail
 go_ret2
 exact ⟨rfl,rfl⟩
theorem read_nought (s D : ByteArray) (hc : ∀ w,Calls Tryz.prog 102 #[.string s,.string ⟨#[45]⟩] w fun e w' => e = .returned (.tuple #[.string D,.bool true]) ∧ w' = w) (hD : D.size ≤ 140737488351232) (hp : pl D.data.toList = true) (hz : (D.toList == [48]) = true) (w : World) :
 Calls Tryz.prog 137 #[.string s] w fun e w' => e = .returned (.tuple #[.int .i64 0,.int .i64 1]) ∧ w' = w := by
 have H1 : Hid (∀ w,Calls Tryz.prog 102 #[.string s,.string ⟨#[45]⟩] w fun e w' => e = .returned (.tuple #[.string D,.bool true]) ∧ w' = w) := hc
 have H2 : Hid (∀ w,Calls Tryz.prog 160 #[.string D] w fun e w' => e = .returned (.bool true) ∧ w' = w) := fun w => hp ▸ plain_any D hD w
 clear hc hp
 go_enter Tryz.func137,Tryz.ntmps137
 go_wp2_with fail
 refine (H1.out _).mono ?_; rintro e w1 ⟨rfl,rfl⟩
 go_wp2_with fail
 refine (H2.out _).mono ?_; rintro e w1 ⟨rfl,rfl⟩
 go_wp2_with fail
 go_ret2
 exact ⟨rfl,rfl⟩
theorem read_long (s D : ByteArray) (b : Bool) (hc : ∀ w,Calls Tryz.prog 102 #[.string s,.string ⟨#[45]⟩] w fun e w' => e = .returned (.tuple #[.string D,.bool b]) ∧ w' = w) (hD : D.size ≤ 140737488351232) (hp : pl D.data.toList = true) (hz : (D.toList == [48]) = false) (hl : 19 < D.size) (w : World) :
 Calls Tryz.prog 137 #[.string s] w fun e w' => e = .returned (.tuple #[.int .i64 0,.int .i64 10]) ∧ w' = w := by
 have H1 : Hid (∀ w,Calls Tryz.prog 102 #[.string s,.string ⟨#[45]⟩] w fun e w' => e = .returned (.tuple #[.string D,.bool b]) ∧ w' = w) := hc
 have H2 : Hid (∀ w,Calls Tryz.prog 160 #[.string D] w fun e w' => e = .returned (.bool true) ∧ w' = w) := fun w => hp ▸ plain_any D hD w
 clear hc hp
 cases b <;>
 · go_enter Tryz.func137,Tryz.ntmps137
   go_wp2_with fail
   refine (H1.out _).mono ?_; rintro e w1 ⟨rfl,rfl⟩
   go_wp2_with fail
   refine (H2.out _).mono ?_; rintro e w1 ⟨rfl,rfl⟩
   go_wp2_with fail
   go_ret2
   exact ⟨rfl,rfl⟩
theorem neg_back (y : Int) (h0 : 0 ≤ y) (h1 : y ≤ 9223372036854775808) : wrap64 (IntKind.u64.wrap (-y)) = -y := by
 rw [IntKind.wrap_u64]; unfold wrap64; omega
theorem read_short (s D : ByteArray) (b : Bool) (hc : ∀ w,Calls Tryz.prog 102 #[.string s,.string ⟨#[45]⟩] w fun e w' => e = .returned (.tuple #[.string D,.bool b]) ∧ w' = w) (hp : pl D.data.toList = true) (hz : b = true → (D.toList == [48]) = false) (hl : D.size ≤ 19) (w : World) :
 Calls Tryz.prog 137 #[.string s] w fun e w' => e = .returned (.tuple #[.int .i64 (vl (if b then -(num D.data.toList : Int) else (num D.data.toList : Int))),.int .i64 (er (if b then -(num D.data.toList : Int) else (num D.data.toList : Int)))]) ∧ w' = w := by
 have H1 : Hid (∀ w,Calls Tryz.prog 102 #[.string s,.string ⟨#[45]⟩] w fun e w' => e = .returned (.tuple #[.string D,.bool b]) ∧ w' = w) := hc
 have H2 : Hid (∀ w,Calls Tryz.prog 160 #[.string D] w fun e w' => e = .returned (.bool true) ∧ w' = w) := fun w => hp ▸ plain_any D (by omega) w
 have H3 : Hid (∀ w,Calls Tryz.prog 161 #[.string D] w fun e w' => e = .returned (.int .u64 (num D.data.toList)) ∧ w' = w) := fun w => size_any D hl (pl_parts hp).2.2 w
 clear hc hp
 obtain ⟨y,hy⟩ : ∃ y : Int,y = (num D.data.toList : Int) := ⟨_,rfl⟩
 rw [← hy] at H3 ⊢
 have hy0 : 0 ≤ y := by omega
 clear hy
 cases b
 · simp only [Bool.false_eq_true,if_false]
   by_cases c : y ≤ 9223372036854775807
   · rw [(vl_in ⟨by omega,c⟩).1,(vl_in ⟨by omega,c⟩).2]
     go_enter Tryz.func137,Tryz.ntmps137
     go_wp2_with fail
     refine (H1.out _).mono ?_; rintro e w1 ⟨rfl,rfl⟩
     go_wp2_with fail
     refine (H2.out _).mono ?_; rintro e w1 ⟨rfl,rfl⟩
     go_wp2_with fail
     refine (H3.out _).mono ?_; rintro e w1 ⟨rfl,rfl⟩
     go_wp2_with fail
     go_ret2
     exact ⟨rfl,rfl⟩
   · rw [(vl_out (by omega)).1,(vl_out (by omega)).2]
     go_enter Tryz.func137,Tryz.ntmps137
     go_wp2_with fail
     refine (H1.out _).mono ?_; rintro e w1 ⟨rfl,rfl⟩
     go_wp2_with fail
     refine (H2.out _).mono ?_; rintro e w1 ⟨rfl,rfl⟩
     go_wp2_with fail
     refine (H3.out _).mono ?_; rintro e w1 ⟨rfl,rfl⟩
     go_wp2_with fail
     go_ret2
     exact ⟨rfl,rfl⟩
 · simp only [if_true]
   have hz' := hz rfl
   clear hz
   by_cases c : y ≤ 9223372036854775808
   · rw [(vl_in ⟨by omega,by omega⟩).1,(vl_in ⟨by omega,by omega⟩).2]
     go_enter Tryz.func137,Tryz.ntmps137
     go_wp2_with fail
     refine (H1.out _).mono ?_; rintro e w1 ⟨rfl,rfl⟩
     go_wp2_with fail
     refine (H2.out _).mono ?_; rintro e w1 ⟨rfl,rfl⟩
     go_wp2_with fail
     refine (H3.out _).mono ?_; rintro e w1 ⟨rfl,rfl⟩
     go_wp2_with fail
     go_ret2
     exact ⟨ret2 (neg_back y hy0 c),rfl⟩
   · rw [(vl_out (by omega)).1,(vl_out (by omega)).2]
     go_enter Tryz.func137,Tryz.ntmps137
     go_wp2_with fail
     refine (H1.out _).mono ?_; rintro e w1 ⟨rfl,rfl⟩
     go_wp2_with fail
     refine (H2.out _).mono ?_; rintro e w1 ⟨rfl,rfl⟩
     go_wp2_with fail
     refine (H3.out _).mono ?_; rintro e w1 ⟨rfl,rfl⟩
     go_wp2_with fail
     go_ret2
     exact ⟨rfl,rfl⟩
theorem rd_bad {l : List UInt8} (h : rdBad l = true) : rdV l = 0 ∧ rdE l = 1 := by unfold rdV rdE; rw [h]; exact ⟨rfl,rfl⟩
theorem rd_good {l : List UInt8} (h : rdBad l = false) : rdV l = vl (rdNum l) ∧ rdE l = er (rdNum l) := by unfold rdV rdE; rw [h]; exact ⟨rfl,rfl⟩
theorem rest_of (s : ByteArray) : (s.extract 1 s.size).data.toList = s.data.toList.drop 1 := by
 rw [Lib.extract_data]
 apply List.take_of_length_le
 simp
theorem neg_yes (s : ByteArray) (hp : 0 < s.size) (h : s[0] = 45) : rdNeg s.data.toList = true := by
 unfold rdNeg
 rw [all_split hp]
 simp [h]
theorem neg_no (s : ByteArray) (h : ∀ hp : 0 < s.size,s[0] ≠ 45) : rdNeg s.data.toList = false := by
 unfold rdNeg
 by_cases hp : 0 < s.size
 · rw [all_split hp]
   simpa using h hp
 · have := len_of s
   cases hl : s.data.toList with
   | nil => rfl
   | cons a r => rw [hl] at this; simp at this; omega
theorem long_out {l : List UInt8} (h : pl l = true) (hl : 19 < l.length) : ¬ ((num l : Int) ≤ 9223372036854775807) ∧ ¬ (-9223372036854775808 ≤ -(num l : Int)) := by
 obtain ⟨h1,h2,h3⟩ := pl_parts h
 have h4 := num_big l h3 (h2 (by omega)) h1
 have h5 : 10 ^ 19 ≤ 10 ^ (l.length - 1) := Nat.pow_le_pow_right (by omega) (by omega)
 omega
theorem read_core (s D : ByteArray) (b : Bool) (hc : ∀ w,Calls Tryz.prog 102 #[.string s,.string ⟨#[45]⟩] w fun e w' => e = .returned (.tuple #[.string D,.bool b]) ∧ w' = w) (hD : D.size ≤ 140737488351232)
 (hn : rdNeg s.data.toList = b) (hd : rdDig s.data.toList = D.data.toList) (w : World) :
 Calls Tryz.prog 137 #[.string s] w fun e w' => e = .returned (.tuple #[.int .i64 (rdV s.data.toList),.int .i64 (rdE s.data.toList)]) ∧ w' = w := by
 have hB : rdBad s.data.toList = (!pl D.data.toList || b && D.data.toList == [48]) := by unfold rdBad; rw [hd,hn]
 have hN : rdNum s.data.toList = if b then -(num D.data.toList : Int) else (num D.data.toList : Int) := by unfold rdNum; rw [hd,hn]
 by_cases hp : pl D.data.toList = true
 · by_cases hz : (b && D.data.toList == [48]) = true
   · rw [hp,hz] at hB
     rw [(rd_bad hB).1,(rd_bad hB).2]
     simp only [Bool.and_eq_true] at hz
     obtain ⟨rfl,hz⟩ := hz
     exact read_nought s D hc hD hp (by rw [ByteArray.toList_eq]; exact hz) w
   · have hz' : (b && D.data.toList == [48]) = false := by simpa using hz
     rw [hp,hz'] at hB
     rw [(rd_good hB).1,(rd_good hB).2,hN]
     by_cases hl : D.size ≤ 19
     · refine read_short s D b hc hp (fun hb => ?_) hl w
       subst hb
       rw [ByteArray.toList_eq]
       simpa using hz'
     · have ho := long_out hp (by rw [len_of]; omega)
       have h0 : (0 : Int) ≤ (num D.data.toList : Int) := by omega
       have hx : ¬ (-9223372036854775808 ≤ (if b then -(num D.data.toList : Int) else (num D.data.toList : Int)) ∧ (if b then -(num D.data.toList : Int) else (num D.data.toList : Int)) ≤ 9223372036854775807) := by
        cases b <;> simp only [Bool.false_eq_true,if_false,if_true] <;> omega
       rw [(vl_out hx).1,(vl_out hx).2]
       refine read_long s D b hc hD hp ?_ (by omega) w
       rw [ByteArray.toList_eq]
       have := len_of D
       cases hq : (D.data.toList == [48])
       · rfl
       · have e : D.data.toList = [48] := by simpa using hq
         rw [e] at this
         simp at this
         omega
 · have hp' : pl D.data.toList = false := by simpa using hp
   rw [hp'] at hB
   rw [(rd_bad (by rw [hB]; simp)).1,(rd_bad (by rw [hB]; simp)).2]
   exact read_bad s D b hc hD hp' w
theorem read_any (s : ByteArray) (hs : s.size ≤ 140737488351232) (w : World) :
 Calls Tryz.prog 137 #[.string s] w fun e w' => e = .returned (.tuple #[.int .i64 (rdV s.data.toList),.int .i64 (rdE s.data.toList)]) ∧ w' = w := by
 by_cases h : ∃ hp : 0 < s.size,s[0] = 45
 · obtain ⟨hp,h⟩ := h
   have hn := neg_yes s hp h
   refine read_core s (s.extract 1 s.size) true (fun w => cut_yes s hs hp h w) (by simp; omega) hn ?_ w
   unfold rdDig
   rw [hn,rest_of]
   simp
 · have h' : ∀ hp : 0 < s.size,s[0] ≠ 45 := fun hp e => h ⟨hp,e⟩
   have hn := neg_no s h'
   refine read_core s s false (fun w => cut_no s hs h' w) hs hn ?_ w
   unfold rdDig
   rw [hn]
   simp
end Go.Proofs.YtlgkghebemfpjaaGreatDoor.Num
