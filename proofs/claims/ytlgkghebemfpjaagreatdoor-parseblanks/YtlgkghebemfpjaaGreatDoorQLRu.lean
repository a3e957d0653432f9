/- How many bytes a text begins with that fit. -/
import Derived.Test.YtlgkghebemfpjaaGreatDoorQLBs
import Derived.LoopTactic
import Derived.Laws.RangeAny
namespace Go.Proofs.YtlgkghebemfpjaaGreatDoor
open Go.ChangeShapes Go.WideShapes Go.ChangeAt Go.RowKit
set_option linter.unusedVariables false
set_option maxRecDepth 100000
set_option maxRecDepth 100000
def nlB (c : UInt8) : Bool := c != 10
def blB (c : UInt8) : Bool := c == 9 || c == 10 || c == 13 || c == 32
def ltB (c : UInt8) : Bool := decide (97 ≤ c.toNat ∧ c.toNat ≤ 122 ∨ 65 ≤ c.toNat ∧ c.toNat ≤ 90) || c.toNat == 95
def dgB (c : UInt8) : Bool := decide (48 ≤ c.toNat ∧ c.toNat ≤ 57)
def wdB (c : UInt8) : Bool := ltB c || dgB c
structure Fits (V : Int → Bool) (p : UInt8 → Bool) (b : Bool) : Prop where
 low : ∀ c : UInt8,c.toNat < 128 → V (c.toNat : Int) = p c
 high : ∀ r : Int,128 ≤ r → V r = b
 byte : ∀ c : UInt8,128 ≤ c.toNat → p c = b
theorem u8_eq (c : UInt8) (n : Nat) (h : n < 256) : (c == UInt8.ofNat n) = decide (c.toNat = n) := by
 rw [Bool.eq_iff_iff,beq_iff_eq,decide_eq_true_eq]
 constructor
 · intro e; rw [e]; simp; omega
 · intro e; apply UInt8.toNat_inj.1; rw [e]; simp; omega
theorem fit_nl : Fits (fun r => !(r == 10)) nlB true := by
 have e : ∀ c : UInt8,(c == 10) = decide (c.toNat = 10) := fun c => u8_eq c 10 (by omega)
 refine ⟨fun c h => ?_,fun r h => ?_,fun c h => ?_⟩
 · show _ = (c != 10)
   rw [bne,e,beq_eq]; congr 1; simp; omega
 · rw [beq_eq,decide_eq_false (by omega)]; rfl
 · show (c != 10) = _
   rw [bne,e,decide_eq_false (by omega)]; rfl
theorem fit_bl : Fits (fun r => r == 9 || r == 10 || r == 13 || r == 32) blB false := by
 have e1 : ∀ c : UInt8,(c == 9) = decide (c.toNat = 9) := fun c => u8_eq c 9 (by omega)
 have e2 : ∀ c : UInt8,(c == 10) = decide (c.toNat = 10) := fun c => u8_eq c 10 (by omega)
 have e3 : ∀ c : UInt8,(c == 13) = decide (c.toNat = 13) := fun c => u8_eq c 13 (by omega)
 have e4 : ∀ c : UInt8,(c == 32) = decide (c.toNat = 32) := fun c => u8_eq c 32 (by omega)
 refine ⟨fun c h => ?_,fun r h => ?_,fun c h => ?_⟩
 · unfold blB
   rw [e1,e2,e3,e4]
   simp only [beq_eq]
   rw [Bool.eq_iff_iff]; simp; omega
 · simp only [beq_eq]
   rw [Bool.eq_iff_iff]; simp; omega
 · unfold blB
   rw [e1,e2,e3,e4]
   rw [Bool.eq_iff_iff]; simp; omega
theorem fit_lt : Fits begV ltB false := by
 refine ⟨fun c h => ?_,fun r h => ?_,fun c h => ?_⟩
 · unfold begV ltB
   rw [beq_eq,Bool.eq_iff_iff]; simp; omega
 · unfold begV
   rw [beq_eq,Bool.eq_iff_iff]; simp; omega
 · unfold ltB
   rw [Bool.eq_iff_iff]; simp; omega
theorem fit_dg : Fits (fun r => decide (48 ≤ r ∧ r ≤ 57)) dgB false := by
 refine ⟨fun c h => ?_,fun r h => ?_,fun c h => ?_⟩
 · unfold dgB
   rw [Bool.eq_iff_iff]; simp; omega
 · show decide _ = _
   rw [Bool.eq_iff_iff]; simp; omega
 · unfold dgB
   rw [Bool.eq_iff_iff]; simp; omega
theorem fit_wd : Fits inV wdB false := by
 refine ⟨fun c h => ?_,fun r h => ?_,fun c h => ?_⟩
 · show (begV _ || _) = (ltB c || dgB c)
   rw [fit_lt.low c h,fit_dg.low c h]
 · show (begV _ || _) = _
   rw [fit_lt.high r h,fit_dg.high r h]; rfl
 · show (ltB c || dgB c) = _
   rw [fit_lt.byte c h,fit_dg.byte c h]; rfl
def fun1 (p : UInt8 → Bool) (_ : Unit) (c : UInt8) : Option Unit := if p c then some () else none
theorem Fits.steps {V : Int → Bool} {p : UInt8 → Bool} {b : Bool} (F : Fits V p b) : Steps (fun1 p) (fun _ => b) := ⟨fun st c h => by unfold fun1; rw [F.byte c h]⟩
theorem Fits.go {V : Int → Bool} {p : UInt8 → Bool} {b : Bool} (F : Fits V p b) (s : ByteArray) (pos : Nat) (h : pos < s.size) (hv : V ((Utf8.decode s pos).1 : Int) = true) :
 pos + (Utf8.decode s pos).2 ≤ s.size ∧ (scan (fun1 p) () (s.data.toList.drop pos)).1 = (Utf8.decode s pos).2 + (scan (fun1 p) () (s.data.toList.drop (pos + (Utf8.decode s pos).2))).1 := by
 by_cases ha : (s[pos]'h).toNat < 128
 · rw [decode_ascii s pos h ha] at hv ⊢
   have hp : p s[pos] = true := by rw [← F.low _ ha]; exact hv
   refine ⟨by simp; omega, ?_⟩
   rw [drop_at s pos h,scan_go (st' := ()) (by unfold fun1; rw [if_pos hp])]
   simp; omega
 · have hh := decode_high s pos h (by omega)
   have hb : b = true := by rw [← F.high _ (by omega : (128 : Int) ≤ ((Utf8.decode s pos).1 : Int))]; exact hv
   obtain ⟨h1,h2⟩ := step_high F.steps s pos () h (by omega) hb
   exact ⟨h1,by rw [h2]⟩
theorem Fits.stop {V : Int → Bool} {p : UInt8 → Bool} {b : Bool} (F : Fits V p b) (s : ByteArray) (pos : Nat) (h : pos < s.size) (hv : V ((Utf8.decode s pos).1 : Int) = false) :
 (scan (fun1 p) () (s.data.toList.drop pos)).1 = 0 := by
 have hp : p s[pos] = false := by
  by_cases ha : (s[pos]'h).toNat < 128
  · rw [decode_ascii s pos h ha] at hv
    rw [← F.low _ ha]; exact hv
  · have hh := decode_high s pos h (by omega)
    rw [F.byte _ (by omega), ← F.high _ (by omega : (128 : Int) ≤ ((Utf8.decode s pos).1 : Int))]; exact hv
 rw [drop_at s pos h,scan_stop (by unfold fun1; rw [hp]; rfl)]
theorem run_pos (s : ByteArray) (pos : Nat) (h : pos < s.size) : 1 ≤ (Utf8.decode s pos).2 := by
 by_cases ha : (s[pos]'h).toNat < 128
 · rw [decode_ascii s pos h ha]
   exact Nat.le_refl _
 · exact (decode_high s pos h (by omega)).2
theorem ret_int {a b : Int} (h : a = b) : Ending.returned (.int .i64 a) = .returned (.int .i64 b) := by rw [h]
theorem run_nl (s : ByteArray) (hs : s.size ≤ 140737488351232) (w : World) :
 Calls Tryz.prog 100 #[.string s,.func (.func 101) #[] #[]] w fun e w' => e = .returned (.int .i64 ((s.data.toList.takeWhile nlB).length : Int)) ∧ Below w.heap.size w w' := by
 obtain ⟨V,hV⟩ : ∃ V : Int → Bool,V = fun r => (!(r == 10)) := ⟨_,rfl⟩
 have HC : Hid (∀ (r : Int) (w : World),Calls Tryz.prog 101 #[.int .i32 r] w fun e w' => e = .returned (.bool (V r)) ∧ w' = w) := fun r w => by rw [hV]; exact notNl_is r w
 have HF : Hid (∃ b,Fits V nlB b) := ⟨_,by rw [hV]; exact fit_nl⟩
 clear hV
 rw [← scan_take (f := fun1 nlB) (fun c => rfl)]
 obtain ⟨T,hT⟩ : ∃ T,T = (scan (fun1 nlB) () s.data.toList).1 := ⟨_,rfl⟩
 rw [← hT]
 have HT : Hid (T = 0 + (scan (fun1 nlB) () (s.data.toList.drop 0)).1) := by
  show _ = _
  rw [hT]; simp
 clear hT
 go_enter Tryz.func100,Tryz.ntmps100
 go_wp2_with fail
 go_loopw [] (fun w' => ∃ pos,w' = w.iter s pos ∧ pos ≤ s.size ∧ Hid (T = pos + (scan (fun1 nlB) () (s.data.toList.drop pos)).1)) (fun w' => s.size - w'.iterPos w.heap.size)
 case atStart => exact ⟨0,rfl,by omega,HT⟩
 case round =>
  obtain ⟨pos,rfl,hle,HP⟩ := hrel
  by_cases hp : pos < s.size
  · have hnx : ∀ ty,(Instr.next (.pointer (some ⟨w.heap.size,0,none⟩)) true ty).run Tryz.prog (w.iter s pos) = _ := fun ty => run_next_any w s pos ty hp
    have hwd := run_pos s pos hp
    obtain ⟨r,hr⟩ : ∃ r : Nat,r = (Utf8.decode s pos).1 := ⟨_,rfl⟩
    obtain ⟨d,hd⟩ : ∃ d : Nat,d = (Utf8.decode s pos).2 := ⟨_,rfl⟩
    rw [← hr, ← hd] at hnx
    rw [← hd] at hwd
    have HG : Hid (V (r : Int) = true → pos + d ≤ s.size ∧ T = pos + d + (scan (fun1 nlB) () (s.data.toList.drop (pos + d))).1) := fun hv => by
     obtain ⟨b,F⟩ := HF.out
     have h2 := F.go s pos hp (by rw [← hr]; exact hv)
     rw [← hd] at h2
     refine ⟨h2.1, ?_⟩
     rw [HP.out,h2.2]; omega
    have HS : Hid (V (r : Int) = false → T = pos) := fun hv => by
     obtain ⟨b,F⟩ := HF.out
     have h2 := F.stop s pos hp (by rw [← hr]; exact hv)
     rw [HP.out,h2]; rfl
    clear hr hd HP
    obtain ⟨v,hv⟩ : ∃ v,V (r : Int) = v := ⟨_,rfl⟩
    rw [hv] at HG HS
    have HC2 : Hid (∀ (w : World),Calls Tryz.prog 101 #[.int .i32 (r : Int)] w fun e w' => e = .returned (.bool v) ∧ w' = w) := fun w => hv ▸ HC.out (r : Int) w
    clear hv
    cases v
    · have HS2 : Hid (T = pos) := HS.out rfl
      clear HS HG
      go_wp2_with fail
      refine (HC2.out _).mono ?_; rintro e w1 ⟨rfl,rfl⟩
      go_wp2_with fail
      go_ret
      exact ⟨ret_int (by rw [HS2.out]),below1 _ _⟩
    · have HG2 : Hid (pos + d ≤ s.size) := (HG.out rfl).1
      have HG3 : Hid (T = pos + d + (scan (fun1 nlB) () (s.data.toList.drop (pos + d))).1) := (HG.out rfl).2
      clear HS HG
      go_wp2_with fail
      refine (HC2.out _).mono ?_; rintro e w1 ⟨rfl,rfl⟩
      go_wp2_with fail
      go_roundw
      case rel => exact ⟨pos + d,rfl,HG2.out,HG3⟩
      case measure =>
       have := HG2.out
       simp
       omega
  · have hnx : ∀ ty,(Instr.next (.pointer (some ⟨w.heap.size,0,none⟩)) true ty).run Tryz.prog (w.iter s pos) = _ := fun ty => run_next_end w s pos ty hp
    have HE : Hid (T = s.size) := by
     show _ = _
     rw [HP.out,List.drop_of_length_le (by simp; omega)]
     simp [scan]; omega
    go_wp2_with fail
    go_ret
    exact ⟨ret_int (by rw [HE.out]),below1 _ _⟩
theorem run_bl (s : ByteArray) (hs : s.size ≤ 140737488351232) (w : World) :
 Calls Tryz.prog 100 #[.string s,.func (.func 104) #[] #[]] w fun e w' => e = .returned (.int .i64 ((s.data.toList.takeWhile blB).length : Int)) ∧ Below w.heap.size w w' := by
 obtain ⟨V,hV⟩ : ∃ V : Int → Bool,V = fun r => (r == 9 || r == 10 || r == 13 || r == 32) := ⟨_,rfl⟩
 have HC : Hid (∀ (r : Int) (w : World),Calls Tryz.prog 104 #[.int .i32 r] w fun e w' => e = .returned (.bool (V r)) ∧ w' = w) := fun r w => by rw [hV]; exact blank_is r w
 have HF : Hid (∃ b,Fits V blB b) := ⟨_,by rw [hV]; exact fit_bl⟩
 clear hV
 rw [← scan_take (f := fun1 blB) (fun c => rfl)]
 obtain ⟨T,hT⟩ : ∃ T,T = (scan (fun1 blB) () s.data.toList).1 := ⟨_,rfl⟩
 rw [← hT]
 have HT : Hid (T = 0 + (scan (fun1 blB) () (s.data.toList.drop 0)).1) := by
  show _ = _
  rw [hT]; simp
 clear hT
 go_enter Tryz.func100,Tryz.ntmps100
 go_wp2_with fail
 go_loopw [] (fun w' => ∃ pos,w' = w.iter s pos ∧ pos ≤ s.size ∧ Hid (T = pos + (scan (fun1 blB) () (s.data.toList.drop pos)).1)) (fun w' => s.size - w'.iterPos w.heap.size)
 case atStart => exact ⟨0,rfl,by omega,HT⟩
 case round =>
  obtain ⟨pos,rfl,hle,HP⟩ := hrel
  by_cases hp : pos < s.size
  · have hnx : ∀ ty,(Instr.next (.pointer (some ⟨w.heap.size,0,none⟩)) true ty).run Tryz.prog (w.iter s pos) = _ := fun ty => run_next_any w s pos ty hp
    have hwd := run_pos s pos hp
    obtain ⟨r,hr⟩ : ∃ r : Nat,r = (Utf8.decode s pos).1 := ⟨_,rfl⟩
    obtain ⟨d,hd⟩ : ∃ d : Nat,d = (Utf8.decode s pos).2 := ⟨_,rfl⟩
    rw [← hr, ← hd] at hnx
    rw [← hd] at hwd
    have HG : Hid (V (r : Int) = true → pos + d ≤ s.size ∧ T = pos + d + (scan (fun1 blB) () (s.data.toList.drop (pos + d))).1) := fun hv => by
     obtain ⟨b,F⟩ := HF.out
     have h2 := F.go s pos hp (by rw [← hr]; exact hv)
     rw [← hd] at h2
     refine ⟨h2.1, ?_⟩
     rw [HP.out,h2.2]; omega
    have HS : Hid (V (r : Int) = false → T = pos) := fun hv => by
     obtain ⟨b,F⟩ := HF.out
     have h2 := F.stop s pos hp (by rw [← hr]; exact hv)
     rw [HP.out,h2]; rfl
    clear hr hd HP
    obtain ⟨v,hv⟩ : ∃ v,V (r : Int) = v := ⟨_,rfl⟩
    rw [hv] at HG HS
    have HC2 : Hid (∀ (w : World),Calls Tryz.prog 104 #[.int .i32 (r : Int)] w fun e w' => e = .returned (.bool v) ∧ w' = w) := fun w => hv ▸ HC.out (r : Int) w
    clear hv
    cases v
    · have HS2 : Hid (T = pos) := HS.out rfl
      clear HS HG
      go_wp2_with fail
      refine (HC2.out _).mono ?_; rintro e w1 ⟨rfl,rfl⟩
      go_wp2_with fail
      go_ret
      exact ⟨ret_int (by rw [HS2.out]),below1 _ _⟩
    · have HG2 : Hid (pos + d ≤ s.size) := (HG.out rfl).1
      have HG3 : Hid (T = pos + d + (scan (fun1 blB) () (s.data.toList.drop (pos + d))).1) := (HG.out rfl).2
      clear HS HG
      go_wp2_with fail
      refine (HC2.out _).mono ?_; rintro e w1 ⟨rfl,rfl⟩
      go_wp2_with fail
      go_roundw
      case rel => exact ⟨pos + d,rfl,HG2.out,HG3⟩
      case measure =>
       have := HG2.out
       simp
       omega
  · have hnx : ∀ ty,(Instr.next (.pointer (some ⟨w.heap.size,0,none⟩)) true ty).run Tryz.prog (w.iter s pos) = _ := fun ty => run_next_end w s pos ty hp
    have HE : Hid (T = s.size) := by
     show _ = _
     rw [HP.out,List.drop_of_length_le (by simp; omega)]
     simp [scan]; omega
    go_wp2_with fail
    go_ret
    exact ⟨ret_int (by rw [HE.out]),below1 _ _⟩
theorem run_wd (s : ByteArray) (hs : s.size ≤ 140737488351232) (w : World) :
 Calls Tryz.prog 100 #[.string s,.func (.func 132) #[] #[]] w fun e w' => e = .returned (.int .i64 ((s.data.toList.takeWhile wdB).length : Int)) ∧ Below w.heap.size w w' := by
 obtain ⟨V,hV⟩ : ∃ V : Int → Bool,V = fun r => (inV r) := ⟨_,rfl⟩
 have HC : Hid (∀ (r : Int) (w : World),Calls Tryz.prog 132 #[.int .i32 r] w fun e w' => e = .returned (.bool (V r)) ∧ w' = w) := fun r w => by rw [hV]; exact inWord_is r w
 have HF : Hid (∃ b,Fits V wdB b) := ⟨_,by rw [hV]; exact fit_wd⟩
 clear hV
 rw [← scan_take (f := fun1 wdB) (fun c => rfl)]
 obtain ⟨T,hT⟩ : ∃ T,T = (scan (fun1 wdB) () s.data.toList).1 := ⟨_,rfl⟩
 rw [← hT]
 have HT : Hid (T = 0 + (scan (fun1 wdB) () (s.data.toList.drop 0)).1) := by
  show _ = _
  rw [hT]; simp
 clear hT
 go_enter Tryz.func100,Tryz.ntmps100
 go_wp2_with fail
 go_loopw [] (fun w' => ∃ pos,w' = w.iter s pos ∧ pos ≤ s.size ∧ Hid (T = pos + (scan (fun1 wdB) () (s.data.toList.drop pos)).1)) (fun w' => s.size - w'.iterPos w.heap.size)
 case atStart => exact ⟨0,rfl,by omega,HT⟩
 case round =>
  obtain ⟨pos,rfl,hle,HP⟩ := hrel
  by_cases hp : pos < s.size
  · have hnx : ∀ ty,(Instr.next (.pointer (some ⟨w.heap.size,0,none⟩)) true ty).run Tryz.prog (w.iter s pos) = _ := fun ty => run_next_any w s pos ty hp
    have hwd := run_pos s pos hp
    obtain ⟨r,hr⟩ : ∃ r : Nat,r = (Utf8.decode s pos).1 := ⟨_,rfl⟩
    obtain ⟨d,hd⟩ : ∃ d : Nat,d = (Utf8.decode s pos).2 := ⟨_,rfl⟩
    rw [← hr, ← hd] at hnx
    rw [← hd] at hwd
    have HG : Hid (V (r : Int) = true → pos + d ≤ s.size ∧ T = pos + d + (scan (fun1 wdB) () (s.data.toList.drop (pos + d))).1) := fun hv => by
     obtain ⟨b,F⟩ := HF.out
     have h2 := F.go s pos hp (by rw [← hr]; exact hv)
     rw [← hd] at h2
     refine ⟨h2.1, ?_⟩
     rw [HP.out,h2.2]; omega
    have HS : Hid (V (r : Int) = false → T = pos) := fun hv => by
     obtain ⟨b,F⟩ := HF.out
     have h2 := F.stop s pos hp (by rw [← hr]; exact hv)
     rw [HP.out,h2]; rfl
    clear hr hd HP
    obtain ⟨v,hv⟩ : ∃ v,V (r : Int) = v := ⟨_,rfl⟩
    rw [hv] at HG HS
    have HC2 : Hid (∀ (w : World),Calls Tryz.prog 132 #[.int .i32 (r : Int)] w fun e w' => e = .returned (.bool v) ∧ w' = w) := fun w => hv ▸ HC.out (r : Int) w
    clear hv
    cases v
    · have HS2 : Hid (T = pos) := HS.out rfl
      clear HS HG
      go_wp2_with fail
      refine (HC2.out _).mono ?_; rintro e w1 ⟨rfl,rfl⟩
      go_wp2_with fail
      go_ret
      exact ⟨ret_int (by rw [HS2.out]),below1 _ _⟩
    · have HG2 : Hid (pos + d ≤ s.size) := (HG.out rfl).1
      have HG3 : Hid (T = pos + d + (scan (fun1 wdB) () (s.data.toList.drop (pos + d))).1) := (HG.out rfl).2
      clear HS HG
      go_wp2_with fail
      refine (HC2.out _).mono ?_; rintro e w1 ⟨rfl,rfl⟩
      go_wp2_with fail
      go_roundw
      case rel => exact ⟨pos + d,rfl,HG2.out,HG3⟩
      case measure =>
       have := HG2.out
       simp
       omega
  · have hnx : ∀ ty,(Instr.next (.pointer (some ⟨w.heap.size,0,none⟩)) true ty).run Tryz.prog (w.iter s pos) = _ := fun ty => run_next_end w s pos ty hp
    have HE : Hid (T = s.size) := by
     show _ = _
     rw [HP.out,List.drop_of_length_le (by simp; omega)]
     simp [scan]; omega
    go_wp2_with fail
    go_ret
    exact ⟨ret_int (by rw [HE.out]),below1 _ _⟩
theorem run_dg (s : ByteArray) (hs : s.size ≤ 140737488351232) (w : World) :
 Calls Tryz.prog 100 #[.string s,.func (.func 108) #[] #[]] w fun e w' => e = .returned (.int .i64 ((s.data.toList.takeWhile dgB).length : Int)) ∧ Below w.heap.size w w' := by
 obtain ⟨V,hV⟩ : ∃ V : Int → Bool,V = fun r => (decide (48 ≤ r ∧ r ≤ 57)) := ⟨_,rfl⟩
 have HC : Hid (∀ (r : Int) (w : World),Calls Tryz.prog 108 #[.int .i32 r] w fun e w' => e = .returned (.bool (V r)) ∧ w' = w) := fun r w => by rw [hV]; exact digit_is r w
 have HF : Hid (∃ b,Fits V dgB b) := ⟨_,by rw [hV]; exact fit_dg⟩
 clear hV
 rw [← scan_take (f := fun1 dgB) (fun c => rfl)]
 obtain ⟨T,hT⟩ : ∃ T,T = (scan (fun1 dgB) () s.data.toList).1 := ⟨_,rfl⟩
 rw [← hT]
 have HT : Hid (T = 0 + (scan (fun1 dgB) () (s.data.toList.drop 0)).1) := by
  show _ = _
  rw [hT]; simp
 clear hT
 go_enter Tryz.func100,Tryz.ntmps100
 go_wp2_with fail
 go_loopw [] (fun w' => ∃ pos,w' = w.iter s pos ∧ pos ≤ s.size ∧ Hid (T = pos + (scan (fun1 dgB) () (s.data.toList.drop pos)).1)) (fun w' => s.size - w'.iterPos w.heap.size)
 case atStart => exact ⟨0,rfl,by omega,HT⟩
 case round =>
  obtain ⟨pos,rfl,hle,HP⟩ := hrel
  by_cases hp : pos < s.size
  · have hnx : ∀ ty,(Instr.next (.pointer (some ⟨w.heap.size,0,none⟩)) true ty).run Tryz.prog (w.iter s pos) = _ := fun ty => run_next_any w s pos ty hp
    have hwd := run_pos s pos hp
    obtain ⟨r,hr⟩ : ∃ r : Nat,r = (Utf8.decode s pos).1 := ⟨_,rfl⟩
    obtain ⟨d,hd⟩ : ∃ d : Nat,d = (Utf8.decode s pos).2 := ⟨_,rfl⟩
    rw [← hr, ← hd] at hnx
    rw [← hd] at hwd
    have HG : Hid (V (r : Int) = true → pos + d ≤ s.size ∧ T = pos + d + (scan (fun1 dgB) () (s.data.toList.drop (pos + d))).1) := fun hv => by
     obtain ⟨b,F⟩ := HF.out
     have h2 := F.go s pos hp (by rw [← hr]; exact hv)
     rw [← hd] at h2
     refine ⟨h2.1, ?_⟩
     rw [HP.out,h2.2]; omega
    have HS : Hid (V (r : Int) = false → T = pos) := fun hv => by
     obtain ⟨b,F⟩ := HF.out
     have h2 := F.stop s pos hp (by rw [← hr]; exact hv)
     rw [HP.out,h2]; rfl
    clear hr hd HP
    obtain ⟨v,hv⟩ : ∃ v,V (r : Int) = v := ⟨_,rfl⟩
    rw [hv] at HG HS
    have HC2 : Hid (∀ (w : World),Calls Tryz.prog 108 #[.int .i32 (r : Int)] w fun e w' => e = .returned (.bool v) ∧ w' = w) := fun w => hv ▸ HC.out (r : Int) w
    clear hv
    cases v
    · have HS2 : Hid (T = pos) := HS.out rfl
      clear HS HG
      go_wp2_with fail
      refine (HC2.out _).mono ?_; rintro e w1 ⟨rfl,rfl⟩
      go_wp2_with fail
      go_ret
      exact ⟨ret_int (by rw [HS2.out]),below1 _ _⟩
    · have HG2 : Hid (pos + d ≤ s.size) := (HG.out rfl).1
      have HG3 : Hid (T = pos + d + (scan (fun1 dgB) () (s.data.toList.drop (pos + d))).1) := (HG.out rfl).2
      clear HS HG
      go_wp2_with fail
      refine (HC2.out _).mono ?_; rintro e w1 ⟨rfl,rfl⟩
      go_wp2_with fail
      go_roundw
      case rel => exact ⟨pos + d,rfl,HG2.out,HG3⟩
      case measure =>
       have := HG2.out
       simp
       omega
  · have hnx : ∀ ty,(Instr.next (.pointer (some ⟨w.heap.size,0,none⟩)) true ty).run Tryz.prog (w.iter s pos) = _ := fun ty => run_next_end w s pos ty hp
    have HE : Hid (T = s.size) := by
     show _ = _
     rw [HP.out,List.drop_of_length_le (by simp; omega)]
     simp [scan]; omega
    go_wp2_with fail
    go_ret
    exact ⟨ret_int (by rw [HE.out]),below1 _ _⟩
end Go.Proofs.YtlgkghebemfpjaaGreatDoor
