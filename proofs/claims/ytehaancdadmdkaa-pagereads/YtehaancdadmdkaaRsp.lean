/- The document's Split. -/
import Derived.Test.YtehaancdadmdkaaMd
import Derived.Test.YtehaancdadmdkaaRd
namespace Go.Proofs.Ytehaancdadmdkaa
open Go.ChangeShapes Go.WideShapes Go.ChangeAt Go.RowKit
set_option linter.unusedVariables false
set_option maxRecDepth 100000

theorem end_two {fn : Func} {p q x : Tmp} {ty : TypeId} {b d : Addr} {v u : Value} {tmps : Array Value} {w : World} (h : fn.results = #[.cell p ty, .cell q ty, .tmp x]) (hp : tmps.getD p undef = .pointer (some b)) (hq : tmps.getD q undef = .pointer (some d)) (hl : (loadVar ty b).run Try.prog w = .ok v w) (hm : (loadVar ty d).run Try.prog w = .ok u w) :
    (results fn tmps).run Try.prog w = .ok (.tuple #[v, u, tmps.getD x undef]) w := by
  have hp' : tmps[p]?.getD undef = .pointer (some b) := by rw [← Array.getD_eq_getD_getElem?]; exact hp
  have hq' : tmps[q]?.getD undef = .pointer (some d) := by rw [← Array.getD_eq_getD_getElem?]; exact hq
  simp only [results, h]
  simp [hp', hq', asAddr, hl, hm]
theorem Kept.four (w : World) (B D : Nat) (x y u v : Value) : Kept (fun i => i = B ∨ i = D) w ((((w.setCell ⟨B, 0, none⟩ x).setCell ⟨B, 1, none⟩ y).setCell ⟨D, 0, none⟩ u).setCell ⟨D, 1, none⟩ v) :=
  Kept.setCell (F := fun i => i = B ∨ i = D) (p := ⟨D, 1, none⟩) (Kept.setCell (F := fun i => i = B ∨ i = D) (p := ⟨D, 0, none⟩) (Kept.setCell (F := fun i => i = B ∨ i = D) (p := ⟨B, 1, none⟩) (Kept.setCell (F := fun i => i = B ∨ i = D) (p := ⟨B, 0, none⟩) (Kept.refl _ w) (.inl (.inl rfl)) x) (.inl (.inl rfl)) y) (.inl (.inr rfl)) u) (.inl (.inr rfl)) v
set_option maxHeartbeats 4000000 in
theorem rsplit_is {w : World} (kd : Int) (a : Option Addr) (N c : Nat) (cs : List Cel) (hN : cs.length = N) (h : Sl cv 2 w (.slice a N c) cs) (h1 : N ≤ 300) (k : Nat) (hk : k ≤ N) : Calls Try.prog 32 #[rpg kd (.slice a N c), .int .i64 (k : Int)] w fun e w' => ∃ u, e = .returned (.tuple #[rpg kd (.slice a k c), rpg kd u, .int .i64 0]) ∧ Sl cv 2 w' (.slice a k c) (cs.take k) ∧ Sl cv 2 w' u (cs.drop k) ∧ Kept (fun _ => False) w w' := by
  obtain ⟨W, hW⟩ : ∃ W, ((w.alloc (.cells #[.int .i64 kd, .slice a N c] 29)).alloc (.cells #[.int .i64 0, .slice none 0 0] 29)).alloc (.cells #[.int .i64 0, .slice none 0 0] 29) = W := ⟨_, rfl⟩
  obtain ⟨B2, hB2⟩ : ∃ B, w.heap.size = B := ⟨_, rfl⟩
  obtain ⟨B4, hB4⟩ : ∃ B, w.heap.size + 1 = B := ⟨_, rfl⟩
  obtain ⟨B5, hB5⟩ : ∃ B, w.heap.size + 1 + 1 = B := ⟨_, rfl⟩
  have HW : Hid (((w.alloc (.cells #[.int .i64 kd, .slice a N c] 29)).alloc (.cells #[.int .i64 0, .slice none 0 0] 29)).alloc (.cells #[.int .i64 0, .slice none 0 0] 29) = W ∧ w.heap.size = B2 ∧ B2 + 1 = B4 ∧ B4 + 1 = B5) := ⟨hW, hB2, by omega, by omega⟩
  have hk0 : Kept (fun _ => False) w W := hW ▸ (((Kept.refl _ w).alloc _).alloc _).alloc _
  have s1 : (w.alloc (.cells #[.int .i64 kd, .slice a N c] 29)).heap.size = w.heap.size + 1 := by simp
  have s2 : ((w.alloc (.cells #[.int .i64 kd, .slice a N c] 29)).alloc (.cells #[.int .i64 0, .slice none 0 0] 29)).heap.size = w.heap.size + 1 + 1 := by simp
  have hc2 : Blk W B2 29 [.int .i64 kd, .slice a N c] := by
    rw [← hW, ← hB2]
    exact (Blk.new w 29 [.int .i64 kd, .slice a N c]).step (((Kept.refl _ _).alloc _).alloc _)
  have hc4 : Blk W B4 29 [.int .i64 0, .slice none 0 0] := by
    have := Blk.new (w.alloc (.cells #[.int .i64 kd, .slice a N c] 29)) 29 [.int .i64 0, .slice none 0 0]
    rw [s1, hB4] at this
    rw [← hW]
    exact this.step ((Kept.refl _ _).alloc _)
  have hc5 : Blk W B5 29 [.int .i64 0, .slice none 0 0] := by
    have := Blk.new ((w.alloc (.cells #[.int .i64 kd, .slice a N c] 29)).alloc (.cells #[.int .i64 0, .slice none 0 0] 29)) 29 [.int .i64 0, .slice none 0 0]
    rw [s2, hB5] at this
    rw [← hW]
    exact this
  have hne : B2 ≠ B4 ∧ B2 ≠ B5 ∧ B4 ≠ B5 ∧ w.heap.size ≤ B4 ∧ w.heap.size ≤ B5 := by omega
  obtain ⟨u, t1, t2⟩ := sl27_l h k hk hN
  obtain ⟨ua, uc, hu⟩ := t2.shape
  subst hu
  obtain ⟨UL, hUL⟩ : ∃ UL, (cs.drop k).length = UL := ⟨_, rfl⟩
  rw [hUL] at t1 t2
  have hNC : N ≤ c := by obtain ⟨a', c', e, _, q, _⟩ := h; cases e; rw [← hN]; exact q
  have t0 : ∀ W : World, (Instr.sliceAt 27 (.slice a N c) none (some (.int .i64 (k : Int))) none).run Try.prog W = .ok (.slice a k c) W := fun W => sl27_h a N c k (by omega) W
  have t3 : Sl cv 2 w (.slice a k c) (cs.take k) := h.head k (by omega)
  have kk : Kept (fun _ => False) w ((((W.setCell ⟨B4, 0, none⟩ (.int .i64 kd)).setCell ⟨B4, 1, none⟩ (.slice a k c)).setCell ⟨B5, 0, none⟩ (.int .i64 kd)).setCell ⟨B5, 1, none⟩ (.slice ua UL uc)) := hk0.trans (Kept.four W B4 B5 (.int .i64 kd) (.slice a k c) (.int .i64 kd) (.slice ua UL uc)) (fun i e => .inr (by rcases e with e | e <;> rw [e]; exact hne.2.2.2.1; exact hne.2.2.2.2))
  have k4 := Kept.two W B4 (.int .i64 kd) (.slice a k c)
  have k5 := Kept.two ((W.setCell ⟨B4, 0, none⟩ (.int .i64 kd)).setCell ⟨B4, 1, none⟩ (.slice a k c)) B5 (.int .i64 kd) (.slice ua UL uc)
  have b4 := (hc4.two (.int .i64 kd) (.slice a k c)).kept k5 hne.2.2.1
  have b5 := (hc5.kept k4 (fun e => hne.2.2.1 e.symm)).two (.int .i64 kd) (.slice ua UL uc)
  have HF : Hid (∀ V, Kept (fun _ => False) ((((W.setCell ⟨B4, 0, none⟩ (.int .i64 kd)).setCell ⟨B4, 1, none⟩ (.slice a k c)).setCell ⟨B5, 0, none⟩ (.int .i64 kd)).setCell ⟨B5, 1, none⟩ (.slice ua UL uc)) V → ((loadVar 29 ⟨B4, 0, none⟩).run Try.prog V = .ok (rpg kd (.slice a k c)) V) ∧ ((loadVar 29 ⟨B5, 0, none⟩).run Try.prog V = .ok (rpg kd (.slice ua UL uc)) V) ∧ Sl cv 2 V (.slice a k c) (cs.take k) ∧ Sl cv 2 V (.slice ua UL uc) (cs.drop k) ∧ Kept (fun _ => False) w V) := fun V kV => ⟨load29 ((b4.step kV).cell rfl) ((b4.step kV).cell rfl), load29 ((b5.step kV).cell rfl) ((b5.step kV).cell rfl), (t3.step cv_ne kk).step cv_ne kV, (t2.step cv_ne kk).step cv_ne kV, kk.trans kV (fun _ z => z.elim)⟩
  have d0 := hc2.cell (i := 0) rfl
  have d1 := hc2.cell (i := 1) rfl
  have g0 := hc4.cell (i := 0) rfl
  have g1 := hc4.cell (i := 1) rfl
  have gf := hc4.fz
  have HB4 := hc4.two (.int .i64 kd) (.slice a k c)
  have f5 := hc5.kept k4 (fun e => hne.2.2.1 e.symm)
  have f0 := f5.cell (i := 0) rfl
  have f1 := f5.cell (i := 1) rfl
  have ff := f5.fz
  have hS0 : W.drew.cell? ⟨B2, 0, none⟩ = some (.int .i64 kd) ∧ W.drew.cell? ⟨B2, 1, none⟩ = some (.slice a N c) := ⟨d0, d1⟩
  have HS4 : Hid (((W.setCell ⟨B4, 0, none⟩ (.int .i64 kd)).setCell ⟨B4, 1, none⟩ (.slice a k c)).drew.cell? ⟨B2, 0, none⟩ = some (.int .i64 kd) ∧ ((W.setCell ⟨B4, 0, none⟩ (.int .i64 kd)).setCell ⟨B4, 1, none⟩ (.slice a k c)).drew.cell? ⟨B2, 1, none⟩ = some (.slice a N c)) := ⟨(hc2.kept k4 hne.1).cell rfl, (hc2.kept k4 hne.1).cell rfl⟩
  have HS5 : Hid (((((W.setCell ⟨B4, 0, none⟩ (.int .i64 kd)).setCell ⟨B4, 1, none⟩ (.slice a k c)).setCell ⟨B5, 0, none⟩ (.int .i64 kd)).setCell ⟨B5, 1, none⟩ (.slice ua UL uc)).drew.cell? ⟨B2, 0, none⟩ = some (.int .i64 kd) ∧ ((((W.setCell ⟨B4, 0, none⟩ (.int .i64 kd)).setCell ⟨B4, 1, none⟩ (.slice a k c)).setCell ⟨B5, 0, none⟩ (.int .i64 kd)).setCell ⟨B5, 1, none⟩ (.slice ua UL uc)).drew.cell? ⟨B2, 1, none⟩ = some (.slice a N c)) := ⟨((hc2.kept k4 hne.1).kept k5 hne.2.1).cell rfl, ((hc2.kept k4 hne.1).kept k5 hne.2.1).cell rfl⟩
  have c1 : ¬ (k : Int) < 0 := by omega
  have c2 : ¬ (N : Int) < (k : Int) := by omega
  clear hUL h hW hB2 hB4 hB5 hk0 hc2 hc4 hc5 hN hNC t2 t3 kk k4 k5 b4 b5 HB4 f5 s1 s2 hne hk
  go_enter Try.func32, Try.ntmps32
  go_upto_region 1 with fail
  rw [HW.out.1, HW.out.2.1, HW.out.2.2.1, HW.out.2.2.2]
  clear HW
  go_upto_region 3 with fail
  go_region_held (fun (w' : World) => w'.cell? ⟨B2, 0, none⟩ = some (.int .i64 kd) ∧ w'.cell? ⟨B2, 1, none⟩ = some (.slice a N c)) (first | (with_reducible assumption) | (with_reducible exact HS4.out) | (with_reducible exact HS5.out)) (fail)
  go_wp2_with fail
  have hF := HF.out ((((W.setCell ⟨B4, 0, none⟩ (.int .i64 kd)).setCell ⟨B4, 1, none⟩ (.slice a k c)).setCell ⟨B5, 0, none⟩ (.int .i64 kd)).setCell ⟨B5, 1, none⟩ (.slice ua UL uc)).drew ⟨rfl, rfl, rfl, by simp, fun _ _ _ => rfl⟩
  refine bodyPost_ret (end_two rfl rfl rfl hF.1 hF.2.1) rfl ?_
  exact ⟨_, rfl, hF.2.2⟩
set_option maxHeartbeats 4000000 in
theorem rsplit_no {w : World} (kd : Int) (a : Option Addr) (N c : Nat) (k : Int) (hk : k < 0 ∨ (N : Int) < k) : Calls Try.prog 32 #[rpg kd (.slice a N c), .int .i64 k] w fun e w' => e = .returned (.tuple #[rpg kd (.slice a N c), rpg 0 (.slice none 0 0), .int .i64 1]) ∧ Kept (fun _ => False) w w' := by
  obtain ⟨W, hW⟩ : ∃ W, ((w.alloc (.cells #[.int .i64 kd, .slice a N c] 29)).alloc (.cells #[.int .i64 0, .slice none 0 0] 29)).alloc (.cells #[.int .i64 0, .slice none 0 0] 29) = W := ⟨_, rfl⟩
  obtain ⟨B2, hB2⟩ : ∃ B, w.heap.size = B := ⟨_, rfl⟩
  obtain ⟨B4, hB4⟩ : ∃ B, w.heap.size + 1 = B := ⟨_, rfl⟩
  obtain ⟨B5, hB5⟩ : ∃ B, w.heap.size + 1 + 1 = B := ⟨_, rfl⟩
  have HW : Hid (((w.alloc (.cells #[.int .i64 kd, .slice a N c] 29)).alloc (.cells #[.int .i64 0, .slice none 0 0] 29)).alloc (.cells #[.int .i64 0, .slice none 0 0] 29) = W ∧ w.heap.size = B2 ∧ B2 + 1 = B4 ∧ B4 + 1 = B5) := ⟨hW, hB2, by omega, by omega⟩
  have hk0 : Kept (fun _ => False) w W := hW ▸ (((Kept.refl _ w).alloc _).alloc _).alloc _
  have s1 : (w.alloc (.cells #[.int .i64 kd, .slice a N c] 29)).heap.size = w.heap.size + 1 := by simp
  have s2 : ((w.alloc (.cells #[.int .i64 kd, .slice a N c] 29)).alloc (.cells #[.int .i64 0, .slice none 0 0] 29)).heap.size = w.heap.size + 1 + 1 := by simp
  have hc2 : Blk W B2 29 [.int .i64 kd, .slice a N c] := by
    rw [← hW, ← hB2]
    exact (Blk.new w 29 [.int .i64 kd, .slice a N c]).step (((Kept.refl _ _).alloc _).alloc _)
  have hc4 : Blk W B4 29 [.int .i64 0, .slice none 0 0] := by
    have := Blk.new (w.alloc (.cells #[.int .i64 kd, .slice a N c] 29)) 29 [.int .i64 0, .slice none 0 0]
    rw [s1, hB4] at this
    rw [← hW]
    exact this.step ((Kept.refl _ _).alloc _)
  have hc5 : Blk W B5 29 [.int .i64 0, .slice none 0 0] := by
    have := Blk.new ((w.alloc (.cells #[.int .i64 kd, .slice a N c] 29)).alloc (.cells #[.int .i64 0, .slice none 0 0] 29)) 29 [.int .i64 0, .slice none 0 0]
    rw [s2, hB5] at this
    rw [← hW]
    exact this
  have hne : B2 ≠ B4 ∧ B2 ≠ B5 ∧ B4 ≠ B5 ∧ w.heap.size ≤ B4 ∧ w.heap.size ≤ B5 := by omega
  have k4 := Kept.two W B4 (.int .i64 kd) (.slice a N c)
  have k5 := Kept.two ((W.setCell ⟨B4, 0, none⟩ (.int .i64 kd)).setCell ⟨B4, 1, none⟩ (.slice a N c)) B5 (.int .i64 0) (.slice none 0 0)
  have kk : Kept (fun _ => False) w ((((W.setCell ⟨B4, 0, none⟩ (.int .i64 kd)).setCell ⟨B4, 1, none⟩ (.slice a N c)).setCell ⟨B5, 0, none⟩ (.int .i64 0)).setCell ⟨B5, 1, none⟩ (.slice none 0 0)) := hk0.trans (Kept.four W B4 B5 (.int .i64 kd) (.slice a N c) (.int .i64 0) (.slice none 0 0)) (fun i e => .inr (by rcases e with e | e <;> rw [e]; exact hne.2.2.2.1; exact hne.2.2.2.2))
  have b4 := (hc4.two (.int .i64 kd) (.slice a N c)).kept k5 hne.2.2.1
  have f5 := hc5.kept k4 (fun e => hne.2.2.1 e.symm)
  have b5 := f5.two (.int .i64 0) (.slice none 0 0)
  have HF : Hid (((loadVar 29 ⟨B4, 0, none⟩).run Try.prog ((((W.setCell ⟨B4, 0, none⟩ (.int .i64 kd)).setCell ⟨B4, 1, none⟩ (.slice a N c)).setCell ⟨B5, 0, none⟩ (.int .i64 0)).setCell ⟨B5, 1, none⟩ (.slice none 0 0)) = .ok (rpg kd (.slice a N c)) ((((W.setCell ⟨B4, 0, none⟩ (.int .i64 kd)).setCell ⟨B4, 1, none⟩ (.slice a N c)).setCell ⟨B5, 0, none⟩ (.int .i64 0)).setCell ⟨B5, 1, none⟩ (.slice none 0 0))) ∧ ((loadVar 29 ⟨B5, 0, none⟩).run Try.prog ((((W.setCell ⟨B4, 0, none⟩ (.int .i64 kd)).setCell ⟨B4, 1, none⟩ (.slice a N c)).setCell ⟨B5, 0, none⟩ (.int .i64 0)).setCell ⟨B5, 1, none⟩ (.slice none 0 0)) = .ok (rpg 0 (.slice none 0 0)) ((((W.setCell ⟨B4, 0, none⟩ (.int .i64 kd)).setCell ⟨B4, 1, none⟩ (.slice a N c)).setCell ⟨B5, 0, none⟩ (.int .i64 0)).setCell ⟨B5, 1, none⟩ (.slice none 0 0))) ∧ Kept (fun _ => False) w ((((W.setCell ⟨B4, 0, none⟩ (.int .i64 kd)).setCell ⟨B4, 1, none⟩ (.slice a N c)).setCell ⟨B5, 0, none⟩ (.int .i64 0)).setCell ⟨B5, 1, none⟩ (.slice none 0 0))) := ⟨load29 (b4.cell rfl) (b4.cell rfl), load29 (b5.cell rfl) (b5.cell rfl), kk⟩
  have d0 := hc2.cell (i := 0) rfl
  have d1 := hc2.cell (i := 1) rfl
  have g0 := hc4.cell (i := 0) rfl
  have g1 := hc4.cell (i := 1) rfl
  have gf := hc4.fz
  have f0 := f5.cell (i := 0) rfl
  have f1 := f5.cell (i := 1) rfl
  have ff := f5.fz
  clear hW hB2 hB4 hB5 hk0 hc2 hc4 hc5 kk k4 k5 b4 b5 f5 s1 s2 hne
  by_cases c1 : k < 0
  · go_enter Try.func32, Try.ntmps32
    go_upto_region 1 with fail
    rw [HW.out.1, HW.out.2.1, HW.out.2.2.1, HW.out.2.2.2]
    clear HW
    go_wp2_with fail
    refine bodyPost_ret (end_two rfl rfl rfl HF.out.1 HF.out.2.1) rfl ?_
    exact ⟨rfl, HF.out.2.2⟩
  · have c2 : (N : Int) < k := by omega
    clear hk
    go_enter Try.func32, Try.ntmps32
    go_upto_region 1 with fail
    rw [HW.out.1, HW.out.2.1, HW.out.2.2.1, HW.out.2.2.2]
    clear HW
    go_wp2_with fail
    refine bodyPost_ret (end_two rfl rfl rfl HF.out.1 HF.out.2.1) rfl ?_
    exact ⟨rfl, HF.out.2.2⟩
end Go.Proofs.Ytehaancdadmdkaa
