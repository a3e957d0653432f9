/- The document's Put. -/
import Derived.Test.YtehaancdadmdkaaRp0
namespace Go.Proofs.Ytehaancdadmdkaa
open Go.ChangeShapes Go.WideShapes Go.ChangeAt Go.RowKit
set_option linter.unusedVariables false
set_option maxRecDepth 100000

/-- What the document's Put answers. -/
def RPutE (kd : Int) (v : Value) (cs : List Cel) (key val : ByteArray) (w : World) (e : Ending) (w' : World) : Prop :=
  (¬ mayC key val ∧ e = .returned (.tuple #[rpg kd v, .int .i64 1]) ∧ Kept (fun _ => False) w w') ∨
  (mayC key val ∧ ∃ k b, FindO cs key.data.toList k b ∧
    ((256 < 8 + 2 * (putC cs k (if b then k + 1 else k) (key.data.toList, val.data.toList)).length + tot (putC cs k (if b then k + 1 else k) (key.data.toList, val.data.toList)) ∧ e = .returned (.tuple #[rpg kd v, .int .i64 2]) ∧ Kept (fun _ => False) w w') ∨
     (8 + 2 * (putC cs k (if b then k + 1 else k) (key.data.toList, val.data.toList)).length + tot (putC cs k (if b then k + 1 else k) (key.data.toList, val.data.toList)) ≤ 256 ∧ ∃ u, e = .returned (.tuple #[rpg kd u, .int .i64 0]) ∧ Sl cv 2 w' u (putC cs k (if b then k + 1 else k) (key.data.toList, val.data.toList)) ∧ Kept (fun _ => False) w w')))
set_option maxHeartbeats 4000000 in
theorem rput_is {w : World} (kd : Int) (a : Option Addr) (N c : Nat) (cs : List Cel) (hN : cs.length = N) (h : Sl cv 2 w (.slice a N c) cs) (h1 : N ≤ 300) (h2 : tot cs ≤ 1000) (hr : ris cs) (key val : ByteArray) (hk : key.size ≤ 1000) (hv : val.size ≤ 1000) : Calls Try.prog 34 #[rpg kd (.slice a N c), .string key, .string val] w fun e w' => RPutE kd (.slice a N c) cs key val w e w' := by
  obtain ⟨W, hW⟩ : ∃ W, (w.alloc (.cells #[.int .i64 kd, .slice a N c] 29)).alloc (.cells #[.int .i64 0, .slice none 0 0] 29) = W := ⟨_, rfl⟩
  obtain ⟨B3, hB3⟩ : ∃ B, w.heap.size = B := ⟨_, rfl⟩
  obtain ⟨B6, hB6⟩ : ∃ B, w.heap.size + 1 = B := ⟨_, rfl⟩
  have HW : Hid ((w.alloc (.cells #[.int .i64 kd, .slice a N c] 29)).alloc (.cells #[.int .i64 0, .slice none 0 0] 29) = W ∧ w.heap.size = B3 ∧ w.heap.size + 1 = B6) := ⟨hW, hB3, hB6⟩
  have hk0 : Kept (fun _ => False) w W := hW ▸ ((Kept.refl _ w).alloc _).alloc _
  have hc3 : CellsF W B3 [.int .i64 kd, .slice a N c] := by
    rw [← hW, ← hB3]
    exact (CellsF.new w [.int .i64 kd, .slice a N c] 29 (by simp)).step ((Kept.refl _ _).alloc _)
  have hc6 : CellsF W B6 [.int .i64 0, .slice none 0 0] := by
    have := CellsF.new (w.alloc (.cells #[.int .i64 kd, .slice a N c] 29)) [.int .i64 0, .slice none 0 0] 29 (by simp)
    rw [show (w.alloc (.cells #[.int .i64 kd, .slice a N c] 29)).heap.size = w.heap.size + 1 by simp, hB6] at this
    rw [← hW]
    exact this
  have HS0 : Hid (CellsF W B3 [.int .i64 kd, .slice a N c] ∧ CellsF W B6 [.int .i64 0, .slice none 0 0] ∧ Sl cv 2 W (.slice a N c) cs ∧ Kept (fun _ => False) w W ∧ w.heap.size ≤ B3 ∧ w.heap.size ≤ B6 ∧ B3 ≠ B6) := ⟨hc3, hc6, h.step cv_ne hk0, hk0, by omega, by omega, by omega⟩
  have HN : Hid (cs.length = N ∧ N ≤ 300 ∧ tot cs ≤ 1000 ∧ key.size ≤ 1000 ∧ val.size ≤ 1000) := ⟨hN, h1, h2, hk, hv⟩
  have HNC : Hid (N ≤ c) := by obtain ⟨a', c', e, _, q, _⟩ := h; cases e; rw [← hN]; exact q
  have HMC : Hid (∀ V, Calls Try.prog 29 #[.string key, .string val] V fun e w' => e = .returned (.bool (decide (mayC key val))) ∧ Hid (Kept (fun _ => False) V w')) := fun V => rmay_is key val hk hv V
  have HFI : Hid (∀ V, Sl cv 2 V (.slice a N c) cs → Calls Try.prog 33 #[rpg kd (.slice a N c), .string key] V fun e w' => FindE cs key.data.toList V e w') := fun V hV => rfind_is kd a N c cs hN hV (by omega) hr key
  clear h hW hB3 hB6 hk0 hc3 hc6 hN hr hk hv
  by_cases hm : mayC key val
  · have HM : Hid (mayC key val) := hm
    rw [decide_eq_true hm] at HMC
    clear hm
    go_enter Try.func34, Try.ntmps34
    go_wp2_with fail
    rw [HW.out.1, HW.out.2.1, (show B3 + 1 = B6 from HW.out.2.1 ▸ HW.out.2.2)]
    refine Calls.mono (HMC.out _) ?_; rintro e w1 ⟨rfl, k1⟩
    have HS1 : Hid (CellsF w1 B3 [.int .i64 kd, .slice a N c] ∧ CellsF w1 B6 [.int .i64 0, .slice none 0 0] ∧ Sl cv 2 w1 (.slice a N c) cs ∧ Kept (fun _ => False) w w1 ∧ w.heap.size ≤ B3 ∧ w.heap.size ≤ B6 ∧ B3 ≠ B6) := ⟨HS0.out.1.step k1.out, HS0.out.2.1.step k1.out, HS0.out.2.2.1.step cv_ne k1.out, HS0.out.2.2.2.1.trans k1.out (fun _ z => z.elim), HS0.out.2.2.2.2⟩
    have d0 := HS1.out.1.cs 0 _ rfl
    have d1 := HS1.out.1.cs 1 _ rfl
    clear HS0 k1 HMC HW
    go_wp2_with fail
    refine Calls.mono (HFI.out _ HS1.out.2.2.1) ?_; rintro e w2 ⟨k, b, rfl, hfo, k2⟩
    have HFO : Hid (FindO cs key.data.toList k b) := hfo
    have HFK : Hid (k ≤ N ∧ (b = true → k < N)) := ⟨by have := hfo.1; have := HN.out.1; omega, fun e => by obtain ⟨q, _⟩ := hfo.2.2.2.1 e; have := HN.out.1; omega⟩
    have HS2 : Hid (CellsF w2 B3 [.int .i64 kd, .slice a N c] ∧ CellsF w2 B6 [.int .i64 0, .slice none 0 0] ∧ Sl cv 2 w2 (.slice a N c) cs ∧ Kept (fun _ => False) w w2 ∧ w.heap.size ≤ B3 ∧ w.heap.size ≤ B6 ∧ B3 ≠ B6) := ⟨HS1.out.1.step k2, HS1.out.2.1.step k2, HS1.out.2.2.1.step cv_ne k2, HS1.out.2.2.2.1.trans k2 (fun _ z => z.elim), HS1.out.2.2.2.2⟩
    clear d0 d1 HS1 hfo k2 HFI
    cases b with
    | false =>
      have hrl : k ≤ N := by have := HFK.out.1; omega
      obtain ⟨v1, w3, v2, w4, r1, r2, r3, r4, r5⟩ := put_run HS2.out.2.2.1 k (k) (by have := HFK.out.1; have := HN.out.1; omega) (key.data.toList, val.data.toList) (by have := HN.out.1; have := HN.out.2.1; omega)
      have hkey : (⟨key.data.toList.toArray⟩ : ByteArray) = key := rfl
      have hval : (⟨val.data.toList.toArray⟩ : ByteArray) = val := rfl
      rw [hkey, hval] at r3
      obtain ⟨u, t1, t2⟩ := sl27_l HS2.out.2.2.1 (k) hrl HN.out.1
      skip
      obtain ⟨v3, w5, s1, s2, s3, s4⟩ := r5 u t2
      have t0 : ∀ W : World, (Instr.sliceAt 27 (.slice a N c) none (some (.int .i64 (k : Int))) none).run Try.prog W = .ok (.slice a k c) W := fun W => sl27_h a N c k (by have := HFK.out.1; have := HNC.out; omega) W
      have y2 := HS2.out.1.cs 1 _ rfl
      have y4 := (HS2.out.1.step r4).cs 1 _ rfl
      have HS5 : Hid (CellsF w5 B3 [.int .i64 kd, .slice a N c] ∧ CellsF w5 B6 [.int .i64 0, .slice none 0 0] ∧ Sl cv 2 w5 (.slice a N c) cs ∧ Kept (fun _ => False) w w5 ∧ w.heap.size ≤ B3 ∧ w.heap.size ≤ B6 ∧ B3 ≠ B6) := ⟨HS2.out.1.step s3, HS2.out.2.1.step s3, HS2.out.2.2.1.step cv_ne s3, HS2.out.2.2.2.1.trans s3 (fun _ z => z.elim), HS2.out.2.2.2.2⟩
      obtain ⟨P, hP⟩ : ∃ P, putC cs k (k) (key.data.toList, val.data.toList) = P := ⟨_, rfl⟩
      rw [hP] at s2 s4
      obtain ⟨a5, c5, hv5⟩ := s2.shape
      subst hv5
      have hPl : P.length ≤ N + 1 := by rw [← hP]; unfold putC; rw [List.length_append, List.length_append, List.length_take, List.length_drop]; have := HN.out.1; simp only [List.length_cons, List.length_nil]; have := HFK.out.1; omega
      have hPt : tot P ≤ tot cs + (key.size + val.size) := by rw [← hP]; exact putC_tot cs k (k) key val (by omega)
      have HPU : Hid (putC cs k (k) (key.data.toList, val.data.toList) = P) := hP
      obtain ⟨PN, hPN⟩ : ∃ PN, P.length = PN := ⟨_, rfl⟩
      rw [hPN] at s1 s2 hPl s4
      have HS4 : Hid ((∀ w', (∀ g, w2.heap.size ≤ g → w'.heap[g]? = w5.heap[g]?) → Sl cv 2 w' (.slice a5 PN c5) P) ∧ B3 < w2.heap.size ∧ B6 < w2.heap.size) := ⟨s4, HS2.out.1.lt, HS2.out.2.1.lt⟩
      have HSZ : Hid (Calls Try.prog 53 #[.slice a5 PN c5] w5 fun e w' => e = .returned (.int .i64 ((8 + 2 * PN + tot P : Nat) : Int)) ∧ ∃ m, w' = w5.drewN m) := rsize_is a5 PN c5 P hPN s2 (by have := HN.out.2.1; omega) (by have := HN.out.2.2; omega)
      have RA1 : Hid ((Builtin.append_ #[27, 27] 27 #[.slice none 0 0, .slice a k c]).run Try.prog w2 = .ok v1 w3) := r1
      have RA2 : Hid ((Builtin.append_ #[27, 27] 27 #[v1, .slice (some ⟨w3.heap.size, 0, none⟩) 1 1]).run Try.prog (w3.alloc (.cells #[.string key, .string val] 74)) = .ok v2 w4) := r3
      have RA3 : Hid ((Builtin.append_ #[27, 27] 27 #[v2, u]).run Try.prog w4 = .ok (.slice a5 PN c5) w5) := s1
      obtain ⟨T, hT⟩ : ∃ T, 8 + 2 * PN + tot P = T := ⟨_, rfl⟩
      have HT : Hid (8 + 2 * P.length + tot P = T) := by show _ = _; rw [hPN]; exact hT
      have hTb : T ≤ 5000 := by have := HN.out; omega
      rw [hT] at HSZ
      have hkb : (k : Int) + 1 ≤ 1000 := by have := HFK.out.1; have := HN.out.2.1; omega
      clear hkey hval r1 r2 r3 r4 r5 s1 s2 s3 s4 t2 hrl hP hPl hPt hPN hT HS2
      go_wp2_with (first | ((with_reducible apply st_append (x := .tmp 22)); (case ho => rfl); (case hgd => rfl); (case hr => exact RA1.out)) | ((with_reducible apply st_append (x := .tmp 28)); (case ho => rfl); (case hgd => rfl); (case hr => exact RA2.out)) | ((with_reducible apply st_append (x := .tmp 37)); (case ho => rfl); (case hgd => rfl); (case hr => exact RA3.out)))
      refine Calls.mono HSZ.out ?_; rintro e w6 ⟨rfl, m6, hw6⟩
      have k6 : Kept (fun _ => False) w5 w6 := by rw [hw6]; exact (Kept.refl _ _).drewN m6
      have HS6 : Hid (CellsF w6 B3 [.int .i64 kd, .slice a N c] ∧ CellsF w6 B6 [.int .i64 0, .slice none 0 0] ∧ Sl cv 2 w6 (.slice a N c) cs ∧ Kept (fun _ => False) w w6 ∧ w.heap.size ≤ B3 ∧ w.heap.size ≤ B6 ∧ B3 ≠ B6) := ⟨HS5.out.1.step k6, HS5.out.2.1.step k6, HS5.out.2.2.1.step cv_ne k6, HS5.out.2.2.2.1.trans k6 (fun _ z => z.elim), HS5.out.2.2.2.2⟩
      have HSP : Hid ((∀ w', (∀ g, w2.heap.size ≤ g → w'.heap[g]? = w6.heap[g]?) → Sl cv 2 w' (.slice a5 PN c5) P) ∧ B3 < w2.heap.size ∧ B6 < w2.heap.size) := ⟨fun w' hw => HS4.out.1 w' (fun g hg => (hw g hg).trans (by rw [hw6]; rfl)), HS4.out.2⟩
      clear HS5 HS4 HSZ hw6 k6 RA1 RA2 RA3 t0 t1 y2 y4
      by_cases cT : (256 : Int) < (T : Int)
      · have HX : Hid (256 < 8 + 2 * P.length + tot P) := by have := HT.out; show 256 < _; omega
        obtain ⟨w9, hw9⟩ : ∃ w9, (w6.setCell ⟨B6, 0, none⟩ (.int .i64 kd)).setCell ⟨B6, 1, none⟩ (.slice a N c) = w9 := ⟨_, rfl⟩
        have HW9 : Hid ((w6.setCell ⟨B6, 0, none⟩ (.int .i64 kd)).setCell ⟨B6, 1, none⟩ (.slice a N c) = w9) := hw9
        have hcc := (HS6.out.2.1.set 0 (.int .i64 kd) (by simp)).set 1 (.slice a N c) (by simp)
        rw [hw9] at hcc
        have HL : Hid ((loadVar 29 ⟨B6, 0, none⟩).run Try.prog w9 = .ok (rpg kd (.slice a N c)) w9) := load29 (hcc.cs 0 _ rfl) (hcc.cs 1 _ rfl)
        have HE : Hid (Kept (fun _ => False) w w9) := by show Kept _ _ _; rw [← hw9]; exact HS6.out.2.2.2.1.put2 HS6.out.2.2.2.2.2.1 _ _
        have d0 := HS6.out.1.cs 0 _ rfl
        have d1 := HS6.out.1.cs 1 _ rfl
        have g0 := HS6.out.2.1.cs 0 _ rfl
        have g1 := HS6.out.2.1.cs 1 _ rfl
        have gf := HS6.out.2.1.fz
        clear hw9 hcc HS6

        go_wp2_with fail
        rw [HW9.out]
        refine bodyPost_ret (end_cell_tmp rfl rfl HL.out) rfl ?_
        refine .inr ⟨HM.out, k, false, HFO.out, ?_⟩
        rw [if_neg (by decide), HPU.out]
        exact .inl ⟨HX.out, rfl, HE.out⟩
      · have HX : Hid (8 + 2 * P.length + tot P ≤ 256) := by have := HT.out; show _ ≤ 256; omega
        obtain ⟨w7, hw7⟩ : ∃ w7, w6.setCell ⟨B3, 1, none⟩ (.slice a5 PN c5) = w7 := ⟨_, rfl⟩
        have HW7 : Hid (w6.setCell ⟨B3, 1, none⟩ (.slice a5 PN c5) = w7) := hw7
        have hc3 := HS6.out.1.set 1 (.slice a5 PN c5) (by simp)
        rw [hw7] at hc3
        have k7 : Kept (fun i => i = B3) w6 w7 := by rw [← hw7]; exact Kept.setCell (F := fun i => i = B3) (p := ⟨B3, 1, none⟩) (Kept.refl _ _) (.inl rfl) _
        have hc6 := HS6.out.2.1.kept k7 (fun e => HS6.out.2.2.2.2.2.2 e.symm)
        obtain ⟨w9, hw9⟩ : ∃ w9, (w7.setCell ⟨B6, 0, none⟩ (.int .i64 kd)).setCell ⟨B6, 1, none⟩ (.slice a5 PN c5) = w9 := ⟨_, rfl⟩
        have HW9 : Hid ((w7.setCell ⟨B6, 0, none⟩ (.int .i64 kd)).setCell ⟨B6, 1, none⟩ (.slice a5 PN c5) = w9) := hw9
        have hcc := (hc6.set 0 (.int .i64 kd) (by simp)).set 1 (.slice a5 PN c5) (by simp)
        rw [hw9] at hcc
        have HL : Hid ((loadVar 29 ⟨B6, 0, none⟩).run Try.prog w9 = .ok (rpg kd (.slice a5 PN c5)) w9) := load29 (hcc.cs 0 _ rfl) (hcc.cs 1 _ rfl)
        have k9 : Kept (fun i => i = B3 ∨ i = B6) w6 w9 := by
          rw [← hw9, ← hw7]
          exact Kept.setCell (p := ⟨B6, 1, none⟩) (Kept.setCell (p := ⟨B6, 0, none⟩) (Kept.setCell (p := ⟨B3, 1, none⟩) (Kept.refl _ _) (.inl (.inl rfl)) _) (.inl (.inr rfl)) _) (.inl (.inr rfl)) _
        have k9b : ∀ g, g ≠ B3 → g ≠ B6 → w9.heap[g]? = w6.heap[g]? := fun g g3 g6 => by
          rw [← hw9, ← hw7]
          exact ((Below.heap_setCell _ ⟨B6, 1, none⟩ _ g g6).trans (Below.heap_setCell _ ⟨B6, 0, none⟩ _ g g6)).trans (Below.heap_setCell _ ⟨B3, 1, none⟩ _ g g3)
        have HE : Hid (Sl cv 2 w9 (.slice a5 PN c5) P ∧ Kept (fun _ => False) w w9) := ⟨HSP.out.1 w9 (fun g hg => k9b g (by have := HSP.out.2; omega) (by have := HSP.out.2; omega)), HS6.out.2.2.2.1.trans k9 (fun i e => .inr (by rcases e with e | e <;> rw [e]; exact HS6.out.2.2.2.2.1; exact HS6.out.2.2.2.2.2.1))⟩
        have e0 := HS6.out.1.cs 0 _ rfl
        have e1 := HS6.out.1.cs 1 _ rfl
        have ef := HS6.out.1.fz
        have d0 := hc3.cs 0 _ rfl
        have d1 := hc3.cs 1 _ rfl
        have g0 := hc6.cs 0 _ rfl
        have g1 := hc6.cs 1 _ rfl
        have gf := hc6.fz
        clear hw7 hw9 hcc hc3 hc6 k7 k9 k9b HS6 HSP
        go_upto_region 13 with fail
        rw [HW7.out]
        clear e0 e1 ef HW7
        go_wp2_with fail
        rw [HW9.out]
        refine bodyPost_ret (end_cell_tmp rfl rfl HL.out) rfl ?_
        refine .inr ⟨HM.out, k, false, HFO.out, ?_⟩
        rw [if_neg (by decide), HPU.out]
        exact .inr ⟨HX.out, _, rfl, HE.out⟩

    | true =>
      have hrl : k + 1 ≤ N := by have := HFK.out.1; have := HFK.out.2 rfl; omega
      obtain ⟨v1, w3, v2, w4, r1, r2, r3, r4, r5⟩ := put_run HS2.out.2.2.1 k (k + 1) (by have := HFK.out.1; have := HFK.out.2 rfl; have := HN.out.1; omega) (key.data.toList, val.data.toList) (by have := HN.out.1; have := HN.out.2.1; omega)
      have hkey : (⟨key.data.toList.toArray⟩ : ByteArray) = key := rfl
      have hval : (⟨val.data.toList.toArray⟩ : ByteArray) = val := rfl
      rw [hkey, hval] at r3
      obtain ⟨u, t1, t2⟩ := sl27_l HS2.out.2.2.1 (k + 1) hrl HN.out.1
      rw [show ((k + 1 : Nat) : Int) = (k : Int) + 1 from Int.natCast_add k 1] at t1
      obtain ⟨v3, w5, s1, s2, s3, s4⟩ := r5 u t2
      have t0 : ∀ W : World, (Instr.sliceAt 27 (.slice a N c) none (some (.int .i64 (k : Int))) none).run Try.prog W = .ok (.slice a k c) W := fun W => sl27_h a N c k (by have := HFK.out.1; have := HFK.out.2 rfl; have := HNC.out; omega) W
      have y2 := HS2.out.1.cs 1 _ rfl
      have y4 := (HS2.out.1.step r4).cs 1 _ rfl
      have HS5 : Hid (CellsF w5 B3 [.int .i64 kd, .slice a N c] ∧ CellsF w5 B6 [.int .i64 0, .slice none 0 0] ∧ Sl cv 2 w5 (.slice a N c) cs ∧ Kept (fun _ => False) w w5 ∧ w.heap.size ≤ B3 ∧ w.heap.size ≤ B6 ∧ B3 ≠ B6) := ⟨HS2.out.1.step s3, HS2.out.2.1.step s3, HS2.out.2.2.1.step cv_ne s3, HS2.out.2.2.2.1.trans s3 (fun _ z => z.elim), HS2.out.2.2.2.2⟩
      obtain ⟨P, hP⟩ : ∃ P, putC cs k (k + 1) (key.data.toList, val.data.toList) = P := ⟨_, rfl⟩
      rw [hP] at s2 s4
      obtain ⟨a5, c5, hv5⟩ := s2.shape
      subst hv5
      have hPl : P.length ≤ N + 1 := by rw [← hP]; unfold putC; rw [List.length_append, List.length_append, List.length_take, List.length_drop]; have := HN.out.1; simp only [List.length_cons, List.length_nil]; have := HFK.out.1; have := HFK.out.2 rfl; omega
      have hPt : tot P ≤ tot cs + (key.size + val.size) := by rw [← hP]; exact putC_tot cs k (k + 1) key val (by omega)
      have HPU : Hid (putC cs k (k + 1) (key.data.toList, val.data.toList) = P) := hP
      obtain ⟨PN, hPN⟩ : ∃ PN, P.length = PN := ⟨_, rfl⟩
      rw [hPN] at s1 s2 hPl s4
      have HS4 : Hid ((∀ w', (∀ g, w2.heap.size ≤ g → w'.heap[g]? = w5.heap[g]?) → Sl cv 2 w' (.slice a5 PN c5) P) ∧ B3 < w2.heap.size ∧ B6 < w2.heap.size) := ⟨s4, HS2.out.1.lt, HS2.out.2.1.lt⟩
      have HSZ : Hid (Calls Try.prog 53 #[.slice a5 PN c5] w5 fun e w' => e = .returned (.int .i64 ((8 + 2 * PN + tot P : Nat) : Int)) ∧ ∃ m, w' = w5.drewN m) := rsize_is a5 PN c5 P hPN s2 (by have := HN.out.2.1; omega) (by have := HN.out.2.2; omega)
      have RA1 : Hid ((Builtin.append_ #[27, 27] 27 #[.slice none 0 0, .slice a k c]).run Try.prog w2 = .ok v1 w3) := r1
      have RA2 : Hid ((Builtin.append_ #[27, 27] 27 #[v1, .slice (some ⟨w3.heap.size, 0, none⟩) 1 1]).run Try.prog (w3.alloc (.cells #[.string key, .string val] 74)) = .ok v2 w4) := r3
      have RA3 : Hid ((Builtin.append_ #[27, 27] 27 #[v2, u]).run Try.prog w4 = .ok (.slice a5 PN c5) w5) := s1
      obtain ⟨T, hT⟩ : ∃ T, 8 + 2 * PN + tot P = T := ⟨_, rfl⟩
      have HT : Hid (8 + 2 * P.length + tot P = T) := by show _ = _; rw [hPN]; exact hT
      have hTb : T ≤ 5000 := by have := HN.out; omega
      rw [hT] at HSZ
      have hkb : (k : Int) + 1 ≤ 1000 := by have := HFK.out.1; have := HFK.out.2 rfl; have := HN.out.2.1; omega
      clear hkey hval r1 r2 r3 r4 r5 s1 s2 s3 s4 t2 hrl hP hPl hPt hPN hT HS2
      go_wp2_with (first | ((with_reducible apply st_append (x := .tmp 22)); (case ho => rfl); (case hgd => rfl); (case hr => exact RA1.out)) | ((with_reducible apply st_append (x := .tmp 28)); (case ho => rfl); (case hgd => rfl); (case hr => exact RA2.out)) | ((with_reducible apply st_append (x := .tmp 37)); (case ho => rfl); (case hgd => rfl); (case hr => exact RA3.out)))
      refine Calls.mono HSZ.out ?_; rintro e w6 ⟨rfl, m6, hw6⟩
      have k6 : Kept (fun _ => False) w5 w6 := by rw [hw6]; exact (Kept.refl _ _).drewN m6
      have HS6 : Hid (CellsF w6 B3 [.int .i64 kd, .slice a N c] ∧ CellsF w6 B6 [.int .i64 0, .slice none 0 0] ∧ Sl cv 2 w6 (.slice a N c) cs ∧ Kept (fun _ => False) w w6 ∧ w.heap.size ≤ B3 ∧ w.heap.size ≤ B6 ∧ B3 ≠ B6) := ⟨HS5.out.1.step k6, HS5.out.2.1.step k6, HS5.out.2.2.1.step cv_ne k6, HS5.out.2.2.2.1.trans k6 (fun _ z => z.elim), HS5.out.2.2.2.2⟩
      have HSP : Hid ((∀ w', (∀ g, w2.heap.size ≤ g → w'.heap[g]? = w6.heap[g]?) → Sl cv 2 w' (.slice a5 PN c5) P) ∧ B3 < w2.heap.size ∧ B6 < w2.heap.size) := ⟨fun w' hw => HS4.out.1 w' (fun g hg => (hw g hg).trans (by rw [hw6]; rfl)), HS4.out.2⟩
      clear HS5 HS4 HSZ hw6 k6 RA1 RA2 RA3 t0 t1 y2 y4
      by_cases cT : (256 : Int) < (T : Int)
      · have HX : Hid (256 < 8 + 2 * P.length + tot P) := by have := HT.out; show 256 < _; omega
        obtain ⟨w9, hw9⟩ : ∃ w9, (w6.setCell ⟨B6, 0, none⟩ (.int .i64 kd)).setCell ⟨B6, 1, none⟩ (.slice a N c) = w9 := ⟨_, rfl⟩
        have HW9 : Hid ((w6.setCell ⟨B6, 0, none⟩ (.int .i64 kd)).setCell ⟨B6, 1, none⟩ (.slice a N c) = w9) := hw9
        have hcc := (HS6.out.2.1.set 0 (.int .i64 kd) (by simp)).set 1 (.slice a N c) (by simp)
        rw [hw9] at hcc
        have HL : Hid ((loadVar 29 ⟨B6, 0, none⟩).run Try.prog w9 = .ok (rpg kd (.slice a N c)) w9) := load29 (hcc.cs 0 _ rfl) (hcc.cs 1 _ rfl)
        have HE : Hid (Kept (fun _ => False) w w9) := by show Kept _ _ _; rw [← hw9]; exact HS6.out.2.2.2.1.put2 HS6.out.2.2.2.2.2.1 _ _
        have d0 := HS6.out.1.cs 0 _ rfl
        have d1 := HS6.out.1.cs 1 _ rfl
        have g0 := HS6.out.2.1.cs 0 _ rfl
        have g1 := HS6.out.2.1.cs 1 _ rfl
        have gf := HS6.out.2.1.fz
        clear hw9 hcc HS6

        go_wp2_with fail
        rw [HW9.out]
        refine bodyPost_ret (end_cell_tmp rfl rfl HL.out) rfl ?_
        refine .inr ⟨HM.out, k, true, HFO.out, ?_⟩
        rw [if_pos rfl, HPU.out]
        exact .inl ⟨HX.out, rfl, HE.out⟩
      · have HX : Hid (8 + 2 * P.length + tot P ≤ 256) := by have := HT.out; show _ ≤ 256; omega
        obtain ⟨w7, hw7⟩ : ∃ w7, w6.setCell ⟨B3, 1, none⟩ (.slice a5 PN c5) = w7 := ⟨_, rfl⟩
        have HW7 : Hid (w6.setCell ⟨B3, 1, none⟩ (.slice a5 PN c5) = w7) := hw7
        have hc3 := HS6.out.1.set 1 (.slice a5 PN c5) (by simp)
        rw [hw7] at hc3
        have k7 : Kept (fun i => i = B3) w6 w7 := by rw [← hw7]; exact Kept.setCell (F := fun i => i = B3) (p := ⟨B3, 1, none⟩) (Kept.refl _ _) (.inl rfl) _
        have hc6 := HS6.out.2.1.kept k7 (fun e => HS6.out.2.2.2.2.2.2 e.symm)
        obtain ⟨w9, hw9⟩ : ∃ w9, (w7.setCell ⟨B6, 0, none⟩ (.int .i64 kd)).setCell ⟨B6, 1, none⟩ (.slice a5 PN c5) = w9 := ⟨_, rfl⟩
        have HW9 : Hid ((w7.setCell ⟨B6, 0, none⟩ (.int .i64 kd)).setCell ⟨B6, 1, none⟩ (.slice a5 PN c5) = w9) := hw9
        have hcc := (hc6.set 0 (.int .i64 kd) (by simp)).set 1 (.slice a5 PN c5) (by simp)
        rw [hw9] at hcc
        have HL : Hid ((loadVar 29 ⟨B6, 0, none⟩).run Try.prog w9 = .ok (rpg kd (.slice a5 PN c5)) w9) := load29 (hcc.cs 0 _ rfl) (hcc.cs 1 _ rfl)
        have k9 : Kept (fun i => i = B3 ∨ i = B6) w6 w9 := by
          rw [← hw9, ← hw7]
          exact Kept.setCell (p := ⟨B6, 1, none⟩) (Kept.setCell (p := ⟨B6, 0, none⟩) (Kept.setCell (p := ⟨B3, 1, none⟩) (Kept.refl _ _) (.inl (.inl rfl)) _) (.inl (.inr rfl)) _) (.inl (.inr rfl)) _
        have k9b : ∀ g, g ≠ B3 → g ≠ B6 → w9.heap[g]? = w6.heap[g]? := fun g g3 g6 => by
          rw [← hw9, ← hw7]
          exact ((Below.heap_setCell _ ⟨B6, 1, none⟩ _ g g6).trans (Below.heap_setCell _ ⟨B6, 0, none⟩ _ g g6)).trans (Below.heap_setCell _ ⟨B3, 1, none⟩ _ g g3)
        have HE : Hid (Sl cv 2 w9 (.slice a5 PN c5) P ∧ Kept (fun _ => False) w w9) := ⟨HSP.out.1 w9 (fun g hg => k9b g (by have := HSP.out.2; omega) (by have := HSP.out.2; omega)), HS6.out.2.2.2.1.trans k9 (fun i e => .inr (by rcases e with e | e <;> rw [e]; exact HS6.out.2.2.2.2.1; exact HS6.out.2.2.2.2.2.1))⟩
        have e0 := HS6.out.1.cs 0 _ rfl
        have e1 := HS6.out.1.cs 1 _ rfl
        have ef := HS6.out.1.fz
        have d0 := hc3.cs 0 _ rfl
        have d1 := hc3.cs 1 _ rfl
        have g0 := hc6.cs 0 _ rfl
        have g1 := hc6.cs 1 _ rfl
        have gf := hc6.fz
        clear hw7 hw9 hcc hc3 hc6 k7 k9 k9b HS6 HSP
        go_upto_region 13 with fail
        rw [HW7.out]
        clear e0 e1 ef HW7
        go_wp2_with fail
        rw [HW9.out]
        refine bodyPost_ret (end_cell_tmp rfl rfl HL.out) rfl ?_
        refine .inr ⟨HM.out, k, true, HFO.out, ?_⟩
        rw [if_pos rfl, HPU.out]
        exact .inr ⟨HX.out, _, rfl, HE.out⟩

  · have HM : Hid (¬ mayC key val) := hm
    rw [decide_eq_false hm] at HMC
    clear hm HFI
    go_enter Try.func34, Try.ntmps34
    go_wp2_with fail
    rw [HW.out.1, HW.out.2.1, (show B3 + 1 = B6 from HW.out.2.1 ▸ HW.out.2.2)]
    refine Calls.mono (HMC.out _) ?_; rintro e w1 ⟨rfl, k1⟩
    have HS1 : Hid (CellsF w1 B3 [.int .i64 kd, .slice a N c] ∧ CellsF w1 B6 [.int .i64 0, .slice none 0 0] ∧ Sl cv 2 w1 (.slice a N c) cs ∧ Kept (fun _ => False) w w1 ∧ w.heap.size ≤ B3 ∧ w.heap.size ≤ B6 ∧ B3 ≠ B6) := ⟨HS0.out.1.step k1.out, HS0.out.2.1.step k1.out, HS0.out.2.2.1.step cv_ne k1.out, HS0.out.2.2.2.1.trans k1.out (fun _ z => z.elim), HS0.out.2.2.2.2⟩
    clear HS0 k1 HMC HW
    obtain ⟨w9, hw9⟩ : ∃ w9, (w1.setCell ⟨B6, 0, none⟩ (.int .i64 kd)).setCell ⟨B6, 1, none⟩ (.slice a N c) = w9 := ⟨_, rfl⟩
    have HW9 : Hid ((w1.setCell ⟨B6, 0, none⟩ (.int .i64 kd)).setCell ⟨B6, 1, none⟩ (.slice a N c) = w9) := hw9
    have hcc := (HS1.out.2.1.set 0 (.int .i64 kd) (by simp)).set 1 (.slice a N c) (by simp)
    rw [hw9] at hcc
    have HL : Hid ((loadVar 29 ⟨B6, 0, none⟩).run Try.prog w9 = .ok (rpg kd (.slice a N c)) w9) := load29 (hcc.cs 0 _ rfl) (hcc.cs 1 _ rfl)
    have HE : Hid (Kept (fun _ => False) w w9) := by show Kept _ _ _; rw [← hw9]; exact HS1.out.2.2.2.1.put2 HS1.out.2.2.2.2.2.1 _ _
    have d0 := HS1.out.1.cs 0 _ rfl
    have d1 := HS1.out.1.cs 1 _ rfl
    have g0 := HS1.out.2.1.cs 0 _ rfl
    have g1 := HS1.out.2.1.cs 1 _ rfl
    have gf := HS1.out.2.1.fz
    clear hw9 hcc HS1

    go_wp2_with fail
    rw [HW9.out]
    refine bodyPost_ret (end_cell_tmp rfl rfl HL.out) rfl ?_
    exact .inl ⟨HM.out, rfl, HE.out⟩
end Go.Proofs.Ytehaancdadmdkaa
