/- The document's Free and Drop. -/
import Derived.Test.YtehaancdadmdkaaRb
namespace Go.Proofs.Ytehaancdadmdkaa
open Go.ChangeShapes Go.WideShapes Go.ChangeAt Go.RowKit
set_option linter.unusedVariables false
set_option maxRecDepth 100000

set_option maxHeartbeats 2000000 in
theorem rfree_is {w : World} (kd : Int) (a : Option Addr) (N c : Nat) (cs : List Cel) (hN : cs.length = N) (h : Sl cv 2 w (.slice a N c) cs) (hok : okC cs) : Calls Try.prog 35 #[rpg kd (.slice a N c)] w fun e w' => e = .returned (.int .i64 (max 0 (246 - ((2 * N + tot cs : Nat) : Int)))) ∧ Kept (fun _ => False) w w' := by
  have hf := okC_fit hok
  obtain ⟨S, hS⟩ : ∃ S, 8 + 2 * N + tot cs = S := ⟨_, rfl⟩
  have hSb : S ≤ 1000 := by omega
  have HE : Hid ((256 : Int) - (S : Int) - 2 = 246 - ((2 * N + tot cs : Nat) : Int)) := by show _ = _; omega
  obtain ⟨W, hW⟩ : ∃ W, w.alloc (.cells #[.int .i64 kd, .slice a N c] 29) = W := ⟨_, rfl⟩
  obtain ⟨B1, hB1⟩ : ∃ B, w.heap.size = B := ⟨_, rfl⟩
  have HW : Hid (w.alloc (.cells #[.int .i64 kd, .slice a N c] 29) = W ∧ w.heap.size = B1) := ⟨hW, hB1⟩
  have hk0 : Kept (fun _ => False) w W := hW ▸ (Kept.refl _ w).alloc _
  have hb : Blk W B1 29 [.int .i64 kd, .slice a N c] := by
    have := Blk.new w 29 [.int .i64 kd, .slice a N c]
    rw [hB1] at this
    rw [← hW]; exact this
  have b1 := hb.cell (i := 1) rfl
  have HSZ : Hid (Calls Try.prog 53 #[.slice a N c] W fun e w' => e = .returned (.int .i64 (S : Int)) ∧ Hid (Kept (fun _ => False) w w')) := by
    have := rsize_is a N c cs hN (h.step cv_ne hk0) (by omega) (by omega)
    rw [hS] at this
    exact this.mono fun e w' ⟨q1, m, q2⟩ => ⟨q1, by rw [q2]; exact hk0.drewN m⟩
  rw [← HE.out]
  clear h hok hf hS hW hB1 hk0 hb HE
  go_enter Try.func35, Try.ntmps35
  go_upto_region 1 with fail
  rw [HW.out.1, HW.out.2]
  clear HW
  go_wp2_with fail
  refine Calls.mono HSZ.out ?_; rintro e w1 ⟨rfl, k1⟩
  by_cases cM : (0 : Int) < 256 - (S : Int) - 2
  · have HX : Hid (max 0 (256 - (S : Int) - 2) = 256 - (S : Int) - 2) := by show _ = _; omega
    go_wp2_with fail
    all_goals go_ret
    all_goals rw [HX.out]
    all_goals exact ⟨rfl, k1.out⟩
  · have HX : Hid (max 0 (256 - (S : Int) - 2) = 0) := by show _ = _; omega
    go_wp2_with fail
    all_goals go_ret
    all_goals rw [HX.out]
    all_goals exact ⟨rfl, k1.out⟩
/-- Two lists, one behind the other, in new memory. -/
theorem drop_run {w : World} {va : Option Addr} {L vc : Nat} {cs : List Cel} (h : Sl cv 2 w (.slice va L vc) cs) (k r : Nat) (hk : k ≤ cs.length) (hl : cs.length ≤ 400) :
    ∃ v1 w1, (Builtin.append_ #[27, 27] 27 #[.slice none 0 0, .slice va k vc]).run Try.prog w = .ok v1 w1 ∧ Kept (fun _ => False) w w1 ∧ ∀ u, Sl cv 2 w u (cs.drop r) → ∃ v3 w3, (Builtin.append_ #[27, 27] 27 #[v1, u]).run Try.prog w1 = .ok v3 w3 ∧ Kept (fun _ => False) w w3 ∧ ∀ w', (∀ g, w.heap.size ≤ g → w'.heap[g]? = w3.heap[g]?) → Sl cv 2 w' v3 (cs.take k ++ cs.drop r) := by
  obtain ⟨v1, w1, a1, a2, a3, a4⟩ := appC_is (w := w) (v := .slice none 0 0) (l := []) (l' := cs.take k) (World.ownsRow_nil _ _ _ _) (.slice va k vc) (h.head _ hk) (by rw [List.nil_append, List.length_take]; omega)
  have b1 : Kept (fun _ => False) w w1 := (Kept.refl _ w).grown a3 (fun q hq => by cases hq)
  have o1 : ∀ g, v1.ownBlock = some g → False ∨ w.heap.size ≤ g := fun g hg => .inr (by
    rcases a4 with e | e
    · rw [e] at hg; cases hg
    · rw [e] at hg; cases hg; exact Nat.le_refl _)
  rw [List.nil_append] at a2
  refine ⟨v1, w1, a1, b1, fun u hu => ?_⟩
  obtain ⟨v3, w3, d1, d2, d3, d4⟩ := appC_is a2 u (hu.step cv_ne b1) (by rw [List.length_append, List.length_take, List.length_drop]; omega)
  have o3 : ∀ g, v3.ownBlock = some g → w.heap.size ≤ g := fun g hg => by
    rcases d4 with e | e
    · rw [e] at hg; exact (o1 g hg).resolve_left (fun z => z)
    · rw [e] at hg; cases hg; exact b1.size
  exact ⟨v3, w3, d1, b1.grown d3 o1, fun w' hw => own_rw cv_len (ownsRow_kept d2 (fun g hg => hw g (o3 g hg)))⟩
/-- What the document's Drop answers. -/
def RDropE (kd : Int) (v : Value) (cs : List Cel) (key : ByteArray) (w : World) (e : Ending) (w' : World) : Prop :=
  ∃ k b, FindO cs key.data.toList k b ∧ ((b = false ∧ e = .returned (.tuple #[rpg kd v, .int .i64 3]) ∧ Kept (fun _ => False) w w') ∨ (b = true ∧ ∃ u, e = .returned (.tuple #[rpg kd u, .int .i64 0]) ∧ Sl cv 2 w' u (cs.take k ++ cs.drop (k + 1)) ∧ Kept (fun _ => False) w w'))
set_option maxHeartbeats 4000000 in
theorem rdrop_is {w : World} (kd : Int) (a : Option Addr) (N c : Nat) (cs : List Cel) (hN : cs.length = N) (h : Sl cv 2 w (.slice a N c) cs) (h1 : N ≤ 300) (hr : ris cs) (key : ByteArray) : Calls Try.prog 31 #[rpg kd (.slice a N c), .string key] w fun e w' => RDropE kd (.slice a N c) cs key w e w' := by
  obtain ⟨W, hW⟩ : ∃ W, (w.alloc (.cells #[.int .i64 kd, .slice a N c] 29)).alloc (.cells #[.int .i64 0, .slice none 0 0] 29) = W := ⟨_, rfl⟩
  obtain ⟨B2, hB2⟩ : ∃ B, w.heap.size = B := ⟨_, rfl⟩
  obtain ⟨B4, hB4⟩ : ∃ B, w.heap.size + 1 = B := ⟨_, rfl⟩
  have HW : Hid ((w.alloc (.cells #[.int .i64 kd, .slice a N c] 29)).alloc (.cells #[.int .i64 0, .slice none 0 0] 29) = W ∧ w.heap.size = B2 ∧ w.heap.size + 1 = B4) := ⟨hW, hB2, hB4⟩
  have hk0 : Kept (fun _ => False) w W := hW ▸ ((Kept.refl _ w).alloc _).alloc _
  have hc2 : CellsF W B2 [.int .i64 kd, .slice a N c] := by
    rw [← hW, ← hB2]
    exact (CellsF.new w [.int .i64 kd, .slice a N c] 29 (by simp)).step ((Kept.refl _ _).alloc _)
  have hc4 : CellsF W B4 [.int .i64 0, .slice none 0 0] := by
    have := CellsF.new (w.alloc (.cells #[.int .i64 kd, .slice a N c] 29)) [.int .i64 0, .slice none 0 0] 29 (by simp)
    rw [show (w.alloc (.cells #[.int .i64 kd, .slice a N c] 29)).heap.size = w.heap.size + 1 by simp, hB4] at this
    rw [← hW]
    exact this
  have HS0 : Hid (CellsF W B2 [.int .i64 kd, .slice a N c] ∧ CellsF W B4 [.int .i64 0, .slice none 0 0] ∧ Sl cv 2 W (.slice a N c) cs ∧ Kept (fun _ => False) w W ∧ w.heap.size ≤ B2 ∧ w.heap.size ≤ B4 ∧ B2 ≠ B4) := ⟨hc2, hc4, h.step cv_ne hk0, hk0, by omega, by omega, by omega⟩
  have HN : Hid (cs.length = N ∧ N ≤ 300) := ⟨hN, h1⟩
  have HNC : Hid (N ≤ c) := by obtain ⟨a', c', e, _, q, _⟩ := h; cases e; rw [← hN]; exact q
  have HFI : Hid (∀ V, Sl cv 2 V (.slice a N c) cs → Calls Try.prog 33 #[rpg kd (.slice a N c), .string key] V fun e w' => FindE cs key.data.toList V e w') := fun V hV => rfind_is kd a N c cs hN hV (by omega) hr key
  have d0 := hc2.cs 0 _ rfl
  have d1 := hc2.cs 1 _ rfl
  clear h hW hB2 hB4 hk0 hc2 hc4 hN hr
  go_enter Try.func31, Try.ntmps31
  go_upto_region 1 with fail
  rw [HW.out.1, HW.out.2.1, (show B2 + 1 = B4 from HW.out.2.1 ▸ HW.out.2.2)]
  clear HW
  go_wp2_with fail
  refine Calls.mono (HFI.out _ HS0.out.2.2.1) ?_; rintro e w2 ⟨k, b, rfl, hfo, k2⟩
  have HFO : Hid (FindO cs key.data.toList k b) := hfo
  have HFK : Hid (k ≤ N ∧ (b = true → k < N)) := ⟨by have := hfo.1; have := HN.out.1; omega, fun e => by obtain ⟨q, _⟩ := hfo.2.2.2.1 e; have := HN.out.1; omega⟩
  have HS2 : Hid (CellsF w2 B2 [.int .i64 kd, .slice a N c] ∧ CellsF w2 B4 [.int .i64 0, .slice none 0 0] ∧ Sl cv 2 w2 (.slice a N c) cs ∧ Kept (fun _ => False) w w2 ∧ w.heap.size ≤ B2 ∧ w.heap.size ≤ B4 ∧ B2 ≠ B4) := ⟨HS0.out.1.step k2, HS0.out.2.1.step k2, HS0.out.2.2.1.step cv_ne k2, HS0.out.2.2.2.1.trans k2 (fun _ z => z.elim), HS0.out.2.2.2.2⟩
  clear d0 d1 HS0 hfo k2 HFI
  cases b with
  | false =>
    obtain ⟨w9, hw9⟩ : ∃ w9, (w2.setCell ⟨B4, 0, none⟩ (.int .i64 kd)).setCell ⟨B4, 1, none⟩ (.slice a N c) = w9 := ⟨_, rfl⟩
    have HW9 : Hid ((w2.setCell ⟨B4, 0, none⟩ (.int .i64 kd)).setCell ⟨B4, 1, none⟩ (.slice a N c) = w9) := hw9
    have hcc := (HS2.out.2.1.set 0 (.int .i64 kd) (by simp)).set 1 (.slice a N c) (by simp)
    rw [hw9] at hcc
    have HL : Hid ((loadVar 29 ⟨B4, 0, none⟩).run Try.prog w9 = .ok (rpg kd (.slice a N c)) w9) := load29 (hcc.cs 0 _ rfl) (hcc.cs 1 _ rfl)
    have HE : Hid (Kept (fun _ => False) w w9) := by show Kept _ _ _; rw [← hw9]; exact HS2.out.2.2.2.1.put2 HS2.out.2.2.2.2.2.1 _ _
    have d0 := HS2.out.1.cs 0 _ rfl
    have d1 := HS2.out.1.cs 1 _ rfl
    have g0 := HS2.out.2.1.cs 0 _ rfl
    have g1 := HS2.out.2.1.cs 1 _ rfl
    have gf := HS2.out.2.1.fz
    clear hw9 hcc HS2
    go_wp2_with fail
    rw [HW9.out]
    refine bodyPost_ret (end_cell_tmp rfl rfl HL.out) rfl ?_
    exact ⟨k, false, HFO.out, .inl ⟨rfl, rfl, HE.out⟩⟩
  | true =>
    have hrl : k + 1 ≤ N := by have := HFK.out.2 rfl; omega
    obtain ⟨v1, w3, r1, r2, r3⟩ := drop_run HS2.out.2.2.1 k (k + 1) (by have := HN.out.1; omega) (by have := HN.out.1; have := HN.out.2; omega)
    obtain ⟨u, t1, t2⟩ := sl27_l HS2.out.2.2.1 (k + 1) hrl HN.out.1
    rw [show ((k + 1 : Nat) : Int) = (k : Int) + 1 from Int.natCast_add k 1] at t1
    obtain ⟨v3, w5, s1, s3, s4⟩ := r3 u t2
    have t0 : ∀ W : World, (Instr.sliceAt 27 (.slice a N c) none (some (.int .i64 (k : Int))) none).run Try.prog W = .ok (.slice a k c) W := fun W => sl27_h a N c k (by have := HNC.out; omega) W
    have y2 := HS2.out.1.cs 1 _ rfl
    have y3 := (HS2.out.1.step r2).cs 1 _ rfl
    have HS5 : Hid (CellsF w5 B2 [.int .i64 kd, .slice a N c] ∧ CellsF w5 B4 [.int .i64 0, .slice none 0 0] ∧ Sl cv 2 w5 (.slice a N c) cs ∧ Kept (fun _ => False) w w5 ∧ w.heap.size ≤ B2 ∧ w.heap.size ≤ B4 ∧ B2 ≠ B4) := ⟨HS2.out.1.step s3, HS2.out.2.1.step s3, HS2.out.2.2.1.step cv_ne s3, HS2.out.2.2.2.1.trans s3 (fun _ z => z.elim), HS2.out.2.2.2.2⟩
    obtain ⟨a5, c5, hv5⟩ := (s4 w5 (fun _ _ => rfl)).shape
    subst hv5
    obtain ⟨PN, hPN⟩ : ∃ PN, (cs.take k ++ cs.drop (k + 1)).length = PN := ⟨_, rfl⟩
    rw [hPN] at s1 s4
    have RA1 : Hid ((Builtin.append_ #[27, 27] 27 #[.slice none 0 0, .slice a k c]).run Try.prog w2 = .ok v1 w3) := r1
    have RA2 : Hid ((Builtin.append_ #[27, 27] 27 #[v1, u]).run Try.prog w3 = .ok (.slice a5 PN c5) w5) := s1
    obtain ⟨w7, hw7⟩ : ∃ w7, w5.setCell ⟨B2, 1, none⟩ (.slice a5 PN c5) = w7 := ⟨_, rfl⟩
    have HW7 : Hid (w5.setCell ⟨B2, 1, none⟩ (.slice a5 PN c5) = w7) := hw7
    have hc3 := HS5.out.1.set 1 (.slice a5 PN c5) (by simp)
    rw [hw7] at hc3
    have k7 : Kept (fun i => i = B2) w5 w7 := by rw [← hw7]; exact Kept.setCell (F := fun i => i = B2) (p := ⟨B2, 1, none⟩) (Kept.refl _ _) (.inl rfl) _
    have hc6 := HS5.out.2.1.kept k7 (fun e => HS5.out.2.2.2.2.2.2 e.symm)
    obtain ⟨w9, hw9⟩ : ∃ w9, (w7.setCell ⟨B4, 0, none⟩ (.int .i64 kd)).setCell ⟨B4, 1, none⟩ (.slice a5 PN c5) = w9 := ⟨_, rfl⟩
    have HW9 : Hid ((w7.setCell ⟨B4, 0, none⟩ (.int .i64 kd)).setCell ⟨B4, 1, none⟩ (.slice a5 PN c5) = w9) := hw9
    have hcc := (hc6.set 0 (.int .i64 kd) (by simp)).set 1 (.slice a5 PN c5) (by simp)
    rw [hw9] at hcc
    have HL : Hid ((loadVar 29 ⟨B4, 0, none⟩).run Try.prog w9 = .ok (rpg kd (.slice a5 PN c5)) w9) := load29 (hcc.cs 0 _ rfl) (hcc.cs 1 _ rfl)
    have k9 : Kept (fun i => i = B2 ∨ i = B4) w5 w9 := by
      rw [← hw9, ← hw7]
      exact Kept.setCell (p := ⟨B4, 1, none⟩) (Kept.setCell (p := ⟨B4, 0, none⟩) (Kept.setCell (p := ⟨B2, 1, none⟩) (Kept.refl _ _) (.inl (.inl rfl)) _) (.inl (.inr rfl)) _) (.inl (.inr rfl)) _
    have k9b : ∀ g, g ≠ B2 → g ≠ B4 → w9.heap[g]? = w5.heap[g]? := fun g g3 g6 => by
      rw [← hw9, ← hw7]
      exact ((Below.heap_setCell _ ⟨B4, 1, none⟩ _ g g6).trans (Below.heap_setCell _ ⟨B4, 0, none⟩ _ g g6)).trans (Below.heap_setCell _ ⟨B2, 1, none⟩ _ g g3)
    have HE : Hid (Sl cv 2 w9 (.slice a5 PN c5) (cs.take k ++ cs.drop (k + 1)) ∧ Kept (fun _ => False) w w9) := ⟨s4 w9 (fun g hg => k9b g (by have := HS2.out.1.lt; omega) (by have := HS2.out.2.1.lt; omega)), HS5.out.2.2.2.1.trans k9 (fun i e => .inr (by rcases e with e | e <;> rw [e]; exact HS5.out.2.2.2.2.1; exact HS5.out.2.2.2.2.2.1))⟩
    have e0 := HS5.out.1.cs 0 _ rfl
    have e1 := HS5.out.1.cs 1 _ rfl
    have ef := HS5.out.1.fz
    have d0 := hc3.cs 0 _ rfl
    have d1 := hc3.cs 1 _ rfl
    have g0 := hc6.cs 0 _ rfl
    have g1 := hc6.cs 1 _ rfl
    have gf := hc6.fz
    have hkb : (k : Int) + 1 ≤ 1000 := by have := HN.out.2; omega
    clear hw7 hw9 hcc hc3 hc6 k7 k9 k9b HS5 HS2 r1 r2 r3 s1 s3 s4 t2 hPN hrl
    go_upto_region 7 with (first | ((with_reducible apply st_append (x := .tmp 18)); (case ho => rfl); (case hgd => rfl); (case hr => exact RA1.out)) | ((with_reducible apply st_append (x := .tmp 24)); (case ho => rfl); (case hgd => rfl); (case hr => exact RA2.out)))
    rw [HW7.out]
    clear e0 e1 ef HW7
    go_wp2_with fail
    rw [HW9.out]
    refine bodyPost_ret (end_cell_tmp rfl rfl HL.out) rfl ?_
    exact ⟨k, true, HFO.out, .inr ⟨rfl, _, rfl, HE.out⟩⟩
end Go.Proofs.Ytehaancdadmdkaa
