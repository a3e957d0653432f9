/- The document's disk: Crash. -/
import Derived.Test.YthfhjfemcmdmfaaRFlush
namespace Go.Proofs.Ythfhjfemcmdmfaa
open Go.ChangeShapes Go.WideShapes Go.ChangeAt Go.RowKit
set_option linter.unusedVariables false
set_option maxRecDepth 100000

theorem ba_cut (a b : ByteArray) (k : Nat) (ha : a.size = 32) (hb : b.size = 32) (hk : k ≤ 32) : (⟨(a.data.toList.take k ++ b.data.toList.drop k).toArray⟩ : ByteArray) = a.extract 0 k ++ b.extract k 32 := by
  apply ByteArray.ext
  rw [ByteArray.data_append, ByteArray.data_extract, ByteArray.data_extract]
  apply Array.toList_inj.1
  have h1 : a.data.toList.length = 32 := by simpa using ha
  have h2 : b.data.toList.length = 32 := by simpa using hb
  simp [Array.toList_extract, List.extract_eq_take_drop]
  rw [List.take_of_length_le (by simp; omega)]
theorem min_a (x : Int) (w : World) : (Builtin.min_ #[3, 3] 3 #[.int .i64 x, .int .i64 32]).run Try.prog w = .ok (.int .i64 (min x 32)) w := by
  simp [Builtin.min_, Builtin.min2]
  omega
theorem max_a (x : Int) (w : World) : (Builtin.max_ #[3, 3] 3 #[.int .i64 0, .int .i64 (min x 32)]).run Try.prog w = .ok (.int .i64 (kept x : Int)) w := by
  simp [Builtin.max_, Builtin.max2]
  unfold kept
  omega


theorem torn_next (S : Nat → List UInt8) (l : List ((Nat × List UInt8) × Int)) (j : Nat) (hj : j < l.length) : torn S (l.take (j + 1)) = put (torn S (l.take j)) l[j].1.1 (l[j].1.2.take (kept l[j].2) ++ (torn S (l.take j) l[j].1.1).drop (kept l[j].2)) := by
  unfold torn
  rw [List.take_succ_eq_append_getElem hj, List.foldl_append]
  rfl
theorem torn_len (n : Nat) (S : Nat → List UInt8) (hS : ∀ i, i < n → (S i).length = 32) (l : List ((Nat × List UInt8) × Int)) (hl : ∀ x, x ∈ l → x.1.2.length = 32) : ∀ i, i < n → (torn S l i).length = 32 := by
  induction l generalizing S with
  | nil => exact hS
  | cons x r ih =>
    show ∀ i, i < n → (torn (put S x.1.1 _) r i).length = 32
    refine ih _ (fun i hi => ?_) (fun y hy => hl y (by simp [hy]))
    unfold put
    split
    · rename_i e
      have h1 := hl x (by simp)
      have h2 := hS x.1.1 (e ▸ hi)
      have h3 := kept_le x.2
      simp [h1, h2]
      omega
    · exact hS i hi

theorem Mid.kept {w wr W : World} {u : Option Addr} {n k : Nat} {f : Int} {off : Bool} {Q : List (Nat × List UInt8)} {S : Nat → List UInt8} {N b c : Nat} (h : Mid w u n k f off Q S N wr b c) (hk : Kept (fun _ => False) wr W) : Mid w u n k f off Q S N W b c := by
  obtain ⟨h1, h2, h3, h4, h5, h6, h7, h8, h9, h10⟩ := h
  exact ⟨h1.kept hk (fun q => q), h2.kept hk (fun q => q), ownsRow_kept h3 (fun i hi => hk.block i (h3.lt i hi).2 (fun q => q)), ownsRow_kept h4 (fun i hi => hk.block i (h4.lt i hi).2 (fun q => q)), h5, h6, h7, h8.trans hk (fun _ q => .inl q), Nat.lt_of_lt_of_le h9 hk.size, h10⟩
theorem sec_at {w : World} {n b c : Nat} {S : Nat → List UInt8} (h : w.ownsRow 0 9 1 (.slice (some ⟨b, 0, none⟩) n c) n (sv (secs n S))) (i : Nat) (hi : i < n) : w.cell? ⟨b, i, none⟩ = some (.string ⟨(S i).toArray⟩) := by
  rw [h.cellAt i (by omega)]
  simp [sv, secs, hi]

set_option maxHeartbeats 2000000 in
theorem ref_crash {w : World} (b : Nat) (u : Option Addr) (n c k : Nat) (f : Int) (off : Bool) (S : Nat → List UInt8) (Q : List (Nat × List UInt8)) (hs : w.ownsRow 0 9 1 (.slice (some ⟨b, 0, none⟩) n c) n (sv (secs n S))) (hu : w.ownsRow 0 116 2 (.slice u Q.length k) Q.length (Q.flatMap wv)) (hQ : Q.length ≤ 1048576)
    (hq : ∀ q, q ∈ Q → q.1 < n ∧ q.2.length = 32) (hS : ∀ i, i < n → (S i).length = 32) (h4 : n ≤ 4096) (ao : Option Addr) (ac : Nat) (ks : List Int) (hks : Ints w (.slice ao ks.length ac) ks) (hkl : ks.length ≤ 9223372036854775807) :
    Calls Try.prog 64 #[.agg #[.slice (some ⟨b, 0, none⟩) n c, .slice u Q.length k, .int .i64 f, .bool off], .slice ao ks.length ac] w fun e w' =>
      ∃ b' c', e = .returned (.agg #[.slice (some ⟨b', 0, none⟩) n c', .slice none 0 0, .int .i64 (-1), .bool false]) ∧ w'.ownsRow 0 9 1 (.slice (some ⟨b', 0, none⟩) n c') n (sv (secs n (torn S (Q.zip ks)))) ∧ (b' = b ∨ w.heap.size ≤ b') ∧ Kept (fun _ => False) w w' := by
  obtain ⟨W, hW⟩ : ∃ W, W = (w.alloc (.cells #[.slice (some ⟨b, 0, none⟩) n c, .slice u Q.length k, .int .i64 f, .bool off] 37)).alloc (.cells #[.slice none 0 0, .slice none 0 0, .int .i64 0, .bool false] 37) := ⟨_, rfl⟩
  have kW : Kept (fun _ => False) w W := by rw [hW]; exact ((Kept.refl _ w).alloc _).alloc _
  have hbl : b < w.heap.size := (hs.lt b rfl).2
  have H0 : Hid (Mid w u n k f off Q S w.heap.size W b c) := by
    refine ⟨⟨?_, ?_, ?_, ?_, ?_⟩, ⟨?_, ?_, ?_, ?_, ?_⟩, ownsRow_kept hs (fun i hi => kW.block i (hs.lt i hi).2 (fun q => q)), ownsRow_kept hu (fun i hi => kW.block i (hu.lt i hi).2 (fun q => q)), by omega, by omega, fun i hi => by have := (hu.lt i hi).2; omega, kW, by rw [hW]; simp, rfl⟩ <;> (rw [hW]; simp [go_sem])
  have HW := (show Hid _ from hW)
  have HQ := (show Hid _ from hq)
  have HC : Hid (∀ j (hj : j < ks.length), ∃ g o, ao = some ⟨g, o, none⟩ ∧ w.cell? ⟨g, o + j, none⟩ = some (.int .i64 ks[j])) := by
    intro j hj
    rcases hks with ⟨_, _, e, rfl⟩ | ⟨g, o, _, e, h⟩
    · exact absurd hj (Nat.not_lt_zero j)
    · cases e
      exact ⟨g, o, rfl, h j hj⟩
  have HP : Hid (∀ (wr : World) (S : Nat → List UInt8) (b c a : Nat) (s : ByteArray), wr.ownsRow 0 9 1 (.slice (some ⟨b, 0, none⟩) n c) n (sv (secs n S)) → a < n → Calls Try.prog 63 #[.slice (some ⟨b, 0, none⟩) n c, .int .i64 (a : Int), .string s] wr fun e w' =>
      ∃ b' c', e = .returned (.slice (some ⟨b', 0, none⟩) n c') ∧ wr.heap.size ≤ b' ∧ w'.ownsRow 0 9 1 (.slice (some ⟨b', 0, none⟩) n c') n (sv (secs n (put S a s.data.toList))) ∧ Kept (fun _ => False) wr w') := fun wr S b c a s h ha => ref_put n S b c h a ha h4 s
  have HSL : Hid (∀ j i, i < n → (torn S ((Q.zip ks).take j) i).length = 32) := fun j => torn_len n S hS _ (fun x hx => (hq _ (List.of_mem_zip (List.mem_of_mem_take hx)).1).2)
  clear hW kW hu hs hq hS hks
  have hQl : Hid (Q.length ≤ 1048576) := hQ
  clear hQ
  go_enter Try.func64, Try.ntmps64
  go_wp2_with fail
  go_loopw [5] (fun i wr => ∃ j : Nat, j ≤ Q.length ∧ j ≤ ks.length ∧ i = .int .i64 j ∧ Hid (∃ b1 c1, (b1 = b ∨ w.heap.size ≤ b1) ∧ Mid w u n k f off Q (torn S ((Q.zip ks).take j)) w.heap.size wr b1 c1))
    (fun i _ => Q.length - (intOf i).toNat)
  case atStart => exact ⟨0, Nat.zero_le _, Nat.zero_le _, rfl, b, c, .inl rfl, by rw [← HW.out]; exact H0.out⟩
  case round =>
    obtain ⟨j, hj, hj2, rfl, HR⟩ := hrel
    obtain ⟨b1, c1, hb1, hM⟩ := HR.out
    clear H0 HW HR
    have HM : Hid (Mid w u n k f off Q (torn S ((Q.zip ks).take j)) w.heap.size wr b1 c1) := hM
    have HB1 := (show Hid _ from hb1)
    have q0 := hM.1.c0
    have q1 := hM.1.c1
    have q2 := hM.1.c2
    have q3 := hM.1.c3
    have qf := hM.1.fz
    obtain ⟨r0, r1, r2, r3, rf⟩ := hM.2.1
    have HKW : Hid (Kept (fun _ => False) w wr) := hM.2.2.2.2.2.2.2.1
    clear hM hb1
    have hjb : j ≤ 1048576 := Nat.le_trans hj hQl.out
    by_cases hlt : j < Q.length
    · have hji : (j : Int) < (Q.length : Int) := by omega
      have HL : Hid (j < Q.length) := hlt
      by_cases hlk : j < ks.length
      · have hjk : (j : Int) < (ks.length : Int) := by omega
        have HLK : Hid (j < ks.length) := hlk
        obtain ⟨g, rfl, c1', c2'⟩ := Mid.write HM.out j hlt
        obtain ⟨g2, o2, rfl, c3'⟩ := HC.out j hlk
        have c3 := HKW.out.cell c3' (fun q => q)
        have hqn := HQ.out Q[j] (List.getElem_mem hlt)
        have hz : j < (Q.zip ks).length := by rw [List.length_zip]; omega
        have HF := (show Hid _ from torn_next S (Q.zip ks) j hz)
        rw [List.getElem_zip] at HF
        simp only at HF
        have hmin := min_a ks[j]
        have hmax := max_a ks[j]
        have hK := kept_le ks[j]
        generalize Q[j] = q at *
        generalize ks[j] = kj at *
        generalize kept kj = K at *
        generalize min kj 32 = z32 at *
        have hTl := HSL.out j q.1 hqn.1
        obtain ⟨T, hT⟩ : ∃ T, torn S ((Q.zip ks).take j) = T := ⟨_, rfl⟩
        rw [hT] at HF hTl HM
        obtain ⟨A, hA⟩ : ∃ A, (⟨q.2.toArray⟩ : ByteArray) = A := ⟨_, rfl⟩
        obtain ⟨B, hB⟩ : ∃ B, (⟨(T q.1).toArray⟩ : ByteArray) = B := ⟨_, rfl⟩
        have hAs : A.size = 32 := by rw [← hA]; exact hqn.2
        have hBs : B.size = 32 := by rw [← hB]; exact hTl
        rw [hA] at c2'
        obtain ⟨V, hV⟩ : ∃ V : World, V = { wr.alloc (.cells #[.int .i64 (q.1 : Int), .string A] 116) with drawn := (wr.alloc (.cells #[.int .i64 (q.1 : Int), .string A] 116)).drawn + 1 } := ⟨_, rfl⟩
        have kV : Kept (fun _ => False) wr V := by rw [hV]; exact ((Kept.refl _ wr).alloc _).drew
        have HMV : Hid (Mid w (some ⟨g, 0, none⟩) n k f off Q T w.heap.size V b1 c1) := Mid.kept HM.out kV
        have HOV : Hid (V.ownsRow 0 9 1 (.slice (some ⟨b1, 0, none⟩) n c1) n (sv (secs n T))) := HMV.out.2.2.1
        have HBV : Hid (Box V w.heap.size (.slice (some ⟨b1, 0, none⟩) n c1) (.slice (some ⟨g, 0, none⟩) Q.length k) f off) := HMV.out.1
        have v0 := HBV.out.c0
        have v1 := sec_at HOV.out q.1 hqn.1
        rw [hB] at v1
        have v2 : V.cell? ⟨wr.heap.size, 0, none⟩ = some (.int .i64 (q.1 : Int)) := by
          rw [hV]
          exact (World.cell?_alloc_new _ _ _ _).trans rfl
        have v3 : V.cell? ⟨wr.heap.size, 1, none⟩ = some (.string A) := by
          rw [hV]
          exact (World.cell?_alloc_new _ _ _ _).trans rfl
        have HV := (show Hid _ from hV)
        have hnew : (A.extract 0 K ++ B.extract K 32).data.toList = q.2.take K ++ (T q.1).drop K := by
          rw [← ba_cut A B K hAs hBs hK, ← hA, ← hB]
        have HNEW := (show Hid _ from hnew)
        clear hnew
        have hlt2 : (q.1 : Int) < (n : Int) := by have := hqn.1; omega
        have hK32 : (K : Int) ≤ 32 := by omega
        have HX := (show Hid _ from hqn.1)
        have HTE := (show Hid _ from hT)
        clear hV kV hA hB hT hTl hqn
        go_wp2_with fail
        refine wp_region_still_tail 17 (by kernel_rfl) (by kernel_rfl) ?_
        rw [← HV.out]
        simp only [List.take_succ_cons, List.take_zero, List.drop_succ_cons, List.drop_zero]
        iterate 17 still_step
        refine wpStill_nil ?_
        go_wp2_with fail
        refine Calls.mono (HP.out V _ b1 c1 q.1 _ HOV.out HX.out) ?_; rintro e w3 ⟨b2, c2, rfl, hb2, o2, k2⟩
        rw [HNEW.out, ← HF.out] at o2
        have HMN : Hid ((b2 = b ∨ w.heap.size ≤ b2) ∧ Mid w (some ⟨g, 0, none⟩) n k f off Q (torn S ((Q.zip ks).take (j + 1))) w.heap.size (w3.setCell ⟨w.heap.size, 0, none⟩ (.slice (some ⟨b2, 0, none⟩) n c2)) b2 c2) :=
          ⟨.inr (by have := HMV.out.2.2.2.2.2.2.2.2.1; omega), Mid.next HMV.out k2 hb2 o2⟩
        obtain ⟨t0, t1, t2, t3, tf⟩ := HBV.out.kept k2 (fun q => q)
        clear o2 k2 hb2 HP
        go_wp2_with fail
        go_roundw
        case rel => exact ⟨j + 1, HL.out, HLK.out, by go_num, b2, c2, HMN.out⟩
        case measure => have := HL.out; simp [intOf]; omega
      · have hjk : ¬ (j : Int) < (ks.length : Int) := by omega
        have HT : Hid ((Q.zip ks).take j = Q.zip ks) := List.take_of_length_le (by rw [List.length_zip]; omega)
        go_wp2_with fail
        try simp only [Exit.inBlock, Exit.then]
        refine bodyPost_ret (end_cell rfl rfl (load30 (by simp [go_sem, r0]; rfl) (by simp [go_sem, r1]; rfl) (by simp [go_sem, r2]; rfl) (by simp [go_sem, r3]; rfl))) rfl ?_
        have kf := ((((Kept.refl (fun i => i = w.heap.size + 1) wr).setCell (p := ⟨w.heap.size + 1, 0, none⟩) (.inl rfl) (.slice (some ⟨b1, 0, none⟩) n c1)).setCell (p := ⟨w.heap.size + 1, 1, none⟩) (.inl rfl) (.slice none 0 0)).setCell (p := ⟨w.heap.size + 1, 2, none⟩) (.inl rfl) (.int .i64 (-1))).setCell (p := ⟨w.heap.size + 1, 3, none⟩) (.inl rfl) (.bool false)
        obtain ⟨h1, h2, h3, h4, h5, h6, h7, h8, h9, h10⟩ := HM.out
        rw [HT.out] at h3
        refine ⟨b1, c1, rfl, ownsRow_kept h3 (fun i hi => kf.block i (h3.lt i hi).2 (fun q => ?_)), HB1.out, h8.trans kf (fun i hi => .inr (by omega))⟩
        simp [Value.ownBlock] at hi
        omega
    · have hji : ¬ (j : Int) < (Q.length : Int) := by omega
      have HT : Hid ((Q.zip ks).take j = Q.zip ks) := List.take_of_length_le (by rw [List.length_zip]; omega)
      go_wp2_with fail
      try simp only [Exit.inBlock, Exit.then]
      refine bodyPost_ret (end_cell rfl rfl (load30 (by simp [go_sem, r0]; rfl) (by simp [go_sem, r1]; rfl) (by simp [go_sem, r2]; rfl) (by simp [go_sem, r3]; rfl))) rfl ?_
      have kf := ((((Kept.refl (fun i => i = w.heap.size + 1) wr).setCell (p := ⟨w.heap.size + 1, 0, none⟩) (.inl rfl) (.slice (some ⟨b1, 0, none⟩) n c1)).setCell (p := ⟨w.heap.size + 1, 1, none⟩) (.inl rfl) (.slice none 0 0)).setCell (p := ⟨w.heap.size + 1, 2, none⟩) (.inl rfl) (.int .i64 (-1))).setCell (p := ⟨w.heap.size + 1, 3, none⟩) (.inl rfl) (.bool false)
      obtain ⟨h1, h2, h3, h4, h5, h6, h7, h8, h9, h10⟩ := HM.out
      rw [HT.out] at h3
      refine ⟨b1, c1, rfl, ownsRow_kept h3 (fun i hi => kf.block i (h3.lt i hi).2 (fun q => ?_)), HB1.out, h8.trans kf (fun i hi => .inr (by omega))⟩
      simp [Value.ownBlock] at hi
      omega
end Go.Proofs.Ythfhjfemcmdmfaa
