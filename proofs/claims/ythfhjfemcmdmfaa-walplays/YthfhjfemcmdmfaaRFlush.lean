/- The document's disk: Flush. -/
import Derived.Test.YthfhjfemcmdmfaaMd
namespace Go.Proofs.Ythfhjfemcmdmfaa
open Go.ChangeShapes Go.WideShapes Go.ChangeAt Go.RowKit
set_option linter.unusedVariables false
set_option maxRecDepth 100000

/-- Sectors as a list of texts. -/
def secs (n : Nat) (S : Nat → List UInt8) : List ByteArray := (List.range n).map fun i => ⟨(S i).toArray⟩
theorem secs_len (n : Nat) (S : Nat → List UInt8) : (secs n S).length = n := by simp [secs]
theorem secs_set (n : Nat) (S : Nat → List UInt8) (a : Nat) (s : ByteArray) : (secs n S).set a s = secs n (put S a s.data.toList) := by
  apply List.ext_getElem
  · simp [secs]
  · intro i h1 h2
    simp [secs, List.getElem_set, put]
    by_cases e : a = i
    · subst e; simp
    · rw [if_neg e, if_neg (fun h => e h.symm)]

theorem ref_put {w : World} (n : Nat) (S : Nat → List UInt8) (b c : Nat) (h : w.ownsRow 0 9 1 (.slice (some ⟨b, 0, none⟩) n c) n (sv (secs n S))) (a : Nat) (ha : a < n) (hl : n ≤ 4096) (s : ByteArray) :
    Calls Try.prog 63 #[.slice (some ⟨b, 0, none⟩) n c, .int .i64 (a : Int), .string s] w fun e w' =>
      ∃ b' c', e = .returned (.slice (some ⟨b', 0, none⟩) n c') ∧ w.heap.size ≤ b' ∧ w'.ownsRow 0 9 1 (.slice (some ⟨b', 0, none⟩) n c') n (sv (secs n (put S a s.data.toList))) ∧ Kept (fun _ => False) w w' := by
  have e := secs_len n S
  have := ref_with (secs n S) b c (by rw [e]; exact h) a (by rw [e]; exact ha) (by rw [e]; exact hl) s
  rw [e] at this
  refine this.mono ?_
  rintro e w' ⟨v', rfl, o, k⟩
  rw [secs_set] at o
  rcases o.2 with ⟨_, hn⟩ | ⟨g, cap, cur, rfl, hb, _⟩
  · omega
  · exact ⟨g, cap, rfl, hb, own_weak o (Nat.zero_le _), k⟩

/-- A value of the document's disk in a block, and a block for the answer behind it. -/
structure Box (w : World) (N : Nat) (v0 v1 : Value) (f : Int) (off : Bool) : Prop where
  c0 : w.cell? ⟨N, 0, none⟩ = some v0
  c1 : w.cell? ⟨N, 1, none⟩ = some v1
  c2 : w.cell? ⟨N, 2, none⟩ = some (.int .i64 f)
  c3 : w.cell? ⟨N, 3, none⟩ = some (.bool off)
  fz : ∀ j, w.frozen? ⟨N, j, none⟩ = false
theorem Box.kept {w w' : World} {G : Nat → Prop} {N : Nat} {v0 v1 : Value} {f : Int} {off : Bool} (h : Box w N v0 v1 f off) (k : Kept G w w') (hn : ¬ G N) : Box w' N v0 v1 f off :=
  ⟨k.cell h.c0 hn, k.cell h.c1 hn, k.cell h.c2 hn, k.cell h.c3 hn, fun j => (World.frozen?_of_block (w := w) (a := ⟨N, j, none⟩) (k.block N (World.block_lt_of_cell? w _ h.c0) hn)).trans (h.fz j)⟩
theorem Box.put0 {w : World} {N : Nat} {v0 v1 : Value} {f : Int} {off : Bool} (h : Box w N v0 v1 f off) (v : Value) : Box (w.setCell ⟨N, 0, none⟩ v) N v v1 f off :=
  ⟨World.cell?_setCell_same _ _ _ h.c0, (World.cell?_setCell_other _ _ _ _ (fun e => by cases e)).trans h.c1, (World.cell?_setCell_other _ _ _ _ (fun e => by cases e)).trans h.c2, (World.cell?_setCell_other _ _ _ _ (fun e => by cases e)).trans h.c3, fun j => by simp [h.fz]⟩

theorem ref_flush_off (a b : Option Addr) (n c m k : Nat) (f : Int) (off : Bool) (hb : (rburn f off).2.2 = false) (hf : -1 ≤ f ∧ f ≤ 9223372036854775807) (w : World) :
    Calls Try.prog 43 #[.agg #[.slice a n c, .slice b m k, .int .i64 f, .bool off]] w fun e w' =>
      e = .returned (.tuple #[.agg #[.slice a n c, .slice b m k, .int .i64 (-1), .bool true], .int .i64 30]) ∧ Kept (fun _ => False) w w' := by
  have hr : rburn f off = (-1, true, false) := by
    unfold rburn at hb ⊢
    split
    · rfl
    · rename_i h; rw [if_neg h] at hb; cases hb
  have HB := (show Hid _ from ref_burns a b n c m k f off hf)
  rw [hr] at HB
  go_enter Try.func43, Try.ntmps43
  go_wp2_with fail
  refine Calls.mono (HB.out _) ?_; rintro e w1 ⟨rfl, rfl⟩
  go_wp2_with fail
  refine bodyPost_ret (end_cell_tmp rfl rfl (load30 (by simp [go_sem]; rfl) (by simp [go_sem]; rfl) (by simp [go_sem]; rfl) (by simp [go_sem]; rfl))) rfl ?_
  exact ⟨rfl, ((((Kept.refl _ w).alloc _).alloc _).alloc _).alloc _⟩

theorem flushed_next (S : Nat → List UInt8) (Q : List (Nat × List UInt8)) (j : Nat) (hj : j < Q.length) : flushed S (Q.take (j + 1)) = put (flushed S (Q.take j)) Q[j].1 Q[j].2 := by
  unfold flushed
  rw [List.take_succ_eq_append_getElem hj, List.foldl_append]
  rfl

/-- Where the loop of Flush and that of Crash stand. -/
def Mid (w : World) (u : Option Addr) (n k : Nat) (f : Int) (off : Bool) (Q : List (Nat × List UInt8)) (S : Nat → List UInt8) (N : Nat) (wr : World) (b c : Nat) : Prop :=
  Box wr N (.slice (some ⟨b, 0, none⟩) n c) (.slice u Q.length k) f off ∧ Box wr (N + 1) (.slice none 0 0) (.slice none 0 0) 0 false ∧ wr.ownsRow 0 9 1 (.slice (some ⟨b, 0, none⟩) n c) n (sv (secs n S)) ∧ wr.ownsRow 0 116 2 (.slice u Q.length k) Q.length (Q.flatMap wv) ∧ b ≠ N ∧ b ≠ N + 1 ∧ (∀ i, (Value.slice u Q.length k).ownBlock = some i → i ≠ N ∧ i ≠ N + 1) ∧ Kept (fun _ => False) w wr ∧ N + 1 < wr.heap.size ∧ w.heap.size = N

theorem Mid.next {w wr W : World} {u : Option Addr} {n k : Nat} {f : Int} {off : Bool} {Q : List (Nat × List UInt8)} {S S' : Nat → List UInt8} {N b c b' c' : Nat} (h : Mid w u n k f off Q S N wr b c) (hk : Kept (fun _ => False) wr W) (hb : wr.heap.size ≤ b')
    (ho : W.ownsRow 0 9 1 (.slice (some ⟨b', 0, none⟩) n c') n (sv (secs n S'))) : Mid w u n k f off Q S' N (W.setCell ⟨N, 0, none⟩ (.slice (some ⟨b', 0, none⟩) n c')) b' c' := by
  obtain ⟨h1, h2, h3, h4, h5, h6, h7, h8, h9, h10⟩ := h
  have k2 : Kept (fun i => i = N) W (W.setCell ⟨N, 0, none⟩ (.slice (some ⟨b', 0, none⟩) n c')) := (Kept.refl (fun i => i = N) W).setCell (p := ⟨N, 0, none⟩) (.inl rfl) _
  refine ⟨(h1.kept hk (fun q => q)).put0 _, (h2.kept hk (fun q => q)).kept k2 (by simp), ownsRow_kept ho (fun i hi => k2.block i (ho.lt i hi).2 (fun q => ?_)), ?_, by omega, by omega, h7, (h8.trans hk (fun _ q => .inl q)).trans k2 (fun i hi => .inr (by omega)), ?_, h10⟩
  · simp [Value.ownBlock] at hi
    omega
  · have h4' := ownsRow_kept h4 (fun i hi => hk.block i (h4.lt i hi).2 (fun q => q))
    exact ownsRow_kept h4' (fun i hi => k2.block i (h4'.lt i hi).2 (fun q => (h7 i hi).1 q))
  · have := hk.size
    simp; omega
theorem Mid.drew {w wr : World} {u : Option Addr} {n k : Nat} {f : Int} {off : Bool} {Q : List (Nat × List UInt8)} {S : Nat → List UInt8} {N b c : Nat} (h : Mid w u n k f off Q S N wr b c) : Mid w u n k f off Q S N wr.drew b c := by
  obtain ⟨h1, h2, h3, h4, h5, h6, h7, h8, h9, h10⟩ := h
  have k := (Kept.refl (fun _ => False) wr).drew
  exact ⟨h1.kept k (fun q => q), h2.kept k (fun q => q), ownsRow_kept h3 (fun _ _ => rfl), ownsRow_kept h4 (fun _ _ => rfl), h5, h6, h7, h8.drew, h9, h10⟩
theorem Mid.write {w wr : World} {u : Option Addr} {n k : Nat} {f : Int} {off : Bool} {Q : List (Nat × List UInt8)} {S : Nat → List UInt8} {N b c : Nat} (h : Mid w u n k f off Q S N wr b c) (j : Nat) (hj : j < Q.length) :
    ∃ g, u = some ⟨g, 0, none⟩ ∧ wr.cell? ⟨g, j * 2, none⟩ = some (.int .i64 (Q[j].1 : Int)) ∧ wr.cell? ⟨g, j * 2 + 1, none⟩ = some (.string ⟨Q[j].2.toArray⟩) := by
  obtain ⟨h1, h2, h3, h4, h5, h6, h7, h8, h9, h10⟩ := h
  rcases h4.2 with ⟨e, hn⟩ | ⟨g, cap, cur, e, _⟩
  · omega
  · cases e
    have ⟨a1, a2⟩ := wv_at Q j hj
    exact ⟨g, rfl, by rw [h4.cellAt _ (by omega), a1], by rw [h4.cellAt _ (by omega), a2]⟩

set_option maxHeartbeats 1000000 in
theorem ref_flush_on {w : World} (b : Nat) (u : Option Addr) (n c k : Nat) (f : Int) (off : Bool) (S : Nat → List UInt8) (Q : List (Nat × List UInt8)) (hs : w.ownsRow 0 9 1 (.slice (some ⟨b, 0, none⟩) n c) n (sv (secs n S))) (hu : w.ownsRow 0 116 2 (.slice u Q.length k) Q.length (Q.flatMap wv)) (hQ : Q.length ≤ 1048576)
    (hq : ∀ q, q ∈ Q → q.1 < n) (h4 : n ≤ 4096) (hb : (rburn f off).2.2 = true) (hf : -1 ≤ f ∧ f ≤ 9223372036854775807) :
    Calls Try.prog 43 #[.agg #[.slice (some ⟨b, 0, none⟩) n c, .slice u Q.length k, .int .i64 f, .bool off]] w fun e w' =>
      ∃ b' c', e = .returned (.tuple #[.agg #[.slice (some ⟨b', 0, none⟩) n c', .slice none 0 0, .int .i64 (rburn f off).1, .bool false], .int .i64 0]) ∧ w'.ownsRow 0 9 1 (.slice (some ⟨b', 0, none⟩) n c') n (sv (secs n (flushed S Q))) ∧ (b' = b ∨ w.heap.size ≤ b') ∧ Kept (fun _ => False) w w' := by
  have hr : rburn f off = ((rburn f off).1, false, true) := by
    unfold rburn at hb ⊢
    split
    · rename_i h; rw [if_pos h] at hb; cases hb
    · rfl
  have HB := (show Hid _ from ref_burns (some ⟨b, 0, none⟩) u n c Q.length k f off hf)
  rw [hr] at HB
  generalize (rburn f off).1 = f' at *
  obtain ⟨W, hW⟩ : ∃ W, W = (((w.alloc (.cells #[.slice (some ⟨b, 0, none⟩) n c, .slice u Q.length k, .int .i64 f', .bool false] 37)).alloc (.cells #[.slice none 0 0, .slice none 0 0, .int .i64 0, .bool false] 37)).alloc (.cells #[.slice (some ⟨b, 0, none⟩) n c, .slice u Q.length k, .int .i64 f', .bool false] 37)).alloc (.cells #[.slice (some ⟨b, 0, none⟩) n c, .slice u Q.length k, .int .i64 f', .bool false] 37) := ⟨_, rfl⟩
  have kW : Kept (fun _ => False) w W := by rw [hW]; exact ((((Kept.refl _ w).alloc _).alloc _).alloc _).alloc _
  have hbl : b < w.heap.size := (hs.lt b rfl).2
  have H0 : Hid (Mid w u n k f' false Q S w.heap.size W b c) := by
    refine ⟨⟨?_, ?_, ?_, ?_, ?_⟩, ⟨?_, ?_, ?_, ?_, ?_⟩, ownsRow_kept hs (fun i hi => kW.block i (hs.lt i hi).2 (fun q => q)), ownsRow_kept hu (fun i hi => kW.block i (hu.lt i hi).2 (fun q => q)), by omega, by omega, fun i hi => by have := (hu.lt i hi).2; omega, kW, by rw [hW]; simp, rfl⟩ <;> (rw [hW]; simp [go_sem])
  have HW := (show Hid _ from hW)
  have HQ := (show Hid _ from hq)
  have HP : Hid (∀ (wr : World) (S : Nat → List UInt8) (b c a : Nat) (s : ByteArray), wr.ownsRow 0 9 1 (.slice (some ⟨b, 0, none⟩) n c) n (sv (secs n S)) → a < n → Calls Try.prog 63 #[.slice (some ⟨b, 0, none⟩) n c, .int .i64 (a : Int), .string s] wr fun e w' =>
      ∃ b' c', e = .returned (.slice (some ⟨b', 0, none⟩) n c') ∧ wr.heap.size ≤ b' ∧ w'.ownsRow 0 9 1 (.slice (some ⟨b', 0, none⟩) n c') n (sv (secs n (put S a s.data.toList))) ∧ Kept (fun _ => False) wr w') := fun wr S b c a s h ha => ref_put n S b c h a ha h4 s
  clear hW kW hu hs hr hb hq
  have hQl : Hid (Q.length ≤ 1048576) := hQ
  clear hQ
  go_enter Try.func43, Try.ntmps43
  go_wp2_with fail
  refine Calls.mono (HB.out _) ?_; rintro e w1 ⟨rfl, rfl⟩
  go_wp2_with fail
  go_loopw [5] (fun i wr => ∃ j : Nat, j ≤ Q.length ∧ i = .int .i64 j ∧ Hid (∃ b1 c1, (b1 = b ∨ w.heap.size ≤ b1) ∧ Mid w u n k f' false Q (flushed S (Q.take j)) w.heap.size wr b1 c1))
    (fun i _ => Q.length - (intOf i).toNat)
  case atStart => exact ⟨0, Nat.zero_le _, rfl, b, c, .inl rfl, by rw [← HW.out]; exact H0.out⟩
  case round =>
    obtain ⟨j, hj, rfl, HR⟩ := hrel
    obtain ⟨b1, c1, hb1, hM⟩ := HR.out
    clear H0 HW HB HR
    have HM : Hid (Mid w u n k f' false Q (flushed S (Q.take j)) w.heap.size wr b1 c1) := hM
    have HB1 := (show Hid _ from hb1)
    obtain ⟨p0, p1, p2, p3, pf⟩ := hM.drew.1
    have pd1 := hM.1.c1
    have q0 := hM.1.c0
    have q2 := hM.1.c2
    have q3 := hM.1.c3
    have qf := hM.1.fz
    obtain ⟨r0, r1, r2, r3, rf⟩ := hM.2.1
    clear hM hb1
    by_cases hlt : j < Q.length
    · have hji : (j : Int) < (Q.length : Int) := by omega
      have HL : Hid (j < Q.length) := hlt
      have hjb : j ≤ 1048576 := Nat.le_trans hj hQl.out
      obtain ⟨g, rfl, c1', c2'⟩ := Mid.write (Mid.drew HM.out) j hlt
      have hqn := HQ.out Q[j] (List.getElem_mem hlt)
      have HF := (show Hid _ from flushed_next S Q j hlt)
      have HMD : Hid (Mid w (some ⟨g, 0, none⟩) n k f' false Q (flushed S (Q.take j)) w.heap.size wr.drew b1 c1) := Mid.drew HM.out
      have HOD : Hid (wr.drew.ownsRow 0 9 1 (.slice (some ⟨b1, 0, none⟩) n c1) n (sv (secs n (flushed S (Q.take j))))) := HMD.out.2.2.1
      have HBD : Hid (Box wr.drew w.heap.size (.slice (some ⟨b1, 0, none⟩) n c1) (.slice (some ⟨g, 0, none⟩) Q.length k) f' false) := HMD.out.1
      generalize Q[j] = q at *
      go_wp2_with fail
      refine wp_region_still_tail 14 (by kernel_rfl) (by kernel_rfl) ?_
      rw [show ({ wr with drawn := wr.drawn + 1 } : World) = wr.drew from rfl]
      simp only [List.take_succ_cons, List.take_zero, List.drop_succ_cons, List.drop_zero]
      iterate 14 still_step
      refine wpStill_nil ?_
      go_wp2_with fail
      refine Calls.mono (HP.out wr.drew _ b1 c1 q.1 ⟨q.2.toArray⟩ HOD.out hqn) ?_; rintro e w3 ⟨b2, c2, rfl, hb2, o2, k2⟩
      have HMN : Hid ((b2 = b ∨ w.heap.size ≤ b2) ∧ Mid w (some ⟨g, 0, none⟩) n k f' false Q (flushed S (Q.take (j + 1))) w.heap.size (w3.setCell ⟨w.heap.size, 0, none⟩ (.slice (some ⟨b2, 0, none⟩) n c2)) b2 c2) := by
        refine ⟨.inr ?_, ?_⟩
        · have := HM.out.2.2.2.2.2.2.2.2.1
          have e : wr.drew.heap.size = wr.heap.size := rfl
          omega
        · rw [HF.out]
          exact Mid.next HMD.out k2 hb2 o2
      obtain ⟨t0, t1, t2, t3, tf⟩ := HBD.out.kept k2 (fun q => q)
      clear o2 k2 hb2 HP
      go_wp2_with fail
      go_roundw
      case rel => exact ⟨j + 1, HL.out, by go_num, b2, c2, HMN.out⟩
      case measure => have := HL.out; simp [intOf]; omega
    · have hji : ¬ (j : Int) < (Q.length : Int) := by omega
      have ej : j = Q.length := by omega
      have HT : Hid (Q.take j = Q) := by rw [ej]; exact List.take_length
      go_wp2_with fail
      try simp only [Exit.inBlock, Exit.then]
      refine bodyPost_ret (end_cell_tmp rfl rfl (load30 (by simp [go_sem, r0]; rfl) (by simp [go_sem, r1]; rfl) (by simp [go_sem, r2]; rfl) (by simp [go_sem, r3]; rfl))) rfl ?_
      have kf := (((((Kept.refl (fun i => i = w.heap.size ∨ i = w.heap.size + 1) wr).setCell (p := ⟨w.heap.size, 1, none⟩) (.inl (.inl rfl)) (.slice none 0 0)).setCell (p := ⟨w.heap.size + 1, 0, none⟩) (.inl (.inr rfl)) (.slice (some ⟨b1, 0, none⟩) n c1)).setCell (p := ⟨w.heap.size + 1, 1, none⟩) (.inl (.inr rfl)) (.slice none 0 0)).setCell (p := ⟨w.heap.size + 1, 2, none⟩) (.inl (.inr rfl)) (.int .i64 f')).setCell (p := ⟨w.heap.size + 1, 3, none⟩) (.inl (.inr rfl)) (.bool false)
      obtain ⟨h1, h2, h3, h4, h5, h6, h7, h8, h9, h10⟩ := HM.out
      rw [HT.out] at h3
      refine ⟨b1, c1, rfl, ownsRow_kept h3 (fun i hi => kf.block i (h3.lt i hi).2 (fun q => ?_)), HB1.out, h8.trans kf (fun i hi => .inr (by omega))⟩
      simp [Value.ownBlock] at hi
      omega
end Go.Proofs.Ythfhjfemcmdmfaa
