/- The document's disk: Write. -/
import Derived.Test.YtlkkeabenklefaaWith
namespace Go.Proofs.Ytlkkeabenklefaa
open Go.ChangeShapes Go.WideShapes Go.ChangeAt Go.RowKit
set_option linter.unusedVariables false

theorem ref_write_no (a b : Option Addr) (n c m k : Nat) (f : Int) (off : Bool) (x : Int) (s : ByteArray) (hx : x < 0 ∨ (n : Int) ≤ x ∨ s.size ≠ 32) (w : World) :
    Calls Try.prog 12 #[.agg #[.slice a n c, .slice b m k, .int .i64 f, .bool off], .int .i64 x, .string s] w fun e w' =>
      e = .returned (.tuple #[.agg #[.slice a n c, .slice b m k, .int .i64 f, .bool off], .int .i64 1]) ∧ Kept (fun _ => False) w w' := by
  by_cases h1 : x < 0
  · go_enter Try.func12, Try.ntmps12
    go_wp2_with fail
    refine bodyPost_ret (end_cell_tmp rfl rfl (load30 (by simp [go_sem]; rfl) (by simp [go_sem]; rfl) (by simp [go_sem]; rfl) (by simp [go_sem]; rfl))) rfl ?_
    exact ⟨rfl, ((Kept.refl _ w).alloc _).alloc _⟩
  · by_cases h2 : (n : Int) ≤ x
    · go_enter Try.func12, Try.ntmps12
      go_wp2_with fail
      refine bodyPost_ret (end_cell_tmp rfl rfl (load30 (by simp [go_sem]; rfl) (by simp [go_sem]; rfl) (by simp [go_sem]; rfl) (by simp [go_sem]; rfl))) rfl ?_
      exact ⟨rfl, ((Kept.refl _ w).alloc _).alloc _⟩
    · have h3 : ((s.size : Int) == 32) = false := by
        have : s.size ≠ 32 := by rcases hx with h | h | h; exact absurd h h1; exact absurd h h2; exact h
        simp; omega
      go_enter Try.func12, Try.ntmps12
      go_wp2_with fail
      refine bodyPost_ret (end_cell_tmp rfl rfl (load30 (by simp [go_sem]; rfl) (by simp [go_sem]; rfl) (by simp [go_sem]; rfl) (by simp [go_sem]; rfl))) rfl ?_
      exact ⟨rfl, ((Kept.refl _ w).alloc _).alloc _⟩

theorem ref_write_off (a b : Option Addr) (n c m k : Nat) (f : Int) (off : Bool) (x : Nat) (hx : x < n) (s : ByteArray) (hs : s.size = 32) (hb : (rburn f off).2.2 = false) (hf : -1 ≤ f ∧ f ≤ 9223372036854775807) (w : World) :
    Calls Try.prog 12 #[.agg #[.slice a n c, .slice b m k, .int .i64 f, .bool off], .int .i64 (x : Int), .string s] w fun e w' =>
      e = .returned (.tuple #[.agg #[.slice a n c, .slice b m k, .int .i64 (-1), .bool true], .int .i64 30]) ∧ Kept (fun _ => False) w w' := by
  have hr : rburn f off = (-1, true, false) := by
    unfold rburn at hb ⊢
    split
    · rfl
    · rename_i h; rw [if_neg h] at hb; cases hb
  have HB := (show Hid _ from ref_burns a b n c m k f off hf)
  rw [hr] at HB
  have h1 : ¬ (x : Int) < 0 := by omega
  have h2 : ¬ (n : Int) ≤ (x : Int) := by omega
  have h3 : (s.size : Int) = 32 := by omega
  go_enter Try.func12, Try.ntmps12
  go_wp2_with fail
  refine Calls.mono (HB.out _) ?_; rintro e w1 ⟨rfl, rfl⟩
  go_wp2_with fail
  refine bodyPost_ret (end_cell_tmp rfl rfl (load30 (by simp [go_sem]; rfl) (by simp [go_sem]; rfl) (by simp [go_sem]; rfl) (by simp [go_sem]; rfl))) rfl ?_
  exact ⟨rfl, ((((Kept.refl _ w).alloc _).alloc _).alloc _).alloc _⟩

/-- A write that waits, of the document's disk. -/
def wv (q : Nat × List UInt8) : List Value := [.int .i64 (q.1 : Int), .string ⟨q.2.toArray⟩]
theorem wv_len (Q : List (Nat × List UInt8)) : (Q.flatMap wv).length = Q.length * 2 := by
  induction Q with
  | nil => rfl
  | cons q r ih => rw [List.flatMap_cons, List.length_append, ih, List.length_cons]; simp [wv]; omega
theorem wv_one (Q : List (Nat × List UInt8)) : ∀ v ∈ Q.flatMap wv, v.oneCell' = true := by
  intro v hv
  obtain ⟨q, _, hq⟩ := List.mem_flatMap.1 hv
  simp [wv] at hq
  rcases hq with rfl | rfl <;> rfl
theorem wv_at (Q : List (Nat × List UInt8)) (k : Nat) (hk : k < Q.length) : (Q.flatMap wv)[k * 2]? = some (.int .i64 (Q[k].1 : Int)) ∧ (Q.flatMap wv)[k * 2 + 1]? = some (.string ⟨Q[k].2.toArray⟩) := by
  induction Q generalizing k with
  | nil => cases hk
  | cons q r ih =>
    cases k with
    | zero => simp [wv]
    | succ k =>
      have := ih k (by simpa using hk)
      rw [List.flatMap_cons, show (k + 1) * 2 = k * 2 + 2 by omega, show k * 2 + 2 + 1 = (k * 2 + 1) + 2 by omega]
      simpa [wv] using this
theorem Try.info68 : (Try.prog.info? 68).map (fun i => (i.zero, i.size, i.bytes)) = some (some (.agg #[.int .i64 0, .string ⟨#[]⟩]), 2, 24) := by kernel_rfl

theorem append_wrs {w : World} {v : Value} {l : List (Nat × List UInt8)} {base : Nat} (h : w.ownsRow base 68 2 v l.length (l.flatMap wv)) (b o c : Nat) (m : List (Nat × List UInt8)) (hm : ∀ j u, (m.flatMap wv)[j]? = some u → w.cell? ⟨b, o + j, none⟩ = some u) (hs : l.length + m.length ≤ 2097152) (hb : base ≤ w.heap.size) :
    ∃ v' w', (Builtin.append_ #[28, 28] 28 #[v, .slice (some ⟨b, o, none⟩) m.length c]).run Try.prog w = .ok v' w' ∧ w'.ownsRow base 68 2 v' (l ++ m).length ((l ++ m).flatMap wv) ∧ w.grownBy w' v.ownBlock := by
  obtain ⟨i, hi, hz, h1, h2⟩ := info_of Try.info68
  obtain ⟨v', w', a1, a2, a3, a4⟩ := run_append_own (P := Try.prog) w base 28 28 68 i _ 2 24 Try.underlying28 hi hz h1 h2 (by simp [Value.cells]) (by omega) v l.length (l.flatMap wv) h ⟨b, o, none⟩ m.length c (m.flatMap wv) (wv_len m)
    (fun j u hu => by
      rw [Go.WideShapes.add_plain]
      exact hm j u hu) (wv_one m) (by unfold maxLen; omega) (by omega) hb
  refine ⟨v', w', a1, ?_, a3⟩
  rw [List.length_append, List.flatMap_append]
  exact a2

/-- All of a list of writes, behind nothing. -/
theorem copy_wrs {w : World} {u : Value} {l : List (Nat × List UInt8)} (h : w.ownsRow 0 68 2 u l.length (l.flatMap wv)) (base : Nat) (hb : base ≤ w.heap.size) (hs : l.length ≤ 2097152) :
    ∃ v' w', (Builtin.append_ #[28, 28] 28 #[.slice none 0 0, u]).run Try.prog w = .ok v' w' ∧ w'.ownsRow base 68 2 v' l.length (l.flatMap wv) ∧ w.grownBy w' none := by
  rcases h.2 with ⟨rfl, hn⟩ | ⟨g, cap, cur, rfl, _⟩
  · obtain rfl := List.length_eq_zero_iff.1 hn
    obtain ⟨i, hi, hz, h1, h2⟩ := info_of Try.info68
    refine ⟨_, _, run_append_owned_none w base 28 28 68 i 2 Try.underlying28 hi _ 0 [] (World.ownsRow_nil w base 68 2), World.ownsRow_nil w base 68 2, ⟨rfl, rfl, rfl, Nat.le_refl _, fun _ _ _ => rfl⟩⟩
  · have := append_wrs (w := w) (v := .slice none 0 0) (l := []) (base := base) (World.ownsRow_nil w base 68 2) g 0 cap l (fun j u hu => by
      rw [Nat.zero_add]
      have hj : j < l.length * 2 := by have := (List.getElem?_eq_some_iff.1 hu).1; rwa [wv_len] at this
      rw [h.cellAt j hj, hu]) (by simpa using hs) hb
    rw [List.nil_append] at this
    exact this

theorem own_weak {w : World} {base base' e size : Nat} {v : Value} {n : Nat} {xs : List Value} (h : w.ownsRow base e size v n xs) (hb : base' ≤ base) : w.ownsRow base' e size v n xs := by
  refine ⟨h.1, ?_⟩
  rcases h.2 with hn | ⟨g, cap, cur, hv, h1, h2⟩
  · exact .inl hn
  · exact .inr ⟨g, cap, cur, hv, Nat.le_trans hb h1, h2⟩
theorem own_form {w : World} {base e size : Nat} {v : Value} {n : Nat} {xs : List Value} (h : w.ownsRow base e size v n xs) : ∃ o c, v = .slice o n c := by
  rcases h.2 with ⟨rfl, rfl⟩ | ⟨g, cap, cur, rfl, _⟩
  · exact ⟨_, _, rfl⟩
  · exact ⟨_, _, rfl⟩

set_option maxHeartbeats 1000000 in
theorem ref_write_on {w : World} (a u : Option Addr) (n c k : Nat) (f : Int) (off : Bool) (Q : List (Nat × List UInt8)) (hu : w.ownsRow 0 68 2 (.slice u Q.length k) Q.length (Q.flatMap wv)) (hQ : Q.length ≤ 1048576)
    (x : Nat) (hx : x < n) (s : ByteArray) (hs : s.size = 32) (hb : (rburn f off).2.2 = true) (hf : -1 ≤ f ∧ f ≤ 9223372036854775807) :
    Calls Try.prog 12 #[.agg #[.slice a n c, .slice u Q.length k, .int .i64 f, .bool off], .int .i64 (x : Int), .string s] w fun e w' =>
      ∃ o k', e = .returned (.tuple #[.agg #[.slice a n c, .slice o (Q.length + 1) k', .int .i64 (rburn f off).1, .bool false], .int .i64 0]) ∧ w'.ownsRow w.heap.size 68 2 (.slice o (Q.length + 1) k') (Q.length + 1) ((Q ++ [(x, s.data.toList)]).flatMap wv) ∧ Kept (fun _ => False) w w' := by
  have hr : rburn f off = ((rburn f off).1, false, true) := by
    unfold rburn at hb ⊢
    split
    · rename_i h; rw [if_pos h] at hb; cases hb
    · rfl
  have HB := (show Hid _ from ref_burns a u n c Q.length k f off hf)
  rw [hr] at HB
  generalize (rburn f off).1 = f' at *
  have h1 : ¬ (x : Int) < 0 := by omega
  have h2 : ¬ (n : Int) ≤ (x : Int) := by omega
  have h3 : (s.size : Int) = 32 := by omega
  obtain ⟨W, hW⟩ : ∃ W, W = (((w.alloc (.cells #[.slice a n c, .slice u Q.length k, .int .i64 f', .bool false] 30)).alloc (.cells #[.slice none 0 0, .slice none 0 0, .int .i64 0, .bool false] 30)).alloc (.cells #[.slice a n c, .slice u Q.length k, .int .i64 f', .bool false] 30)).alloc (.cells #[.slice a n c, .slice u Q.length k, .int .i64 f', .bool false] 30) := ⟨_, rfl⟩
  have kW : Kept (fun _ => False) w W := by rw [hW]; exact ((((Kept.refl _ w).alloc _).alloc _).alloc _).alloc _
  have sW : W.heap.size = w.heap.size + 4 := by rw [hW]; simp
  have huW : W.ownsRow 0 68 2 (.slice u Q.length k) Q.length (Q.flatMap wv) := ownsRow_kept hu (fun i hi => kW.block i (hu.lt i hi).2 (fun q => q))
  obtain ⟨v1, W1, r1, o1, g1⟩ := copy_wrs huW W.heap.size (Nat.le_refl _) (by omega)
  have k1 : Kept (fun _ => False) W W1 := (Kept.refl _ W).grown g1 (fun k hk => by cases hk)
  obtain ⟨v2, W2, r2, o2, g2⟩ := append_wrs (o1.alloc (.cells #[.int .i64 (x : Int), .string s] 68)) W1.heap.size 0 1 [(x, s.data.toList)] (fun j y hy => by
    have hy' : ([.int .i64 (x : Int), .string s] : List Value)[j]? = some y := by simpa [wv] using hy
    rw [Nat.zero_add, World.cell?_alloc_new]
    simpa using hy') (by simp; omega) (Nat.le_trans k1.size (by simp))
  have k2 : Kept (fun _ => False) W W2 := (k1.alloc _).grown g2 (fun k hk => .inr (o1.lt k hk).1)
  have cells : ∀ (V : World), Kept (fun _ => False) W V → (V.cell? ⟨w.heap.size, 0, none⟩ = some (.slice a n c) ∧ V.cell? ⟨w.heap.size, 1, none⟩ = some (.slice u Q.length k) ∧ V.cell? ⟨w.heap.size, 2, none⟩ = some (.int .i64 f') ∧ V.cell? ⟨w.heap.size, 3, none⟩ = some (.bool false)) ∧
      (V.cell? ⟨w.heap.size + 1, 0, none⟩ = some (.slice none 0 0) ∧ V.cell? ⟨w.heap.size + 1, 1, none⟩ = some (.slice none 0 0) ∧ V.cell? ⟨w.heap.size + 1, 2, none⟩ = some (.int .i64 0) ∧ V.cell? ⟨w.heap.size + 1, 3, none⟩ = some (.bool false)) ∧ (∀ j, V.frozen? ⟨w.heap.size, j, none⟩ = false) ∧ (∀ j, V.frozen? ⟨w.heap.size + 1, j, none⟩ = false) := by
    intro V kV
    have hc : ∀ i j x, W.cell? ⟨i, j, none⟩ = some x → V.cell? ⟨i, j, none⟩ = some x := fun i j x h => kV.cell h (fun q => q)
    have hf : ∀ i j, i < W.heap.size → V.frozen? ⟨i, j, none⟩ = W.frozen? ⟨i, j, none⟩ := fun i j h => World.frozen?_of_block (w := W) (a := ⟨i, j, none⟩) (kV.block i h (fun q => q))
    refine ⟨⟨hc _ _ _ ?_, hc _ _ _ ?_, hc _ _ _ ?_, hc _ _ _ ?_⟩, ⟨hc _ _ _ ?_, hc _ _ _ ?_, hc _ _ _ ?_, hc _ _ _ ?_⟩, fun j => (hf w.heap.size j (by omega)).trans ?_, fun j => (hf (w.heap.size + 1) j (by omega)).trans ?_⟩ <;> (rw [hW]; simp [go_sem])
  obtain ⟨⟨p0, p1, p2, p3⟩, ⟨q0, q1, q2, q3⟩, pf, qf⟩ := cells W1 k1
  obtain ⟨⟨s0, s1, s2, s3⟩, ⟨t0, t1, t2, t3⟩, sf, tf⟩ := cells W2 k2
  clear cells
  obtain ⟨uo, uc, rfl⟩ := own_form o2
  have e1 : (Q ++ [(x, s.data.toList)]).length = Q.length + 1 := by simp
  rw [e1] at o2 r2
  have HO := (show Hid _ from o2)
  have HK := (show Hid _ from (⟨kW, k2, sW⟩ : _ ∧ _ ∧ _))
  have HW := (show Hid _ from hW)
  replace r2 : (Builtin.append_ #[28, 28] 28 #[v1, .slice (some ⟨W1.heap.size, 0, none⟩) 1 1]).run Try.prog (W1.alloc (.cells #[.int .i64 (x : Int), .string s] 68)) = .ok (.slice uo (Q.length + 1) uc) W2 := r2
  have R1 := (show Hid _ from r1)
  have R2 := (show Hid _ from r2)
  clear hu huW o1 o2 g1 g2 k1 k2 kW sW hW e1 hr hb r1 r2
  generalize Q.length = m at *
  have HQ := (show Hid _ from hQ)
  clear hQ
  go_enter Try.func12, Try.ntmps12
  go_wp2_with fail
  refine Calls.mono (HB.out _) ?_; rintro e w1 ⟨rfl, rfl⟩
  go_wp2_with (first | ((with_reducible apply st_append (x := .tmp 33)); (case ho => rfl); (case hgd => rfl); (case hr => rw [← HW.out]; exact R1.out)) | ((with_reducible apply st_append (x := .tmp 37)); (case ho => rfl); (case hgd => rfl); (case hr => exact R2.out)))
  refine bodyPost_ret (end_cell_tmp rfl rfl (load30 (by simp [go_sem, t0]; rfl) (by simp [go_sem, t1]; rfl) (by simp [go_sem, t2]; rfl) (by simp [go_sem, t3]; rfl))) rfl ?_
  have kf := (((((Kept.refl (fun i => i = w.heap.size ∨ i = w.heap.size + 1) W2).setCell (p := ⟨w.heap.size, 1, none⟩) (.inl (.inl rfl)) (.slice uo (m + 1) uc)).setCell (p := ⟨w.heap.size + 1, 0, none⟩) (.inl (.inr rfl)) (.slice a n c)).setCell (p := ⟨w.heap.size + 1, 1, none⟩) (.inl (.inr rfl)) (.slice uo (m + 1) uc)).setCell (p := ⟨w.heap.size + 1, 2, none⟩) (.inl (.inr rfl)) (.int .i64 f')).setCell (p := ⟨w.heap.size + 1, 3, none⟩) (.inl (.inr rfl)) (.bool false)
  obtain ⟨kW, k2, sW⟩ := HK.out
  refine ⟨uo, uc, rfl, ?_, (kW.trans k2 (fun _ q => .inl q)).trans kf (fun i hi => .inr (by omega))⟩
  exact own_weak (ownsRow_kept HO.out (fun i hi => kf.block i (World.ownsRow.lt HO.out i hi).2 (fun q => by have := (World.ownsRow.lt HO.out i hi).1; omega))) (by omega)
end Go.Proofs.Ytlkkeabenklefaa
