/- Acts, as they came in; what a call does to an index. -/
import Derived.Test.YtgjeobmbfeinnaaFnc
import Derived.Test.YtgjeobmbfeinnaaOpenV
import Derived.Deep.Slices
namespace Go.Proofs.Ytgjeobmbfeinnaa
open Go.ChangeShapes Go.WideShapes Go.RowKit
set_option linter.unusedVariables false
set_option maxRecDepth 100000

open Go.ChangeAt
structure Hac where
  kd : Int
  n : Int
  v : Val
def acv (x : Hac) : List Value := [.int .i64 x.kd, .int .i64 x.n, .int .i64 x.v.k, .int .i64 x.v.n, .string x.v.s]
theorem acv_ne (x : Hac) : acv x ≠ [] := by simp [acv]
theorem acv_len (x : Hac) : (acv x).length = 5 := rfl
theorem cells30 : Try.prog.cellsOf 30 = 5 := by kernel_rfl
theorem fields30 : ∃ f0 f1 f2 : Field, Try.prog.underlying 30 = some (.struct #[f0, f1, f2]) ∧ (f0.type = 3 ∧ f0.offset = 0) ∧ (f1.type = 3 ∧ f1.offset = 1) ∧ (f2.type = 24 ∧ f2.offset = 2) :=
  ⟨_, _, _, Try.underlying30, ⟨rfl, rfl⟩, ⟨rfl, rfl⟩, ⟨rfl, rfl⟩⟩
theorem open_act {H : Type} {enc : TypeId × Value → H} {W : World} {fuel : Nat} {b o i : Nat} {cs : List Value} {x : DataW H × List MemPlace} (hlen : cs.length = 5) (hcell : ∀ j, j < 5 → W.cell? ((Addr.mk b o none).add (i * 5 + j)) = cs[j]?) (h2 : DataW.trod enc Try.prog W 0 (fun _ => true) true fuel 30 cs = some x) : ∃ y : Hac, y.v.fit ∧ W.cell? ⟨b, o + i * 5, none⟩ = some (.int .i64 y.kd) ∧ W.cell? ⟨b, o + i * 5 + 1, none⟩ = some (.int .i64 y.n) ∧ W.cell? ⟨b, o + i * 5 + 2, none⟩ = some (.int .i64 y.v.k) ∧ W.cell? ⟨b, o + i * 5 + 3, none⟩ = some (.int .i64 y.v.n) ∧ W.cell? ⟨b, o + i * 5 + 4, none⟩ = some (.string y.v.s) := by
  obtain ⟨f0, f1, f2, hu, ⟨t0, o0⟩, ⟨t1, o1⟩, ⟨t2, o2⟩⟩ := fields30
  obtain ⟨xs, k, _, _, _, hxl, hfs⟩ := DataW.trod_struct hu h2
  match xs, hxl, cs, hlen with
  | [y0, y1, y2], _, [v0, v1, v2, v3, v4], _ =>
    have g0 := hfs 0 f0 rfl
    have g1 := hfs 1 f1 rfl
    have g2 := hfs 2 f2 rfl
    simp [t0, o0, cells3] at g0
    simp [t1, o1, cells3] at g1
    simp [t2, o2, cells24] at g2
    obtain ⟨z0, e0, _, w0⟩ := DataW.trod_int Try.underlying3 g0
    obtain ⟨z1, e1, _, w1⟩ := DataW.trod_int Try.underlying3 g1
    obtain ⟨kk, nn, s, e2, hs⟩ := open_cells (by rfl) g2
    cases e0; cases e1; cases e2
    have hc0 := hcell 0 (by omega)
    have hc1 := hcell 1 (by omega)
    have hc2 := hcell 2 (by omega)
    have hc3 := hcell 3 (by omega)
    have hc4 := hcell 4 (by omega)
    rw [Go.WideShapes.add_plain] at hc0 hc1 hc2 hc3 hc4
    exact ⟨⟨z0, z1, ⟨kk, nn, s⟩⟩, hs, hc0, by rw [Nat.add_assoc]; exact hc1, by rw [Nat.add_assoc]; exact hc2, by rw [Nat.add_assoc]; exact hc3, by rw [Nat.add_assoc]; exact hc4⟩
theorem gather {α : Type} {P : Nat → α → Prop} (n : Nat) (h : ∀ i, i < n → ∃ x, P i x) : ∃ l : List α, l.length = n ∧ ∀ i (hi : i < l.length), P i l[i] := by
  induction n with
  | zero => exact ⟨[], rfl, fun i hi => absurd hi (Nat.not_lt_zero _)⟩
  | succ n ih =>
    obtain ⟨l, hl, hp⟩ := ih (fun i hi => h i (by omega))
    obtain ⟨x, hx⟩ := h n (by omega)
    refine ⟨l ++ [x], by simp [hl], fun i hi => ?_⟩
    by_cases c : i < l.length
    · rw [List.getElem_append_left c]; exact hp i c
    · have e : i = l.length := by simp at hi; omega
      subst e
      rw [List.getElem_append_right (Nat.le_refl _)]
      simp only [Nat.sub_self, List.getElem_cons_zero]
      rw [hl]; exact hx
theorem open_acts {H : Type} {enc : TypeId × Value → H} {W : World} {a1 : Option Addr} {len1 cap1 : Nat} {d : DataW H} {ps : List MemPlace} (h : DataW.Trod enc Try.prog W 0 (fun _ => true) true 22 (.slice a1 len1 cap1) d ps) :
    ∃ l : List Hac, l.length = len1 ∧ Rw acv 5 W a1 l ∧ ∀ x ∈ l, x.v.fit := by
  obtain ⟨fuel, hf⟩ := h
  rcases Deep.open_slice Try.underlying22 hf with ⟨hcs, _⟩ | ⟨a, len, cap, m, n, D, Pl, hcs, _, hl, hm, hmm, _, hx⟩
  · simp [Value.cells] at hcs
    obtain ⟨rfl, rfl, rfl⟩ := hcs
    exact ⟨[], rfl, Rw.nil _ _ _ _, fun x hx => by simp at hx⟩
  · simp [Value.cells] at hcs
    obtain ⟨rfl, rfl, rfl⟩ := hcs
    simp only [if_true] at hmm
    have hA : ∀ i, i < len1 → ∃ x : Hac, ∃ b o, a = ⟨b, o, none⟩ ∧ x.v.fit ∧ W.cell? ⟨b, o + i * 5, none⟩ = some (.int .i64 x.kd) ∧ W.cell? ⟨b, o + i * 5 + 1, none⟩ = some (.int .i64 x.n) ∧ W.cell? ⟨b, o + i * 5 + 2, none⟩ = some (.int .i64 x.v.k) ∧ W.cell? ⟨b, o + i * 5 + 3, none⟩ = some (.int .i64 x.v.n) ∧ W.cell? ⟨b, o + i * 5 + 4, none⟩ = some (.string x.v.s) := fun i hi => by
      have hspot : a.spot = none := by
        obtain ⟨cs, h1, _⟩ := hx 0 (by omega)
        rw [cells30] at h1
        obtain ⟨_, hlen, hcell⟩ := World.cells?_some h1
        have h0 := hcell 0 (by omega)
        rw [List.getElem?_eq_getElem (by omega)] at h0
        simpa [Addr.add] using World.cell?_spot h0
      obtain ⟨cs, h1, h2⟩ := hx i (by omega)
      rw [cells30] at h1
      obtain ⟨_, hlen, hcell⟩ := World.cells?_some h1
      obtain ⟨b, o, spot⟩ := a
      have hs : spot = none := hspot
      subst hs
      obtain ⟨y, hat⟩ := open_act (b := b) (o := o) (i := i) hlen (fun j hj => by have := hcell j hj; rw [Deep.add_add] at this; exact this) h2
      exact ⟨y, b, o, rfl, hat⟩
    obtain ⟨l, hl1, hl2⟩ := gather len1 hA
    refine ⟨l, hl1, fun hne => ?_, fun x hx => ?_⟩
    · have h0 : 0 < l.length := List.length_pos_iff.2 hne
      obtain ⟨b, o, rfl, _⟩ := hl2 0 h0
      refine ⟨b, o, rfl, fun i x hx j u hu => ?_⟩
      obtain ⟨hi, rfl⟩ := List.getElem?_eq_some_iff.1 hx
      obtain ⟨b', o', e, _, c0, c1, c2, c3, c4⟩ := hl2 i hi
      cases e
      match j, hu with
      | 0, hu => cases hu; exact c0
      | 1, hu => cases hu; exact c1
      | 2, hu => cases hu; exact c2
      | 3, hu => cases hu; exact c3
      | 4, hu => cases hu; exact c4
    · obtain ⟨i, hi, rfl⟩ := List.mem_iff_getElem.1 hx
      obtain ⟨b', o', e, hf, _⟩ := hl2 i hi
      exact hf
theorem Rw.act {w : World} {a : Option Addr} {l : List Hac} (h : Rw acv 5 w a l) {i : Nat} (hi : i < l.length) : ∃ b o, a = some ⟨b, o, none⟩ ∧ b < w.heap.size ∧ w.cell? ⟨b, o + i * 5, none⟩ = some (.int .i64 l[i].kd) ∧ w.cell? ⟨b, o + i * 5 + 1, none⟩ = some (.int .i64 l[i].n) ∧ w.cell? ⟨b, o + i * 5 + 2, none⟩ = some (.int .i64 l[i].v.k) ∧ w.cell? ⟨b, o + i * 5 + 3, none⟩ = some (.int .i64 l[i].v.n) ∧ w.cell? ⟨b, o + i * 5 + 4, none⟩ = some (.string l[i].v.s) := by
  have hne : l ≠ [] := fun e => by rw [e] at hi; simp at hi
  obtain ⟨b, o, e, hc⟩ := h hne
  exact ⟨b, o, e, h.lt acv_ne e hne, hc i _ (List.getElem?_eq_getElem hi) 0 _ rfl, hc i _ (List.getElem?_eq_getElem hi) 1 _ rfl, hc i _ (List.getElem?_eq_getElem hi) 2 _ rfl, hc i _ (List.getElem?_eq_getElem hi) 3 _ rfl, hc i _ (List.getElem?_eq_getElem hi) 4 _ rfl⟩
/-! ### What a call does -/
def actM (m : List Pr) (x : Hac) : List Pr := if x.kd = 1 then dosO m ⟨x.v, x.n⟩ else dosW m ⟨x.v, x.n⟩
def actF (F : Val → List Int) (x : Hac) : Val → List Int := if x.kd = 1 then oF F x.v x.n else wF F x.v x.n
def actN (F : Val → List Int) (x : Hac) (c nb : Nat) : Nat := if x.kd = 1 then nb else wN F x.v x.n c nb
theorem actM_does (m : List Pr) (x : Hac) : kept x.kd ⟨x.v, x.n⟩ m ++ (if ¬ x.kd = 1 ∧ (⟨x.v, x.n⟩ : Pr) ∉ m ∧ may x.v then [⟨x.v, x.n⟩] else []) = actM m x := by
  unfold actM kept
  by_cases c : x.kd = 1
  · rw [if_pos c, if_neg (fun q => q.1 c), List.append_nil]
    unfold dosO
    congr 1
    funext q
    simp [c]
  · rw [if_neg c]
    have e : m.filter (fun q => decide (¬ (q = (⟨x.v, x.n⟩ : Pr) ∧ x.kd = 1))) = m := List.filter_eq_self.2 (fun q _ => decide_eq_true (fun h => c h.2))
    rw [e]
    unfold dosW
    by_cases d : (⟨x.v, x.n⟩ : Pr) ∉ m ∧ may x.v
    · rw [if_pos ⟨c, d⟩, if_pos d]
    · rw [if_neg (fun q => d q.2), if_neg d, List.append_nil]
theorem Rel.act {F : Val → List Int} {m : List Pr} (h : Rel F m) (x : Hac) : Rel (actF F x) (actM m x) := by
  unfold actF actM
  by_cases c : x.kd = 1
  · rw [if_pos c, if_pos c]; exact (h.wo x.v x.n).1
  · rw [if_neg c, if_neg c]; exact (h.with x.v x.n).1
theorem actM_len {F : Val → List Int} {m : List Pr} (h : Rel F m) (x : Hac) : (actM m x).length ≤ m.length + 1 := by
  unfold actM
  by_cases c : x.kd = 1
  · rw [if_pos c]; unfold dosO; exact Nat.le_succ_of_le (List.length_filter_le _ _)
  · rw [if_neg c]; unfold dosW; split
    · rw [List.length_append]; exact Nat.le_refl _
    · omega
theorem St.act {F : Val → List Int} {m : List Pr} {nb : Nat} (h : St F m.length nb) (r : Rel F m) (x : Hac) (hx : x.v.fit) : St (actF F x) (actM m x).length (actN F x m.length nb) := by
  unfold actF actM actN
  by_cases c : x.kd = 1
  · rw [if_pos c, if_pos c, if_pos c, ← (r.wo x.v x.n).2]; exact h.wo x.v x.n
  · rw [if_neg c, if_neg c, if_neg c, ← (r.with x.v x.n).2]; exact h.with x.v hx x.n
/-- As many buckets as the most numbers let them be. -/
def Bk (most nb c : Nat) : Prop := c ≤ most ∧ most ≤ 32 * nb ∧ ((most = 0 ∧ nb = 0) ∨ (nb = 1 ∧ 1 ≤ most) ∨ (16 * nb < most ∧ 1 ≤ nb))
theorem Bk.zero : Bk 0 0 0 := ⟨Nat.le_refl _, Nat.le_refl _, .inl ⟨rfl, rfl⟩⟩
theorem Bk.nb {most nb c : Nat} (h : Bk most nb c) (hm : most ≤ 200) : nb ≤ 20 := by obtain ⟨h1, h2, h3⟩ := h; omega
theorem Bk.act {F : Val → List Int} {m : List Pr} {most nb : Nat} (h : Bk most nb m.length) (r : Rel F m) (x : Hac) :
    ((actM m x).length > most → Bk (actM m x).length (actN F x m.length nb) (actM m x).length ∧ (max (8 * nb) 8 = 8 * actN F x m.length nb ∨ (max (8 * nb) 8 = 4 * actN F x m.length nb ∧ 16 * actN F x m.length nb < (actM m x).length))) ∧ (¬ (actM m x).length > most → Bk most (actN F x m.length nb) (actM m x).length ∧ actN F x m.length nb = nb) := by
  obtain ⟨h1, h2, h3⟩ := h
  unfold actM actN
  by_cases c : x.kd = 1
  · rw [if_pos c, if_pos c]
    have hl : (dosO m ⟨x.v, x.n⟩).length ≤ m.length := List.length_filter_le _ _
    generalize (dosO m ⟨x.v, x.n⟩).length = c' at *
    exact ⟨fun q => absurd q (by omega), fun q => ⟨⟨by omega, h2, h3⟩, rfl⟩⟩
  · rw [if_neg c, if_neg c, ← (r.with x.v x.n).2]
    unfold wC wN
    by_cases d : isNew F x.v x.n
    · rw [if_pos d]
      by_cases e : m.length = 32 * nb
      · rw [if_pos ⟨d, e⟩]
        generalize m.length = c0 at *
        refine ⟨fun q => ⟨⟨Nat.le_refl _, ?_, ?_⟩, ?_⟩, fun q => absurd q (by omega)⟩
        · omega
        · omega
        · omega
      · rw [if_neg (fun q => e q.2)]
        generalize m.length = c0 at *
        refine ⟨fun q => ⟨⟨Nat.le_refl _, ?_, ?_⟩, ?_⟩, fun q => ⟨⟨by omega, h2, h3⟩, rfl⟩⟩
        · omega
        · omega
        · omega
    · rw [if_neg d, if_neg (fun q => d q.1)]
      exact ⟨fun q => absurd q (by omega), fun q => ⟨⟨h1, h2, h3⟩, rfl⟩⟩
/-- done, of an index that the law's pairs are kept beside. -/
theorem done_is (p : Option Addr) (F : Val → List Int) (nb M : Nat) (m : List Pr) (hM : M ≤ 980) (hnb : nb ≤ 100) (hc : m.length ≤ 900) (st : St F m.length nb) (r : Rel F m) (x : Hac) (hx : x.v.fit) (w : World) (h : Ix w p F nb M) :
    Calls Try.prog 8 #[.agg #[.pointer p, .int .i64 m.length], .agg #[.int .i64 x.kd, .int .i64 x.n, .int .i64 x.v.k, .int .i64 x.v.n, .string x.v.s]] w fun e w' => ∃ p', e = .returned (.agg #[.pointer p', .int .i64 (actM m x).length]) ∧ Ix w' p' (actF F x) (actN F x m.length nb) (M + 1) ∧ Below w.heap.size w w' := by
  unfold actM actF actN
  by_cases c : x.kd = 1
  · rw [if_pos c, if_pos c, if_pos c]
    refine (done_wo p m.length x.kd x.n x.v c w (fun w' p' c' => c' = ((dosO m ⟨x.v, x.n⟩).length : Int) ∧ Ix w' p' (oF F x.v x.n) nb (M + 1)) (fun w1 w2 p' c' R q hR far => ⟨q.1, q.2.quiet hR far⟩) (fun w' hb => ?_)).mono fun e w' ⟨p', c', q1, ⟨q2, q3⟩, q4⟩ => ⟨p', by rw [q1, q2], q3, q4⟩
    refine (Without_is p m.length F nb M hM hnb hc x.v hx x.n (fun hn => ?_) w' (h.next hb)).mono fun e w'' ⟨p', q1, q2, q3⟩ => ⟨p', _, q1, ⟨by rw [(r.wo x.v x.n).2], q2⟩, q3⟩
    have := (r.mem _ _).1 hn
    exact List.length_pos_of_mem this
  · rw [if_neg c, if_neg c, if_neg c]
    refine (done_with p m.length x.kd x.n x.v c w (fun w' p' c' => c' = ((dosW m ⟨x.v, x.n⟩).length : Int) ∧ Ix w' p' (wF F x.v x.n) (wN F x.v x.n m.length nb) (M + 1)) (fun w1 w2 p' c' R q hR far => ⟨q.1, q.2.quiet hR far⟩) (fun w' hb => ?_)).mono fun e w' ⟨p', c', q1, ⟨q2, q3⟩, q4⟩ => ⟨p', by rw [q1, q2], q3, q4⟩
    exact (With_is p m.length F nb M hM hnb st.le hc st.fit x.v hx x.n w' (h.next hb)).mono fun e w'' ⟨p', q1, q2, q3⟩ => ⟨p', _, q1, ⟨by rw [(r.with x.v x.n).2], q2⟩, q3⟩
theorem doesA_is (a : Option Addr) (cc : Nat) (m : List Pr) (hl : m.length ≤ 900) (x : Hac) (hx : x.v.fit) (w : World) (hu : Sl pv 4 w (.slice a m.length cc) m) :
    Calls Try.prog 9 #[.slice a m.length cc, .agg #[.int .i64 x.kd, .int .i64 x.n, .int .i64 x.v.k, .int .i64 x.v.n, .string x.v.s]] w fun e w' => ∃ a' c', e = .returned (.slice a' (actM m x).length c') ∧ Sl pv 4 w' (.slice a' (actM m x).length c') (actM m x) ∧ Below w.heap.size w w' := by
  refine (does_is a cc m hl x.kd x.n x.v hx w hu).mono fun e w' ⟨v', q1, q2, q3⟩ => ?_
  rw [actM_does] at q2
  obtain ⟨a', c', rfl⟩ := slices_shape q2
  exact ⟨a', c', q1, q2, q3⟩
/-- Pairs stay where a variable that holds an index is written. -/
theorem Sl.prq {w w' : World} {R : Nat} {q0 : Option Addr} {c0 : Int} {v : Value} {m : List Pr} (h : Sl pv 4 w v m) (hR : Blk w R 27 [.pointer q0, .int .i64 c0]) (far : ∀ k, k ≠ R → w'.heap[k]? = w.heap[k]?) : Sl pv 4 w' v m := by
  obtain ⟨a, c, e, hr, h3, h4⟩ := h
  refine ⟨a, c, e, fun hne => ?_, h3, h4⟩
  obtain ⟨b, o, e1, hc⟩ := hr hne
  have hb : b ≠ R := by
    rintro rfl
    obtain ⟨x, l, rfl⟩ := List.exists_cons_of_ne_nil hne
    have := hc 0 x rfl 2 _ rfl
    rcases Blk.two_cells hR this with q | q <;> cases q
  refine ⟨b, o, e1, fun i x hx j u hu => ?_⟩
  rw [World.cell?_of_block (w := w) (far b hb)]
  exact hc i x hx j u hu
end Go.Proofs.Ytgjeobmbfeinnaa
