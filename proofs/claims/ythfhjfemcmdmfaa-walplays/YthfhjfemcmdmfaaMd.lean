/- The document's disk: burns, Fuse. The document's disk: with. The document's disk: Write. The document's disk: Read. filled: a sector of one byte. The document's disk: New. -/
import Derived.Test.YthfhjfemcmdmfaaOpen
import Derived.Laws.ResultCell
namespace Go.Proofs.Ythfhjfemcmdmfaa
open Go.ChangeShapes Go.WideShapes Go.ChangeAt Go.RowKit
set_option linter.unusedVariables false
set_option maxRecDepth 100000

theorem end_cell_tmp {fn : Func} {p u : Tmp} {ty : TypeId} {b : Addr} {v : Value} {tmps : Array Value} {w : World} (h : fn.results = #[.cell p ty, .tmp u]) (hp : tmps.getD p undef = .pointer (some b)) (hl : (loadVar ty b).run Try.prog w = .ok v w) :
    (results fn tmps).run Try.prog w = .ok (.tuple #[v, tmps.getD u undef]) w := by
  rw [results_cell_tmp h, hp]
  simp [asAddr, hl, Result.andThen]
theorem end_cell {fn : Func} {p : Tmp} {ty : TypeId} {b : Addr} {v : Value} {tmps : Array Value} {w : World} (h : fn.results = #[.cell p ty]) (hp : tmps.getD p undef = .pointer (some b)) (hl : (loadVar ty b).run Try.prog w = .ok v w) :
    (results fn tmps).run Try.prog w = .ok v w := by
  have hp' : tmps[p]?.getD undef = .pointer (some b) := by rw [← Array.getD_eq_getD_getElem?]; exact hp
  simp only [results, h]
  simp [hp', asAddr, hl]
theorem load30 {w : World} {b : Nat} {c0 c1 c2 c3 : Value} (h0 : w.cell? ⟨b, 0, none⟩ = some c0) (h1 : w.cell? ⟨b, 1, none⟩ = some c1) (h2 : w.cell? ⟨b, 2, none⟩ = some c2) (h3 : w.cell? ⟨b, 3, none⟩ = some c3) : (loadVar 37 ⟨b, 0, none⟩).run Try.prog w = .ok (.agg #[c0, c1, c2, c3]) w := by
  have hl := loads [c0, c1, c2, c3] (n := 4) (w := w) (b := b) (o := 0) rfl (fun j x hx => by
    match j, hx with
    | 0, hx => cases hx; simpa using h0
    | 1, hx => cases hx; simpa using h1
    | 2, hx => cases hx; simpa using h2
    | 3, hx => cases hx; simpa using h3)
  simp [loadVar, Sem.run_bind, loadCells, hl]

/-- The document's fuse and power behind a write or a flush, and whether there was power. -/
def rburn (f : Int) (off : Bool) : Int × Bool × Bool := if off = true ∨ f = 0 then (-1, true, false) else (if 0 < f then f - 1 else f, false, true)

theorem ref_burns (a b : Option Addr) (n c m k : Nat) (f : Int) (off : Bool) (hf : -1 ≤ f ∧ f ≤ 9223372036854775807) (w : World) :
    Calls Try.prog 62 #[.agg #[.slice a n c, .slice b m k, .int .i64 f, .bool off]] w fun e w' =>
      e = .returned (.tuple #[.agg #[.slice a n c, .slice b m k, .int .i64 (rburn f off).1, .bool (rburn f off).2.1], .bool (rburn f off).2.2]) ∧ w' = (w.alloc (.cells #[.slice a n c, .slice b m k, .int .i64 (rburn f off).1, .bool (rburn f off).2.1] 37)).alloc (.cells #[.slice a n c, .slice b m k, .int .i64 (rburn f off).1, .bool (rburn f off).2.1] 37) := by
  unfold rburn
  cases off with
  | true =>
    rw [if_pos (.inl rfl)]
    go_enter Try.func62, Try.ntmps62
    go_wp2_with fail
    refine bodyPost_ret (end_cell_tmp rfl rfl (load30 (by simp [go_sem]; rfl) (by simp [go_sem]; rfl) (by simp [go_sem]; rfl) (by simp [go_sem]; rfl))) rfl ?_
    exact ⟨rfl, rfl⟩
  | false =>
    by_cases h0 : f = 0
    · rw [if_pos (.inr h0)]
      subst h0
      go_enter Try.func62, Try.ntmps62
      go_wp2_with fail
      refine bodyPost_ret (end_cell_tmp rfl rfl (load30 (by simp [go_sem]; rfl) (by simp [go_sem]; rfl) (by simp [go_sem]; rfl) (by simp [go_sem]; rfl))) rfl ?_
      exact ⟨rfl, rfl⟩
    · rw [if_neg (by simp [h0])]
      have h0' : (f == 0) = false := by simp [h0]
      by_cases hp : 0 < f
      · rw [if_pos hp]
        go_enter Try.func62, Try.ntmps62
        go_wp2_with fail
        refine bodyPost_ret (end_cell_tmp rfl rfl (load30 (by simp [go_sem]; rfl) (by simp [go_sem]; rfl) (by simp [go_sem]; rfl) (by simp [go_sem]; rfl))) rfl ?_
        exact ⟨rfl, rfl⟩
      · rw [if_neg hp]
        go_enter Try.func62, Try.ntmps62
        go_wp2_with fail
        refine bodyPost_ret (end_cell_tmp rfl rfl (load30 (by simp [go_sem]; rfl) (by simp [go_sem]; rfl) (by simp [go_sem]; rfl) (by simp [go_sem]; rfl))) rfl ?_
        exact ⟨rfl, rfl⟩

theorem ref_fuse (a b : Option Addr) (n c m k : Nat) (f : Int) (off : Bool) (x : Int) (w : World) :
    Calls Try.prog 44 #[.agg #[.slice a n c, .slice b m k, .int .i64 f, .bool off], .int .i64 x] w fun e w' =>
      e = .returned (.agg #[.slice a n c, .slice b m k, .int .i64 (max x (-1)), .bool off]) ∧ Kept (fun _ => False) w w' := by
  have hm := max_fuse x
  generalize max x (-1) = y at *
  go_enter Try.func44, Try.ntmps44
  go_wp2_with fail
  refine bodyPost_ret (end_cell rfl rfl (load30 (by simp [go_sem]; rfl) (by simp [go_sem]; rfl) (by simp [go_sem]; rfl) (by simp [go_sem]; rfl))) rfl ?_
  exact ⟨rfl, ((Kept.refl _ w).alloc _).alloc _⟩
end Go.Proofs.Ythfhjfemcmdmfaa

namespace Go.Proofs.Ythfhjfemcmdmfaa
open Go.ChangeShapes Go.WideShapes Go.ChangeAt Go.RowKit
set_option linter.unusedVariables false
set_option maxRecDepth 100000

theorem ref_with {w : World} (l : List ByteArray) (b c : Nat) (h : w.ownsRow 0 9 1 (.slice (some ⟨b, 0, none⟩) l.length c) l.length (sv l)) (a : Nat) (ha : a < l.length) (hl : l.length ≤ 4096) (s : ByteArray) :
    Calls Try.prog 63 #[.slice (some ⟨b, 0, none⟩) l.length c, .int .i64 (a : Int), .string s] w fun e w' =>
      ∃ v', e = .returned v' ∧ w'.ownsRow w.heap.size 9 1 v' l.length (sv (l.set a s)) ∧ Kept (fun _ => False) w w' := by
  have hcell : ∀ k (hk : k < l.length), w.cell? ⟨b, k, none⟩ = some (.string l[k]) := fun k hk => by
    rw [h.cellAt k (by omega)]
    simp [sv, hk]
  have hb : b < w.heap.size := World.block_lt_of_cell? w _ (hcell a ha)
  have hcap : l.length ≤ c := by
    rcases h.2 with ⟨e, _⟩ | ⟨g, cap, cur, e, _, _, hc, _⟩
    · cases e
    · cases e; exact hc
  have hcm : c ≤ 9223372036854775807 := by
    rcases h.2 with ⟨e, _⟩ | ⟨g, cap, cur, e, _, _, _, hc, _⟩
    · cases e
    · cases e; unfold maxLen at hc; omega
  obtain ⟨v1, W1, r1, o1, g1, _⟩ := append_strs (base := w.heap.size) (w := w) (v := .slice none 0 0) (l := []) (World.ownsRow_nil w _ 9 1) b 0 c (l.take a) (fun k hk => by
    rw [List.length_take] at hk
    rw [Nat.zero_add, hcell k (by omega), List.getElem_take]) (by simp; omega) (Nat.le_refl _)
  rw [List.length_take, Nat.min_eq_left (by omega)] at r1
  rw [List.nil_append] at o1
  have k1 : Kept (fun _ => False) w W1 := (Kept.refl _ w).grown g1 (fun k hk => by cases hk)
  have k1' := k1.alloc (.cells #[.string s] 9)
  obtain ⟨v2, W2, r2, o2, g2, _⟩ := append_strs (o1.alloc (.cells #[.string s] 9)) W1.heap.size 0 1 [s] (fun k hk => by
    have : k = 0 := by simpa using hk
    subst this
    simp) (by simp; omega) (Nat.le_trans k1.size (by simp))
  have k2 : Kept (fun _ => False) w W2 := k1'.grown g2 (fun k hk => .inr (o1.lt k hk).1)
  obtain ⟨v3, W3, r3, o3, g3, _⟩ := append_strs o2 b (if c = a + 1 then 0 else a + 1) (c - (a + 1)) (l.drop (a + 1)) (fun k hk => by
    rw [List.length_drop] at hk
    rw [if_neg (by omega), k2.cell (hcell (a + 1 + k) (by omega)) (fun q => q), List.getElem_drop]) (by simp; omega) k2.size
  have k3 : Kept (fun _ => False) w W3 := k2.grown g3 (fun k hk => .inr (o2.lt k hk).1)
  rw [List.length_drop] at r3
  have e : l.take a ++ [s] ++ l.drop (a + 1) = l.set a s := by
    rw [List.set_eq_take_append_cons_drop, if_pos ha, List.append_assoc]
    rfl
  rw [e, List.length_set] at o3
  have HE := (show Hid _ from (⟨o3, k3⟩ : _ ∧ _))
  clear o1 o2 o3 g1 g2 g3 k1 k1' k2 k3 e hcell hb h
  generalize l.set a s = l' at *
  have hai : (a : Int) ≤ (c : Int) := by omega
  generalize l.length = n at *
  clear l
  have r2' : (Builtin.append_ #[26, 26] 26 #[v1, .slice (some ⟨W1.heap.size, 0, none⟩) 1 1]).run Try.prog (W1.alloc (.cells #[.string s] 9)) = .ok v2 W2 := r2
  clear r2
  by_cases hc : c = a + 1
  · subst hc
    rw [if_pos rfl, Nat.sub_self, show n - (a + 1) = 0 by omega] at r3
    go_enter Try.func63, Try.ntmps63
    go_wp2_with (first | ((with_reducible apply st_append (x := .tmp 8)); (case ho => rfl); (case hgd => rfl); (case hr => exact r1)) | ((with_reducible apply st_append (x := .tmp 13)); (case ho => rfl); (case hgd => rfl); (case hr => exact r2')) | ((with_reducible apply st_append (x := .tmp 17)); (case ho => rfl); (case hgd => rfl); (case hr => exact r3)))
    go_ret
    exact ⟨v3, rfl, HE.out⟩
  · rw [if_neg hc] at r3
    go_enter Try.func63, Try.ntmps63
    go_wp2_with (first | ((with_reducible apply st_append (x := .tmp 8)); (case ho => rfl); (case hgd => rfl); (case hr => exact r1)) | ((with_reducible apply st_append (x := .tmp 13)); (case ho => rfl); (case hgd => rfl); (case hr => exact r2')) | ((with_reducible apply st_append (x := .tmp 17)); (case ho => rfl); (case hgd => rfl); (case hr => exact r3)))
    go_ret
    exact ⟨v3, rfl, HE.out⟩
end Go.Proofs.Ythfhjfemcmdmfaa

namespace Go.Proofs.Ythfhjfemcmdmfaa
open Go.ChangeShapes Go.WideShapes Go.ChangeAt Go.RowKit
set_option linter.unusedVariables false
set_option maxRecDepth 100000

theorem ref_write_no (a b : Option Addr) (n c m k : Nat) (f : Int) (off : Bool) (x : Int) (s : ByteArray) (hx : x < 0 ∨ (n : Int) ≤ x ∨ s.size ≠ 32) (w : World) :
    Calls Try.prog 61 #[.agg #[.slice a n c, .slice b m k, .int .i64 f, .bool off], .int .i64 x, .string s] w fun e w' =>
      e = .returned (.tuple #[.agg #[.slice a n c, .slice b m k, .int .i64 f, .bool off], .int .i64 1]) ∧ Kept (fun _ => False) w w' := by
  by_cases h1 : x < 0
  · go_enter Try.func61, Try.ntmps61
    go_wp2_with fail
    refine bodyPost_ret (end_cell_tmp rfl rfl (load30 (by simp [go_sem]; rfl) (by simp [go_sem]; rfl) (by simp [go_sem]; rfl) (by simp [go_sem]; rfl))) rfl ?_
    exact ⟨rfl, ((Kept.refl _ w).alloc _).alloc _⟩
  · by_cases h2 : (n : Int) ≤ x
    · go_enter Try.func61, Try.ntmps61
      go_wp2_with fail
      refine bodyPost_ret (end_cell_tmp rfl rfl (load30 (by simp [go_sem]; rfl) (by simp [go_sem]; rfl) (by simp [go_sem]; rfl) (by simp [go_sem]; rfl))) rfl ?_
      exact ⟨rfl, ((Kept.refl _ w).alloc _).alloc _⟩
    · have h3 : ((s.size : Int) == 32) = false := by
        have : s.size ≠ 32 := by rcases hx with h | h | h; exact absurd h h1; exact absurd h h2; exact h
        simp; omega
      go_enter Try.func61, Try.ntmps61
      go_wp2_with fail
      refine bodyPost_ret (end_cell_tmp rfl rfl (load30 (by simp [go_sem]; rfl) (by simp [go_sem]; rfl) (by simp [go_sem]; rfl) (by simp [go_sem]; rfl))) rfl ?_
      exact ⟨rfl, ((Kept.refl _ w).alloc _).alloc _⟩

theorem ref_write_off (a b : Option Addr) (n c m k : Nat) (f : Int) (off : Bool) (x : Nat) (hx : x < n) (s : ByteArray) (hs : s.size = 32) (hb : (rburn f off).2.2 = false) (hf : -1 ≤ f ∧ f ≤ 9223372036854775807) (w : World) :
    Calls Try.prog 61 #[.agg #[.slice a n c, .slice b m k, .int .i64 f, .bool off], .int .i64 (x : Int), .string s] w fun e w' =>
      e = .returned (.tuple #[.agg #[.slice a n c, .slice b m k, .int .i64 (-1), .bool true], .int .i64 30]) ∧ Kept (fun _ => False) w w' := by
  have hr : rburn f off = (-1, true, false) := by
    unfold rburn at hb ⊢
    split
    · rfl
    · rename_i h; rw [if_neg h] at hb; cases hb
  have HB := (show Hid _ from ref_burns a b n c m k f off hf)
  rw [hr] at HB
  have h1 : ¬ (x : Int) < 0 := by omega
  have h2 : ¬ (n : Int) ≤ (x : Int) := by omega
  have h3 : (s.size : Int) = 32 := by omega
  go_enter Try.func61, Try.ntmps61
  go_wp2_with fail
  refine Calls.mono (HB.out _) ?_; rintro e w1 ⟨rfl, rfl⟩
  go_wp2_with fail
  refine bodyPost_ret (end_cell_tmp rfl rfl (load30 (by simp [go_sem]; rfl) (by simp [go_sem]; rfl) (by simp [go_sem]; rfl) (by simp [go_sem]; rfl))) rfl ?_
  exact ⟨rfl, ((((Kept.refl _ w).alloc _).alloc _).alloc _).alloc _⟩

/-- A write that waits, of the document's disk. -/
def wv (q : Nat × List UInt8) : List Value := [.int .i64 (q.1 : Int), .string ⟨q.2.toArray⟩]
theorem wv_len (Q : List (Nat × List UInt8)) : (Q.flatMap wv).length = Q.length * 2 := by
  induction Q with
  | nil => rfl
  | cons q r ih => rw [List.flatMap_cons, List.length_append, ih, List.length_cons]; simp [wv]; omega
theorem wv_one (Q : List (Nat × List UInt8)) : ∀ v ∈ Q.flatMap wv, v.oneCell' = true := by
  intro v hv
  obtain ⟨q, _, hq⟩ := List.mem_flatMap.1 hv
  simp [wv] at hq
  rcases hq with rfl | rfl <;> rfl
theorem wv_at (Q : List (Nat × List UInt8)) (k : Nat) (hk : k < Q.length) : (Q.flatMap wv)[k * 2]? = some (.int .i64 (Q[k].1 : Int)) ∧ (Q.flatMap wv)[k * 2 + 1]? = some (.string ⟨Q[k].2.toArray⟩) := by
  induction Q generalizing k with
  | nil => cases hk
  | cons q r ih =>
    cases k with
    | zero => simp [wv]
    | succ k =>
      have := ih k (by simpa using hk)
      rw [List.flatMap_cons, show (k + 1) * 2 = k * 2 + 2 by omega, show k * 2 + 2 + 1 = (k * 2 + 1) + 2 by omega]
      simpa [wv] using this
theorem Try.info116 : (Try.prog.info? 116).map (fun i => (i.zero, i.size, i.bytes)) = some (some (.agg #[.int .i64 0, .string ⟨#[]⟩]), 2, 24) := by kernel_rfl

theorem append_wrs {w : World} {v : Value} {l : List (Nat × List UInt8)} {base : Nat} (h : w.ownsRow base 116 2 v l.length (l.flatMap wv)) (b o c : Nat) (m : List (Nat × List UInt8)) (hm : ∀ j u, (m.flatMap wv)[j]? = some u → w.cell? ⟨b, o + j, none⟩ = some u) (hs : l.length + m.length ≤ 2097152) (hb : base ≤ w.heap.size) :
    ∃ v' w', (Builtin.append_ #[35, 35] 35 #[v, .slice (some ⟨b, o, none⟩) m.length c]).run Try.prog w = .ok v' w' ∧ w'.ownsRow base 116 2 v' (l ++ m).length ((l ++ m).flatMap wv) ∧ w.grownBy w' v.ownBlock := by
  obtain ⟨i, hi, hz, h1, h2⟩ := info_of Try.info116
  obtain ⟨v', w', a1, a2, a3, a4⟩ := run_append_own (P := Try.prog) w base 35 35 116 i _ 2 24 Try.underlying35 hi hz h1 h2 (by simp [Value.cells]) (by omega) v l.length (l.flatMap wv) h ⟨b, o, none⟩ m.length c (m.flatMap wv) (wv_len m)
    (fun j u hu => by
      rw [Go.WideShapes.add_plain]
      exact hm j u hu) (wv_one m) (by unfold maxLen; omega) (by omega) hb
  refine ⟨v', w', a1, ?_, a3⟩
  rw [List.length_append, List.flatMap_append]
  exact a2

/-- All of a list of writes, behind nothing. -/
theorem copy_wrs {w : World} {u : Value} {l : List (Nat × List UInt8)} (h : w.ownsRow 0 116 2 u l.length (l.flatMap wv)) (base : Nat) (hb : base ≤ w.heap.size) (hs : l.length ≤ 2097152) :
    ∃ v' w', (Builtin.append_ #[35, 35] 35 #[.slice none 0 0, u]).run Try.prog w = .ok v' w' ∧ w'.ownsRow base 116 2 v' l.length (l.flatMap wv) ∧ w.grownBy w' none := by
  rcases h.2 with ⟨rfl, hn⟩ | ⟨g, cap, cur, rfl, _⟩
  · obtain rfl := List.length_eq_zero_iff.1 hn
    obtain ⟨i, hi, hz, h1, h2⟩ := info_of Try.info116
    refine ⟨_, _, run_append_owned_none w base 35 35 116 i 2 Try.underlying35 hi _ 0 [] (World.ownsRow_nil w base 116 2), World.ownsRow_nil w base 116 2, ⟨rfl, rfl, rfl, Nat.le_refl _, fun _ _ _ => rfl⟩⟩
  · have := append_wrs (w := w) (v := .slice none 0 0) (l := []) (base := base) (World.ownsRow_nil w base 116 2) g 0 cap l (fun j u hu => by
      rw [Nat.zero_add]
      have hj : j < l.length * 2 := by have := (List.getElem?_eq_some_iff.1 hu).1; rwa [wv_len] at this
      rw [h.cellAt j hj, hu]) (by simpa using hs) hb
    rw [List.nil_append] at this
    exact this

set_option maxHeartbeats 1000000 in
theorem ref_write_on {w : World} (a u : Option Addr) (n c k : Nat) (f : Int) (off : Bool) (Q : List (Nat × List UInt8)) (hu : w.ownsRow 0 116 2 (.slice u Q.length k) Q.length (Q.flatMap wv)) (hQ : Q.length ≤ 1048576)
    (x : Nat) (hx : x < n) (s : ByteArray) (hs : s.size = 32) (hb : (rburn f off).2.2 = true) (hf : -1 ≤ f ∧ f ≤ 9223372036854775807) :
    Calls Try.prog 61 #[.agg #[.slice a n c, .slice u Q.length k, .int .i64 f, .bool off], .int .i64 (x : Int), .string s] w fun e w' =>
      ∃ o k', e = .returned (.tuple #[.agg #[.slice a n c, .slice o (Q.length + 1) k', .int .i64 (rburn f off).1, .bool false], .int .i64 0]) ∧ w'.ownsRow w.heap.size 116 2 (.slice o (Q.length + 1) k') (Q.length + 1) ((Q ++ [(x, s.data.toList)]).flatMap wv) ∧ Kept (fun _ => False) w w' := by
  have hr : rburn f off = ((rburn f off).1, false, true) := by
    unfold rburn at hb ⊢
    split
    · rename_i h; rw [if_pos h] at hb; cases hb
    · rfl
  have HB := (show Hid _ from ref_burns a u n c Q.length k f off hf)
  rw [hr] at HB
  generalize (rburn f off).1 = f' at *
  have h1 : ¬ (x : Int) < 0 := by omega
  have h2 : ¬ (n : Int) ≤ (x : Int) := by omega
  have h3 : (s.size : Int) = 32 := by omega
  obtain ⟨W, hW⟩ : ∃ W, W = (((w.alloc (.cells #[.slice a n c, .slice u Q.length k, .int .i64 f', .bool false] 37)).alloc (.cells #[.slice none 0 0, .slice none 0 0, .int .i64 0, .bool false] 37)).alloc (.cells #[.slice a n c, .slice u Q.length k, .int .i64 f', .bool false] 37)).alloc (.cells #[.slice a n c, .slice u Q.length k, .int .i64 f', .bool false] 37) := ⟨_, rfl⟩
  have kW : Kept (fun _ => False) w W := by rw [hW]; exact ((((Kept.refl _ w).alloc _).alloc _).alloc _).alloc _
  have sW : W.heap.size = w.heap.size + 4 := by rw [hW]; simp
  have huW : W.ownsRow 0 116 2 (.slice u Q.length k) Q.length (Q.flatMap wv) := ownsRow_kept hu (fun i hi => kW.block i (hu.lt i hi).2 (fun q => q))
  obtain ⟨v1, W1, r1, o1, g1⟩ := copy_wrs huW W.heap.size (Nat.le_refl _) (by omega)
  have k1 : Kept (fun _ => False) W W1 := (Kept.refl _ W).grown g1 (fun k hk => by cases hk)
  obtain ⟨v2, W2, r2, o2, g2⟩ := append_wrs (o1.alloc (.cells #[.int .i64 (x : Int), .string s] 116)) W1.heap.size 0 1 [(x, s.data.toList)] (fun j y hy => by
    have hy' : ([.int .i64 (x : Int), .string s] : List Value)[j]? = some y := by simpa [wv] using hy
    rw [Nat.zero_add, World.cell?_alloc_new]
    simpa using hy') (by simp; omega) (Nat.le_trans k1.size (by simp))
  have k2 : Kept (fun _ => False) W W2 := (k1.alloc _).grown g2 (fun k hk => .inr (o1.lt k hk).1)
  have cells : ∀ (V : World), Kept (fun _ => False) W V → (V.cell? ⟨w.heap.size, 0, none⟩ = some (.slice a n c) ∧ V.cell? ⟨w.heap.size, 1, none⟩ = some (.slice u Q.length k) ∧ V.cell? ⟨w.heap.size, 2, none⟩ = some (.int .i64 f') ∧ V.cell? ⟨w.heap.size, 3, none⟩ = some (.bool false)) ∧
      (V.cell? ⟨w.heap.size + 1, 0, none⟩ = some (.slice none 0 0) ∧ V.cell? ⟨w.heap.size + 1, 1, none⟩ = some (.slice none 0 0) ∧ V.cell? ⟨w.heap.size + 1, 2, none⟩ = some (.int .i64 0) ∧ V.cell? ⟨w.heap.size + 1, 3, none⟩ = some (.bool false)) ∧ (∀ j, V.frozen? ⟨w.heap.size, j, none⟩ = false) ∧ (∀ j, V.frozen? ⟨w.heap.size + 1, j, none⟩ = false) := by
    intro V kV
    have hc : ∀ i j x, W.cell? ⟨i, j, none⟩ = some x → V.cell? ⟨i, j, none⟩ = some x := fun i j x h => kV.cell h (fun q => q)
    have hf : ∀ i j, i < W.heap.size → V.frozen? ⟨i, j, none⟩ = W.frozen? ⟨i, j, none⟩ := fun i j h => World.frozen?_of_block (w := W) (a := ⟨i, j, none⟩) (kV.block i h (fun q => q))
    refine ⟨⟨hc _ _ _ ?_, hc _ _ _ ?_, hc _ _ _ ?_, hc _ _ _ ?_⟩, ⟨hc _ _ _ ?_, hc _ _ _ ?_, hc _ _ _ ?_, hc _ _ _ ?_⟩, fun j => (hf w.heap.size j (by omega)).trans ?_, fun j => (hf (w.heap.size + 1) j (by omega)).trans ?_⟩ <;> (rw [hW]; simp [go_sem])
  obtain ⟨⟨p0, p1, p2, p3⟩, ⟨q0, q1, q2, q3⟩, pf, qf⟩ := cells W1 k1
  obtain ⟨⟨s0, s1, s2, s3⟩, ⟨t0, t1, t2, t3⟩, sf, tf⟩ := cells W2 k2
  clear cells
  obtain ⟨uo, uc, rfl⟩ := own_form o2
  have e1 : (Q ++ [(x, s.data.toList)]).length = Q.length + 1 := by simp
  rw [e1] at o2 r2
  have HO := (show Hid _ from o2)
  have HK := (show Hid _ from (⟨kW, k2, sW⟩ : _ ∧ _ ∧ _))
  have HW := (show Hid _ from hW)
  replace r2 : (Builtin.append_ #[35, 35] 35 #[v1, .slice (some ⟨W1.heap.size, 0, none⟩) 1 1]).run Try.prog (W1.alloc (.cells #[.int .i64 (x : Int), .string s] 116)) = .ok (.slice uo (Q.length + 1) uc) W2 := r2
  have R1 := (show Hid _ from r1)
  have R2 := (show Hid _ from r2)
  clear hu huW o1 o2 g1 g2 k1 k2 kW sW hW e1 hr hb r1 r2
  generalize Q.length = m at *
  have HQ := (show Hid _ from hQ)
  clear hQ
  go_enter Try.func61, Try.ntmps61
  go_wp2_with fail
  refine Calls.mono (HB.out _) ?_; rintro e w1 ⟨rfl, rfl⟩
  go_wp2_with (first | ((with_reducible apply st_append (x := .tmp 33)); (case ho => rfl); (case hgd => rfl); (case hr => rw [← HW.out]; exact R1.out)) | ((with_reducible apply st_append (x := .tmp 37)); (case ho => rfl); (case hgd => rfl); (case hr => exact R2.out)))
  refine bodyPost_ret (end_cell_tmp rfl rfl (load30 (by simp [go_sem, t0]; rfl) (by simp [go_sem, t1]; rfl) (by simp [go_sem, t2]; rfl) (by simp [go_sem, t3]; rfl))) rfl ?_
  have kf := (((((Kept.refl (fun i => i = w.heap.size ∨ i = w.heap.size + 1) W2).setCell (p := ⟨w.heap.size, 1, none⟩) (.inl (.inl rfl)) (.slice uo (m + 1) uc)).setCell (p := ⟨w.heap.size + 1, 0, none⟩) (.inl (.inr rfl)) (.slice a n c)).setCell (p := ⟨w.heap.size + 1, 1, none⟩) (.inl (.inr rfl)) (.slice uo (m + 1) uc)).setCell (p := ⟨w.heap.size + 1, 2, none⟩) (.inl (.inr rfl)) (.int .i64 f')).setCell (p := ⟨w.heap.size + 1, 3, none⟩) (.inl (.inr rfl)) (.bool false)
  obtain ⟨kW, k2, sW⟩ := HK.out
  refine ⟨uo, uc, rfl, ?_, (kW.trans k2 (fun _ q => .inl q)).trans kf (fun i hi => .inr (by omega))⟩
  exact own_weak (ownsRow_kept HO.out (fun i hi => kf.block i (World.ownsRow.lt HO.out i hi).2 (fun q => by have := (World.ownsRow.lt HO.out i hi).1; omega))) (by omega)
end Go.Proofs.Ythfhjfemcmdmfaa

namespace Go.Proofs.Ythfhjfemcmdmfaa
open Go.ChangeShapes Go.WideShapes Go.ChangeAt Go.RowKit
set_option linter.unusedVariables false
set_option maxRecDepth 100000

theorem ref_read_no (a b : Option Addr) (n c m k : Nat) (f : Int) (off : Bool) (x : Int) (hx : x < 0 ∨ (n : Int) ≤ x) (w : World) :
    Calls Try.prog 60 #[.agg #[.slice a n c, .slice b m k, .int .i64 f, .bool off], .int .i64 x] w fun e w' =>
      e = .returned (.tuple #[.string ⟨#[]⟩, .int .i64 1]) ∧ Kept (fun _ => False) w w' := by
  by_cases h1 : x < 0
  · go_enter Try.func60, Try.ntmps60
    go_wp2_with fail
    go_ret2
    exact ⟨rfl, (Kept.refl _ w).alloc _⟩
  · have h2 : (n : Int) ≤ x := hx.resolve_left h1
    go_enter Try.func60, Try.ntmps60
    go_wp2_with fail
    go_ret2
    exact ⟨rfl, (Kept.refl _ w).alloc _⟩

theorem ref_read_off (a b : Option Addr) (n c m k : Nat) (f : Int) (x : Nat) (hx : x < n) (w : World) :
    Calls Try.prog 60 #[.agg #[.slice a n c, .slice b m k, .int .i64 f, .bool true], .int .i64 (x : Int)] w fun e w' =>
      e = .returned (.tuple #[.string ⟨#[]⟩, .int .i64 30]) ∧ Kept (fun _ => False) w w' := by
  have h1 : ¬ (x : Int) < 0 := by omega
  have h2 : ¬ (n : Int) ≤ (x : Int) := by omega
  go_enter Try.func60, Try.ntmps60
  go_wp2_with fail
  go_ret2
  exact ⟨rfl, (Kept.refl _ w).alloc _⟩

theorem behind_next (s : List UInt8) (i : Nat) (Q : List (Nat × List UInt8)) (j : Nat) (hj : j < Q.length) : behind s i (Q.take (j + 1)) = if Q[j].1 = i then Q[j].2 else behind s i (Q.take j) := by
  unfold behind
  rw [List.take_succ_eq_append_getElem hj, List.foldl_append]
  rfl

theorem ref_read_on {w : World} (b : Nat) (u : Option Addr) (n c k : Nat) (f : Int) (S : Nat → List UInt8) (Q : List (Nat × List UInt8)) (hu : w.ownsRow 0 116 2 (.slice u Q.length k) Q.length (Q.flatMap wv)) (hQ : Q.length ≤ 1048576)
    (x : Nat) (hx : x < n) (hc : w.cell? ⟨b, x, none⟩ = some (.string ⟨(S x).toArray⟩)) :
    Calls Try.prog 60 #[.agg #[.slice (some ⟨b, 0, none⟩) n c, .slice u Q.length k, .int .i64 f, .bool false], .int .i64 (x : Int)] w fun e w' =>
      e = .returned (.tuple #[.string ⟨(behind (S x) x Q).toArray⟩, .int .i64 0]) ∧ Kept (fun _ => False) w w' := by
  have h1 : ¬ (x : Int) < 0 := by omega
  have h2 : ¬ (n : Int) ≤ (x : Int) := by omega
  have h3 : (x : Int) < (n : Int) := by omega
  obtain ⟨W, hW⟩ : ∃ W, W = w.alloc (.cells #[.slice (some ⟨b, 0, none⟩) n c, .slice u Q.length k, .int .i64 f, .bool false] 37) := ⟨_, rfl⟩
  have kW : Kept (fun _ => False) w W := by rw [hW]; exact (Kept.refl _ w).alloc _
  have cW := kW.cell hc (fun q => q)
  have p1 : W.cell? ⟨w.heap.size, 1, none⟩ = some (.slice u Q.length k) := by rw [hW]; simp [go_sem]
  have huW : W.ownsRow 0 116 2 (.slice u Q.length k) Q.length (Q.flatMap wv) := ownsRow_kept hu (fun i hi => kW.block i (hu.lt i hi).2 (fun q => q))
  have HC : Hid (∀ j (hj : j < Q.length), ∃ g, u = some ⟨g, 0, none⟩ ∧ W.cell? ⟨g, j * 2, none⟩ = some (.int .i64 (Q[j].1 : Int)) ∧ W.cell? ⟨g, j * 2 + 1, none⟩ = some (.string ⟨Q[j].2.toArray⟩)) := by
    intro j hj
    rcases huW.2 with ⟨e, hn⟩ | ⟨g, cap, cur, e, _⟩
    · omega
    · cases e
      have ⟨a1, a2⟩ := wv_at Q j hj
      exact ⟨g, rfl, by rw [huW.cellAt _ (by omega), a1], by rw [huW.cellAt _ (by omega), a2]⟩
  have HW := (show Hid _ from hW)
  have HK := (show Hid _ from kW)
  have HB : Hid (∀ j (hj : j < Q.length), behind (S x) x (Q.take (j + 1)) = if Q[j].1 = x then Q[j].2 else behind (S x) x (Q.take j)) := fun j hj => behind_next _ _ _ j hj
  have HE : Hid (Q.take Q.length = Q) := List.take_length
  have HS : Hid (behind (S x) x (Q.take 0) = S x) := rfl
  have cW0 := cW
  rw [hW] at cW0
  clear hW kW hu huW hc cW
  go_enter Try.func60, Try.ntmps60
  go_wp2_with fail
  go_loopw [6, 7] (fun s i wr => ∃ j : Nat, j ≤ Q.length ∧ i = .int .i64 j ∧ s = .string ⟨(behind (S x) x (Q.take j)).toArray⟩ ∧ wr = W)
    (fun _ i _ => Q.length - (intOf i).toNat)
  case atStart => exact ⟨0, Nat.zero_le _, rfl, by rw [HS.out], HW.out.symm⟩
  case round =>
    obtain ⟨j, hj, rfl, rfl, rfl⟩ := hrel
    clear cW0 HS
    by_cases hlt : j < Q.length
    · have hji : (j : Int) < (Q.length : Int) := by omega
      obtain ⟨g, rfl, c1, c2⟩ := HC.out j hlt
      have hn := HB.out j hlt
      generalize Q[j] = q at *
      have HNX := (show Hid _ from hn)
      generalize behind (S x) x (List.take j Q) = t at *
      clear hn HC HB HE
      by_cases hq : q.1 = x
      · have hqi : (q.1 : Int) = (x : Int) := by omega
        rw [if_pos hq] at HNX
        go_wp2_with fail
        go_roundw
        case rel => exact ⟨j + 1, by omega, by go_num, by rw [HNX.out], trivial⟩
        case measure => simp [intOf]; omega
      · have hqi : ((q.1 : Int) == (x : Int)) = false := by simp; omega
        rw [if_neg hq] at HNX
        go_wp2_with fail
        go_roundw
        case rel => exact ⟨j + 1, by omega, by go_num, by rw [HNX.out], trivial⟩
        case measure => simp [intOf]; omega
    · have hji : ¬ (j : Int) < (Q.length : Int) := by omega
      have ej : j = Q.length := by omega
      rw [ej, HE.out]
      go_wp2_with fail
      go_ret2
      exact ⟨rfl, HK.out⟩
end Go.Proofs.Ythfhjfemcmdmfaa

namespace Go.Proofs.Ythfhjfemcmdmfaa
open Go.ChangeShapes Go.WideShapes Go.ChangeAt Go.RowKit
set_option linter.unusedVariables false
set_option maxRecDepth 100000

structure Row (w : World) (B : Nat) (L : List UInt8) : Prop where
  cells : ∀ k (hk : k < L.length), w.cell? ⟨B, k, none⟩ = some (.int .u8 (L[k].toNat : Int))
  free : ∀ k, k < L.length → w.frozen? ⟨B, k, none⟩ = false

theorem Row.put {w : World} {B : Nat} {L : List UInt8} (h : Row w B L) (k : Nat) (hk : k < L.length) (v : UInt8) :
    Row (w.setCell ⟨B, k, none⟩ (.int .u8 (v.toNat : Int))) B (L.set k v) := by
  have hv := h.cells k hk
  refine ⟨fun j hj => ?_, fun j hj => ?_⟩
  · rw [List.length_set] at hj
    by_cases e : j = k
    · subst e
      simp [go_sem, hv]
    · have := h.cells j hj
      have e' : ¬ k = j := fun h => e h.symm
      simp [go_sem, this, e']
  · rw [List.length_set] at hj
    have := h.free j hj
    simp [go_sem, this]

theorem row_text {W : World} {B : Nat} {L : List UInt8} (h : Row W B L) (n C : Nat) (hn : n = L.length) :
    (convert 80 9 (.slice (some ⟨B, 0, none⟩) n C)).run Try.prog W = .ok (.string ⟨L.toArray⟩) W := by
  subst hn
  exact run_convert_bytes_back (P := Try.prog) W 80 9 5 ⟨B, 0, none⟩ C L Try.underlying80 Try.underlying5 Try.underlying9 (fun j hj => by rw [Go.WideShapes.add_plain, Nat.zero_add]; exact h.cells j hj)


theorem make_row (n : Nat) (hn : n ≤ 256) (w : World) : ∃ W : World, (Instr.makeSlice 80 (.int .i64 n) (.int .i64 n)).run Try.prog w = .ok (.slice (some ⟨w.heap.size, 0, none⟩) n n) W ∧ Row W w.heap.size (List.replicate n 0) ∧ Kept (fun _ => False) w W ∧ W.heap.size = w.heap.size + 1 := by
  obtain ⟨i, hi, hz, h1, h2⟩ := info_of Try.info5
  have hr := run_make (P := Try.prog) w 80 5 i (.int .u8 0) Try.underlying80 hi hz .i64 .i64 n n (by omega) (Int.le_refl _) (by rw [h2]; omega) (by omega)
  rw [Int.toNat_natCast, h1] at hr
  refine ⟨_, hr, ⟨fun k hk => ?_, fun k hk => ?_⟩, (Kept.refl _ _).alloc _, by simp⟩
  · have hk' : k < n := by simpa using hk
    simp [go_sem, madeCells, Value.cells, hk']
    rw [Nat.mod_one]
    rfl
  · simp [go_sem]

/-- A sector of one byte. -/
def fill (c : UInt8) : ByteArray := ⟨(List.replicate 32 c).toArray⟩
theorem fill_size (c : UInt8) : (fill c).size = 32 := by simp [fill, ByteArray.size]
theorem fill_list (c : UInt8) : (fill c).data.toList = List.replicate 32 c := rfl
/-- The first i bytes are there. -/
def part (c : UInt8) (i : Nat) : List UInt8 := List.replicate i c ++ List.replicate (32 - i) 0
theorem part_len (c : UInt8) (i : Nat) (h : i ≤ 32) : (part c i).length = 32 := by unfold part; simp; omega
theorem part_step (c : UInt8) (i : Nat) (h : i < 32) : (part c i).set i c = part c (i + 1) := by
  unfold part
  rw [List.set_append_right _ _ (by simp), List.length_replicate, Nat.sub_self, show 32 - i = (32 - (i + 1)) + 1 by omega, List.replicate_succ, List.set_cons_zero, List.replicate_succ', List.append_assoc]
  rfl

end Go.Proofs.Ythfhjfemcmdmfaa

namespace Go.Proofs.Ythfhjfemcmdmfaa
open Go.ChangeShapes Go.WideShapes Go.ChangeAt Go.RowKit
set_option linter.unusedVariables false
set_option maxRecDepth 100000

theorem ref_new_no (x : Int) (hx : x < 1 ∨ 4096 < x) (w : World) : Calls Try.prog 15 #[.int .i64 x] w fun e w' =>
    e = .returned (.tuple #[.agg #[.slice none 0 0, .slice none 0 0, .int .i64 0, .bool false], .int .i64 1]) ∧ Kept (fun _ => False) w w' := by
  by_cases h1 : x < 1
  · go_enter Try.func15, Try.ntmps15
    go_wp2_with fail
    refine bodyPost_ret (end_cell_tmp rfl rfl (load30 (by simp [go_sem]; rfl) (by simp [go_sem]; rfl) (by simp [go_sem]; rfl) (by simp [go_sem]; rfl))) rfl ?_
    exact ⟨rfl, (Kept.refl _ w).alloc _⟩
  · have h2 : 4096 < x := hx.resolve_left h1
    go_enter Try.func15, Try.ntmps15
    go_wp2_with fail
    refine bodyPost_ret (end_cell_tmp rfl rfl (load30 (by simp [go_sem]; rfl) (by simp [go_sem]; rfl) (by simp [go_sem]; rfl) (by simp [go_sem]; rfl))) rfl ?_
    exact ⟨rfl, (Kept.refl _ w).alloc _⟩

/-- The first i of n texts are sectors of noughts. -/
def made (n i : Nat) : List ByteArray := List.replicate i (fill 0) ++ List.replicate (n - i) ⟨#[]⟩
theorem made_len (n i : Nat) (h : i ≤ n) : (made n i).length = n := by unfold made; simp; omega
theorem made_step (n i : Nat) (h : i < n) : (made n i).set i (fill 0) = made n (i + 1) := by
  unfold made
  rw [List.set_append_right _ _ (by simp), List.length_replicate, Nat.sub_self, show n - i = (n - (i + 1)) + 1 by omega, List.replicate_succ, List.set_cons_zero, List.replicate_succ', List.append_assoc]
  rfl
theorem fill_zero : (⟨(List.replicate 32 0).toArray⟩ : ByteArray) = fill 0 := rfl

theorem ref_new {w : World} (n : Nat) (h1 : 1 ≤ n) (h2 : n ≤ 4096) : Calls Try.prog 15 #[.int .i64 (n : Int)] w fun e w' =>
    ∃ b, e = .returned (.tuple #[.agg #[.slice (some ⟨b, 0, none⟩) n n, .slice none 0 0, .int .i64 (-1), .bool false], .int .i64 0]) ∧ w'.ownsRow w.heap.size 9 1 (.slice (some ⟨b, 0, none⟩) n n) n (sv (made n n)) ∧ Kept (fun _ => False) w w' := by
  obtain ⟨W, hW⟩ : ∃ W, W = w.alloc (.cells #[.slice none 0 0, .slice none 0 0, .int .i64 0, .bool false] 37) := ⟨_, rfl⟩
  have kW : Kept (fun _ => False) w W := by rw [hW]; exact (Kept.refl _ w).alloc _
  have sW : W.heap.size = w.heap.size + 1 := by rw [hW]; simp
  obtain ⟨i, hi, hz, hs1, hs2⟩ := info_of Try.info9
  obtain ⟨V, hmk, hown, hg⟩ := run_make_full (P := Try.prog) W (w.heap.size + 1) 26 9 i _ 1 Try.underlying26 hi hz hs1 .i64 .i64 n (by rw [hs2]; omega) (by unfold maxLen; omega) (by omega)
  have kV : Kept (fun _ => False) W V := (Kept.refl _ W).grown hg (fun k hk => by cases hk)
  have hown' : V.ownsRow (w.heap.size + 1) 9 1 (.slice (some ⟨W.heap.size, 0, none⟩) n n) n (sv (made n 0)) := by
    have e : (madeCells (Value.cells (.string ⟨#[]⟩)) (n * 1)).toList = sv (made n 0) := by
      rw [show Value.cells (.string ⟨#[]⟩) = #[.string ⟨#[]⟩] from rfl, toList_madeCells_one]
      simp [sv, made]
    rw [← e]
    exact hown
  rw [sW] at hown' hmk
  rw [hW] at hmk
  obtain ⟨N, hN⟩ : ∃ N, w.heap.size = N := ⟨_, rfl⟩
  have HIn : Hid (∀ wr j, j < n → wr.ownsRow (N + 1) 9 1 (.slice (some ⟨N + 1, 0, none⟩) n n) n (sv (made n j)) → ∃ W1 : World, (Instr.makeSlice 80 (.int .i64 32) (.int .i64 32)).run Try.prog wr = .ok (.slice (some ⟨wr.heap.size, 0, none⟩) 32 32) W1 ∧ (convert 80 9 (.slice (some ⟨wr.heap.size, 0, none⟩) 32 32)).run Try.prog W1 = .ok (.string (fill 0)) W1 ∧
      W1.cell? ⟨N + 1, j, none⟩ = some (.string ⟨#[]⟩) ∧ W1.frozen? ⟨N + 1, j, none⟩ = false ∧ Kept (fun i => i = N + 1) wr (W1.setCell ⟨N + 1, j, none⟩ (.string (fill 0))) ∧ (W1.setCell ⟨N + 1, j, none⟩ (.string (fill 0))).ownsRow (N + 1) 9 1 (.slice (some ⟨N + 1, 0, none⟩) n n) n (sv (made n (j + 1)))) := by
    intro wr j hj ho
    obtain ⟨W1, m1, m2, m3, m4⟩ := make_row 32 (by omega) wr
    have ho1 : W1.ownsRow (N + 1) 9 1 (.slice (some ⟨N + 1, 0, none⟩) n n) n (sv (made n j)) := ownsRow_kept ho (fun i hi => m3.block i (ho.lt i hi).2 (fun q => q))
    refine ⟨W1, m1, row_text m2 32 32 (by simp), ?_, ho1.frozenAt j, (m3.mono (F' := fun i => i = N + 1) (fun _ q => q.elim)).setCell (p := ⟨N + 1, j, none⟩) (.inl rfl) _, ?_⟩
    · rw [ho1.cellAt j (by omega)]
      simp [sv, made]
      rw [List.getElem?_append_right (by simp), List.length_replicate, Nat.sub_self, List.getElem?_replicate, if_pos (by omega)]
    · have := (ho1.stored j (.string (fill 0))).1
      rw [show (sv (made n j)).set j (.string (fill 0)) = sv (made n (j + 1)) by rw [← made_step n j hj]; simp [sv, List.map_set]] at this
      exact this
  have H0 : Hid (V.ownsRow (N + 1) 9 1 (.slice (some ⟨N + 1, 0, none⟩) n n) n (sv (made n 0)) ∧ Kept (fun i => i = N + 1) W V) := by rw [← hN]; exact ⟨hown', kV.mono (fun _ q => q.elim)⟩
  have HW : Hid (Kept (fun _ => False) w W ∧ W.heap.size = N + 1 ∧ (∀ V : World, Kept (fun i => i = N + 1) W V → V.cell? ⟨N, 0, none⟩ = some (.slice none 0 0) ∧ V.cell? ⟨N, 1, none⟩ = some (.slice none 0 0) ∧ V.cell? ⟨N, 2, none⟩ = some (.int .i64 0) ∧ V.cell? ⟨N, 3, none⟩ = some (.bool false) ∧ ∀ j, V.frozen? ⟨N, j, none⟩ = false)) := by
    refine ⟨kW, by omega, fun V kV => ?_⟩
    have hc : ∀ j x, W.cell? ⟨N, j, none⟩ = some x → V.cell? ⟨N, j, none⟩ = some x := fun j x h => kV.cell h (by simp)
    refine ⟨hc _ _ ?_, hc _ _ ?_, hc _ _ ?_, hc _ _ ?_, fun j => (World.frozen?_of_block (w := W) (a := ⟨N, j, none⟩) (kV.block N (by omega) (by simp))).trans ?_⟩ <;> (rw [hW, ← hN]; simp [go_sem])
  clear hown hown' hg kV kW sW hW hi hz hs1 hs2 i
  have g1 : ¬ (n : Int) < 1 := by omega
  have g2 : ¬ 4096 < (n : Int) := by omega
  rw [hN] at hmk
  have HN := (show Hid _ from hN)
  clear hN
  go_enter Try.func15, Try.ntmps15
  rw [HN.out]
  go_wp2_with fail
  go_loopw [5] (fun i wr => ∃ j : Nat, j ≤ n ∧ i = .int .i64 j ∧ Hid (wr.ownsRow (N + 1) 9 1 (.slice (some ⟨N + 1, 0, none⟩) n n) n (sv (made n j)) ∧ Kept (fun i => i = N + 1) W wr))
    (fun i _ => n - (intOf i).toNat)
  case atStart => exact ⟨0, Nat.zero_le _, rfl, H0.out⟩
  case round =>
    obtain ⟨j, hj, rfl, HR⟩ := hrel
    clear hmk H0
    by_cases hjn : j < n
    · have hji : (j : Int) < (n : Int) := by omega
      obtain ⟨W1, m1, m2, m3, m4, m5, m6⟩ := HIn.out wr j hjn HR.out.1
      have HR2 : Hid ((W1.setCell ⟨N + 1, j, none⟩ (.string (fill 0))).ownsRow (N + 1) 9 1 (.slice (some ⟨N + 1, 0, none⟩) n n) n (sv (made n (j + 1))) ∧ Kept (fun i => i = N + 1) W (W1.setCell ⟨N + 1, j, none⟩ (.string (fill 0)))) := ⟨m6, HR.out.2.trans m5 (fun _ q => .inl q)⟩
      clear m5 m6 HR HIn
      generalize fill 0 = z at *
      go_wp2_with fail
      go_roundw
      case rel => exact ⟨j + 1, by omega, by go_num, HR2.out⟩
      case measure => simp [intOf]; omega
    · have hji : ¬ (j : Int) < (n : Int) := by omega
      have ej : j = n := by omega
      subst ej
      obtain rfl := HN.out
      obtain ⟨p0, p1, p2, p3, pf⟩ := HW.out.2.2 wr HR.out.2
      go_wp2_with fail
      try simp only [Exit.inBlock, Exit.then]
      refine bodyPost_ret (end_cell_tmp rfl rfl (load30 (by simp [go_sem, p0]; rfl) (by simp [go_sem, p1]; rfl) (by simp [go_sem, p2]; rfl) (by simp [go_sem, p3]; rfl))) rfl ?_
      have kf := (((((Kept.refl (fun i => i = w.heap.size) wr).setCell (p := ⟨w.heap.size, 0, none⟩) (.inl rfl) (.slice (some ⟨w.heap.size + 1, 0, none⟩) j j)).setCell (p := ⟨w.heap.size, 1, none⟩) (.inl rfl) (.slice none 0 0)).setCell (p := ⟨w.heap.size, 2, none⟩) (.inl rfl) (.int .i64 (-1))).setCell (p := ⟨w.heap.size, 3, none⟩) (.inl rfl) (.bool false))
      obtain ⟨h1, h2⟩ := HR.out
      refine ⟨w.heap.size + 1, rfl, ?_, (HW.out.1.trans h2 (fun i hi => .inr (by omega))).trans kf (fun i hi => .inr (by omega))⟩
      exact own_weak (ownsRow_kept h1 (fun i hi => kf.block i (h1.lt i hi).2 (fun q => by have := (h1.lt i hi).1; omega))) (by omega)
end Go.Proofs.Ythfhjfemcmdmfaa
