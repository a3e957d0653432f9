/- widened. -/
import Derived.Test.YtgjeobmbfeinnaaWcl
import Derived.Test.YtgjeobmbfeinnaaEac
import Derived.Test.YtgjeobmbfeinnaaWdP
namespace Go.Proofs.Ytgjeobmbfeinnaa
open Go.ChangeShapes Go.WideShapes Go.RowKit
set_option linter.unusedVariables false
set_option maxRecDepth 100000

theorem told_jw (w w1 : World) (tb pw gl m : Nat) (ads : List Nat) (hm : 0 < m) (hm2 : m ≤ 1000) : Told w tb (Jw w w1 tb pw gl m ads) := by
  refine ⟨fun wr L h => Below.next h.1 h.2.1, fun wr L h o => ?_, fun wr L e x h he hL hx => ?_⟩
  · obtain ⟨h0, h1, us, ess, h2, h3⟩ := h
    exact ⟨h0, h1.trans ((below1 wr o).mono h1.size), us, ess, h2.next (below1 wr o), h3⟩
  · obtain ⟨h0, h1, us, ess, h2, h3⟩ := h
    have hq : hs e.v % (8 * m) < 8 * m := Nat.mod_lt _ (by omega)
    obtain ⟨es, hes⟩ : ∃ es, ess[hs e.v % (8 * m)]? = some es := ⟨_, List.getElem?_eq_getElem (by rw [h2.ness]; exact hq)⟩
    obtain ⟨b, hb⟩ : ∃ b, (wides (8 * m) L)[hs e.v % (8 * m)]? = some b := ⟨_, List.getElem?_eq_getElem (by rw [wides_len]; exact hq)⟩
    have ht := h3.2 _ es b hes hb
    have hbl := le_flat hb
    rw [wides_flat _ (by omega)] at hbl
    refine (clo32_is e (by rw [he.1]; exact hx) w1.heap.size tb pw gl m m ads us ess es wr h2 h1.size hm hm2 hes (by rw [ht.1]; omega)).mono fun r w' ⟨hr, ⟨us', hw'⟩, hbel⟩ => ?_
    refine ⟨hr, h0, h1.trans hbel, us', _, hw', ?_⟩
    rw [wides_snoc]
    unfold addE
    rw [wides_len, ← he.1, hb]
    exact h3.set _ (ht.snoc he)
theorem mkQ (m : Nat) (hm : m ≤ 2000) (w : World) : (Instr.makeSlice 49 (.int .i64 m) (.int .i64 m)).run Try.prog w = .ok (.slice (some ⟨w.heap.size, 0, none⟩) m m) (w.alloc (.cells (List.replicate m (.pointer none)).toArray 65)) := by
  obtain ⟨i, hi, hz, h1, h2⟩ := info_of info65
  have h := run_make (P := Try.prog) w 49 65 i _ Try.underlying49 hi hz .i64 .i64 (m : Int) (m : Int) (by omega) (by omega) (by rw [h2]; omega) (by omega)
  rw [h, h1, Int.toNat_natCast, Nat.mul_one]
  congr 3
  rw [← toList_madeCells_one]
  simp [Value.cells]
theorem st_make {P : Program} {ops : Array Oper} {rest : List Oper} {o : Oper} {a : Act} {w w' : World} {Q : Exit → Act → World → Prop} {v : Value} {x y : Operand} {t : TypeId} (hgd : o.guard = none) (ho : o.op = .makeSlice t x y) (hr : (Instr.makeSlice t (a.eval x) (a.eval y)).run P w = .ok v w') (h : wpList P ops Q rest (a.put o.dst v) w') : wpList P ops Q (o :: rest) a w :=
  wpList_plain hgd fun _ hK => by
    unfold Oper.wp execOp
    simp only [ho, Sem.run_bind, Sem.run_pure, Result.andThen_ok, hr]
    exact hK _ _ h
/-- Blocks made so far. -/
structure Mk (w wr : World) (tb pw gl m : Nat) (ads : List Nat) : Prop where
  t : Blk wr tb 25 [.pointer (some ⟨pw, 0, none⟩)]
  p : Blk wr pw 51 [.slice (some ⟨gl, 0, none⟩) m m]
  l : Blk wr gl 65 (ads.flatMap ptv ++ List.replicate (m - ads.length) (.pointer none))
  b : ∀ (a g : Nat), ads[a]? = some g → Blk wr g 71 (List.replicate 8 (.slice none 0 0)) ∧ w.heap.size ≤ g
  n : ∀ (a a' g : Nat), ads[a]? = some g → ads[a']? = some g → a = a'
  le : ads.length ≤ m
theorem Mk.next {w wr w' : World} {tb pw gl m : Nat} {ads : List Nat} (h : Mk w wr tb pw gl m ads) (b : Below wr.heap.size wr w') : Mk w w' tb pw gl m ads :=
  ⟨h.t.next b, h.p.next b, h.l.next b, fun a g hg => ⟨(h.b a g hg).1.next b, (h.b a g hg).2⟩, h.n, h.le⟩
theorem Mk.more {w wr : World} {tb pw gl m : Nat} {ads : List Nat} (h : Mk w wr tb pw gl m ads) (hlt : ads.length < m) (hw : w.heap.size ≤ wr.heap.size) : Mk w ((wr.alloc (.cells (List.replicate 8 (Value.slice none 0 0)).toArray 71)).setCell ⟨gl, ads.length, none⟩ (.pointer (some ⟨wr.heap.size, 0, none⟩))) tb pw gl m (ads ++ [wr.heap.size]) := by
  have h1 := h.next (below1 wr (.cells (List.replicate 8 (Value.slice none 0 0)).toArray 71))
  have hnew := Blk.new wr 71 (List.replicate 8 (Value.slice none 0 0))
  have hs := h1.l.set ads.length (.pointer (some ⟨wr.heap.size, 0, none⟩))
  have ex : (ads.flatMap ptv).length = ads.length := by rw [flat_len ptv_len, Nat.mul_one]
  have el : (ads.flatMap ptv ++ List.replicate (m - ads.length) (Value.pointer none)).set ads.length (.pointer (some ⟨wr.heap.size, 0, none⟩)) = (ads ++ [wr.heap.size]).flatMap ptv ++ List.replicate (m - (ads ++ [wr.heap.size]).length) (.pointer none) := by
    rw [show m - ads.length = (m - (ads ++ [wr.heap.size]).length) + 1 by rw [List.length_append, List.length_singleton]; omega, List.replicate_succ, set_at _ _ _ _ _ ex, List.flatMap_append]
    simp [ptv]
  rw [el] at hs
  have far : ∀ {k t C}, Blk (wr.alloc (.cells (List.replicate 8 (Value.slice none 0 0)).toArray 71)) k t C → t ≠ 65 → Blk ((wr.alloc (.cells (List.replicate 8 (Value.slice none 0 0)).toArray 71)).setCell ⟨gl, ads.length, none⟩ (.pointer (some ⟨wr.heap.size, 0, none⟩))) k t C := fun {k t C} hb ht => hb.far (heap_set _ _ _ (hb.ne h1.l ht))
  refine ⟨far h1.t (by decide), far h1.p (by decide), hs, ?_, ?_, by rw [List.length_append, List.length_singleton]; omega⟩
  · intro a g hg
    by_cases c : a < ads.length
    · rw [List.getElem?_append_left c] at hg
      exact ⟨far (h1.b a g hg).1 (by decide), (h.b a g hg).2⟩
    · have ha : a = ads.length := by have := getD_lt hg; rw [List.length_append, List.length_singleton] at this; omega
      subst ha
      rw [List.getElem?_append_right (Nat.le_refl _), Nat.sub_self] at hg
      simp at hg
      subst hg
      exact ⟨far hnew (by decide), hw⟩
  · intro a a' g hg hg'
    have hl : ∀ a, a < (ads ++ [wr.heap.size]).length → ¬ a < ads.length → a = ads.length := fun a h1 h2 => by rw [List.length_append, List.length_singleton] at h1; omega
    by_cases c : a < ads.length <;> by_cases c' : a' < ads.length
    · rw [List.getElem?_append_left c] at hg
      rw [List.getElem?_append_left c'] at hg'
      exact h.n a a' g hg hg'
    · have e := hl a' (getD_lt hg') c'
      subst e
      rw [List.getElem?_append_right (Nat.le_refl _), Nat.sub_self] at hg'
      rw [List.getElem?_append_left c] at hg
      simp at hg'
      have := (h.b a g hg).1.lt
      omega
    · have e := hl a (getD_lt hg) c
      subst e
      rw [List.getElem?_append_right (Nat.le_refl _), Nat.sub_self] at hg
      rw [List.getElem?_append_left c'] at hg'
      simp at hg
      have := (h.b a' g hg').1.lt
      omega
    · rw [hl a (getD_lt hg) c, hl a' (getD_lt hg') c']
theorem Mk.wdB {w wr : World} {m : Nat} {ads : List Nat} (h : Mk w wr (w.heap.size + 2) (w.heap.size + 1) w.heap.size m ads) (hn : ads.length = m) : Wd wr w.heap.size (w.heap.size + 2) (w.heap.size + 1) w.heap.size m m ads (List.replicate (8 * m) (.slice none 0 0)) (List.replicate (8 * m) []) := by
  have hl := h.l
  rw [hn, Nat.sub_self, List.replicate_zero, List.append_nil] at hl
  refine ⟨h.t, h.p, hl, hn, Nat.le_refl _, by rw [List.length_replicate], by rw [List.length_replicate], ?_, ?_, ?_, h.n, by omega, by omega, Nat.le_refl _, fun a g hg => (h.b a g hg).2, ?_⟩
  · intro a g hg
    have ha := getD_lt hg
    rw [List.drop_replicate, List.take_replicate, Nat.min_eq_left (by omega)]
    exact (h.b a g hg).1
  · intro q u es hu hes
    rw [List.eq_of_mem_replicate (List.mem_of_getElem? hu), List.eq_of_mem_replicate (List.mem_of_getElem? hes)]
    exact World.ownsRow_nil _ _ _ _
  · intro q q' u u' g hu hu' hg
    rw [List.eq_of_mem_replicate (List.mem_of_getElem? hu)] at hg
    cases hg
  · intro q u g hu hg
    rw [List.eq_of_mem_replicate (List.mem_of_getElem? hu)] at hg
    cases hg
set_option maxHeartbeats 8000000 in
theorem widened_none (p : Option Addr) (c : Int)  (Lall : List En) (w : World) (Q : World → Nat → Prop)
    (hQ : ∀ w1 tb pw gl ads wq wr, Jw w w1 tb pw gl 1 ads wq Lall → Below w.heap.size w wr → (∀ k, w1.heap.size ≤ k → wr.heap[k]? = wq.heap[k]?) → Q wr pw)
    (hBk : ∀ w', Below w.heap.size w w' → Calls Try.prog 11 #[.agg #[.pointer p, .int .i64 c]] w' fun e w'' => e = .returned (.int .i64 0) ∧ Below w'.heap.size w' w'')
    (hEa : ∀ tb J w0, Told w tb J → J w0 [] → Calls Try.prog 31 #[.agg #[.pointer p, .int .i64 c], .func (.func 32) #[] #[.pointer (some ⟨tb, 0, none⟩)]] w0 fun e w' => e = .returned (.tuple #[]) ∧ J w' Lall) :
    Calls Try.prog 22 #[.agg #[.pointer p, .int .i64 c]] w fun e w' => ∃ pw, e = .returned (.agg #[.pointer (some ⟨pw, 0, none⟩), .int .i64 c]) ∧ Q w' pw ∧ Below w.heap.size w w' := by
  have HBk : Hid (∀ w', Below w.heap.size w w' → Calls Try.prog 11 #[.agg #[.pointer p, .int .i64 c]] w' fun e w'' => e = .returned (.int .i64 0) ∧ Below w'.heap.size w' w'') := hBk
  have HEa : Hid (∀ tb J w0, Told w tb J → J w0 [] → Calls Try.prog 31 #[.agg #[.pointer p, .int .i64 c], .func (.func 32) #[] #[.pointer (some ⟨tb, 0, none⟩)]] w0 fun e w' => e = .returned (.tuple #[]) ∧ J w' Lall) := hEa
  have HQ : Hid (∀ w1 tb pw gl ads wq wr, Jw w w1 tb pw gl 1 ads wq Lall → Below w.heap.size w wr → (∀ k, w1.heap.size ≤ k → wr.heap[k]? = wq.heap[k]?) → Q wr pw) := hQ
  have rz : ∀ w, (Instr.makeSlice 49 (.int .i64 1) (.int .i64 1)).run Try.prog w = .ok (.slice (some ⟨w.heap.size, 0, none⟩) 1 1) (w.alloc (.cells #[Value.pointer none] 65)) := fun w => mkQ 1 (by omega) w
  obtain ⟨W0, hW0⟩ : ∃ W0, (w.alloc (.cells #[.pointer p, .int .i64 c] 27)).alloc (.cells #[.pointer none, .int .i64 0] 27) = W0 := ⟨_, rfl⟩
  have HB0 : Hid (Below w.heap.size w W0) := by show Below _ _ _; rw [← hW0]; exact below2 _ _ _
  have HX0 : Hid (Blk W0 w.heap.size 27 [.pointer p, .int .i64 c]) := by
    show Blk _ _ _ _
    rw [← hW0]
    exact (Blk.new w 27 [.pointer p, .int .i64 c]).next (below1 _ _)
  have HR0 : Hid (Blk W0 (w.heap.size + 1) 27 [.pointer none, .int .i64 0]) := by
    show Blk _ _ _ _
    rw [← hW0]
    have := Blk.new (w.alloc (.cells #[.pointer p, .int .i64 c] 27)) 27 [.pointer none, .int .i64 0]
    rwa [size_alloc] at this
  have HW0 : Hid ((w.alloc (.cells #[.pointer p, .int .i64 c] 27)).alloc (.cells #[.pointer none, .int .i64 0] 27) = W0) := hW0
  skip
  clear hBk hEa hW0 hQ
  go_enter Try.func22, Try.ntmps22
  go_wp2_with fail
  rw [HW0.out]
  refine Calls.mono (HBk.out _ HB0.out) ?_; rintro e w1 ⟨rfl, k1⟩
  have HB1 : Hid (Below w.heap.size w w1) := Below.next HB0.out k1
  have HX1 : Hid (Blk w1 w.heap.size 27 [.pointer p, .int .i64 c]) := HX0.out.next k1
  have HR1 : Hid (Blk w1 (w.heap.size + 1) 27 [.pointer none, .int .i64 0]) := HR0.out.next k1
  obtain ⟨WA, hWA⟩ : ∃ WA, ((w1.alloc (.cells #[Value.pointer none] 65)).alloc (.cells #[.slice (some ⟨w1.heap.size, 0, none⟩) 1 1] 51)).alloc (.cells #[.pointer (some ⟨w1.heap.size + 1, 0, none⟩)] 25) = WA := ⟨_, rfl⟩
  have HMk : Hid (Mk w1 WA (w1.heap.size + 2) (w1.heap.size + 1) w1.heap.size 1 []) := by
    show Mk _ _ _ _ _ _ _
    rw [← hWA]
    refine ⟨?_, ?_, ?_, fun a g h => by simp at h, fun a a' g h => by simp at h, by simp⟩
    · have := Blk.new ((w1.alloc (.cells #[Value.pointer none] 65)).alloc (.cells #[.slice (some ⟨w1.heap.size, 0, none⟩) 1 1] 51)) 25 [.pointer (some ⟨w1.heap.size + 1, 0, none⟩)]
      rwa [size_alloc, size_alloc] at this
    · have := (Blk.new (w1.alloc (.cells #[Value.pointer none] 65)) 51 [.slice (some ⟨w1.heap.size, 0, none⟩) 1 1]).next (below1 _ (.cells #[.pointer (some ⟨w1.heap.size + 1, 0, none⟩)] 25))
      rwa [size_alloc] at this
    · exact (Blk.new w1 65 (List.replicate 1 (Value.pointer none))).next (below2 _ _ _)
  have HBA : Hid (Below w1.heap.size w1 WA) := by show Below _ _ _; rw [← hWA]; exact below3 _ _ _ _
  have HWA : Hid (((w1.alloc (.cells #[Value.pointer none] 65)).alloc (.cells #[.slice (some ⟨w1.heap.size, 0, none⟩) 1 1] 51)).alloc (.cells #[.pointer (some ⟨w1.heap.size + 1, 0, none⟩)] 25) = WA) := hWA
  clear k1 hWA
  go_wp2_with fail
  go_loopw [18] (fun vi wr => ∃ (i : Nat) (ads : List Nat), i ≤ 1 ∧ vi = .int .i64 i ∧ Hid (Mk w1 wr (w1.heap.size + 2) (w1.heap.size + 1) w1.heap.size 1 ads ∧ ads.length = i ∧ Below w1.heap.size w1 wr))
    (fun vi _ => 1 - (intOf vi).toNat)
  case atStart => exact ⟨0, [], Nat.zero_le _, rfl, by
    have hA := HWA.out
    first | rw [hA] | (rw [List.toArray_replicate] at hA; rw [hA])
    exact ⟨HMk.out, rfl, HBA.out⟩⟩
  case round =>
    clear HMk HBA
    obtain ⟨i, ads, hi, rfl, HI⟩ := hrel
    by_cases hlt : i < 1
    · have hlti : (i : Int) < (1 : Int) := by omega
      have x0 : wr.cell? ⟨w1.heap.size + 1 + 1, 0, none⟩ = some (.pointer (some ⟨w1.heap.size + 1, 0, none⟩)) := HI.out.1.t.cell rfl
      have x1 : wr.cell? ⟨w1.heap.size + 1, 0, none⟩ = some (.slice (some ⟨w1.heap.size, 0, none⟩) 1 1) := HI.out.1.p.cell rfl
      have HN := HI.out.1.next (below1 wr (.cells (List.replicate 8 (Value.slice none 0 0)).toArray 71))
      have x2 : (wr.alloc (.cells #[.slice none 0 0, .slice none 0 0, .slice none 0 0, .slice none 0 0, .slice none 0 0, .slice none 0 0, .slice none 0 0, .slice none 0 0] 71)).cell? ⟨w1.heap.size, i, none⟩ = some (.pointer none) := HN.l.cell (by
        have ex : (ads.flatMap ptv).length = i := by rw [flat_len ptv_len, Nat.mul_one, HI.out.2.1]
        rw [List.getElem?_append_right (by omega), ex, Nat.sub_self, List.getElem?_replicate, if_pos (by have := HI.out.2.1; omega)])
      have x3 : ∀ j, (wr.alloc (.cells #[.slice none 0 0, .slice none 0 0, .slice none 0 0, .slice none 0 0, .slice none 0 0, .slice none 0 0, .slice none 0 0, .slice none 0 0] 71)).frozen? ⟨w1.heap.size, j, none⟩ = false := HN.l.fz
      have HM2 : Hid (Mk w1 ((wr.alloc (.cells #[.slice none 0 0, .slice none 0 0, .slice none 0 0, .slice none 0 0, .slice none 0 0, .slice none 0 0, .slice none 0 0, .slice none 0 0] 71)).setCell ⟨w1.heap.size, i, none⟩ (.pointer (some ⟨wr.heap.size, 0, none⟩))) (w1.heap.size + 2) (w1.heap.size + 1) w1.heap.size 1 (ads ++ [wr.heap.size]) ∧ (ads ++ [wr.heap.size]).length = i + 1 ∧ Below w1.heap.size w1 ((wr.alloc (.cells #[.slice none 0 0, .slice none 0 0, .slice none 0 0, .slice none 0 0, .slice none 0 0, .slice none 0 0, .slice none 0 0, .slice none 0 0] 71)).setCell ⟨w1.heap.size, i, none⟩ (.pointer (some ⟨wr.heap.size, 0, none⟩)))) := by
        have hm := HI.out.1.more (by rw [HI.out.2.1]; exact hlt) HI.out.2.2.size
        rw [HI.out.2.1] at hm
        refine ⟨hm, by rw [List.length_append, HI.out.2.1]; rfl, ?_⟩
        exact below_set (HI.out.2.2.trans ((below1 wr _).mono HI.out.2.2.size)) _ _ _ (Nat.le_refl _)
      clear HN
      go_wp2_with fail
      go_roundw
      case rel => exact ⟨i + 1, _, by omega, by go_num, HM2.out⟩
      case measure => simp [intOf]; omega
    · have hlti : ¬ (i : Int) < (1 : Int) := by omega
      have hie : i = 1 := by omega
      have HJ0 : Hid (Jw w w1 (w1.heap.size + 2) (w1.heap.size + 1) w1.heap.size 1 ads wr []) := ⟨HB1.out, HI.out.2.2, _, _, HI.out.1.wdB (by rw [HI.out.2.1]; exact hie), two_replicate w _⟩
      have HCE : Hid (Calls Try.prog 31 #[.agg #[.pointer p, .int .i64 c], .func (.func 32) #[] #[.pointer (some ⟨w1.heap.size + 1 + 1, 0, none⟩)]] wr fun e w' => e = .returned (.tuple #[]) ∧ Jw w w1 (w1.heap.size + 2) (w1.heap.size + 1) w1.heap.size 1 ads w' Lall) := HEa.out (w1.heap.size + 2) _ wr (told_jw w w1 _ _ _ 1 ads (by omega) (by omega)) HJ0.out
      have hXw := HX1.out.next HI.out.2.2
      have x0 := hXw.cell (i := 0) rfl
      have x1 := hXw.cell (i := 1) rfl
      clear hXw HI HJ0 hie
      go_wp2_with fail
      refine Calls.mono HCE.out ?_; rintro e w2 ⟨rfl, hj⟩
      have HJ2 : Hid (Jw w w1 (w1.heap.size + 2) (w1.heap.size + 1) w1.heap.size 1 ads w2 Lall) := hj
      have HX2 : Hid (Blk w2 w.heap.size 27 [.pointer p, .int .i64 c]) := HX1.out.next hj.2.1
      have HR2 : Hid (Blk w2 (w.heap.size + 1) 27 [.pointer none, .int .i64 0]) := HR1.out.next hj.2.1
      have t0 : w2.cell? ⟨w1.heap.size + 1 + 1, 0, none⟩ = some (.pointer (some ⟨w1.heap.size + 1, 0, none⟩)) := by
        obtain ⟨_, _, us, ess, hwd, _⟩ := hj
        exact hwd.t.cell rfl
      have HX3 : Hid (Blk (w2.setCell ⟨w.heap.size, 0, none⟩ (.pointer (some ⟨w1.heap.size + 1, 0, none⟩))) w.heap.size 27 [.pointer (some ⟨w1.heap.size + 1, 0, none⟩), .int .i64 c]) := HX2.out.set 0 _
      have hne : w.heap.size + 1 ≠ w.heap.size := by omega
      have HR3 : Hid (Blk (w2.setCell ⟨w.heap.size, 0, none⟩ (.pointer (some ⟨w1.heap.size + 1, 0, none⟩))) (w.heap.size + 1) 27 [.pointer none, .int .i64 0]) := HR2.out.far (heap_set _ _ _ hne)
      have a0 := HX2.out.cell (i := 0) rfl
      have af := HX2.out.fz
      have b0 := HX3.out.cell (i := 0) rfl
      have b1 := HX3.out.cell (i := 1) rfl
      have c0 := HR3.out.cell (i := 0) rfl
      have c1 := HR3.out.cell (i := 1) rfl
      have cf := HR3.out.fz
      have HR4 : Hid (Blk (((w2.setCell ⟨w.heap.size, 0, none⟩ (.pointer (some ⟨w1.heap.size + 1, 0, none⟩))).setCell ⟨w.heap.size + 1, 0, none⟩ (.pointer (some ⟨w1.heap.size + 1, 0, none⟩))).setCell ⟨w.heap.size + 1, 1, none⟩ (.int .i64 c)) (w.heap.size + 1) 27 [.pointer (some ⟨w1.heap.size + 1, 0, none⟩), .int .i64 c]) := (HR3.out.set 0 _).set 1 _
      obtain ⟨w4, hw4⟩ : ∃ w4, ((w2.setCell ⟨w.heap.size, 0, none⟩ (.pointer (some ⟨w1.heap.size + 1, 0, none⟩))).setCell ⟨w.heap.size + 1, 0, none⟩ (.pointer (some ⟨w1.heap.size + 1, 0, none⟩))).setCell ⟨w.heap.size + 1, 1, none⟩ (.int .i64 c) = w4 := ⟨_, rfl⟩
      have HW4 : Hid (((w2.setCell ⟨w.heap.size, 0, none⟩ (.pointer (some ⟨w1.heap.size + 1, 0, none⟩))).setCell ⟨w.heap.size + 1, 0, none⟩ (.pointer (some ⟨w1.heap.size + 1, 0, none⟩))).setCell ⟨w.heap.size + 1, 1, none⟩ (.int .i64 c) = w4) := hw4
      rw [hw4] at HR4
      have hRl : w.heap.size + 1 < w1.heap.size := HR1.out.lt
      have HB4 : Hid (Below w.heap.size w w4) := by
        show Below _ _ _
        rw [← hw4]
        exact below_set (below_set (below_set (Below.next HB1.out hj.2.1) _ _ _ (Nat.le_refl _)) _ _ _ (by omega)) _ _ _ (by omega)
      have HFR : Hid (∀ k, w1.heap.size ≤ k → w4.heap[k]? = w2.heap[k]?) := fun k hk => by
        rw [← hw4]
        exact (heap_set _ _ _ (by omega)).trans ((heap_set _ _ _ (by omega)).trans (heap_set _ _ _ (by omega)))
      have HRR : Hid ((loadVar 27 ⟨w.heap.size + 1, 0, none⟩).run Try.prog w4 = .ok (.agg #[.pointer (some ⟨w1.heap.size + 1, 0, none⟩), .int .i64 c]) w4) := load27 (HR4.out.cell (i := 0) rfl) (HR4.out.cell (i := 1) rfl)
      have HFI : Hid (Q w4 (w1.heap.size + 1)) := HQ.out w1 _ _ _ _ w2 w4 HJ2.out HB4.out HFR.out
      clear hj hw4 HCE x0 x1 HQ HEa
      go_wp2_with fail
      rw [HW4.out]
      refine bodyPost_ret (end_cell rfl rfl HRR.out) rfl ?_
      exact ⟨_, rfl, HFI.out, HB4.out⟩
set_option maxHeartbeats 8000000 in
theorem widened_some (p : Option Addr) (c : Int) (nb m : Nat) (hnb : nb ≤ 500) (hnb0 : 0 < nb) (hm : m = 2 * nb) (Lall : List En) (w : World) (Q : World → Nat → Prop)
    (hQ : ∀ w1 tb pw gl ads wq wr, Jw w w1 tb pw gl m ads wq Lall → Below w.heap.size w wr → (∀ k, w1.heap.size ≤ k → wr.heap[k]? = wq.heap[k]?) → Q wr pw)
    (hBk : ∀ w', Below w.heap.size w w' → Calls Try.prog 11 #[.agg #[.pointer p, .int .i64 c]] w' fun e w'' => e = .returned (.int .i64 (8 * nb : Nat)) ∧ Below w'.heap.size w' w'')
    (hEa : ∀ tb J w0, Told w tb J → J w0 [] → Calls Try.prog 31 #[.agg #[.pointer p, .int .i64 c], .func (.func 32) #[] #[.pointer (some ⟨tb, 0, none⟩)]] w0 fun e w' => e = .returned (.tuple #[]) ∧ J w' Lall) :
    Calls Try.prog 22 #[.agg #[.pointer p, .int .i64 c]] w fun e w' => ∃ pw, e = .returned (.agg #[.pointer (some ⟨pw, 0, none⟩), .int .i64 c]) ∧ Q w' pw ∧ Below w.heap.size w w' := by
  have HBk : Hid (∀ w', Below w.heap.size w w' → Calls Try.prog 11 #[.agg #[.pointer p, .int .i64 c]] w' fun e w'' => e = .returned (.int .i64 (8 * nb : Nat)) ∧ Below w'.heap.size w' w'') := hBk
  have HEa : Hid (∀ tb J w0, Told w tb J → J w0 [] → Calls Try.prog 31 #[.agg #[.pointer p, .int .i64 c], .func (.func 32) #[] #[.pointer (some ⟨tb, 0, none⟩)]] w0 fun e w' => e = .returned (.tuple #[]) ∧ J w' Lall) := hEa
  have HQ : Hid (∀ w1 tb pw gl ads wq wr, Jw w w1 tb pw gl m ads wq Lall → Below w.heap.size w wr → (∀ k, w1.heap.size ≤ k → wr.heap[k]? = wq.heap[k]?) → Q wr pw) := hQ
  have rz : ∀ w, (Instr.makeSlice 49 (.int .i64 (m : Int)) (.int .i64 (m : Int))).run Try.prog w = .ok (.slice (some ⟨w.heap.size, 0, none⟩) m m) (w.alloc (.cells (List.replicate m (Value.pointer none)).toArray 65)) := fun w => mkQ m (by omega) w
  obtain ⟨W0, hW0⟩ : ∃ W0, (w.alloc (.cells #[.pointer p, .int .i64 c] 27)).alloc (.cells #[.pointer none, .int .i64 0] 27) = W0 := ⟨_, rfl⟩
  have HB0 : Hid (Below w.heap.size w W0) := by show Below _ _ _; rw [← hW0]; exact below2 _ _ _
  have HX0 : Hid (Blk W0 w.heap.size 27 [.pointer p, .int .i64 c]) := by
    show Blk _ _ _ _
    rw [← hW0]
    exact (Blk.new w 27 [.pointer p, .int .i64 c]).next (below1 _ _)
  have HR0 : Hid (Blk W0 (w.heap.size + 1) 27 [.pointer none, .int .i64 0]) := by
    show Blk _ _ _ _
    rw [← hW0]
    have := Blk.new (w.alloc (.cells #[.pointer p, .int .i64 c] 27)) 27 [.pointer none, .int .i64 0]
    rwa [size_alloc] at this
  have HW0 : Hid ((w.alloc (.cells #[.pointer p, .int .i64 c] 27)).alloc (.cells #[.pointer none, .int .i64 0] 27) = W0) := hW0
  have hmd : 2 * (8 * (nb : Int)) / 8 = (m : Int) := by omega
  have hm1 : (1 : Int) < (m : Int) := by omega
  have hm2 : m ≤ 1000 := by omega
  clear hm
  clear hBk hEa hW0 hQ
  go_enter Try.func22, Try.ntmps22
  go_wp2_with fail
  rw [HW0.out]
  refine Calls.mono (HBk.out _ HB0.out) ?_; rintro e w1 ⟨rfl, k1⟩
  have HB1 : Hid (Below w.heap.size w w1) := Below.next HB0.out k1
  have HX1 : Hid (Blk w1 w.heap.size 27 [.pointer p, .int .i64 c]) := HX0.out.next k1
  have HR1 : Hid (Blk w1 (w.heap.size + 1) 27 [.pointer none, .int .i64 0]) := HR0.out.next k1
  obtain ⟨WA, hWA⟩ : ∃ WA, ((w1.alloc (.cells (List.replicate m (Value.pointer none)).toArray 65)).alloc (.cells #[.slice (some ⟨w1.heap.size, 0, none⟩) m m] 51)).alloc (.cells #[.pointer (some ⟨w1.heap.size + 1, 0, none⟩)] 25) = WA := ⟨_, rfl⟩
  have HMk : Hid (Mk w1 WA (w1.heap.size + 2) (w1.heap.size + 1) w1.heap.size m []) := by
    show Mk _ _ _ _ _ _ _
    rw [← hWA]
    refine ⟨?_, ?_, ?_, fun a g h => by simp at h, fun a a' g h => by simp at h, by simp⟩
    · have := Blk.new ((w1.alloc (.cells (List.replicate m (Value.pointer none)).toArray 65)).alloc (.cells #[.slice (some ⟨w1.heap.size, 0, none⟩) m m] 51)) 25 [.pointer (some ⟨w1.heap.size + 1, 0, none⟩)]
      rwa [size_alloc, size_alloc] at this
    · have := (Blk.new (w1.alloc (.cells (List.replicate m (Value.pointer none)).toArray 65)) 51 [.slice (some ⟨w1.heap.size, 0, none⟩) m m]).next (below1 _ (.cells #[.pointer (some ⟨w1.heap.size + 1, 0, none⟩)] 25))
      rwa [size_alloc] at this
    · exact (Blk.new w1 65 (List.replicate m (Value.pointer none))).next (below2 _ _ _)
  have HBA : Hid (Below w1.heap.size w1 WA) := by show Below _ _ _; rw [← hWA]; exact below3 _ _ _ _
  have HWA : Hid (((w1.alloc (.cells (List.replicate m (Value.pointer none)).toArray 65)).alloc (.cells #[.slice (some ⟨w1.heap.size, 0, none⟩) m m] 51)).alloc (.cells #[.pointer (some ⟨w1.heap.size + 1, 0, none⟩)] 25) = WA) := hWA
  clear k1 hWA
  go_wp2_with fail
  go_loopw [18] (fun vi wr => ∃ (i : Nat) (ads : List Nat), i ≤ m ∧ vi = .int .i64 i ∧ Hid (Mk w1 wr (w1.heap.size + 2) (w1.heap.size + 1) w1.heap.size m ads ∧ ads.length = i ∧ Below w1.heap.size w1 wr))
    (fun vi _ => m - (intOf vi).toNat)
  case atStart => exact ⟨0, [], Nat.zero_le _, rfl, by
    have hA := HWA.out
    first | rw [hA] | (rw [List.toArray_replicate] at hA; rw [hA])
    exact ⟨HMk.out, rfl, HBA.out⟩⟩
  case round =>
    clear HMk HBA
    obtain ⟨i, ads, hi, rfl, HI⟩ := hrel
    by_cases hlt : i < m
    · have hlti : (i : Int) < ((m : Int) : Int) := by omega
      have x0 : wr.cell? ⟨w1.heap.size + 1 + 1, 0, none⟩ = some (.pointer (some ⟨w1.heap.size + 1, 0, none⟩)) := HI.out.1.t.cell rfl
      have x1 : wr.cell? ⟨w1.heap.size + 1, 0, none⟩ = some (.slice (some ⟨w1.heap.size, 0, none⟩) m m) := HI.out.1.p.cell rfl
      have HN := HI.out.1.next (below1 wr (.cells (List.replicate 8 (Value.slice none 0 0)).toArray 71))
      have x2 : (wr.alloc (.cells #[.slice none 0 0, .slice none 0 0, .slice none 0 0, .slice none 0 0, .slice none 0 0, .slice none 0 0, .slice none 0 0, .slice none 0 0] 71)).cell? ⟨w1.heap.size, i, none⟩ = some (.pointer none) := HN.l.cell (by
        have ex : (ads.flatMap ptv).length = i := by rw [flat_len ptv_len, Nat.mul_one, HI.out.2.1]
        rw [List.getElem?_append_right (by omega), ex, Nat.sub_self, List.getElem?_replicate, if_pos (by have := HI.out.2.1; omega)])
      have x3 : ∀ j, (wr.alloc (.cells #[.slice none 0 0, .slice none 0 0, .slice none 0 0, .slice none 0 0, .slice none 0 0, .slice none 0 0, .slice none 0 0, .slice none 0 0] 71)).frozen? ⟨w1.heap.size, j, none⟩ = false := HN.l.fz
      have HM2 : Hid (Mk w1 ((wr.alloc (.cells #[.slice none 0 0, .slice none 0 0, .slice none 0 0, .slice none 0 0, .slice none 0 0, .slice none 0 0, .slice none 0 0, .slice none 0 0] 71)).setCell ⟨w1.heap.size, i, none⟩ (.pointer (some ⟨wr.heap.size, 0, none⟩))) (w1.heap.size + 2) (w1.heap.size + 1) w1.heap.size m (ads ++ [wr.heap.size]) ∧ (ads ++ [wr.heap.size]).length = i + 1 ∧ Below w1.heap.size w1 ((wr.alloc (.cells #[.slice none 0 0, .slice none 0 0, .slice none 0 0, .slice none 0 0, .slice none 0 0, .slice none 0 0, .slice none 0 0, .slice none 0 0] 71)).setCell ⟨w1.heap.size, i, none⟩ (.pointer (some ⟨wr.heap.size, 0, none⟩)))) := by
        have hm := HI.out.1.more (by rw [HI.out.2.1]; exact hlt) HI.out.2.2.size
        rw [HI.out.2.1] at hm
        refine ⟨hm, by rw [List.length_append, HI.out.2.1]; rfl, ?_⟩
        exact below_set (HI.out.2.2.trans ((below1 wr _).mono HI.out.2.2.size)) _ _ _ (Nat.le_refl _)
      clear HN
      go_wp2_with fail
      go_roundw
      case rel => exact ⟨i + 1, _, by omega, by go_num, HM2.out⟩
      case measure => simp [intOf]; omega
    · have hlti : ¬ (i : Int) < ((m : Int) : Int) := by omega
      have hie : i = m := by omega
      have HJ0 : Hid (Jw w w1 (w1.heap.size + 2) (w1.heap.size + 1) w1.heap.size m ads wr []) := ⟨HB1.out, HI.out.2.2, _, _, HI.out.1.wdB (by rw [HI.out.2.1]; exact hie), two_replicate w _⟩
      have HCE : Hid (Calls Try.prog 31 #[.agg #[.pointer p, .int .i64 c], .func (.func 32) #[] #[.pointer (some ⟨w1.heap.size + 1 + 1, 0, none⟩)]] wr fun e w' => e = .returned (.tuple #[]) ∧ Jw w w1 (w1.heap.size + 2) (w1.heap.size + 1) w1.heap.size m ads w' Lall) := HEa.out (w1.heap.size + 2) _ wr (told_jw w w1 _ _ _ m ads (by omega) (by omega)) HJ0.out
      have hXw := HX1.out.next HI.out.2.2
      have x0 := hXw.cell (i := 0) rfl
      have x1 := hXw.cell (i := 1) rfl
      clear hXw HI HJ0 hie
      go_wp2_with fail
      refine Calls.mono HCE.out ?_; rintro e w2 ⟨rfl, hj⟩
      have HJ2 : Hid (Jw w w1 (w1.heap.size + 2) (w1.heap.size + 1) w1.heap.size m ads w2 Lall) := hj
      have HX2 : Hid (Blk w2 w.heap.size 27 [.pointer p, .int .i64 c]) := HX1.out.next hj.2.1
      have HR2 : Hid (Blk w2 (w.heap.size + 1) 27 [.pointer none, .int .i64 0]) := HR1.out.next hj.2.1
      have t0 : w2.cell? ⟨w1.heap.size + 1 + 1, 0, none⟩ = some (.pointer (some ⟨w1.heap.size + 1, 0, none⟩)) := by
        obtain ⟨_, _, us, ess, hwd, _⟩ := hj
        exact hwd.t.cell rfl
      have HX3 : Hid (Blk (w2.setCell ⟨w.heap.size, 0, none⟩ (.pointer (some ⟨w1.heap.size + 1, 0, none⟩))) w.heap.size 27 [.pointer (some ⟨w1.heap.size + 1, 0, none⟩), .int .i64 c]) := HX2.out.set 0 _
      have hne : w.heap.size + 1 ≠ w.heap.size := by omega
      have HR3 : Hid (Blk (w2.setCell ⟨w.heap.size, 0, none⟩ (.pointer (some ⟨w1.heap.size + 1, 0, none⟩))) (w.heap.size + 1) 27 [.pointer none, .int .i64 0]) := HR2.out.far (heap_set _ _ _ hne)
      have a0 := HX2.out.cell (i := 0) rfl
      have af := HX2.out.fz
      have b0 := HX3.out.cell (i := 0) rfl
      have b1 := HX3.out.cell (i := 1) rfl
      have c0 := HR3.out.cell (i := 0) rfl
      have c1 := HR3.out.cell (i := 1) rfl
      have cf := HR3.out.fz
      have HR4 : Hid (Blk (((w2.setCell ⟨w.heap.size, 0, none⟩ (.pointer (some ⟨w1.heap.size + 1, 0, none⟩))).setCell ⟨w.heap.size + 1, 0, none⟩ (.pointer (some ⟨w1.heap.size + 1, 0, none⟩))).setCell ⟨w.heap.size + 1, 1, none⟩ (.int .i64 c)) (w.heap.size + 1) 27 [.pointer (some ⟨w1.heap.size + 1, 0, none⟩), .int .i64 c]) := (HR3.out.set 0 _).set 1 _
      obtain ⟨w4, hw4⟩ : ∃ w4, ((w2.setCell ⟨w.heap.size, 0, none⟩ (.pointer (some ⟨w1.heap.size + 1, 0, none⟩))).setCell ⟨w.heap.size + 1, 0, none⟩ (.pointer (some ⟨w1.heap.size + 1, 0, none⟩))).setCell ⟨w.heap.size + 1, 1, none⟩ (.int .i64 c) = w4 := ⟨_, rfl⟩
      have HW4 : Hid (((w2.setCell ⟨w.heap.size, 0, none⟩ (.pointer (some ⟨w1.heap.size + 1, 0, none⟩))).setCell ⟨w.heap.size + 1, 0, none⟩ (.pointer (some ⟨w1.heap.size + 1, 0, none⟩))).setCell ⟨w.heap.size + 1, 1, none⟩ (.int .i64 c) = w4) := hw4
      rw [hw4] at HR4
      have hRl : w.heap.size + 1 < w1.heap.size := HR1.out.lt
      have HB4 : Hid (Below w.heap.size w w4) := by
        show Below _ _ _
        rw [← hw4]
        exact below_set (below_set (below_set (Below.next HB1.out hj.2.1) _ _ _ (Nat.le_refl _)) _ _ _ (by omega)) _ _ _ (by omega)
      have HFR : Hid (∀ k, w1.heap.size ≤ k → w4.heap[k]? = w2.heap[k]?) := fun k hk => by
        rw [← hw4]
        exact (heap_set _ _ _ (by omega)).trans ((heap_set _ _ _ (by omega)).trans (heap_set _ _ _ (by omega)))
      have HRR : Hid ((loadVar 27 ⟨w.heap.size + 1, 0, none⟩).run Try.prog w4 = .ok (.agg #[.pointer (some ⟨w1.heap.size + 1, 0, none⟩), .int .i64 c]) w4) := load27 (HR4.out.cell (i := 0) rfl) (HR4.out.cell (i := 1) rfl)
      have HFI : Hid (Q w4 (w1.heap.size + 1)) := HQ.out w1 _ _ _ _ w2 w4 HJ2.out HB4.out HFR.out
      clear hj hw4 HCE x0 x1 HQ HEa
      go_wp2_with fail
      rw [HW4.out]
      refine bodyPost_ret (end_cell rfl rfl HRR.out) rfl ?_
      exact ⟨_, rfl, HFI.out, HB4.out⟩

theorem each_none (c : Int) (tb : Nat) (J : World → List En → Prop) (w w0 : World) (hJ : Told w tb J) (h0 : J w0 []) : Calls Try.prog 31 #[.agg #[.pointer none, .int .i64 c], .func (.func 32) #[] #[.pointer (some ⟨tb, 0, none⟩)]] w0 fun e w' => e = .returned (.tuple #[]) ∧ J w' [] := by
  have HJ : Hid (∀ o, J (w0.alloc o) []) := fun o => hJ.mor _ _ h0 o
  clear hJ h0
  go_enter Try.func31, Try.ntmps31
  go_wp2_with fail
  try simp only [Exit.inBlock, Exit.then]
  refine bodyPost_ret (results_none rfl _ _ _) rfl ?_
  exact ⟨rfl, HJ.out _⟩
theorem widened_is (p : Option Addr) (c : Int) (F : Val → List Int) (nb M : Nat) (hM : M ≤ 990) (hnb : nb ≤ 500) (hfit : ∀ v, F v ≠ [] → v.fit) (w : World) (h : Ix w p F nb M) :
    Calls Try.prog 22 #[.agg #[.pointer p, .int .i64 c]] w fun e w' => ∃ p', e = .returned (.agg #[.pointer (some ⟨p', 0, none⟩), .int .i64 c]) ∧ Ix w' (some ⟨p', 0, none⟩) F (max 1 (2 * nb)) M ∧ Below w.heap.size w w' := by
  have hBk : ∀ w', Below w.heap.size w w' → Calls Try.prog 11 #[.agg #[.pointer p, .int .i64 c]] w' fun e w'' => e = .returned (.int .i64 (8 * nb : Nat)) ∧ Below w'.heap.size w' w'' := fun w' hb => buckets_is p c F nb M (by omega) w' (h.next hb)
  rcases h with ⟨rfl, rfl, h0⟩ | ⟨g, v, ads, us, bs, rfl, h⟩
  · refine widened_none none c [] w (fun w' p' => Ix w' (some ⟨p', 0, none⟩) F (max 1 (2 * 0)) M) ?_ hBk (fun tb J w0 hJ hj => each_none c tb J w w0 hJ hj)
    intro w1 tb pw gl ads wq wr hj hb hfar
    exact hj.ix hb hfar (by omega) ((Fits.empty (m := 8 * 1) (by omega)).same (fun v => (h0 v).symm)) (Nat.zero_le _) (fun v => by rw [h0 v]; exact Nat.zero_le _) (fun v => by rw [h0 v]; exact List.Pairwise.nil)
  · have hpos := h.posn
    refine widened_some _ c nb (2 * nb) hnb hpos rfl bs.flatten w (fun w' p' => Ix w' (some ⟨p', 0, none⟩) F (max 1 (2 * nb)) M) ?_ hBk (fun tb J w0 hJ hj => each_is g c F nb M v ads us bs hM (by omega) tb J w w0 h hfit hJ hj)
    intro w1 tb pw gl ads' wq wr hj hb hfar
    rw [show max 1 (2 * nb) = 2 * nb by omega]
    exact hj.ix hb hfar (by omega) (h.fits.wides (by omega)) h.few h.less h.rise
end Go.Proofs.Ytgjeobmbfeinnaa
