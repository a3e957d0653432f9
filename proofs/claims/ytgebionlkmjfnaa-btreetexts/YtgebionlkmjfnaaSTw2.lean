/- All. Texts as keys. BtreeTexts. -/
import Derived.Test.YtgebionlkmjfnaaSTelC
import Derived.Test.YtgebionlkmjfnaaAwk
import Derived.RangeFuncWrites
import Derived.Deep.CutBlock
namespace Go.Proofs.Ytgebionlkmjfnaa.Sx
open Go.ChangeShapes Go.WideShapes Go.RowKit
set_option linter.unusedVariables false
set_option maxRecDepth 100000

open Go.Shelf
attribute [local go_sem] Oper.semAt_some

/-- The tree of a value, as it is told. -/
theorem told_of {y N : Nat} {w0 : World} {J Jx : List Itm → World → Prop} {m0 : Nat} (hJ : AbidesFrom m0 J) (hm : ∀ pre A, J pre A → True)
    (hY : ∀ pre (x : Itm) W, J pre W → pre.length < N → ∀ m, YieldAt Fence.wide m Try.prog y #[.string x.1, .int .i64 x.2] W fun e W' => (e = .returned (.bool true) ∧ J (pre ++ [x]) W' ∧ Below w0.heap.size W W') ∨ (e = .returned (.bool false) ∧ Jx (pre ++ [x]) W')) : Told y N w0 J Jx := by
  refine ⟨fun m pre x W h1 h2 => YieldAt.mono (hY pre x W h1 h2 m) fun e W' h => ?_, fun pre A B h1 h2 => ?_⟩
  · rcases h with ⟨he, h⟩ | ⟨he, h⟩
    · exact ⟨true, he, .inl ⟨rfl, h⟩⟩
    · exact ⟨false, he, .inr ⟨rfl, h⟩⟩
  · exact hJ pre A B none h1 ⟨h2.os, h2.tape, h2.output, h2.size, fun k hk _ => h2.block k hk⟩ (fun r e => by cases e)
set_option maxHeartbeats 2000000 in
/-- 'All$1'. -/
theorem all1_in (n y Bt : Nat) (w0 : World) (J Jx : List Itm → World → Prop) (p : Option Addr) (k : Int) (l : List Itm) (hv : TreeV w0 p k l) (hT : Told y l.length w0 J Jx) (W : World) (hB : Below w0.heap.size w0 W) (hc : W.cell? ⟨Bt, 0, none⟩ = some (.pointer p)) (h0 : J [] W) :
    CallsIn Fence.wide n Try.prog 34 #[.func (.yield y) #[] #[], .pointer (some ⟨Bt, 0, none⟩)] W fun e W' => (∃ v, e = .returned v) ∧ ((∃ ys, ys = l ∧ J ys W') ∨ (∃ pre, pre <+: l ∧ Jx pre W')) := by
  have hdd : ∀ k : Nat, (Fence.wide.depth.isSome = true → 1 ≤ k) := fun k h => by cases h
  obtain ⟨_, _, h3⟩ := hv
  rcases h3 with ⟨rfl, rfl⟩ | ⟨b, d, t, rfl, e2, e3, e4⟩
  · have HJ : Hid (J [] W) := h0
    clear hT h0
    refine callsIn_of_wp Try.func34 rfl trivial ?_ rfl
    simp only [Try.ntmps34, List.size_toArray, List.length_cons, List.length_nil, Nat.reduceAdd, Nat.reduceSub, Array.replicate_succ, Array.replicate_zero, List.push_toArray, List.append_toArray, List.nil_append, List.cons_append]
    gi_wp2
    go_end0
    exact ⟨⟨_, rfl⟩, .inl ⟨[], rfl, HJ.out⟩⟩
  · have HA : Hid (∀ m, CallsIn Fence.wide m Try.prog 35 #[.pointer (some ⟨b, 0, none⟩), .func (.yield y) #[] #[]] W (TellP J Jx w0 l [])) := fun m => by
      have := tellAll_in y l.length w0 J Jx hT d b t 1 12 e2 (by omega) e3 m [] W h0 hB (by rw [e4]; simp)
      rw [e4] at this
      exact this
    clear hT h0 e2 e3 e4
    refine callsIn_of_wp Try.func34 rfl trivial ?_ rfl
    simp only [Try.ntmps34, List.size_toArray, List.length_cons, List.length_nil, Nat.reduceAdd, Nat.reduceSub, Array.replicate_succ, Array.replicate_zero, List.push_toArray, List.append_toArray, List.nil_append, List.cons_append]
    gi_wp2
    refine ⟨trivial, hdd _, (HA.out _).mono ?_⟩
    rintro e w4 ⟨b2, rfl, hp2⟩
    have HP2 : Hid _ := hp2
    clear hp2
    gi_wp2
    go_end0
    refine ⟨⟨_, rfl⟩, ?_⟩
    rcases HP2.out with ⟨_, h1, _⟩ | ⟨_, q, h1, h2⟩
    · exact .inl ⟨l, rfl, h1⟩
    · exact .inr ⟨q, h1, h2⟩
/-- All. -/
theorem all_in (n : Nat) (p : Option Addr) (k : Int) (w : World) :
    CallsIn Fence.wide n Try.prog 19 #[.agg #[.pointer p, .int .i64 k]] w fun e w' => e = .returned (.func (.func 34) #[] #[.pointer (some ⟨w.heap.size, 0, none⟩)]) ∧ w' = w.alloc (.cells #[.pointer p, .int .i64 k] 53) := by
  refine callsIn_of_wp Try.func19 rfl trivial ?_ rfl
  simp only [Try.ntmps19, List.size_toArray, List.length_cons, List.length_nil, Nat.reduceAdd, Nat.reduceSub, Array.replicate_succ, Array.replicate_zero, List.push_toArray, List.append_toArray, List.nil_append, List.cons_append]
  gi_wp2
  go_ret
  exact ⟨rfl, rfl⟩
theorem all_stops (n : Nat) (Bt : Nat) (p : Option Addr) (k : Int) (l : List Itm) (w0 w : World) (hv : TreeV w0 p k l) (hw : Below w0.heap.size w0 w) (hBt : Bt < w.heap.size) (hc : w.cell? ⟨Bt, 0, none⟩ = some (.pointer p)) :
    SeqStopsK Fence.wide n Try.prog 34 #[.pointer (some ⟨Bt, 0, none⟩)] (fun x : Itm => #[Value.string x.1, .int .i64 x.2]) (Below w0.heap.size) (fun ys => ys = l) (fun pre => pre <+: l) l.length w := fun y J Jx W hW hJ hJx hY h0 =>
  all1_in n y Bt w0 J Jx p k l hv (told_of hJ (fun _ _ _ => trivial) (fun pre x W h1 h2 m => YieldAt.anyDepth rfl m (hY pre x W h1 h2))) W (Below.less hw hW hw.size) ((hW.cell (p := ⟨Bt, 0, none⟩) hBt).trans hc) h0
end Go.Proofs.Ytgebionlkmjfnaa.Sx

namespace Go.Proofs.Ytgebionlkmjfnaa.Sx
open Go.ChangeShapes Go.WideShapes Go.RowKit
set_option linter.unusedVariables false
set_option maxRecDepth 100000

open Go.Shelf
attribute [local go_sem] Oper.semAt_some

theorem kc_ne {a b : ByteArray} (h : a ≠ b) : kc a b = -1 ∨ kc b a = -1 := by
  rcases KOrd.range a b with q | q | q
  · exact .inl q
  · exact absurd ((KOrd.zero a b).1 q) h
  · exact .inr (kc_one.1 q)
theorem mem_insL {l : List Itm} {k : ByteArray} {v : Int} {x : Itm} : x ∈ insL l k v ↔ x = (k, v) ∨ (x ∈ l ∧ x.1 ≠ k) := by
  unfold insL
  rw [List.mem_append, List.mem_cons, List.mem_filter, List.mem_filter]
  constructor
  · rintro (⟨h1, h2⟩ | h | ⟨h1, h2⟩)
    · refine .inr ⟨h1, fun e => ?_⟩
      have h3 : kc x.1 k = -1 := of_decide_eq_true h2
      rw [e, kc_self] at h3; omega
    · exact .inl h
    · refine .inr ⟨h1, fun e => ?_⟩
      have h3 : kc k x.1 = -1 := of_decide_eq_true h2
      rw [e, kc_self] at h3; omega
  · rintro (h | ⟨h1, h2⟩)
    · exact .inr (.inl h)
    · rcases kc_ne h2 with q | q
      · exact .inl ⟨h1, decide_eq_true q⟩
      · exact .inr (.inr ⟨h1, decide_eq_true q⟩)
theorem mem_delL {l : List Itm} {k : ByteArray} {x : Itm} : x ∈ delL l k ↔ x ∈ l ∧ x.1 ≠ k := by
  unfold delL
  rw [List.mem_filter]
  refine and_congr_right fun _ => ?_
  constructor
  · intro h e
    have : isK k x = true := decide_eq_true (by rw [e]; exact kc_self k)
    rw [this] at h; cases h
  · intro h
    have : isK k x = false := decide_eq_false (fun e => h ((KOrd.zero _ _).1 e))
    rw [this]; rfl
theorem getL_mem {l : List Itm} (hs : Sorted l) {k : ByteArray} {v : Int} (h : (k, v) ∈ l) : getL l k = some v := by
  obtain ⟨P, S, rfl⟩ := List.append_of_mem h
  have h1 := List.pairwise_append.1 hs
  have hl : Low P k := fun y hy => h1.2.2 y hy (k, v) (List.mem_cons_self ..)
  have hh : High S k := (List.pairwise_cons.1 h1.2.1).1
  have := getL_has (x := ((k, v) : Itm)) hl hh rfl
  rw [List.append_assoc, List.singleton_append] at this
  exact this
theorem getL_out {l : List Itm} {k : ByteArray} (h : ∀ x, x ∈ l → x.1 ≠ k) : getL l k = none := by
  have : l.find? (isK k) = none := List.find?_eq_none.2 (fun x hx e => h x hx ((KOrd.zero _ _).1 (of_decide_eq_true e)))
  unfold getL
  rw [this]
  rfl
theorem insL_le (l : List Itm) (hs : Sorted l) (k : ByteArray) (v : Int) : (insL l k v).length ≤ l.length + 1 := by
  rw [insL_len l hs]; split <;> omega
/-- The items behind the first texts. -/
def putK (ks : List ByteArray) : Nat → List Itm
  | 0 => []
  | j + 1 => insL (putK ks j) (ks.getD j ⟨#[]⟩) (j : Int)
theorem putK_sorted (ks : List ByteArray) : ∀ j, Sorted (putK ks j)
  | 0 => List.Pairwise.nil
  | j + 1 => insL_sorted _ (putK_sorted ks j) _ _
theorem putK_le (ks : List ByteArray) : ∀ j, (putK ks j).length ≤ j
  | 0 => Nat.le_refl _
  | j + 1 => by have := insL_le _ (putK_sorted ks j) (ks.getD j ⟨#[]⟩) (j : Int); have := putK_le ks j; show (insL _ _ _).length ≤ _; omega
theorem putK_mem (ks : List ByteArray) : ∀ j (x : Itm), x ∈ putK ks j → ∃ i : Nat, x.2 = (i : Int) ∧ i < j ∧ ks.getD i ⟨#[]⟩ = x.1
  | 0, x, h => by cases h
  | j + 1, x, h => by
    rcases mem_insL.1 h with rfl | ⟨h, _⟩
    · exact ⟨j, rfl, Nat.lt_succ_self _, rfl⟩
    · obtain ⟨i, h1, h2, h3⟩ := putK_mem ks j x h
      exact ⟨i, h1, by omega, h3⟩
theorem putK_get (ks : List ByteArray) : ∀ (j i : Nat), i < j → ∃ q : Nat, (ks.getD i ⟨#[]⟩, (q : Int)) ∈ putK ks j ∧ i ≤ q ∧ q < j ∧ ks.getD q ⟨#[]⟩ = ks.getD i ⟨#[]⟩
  | 0, i, h => by omega
  | j + 1, i, h => by
    by_cases e : ks.getD i ⟨#[]⟩ = ks.getD j ⟨#[]⟩
    · exact ⟨j, mem_insL.2 (.inl (by rw [e])), by omega, Nat.lt_succ_self _, e.symm⟩
    · have hij : i < j := by
        rcases Nat.lt_succ_iff_lt_or_eq.1 h with q | q
        · exact q
        · exact absurd (by rw [q]) e
      obtain ⟨q, h1, h2, h3, h4⟩ := putK_get ks j i hij
      exact ⟨q, mem_insL.2 (.inr ⟨h1, e⟩), h2, by omega, h4⟩
/-- The key that was told last. -/
def lk (pre : List Itm) : ByteArray := (pre.getLast?.map (·.1)).getD ⟨#[]⟩
theorem lk_nil : lk [] = ⟨#[]⟩ := rfl
theorem lk_snoc (pre : List Itm) (x : Itm) : lk (pre ++ [x]) = x.1 := by simp [lk]
/-- What is told next. -/
theorem next_is {l pre : List Itm} {x : Itm} (hs : Sorted l) (h : pre ++ [x] <+: l) : x ∈ l ∧ (pre = [] ∨ kc (lk pre) x.1 = -1) := by
  obtain ⟨r, hr⟩ := h
  refine ⟨by rw [← hr]; simp, ?_⟩
  rcases List.eq_nil_or_concat pre with e | ⟨q, y, e⟩
  · exact .inl e
  · rw [List.concat_eq_append] at e
    subst e
    rw [lk_snoc]
    rw [← hr] at hs
    have h1 := List.pairwise_append.1 hs
    have h2 := List.pairwise_append.1 h1.1
    exact .inr (h2.2.2 y (by simp) x (by simp))
theorem less_not {a b : ByteArray} (h : kc a b = -1) : Go.Op.bytesLess b.toList a.toList = false ∧ (b.toList == a.toList) = false := by
  have h1 : Go.Op.bytesLess a.toList b.toList = true := by
    rw [kc_str] at h
    by_cases h' : Go.Op.bytesLess a.toList b.toList = true
    · exact h'
    · rw [if_neg h'] at h
      by_cases g : Go.Op.bytesLess b.toList a.toList = true
      · rw [if_pos g] at h; omega
      · rw [if_neg g] at h; omega
  exact ⟨bl_flip h1, beq_false_of_ne (fun e => by rw [e, bl_self] at h1; cases h1)⟩
theorem str_ne {a b : ByteArray} (h : ¬ a = b) : (a.toList == b.toList) = false := beq_false_of_ne (fun e => h (byte_inj e))

theorem TreeV.off {w w' : World} {g : Nat} {p q : Option Addr} {n m : Int} {l : List Itm} (hb : BoxH w g p n) (hw : ∀ q, q ≠ g → w'.heap[q]? = w.heap[q]?) (h : TreeV w q m l) : TreeV w' q m l := by
  obtain ⟨h1, h2, h3⟩ := h
  refine ⟨h1, h2, h3.imp id ?_⟩
  rintro ⟨b, d, t, e1, e2, e3, e4⟩
  exact ⟨b, d, t, e1, At.off hb hw (Nat.le_refl _) e3 e2, e3, e4⟩
theorem box_put {w : World} {g : Nat} {p : Option Addr} {n : Int} (hb : BoxH w g p n) (p' : Option Addr) (n' : Int) : ∃ w', (w.setCell ⟨g, 0, none⟩ (.pointer p')).setCell ⟨g, 1, none⟩ (.int .i64 n') = w' ∧ BoxH w' g p' n' ∧ (∀ q m l, TreeV w q m l → TreeV w' q m l) ∧ (∀ x cs, x ≠ g → CellsF w x cs → CellsF w' x cs) ∧ (∀ B w0, B ≤ g → Below B w0 w → Below B w0 w') := by
  have hw : ∀ q, q ≠ g → ((w.setCell ⟨g, 0, none⟩ (.pointer p')).setCell ⟨g, 1, none⟩ (.int .i64 n')).heap[q]? = w.heap[q]? := fun q hq => by
    rw [heap_set _ _ _ hq, heap_set _ _ _ hq]
  exact ⟨_, rfl, (hb.set0 p').set1 n', fun q m l h => h.off hb hw, fun x cs hx h => h.far (hw x hx), fun B w0 hB h => below_two h g hB _ _⟩
theorem wp_only {P : Program} {c : Code} {J K : Act → World → Prop} {Q' : Exit → Act → World → Prop} {a : Act} {w : World} (h : c.wp P (Exit.then J (fun _ _ _ => False)) a w) (hJ : ∀ a' w', J a' w' → K a' w') : c.wp P (Exit.then K Q') a w := by
  refine (wpIn_wide (n := 7)).1 (wpIn_mono (wpIn_wide.2 h) ?_)
  intro e a' w' hq
  cases e with
  | normal => exact hJ _ _ hq
  | exit id => exact (show False from hq).elim
  | goto l => exact (show False from hq).elim
  | ret => exact (show False from hq).elim
  | panic ch => exact (show False from hq).elim
  | outgrown => exact (show False from hq).elim
theorem wp_normal {P : Program} {c : Code} {Q : Exit → Act → World → Prop} {a : Act} {w : World} (h : c.wp P (Exit.then (fun a w => Q .normal a w) (fun _ _ _ => False)) a w) : c.wp P Q a w := by
  refine (wpIn_wide (n := 7)).1 (wpIn_mono (wpIn_wide.2 h) ?_)
  intro e a' w' hq
  cases e with
  | normal => exact hq
  | exit id => exact (show False from hq).elim
  | goto l => exact (show False from hq).elim
  | ret => exact (show False from hq).elim
  | panic ch => exact (show False from hq).elim
  | outgrown => exact (show False from hq).elim
theorem below_drews (w : World) (n : Nat) : Below w.heap.size w (w.drewN n) := ⟨rfl, rfl, rfl, Nat.le_refl _, fun _ _ => rfl⟩
/-- All but two blocks stay. -/
structure Gr2 (wl : World) (x y : Nat) (W : World) : Prop where
  os : W.os = wl.os
  tape : W.tape = wl.tape
  output : W.output = wl.output
  size : wl.heap.size ≤ W.heap.size
  block : ∀ k, k < wl.heap.size → k ≠ x → k ≠ y → W.heap[k]? = wl.heap[k]?
theorem Gr2.refl (w : World) (x y : Nat) : Gr2 w x y w := ⟨rfl, rfl, rfl, Nat.le_refl _, fun _ _ _ _ => rfl⟩
theorem ownFrom_gr2 {β : Type} {wl : World} {x y : Nat} : OwnFrom wl.heap.size (fun (_ : β) W => Gr2 wl x y W) := fun _ W W' row hs hg hr =>
  ⟨hg.os.trans hs.os, hg.tape.trans hs.tape, hg.output.trans hs.output, Nat.le_trans hs.size hg.size, fun k hk h1 h2 => (hg.block k (Nat.lt_of_lt_of_le hk hs.size) (fun e => by have := (hr k e.symm).1; omega)).trans (hs.block k hk h1 h2)⟩
theorem Gr2.setx {wl W : World} {x y : Nat} (h : Gr2 wl x y W) (u : Value) : Gr2 wl x y (W.setCell ⟨x, 0, none⟩ u) :=
  ⟨h.os, h.tape, h.output, by simpa using h.size, fun k hk h1 h2 => (Below.heap_setCell W ⟨x, 0, none⟩ u k (fun e => h1 e)).trans (h.block k hk h1 h2)⟩
theorem Gr2.sety {wl W : World} {x y : Nat} (h : Gr2 wl x y W) (u : Value) : Gr2 wl x y (W.setCell ⟨y, 0, none⟩ u) :=
  ⟨h.os, h.tape, h.output, by simpa using h.size, fun k hk h1 h2 => (Below.heap_setCell W ⟨y, 0, none⟩ u k (fun e => h2 e)).trans (h.block k hk h1 h2)⟩
theorem Gr2.below {a wl W : World} {x y : Nat} (hB : Below a.heap.size a wl) (h : Gr2 wl x y W) (hx : a.heap.size ≤ x) (hy : a.heap.size ≤ y) : Below a.heap.size a W :=
  ⟨h.os.trans hB.os, h.tape.trans hB.tape, h.output.trans hB.output, Nat.le_trans hB.size h.size, fun k hk => (h.block k (Nat.lt_of_lt_of_le hk hB.size) (by omega) (by omega)).trans (hB.block k hk)⟩
def strv (s : ByteArray) : List Value := [.string s]
theorem strv_ne (s : ByteArray) : strv s ≠ [] := by simp [strv]
theorem Rw.str {w : World} {a : Option Addr} {l : List ByteArray} (h : Rw strv 1 w a l) (hne : l ≠ []) : ∃ b o, a = some ⟨b, o, none⟩ ∧ b < w.heap.size ∧ ∀ i, i < l.length → w.cell? ⟨b, o + i, none⟩ = some (.string (l.getD i ⟨#[]⟩)) := by
  obtain ⟨b, o, e, hc⟩ := h hne
  refine ⟨b, o, e, h.lt strv_ne e hne, fun i hi => ?_⟩
  have := hc i _ (List.getElem?_eq_getElem hi) 0 _ rfl
  rw [Nat.mul_one, Nat.add_zero] at this
  rw [this]
  simp [List.getD, List.getElem?_eq_getElem hi]
/-- The law's boxes and its tree. -/
structure Fx (w wr : World) (sv : Value) (out : ByteArray) (p : Option Addr) (l : List Itm) : Prop where
  b2 : CellsF wr (w.heap.size) [sv]
  b3 : CellsF wr (w.heap.size + 1) [.string out]
  b4 : CellsF wr (w.heap.size + 1 + 1) [.bool false]
  bx : BoxH wr (w.heap.size + 1 + 1 + 1) p (l.length : Int)
  tr : TreeV wr p (l.length : Int) l
  bel : Below w.heap.size w wr
theorem Fx.next {w wr wr' : World} {sv : Value} {out : ByteArray} {p : Option Addr} {l : List Itm} (h : Fx w wr sv out p l) (q : Below wr.heap.size wr wr') : Fx w wr' sv out p l :=
  ⟨h.b2.next q, h.b3.next q, h.b4.next q, h.bx.next q, h.tr.next q, Below.next h.bel q⟩
theorem Fx.put {w wr w' : World} {sv : Value} {out : ByteArray} {p p' : Option Addr} {l l' : List Itm} (h : Fx w wr sv out p l) (kk : Below wr.heap.size wr w') (tt : TreeV w' p' (l'.length : Int) l') : ∃ w8, (w'.setCell ⟨w.heap.size + 1 + 1 + 1, 0, none⟩ (.pointer p')).setCell ⟨w.heap.size + 1 + 1 + 1, 1, none⟩ (.int .i64 (l'.length : Int)) = w8 ∧ Fx w w8 sv out p' l' := by
  obtain ⟨w8, hw8, q1, q2, q4, q5⟩ := box_put (h.bx.next kk) p' (l'.length : Int)
  exact ⟨w8, hw8, q4 _ _ (by omega) (h.b2.next kk), q4 _ _ (by omega) (h.b3.next kk), q4 _ _ (by omega) (h.b4.next kk), q1, q2 _ _ _ tt, q5 _ _ (by omega) (Below.next h.bel kk)⟩
end Go.Proofs.Ytgebionlkmjfnaa.Sx

namespace Go.Proofs.Ytgebionlkmjfnaa.Sx
open Go.ChangeShapes Go.WideShapes Go.RowKit
set_option linter.unusedVariables false
set_option maxRecDepth 100000

open Go.Shelf
attribute [local go_sem] Oper.semAt_some

set_option maxHeartbeats 8000000 in
theorem texts_law (aa : Option Addr) (len cc : Nat) (KS : List ByteArray) (hM : KS.length = len) (out : ByteArray) (w : World) (hm : Rw strv 1 w aa KS) :
    Calls Try.prog 6 #[.slice aa len cc, .string out] w fun e w' => e = .returned (.bool true) ∧ Below w.heap.size w w' := by
  refine (callsIn_wide (n := 7)).1 ?_
  have HR : Hid (KS.length = len ∧ Rw strv 1 w aa KS) := ⟨hM, hm⟩
  have HAW : Hid (∀ w : World, Calls Try.prog 14 #[] w fun e w' => e = .returned (.bool true) ∧ Below w.heap.size w w') := awake_is
  clear hM hm
  obtain ⟨w0, hw0⟩ : ∃ w0, ((((w.alloc (.cells #[.slice aa len cc] 50)).alloc (.cells #[.string out] 9)).alloc (.cells #[.bool false] 4)).alloc (.cells #[.pointer none, .int .i64 0] 53)) = w0 := ⟨_, rfl⟩
  have HI0 : Hid (Fx w w0 (.slice aa len cc) out none (putK KS 0)) := by
    rw [← hw0]
    exact ⟨(((CellsF.at _ 50 (by simp) rfl).next (below1 _ _)).next (below1 _ _)).next (below1 _ _), ((CellsF.at _ 9 (by simp) (by rw [size_alloc])).next (below1 _ _)).next (below1 _ _), (CellsF.at _ 4 (by simp) (by rw [size_alloc, size_alloc])).next (below1 _ _), BoxH.at _ _ (by rw [size_alloc, size_alloc, size_alloc]), TreeV.none _, Below.next (below3 _ _ _ _) (below1 _ _)⟩
  have HW0 : Hid _ := hw0
  clear hw0
  refine callsIn_of_wp_marks Try.func6 rfl trivial ?_ rfl
  simp only [Try.ntmps6, List.size_toArray, List.length_cons, List.length_nil, Nat.reduceAdd, Nat.reduceSub, Array.replicate_succ, Array.replicate_zero, List.push_toArray, List.append_toArray, List.nil_append, List.cons_append]
  refine wpIn_wide.2 ?_
  go_upto_region 2 with fail
  rw [HW0.out]
  clear HW0
  go_wp2_with fail
  refine Calls.mono (HAW.out _) ?_; rintro e w1 ⟨rfl, k1⟩
  have HI1 : Hid (Fx w w1 (.slice aa len cc) out none (putK KS 0)) := HI0.out.next k1
  clear k1 HI0 HAW
  go_upto_block 0 with fail
  go_cut [] from 14 (fun wx => ∃ (p : Option Addr) (m : Nat), Hid (Fx w wx (.slice aa len cc) out p (putK KS m) ∧ m ≤ len ∧ m ≤ 40 ∧ (m = len ∨ m = 40)))
  case first =>
    go_wp2_with fail
    go_loopw [6] (fun v6 wr => ∃ (j : Nat) (p : Option Addr), j ≤ 40 ∧ j ≤ len ∧ v6 = .int .i64 j ∧ Hid (Fx w wr (.slice aa len cc) out p (putK KS j)))
      (fun vi _ => 40 - (intOf vi).toNat)
    case atStart => exact ⟨0, none, by omega, Nat.zero_le _, rfl, HI1.out⟩
    case round =>
      obtain ⟨j, p, hj, hjl, rfl, HI⟩ := hrel
      clear HI1
      have x2 := HI.out.b2.cs 0 _ rfl
      by_cases hlt : j < len
      · have hlti : (j : Int) < (len : Int) := by omega
        by_cases h40 : j < 40
        · have h40i : (j : Int) < 40 := by omega
          obtain ⟨kb, ko, ha, hkb, hks⟩ := Rw.str HR.out.2 (fun e => by have := HR.out.1; rw [e] at this; simp at this; omega)
          subst ha
          have y0 := hks j (by rw [HR.out.1]; exact hlt)
          obtain ⟨x, hx⟩ : ∃ x, KS.getD j ⟨#[]⟩ = x := ⟨_, rfl⟩
          obtain ⟨N, hN⟩ : ∃ N, putK KS (j + 1) = N := ⟨_, rfl⟩
          have hNN : insL (putK KS j) x (j : Int) = N := by rw [← hx]; exact hN
          have HSZ : Hid ((putK KS j).length ≤ 40) := by have := putK_le KS j; show _ ≤ _; omega
          have HN : Hid (putK KS (j + 1) = N) := hN
          rw [hx] at y0
          clear hx hN
          generalize putK KS j = L at *
          have HKB : Hid (∀ w', Below w.heap.size w w' → w'.cell? ⟨kb, ko + j, none⟩ = some (.string x)) := fun w' kk => (kk.cell (p := ⟨kb, ko + j, none⟩) hkb).trans y0
          clear hks
          have y1 := HKB.out _ HI.out.bel
          go_upto_block 1 with fail
          go_cut [] from 27 to 39 (fun wx => ∃ p7, Hid (Fx w wx (.slice (some ⟨kb, ko, none⟩) len cc) out p7 N))
          case first =>
            by_cases h200 : 200 < x.size
            · have h200i : (200 : Int) < (x.size : Int) := by omega
              have d4 := HI.out.b4.cs 0 _ rfl
              have d5 := HI.out.b4.fz 0
              have HBE : Hid (Below w.heap.size w wr ∧ wr.cell? ⟨w.heap.size + 1 + 1, 0, none⟩ = some (.bool false)) := ⟨HI.out.bel, d4⟩
              clear HI y0
              go_wp2_with fail
              have hc5 := World.cell?_setCell_same' wr ⟨w.heap.size + 1 + 1, 0, none⟩ (.bool true) (by rw [HBE.out.2]; rfl)
              refine ⟨.bool true, ?_, rfl, HBE.out.1.setCell (p := ⟨w.heap.size + 1 + 1, 0, none⟩) (by show w.heap.size ≤ w.heap.size + 1 + 1; omega) _⟩
              simp [results, Try.f6, go_sem, hc5]
            · have h200i : ¬ (200 : Int) < (x.size : Int) := by omega
              have HK7 : Hid (∀ w', Below wr.heap.size wr w' → w'.cell? ⟨w.heap.size + 1 + 1 + 1, 0, none⟩ = some (.pointer p) ∧ w'.cell? ⟨w.heap.size + 1 + 1 + 1, 1, none⟩ = some (.int .i64 (L.length : Int)) ∧ w'.cell? ⟨w.heap.size, 0, none⟩ = some (.slice (some ⟨kb, ko, none⟩) len cc) ∧ w'.cell? ⟨kb, ko + j, none⟩ = some (.string x)) := fun w' kk => ⟨(HI.out.bx.next kk).c0, (HI.out.bx.next kk).c1, (HI.out.b2.next kk).cs 0 _ rfl, HKB.out _ (Below.next HI.out.bel kk)⟩
              have HFZ : Hid (∀ w', Below wr.heap.size wr w' → w'.frozen? ⟨w.heap.size + 1 + 1 + 1, 0, none⟩ = false ∧ w'.frozen? ⟨w.heap.size + 1 + 1 + 1, 1, none⟩ = false) := fun w' kk => ⟨(HI.out.bx.next kk).fz 0, (HI.out.bx.next kk).fz 1⟩
              have HC7 : Hid (Calls Try.prog 17 #[.agg #[.pointer p, .int .i64 (L.length : Int)], .string x, .int .i64 (j : Int)] wr.drew fun e w7 => ∃ p7, e = .returned (.agg #[.pointer p7, .int .i64 (N.length : Int)]) ∧ Hid (Below wr.heap.size wr w7 ∧ TreeV w7 p7 (N.length : Int) N)) := by
                refine (With_is p _ L x (j : Int) wr.drew (by have := HSZ.out; omega) (HI.out.tr.next (Below.refl _ _).drew)).mono fun e w7 ⟨p7, n7, r1, r2, r3⟩ => ?_
                rw [hNN] at r3
                have hn7 : n7 = (N.length : Int) := r3.1
                subst hn7
                exact ⟨p7, r1, Below.of_drew r2, r3⟩
              have HBX : Hid (∀ w' p7, Below wr.heap.size wr w' → TreeV w' p7 (N.length : Int) N → ∃ w8, (w'.setCell ⟨w.heap.size + 1 + 1 + 1, 0, none⟩ (.pointer p7)).setCell ⟨w.heap.size + 1 + 1 + 1, 1, none⟩ (.int .i64 (N.length : Int)) = w8 ∧ Fx w w8 (.slice (some ⟨kb, ko, none⟩) len cc) out p7 N) := fun w' p7 kk tt => HI.out.put kk tt
              clear y0 HI hNN
              go_upto_region 9 with fail
              refine wp_normal ?_
              obtain ⟨e0, e1, e2, e3⟩ := HK7.out wr (Below.refl _ _)
              clear x2 y1
              go_region_with (first | ((with_reducible refine Calls.mono HC7.out ?_); rintro e w7 ⟨p7, rfl, HM7⟩; obtain ⟨f2, f3⟩ := HFZ.out _ HM7.out.1; obtain ⟨f0, f1, f4, f5⟩ := HK7.out _ HM7.out.1; clear e0 e1 e2 e3))
              all_goals (try simp only [Exit.then, Exit.inBlock])
              all_goals go_wp2_with fail
              all_goals go_meet
              all_goals (obtain ⟨w8, hw8, HI8⟩ := HBX.out _ _ HM7.out.1 HM7.out.2)
              all_goals rw [hw8]
              all_goals exact ⟨_, HI8⟩
          case rest =>
            obtain ⟨p7, HI8⟩ := hcut
            have HI9 : Hid (Fx w wc (.slice (some ⟨kb, ko, none⟩) len cc) out p7 (putK KS (j + 1))) := by show Fx _ _ _ _ _ _; rw [HN.out]; exact HI8.out
            clear HI8 x2 y1 HI y0
            rename_i hK0
            refine hK0 _ _ ?_
            clear hK0
            go_wp2_with fail
            go_roundw
            case rel => exact ⟨j + 1, p7, by omega, by omega, by go_num, HI9.out⟩
            case measure => simp [intOf]; omega
        · have h40i : ¬ (j : Int) < 40 := by omega
          have HE : Hid (∃ (p' : Option Addr) (m : Nat), Hid (Fx w wr (.slice aa len cc) out p' (putK KS m) ∧ m ≤ len ∧ m ≤ 40 ∧ (m = len ∨ m = 40))) := ⟨p, j, HI.out, hjl, hj, by omega⟩
          clear HI
          go_wp2_with fail
          go_meet
          exact HE.out
      · have hlti : ¬ (j : Int) < (len : Int) := by omega
        have HE : Hid (∃ (p' : Option Addr) (m : Nat), Hid (Fx w wr (.slice aa len cc) out p' (putK KS m) ∧ m ≤ len ∧ m ≤ 40 ∧ (m = len ∨ m = 40))) := ⟨p, j, HI.out, hjl, hj, by omega⟩
        clear HI
        go_wp2_with fail
        go_meet
        exact HE.out
  case rest =>
    rename_i hK0
    refine hK0 _ _ ?_
    clear hK0
    obtain ⟨p0, m, HI2⟩ := hcut
    clear HI1
    generalize hww : wc = wb at *
    clear hww
    have HK7 : Hid (Fx w wb (.slice aa len cc) out p0 (putK KS m)) := HI2.out.1
    have HMM : Hid (m ≤ len ∧ m ≤ 40 ∧ (m = len ∨ m = 40)) := HI2.out.2
    obtain ⟨l, hl⟩ : ∃ l, delL (putK KS m) out = l := ⟨_, rfl⟩
    have HMEM : Hid (∀ x : Itm, x ∈ l → ∃ i : Nat, x.2 = (i : Int) ∧ i < len ∧ KS.getD i ⟨#[]⟩ = x.1 ∧ x.1 ≠ out) := fun x hx => by
      rw [← hl] at hx
      obtain ⟨h1, h2⟩ := mem_delL.1 hx
      obtain ⟨i, e1, e2, e3⟩ := putK_mem KS m x h1
      exact ⟨i, e1, by have := HMM.out; omega, e3, h2⟩
    have HSO : Hid (Sorted l) := by show Sorted l; rw [← hl]; exact delL_sorted (putK_sorted KS m) out
    have HGET : Hid (∀ i, i < m → (KS.getD i ⟨#[]⟩ = out ∧ getL l (KS.getD i ⟨#[]⟩) = none) ∨ (¬ KS.getD i ⟨#[]⟩ = out ∧ ∃ q : Nat, getL l (KS.getD i ⟨#[]⟩) = some (q : Int) ∧ i ≤ q ∧ q < len ∧ KS.getD q ⟨#[]⟩ = KS.getD i ⟨#[]⟩)) := fun i hi => by
      by_cases ho : KS.getD i ⟨#[]⟩ = out
      · exact .inl ⟨ho, getL_out (fun x hx e => by obtain ⟨_, _, _, _, h⟩ := HMEM.out x hx; exact h (e.trans ho))⟩
      · obtain ⟨q, h1, h2, h3, h4⟩ := putK_get KS m i hi
        refine .inr ⟨ho, q, getL_mem HSO.out ?_, h2, by have := HMM.out; omega, h4⟩
        rw [← hl]
        exact mem_delL.2 ⟨h1, ho⟩
    have HLL : Hid (l.length ≤ 40) := by
      have h1 : (delL (putK KS m) out).length ≤ (putK KS m).length := List.length_filter_le ..
      have := putK_le KS m
      have := HMM.out
      show _ ≤ _
      rw [← hl]; omega
    obtain ⟨L0, hL0⟩ : ∃ L0, putK KS m = L0 := ⟨_, rfl⟩
    rw [hL0] at HK7 hl
    have hLs : L0.length ≤ 40 := by rw [← hL0]; have := putK_le KS m; have := HMM.out; omega
    clear HI2 hL0
    have HC18 : Hid (Calls Try.prog 18 #[.agg #[.pointer p0, .int .i64 (L0.length : Int)], .string out] wb fun e w7 => ∃ p7, e = .returned (.agg #[.pointer p7, .int .i64 (l.length : Int)]) ∧ Hid (Below wb.heap.size wb w7 ∧ TreeV w7 p7 (l.length : Int) l)) := by
      refine (Without_is p0 _ L0 out wb (by omega) HK7.out.tr).mono fun e w7 ⟨p7, n7, r1, r2, r3⟩ => ?_
      rw [hl] at r3
      have hn7 : n7 = (l.length : Int) := r3.1
      subst hn7
      exact ⟨p7, r1, r2, r3⟩
    clear hl hLs
    have c0 := HK7.out.bx.c0
    have c1 := HK7.out.bx.c1
    have c3 := HK7.out.b3.cs 0 _ rfl
    go_wp2_with fail
    refine Calls.mono HC18.out ?_; rintro e w7 ⟨p, rfl, HM7⟩
    obtain ⟨wA, hwA, hfx⟩ := HK7.out.put HM7.out.1 HM7.out.2
    have HA : Hid (Fx w wA (.slice aa len cc) out p l) := hfx
    have f0 := (HK7.out.bx.next HM7.out.1).c0
    have f1 := (HK7.out.bx.next HM7.out.1).c1
    have f2 := (HK7.out.bx.next HM7.out.1).fz 0
    have f3 := (HK7.out.bx.next HM7.out.1).fz 1
    have HWA : Hid _ := hwA
    clear hwA hfx c0 c1 c3 HC18
    go_upto_region 11 with fail
    rw [HWA.out]
    clear HWA f0 f1 f2 f3 HM7 HK7
    obtain ⟨lb, hlb⟩ : ∃ lb, wA.heap.size = lb := ⟨_, rfl⟩
    obtain ⟨wn, hwn⟩ : ∃ wn, (wA.alloc (.cells #[.string ⟨#[]⟩] 9)).alloc (.cells #[.int .i64 0] 3) = wn := ⟨_, rfl⟩
    have Hwn : Hid (Below wA.heap.size wA wn ∧ CellsF wn lb [.string ⟨#[]⟩] ∧ CellsF wn (lb + 1) [.int .i64 0] ∧ wn.heap.size = lb + 1 + 1) := by
      show _ ∧ _
      rw [← hwn, ← hlb]
      exact ⟨below2 _ _ _, (CellsF.at _ 9 (by simp) rfl).next (below1 _ _), CellsF.at _ 3 (by simp) (by rw [size_alloc]), by rw [size_alloc, size_alloc]⟩
    have x0 := (HA.out.next Hwn.out.1).bx.c0
    have x1 := (HA.out.next Hwn.out.1).bx.c1
    have Ewn : Hid ((wA.alloc (.cells #[.string ⟨#[]⟩] 9)).alloc (.cells #[.int .i64 0] 3) = wn) := hwn
    have Elb : Hid (wA.heap.size = lb) := hlb
    clear hwn hlb
    have HFR : Hid (∀ w', Calls Try.prog 19 #[.agg #[.pointer p, .int .i64 (l.length : Int)]] w' fun e w'' => e = .returned (.func (.func 34) #[] #[.pointer (some ⟨w'.heap.size, 0, none⟩)]) ∧ w'' = w'.alloc (.cells #[.pointer p, .int .i64 (l.length : Int)] 53)) := fun w' => (callsIn_wide (n := 7)).1 (all_in 7 p _ w')
    go_upto_region 12 with fail
    rw [Ewn.out, Elb.out]
    go_wp2_with fail
    refine Calls.mono (HFR.out _) ?_
    rintro e w5 ⟨rfl, rfl⟩
    clear x0 x1
    obtain ⟨wl, hwl⟩ : ∃ wl, wn.alloc (.cells #[.pointer p, .int .i64 (l.length : Int)] 53) = wl := ⟨_, rfl⟩
    have Hwl : Hid (Below wA.heap.size wA wl ∧ CellsF wl lb [.string ⟨#[]⟩] ∧ CellsF wl (lb + 1) [.int .i64 0] ∧ wl.cell? ⟨lb + 1 + 1, 0, none⟩ = some (.pointer p) ∧ wl.heap.size = lb + 1 + 1 + 1 ∧ wA.heap.size = lb) := by
      show _ ∧ _
      rw [← hwl]
      exact ⟨Below.next Hwn.out.1 (below1 _ _), Hwn.out.2.1.next (below1 _ _), Hwn.out.2.2.1.next (below1 _ _), (CellsF.at (w := wn) [.pointer p, .int .i64 (l.length : Int)] 53 (by simp) Hwn.out.2.2.2.symm).cs 0 _ rfl, by rw [size_alloc, Hwn.out.2.2.2], Elb.out⟩
    rw [hwl, Hwn.out.2.2.2]
    clear hwl Ewn
    have HST : Hid (∀ n, SeqStopsK Fence.wide n Try.prog 34 #[.pointer (some ⟨lb + 1 + 1, 0, none⟩)] (fun x : Itm => #[Value.string x.1, .int .i64 x.2]) (Below wA.heap.size) (fun ys => ys = l) (fun pre => pre <+: l) l.length wl) := fun n =>
      all_stops n _ p _ l wA wl HA.out.tr Hwl.out.1 (by have := Hwl.out.2.2.2.2.1; omega) Hwl.out.2.2.2.1
    clear Hwn HFR Elb
    go_wp2_with fail
    refine (wpIn_wide (n := 7)).1 ?_
    refine wpIn_rangeFunc_ownF rfl (by omega) (gf := 34) (lb := #[.pointer (some ⟨lb + 1 + 1, 0, none⟩)]) rfl trivial (enters_of Try.func34 (by kernel_rfl) rfl)
      (HST.out _) belowK_t (belowK_b Hwl.out.1.size) (Below.refl _ _) (fun _ => rfl)
      (fun pre W => (W.cell? ⟨lb + 1, 0, none⟩ = some (.int .i64 (pre.length : Int)) ∧ W.frozen? ⟨lb + 1, 0, none⟩ = false ∧ W.cell? ⟨lb, 0, none⟩ = some (.string (lk pre)) ∧ W.frozen? ⟨lb, 0, none⟩ = false) ∧ Gr2 wl lb (lb + 1) W)
      (fun c pre W => c = .ret ∧ ¬ pre <+: l)
      (OwnFrom.and (Own.from (fun s A B row hs hg hr => ⟨cell_kept hs.1 hg hr, (frozen_kept hs.1 hg hr).trans hs.2.1, cell_kept hs.2.2.1 hg hr, (frozen_kept hs.2.2.1 hg hr).trans hs.2.2.2⟩) _) ownFrom_gr2)
      (fun c s A B row hs _ _ => hs)
      ⟨⟨Hwl.out.2.2.1.cs 0 _ rfl, Hwl.out.2.2.1.fz 0, Hwl.out.2.1.cs 0 _ rfl, Hwl.out.2.1.fz 0⟩, Gr2.refl _ _ _⟩
      (fun x => { tmps := #[.slice aa len cc, .string out, .pointer (some ⟨w.heap.size, 0, none⟩), .pointer (some ⟨w.heap.size + 1, 0, none⟩), .pointer (some ⟨w.heap.size + 1 + 1, 0, none⟩), .pointer (some ⟨w.heap.size + 1 + 1 + 1, 0, none⟩), u6, .pointer (some ⟨lb, 0, none⟩), .pointer (some ⟨lb + 1, 0, none⟩), .string x.1, .int .i64 x.2, undef, undef, undef, u14, u15, u16, u17, u18, u19, u20, u21, u22, u23, u24, u25, u26, u27, u28, u29, u30, u31, u32, u33, u34, u35, u36, u37, u38, u39, .agg #[.pointer p0, .int .i64 (L0.length : Int)], .string out, .agg #[.pointer p, .int .i64 (l.length : Int)], .agg #[.pointer p, .int .i64 (l.length : Int)], .func (.func 34) #[] #[.pointer (some ⟨lb + 1 + 1, 0, none⟩)], .string x.1, .int .i64 x.2, u47, u48, u49, u50, u51, u52, u53, u54, u55, u56, u57, u58, u59, u60, u61, u62, u63, u64, u65, u66, u67, u68, u69, u70, u71, u72, u73, u74, u75, u76, u77, u78, u79, u80, u81, u82, u83, u84, u85, u86, u87, u88, u89, u90, u91, u92, u93, u94, u95, u96, u97, u98, u99, u100, u101, u102, u103, u104, u105, u106, u107, u108, u109, u110, u111, u112, u113, u114, u115, u116, u117, u118, u119, u120, u121, u122, u123, u124, u125, u126, u127, u128, u129], defers := [] }) ?assign ?body ?done ?stop
    case assign =>
      intro y x W K hK
      gi_wp2
      exact hK
    case stop =>
      rintro D c pre W hD hpre ⟨_, h⟩ _
      exact absurd hpre h
    case body =>
      rintro y pre x W ⟨⟨hc, hf, cl, fl⟩, hg⟩ hlen
      have hB : Below wA.heap.size wA W := Gr2.below Hwl.out.1 hg (by rw [Hwl.out.2.2.2.2.2]; exact Nat.le_refl _) (by rw [Hwl.out.2.2.2.2.2]; omega)
      have HPF : Hid (pre ++ [x] <+: l → (pre = [] ∨ kc (lk pre) x.1 = -1) ∧ x.1 ≠ out ∧ ∃ i : Nat, x.2 = (i : Int) ∧ i < len ∧ KS.getD i ⟨#[]⟩ = x.1) := fun h => by
        obtain ⟨h1, h2⟩ := next_is HSO.out h
        obtain ⟨i, e1, e2, e3, e4⟩ := HMEM.out x h1
        exact ⟨h2, e4, i, e1, e2, e3⟩
      obtain ⟨i, hi⟩ : ∃ i, pre.length = i := ⟨_, rfl⟩
      rw [hi] at hlen hc
      have hi40 : i < 40 := by have := HLL.out; omega
      have hfx := HA.out.next hB
      have g2 := hfx.b2.cs 0 _ rfl
      have g3 := hfx.b3.cs 0 _ rfl
      have g4 := hfx.b4.cs 0 _ rfl
      have g5 := hfx.b4.fz 0
      have HBB : Hid (Below w.heap.size w W) := hfx.bel
      obtain ⟨x1, x2⟩ := x
      have HGO : Hid (KeepsOthers W ((W.setCell ⟨lb, 0, none⟩ (.string x1)).setCell ⟨lb + 1, 0, none⟩ (.int .i64 ((i : Int) + 1))) ∧ Below wA.heap.size W ((W.setCell ⟨lb, 0, none⟩ (.string x1)).setCell ⟨lb + 1, 0, none⟩ (.int .i64 ((i : Int) + 1))) ∧ (fun pre W => (W.cell? ⟨lb + 1, 0, none⟩ = some (.int .i64 (pre.length : Int)) ∧ W.frozen? ⟨lb + 1, 0, none⟩ = false ∧ W.cell? ⟨lb, 0, none⟩ = some (.string (lk pre)) ∧ W.frozen? ⟨lb, 0, none⟩ = false) ∧ Gr2 wl lb (lb + 1) W) (pre ++ [(x1, x2)]) ((W.setCell ⟨lb, 0, none⟩ (.string x1)).setCell ⟨lb + 1, 0, none⟩ (.int .i64 ((i : Int) + 1)))) := by
        have hlb := Hwl.out.2.2.2.2.2
        refine ⟨(KeepsOthers.setCell _ _ _).trans (KeepsOthers.setCell _ _ _), ((Below.refl wA.heap.size W).setCell (p := ⟨lb, 0, none⟩) (by show wA.heap.size ≤ lb; omega) _).setCell (p := ⟨lb + 1, 0, none⟩) (by show wA.heap.size ≤ lb + 1; omega) _, ⟨?_, by rw [World.frozen?_setCell, World.frozen?_setCell]; exact hf, ?_, by rw [World.frozen?_setCell, World.frozen?_setCell]; exact fl⟩, (hg.setx _).sety _⟩
        · rw [List.length_append, hi]
          exact World.cell?_setCell_same' _ _ _ (by rw [cell_put _ (by omega), hc]; rfl)
        · rw [lk_snoc]
          exact (cell_put _ (by omega)).trans (World.cell?_setCell_same' _ _ _ (by rw [cl]; rfl))
      dsimp only at HPF
      by_cases hn : i = 0
      · have hgt : ¬ (0 : Int) < (i : Int) := by omega
        generalize lk pre = last at *
        clear hB hg hfx hi hn
        by_cases h2 : x1 = out
        · have HNOT : Hid (¬ pre ++ [(x1, x2)] <+: l) := fun h => (HPF.out h).2.1 h2
          subst h2
          have h2b : (x1.toList == x1.toList) = true := by simp
          clear HPF HGO
          gi_wp2
          exact ⟨KeepsOthers.setCell _ _ _, rfl, HNOT.out⟩
        · have h2b := str_ne h2
          by_cases h3 : x2 < 0
          · have HNOT : Hid (¬ pre ++ [(x1, x2)] <+: l) := fun h => by obtain ⟨i, e, _⟩ := (HPF.out h).2.2; omega
            clear HPF HGO
            gi_wp2
            exact ⟨KeepsOthers.setCell _ _ _, rfl, HNOT.out⟩
          · by_cases h4 : (len : Int) ≤ x2
            · have HNOT : Hid (¬ pre ++ [(x1, x2)] <+: l) := fun h => by obtain ⟨i, e, g, _⟩ := (HPF.out h).2.2; omega
              clear HPF HGO
              gi_wp2
              exact ⟨KeepsOthers.setCell _ _ _, rfl, HNOT.out⟩
            · obtain ⟨q, rfl⟩ : ∃ q : Nat, x2 = (q : Int) := ⟨x2.toNat, by omega⟩
              have hq : q < len := by omega
              have hqi : (q : Int) < (len : Int) := by omega
              obtain ⟨kb, ko, ha, hkb, hks⟩ := Rw.str HR.out.2 (fun e => by have := HR.out.1; rw [e] at this; simp at this; omega)
              subst ha
              have y1 := (HBB.out.cell (p := ⟨kb, ko + q, none⟩) hkb).trans (hks q (by rw [HR.out.1]; exact hq))
              obtain ⟨z, hz⟩ : ∃ z, KS.getD q ⟨#[]⟩ = z := ⟨_, rfl⟩
              rw [hz] at y1
              clear hks
              by_cases h5 : z = x1
              · subst h5
                have h5b : (z.toList == z.toList) = true := by simp
                clear HPF hz
                gi_wp2
                exact HGO.out
              · have HNOT : Hid (¬ pre ++ [(x1, (q : Int))] <+: l) := fun h => by
                  obtain ⟨i, e, g, e2⟩ := (HPF.out h).2.2
                  have e3 : q = i := by omega
                  rw [← e3, hz] at e2
                  exact h5 e2
                have h5b := str_ne h5
                clear HPF HGO hz
                gi_wp2
                exact ⟨KeepsOthers.setCell _ _ _, rfl, HNOT.out⟩
      · have hgt : (0 : Int) < (i : Int) := by omega
        have hne : pre ≠ [] := fun e => by rw [e] at hi; simp at hi; omega
        obtain ⟨last, hlast⟩ : ∃ last, lk pre = last := ⟨_, rfl⟩
        rw [hlast] at HPF cl
        by_cases h0 : Go.Op.bytesLess x1.toList last.toList = true
        · have HNOT : Hid (¬ pre ++ [(x1, x2)] <+: l) := fun h => by
            rcases (HPF.out h).1 with e | e
            · exact hne e
            · rw [(less_not e).1] at h0; cases h0
          clear HPF HGO hB hg hfx hi hn hne hlast
          gi_wp2
          exact ⟨KeepsOthers.setCell _ _ _, rfl, HNOT.out⟩
        · have h0b : Go.Op.bytesLess x1.toList last.toList = false := by simpa using h0
          by_cases h1 : x1 = last
          · have HNOT : Hid (¬ pre ++ [(x1, x2)] <+: l) := fun h => by
              rcases (HPF.out h).1 with e | e
              · exact hne e
              · rw [h1, kc_self] at e; omega
            have h1b : (x1.toList == last.toList) = true := by rw [h1]; simp
            clear HPF HGO hB hg hfx hi hn hne hlast h1
            gi_wp2
            exact ⟨KeepsOthers.setCell _ _ _, rfl, HNOT.out⟩
          · have h1b := str_ne h1
            clear hB hg hfx hi hn hne hlast h0
            by_cases h2 : x1 = out
            · have HNOT : Hid (¬ pre ++ [(x1, x2)] <+: l) := fun h => (HPF.out h).2.1 h2
              subst h2
              have h2b : (x1.toList == x1.toList) = true := by simp
              clear HPF HGO
              gi_wp2
              exact ⟨KeepsOthers.setCell _ _ _, rfl, HNOT.out⟩
            · have h2b := str_ne h2
              by_cases h3 : x2 < 0
              · have HNOT : Hid (¬ pre ++ [(x1, x2)] <+: l) := fun h => by obtain ⟨i, e, _⟩ := (HPF.out h).2.2; omega
                clear HPF HGO
                gi_wp2
                exact ⟨KeepsOthers.setCell _ _ _, rfl, HNOT.out⟩
              · by_cases h4 : (len : Int) ≤ x2
                · have HNOT : Hid (¬ pre ++ [(x1, x2)] <+: l) := fun h => by obtain ⟨i, e, g, _⟩ := (HPF.out h).2.2; omega
                  clear HPF HGO
                  gi_wp2
                  exact ⟨KeepsOthers.setCell _ _ _, rfl, HNOT.out⟩
                · obtain ⟨q, rfl⟩ : ∃ q : Nat, x2 = (q : Int) := ⟨x2.toNat, by omega⟩
                  have hq : q < len := by omega
                  have hqi : (q : Int) < (len : Int) := by omega
                  obtain ⟨kb, ko, ha, hkb, hks⟩ := Rw.str HR.out.2 (fun e => by have := HR.out.1; rw [e] at this; simp at this; omega)
                  subst ha
                  have y1 := (HBB.out.cell (p := ⟨kb, ko + q, none⟩) hkb).trans (hks q (by rw [HR.out.1]; exact hq))
                  obtain ⟨z, hz⟩ : ∃ z, KS.getD q ⟨#[]⟩ = z := ⟨_, rfl⟩
                  rw [hz] at y1
                  clear hks
                  by_cases h5 : z = x1
                  · subst h5
                    have h5b : (z.toList == z.toList) = true := by simp
                    clear HPF hz
                    gi_wp2
                    exact HGO.out
                  · have HNOT : Hid (¬ pre ++ [(x1, (q : Int))] <+: l) := fun h => by
                      obtain ⟨i, e, g, e2⟩ := (HPF.out h).2.2
                      have e3 : q = i := by omega
                      rw [← e3, hz] at e2
                      exact h5 e2
                    have h5b := str_ne h5
                    clear HPF HGO hz
                    gi_wp2
                    exact ⟨KeepsOthers.setCell _ _ _, rfl, HNOT.out⟩
    case done =>
      rintro D1 ys W hD hys ⟨⟨hc, hf, cl, fl⟩, hg⟩ hK1
      have hys2 : l = ys := hys.symm
      subst hys2
      have hB : Below wA.heap.size wA W := Gr2.below Hwl.out.1 hg (by rw [Hwl.out.2.2.2.2.2]; exact Nat.le_refl _) (by rw [Hwl.out.2.2.2.2.2]; omega)
      have HB : Hid (Fx w W (.slice aa len cc) out p l ∧ W.cell? ⟨lb + 1, 0, none⟩ = some (.int .i64 (l.length : Int)) ∧ W.heap[D1]? = some (.deferred (some [])) ∧ w.heap.size ≤ D1) := ⟨HA.out.next hB, hc, hK1, by have := HA.out.bel.size; have := Hwl.out.1.size; omega⟩
      clear hB hc hf cl fl hg hK1 hD hys HST Hwl HA HMEM HSO
      go_upto_block 4 with fail
      go_cut [] from 80 (fun wx => Hid (Below W.heap.size W wx))
      case first =>
        go_wp2_with fail
        go_loopw [11] (fun v11 wr => ∃ j : Nat, j ≤ 40 ∧ v11 = .int .i64 j ∧ Hid (Below W.heap.size W wr))
          (fun vi _ => 40 - (intOf vi).toNat)
        case atStart => exact ⟨0, by omega, rfl, Below.refl _ _⟩
        case round =>
          obtain ⟨j, hj, rfl, HQ⟩ := hrel
          have x2 := (HB.out.1.next HQ.out).b2.cs 0 _ rfl
          by_cases hlt : j < len
          · have hlti : (j : Int) < (len : Int) := by omega
            by_cases h40 : j < 40
            · have h40i : (j : Int) < 40 := by omega
              obtain ⟨kb, ko, ha, hkb, hks⟩ := Rw.str HR.out.2 (fun e => by have := HR.out.1; rw [e] at this; simp at this; omega)
              subst ha
              have hjm : j < m := by have := HMM.out; omega
              have hgt := HGET.out j hjm
              have HKB : Hid (∀ w' (q : Nat), Below W.heap.size W w' → q < len → w'.cell? ⟨kb, ko + q, none⟩ = some (.string (KS.getD q ⟨#[]⟩))) := fun w' q kk hq => ((HB.out.1.next kk).bel.cell (p := ⟨kb, ko + q, none⟩) hkb).trans (hks q (by rw [HR.out.1]; exact hq))
              obtain ⟨x, hx⟩ : ∃ x, KS.getD j ⟨#[]⟩ = x := ⟨_, rfl⟩
              have HKJ : Hid (∀ w', Below W.heap.size W w' → w'.cell? ⟨kb, ko + j, none⟩ = some (.string x)) := fun w' kk => by rw [← hx]; exact HKB.out w' j kk hlt
              rw [hx] at hgt
              obtain ⟨r, hr⟩ : ∃ r, getL l x = r := ⟨_, rfl⟩
              rw [hr] at hgt
              obtain ⟨gv, hgv⟩ : ∃ gv, gotV r = gv := ⟨_, rfl⟩
              obtain ⟨is, his⟩ : ∃ is, r.isSome = is := ⟨_, rfl⟩
              have HG : Hid ((x = out ∧ is = false) ∨ (¬ x = out ∧ ∃ q : Nat, is = true ∧ gv = (q : Int) ∧ j ≤ q ∧ q < len ∧ KS.getD q ⟨#[]⟩ = x)) := by
                rcases hgt with ⟨h1, h2⟩ | ⟨h1, q, h2, h3⟩
                · exact .inl ⟨h1, by rw [← his, h2]; rfl⟩
                · exact .inr ⟨h1, q, by rw [← his, h2]; rfl, by rw [← hgv, h2]; rfl, h3⟩
              have HC20 : Hid (Calls Try.prog 20 #[.agg #[.pointer p, .int .i64 (l.length : Int)], .string x] wr.drew fun e w7 => e = .returned (.tuple #[.int .i64 gv, .bool is]) ∧ Hid (Below W.heap.size W w7)) := by
                have := get_is p _ l x wr.drew (HB.out.1.tr.next (Below.next HQ.out (Below.refl _ _).drew))
                rw [hr, hgv, his] at this
                exact this.mono fun e w7 q => ⟨q.1, Below.next HQ.out (Below.of_drew q.2)⟩
              have HK7 : Hid (∀ w', Below W.heap.size W w' → w'.cell? ⟨w.heap.size + 1 + 1 + 1, 0, none⟩ = some (.pointer p) ∧ w'.cell? ⟨w.heap.size + 1 + 1 + 1, 1, none⟩ = some (.int .i64 (l.length : Int)) ∧ w'.cell? ⟨w.heap.size, 0, none⟩ = some (.slice (some ⟨kb, ko, none⟩) len cc) ∧ w'.cell? ⟨kb, ko + j, none⟩ = some (.string x) ∧ w'.cell? ⟨w.heap.size + 1, 0, none⟩ = some (.string out)) := fun w' kk => ⟨(HB.out.1.bx.next kk).c0, (HB.out.1.bx.next kk).c1, (HB.out.1.b2.next kk).cs 0 _ rfl, HKJ.out _ kk, (HB.out.1.b3.next kk).cs 0 _ rfl⟩
              clear hgt hx hr hks hgv his
              go_upto_block 5 with fail
              go_cut [] from 90 to 125 (fun wx => Hid (Below W.heap.size W wx))
              case first =>
                go_upto_region 22 with fail
                go_cut [12, 13] from 90 to 98 (fun s12 s13 wx => s12 = .int .i64 gv ∧ s13 = .bool is ∧ Hid (Below W.heap.size W wx))
                case first =>
                  refine wp_only ?_ (fun _ _ h => h)
                  obtain ⟨e0, e1, e2, e3, e4⟩ := HK7.out wr HQ.out
                  clear x2 e4
                  go_region_with (first | ((with_reducible refine Calls.mono HC20.out ?_); rintro e w7 ⟨rfl, HM7⟩; clear e0 e1 e2 e3))
                  all_goals (try simp only [Exit.then])
                  all_goals go_wp2_with fail
                  all_goals go_meet
                  all_goals exact ⟨rfl, rfl, HM7.out⟩
                case rest =>
                  obtain ⟨rfl, rfl, HQ2⟩ := hcut
                  rename_i hK0
                  refine hK0 _ _ ?_
                  clear hK0 x2 HQ HC20
                  obtain ⟨_, _, e2, e3, e4⟩ := HK7.out wc HQ2.out
                  rcases HG.out with ⟨h1, h2⟩ | ⟨h1, q, h2, h6, h3, h4, h5⟩
                  · subst h2
                    subst h1
                    have hbb : (x.toList == x.toList) = true := by simp
                    clear HG
                    go_wp2_with fail
                    refine wp_normal ?_
                    go_quiet (fail)
                    (try simp only [Exit.then])
                    go_wp2_with fail
                    go_meet
                    exact Below.next HQ2.out (below_drews _ _)
                  · subst h2
                    subst h6
                    have hb := str_ne h1
                    have hbb : (x.toList == x.toList) = true := by simp
                    have hqj : ¬ (q : Int) < (j : Int) := by omega
                    have hql : (q : Int) < (len : Int) := by omega
                    have e5 := HKB.out wc q HQ2.out h4
                    rw [h5] at e5
                    clear HG h5 h1
                    have H3 : Hid (j ≤ q) := h3
                    clear hqj h3
                    go_wp2_with fail
                    refine wp_normal ?_
                    have hqj : ¬ (q : Int) < (j : Int) := by have := H3.out; omega
                    go_quiet (fail)
                    (try simp only [Exit.then])
                    go_wp2_with fail
                    go_meet
                    exact Below.next HQ2.out (below_drews _ _)
              case rest =>
                have HQ3 : Hid (Below W.heap.size W wc) := hcut
                clear hcut HG HC20 HK7 x2 HQ
                rename_i hK0
                refine hK0 _ _ ?_
                clear hK0
                go_wp2_with fail
                go_roundw
                case rel => exact ⟨j + 1, by omega, by go_num, HQ3.out⟩
                case measure => simp [intOf]; omega
            · have h40i : ¬ (j : Int) < 40 := by omega
              go_wp2_with fail
              go_meet
              exact HQ.out
          · have hlti : ¬ (j : Int) < (len : Int) := by omega
            go_wp2_with fail
            go_meet
            exact HQ.out
      case rest =>
        have HQ3 : Hid (Below W.heap.size W wc) := hcut
        clear hcut HGET HMM
        rename_i hK0
        refine hK0 _ _ ?_
        clear hK0
        generalize hww : wc = we at *
        clear hww
        have HE : Hid (∀ w', Below we.heap.size we w' → Fx w w' (.slice aa len cc) out p l ∧ w'.cell? ⟨lb + 1, 0, none⟩ = some (.int .i64 (l.length : Int)) ∧ w'.heap[D1]? = some (.deferred (some []))) := fun w' kk => by
          have k2 := Below.next HQ3.out kk
          exact ⟨HB.out.1.next k2, (k2.cell (p := ⟨lb + 1, 0, none⟩) (World.block_lt_of_cell? W _ HB.out.2.1)).trans HB.out.2.1, (k2.block D1 (Array.getElem?_eq_some_iff.1 HB.out.2.2.1).1).trans HB.out.2.2.1⟩
        have HC21 : Hid (Calls Try.prog 21 #[.agg #[.pointer p, .int .i64 (l.length : Int)]] we.drew fun e w7 => e = .returned (.int .i64 (l.length : Int)) ∧ Hid (Below we.heap.size we w7)) := (len_is p _ we.drew).mono fun e w7 q => ⟨q.1, Below.of_drew q.2⟩
        have HDW : Hid (w.heap.size ≤ D1) := HB.out.2.2.2
        clear HB HQ3
        go_upto_region 25 with fail
        go_cut [] from 126 to 129 (fun wx => Hid (wx.cell? ⟨w.heap.size + 1 + 1, 0, none⟩ = some (.bool true) ∧ Below w.heap.size w wx ∧ wx.heap[D1]? = some (.deferred (some []))))
        case first =>
          refine wp_only ?_ (fun _ _ h => h)
          have e0 := (HE.out we (Below.refl _ _)).1.bx.c0
          have e1 := (HE.out we (Below.refl _ _)).1.bx.c1
          have e2 := (HE.out we (Below.refl _ _)).2.1
          go_region_with (first | ((with_reducible refine Calls.mono HC21.out ?_); rintro e w7 ⟨rfl, HM7⟩; have f2 := (HE.out w7 HM7.out).2.1; have f3 := (HE.out w7 HM7.out).1.b4.cs 0 _ rfl; have f4 := (HE.out w7 HM7.out).1.b4.fz 0; clear e0 e1 e2))
          all_goals (try simp only [Exit.then])
          all_goals go_wp2_with fail
          all_goals go_meet
          all_goals exact ⟨World.cell?_setCell_same' _ _ _ (by rw [f3]; rfl), (HE.out w7 HM7.out).1.bel.setCell (p := ⟨w.heap.size + 1 + 1, 0, none⟩) (by show w.heap.size ≤ w.heap.size + 1 + 1; omega) _, (KeepsOthers.setCell w7 ⟨w.heap.size + 1 + 1, 0, none⟩ (.bool true)).same D1 _ (HE.out w7 HM7.out).2.2 rfl⟩
        case rest =>
          have HZ : Hid (wc.cell? ⟨w.heap.size + 1 + 1, 0, none⟩ = some (.bool true) ∧ Below w.heap.size w wc ∧ wc.heap[D1]? = some (.deferred (some []))) := hcut
          clear hcut HE HC21
          rename_i hK0
          refine hK0 _ _ ?_
          clear hK0
          go_wp2_with fail
          obtain ⟨q1, q2, q3⟩ := HZ.out
          refine ⟨by simp, .inl ⟨_, _, rfl, run_takeDeferred q3, ?_⟩⟩
          have hc6 := cell_kept q1 (grownBy_putObj' _ D1 (.deferred none)) (fun r e => by cases e; exact ⟨_, q3, rfl⟩)
          refine ⟨.bool true, ?_, rfl, q2.trans (belowK_b (w := w) (Nat.le_refl _) _ D1 _ _ HDW.out q3 rfl rfl)⟩
          simp [results, Try.f6, go_sem, hc6]
end Go.Proofs.Ytgebionlkmjfnaa.Sx
