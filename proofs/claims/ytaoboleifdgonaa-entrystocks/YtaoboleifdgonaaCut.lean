/- value: cutting bytes. -/
import Derived.Test.YtaoboleifdgonaaPut
namespace Go.Proofs.Ytaoboleifdgonaa
open Go.ChangeShapes Go.WideShapes Go.RowKit
set_option linter.unusedVariables false
set_option maxRecDepth 100000
set_option maxRecDepth 100000

/-- The number of some bytes, the highest first. -/
def stepF (m : Int) (x : UInt8) : Int := bits .or .i64 (wrap64 (m * 256)) (wrap64 (x.toNat : Int))
def numF (l : List UInt8) : Int := l.foldl stepF 0
theorem numF_snoc (l : List UInt8) (x : UInt8) : numF (l ++ [x]) = stepF (numF l) x := List.foldl_append
theorem numberOf_is (s : ByteArray) (hs : s.size ≤ 1000000) (w : World) : Calls Try.prog 59 #[.string s] w fun e w' => e = .returned (.int .i64 (numF s.data.toList)) ∧ w' = w := by
  have HL : Hid (s.data.toList.length = s.size) := by show s.data.toList.length = s.size; simp
  have HT : Hid (∀ k (h : k < s.size), numF (s.data.toList.take (k + 1)) = bits .or .i64 (wrap64 (numF (s.data.toList.take k) * 256)) (wrap64 (s[k].toNat : Int))) := by
    intro k h
    have h' : k < s.data.toList.length := by rw [HL.out]; exact h
    rw [List.take_succ_eq_append_getElem h', numF_snoc, stepF]
    rfl
  have H0 : Hid (numF (s.data.toList.take s.size) = numF s.data.toList) := by show numF _ = _; rw [List.take_of_length_le (by have := HL.out; omega)]
  obtain ⟨r, hr⟩ : ∃ r, numF s.data.toList = r := ⟨_, rfl⟩
  rw [hr] at H0 ⊢
  clear hr
  go_enter Try.func59, Try.ntmps59
  go_wp2_with fail
  go_loopw [3, 7] (fun n i wr => ∃ (k : Nat) (m : Int), k ≤ s.size ∧ i = .int .i64 k ∧ n = .int .i64 m ∧ wr = w ∧ Hid (m = numF (s.data.toList.take k)))
    (fun _ i _ => s.size - (intOf i).toNat)
  case atStart => exact ⟨0, 0, Nat.zero_le _, rfl, rfl, rfl, rfl⟩
  case round =>
    obtain ⟨k, m, hk, rfl, rfl, rfl, HM⟩ := hrel
    by_cases hlt : k < s.size
    · have hlti : (k : Int) < (s.size : Int) := by omega
      go_wp2_with fail
      go_roundw
      case rel => exact ⟨k + 1, _, by omega, by go_num, rfl, trivial, by have := HT.out k hlt; rw [← HM.out] at this; exact this.symm⟩
      case measure => simp [intOf]; omega
    · have hlti : ¬ (k : Int) < (s.size : Int) := by omega
      have hk' : k = s.size := by omega
      have HE : Hid (m = r) := by have := HM.out; rw [hk', H0.out] at this; exact this
      go_wp2_with fail
      go_ret
      exact ⟨by rw [HE.out]; rfl, rfl⟩
/-- What is left of some bytes, and whether there were too few. -/
structure Cuts (w : World) (pl ps : Nat) (left : ByteArray) (short : Bool) : Prop where
  c0 : w.cell? ⟨pl, 0, none⟩ = some (.string left)
  c1 : w.cell? ⟨ps, 0, none⟩ = some (.bool short)
  f0 : w.frozen? ⟨pl, 0, none⟩ = false
  f1 : w.frozen? ⟨ps, 0, none⟩ = false
  ne : pl ≠ ps
/-- All but two blocks stay. -/
structure Kept2 (w w' : World) (p q : Nat) : Prop where
  os : w'.os = w.os
  tape : w'.tape = w.tape
  output : w'.output = w.output
  size : w.heap.size ≤ w'.heap.size
  block : ∀ k, k < w.heap.size → k ≠ p → k ≠ q → w'.heap[k]? = w.heap[k]?
theorem Kept2.refl (w : World) (p q : Nat) : Kept2 w w p q := ⟨rfl, rfl, rfl, Nat.le_refl _, fun _ _ _ _ => rfl⟩
theorem Kept2.trans {a b c : World} {p q : Nat} (h : Kept2 a b p q) (k : Kept2 b c p q) : Kept2 a c p q :=
  ⟨k.os.trans h.os, k.tape.trans h.tape, k.output.trans h.output, Nat.le_trans h.size k.size, fun i hi h1 h2 => (k.block i (Nat.lt_of_lt_of_le hi h.size) h1 h2).trans (h.block i hi h1 h2)⟩
theorem Kept2.set {a b : World} {p q : Nat} (h : Kept2 a b p q) {x : Nat} (hx : x = p ∨ x = q) (u : Value) : Kept2 a (b.setCell ⟨x, 0, none⟩ u) p q :=
  ⟨h.os, h.tape, h.output, by simpa using h.size, fun i hi h1 h2 => (Below.heap_setCell b ⟨x, 0, none⟩ u i (fun e => by have e' : i = x := e; rcases hx with r | r <;> simp_all)).trans (h.block i hi h1 h2)⟩
theorem Kept2.next {a b c : World} {p q : Nat} (h : Kept2 a b p q) (k : Below b.heap.size b c) : Kept2 a c p q :=
  ⟨k.os.trans h.os, k.tape.trans h.tape, k.output.trans h.output, Nat.le_trans h.size k.size, fun i hi h1 h2 => (k.block i (Nat.lt_of_lt_of_le hi h.size)).trans (h.block i hi h1 h2)⟩
theorem Kept2.at {a b : World} {p q x o : Nat} {k n : Int} {s : ByteArray} (h : Kept2 a b p q) (ha : At a x o k n s) (h1 : x ≠ p) (h2 : x ≠ q) : At b x o k n s := ha.far (h.block x ha.lt h1 h2)
theorem Kept2.below {a b : World} {p q B : Nat} (h : Kept2 a b p q) (hB : B ≤ a.heap.size) (hp : B ≤ p) (hq : B ≤ q) : Below B a b :=
  ⟨h.os, h.tape, h.output, h.size, fun i hi => h.block i (by omega) (by omega) (by omega)⟩
theorem Cuts.next {w w' : World} {pl ps : Nat} {left : ByteArray} {short : Bool} (h : Cuts w pl ps left short) (k : Below w.heap.size w w') : Cuts w' pl ps left short :=
  ⟨(k.cell (p := ⟨pl, 0, none⟩) (World.block_lt_of_cell? w _ h.c0)).trans h.c0, (k.cell (p := ⟨ps, 0, none⟩) (World.block_lt_of_cell? w _ h.c1)).trans h.c1,
    (k.frozen (p := ⟨pl, 0, none⟩) (World.block_lt_of_cell? w _ h.c0)).trans h.f0, (k.frozen (p := ⟨ps, 0, none⟩) (World.block_lt_of_cell? w _ h.c1)).trans h.f1, h.ne⟩
theorem setCell_same {w : World} {b : Nat} {v : Value} (h : w.cell? ⟨b, 0, none⟩ = some v) (u : Value) : (w.setCell ⟨b, 0, none⟩ u).cell? ⟨b, 0, none⟩ = some u := World.cell?_setCell_same' w _ u (by rw [h]; rfl)
theorem setCell_other {w : World} {b c : Nat} (hne : b ≠ c) (u : Value) : (w.setCell ⟨b, 0, none⟩ u).cell? ⟨c, 0, none⟩ = w.cell? ⟨c, 0, none⟩ :=
  World.cell?_of_block (a := ⟨c, 0, none⟩) (Below.heap_setCell w ⟨b, 0, none⟩ u c (fun e => hne (show b = c from e.symm)))
theorem setCell_frozen {w : World} {b c : Nat} (u : Value) : (w.setCell ⟨b, 0, none⟩ u).frozen? ⟨c, 0, none⟩ = w.frozen? ⟨c, 0, none⟩ := World.frozen?_setCells b [u] 0 w _
theorem ext_list (x : ByteArray) (i j : Nat) : (x.extract i j).data.toList = (x.data.toList.drop i).take (j - i) := by
  rw [ByteArray.data_extract, Array.toList_extract, List.extract_eq_take_drop]
theorem bytes_ext {x y : ByteArray} (h : x.data.toList = y.data.toList) : x = y := ByteArray.ext (Array.toList_inj.1 h)
theorem ext_big (x : ByteArray) (n : Nat) (h : x.size ≤ n) : x.extract 0 n = x := by
  apply bytes_ext
  rw [ext_list, List.drop_zero, List.take_of_length_le (by simpa using h)]
theorem ext_none (x : ByteArray) (n : Nat) (h : x.size ≤ n) : x.extract n x.size = ByteArray.empty := by
  apply bytes_ext
  rw [ext_list, List.drop_of_length_le (by simpa using h), List.take_nil]
  rfl
theorem cut_is (left : ByteArray) (short : Bool) (pl ps : Nat) (size : Nat) (w : World) (h : Cuts w pl ps left short) :
    Calls Try.prog 58 #[.int .i64 size, .pointer (some ⟨pl, 0, none⟩), .pointer (some ⟨ps, 0, none⟩)] w fun e w' => e = .returned (.string (left.extract 0 size)) ∧ Cuts w' pl ps (left.extract size left.size) (short || decide (left.size < size)) ∧ Kept2 w w' pl ps := by
  have HC := (show Hid _ from h)
  obtain ⟨h0, h1, f0, f1, ne⟩ := h
  by_cases hc : size ≤ left.size
  · have hci : ¬ (left.size : Int) < (size : Int) := by omega
    have hci2 : (size : Int) ≤ (left.size : Int) := by omega
    go_enter Try.func58, Try.ntmps58
    go_wp2_with fail
    go_ret
    have HC' := HC.out
    refine ⟨rfl, ⟨setCell_same HC'.c0 _, (setCell_other HC'.ne _).trans ?_, (setCell_frozen _).trans HC'.f0, (setCell_frozen _).trans HC'.f1, HC'.ne⟩, (Kept2.refl _ _ _).set (.inl rfl) _⟩
    rw [decide_eq_false (by omega), Bool.or_false]
    exact HC'.c1
  · have hci : (left.size : Int) < (size : Int) := by omega
    have g0 : (w.setCell ⟨ps, 0, none⟩ (.bool true)).cell? ⟨pl, 0, none⟩ = some (.string left) := (setCell_other ne.symm _).trans h0
    go_enter Try.func58, Try.ntmps58
    go_wp2_with fail
    go_ret
    have HC' := HC.out
    refine ⟨by rw [ext_big left size (by omega)]; rfl, ?_, ((Kept2.refl _ _ _).set (.inr rfl) _).set (.inl rfl) _⟩
    rw [ext_none left size (by omega), decide_eq_true (by omega), Bool.or_true]
    exact ⟨setCell_same ((setCell_other HC'.ne.symm _).trans HC'.c0) _, (setCell_other HC'.ne _).trans (setCell_same HC'.c1 _), (setCell_frozen _).trans ((setCell_frozen _).trans HC'.f0), (setCell_frozen _).trans ((setCell_frozen _).trans HC'.f1), HC'.ne⟩
theorem len_size (x : ByteArray) : x.data.toList.length = x.size := Array.length_toList
theorem ext_size (x : ByteArray) (i j : Nat) : (x.extract i j).size ≤ x.size := by
  have h1 := len_size (x.extract i j)
  rw [ext_list, List.length_take, List.length_drop] at h1
  have h2 := len_size x
  omega
theorem ext_few (x : ByteArray) (i j : Nat) : (x.extract i j).data.toList.length ≤ j - i := by
  rw [ext_list, List.length_take]
  omega
theorem bits_or_zero (n : Nat) (h : n < 256) : bits .or .i64 (wrap64 (0 * 256)) (wrap64 (n : Int)) = (n : Int) := by
  have e1 : wrap64 (0 * 256) = 0 := by unfold wrap64; omega
  have e2 : wrap64 (n : Int) = (n : Int) := by unfold wrap64; omega
  rw [e1, e2]
  show IntKind.i64.wrap ((BitVec.ofInt 64 0 ||| BitVec.ofInt 64 (n : Int)).toNat : Nat) = (n : Int)
  have e3 : (BitVec.ofInt 64 0 ||| BitVec.ofInt 64 (n : Int)) = BitVec.ofInt 64 (n : Int) := by
    have : BitVec.ofInt 64 0 = 0#64 := by decide
    rw [this, BitVec.zero_or]
  rw [e3, BitVec.toNat_ofInt, IntKind.wrap_i64]
  omega
theorem numF_none : numF [] = 0 := rfl
theorem numF_one (x : UInt8) : numF [x] = stepF 0 x := by rw [numF, List.foldl_cons, List.foldl_nil]
theorem num_few (l : List UInt8) (h : l.length ≤ 1) : ∃ c : Nat, c < 256 ∧ numF l = (c : Int) := by
  match l, h with
  | [], _ => exact ⟨0, by omega, numF_none⟩
  | [x], _ => exact ⟨x.toNat, x.toNat_lt, by rw [numF_one, stepF, bits_or_zero _ x.toNat_lt]⟩

/-- A value that was cut, and what is left. -/
structure Slip where
  v : V
  left : ByteArray
  short : Bool
def rest (left : ByteArray) (n : Nat) : ByteArray := left.extract n left.size
def fewer (short : Bool) (left : ByteArray) (n : Nat) : Bool := short || decide (left.size < n)
def firstN (left : ByteArray) (n : Nat) : Int := numF (left.extract 0 n).data.toList
/-- The value that some bytes begin with. -/
def cutV (left : ByteArray) (short : Bool) : Slip :=
  let k := firstN left 1
  let l1 := rest left 1
  let s1 := fewer short left 1
  if k = 1 then ⟨⟨1, bits .xor .i64 (firstN l1 8) (-9223372036854775808), ⟨#[]⟩⟩, rest l1 8, fewer s1 l1 8⟩
  else if k = 2 then
    let c := (firstN l1 1).toNat
    let l2 := rest l1 1
    ⟨⟨2, 0, l2.extract 0 c⟩, rest l2 c, fewer (fewer s1 l1 1) l2 c⟩
  else if k = 3 then ⟨⟨3, firstN l1 1, ⟨#[]⟩⟩, rest l1 1, fewer s1 l1 1⟩
  else ⟨⟨k, 0, ⟨#[]⟩⟩, l1, s1⟩

theorem clone_is (s : ByteArray) (w : World) (hs : s.size ≤ 1000000) : Calls Try.prog 67 #[.string s] w fun e w' => e = .returned (.string s) ∧ Below w.heap.size w w' := by
  have HC := (show Hid _ from Try.stringslite_Clone s w (by omega))
  go_enter Try.func67, Try.ntmps67
  go_wp2_with fail
  refine Calls.mono HC.out ?_; rintro e w1 ⟨rfl, k1⟩
  go_wp2_with fail
  go_ret
  exact ⟨rfl, k1⟩
/-- A value in memory that may be written. -/
structure AtF (w : World) (b : Nat) (k n : Int) (s : ByteArray) : Prop extends At w b 0 k n s where
  fz : ∀ j, w.frozen? ⟨b, j, none⟩ = false
theorem AtF.new (w : World) (k n : Int) (s : ByteArray) : AtF (w.alloc (.cells #[.int .i64 k, .int .i64 n, .string s] 56)) w.heap.size k n s :=
  ⟨At.new w k n s, fun j => by simp⟩
theorem AtF.far {w w' : World} {b : Nat} {k n : Int} {s : ByteArray} (h : AtF w b k n s) (hb : w'.heap[b]? = w.heap[b]?) : AtF w' b k n s :=
  ⟨h.toAt.far hb, fun j => (World.frozen?_of_block (a := ⟨b, j, none⟩) hb).trans (h.fz j)⟩
theorem AtF.next {w w' : World} {b : Nat} {k n : Int} {s : ByteArray} (h : AtF w b k n s) (hb : Below w.heap.size w w') : AtF w' b k n s := h.far (hb.block b h.lt)
theorem AtF.kept {w w' : World} {b p q : Nat} {k n : Int} {s : ByteArray} (h : AtF w b k n s) (hk : Kept2 w w' p q) (h1 : b ≠ p) (h2 : b ≠ q) : AtF w' b k n s := h.far (hk.block b h.lt h1 h2)

theorem cell_put {w : World} {b c i j : Nat} (u : Value) (h : ¬ (b = c ∧ i = j)) : (w.setCell ⟨b, i, none⟩ u).cell? ⟨c, j, none⟩ = w.cell? ⟨c, j, none⟩ :=
  World.cell?_setCell_other _ _ _ _ (fun e => h (by cases e; exact ⟨rfl, rfl⟩))
theorem Cuts.put {w : World} {pl ps : Nat} {left : ByteArray} {short : Bool} (h : Cuts w pl ps left short) (x o : Nat) (u : Value) (h1 : x ≠ pl) (h2 : x ≠ ps) : Cuts (w.setCell ⟨x, o, none⟩ u) pl ps left short :=
  ⟨(cell_put u (fun q => h1 q.1)).trans h.c0, (cell_put u (fun q => h2 q.1)).trans h.c1, (World.frozen?_setCells x [u] o w _).trans h.f0, (World.frozen?_setCells x [u] o w _).trans h.f1, h.ne⟩
theorem Kept2.put {a b : World} {p q : Nat} (h : Kept2 a b p q) (x o : Nat) (u : Value) (hx : a.heap.size ≤ x) : Kept2 a (b.setCell ⟨x, o, none⟩ u) p q :=
  ⟨h.os, h.tape, h.output, by simpa using h.size, fun i hi h1 h2 => (Below.heap_setCell b ⟨x, o, none⟩ u i (fun e => by have e' : i = x := e; omega)).trans (h.block i hi h1 h2)⟩
theorem AtF.put {w : World} {b : Nat} {k n : Int} {s : ByteArray} (h : AtF w b k n s) (x o : Nat) (u : Value) (hx : x ≠ b) : AtF (w.setCell ⟨x, o, none⟩ u) b k n s :=
  ⟨⟨(cell_put u (fun q => hx q.1)).trans h.c0, (cell_put u (fun q => hx q.1)).trans h.c1, (cell_put u (fun q => hx q.1)).trans h.c2⟩, fun j => (World.frozen?_setCells x [u] o w _).trans (h.fz j)⟩
theorem AtF.three {w : World} {b : Nat} {k n : Int} {s : ByteArray} (h : AtF w b k n s) (k' n' : Int) (s' : ByteArray) : At (((w.setCell ⟨b, 0, none⟩ (.int .i64 k')).setCell ⟨b, 1, none⟩ (.int .i64 n')).setCell ⟨b, 2, none⟩ (.string s')) b 0 k' n' s' := by
  have h1 : (w.setCell ⟨b, 0, none⟩ (.int .i64 k')).cell? ⟨b, 1, none⟩ = some (.int .i64 n) := (cell_put _ (fun q => by omega)).trans h.c1
  have h2 : ((w.setCell ⟨b, 0, none⟩ (.int .i64 k')).setCell ⟨b, 1, none⟩ (.int .i64 n')).cell? ⟨b, 2, none⟩ = some (.string s) := (cell_put _ (fun q => by omega)).trans ((cell_put _ (fun q => by omega)).trans h.c2)
  refine ⟨(cell_put _ (fun q => by omega)).trans ((cell_put _ (fun q => by omega)).trans (setCell_same h.c0 _)), (cell_put _ (fun q => by omega)).trans (World.cell?_setCell_same' _ _ _ (by rw [h1]; rfl)), World.cell?_setCell_same' _ _ _ (by rw [h2]; rfl)⟩

set_option maxHeartbeats 2000000 in
theorem cutValue_is (left : ByteArray) (short : Bool) (hl : left.size ≤ 1000000) (pl ps : Nat) (w : World) (h : Cuts w pl ps left short) : Calls Try.prog 60 #[.func (.func 58) #[] #[.pointer (some ⟨pl, 0, none⟩), .pointer (some ⟨ps, 0, none⟩)]] w fun e w' => e = .returned (cutV left short).v.val ∧ Cuts w' pl ps (cutV left short).left (cutV left short).short ∧ Kept2 w w' pl ps := by
  have hpl : pl < w.heap.size := World.block_lt_of_cell? w _ h.c0
  have hps : ps < w.heap.size := World.block_lt_of_cell? w _ h.c1
  have H1 : Hid _ := cut_is left short pl ps 1 _ (h.next (below1 w (.cells #[.int .i64 0, .int .i64 0, .string ⟨#[]⟩] 56)))
  have HN : Hid _ := numberOf_is (left.extract 0 1) (Nat.le_trans (ext_size _ _ _) hl)
  obtain ⟨k, hk, ek⟩ := num_few (left.extract 0 1).data.toList (ext_few _ _ _)
  have HE : Hid (firstN left 1 = (k : Int)) := ek
  rw [ek] at HN
  have HL1 : Hid ((rest left 1).size ≤ 1000000) := Nat.le_trans (ext_size _ _ _) hl
  clear ek h
  by_cases c1 : k = 1
  · subst c1
    have HV : Hid (cutV left short = ⟨⟨1, bits .xor .i64 (firstN (rest left 1) 8) (-9223372036854775808), ⟨#[]⟩⟩, rest (rest left 1) 8, fewer (fewer short left 1) (rest left 1) 8⟩) := by show cutV left short = _; unfold cutV; simp only [HE.out]; rfl
    rw [HV.out]
    have HN8 : Hid (∀ w, Calls Try.prog 59 #[.string ((rest left 1).extract 0 8)] w fun e w' => e = .returned (.int .i64 (firstN (rest left 1) 8)) ∧ w' = w) := numberOf_is ((rest left 1).extract 0 8) (Nat.le_trans (ext_size _ _ _) HL1.out)
    obtain ⟨m, hm⟩ : ∃ m, firstN (rest left 1) 8 = m := ⟨_, rfl⟩
    rw [hm] at HN8 ⊢
    clear hm HV
    go_enter Try.func60, Try.ntmps60
    go_wp2_with fail
    refine Calls.mono H1.out ?_; rintro e w1 ⟨rfl, u1, k1⟩
    have R1 := (AtF.new w 0 0 ⟨#[]⟩).kept k1 (by omega) (by omega)
    have s1 := R1.lt
    have HU1 : Hid (Cuts w1 pl ps (rest left 1) (fewer short left 1) ∧ Kept2 w w1 pl ps ∧ AtF w1 w.heap.size 0 0 ⟨#[]⟩) := ⟨u1, ((Kept2.refl w pl ps).next (below1 _ _)).trans k1, R1⟩
    clear u1 k1 R1 H1
    go_wp2_with fail
    refine Calls.mono (HN.out _) ?_; rintro e w2 ⟨rfl, rfl⟩
    have H8 : Hid _ := cut_is (rest left 1) (fewer short left 1) pl ps 8 _ (HU1.out.1.next (below1 w2 (.cells #[.int .i64 1, .int .i64 0, .string ⟨#[]⟩] 56)))
    go_wp2_with fail
    refine Calls.mono H8.out ?_; rintro e w3 ⟨rfl, u3, k3⟩
    have R3 := (HU1.out.2.2.next (below1 w2 (.cells #[.int .i64 1, .int .i64 0, .string ⟨#[]⟩] 56))).kept k3 (by omega) (by omega)
    have V3 := (AtF.new w2 1 0 ⟨#[]⟩).kept k3 (by omega) (by omega)
    have HU3 : Hid (Cuts w3 pl ps (rest (rest left 1) 8) (fewer (fewer short left 1) (rest left 1) 8) ∧ Kept2 w w3 pl ps) := ⟨u3, (HU1.out.2.1.next (below1 _ _)).trans k3⟩
    have HRR : Hid (AtF w3 w.heap.size 0 0 ⟨#[]⟩) := R3
    clear u3 k3 H8 HU1
    obtain ⟨⟨r0, r1, r2⟩, rf⟩ := R3
    obtain ⟨⟨v0, v1, v2⟩, vf⟩ := V3
    have rf0 := rf 0
    have rf1 := rf 1
    have rf2 := rf 2
    have vf1 := vf 1
    have vf2 := vf 2
    have hne : ¬ w2.heap.size = w.heap.size := by omega
    go_wp2_with fail
    refine Calls.mono (HN8.out _) ?_; rintro e w4 ⟨rfl, rfl⟩
    go_wp2_with fail
    try simp only [Exit.inBlock, Exit.then]
    refine bodyPost_ret (end_cell rfl rfl (load23 (AtF.three (HRR.out.put w2.heap.size 1 (.int .i64 (bits .xor .i64 m (-9223372036854775808))) (by omega)) 1 (bits .xor .i64 m (-9223372036854775808)) ⟨#[]⟩).c0 (AtF.three (HRR.out.put w2.heap.size 1 (.int .i64 (bits .xor .i64 m (-9223372036854775808))) (by omega)) 1 (bits .xor .i64 m (-9223372036854775808)) ⟨#[]⟩).c1 (AtF.three (HRR.out.put w2.heap.size 1 (.int .i64 (bits .xor .i64 m (-9223372036854775808))) (by omega)) 1 (bits .xor .i64 m (-9223372036854775808)) ⟨#[]⟩).c2)) rfl ?_
    exact ⟨rfl, (((HU3.out.1.put w2.heap.size 1 _ (by omega) (by omega)).put w.heap.size 0 _ (by omega) (by omega)).put w.heap.size 1 _ (by omega) (by omega)).put w.heap.size 2 _ (by omega) (by omega), (((HU3.out.2.put w2.heap.size 1 _ (by omega)).put w.heap.size 0 _ (by omega)).put w.heap.size 1 _ (by omega)).put w.heap.size 2 _ (by omega)⟩
  · by_cases c2 : k = 2
    · subst c2
      obtain ⟨c, hc, ec⟩ := num_few ((rest left 1).extract 0 1).data.toList (ext_few _ _ _)
      have HV : Hid (cutV left short = ⟨⟨2, 0, (rest (rest left 1) 1).extract 0 c⟩, rest (rest (rest left 1) 1) c, fewer (fewer (fewer short left 1) (rest left 1) 1) (rest (rest left 1) 1) c⟩) := by
        show cutV left short = _
        have ec' : firstN (rest left 1) 1 = (c : Int) := ec
        unfold cutV
        simp only [HE.out, ec']
        rfl
      rw [HV.out]
      have HN8 : Hid (∀ w, Calls Try.prog 59 #[.string ((rest left 1).extract 0 1)] w fun e w' => e = .returned (.int .i64 (c : Int)) ∧ w' = w) := by
        have := numberOf_is ((rest left 1).extract 0 1) (Nat.le_trans (ext_size _ _ _) HL1.out)
        rw [ec] at this
        exact this
      have HCl : Hid _ := fun w => clone_is ((rest (rest left 1) 1).extract 0 c) w (Nat.le_trans (ext_size _ _ _) (Nat.le_trans (ext_size _ _ _) HL1.out))
      clear ec HV
      go_enter Try.func60, Try.ntmps60
      go_wp2_with fail
      refine Calls.mono H1.out ?_; rintro e w1 ⟨rfl, u1, k1⟩
      have R1 := (AtF.new w 0 0 ⟨#[]⟩).kept k1 (by omega) (by omega)
      have s1 := R1.lt
      have HU1 : Hid (Cuts w1 pl ps (rest left 1) (fewer short left 1) ∧ Kept2 w w1 pl ps ∧ AtF w1 w.heap.size 0 0 ⟨#[]⟩) := ⟨u1, ((Kept2.refl w pl ps).next (below1 _ _)).trans k1, R1⟩
      clear u1 k1 R1 H1
      go_wp2_with fail
      refine Calls.mono (HN.out _) ?_; rintro e w2 ⟨rfl, rfl⟩
      have H8 : Hid _ := cut_is (rest left 1) (fewer short left 1) pl ps 1 _ (HU1.out.1.next (below1 w2 (.cells #[.int .i64 2, .int .i64 0, .string ⟨#[]⟩] 56)))
      go_wp2_with fail
      refine Calls.mono H8.out ?_; rintro e w3 ⟨rfl, u3, k3⟩
      have R3 := (HU1.out.2.2.next (below1 w2 (.cells #[.int .i64 2, .int .i64 0, .string ⟨#[]⟩] 56))).kept k3 (by omega) (by omega)
      have V3 := (AtF.new w2 2 0 ⟨#[]⟩).kept k3 (by omega) (by omega)
      have HUx : Hid (Cuts w3 pl ps (rest (rest left 1) 1) (fewer (fewer short left 1) (rest left 1) 1) ∧ Kept2 w w3 pl ps ∧ AtF w3 w.heap.size 0 0 ⟨#[]⟩ ∧ AtF w3 w2.heap.size 2 0 ⟨#[]⟩) := ⟨u3, (HU1.out.2.1.next (below1 _ _)).trans k3, R3, V3⟩
      clear u3 k3 H8 HU1 R3 V3
      go_wp2_with fail
      refine Calls.mono (HN8.out _) ?_; rintro e w4 ⟨rfl, rfl⟩
      have H9 : Hid _ := cut_is (rest (rest left 1) 1) (fewer (fewer short left 1) (rest left 1) 1) pl ps c _ HUx.out.1
      go_wp2_with fail
      refine Calls.mono H9.out ?_; rintro e w5 ⟨rfl, u5, k5⟩
      have HUy : Hid (Cuts w5 pl ps (rest (rest (rest left 1) 1) c) (fewer (fewer (fewer short left 1) (rest left 1) 1) (rest (rest left 1) 1) c) ∧ Kept2 w w5 pl ps ∧ AtF w5 w.heap.size 0 0 ⟨#[]⟩ ∧ AtF w5 w2.heap.size 2 0 ⟨#[]⟩) := ⟨u5, HUx.out.2.1.trans k5, HUx.out.2.2.1.kept k5 (by omega) (by omega), HUx.out.2.2.2.kept k5 (by omega) (by omega)⟩
      clear u5 k5 H9 HUx
      go_wp2_with fail
      refine Calls.mono (HCl.out _) ?_; rintro e w6 ⟨rfl, k6⟩
      have R3 := HUy.out.2.2.1.next k6
      have V3 := HUy.out.2.2.2.next k6
      have HU3 : Hid (Cuts w6 pl ps (rest (rest (rest left 1) 1) c) (fewer (fewer (fewer short left 1) (rest left 1) 1) (rest (rest left 1) 1) c) ∧ Kept2 w w6 pl ps) := ⟨HUy.out.1.next k6, HUy.out.2.1.next k6⟩
      have HRR : Hid (AtF w6 w.heap.size 0 0 ⟨#[]⟩) := R3
      clear k6 HUy
      obtain ⟨⟨r0, r1, r2⟩, rf⟩ := R3
      obtain ⟨⟨v0, v1, v2⟩, vf⟩ := V3
      have rf0 := rf 0
      have rf1 := rf 1
      have rf2 := rf 2
      have vf1 := vf 1
      have vf2 := vf 2
      have hne : ¬ w2.heap.size = w.heap.size := by omega
      go_wp2_with fail
      try simp only [Exit.inBlock, Exit.then]
      refine bodyPost_ret (end_cell rfl rfl (load23 (AtF.three (HRR.out.put w2.heap.size 2 (.string ((rest (rest left 1) 1).extract 0 c)) (by omega)) 2 0 ((rest (rest left 1) 1).extract 0 c)).c0 (AtF.three (HRR.out.put w2.heap.size 2 (.string ((rest (rest left 1) 1).extract 0 c)) (by omega)) 2 0 ((rest (rest left 1) 1).extract 0 c)).c1 (AtF.three (HRR.out.put w2.heap.size 2 (.string ((rest (rest left 1) 1).extract 0 c)) (by omega)) 2 0 ((rest (rest left 1) 1).extract 0 c)).c2)) rfl ?_
      exact ⟨rfl, (((HU3.out.1.put w2.heap.size 2 _ (by omega) (by omega)).put w.heap.size 0 _ (by omega) (by omega)).put w.heap.size 1 _ (by omega) (by omega)).put w.heap.size 2 _ (by omega) (by omega), (((HU3.out.2.put w2.heap.size 2 _ (by omega)).put w.heap.size 0 _ (by omega)).put w.heap.size 1 _ (by omega)).put w.heap.size 2 _ (by omega)⟩
    · by_cases c3 : k = 3
      · subst c3
        have HV : Hid (cutV left short = ⟨⟨3, firstN (rest left 1) 1, ⟨#[]⟩⟩, rest (rest left 1) 1, fewer (fewer short left 1) (rest left 1) 1⟩) := by show cutV left short = _; unfold cutV; simp only [HE.out]; rfl
        rw [HV.out]
        have HN8 : Hid (∀ w, Calls Try.prog 59 #[.string ((rest left 1).extract 0 1)] w fun e w' => e = .returned (.int .i64 (firstN (rest left 1) 1)) ∧ w' = w) := numberOf_is ((rest left 1).extract 0 1) (Nat.le_trans (ext_size _ _ _) HL1.out)
        obtain ⟨m, hm⟩ : ∃ m, firstN (rest left 1) 1 = m := ⟨_, rfl⟩
        rw [hm] at HN8 ⊢
        clear hm HV
        go_enter Try.func60, Try.ntmps60
        go_wp2_with fail
        refine Calls.mono H1.out ?_; rintro e w1 ⟨rfl, u1, k1⟩
        have R1 := (AtF.new w 0 0 ⟨#[]⟩).kept k1 (by omega) (by omega)
        have s1 := R1.lt
        have HU1 : Hid (Cuts w1 pl ps (rest left 1) (fewer short left 1) ∧ Kept2 w w1 pl ps ∧ AtF w1 w.heap.size 0 0 ⟨#[]⟩) := ⟨u1, ((Kept2.refl w pl ps).next (below1 _ _)).trans k1, R1⟩
        clear u1 k1 R1 H1
        go_wp2_with fail
        refine Calls.mono (HN.out _) ?_; rintro e w2 ⟨rfl, rfl⟩
        have H8 : Hid _ := cut_is (rest left 1) (fewer short left 1) pl ps 1 _ (HU1.out.1.next (below1 w2 (.cells #[.int .i64 3, .int .i64 0, .string ⟨#[]⟩] 56)))
        go_wp2_with fail
        refine Calls.mono H8.out ?_; rintro e w3 ⟨rfl, u3, k3⟩
        have R3 := (HU1.out.2.2.next (below1 w2 (.cells #[.int .i64 3, .int .i64 0, .string ⟨#[]⟩] 56))).kept k3 (by omega) (by omega)
        have V3 := (AtF.new w2 3 0 ⟨#[]⟩).kept k3 (by omega) (by omega)
        have HU3 : Hid (Cuts w3 pl ps (rest (rest left 1) 1) (fewer (fewer short left 1) (rest left 1) 1) ∧ Kept2 w w3 pl ps) := ⟨u3, (HU1.out.2.1.next (below1 _ _)).trans k3⟩
        have HRR : Hid (AtF w3 w.heap.size 0 0 ⟨#[]⟩) := R3
        clear u3 k3 H8 HU1
        obtain ⟨⟨r0, r1, r2⟩, rf⟩ := R3
        obtain ⟨⟨v0, v1, v2⟩, vf⟩ := V3
        have rf0 := rf 0
        have rf1 := rf 1
        have rf2 := rf 2
        have vf1 := vf 1
        have vf2 := vf 2
        have hne : ¬ w2.heap.size = w.heap.size := by omega
        go_wp2_with fail
        refine Calls.mono (HN8.out _) ?_; rintro e w4 ⟨rfl, rfl⟩
        go_wp2_with fail
        try simp only [Exit.inBlock, Exit.then]
        refine bodyPost_ret (end_cell rfl rfl (load23 (AtF.three (HRR.out.put w2.heap.size 1 (.int .i64 m) (by omega)) 3 m ⟨#[]⟩).c0 (AtF.three (HRR.out.put w2.heap.size 1 (.int .i64 m) (by omega)) 3 m ⟨#[]⟩).c1 (AtF.three (HRR.out.put w2.heap.size 1 (.int .i64 m) (by omega)) 3 m ⟨#[]⟩).c2)) rfl ?_
        exact ⟨rfl, (((HU3.out.1.put w2.heap.size 1 _ (by omega) (by omega)).put w.heap.size 0 _ (by omega) (by omega)).put w.heap.size 1 _ (by omega) (by omega)).put w.heap.size 2 _ (by omega) (by omega), (((HU3.out.2.put w2.heap.size 1 _ (by omega)).put w.heap.size 0 _ (by omega)).put w.heap.size 1 _ (by omega)).put w.heap.size 2 _ (by omega)⟩
      · have b1 : ((k : Int) == 1) = false := by simp; omega
        have b2 : ((k : Int) == 2) = false := by simp; omega
        have b3 : ((k : Int) == 3) = false := by simp; omega
        have HV : Hid (cutV left short = ⟨⟨k, 0, ⟨#[]⟩⟩, rest left 1, fewer short left 1⟩) := by
          show cutV left short = _
          unfold cutV
          simp only [HE.out]
          rw [if_neg (by omega), if_neg (by omega), if_neg (by omega)]
        rw [HV.out]
        clear HV
        go_enter Try.func60, Try.ntmps60
        go_wp2_with fail
        refine Calls.mono H1.out ?_; rintro e w1 ⟨rfl, u1, k1⟩
        have R1 := (AtF.new w 0 0 ⟨#[]⟩).kept k1 (by omega) (by omega)
        have s1 := R1.lt
        have HU1 : Hid (Cuts w1 pl ps (rest left 1) (fewer short left 1) ∧ Kept2 w w1 pl ps ∧ AtF w1 w.heap.size 0 0 ⟨#[]⟩) := ⟨u1, ((Kept2.refl w pl ps).next (below1 _ _)).trans k1, R1⟩
        clear u1 k1 R1 H1
        go_wp2_with fail
        refine Calls.mono (HN.out _) ?_; rintro e w2 ⟨rfl, rfl⟩
        have R3 := HU1.out.2.2.next (below1 w2 (.cells #[.int .i64 k, .int .i64 0, .string ⟨#[]⟩] 56))
        have HU3 : Hid (Cuts w2 pl ps (rest left 1) (fewer short left 1) ∧ Kept2 w w2 pl ps) := ⟨HU1.out.1, HU1.out.2.1⟩
        have HRR : Hid (AtF w2 w.heap.size 0 0 ⟨#[]⟩) := HU1.out.2.2
        obtain ⟨⟨p0, p1, p2⟩, pf⟩ := HU1.out.2.2
        obtain ⟨⟨r0, r1, r2⟩, rf⟩ := R3
        have rf0 := rf 0
        have rf1 := rf 1
        have rf2 := rf 2
        have pf0 := pf 0
        have pf1 := pf 1
        have pf2 := pf 2
        have hne : ¬ w2.heap.size = w.heap.size := by omega
        clear HU1
        go_wp2_with fail
        try simp only [Exit.inBlock, Exit.then]
        have T4 := (AtF.three HRR.out k 0 ⟨#[]⟩).next (below1 _ (.cells #[.int .i64 k, .int .i64 0, .string ⟨#[]⟩] 56))
        refine bodyPost_ret (end_cell rfl rfl (load23 T4.c0 T4.c1 T4.c2)) rfl ?_
        exact ⟨rfl, (((HU3.out.1.put w.heap.size 0 _ (by omega) (by omega)).put w.heap.size 1 _ (by omega) (by omega)).put w.heap.size 2 _ (by omega) (by omega)).next (below1 _ _), (((HU3.out.2.put w.heap.size 0 _ (by omega)).put w.heap.size 1 _ (by omega)).put w.heap.size 2 _ (by omega)).next (below1 _ _)⟩
end Go.Proofs.Ytaoboleifdgonaa
