/- The plain mathematics of three texts turned into one another, and the row of bytes that make lays. -/
import Derived.Test.YtdfkkacfaibmaaaRow
import Derived.Test.YtdfkkacfaibmaaaSame
import Derived.Laws.MakeOwn
namespace Go.Proofs.Ytdfkkacfaibmaaa
open Go.ChangeShapes Go.WideShapes Go.ChangeAt Go.RowKit
set_option linter.unusedVariables false

/-- Three texts, turned into one another. -/
def tri (A B C : List UInt8) : List UInt8 := List.zipWith (· ^^^ ·) (List.zipWith (· ^^^ ·) A B) C
theorem tri_len {A B C : List UInt8} {n : Nat} (ha : A.length = n) (hb : B.length = n) (hc : C.length = n) : (tri A B C).length = n := by
  unfold tri; simp; omega
theorem tri_at {A B C : List UInt8} {i : Nat} (h : i < (tri A B C).length) (ha : i < A.length) (hb : i < B.length) (hc : i < C.length) : (tri A B C)[i] = A[i] ^^^ B[i] ^^^ C[i] := by
  simp [tri]

theorem sum_tri {A B C : List UInt8} {n : Nat} (ha : A.length = n) (hb : B.length = n) (hc : C.length = n) : sumOf A ^^^ sumOf B ^^^ sumOf C = sumOf (tri A B C) := by
  unfold sumOf moreOf
  rw [Nat.zero_xor]
  generalize hF : (4294967295 : Nat) = F
  have e1 : run (F ^^^ F ^^^ F) (tri A B C) = run F A ^^^ run F B ^^^ run F C := by
    unfold tri
    rw [run_xor (F ^^^ F) F _ C (by simp; omega), run_xor F F A B (by omega)]
  rw [xor_twice] at e1
  rw [e1]
  generalize run F A = x
  generalize run F B = y
  generalize run F C = z
  rw [xor_swap x F y F, Nat.xor_self, Nat.xor_zero, Nat.xor_assoc (x ^^^ y) z F]

theorem byte_xor {x y z : UInt8} (h : x ^^^ y ^^^ z = z) : x = y := by
  have := congrArg UInt8.toNat h
  rw [UInt8.toNat_xor, UInt8.toNat_xor] at this
  have e : x.toNat ^^^ y.toNat = 0 := by
    rw [← xor_twice (x.toNat ^^^ y.toNat) z.toNat, this, Nat.xor_self]
  exact UInt8.toNat_inj.1 (xor_nought.1 e)

theorem tri_same {A B C : List UInt8} {n : Nat} (ha : A.length = n) (hb : B.length = n) (hc : C.length = n) : tri A B C = C ↔ A = B := by
  have hl := tri_len ha hb hc
  constructor
  · intro h
    apply List.ext_getElem (by omega)
    intro i h1 h2
    have := tri_at (A := A) (B := B) (C := C) (i := i) (by omega) h1 h2 (by omega)
    simp only [h] at this
    exact byte_xor this.symm
  · rintro rfl
    apply List.ext_getElem (by omega)
    intro i h1 h2
    rw [tri_at h1 (by omega) (by omega) h2]
    simp

theorem same_tri {A B C : List UInt8} {n : Nat} (ha : A.length = n) (hb : B.length = n) (hc : C.length = n) : sameL C (tri A B C) = sameL A B := by
  have hl := tri_len ha hb hc
  have hs := sum_tri ha hb hc
  have ht := tri_same ha hb hc
  unfold sameL
  rw [Bool.eq_iff_iff, decide_eq_true_iff, decide_eq_true_iff, ← hs]
  have e : sumOf C = sumOf A ^^^ sumOf B ^^^ sumOf C ↔ sumOf A = sumOf B := by
    constructor
    · intro h
      have e : sumOf A ^^^ sumOf B = 0 := by
        rw [← xor_twice (sumOf A ^^^ sumOf B) (sumOf C), ← h, Nat.xor_self]
      exact xor_nought.1 e
    · intro h
      rw [h, Nat.xor_self, Nat.zero_xor]
  rw [e]
  constructor
  · rintro ⟨h1, _, h3⟩
    exact ⟨fun h => h1 (ht.2 h).symm, by omega, h3⟩
  · rintro ⟨h1, _, h3⟩
    exact ⟨fun h => h1 (ht.1 h.symm), by omega, h3⟩

/-- The first i bytes are there, the others are noughts. -/
def part (X : List UInt8) (i : Nat) : List UInt8 := X.take i ++ List.replicate (X.length - i) 0
theorem part_len (X : List UInt8) (i : Nat) (h : i ≤ X.length) : (part X i).length = X.length := by
  unfold part; simp; omega
theorem part_zero (X : List UInt8) : part X 0 = List.replicate X.length 0 := by unfold part; simp
theorem part_all (X : List UInt8) : part X X.length = X := by unfold part; simp
theorem part_step (X : List UInt8) (i : Nat) (h : i < X.length) : (part X i).set i X[i] = part X (i + 1) := by
  unfold part
  have e1 : X.length - i = (X.length - (i + 1)) + 1 := by omega
  have e2 : (X.take i).length = i := by simp; omega
  rw [e1, List.replicate_succ, List.set_append_right (h := by omega), e2, Nat.sub_self, List.set_cons_zero]
  have e3 : X.take (i + 1) = X.take i ++ [X[i]] := List.take_succ_eq_append_getElem h
  rw [e3, List.append_assoc]
  rfl

theorem Try.info5 : (Try.prog.info? 5).map (fun i => (i.zero, i.size, i.bytes)) = some (some (.int .u8 0), 1, 1) := by kernel_rfl

theorem make_row (n : Nat) (hn : n ≤ 256) (w : World) : ∃ W : World, (Instr.makeSlice 30 (.int .i64 n) (.int .i64 n)).run Try.prog w = .ok (.slice (some ⟨w.heap.size, 0, none⟩) n n) W ∧ Row W w.heap.size (List.replicate n 0) ∧ Below w.heap.size w W := by
  obtain ⟨i, hi, hz, h1, h2⟩ : ∃ i, Try.prog.info? 5 = some i ∧ i.zero = some (.int .u8 0) ∧ i.size = 1 ∧ i.bytes = 1 := by
    have h := Try.info5
    cases hi : Try.prog.info? 5 with
    | none => rw [hi] at h; cases h
    | some i =>
      rw [hi] at h
      simp at h
      exact ⟨i, rfl, h⟩
  have hr := run_make (P := Try.prog) w 30 5 i (.int .u8 0) Try.underlying30 hi hz .i64 .i64 n n (by omega) (Int.le_refl _) (by rw [h2]; omega) (by omega)
  rw [Int.toNat_natCast, h1] at hr
  refine ⟨_, hr, ⟨fun k hk => ?_, fun k hk => ?_⟩, (Below.refl _ _).alloc (Nat.le_refl _) _⟩
  · have hk' : k < n := by simpa using hk
    simp [go_sem, madeCells, Value.cells, hk']
    rw [Nat.mod_one]
    rfl
  · simp [go_sem]

theorem min_four (x y z : Nat) (w : World) : (Builtin.min_ #[3, 3, 3, 3] 3 #[.int .i64 (x : Int), .int .i64 (y : Int), .int .i64 (z : Int), .int .i64 256]).run Try.prog w = .ok (.int .i64 ((min (min (min x y) z) 256 : Nat) : Int)) w := by
  simp [Builtin.min_, Builtin.min2]
  split <;> split <;> split <;> omega
end Go.Proofs.Ytdfkkacfaibmaaa
