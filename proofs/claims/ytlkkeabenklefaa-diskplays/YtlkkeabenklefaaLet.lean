/- DiskSure: the disk behind its writes, its flush, its writes and its crash. -/
import Derived.Test.YtlkkeabenklefaaAwake
namespace Go.Proofs.Ytlkkeabenklefaa
open Go.ChangeShapes Go.WideShapes Go.ChangeAt Go.RowKit
set_option linter.unusedVariables false

theorem and_fif (n : Int) : bits .and .i64 n 15 = n % 16 := by
  have h : (BitVec.ofInt 64 15).toNat = 2 ^ 4 - 1 := by decide
  have key : (BitVec.ofInt 64 n &&& BitVec.ofInt 64 15).toNat = (n % ((2 ^ 64 : Nat) : Int)).toNat % 2 ^ 4 := by
    rw [BitVec.toNat_and, BitVec.toNat_ofInt, h, Nat.and_two_pow_sub_one_eq_mod]
  show IntKind.i64.wrap ((BitVec.ofInt 64 n &&& BitVec.ofInt 64 15).toNat : Nat) = n % 16
  rw [key, IntKind.wrap_i64]
  omega

/-- A sector of the k-th letter behind b. -/
def lt (b k : Nat) : ByteArray := fill (UInt8.ofNat (b + k))
theorem lt_size (b k : Nat) : (lt b k).size = 32 := fill_size _
def R (b k : Nat) : List UInt8 := (lt b k).data.toList
theorem R_len (b k : Nat) : (R b k).length = 32 := by unfold R lt; rw [fill_list]; simp
theorem filled_at (b k : Nat) (h : b + k < 256) (w : World) : Calls Try.prog 10 #[.int .u8 ((b : Int) + (k : Int))] w fun e w' => e = .returned (.string (lt b k)) ∧ Kept (fun _ => False) w w' := by
  have := filled_is (UInt8.ofNat (b + k)) w
  rw [UInt8.toNat_ofNat_of_lt' (by simpa using h)] at this
  exact this

def qa : Nat → List (Nat × List UInt8)
  | 0 => []
  | m + 1 => qa m ++ [(m, R 97 m)]
def wb (bt : Nat → Bool) : Nat → List (Nat × List UInt8)
  | 0 => []
  | m + 1 => wb bt m ++ (if bt m then [(m, R 65 m)] else [])
theorem qa_lt (m : Nat) : ∀ q, q ∈ qa m → q.1 < m := by
  induction m with
  | zero => intro q h; cases h
  | succ m ih =>
    intro q h
    rw [qa, List.mem_append, List.mem_singleton] at h
    rcases h with h | rfl
    · have := ih q h; omega
    · exact Nat.lt_succ_self m
theorem wb_lt (bt : Nat → Bool) (m : Nat) : ∀ q, q ∈ wb bt m → q.1 < m := by
  induction m with
  | zero => intro q h; cases h
  | succ m ih =>
    intro q h
    rw [wb, List.mem_append] at h
    rcases h with h | h
    · have := ih q h; omega
    · split at h
      · rw [List.mem_singleton] at h; subst h; exact Nat.lt_succ_self m
      · cases h
theorem qa_len (m : Nat) : (qa m).length = m := by
  induction m with
  | zero => rfl
  | succ m ih => rw [qa, List.length_append, ih]; rfl
theorem wb_len (bt : Nat → Bool) (m : Nat) : (wb bt m).length ≤ m := by
  induction m with
  | zero => exact Nat.le_refl 0
  | succ m ih => rw [wb, List.length_append]; split <;> simp <;> omega
theorem behind_qa (n i : Nat) (s : List UInt8) : behind s i (qa n) = if i < n then R 97 i else s := by
  induction n with
  | zero => rfl
  | succ n ih =>
    rw [qa, behind, List.foldl_append]
    show (if n = i then R 97 n else behind s i (qa n)) = _
    rw [ih]
    by_cases h : n = i
    · subst h; rw [if_pos rfl, if_pos (Nat.lt_succ_self n)]
    · rw [if_neg h]
      by_cases h2 : i < n
      · rw [if_pos h2, if_pos (by omega)]
      · rw [if_neg h2, if_neg (by omega)]
/-- What survives of the j-th write. -/
def surv (ks : List Int) (j : Nat) : Nat := match ks[j]? with | some k => kept k | none => 0
theorem torn_at (Q : List (Nat × List UInt8)) : ∀ (ks : List Int) (S : Nat → List UInt8) (j i : Nat) (t : List UInt8), Q.Pairwise (fun a b => a.1 ≠ b.1) → Q[j]? = some (i, t) →
    torn S (Q.zip ks) i = t.take (surv ks j) ++ (S i).drop (surv ks j) := by
  induction Q with
  | nil => intro ks S j i t _ h; simp at h
  | cons q r ih =>
    intro ks S j i t hp h
    rw [List.pairwise_cons] at hp
    cases ks with
    | nil =>
      rw [List.zip_nil_right]
      unfold surv
      simp [torn]
    | cons k ks =>
      rw [List.zip_cons_cons]
      show torn (put S q.1 (q.2.take (kept k) ++ (S q.1).drop (kept k))) (r.zip ks) i = _
      cases j with
      | zero =>
        have e : q = (i, t) := by simpa using h
        subst e
        rw [torn_out _ _ (fun x hx => fun e => hp.1 x.1 (List.of_mem_zip hx).1 e.symm)]
        unfold put
        rw [if_pos rfl]
        rfl
      | succ j =>
        have h' : r[j]? = some (i, t) := by simpa using h
        rw [ih ks _ j i t hp.2 h']
        have hne : q.1 ≠ i := hp.1 (i, t) (List.mem_of_getElem? h')
        unfold put
        rw [if_neg (fun e => hne e.symm)]
        unfold surv
        rw [List.getElem?_cons_succ]
theorem wb_pair (bt : Nat → Bool) (m : Nat) : (wb bt m).Pairwise (fun a b => a.1 ≠ b.1) := by
  induction m with
  | zero => exact List.Pairwise.nil
  | succ m ih =>
    rw [wb, List.pairwise_append]
    refine ⟨ih, by split <;> simp, fun a ha b hb => ?_⟩
    have h1 := wb_lt bt m a ha
    split at hb
    · rw [List.mem_singleton] at hb; subst hb; exact Nat.ne_of_lt h1
    · cases hb
theorem wb_at (bt : Nat → Bool) (m i : Nat) (hi : i < m) (hb : bt i = true) : (wb bt m)[(wb bt i).length]? = some (i, R 65 i) := by
  induction m with
  | zero => omega
  | succ m ih =>
    rw [wb]
    by_cases h : i = m
    · subst h
      rw [List.getElem?_append_right (Nat.le_refl _), Nat.sub_self, if_pos hb]
      rfl
    · have := ih (by omega)
      rw [List.getElem?_append_left (List.getElem?_eq_some_iff.1 this).1]
      exact this
theorem wb_no (bt : Nat → Bool) (m i : Nat) (hb : bt i = false) : ∀ q, q ∈ wb bt m → q.1 ≠ i := by
  induction m with
  | zero => intro q h; cases h
  | succ m ih =>
    intro q h
    rw [wb, List.mem_append] at h
    rcases h with h | h
    · exact ih q h
    · split at h
      · rename_i hm
        rw [List.mem_singleton] at h; subst h
        intro e; subst e; rw [hm] at hb; cases hb
      · cases h

def d1 (m : Nat) : Dk := { n := 16, S := fun _ => List.replicate 32 0, Q := qa m, fuse := -1, off := false }
def d2 (n : Nat) (bt : Nat → Bool) (m : Nat) : Dk := { n := 16, S := flushed (fun _ => List.replicate 32 0) (qa n), Q := wb bt m, fuse := -1, off := false }
def d3 (n : Nat) (bt : Nat → Bool) (ks : List Int) : Dk := (d2 n bt 16).crash ks
def was (n i : Nat) : ByteArray := if i < n then lt 97 i else fill 0
theorem was_size (n i : Nat) : (was n i).size = 32 := by unfold was; split; exact lt_size _ _; exact fill_size _
/-- How many bytes of the i-th sector are the later ones. -/
def kk (bt : Nat → Bool) (ks : List Int) (i : Nat) : Nat := if bt i then surv ks (wb bt i).length else 0
theorem kk_le (bt : Nat → Bool) (ks : List Int) (i : Nat) : kk bt ks i ≤ 32 := by
  unfold kk surv
  split
  · split
    · exact kept_le _
    · omega
  · omega
theorem ba_cut (a b : ByteArray) (k : Nat) (ha : a.size = 32) (hb : b.size = 32) (hk : k ≤ 32) : (⟨(a.data.toList.take k ++ b.data.toList.drop k).toArray⟩ : ByteArray) = a.extract 0 k ++ b.extract k 32 := by
  apply ByteArray.ext
  rw [ByteArray.data_append, ByteArray.data_extract, ByteArray.data_extract]
  apply Array.toList_inj.1
  have h1 : a.data.toList.length = 32 := by simpa using ha
  have h2 : b.data.toList.length = 32 := by simpa using hb
  simp [Array.toList_extract, List.extract_eq_take_drop]
  rw [List.take_of_length_le (by simp; omega)]
theorem last_d3 (n : Nat) (bt : Nat → Bool) (ks : List Int) (i : Nat) (hi : i < 16) (hn : n ≤ 16) :
    (⟨((d3 n bt ks).last i).toArray⟩ : ByteArray) = (lt 65 i).extract 0 (kk bt ks i) ++ (was n i).extract (kk bt ks i) 32 := by
  rw [← ba_cut _ _ _ (lt_size 65 i) (was_size n i) (kk_le bt ks i)]
  suffices key : (d3 n bt ks).last i = (lt 65 i).data.toList.take (kk bt ks i) ++ (was n i).data.toList.drop (kk bt ks i) by rw [key]
  have e0 : (d3 n bt ks).last i = torn (flushed (fun _ => List.replicate 32 0) (qa n)) ((wb bt 16).zip ks) i := by
    unfold d3 Dk.crash d2 Dk.last behind
    simp only [List.foldl_nil]
  rw [e0]
  have hw : flushed (fun _ => List.replicate 32 0) (qa n) i = (was n i).data.toList := by
    rw [flushed_at, behind_qa]
    unfold was
    split
    · rfl
    · rfl
  cases hb : bt i with
  | true =>
    rw [torn_at _ ks _ _ i (R 65 i) (wb_pair bt 16) (wb_at bt 16 i hi hb)]
    rw [hw]
    unfold kk R
    rw [hb, if_pos rfl]
  | false =>
    rw [torn_out _ _ (fun x hx => wb_no bt 16 i hb x.1 (List.of_mem_zip hx).1), hw]
    unfold kk
    rw [hb, if_neg (by simp)]
    simp
theorem d1_next (m : Nat) : (d1 m).write m (R 97 m) = d1 (m + 1) := rfl
theorem d2_start (n : Nat) (bt : Nat → Bool) : (d1 n).flush = d2 n bt 0 := rfl
theorem d2_next (n : Nat) (bt : Nat → Bool) (m : Nat) (h : bt m = true) : (d2 n bt m).write m (R 65 m) = d2 n bt (m + 1) := by
  unfold d2
  rw [wb, h]
  rfl
theorem d2_same (n : Nat) (bt : Nat → Bool) (m : Nat) (h : bt m = false) : d2 n bt m = d2 n bt (m + 1) := by
  unfold d2
  rw [wb, h, if_neg (by simp), List.append_nil]

theorem min_a (x : Int) (w : World) : (Builtin.min_ #[3, 3] 3 #[.int .i64 x, .int .i64 32]).run Try.prog w = .ok (.int .i64 (min x 32)) w := by
  simp [Builtin.min_, Builtin.min2]
  omega
theorem max_a (x : Int) (w : World) : (Builtin.max_ #[3, 3] 3 #[.int .i64 0, .int .i64 (min x 32)]).run Try.prog w = .ok (.int .i64 (kept x : Int)) w := by
  simp [Builtin.max_, Builtin.max2]
  unfold kept
  omega


theorem w_one {w w' : World} {p : Nat} (k : Nat) (h : At w w' p (d1 k)) (hk : k < 16) : Calls Try.prog 11 #[.pointer (some ⟨p, 0, none⟩), .int .i64 (k : Int), .string (lt 97 k)] w' fun e w'' => e = .returned (.int .i64 0) ∧ At w w'' p (d1 (k + 1)) := by
  have := h.write k hk (lt 97 k) (lt_size 97 k) (by unfold d1; rw [qa_len]; omega)
  rw [show (d1 k).on = true from rfl, if_pos rfl, show (d1 k).write k (lt 97 k).data.toList = d1 (k + 1) from d1_next k] at this
  exact this
theorem w_flush {w w' : World} {p : Nat} (n : Nat) (bt : Nat → Bool) (h : At w w' p (d1 n)) (hk : n ≤ 16) : Calls Try.prog 15 #[.pointer (some ⟨p, 0, none⟩)] w' fun e w'' => e = .returned (.int .i64 0) ∧ At w w'' p (d2 n bt 0) := by
  have := h.flush (by unfold d1; rw [qa_len]; omega)
  rw [show (d1 n).on = true from rfl, if_pos rfl, d2_start n bt] at this
  exact this
theorem w_two {w w' : World} {p : Nat} (n : Nat) (bt : Nat → Bool) (k : Nat) (hb : bt k = true) (h : At w w' p (d2 n bt k)) (hk : k < 16) : Calls Try.prog 11 #[.pointer (some ⟨p, 0, none⟩), .int .i64 (k : Int), .string (lt 65 k)] w' fun e w'' => e = .returned (.int .i64 0) ∧ At w w'' p (d2 n bt (k + 1)) := by
  have := h.write k hk (lt 65 k) (lt_size 65 k) (Nat.lt_of_le_of_lt (wb_len bt k) (by omega))
  rw [show (d2 n bt k).on = true from rfl, if_pos rfl, show (d2 n bt k).write k (lt 65 k).data.toList = d2 n bt (k + 1) from d2_next n bt k hb] at this
  exact this
theorem w_read {w w' : World} {p : Nat} (n : Nat) (bt : Nat → Bool) (ks : List Int) (hn : n ≤ 16) (h : At w w' p (d3 n bt ks)) (i : Nat) (hi : i < 16) :
    Calls Try.prog 13 #[.pointer (some ⟨p, 0, none⟩), .int .i64 (i : Int)] w' fun e w'' => e = .returned (.tuple #[.string ((lt 65 i).extract 0 (kk bt ks i) ++ (was n i).extract (kk bt ks i) 32), .int .i64 0]) ∧ w'' = w' := by
  have := h.read i hi
  rw [show (d3 n bt ks).off = false from rfl, if_neg (by simp), last_d3 n bt ks i hi hn] at this
  exact this
theorem w_crash {w w' : World} {p : Nat} (n : Nat) (bt : Nat → Bool) (ks : List Int) (h : At w w' p (d2 n bt 16)) (u : Value) (hu : Ints w u ks) (hk : ks.length ≤ 9223372036854775807) :
    Calls Try.prog 19 #[.pointer (some ⟨p, 0, none⟩), u] w' fun e w'' => e = .returned (.int .i64 0) ∧ At w w'' p (d3 n bt ks) := h.crash (Nat.le_trans (wb_len bt 16) (by omega)) u ks hu hk
end Go.Proofs.Ytlkkeabenklefaa
