/- Tokens as text, and back. -/
import Derived.Test.YtgokilochbnbaaaDoorSm
namespace Go.Proofs.YtgokilochbnbaaaDoor
open Go.ChangeShapes Go.WideShapes Go.ChangeAt Go.RowKit
set_option linter.unusedVariables false
set_option maxRecDepth 100000

/-- Tokens as text, something between two. -/
def catL (b : List UInt8) (r : List (TK × Nat)) : List UInt8 := r.flatMap (fun x => putC (corep x) ++ b)
theorem catL_snoc (b : List UInt8) (r : List (TK × Nat)) (x : TK × Nat) : catL b (r ++ [x]) = catL b r ++ (putC (corep x) ++ b) := by simp [catL]
theorem catL_len (b : List UInt8) (r : List (TK × Nat)) (h : ∀ x ∈ r, (putC (corep x)).length ≤ 300) (hb : b.length ≤ 100) : (catL b r).length ≤ 400 * r.length := by
  induction r with
  | nil => simp [catL]
  | cons x r ih =>
    have h1 := ih (fun y hy => h y (by simp [hy]))
    have h2 := h x (by simp)
    show ((putC (corep x) ++ b) ++ catL b r).length ≤ _
    rw [List.length_append, List.length_append, List.length_cons]
    omega
/-- What is asked of tokens that are put. -/
def Fine (r : List (TK × Nat)) : Prop := ∀ x ∈ r, x.1.t.length ≤ 64 ∧ -9223372036854775808 ≤ x.1.n ∧ x.1.n ≤ 9223372036854775807 ∧ (putC (corep x)).length ≤ 300
theorem take_snocT (r : List (TK × Nat)) (j : Nat) (h : j < r.length) : r.take (j + 1) = r.take j ++ [r[j]] := List.take_succ_eq_append_getElem h
set_option maxHeartbeats 800000 in
theorem put_all (n : Nat) (r : List (TK × Nat)) (hn : r.length = n) (hm : n ≤ 1000) (hF : Fine r) (b : ByteArray) (hb : b.size ≤ 100) (g c : Nat) (w : World) (hg : Glob w) (hc : ∀ j u, (r.flatMap rt)[j]? = some u → w.cell? ⟨g, j, none⟩ = some u) :
    Calls Tryd.prog 18 #[.slice (some ⟨g, 0, none⟩) n c, .string b] w fun e w' => e = .returned (.string ⟨(catL b.data.toList r).toArray⟩) ∧ Below w.heap.size w w' := by
  have H1 : Hid (∀ j u, (r.flatMap rt)[j]? = some u → w.cell? ⟨g, j, none⟩ = some u) := hc
  have HG : Hid (Glob w) := hg
  have HN : Hid (r.length = n) := hn
  have HF : Hid (Fine r) := hF
  clear hc hg hn hF
  go_enter Tryd.func18, Tryd.ntmps18
  go_wp2
  go_loopw [5, 6] (fun v i wr => ∃ (j : Nat), j ≤ n ∧ i = .int .i64 (j : Int) ∧ v = .string ⟨(catL b.data.toList (r.take j)).toArray⟩ ∧ Hid (Below w.heap.size w wr)) (fun _ i _ => n - (intOf i).toNat)
  case atStart => exact ⟨0, Nat.zero_le _, rfl, rfl, Below.refl _ _⟩
  case round =>
    obtain ⟨j, hj, rfl, rfl, HB⟩ := hrel
    by_cases hlt : j < n
    · have hlti : (j : Int) < (n : Int) := by omega
      have hr : j < r.length := by have := HN.out; omega
      obtain ⟨c0, c1, c2, c3⟩ := rt_get r j hr (w := wr) (g := g) (fun k u hu => (HB.out.cell (p := ⟨g, k, none⟩) (World.block_lt_of_cell? w _ (H1.out k u hu))).trans (H1.out k u hu))
      obtain ⟨f1, f2, f3, f4⟩ := HF.out r[j] (List.getElem_mem hr)
      have hcl := catL_len b.data.toList (r.take j) (fun x hx => (HF.out x (List.mem_of_mem_take hx)).2.2.2) (by rw [len_of]; exact hb)
      rw [List.length_take] at hcl
      have hp := put_is ⟨r[j].1.t.toArray⟩ (by rw [size_ba]; omega) r[j].1.k r[j].1.n (r[j].2 : Int) ⟨f2, f3⟩ wr (HG.out.next HB.out)
      have HP : Hid (Calls Tryd.prog 12 #[tv r[j].1.k ⟨r[j].1.t.toArray⟩ r[j].1.n (r[j].2 : Int)] wr fun e w' => e = .returned (.string ⟨(putC (corep r[j])).toArray⟩) ∧ Below wr.heap.size wr w') := hp
      have HS : Hid ((⟨(catL b.data.toList (r.take j)).toArray⟩ ++ ⟨(putC (corep r[j])).toArray⟩ ++ b : ByteArray) = ⟨(catL b.data.toList (r.take (j + 1))).toArray⟩) := by
        show _ = _
        rw [take_snocT r j hr, catL_snoc]
        exact ba_ext (by simp [ByteArray.data_append])
      have s1 := size_ba (catL b.data.toList (r.take j))
      have s2 := size_ba (putC (corep r[j]))
      obtain ⟨A, hA⟩ : ∃ A : ByteArray, A = ⟨(catL b.data.toList (r.take j)).toArray⟩ := ⟨_, rfl⟩
      obtain ⟨P, hP⟩ : ∃ P : ByteArray, P = ⟨(putC (corep r[j])).toArray⟩ := ⟨_, rfl⟩
      rw [← hA] at HS s1 ⊢
      rw [← hP] at HP HS s2
      have hAs : A.size ≤ 400000 := by rw [s1]; omega
      have hPs : P.size ≤ 300 := by rw [s2]; exact f4
      generalize r[j] = x at *
      obtain ⟨⟨xk, xt, xn, xz⟩, xa⟩ := x
      simp only at c0 c1 c2 c3 HP
      clear hA hP hp f1 f2 f3 f4 hcl s1 s2
      go_wp2_with fail
      refine Calls.mono HP.out ?_; rintro e w1 ⟨rfl, k1⟩
      have HB2 : Hid (Below w.heap.size w w1) := Below.next HB.out k1
      clear k1 c0 c1 c2 c3
      go_wp2_with fail
      go_roundw
      case rel => exact ⟨j + 1, by omega, by go_num, by rw [← HS.out], HB2⟩
      case measure => simp [intOf]; omega
    · have hlti : ¬ (j : Int) < (n : Int) := by omega
      have HE : Hid (r.take j = r) := List.take_of_length_le (by have := HN.out; omega)
      rw [HE.out]
      go_wp2_with fail
      go_ret
      exact ⟨rfl, HB.out⟩
theorem good_fine {x : TK × Nat} (h : Good (corep x)) : x.1.t.length ≤ 64 ∧ -9223372036854775808 ≤ x.1.n ∧ x.1.n ≤ 9223372036854775807 ∧ (putC (corep x)).length ≤ 300 := by
  obtain ⟨⟨k, t, n, z⟩, a⟩ := x
  have hh : Good (k, t, n) := h
  show t.length ≤ 64 ∧ -9223372036854775808 ≤ n ∧ n ≤ 9223372036854775807 ∧ (putC (k, t, n)).length ≤ 300
  clear h
  cases hh with
  | name _ h0 h1 =>
    refine ⟨h1, by omega, by omega, ?_⟩
    show (putV 1 t 0).length ≤ 300
    unfold putV
    rw [if_pos rfl]
    split
    · omega
    · have := (dupL_len 34 t).2
      simp; omega
  | key _ h0 =>
    obtain ⟨_, _, _, h3, _, _⟩ := keys_ok t (keyB_mem h0)
    exact ⟨h3, by omega, by omega, by show t.length ≤ 300; omega⟩
  | int _ h0 h1 =>
    refine ⟨by simp, by omega, h1, ?_⟩
    show (Num.txt n).length ≤ 300
    unfold Num.txt
    rw [if_neg (by omega)]
    have := Num.len_dg n.natAbs 19 (by omega) (by omega)
    omega
  | text _ h0 =>
    refine ⟨h0, by omega, by omega, ?_⟩
    show (putV 4 t 0).length ≤ 300
    have e : putV 4 t 0 = 39 :: (dupL 39 t ++ [39]) := by
      show (if t.length ≤ 64 then 39 :: (dupL 39 t ++ [39]) else _) = _
      rw [if_pos h0]
    rw [e]
    have := (dupL_len 39 t).2
    simp; omega
  | sign _ h0 =>
    have : ∀ t ∈ signsL, t.length ≤ 2 := by decide
    have := this t h0
    exact ⟨by omega, by omega, by omega, by show t.length ≤ 300; omega⟩
theorem fine_end (a : Nat) : (endT, a).1.t.length ≤ 64 ∧ -9223372036854775808 ≤ (endT, a).1.n ∧ (endT, a).1.n ≤ 9223372036854775807 ∧ (putC (corep (endT, a))).length ≤ 300 := by
  refine ⟨by simp [endT], by simp [endT], by simp [endT], ?_⟩
  have : putC (corep (endT, a)) = [] := rfl
  rw [this]; simp
/-- What is known of the tokens of a text that has them. -/
structure HasT (l : List UInt8) (ts : List (TK × Nat)) : Prop where
  eq : tokV l = (ts ++ [(endT, l.length)], 0, 0)
  good : ∀ x ∈ ts, Good (corep x)
  len : ts.length ≤ l.length
theorem tokV_cases (l : List UInt8) : (∃ ts, HasT l ts) ∨ ((tokV l).1 = [] ∧ (tokV l).2.2 ≠ 0) := by
  unfold tokV
  by_cases h : 4096 < l.length
  · right; rw [if_pos h]; exact ⟨rfl, by simp⟩
  · cases hx : (lexF l.length l 0).2 with
    | none =>
      left
      refine ⟨(lexF l.length l 0).1, ?_, good_lex _ _ _, lexF_len _ _ _ (Nat.le_refl _)⟩
      unfold tokV
      rw [if_neg h, hx]
    | some p => right; rw [if_neg h]; exact ⟨rfl, by simp⟩
theorem HasT.fine {l : List UInt8} {ts : List (TK × Nat)} (h : HasT l ts) (a : Nat) : Fine (ts ++ [(endT, a)]) := fun x hx => by
  rcases List.mem_append.1 hx with hx | hx
  · exact good_fine (h.good x hx)
  · obtain rfl : x = (endT, a) := by simpa using hx
    exact fine_end a
theorem catL_back {ts : List (TK × Nat)} (sep : List UInt8) (a : Nat) : catL (32 :: sep) (ts ++ [(endT, a)]) = (ts.map corep).flatMap (fun x => putC x ++ 32 :: sep) ++ 32 :: sep := by
  rw [catL_snoc]
  have : putC (corep (endT, a)) = [] := rfl
  rw [this, List.nil_append]
  congr 1
  simp [catL, List.flatMap_map]
/-- Tokens that are put, something between two, are the same tokens. -/
theorem again {l : List UInt8} {ts : List (TK × Nat)} (h : HasT l ts) {sep : List UInt8} (hs : Sep sep) (hl : (catL (32 :: sep) (ts ++ [(endT, l.length)])).length ≤ 4096) :
    ∃ us, HasT (catL (32 :: sep) (ts ++ [(endT, l.length)])) us ∧ sameB (ts ++ [(endT, l.length)]) (us ++ [(endT, (catL (32 :: sep) (ts ++ [(endT, l.length)])).length)]) = true := by
  have hb := toks_back hs (ts.map corep) (fun x hx => by
    obtain ⟨y, hy, rfl⟩ := List.mem_map.1 hx
    exact h.good y hy)
  rw [← catL_back sep l.length] at hb
  generalize catL (32 :: sep) (ts ++ [(endT, l.length)]) = L at *
  obtain ⟨h1, h2⟩ := hb.lex L.length 0 (Nat.le_refl _)
  refine ⟨(lexF L.length L 0).1, ⟨?_, good_lex _ _ _, lexF_len _ _ _ (Nat.le_refl _)⟩, ?_⟩
  · unfold tokV
    rw [if_neg (by omega), h1]
  · unfold sameB
    rw [decide_eq_true_eq, List.map_append, List.map_append, h2]
    rfl
theorem too_long {l : List UInt8} (h : 4096 < l.length) : tokV l = ([], 0, 2) := by unfold tokV; rw [if_pos h]
end Go.Proofs.YtgokilochbnbaaaDoor
