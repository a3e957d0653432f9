/- value: a row's bytes. -/
import Derived.Test.YtaoboleifdgonaaVal
import Derived.Test.YtaoboleifdgonaaMay
import Derived.Laws.IdiomStrings
namespace Go.Proofs.Ytaoboleifdgonaa
open Go.ChangeShapes Go.WideShapes Go.RowKit
set_option linter.unusedVariables false
set_option maxRecDepth 100000
set_option maxRecDepth 100000

/-- A value: a kind, a number and a text. -/
structure V where
  k : Int
  n : Int
  s : ByteArray
abbrev V.val (x : V) : Value := vv x.k x.n x.s
def V.may (x : V) : Prop := mayV x.k x.n x.s
instance (x : V) : Decidable x.may := by unfold V.may; infer_instance
def V.bytes (x : V) : List UInt8 := valB x.k x.n x.s
/-- A row in memory. -/
def Row (w : World) (v : Value) (r : List V) : Prop := (∃ a c, v = .slice a 0 c ∧ r = []) ∨ ∃ b o c, v = .slice (some ⟨b, o, none⟩) r.length c ∧ ∀ i (hi : i < r.length), At w b (o + i * 3) r[i].k r[i].n r[i].s
theorem Row.form {w : World} {v : Value} {r : List V} (h : Row w v r) : ∃ a c, v = .slice a r.length c := by
  rcases h with ⟨a, c, rfl, rfl⟩ | ⟨b, o, c, rfl, _⟩
  · exact ⟨a, c, rfl⟩
  · exact ⟨_, c, rfl⟩
theorem Row.at {w : World} {a : Option Addr} {c : Nat} {r : List V} (h : Row w (.slice a r.length c) r) (i : Nat) (hi : i < r.length) : ∃ b o, a = some ⟨b, o, none⟩ ∧ At w b (o + i * 3) r[i].k r[i].n r[i].s := by
  rcases h with ⟨_, _, _, rfl⟩ | ⟨b, o, _, e, h⟩
  · exact absurd hi (Nat.not_lt_zero i)
  · cases e; exact ⟨b, o, rfl, h i hi⟩
theorem Row.below {B : Nat} {w w' : World} {v : Value} {r : List V} (h : Row w v r) (hb : Below B w w') (hB : ∀ b o n c, v = .slice (some ⟨b, o, none⟩) n c → 0 < r.length → b < B) : Row w' v r := by
  rcases h with h | ⟨b, o, c, rfl, h⟩
  · exact .inl h
  · exact .inr ⟨b, o, c, rfl, fun i hi => (h i hi).below hb (hB b o _ c rfl (by omega))⟩
theorem Row.next {w w' : World} {v : Value} {r : List V} (h : Row w v r) (hb : Below w.heap.size w w') : Row w' v r := by
  rcases h with h | ⟨b, o, c, rfl, h⟩
  · exact .inl h
  · exact .inr ⟨b, o, c, rfl, fun i hi => (h i hi).next hb⟩

/-- The bytes of rows. -/
def valsB (r : List V) : List UInt8 := r.flatMap V.bytes
def rowB (r : List V) : List UInt8 := lowB (r.length : Int) :: valsB r
theorem valsB_snoc (r : List V) (x : V) : valsB (r ++ [x]) = valsB r ++ x.bytes := by simp [valsB]
def fits (r : List V) : Prop := ∀ x, x ∈ r → x.may
instance (r : List V) : Decidable (fits r) := by unfold fits; infer_instance
theorem bytes_len (x : V) (h : x.may) : x.bytes.length ≤ 66 := by
  obtain ⟨k, n, s⟩ := x
  unfold V.bytes valB tailB
  rcases h with ⟨rfl, _⟩ | ⟨rfl, _⟩ | ⟨rfl, _, h⟩ | ⟨rfl, _⟩
  · show (_ :: []).length ≤ 66
    simp
  · show (_ :: bytesOf _ 8).length ≤ 66
    rw [List.length_cons, bytesOf_len]
    omega
  · show (_ :: _ :: s.data.toList).length ≤ 66
    have : s.data.toList.length = s.size := by simp
    have h' : s.size ≤ 64 := h
    simp only [List.length_cons]
    omega
  · show (_ :: [_]).length ≤ 66
    simp
theorem vals_len (r : List V) (h : fits r) : (valsB r).length ≤ 66 * r.length := by
  induction r with
  | nil => exact Nat.le_refl _
  | cons x r ih =>
    have h1 := bytes_len x (h x (by simp))
    have h2 := ih (fun y hy => h y (by simp [hy]))
    have e : valsB (x :: r) = x.bytes ++ valsB r := rfl
    rw [e, List.length_append, List.length_cons]
    omega
theorem own_str {w : World} {B : Nat} {v : Value} {l : List UInt8} (h : Own w B v l) (h0 : l ≠ []) : ∃ g m c, v = .slice (some ⟨g, 0, none⟩) m c ∧ (convert 68 9 (.slice (some ⟨g, 0, none⟩) m c)).run Try.prog w = .ok (.string ⟨l.toArray⟩) w := by
  obtain ⟨g, c, rfl⟩ : ∃ g c, v = .slice (some ⟨g, 0, none⟩) l.length c := by
    rcases h.2 with ⟨_, e⟩ | ⟨g, cap, cur, rfl, _⟩
    · exact absurd (List.eq_nil_of_length_eq_zero e) h0
    · exact ⟨g, cap, rfl⟩
  refine ⟨g, _, c, rfl, run_convert_bytes_back w 68 9 5 ⟨g, 0, none⟩ c l Try.underlying68 Try.underlying5 Try.underlying9 (fun j hj => ?_)⟩
  rw [Go.WideShapes.add_plain, Nat.zero_add, World.ownsRow.cellAt h j (by omega)]
  simp [bv, hj]
theorem Own.next {w w' : World} {B : Nat} {v : Value} {l : List UInt8} (h : Own w B v l) (k : Below w.heap.size w w') : Own w' B v l := by
  refine ⟨h.1, ?_⟩
  rcases h.2 with q | ⟨g, cap, cur, e, hg, hh, q⟩
  · exact .inl q
  · exact .inr ⟨g, cap, cur, e, hg, (k.block g (Array.getElem?_eq_some_iff.1 hh).1).trans hh, q⟩
theorem own_new (w : World) (x : UInt8) {y : Int} (hy : (x.toNat : Int) = y) : Own (w.alloc (.cells #[.int .u8 y] 5)) w.heap.size (.slice (some ⟨w.heap.size, 0, none⟩) 1 1) [x] := by
  subst hy
  exact ⟨rfl, .inr ⟨w.heap.size, 1, #[.int .u8 (x.toNat : Int)], rfl, Nat.le_refl _, heap_alloc_new w _, Nat.le_refl _, by decide, rfl, rfl⟩⟩
theorem lowB_small (n : Nat) (h : n ≤ 255) : ((lowB (n : Int)).toNat : Int) = (n : Int) := by
  rw [lowB_is]
  omega
theorem fits_snoc {r : List V} {k : Nat} (hk : k < r.length) : fits (r.take (k + 1)) ↔ fits (r.take k) ∧ r[k].may := by
  rw [List.take_succ_eq_append_getElem hk]
  constructor
  · intro h
    exact ⟨fun x hx => h x (List.mem_append.2 (.inl hx)), h _ (List.mem_append.2 (.inr (List.mem_singleton.2 rfl)))⟩
  · rintro ⟨h1, h2⟩ x hx
    rcases List.mem_append.1 hx with q | q
    · exact h1 x q
    · obtain rfl := List.mem_singleton.1 q
      exact h2
theorem not_fits {r : List V} {k : Nat} (hk : k < r.length) (h : ¬ r[k].may) : ¬ fits r := fun q => h (q _ (List.getElem_mem hk))

/-- What Put answers. -/
def putR (r : List V) : Value := if r.length ≤ 255 ∧ fits r then .tuple #[.string ⟨(rowB r).toArray⟩, .int .i64 0] else .tuple #[.string ⟨#[]⟩, .int .i64 1]
theorem put_long (a : Option Addr) (c n : Nat) (r : List V) (hn : r.length = n) (w : World) (hl : ¬ n ≤ 255) :
    Calls Try.prog 31 #[.slice a n c] w fun e w' => e = .returned (putR r) ∧ Below w.heap.size w w' := by
  have hli : 255 < (n : Int) := by omega
  have HP : Hid (putR r = .tuple #[.string ⟨#[]⟩, .int .i64 1]) := by show putR r = _; unfold putR; rw [if_neg (fun q => hl (hn ▸ q.1))]
  go_enter Try.func31, Try.ntmps31
  go_wp2_with fail
  go_ret2
  exact ⟨by rw [HP.out]; rfl, Below.refl _ _⟩
set_option maxHeartbeats 1000000 in
theorem put_is (a : Option Addr) (c n : Nat) (r : List V) (hn : r.length = n) (w : World) (h : Row w (.slice a r.length c) r) (hs : ∀ x, x ∈ r → x.s.size ≤ 9223372036854775807) (hl : n ≤ 255) :
    Calls Try.prog 31 #[.slice a n c] w fun e w' => e = .returned (putR r) ∧ Below w.heap.size w w' := by
  have hli : ¬ 255 < (n : Int) := by omega
  have HR : Hid (Row w (.slice a r.length c) r) := h
  have HN := (show Hid _ from hn)
  have HS := (show Hid _ from hs)
  have HO : Hid (Own (w.alloc (.cells #[.int .u8 (n : Int)] 5)) w.heap.size (.slice (some ⟨w.heap.size, 0, none⟩) 1 1) [lowB (r.length : Int)]) := by
    show Own _ _ _ _
    rw [hn]
    exact own_new w _ (lowB_small n hl)
  clear h hn hs
  go_enter Try.func31, Try.ntmps31
  go_wp2_with fail
  go_loopw [4, 16] (fun l i wr => ∃ k : Nat, k ≤ n ∧ i = .int .i64 k ∧ Hid (Own wr w.heap.size l (lowB (r.length : Int) :: valsB (r.take k)) ∧ Below w.heap.size w wr ∧ fits (r.take k)))
    (fun _ i _ => n - (intOf i).toNat)
  case atStart => exact ⟨0, Nat.zero_le _, rfl, HO.out, below1 _ _, fun x hx => by simp at hx⟩
  case round =>
    obtain ⟨k, hk, rfl, HI⟩ := hrel
    by_cases hlt : k < n
    · have hlti : (k : Int) < (n : Int) := by omega
      have hkl : k < r.length := by have := HN.out; omega
      obtain ⟨b, o, rfl, A0⟩ := HR.out.at k hkl
      have A1 := A0.below HI.out.2.1 A0.lt
      obtain ⟨c0, c1, c2⟩ := A1
      have HT : Hid (valsB (r.take (k + 1)) = valsB (r.take k) ++ r[k].bytes) := by show valsB _ = _; rw [List.take_succ_eq_append_getElem hkl, valsB_snoc]
      have HF := (show Hid _ from fits_snoc hkl)
      have HNF := (show Hid _ from @not_fits r k hkl)
      have hsz := HS.out r[k] (List.getElem_mem hkl)
      have HM := (show Hid _ from may_is r[k].k r[k].n r[k].s hsz)
      have HB : Hid (r[k].bytes = valB r[k].k r[k].n r[k].s) := rfl
      have HMV : Hid (r[k].may = mayV r[k].k r[k].n r[k].s) := rfl
      generalize r[k] = x at *
      obtain ⟨xk, xn, xs⟩ := x
      clear A0
      have hwr : w.heap.size ≤ wr.heap.size := HI.out.2.1.size
      by_cases hm : mayV xk xn xs
      · have HM' : Hid (∀ w, Calls Try.prog 53 #[vv xk xn xs] w fun e w' => e = .returned (.bool true) ∧ Below w.heap.size w w') := by
          have := HM.out
          simp only [decide_eq_true hm] at this
          exact this
        clear HM
        go_wp2_with fail
        refine Calls.mono (HM'.out _) ?_; rintro e w1 ⟨rfl, k1⟩
        obtain ⟨d0, d1, d2⟩ := (At.new wr xk xn xs).next k1
        have K1 : Below wr.heap.size wr w1 := Below.next (below1 _ _) k1
        have O1 : Own w1 w.heap.size u4 (lowB (r.length : Int) :: valsB (r.take k)) := HI.out.1.next K1
        have B1 : Below w.heap.size w w1 := HI.out.2.1.trans (K1.mono hwr)
        have hxs : xs.size ≤ 100000 := by rcases hm with q | q | q | q <;> omega
        have hln : (lowB (r.length : Int) :: valsB (r.take k)).length ≤ 90000 := by
          have q := vals_len (r.take k) HI.out.2.2
          have e : (r.take k).length = k := by rw [List.length_take]; omega
          rw [List.length_cons]
          omega
        have HV : Hid _ := appendValue_is O1 xk xn xs hxs hln B1.size
        have HB1 : Hid (Below w.heap.size w w1) := B1
        clear k1 K1 O1 B1 hxs hln HM'
        go_wp2_with fail
        refine Calls.mono HV.out ?_; rintro e w2 ⟨v2, rfl, o2, b2⟩
        have HE : Hid (Own w2 w.heap.size v2 (lowB (r.length : Int) :: valsB (r.take (k + 1))) ∧ Below w.heap.size w w2 ∧ fits (r.take (k + 1))) := ⟨by rw [HT.out, HB.out]; exact o2, HB1.out.trans b2, HF.out.2 ⟨HI.out.2.2, hm⟩⟩
        clear o2 b2 HV d0 d1 d2 c0 c1 c2
        go_wp2_with fail
        go_roundw
        case rel => exact ⟨k + 1, by omega, by go_num, HE.out⟩
        case measure => simp [intOf]; omega
      · have HM' : Hid (∀ w, Calls Try.prog 53 #[vv xk xn xs] w fun e w' => e = .returned (.bool false) ∧ Below w.heap.size w w') := by
          have := HM.out
          simp only [decide_eq_false hm] at this
          exact this
        clear HM
        go_wp2_with fail
        refine Calls.mono (HM'.out _) ?_; rintro e w1 ⟨rfl, k1⟩
        have HB1 : Hid (Below w.heap.size w w1) := HI.out.2.1.trans ((Below.next (below1 _ _) k1).mono hwr)
        clear k1
        go_wp2_with fail
        go_ret2
        have HP : Hid (putR r = .tuple #[.string ⟨#[]⟩, .int .i64 1]) := by show putR r = _; unfold putR; rw [if_neg (fun q => HNF.out hm q.2)]
        exact ⟨by rw [HP.out]; rfl, HB1.out⟩
    · have hlti : ¬ (k : Int) < (n : Int) := by omega
      obtain rfl : k = n := by omega
      have hall : r.take k = r := List.take_of_length_le (by have := HN.out; omega)
      have HII : Hid (Own wr w.heap.size u4 (rowB r) ∧ Below w.heap.size w wr ∧ fits r) := by have := HI.out; rw [hall] at this; exact this
      obtain ⟨g, m, cc, rfl, hcv⟩ := own_str HII.out.1 (by simp [rowB])
      clear HI hall
      go_wp2_with fail
      go_ret2
      have HP : Hid (putR r = .tuple #[.string ⟨(rowB r).toArray⟩, .int .i64 0]) := by show putR r = _; unfold putR; rw [if_pos ⟨by have := HN.out; omega, HII.out.2.2⟩]
      exact ⟨by rw [HP.out]; rfl, HII.out.2.1⟩
end Go.Proofs.Ytaoboleifdgonaa
