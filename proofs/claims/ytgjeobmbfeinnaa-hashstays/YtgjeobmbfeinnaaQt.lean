/- Rows of indexes, and of pairs; an index stays where one is appended to. -/
import Derived.Test.YtgjeobmbfeinnaaAc
namespace Go.Proofs.Ytgjeobmbfeinnaa
open Go.ChangeShapes Go.WideShapes Go.RowKit
set_option linter.unusedVariables false
set_option maxRecDepth 100000

structure RowP (φ : Nat → Value → Prop) (w : World) (e size : Nat) (v : Value) (n : Nat) (xs : List Value) (g : Nat) : Prop where
  ex : ∃ cap cur, v = .slice (some ⟨g, 0, none⟩) n cap ∧ w.heap[g]? = some (.cells cur e (0, 0)) ∧ n ≤ cap ∧ cap ≤ maxLen ∧ cur.size = cap * size ∧ cur.toList.take (n * size) = xs ∧ xs.length = n * size ∧ ∀ i u, cur[i]? = some u → φ (i % size) u
theorem RowP.lt {φ : Nat → Value → Prop} {w : World} {e size : Nat} {v : Value} {n : Nat} {xs : List Value} {g : Nat} (h : RowP φ w e size v n xs g) : g < w.heap.size := by
  obtain ⟨cap, cur, _, hg, _⟩ := h.ex
  exact (Array.getElem?_eq_some_iff.1 hg).1
theorem RowP.far {φ : Nat → Value → Prop} {w w' : World} {e size : Nat} {v : Value} {n : Nat} {xs : List Value} {g : Nat} (h : RowP φ w e size v n xs g) (hb : w'.heap[g]? = w.heap[g]?) : RowP φ w' e size v n xs g := by
  obtain ⟨cap, cur, h1, h2, h3⟩ := h.ex
  exact ⟨cap, cur, h1, hb.trans h2, h3⟩
theorem RowP.next {φ : Nat → Value → Prop} {w w' : World} {e size : Nat} {v : Value} {n : Nat} {xs : List Value} {g : Nat} (h : RowP φ w e size v n xs g) (b : Below w.heap.size w w') : RowP φ w' e size v n xs g := h.far (b.block g h.lt)
theorem RowP.cell {φ : Nat → Value → Prop} {w : World} {e size : Nat} {v : Value} {n : Nat} {xs : List Value} {g : Nat} (h : RowP φ w e size v n xs g) {i : Nat} {u : Value} (hu : xs[i]? = some u) : w.cell? ⟨g, i, none⟩ = some u := by
  obtain ⟨cap, cur, h1, h2, h3, h4, h5, h6, h7, h8⟩ := h.ex
  rw [← h6, List.getElem?_take] at hu
  split at hu
  · simp only [World.cell?, h2]; simpa using hu
  · cases hu
theorem RowP.pat {φ : Nat → Value → Prop} {w : World} {e size : Nat} {v : Value} {n : Nat} {xs : List Value} {g : Nat} (h : RowP φ w e size v n xs g) {i : Nat} {u : Value} (hu : w.cell? ⟨g, i, none⟩ = some u) : φ (i % size) u := by
  obtain ⟨cap, cur, h1, h2, h3, h4, h5, h6, h7, h8⟩ := h.ex
  simp only [World.cell?, h2] at hu
  exact h8 i u (by simpa using hu)
theorem mod_in {n s i : Nat} (h1 : n * s ≤ i) (h2 : i < n * s + s) : i % s = i - n * s := by
  obtain ⟨r, rfl⟩ := Nat.exists_eq_add_of_le h1
  rw [Nat.mul_comm n s, Nat.mul_add_mod, Nat.add_sub_cancel_left, Nat.mod_eq_of_lt (by omega)]
theorem RowP.push {φ : Nat → Value → Prop} {w : World} {t ty e size bytes : Nat} {v : Value} {n : Nat} {xs : List Value} {g : Nat} {inf : TypeInfo} {z : Value} (h : RowP φ w e size v n xs g) (ht : Try.prog.underlying t = some (.slice e)) (hi : Try.prog.info? e = some inf) (hz : inf.zero = some z) (hsize : inf.size = size) (hby : inf.bytes = bytes) (hzs : z.cells.size = size) (hs0 : 0 < size)
    (a : Addr) (c : Nat) (news : List Value) (hl : news.length = size) (hnews : ∀ j u, news[j]? = some u → w.cell? (a.add j) = some u) (h1 : ∀ u ∈ news, u.oneCell' = true) (hp : ∀ j u, news[j]? = some u → φ j u) (hpz : ∀ j, j < size → φ j z.cells[j]!) (hn : n + 1 ≤ 1000) (hb : bytes ≤ 100) :
    ∃ v' w' g', (Builtin.append_ #[t, t] ty #[v, .slice (some a) 1 c]).run Try.prog w = .ok v' w' ∧ RowP φ w' e size v' (n + 1) (xs ++ news) g' ∧ w.grownBy w' (some g) ∧ (g' = g ∨ g' = w.heap.size) ∧ (∀ i u, xs[i]? = some u → w'.cell? ⟨g, i, none⟩ = some u) ∧ Tg w' g e := by
  obtain ⟨cap, cur, rfl, h2, h3, h4, h5, h6, h7, h8⟩ := h.ex
  subst hsize
  subst hby
  have hl' : news.length = 1 * inf.size := by omega
  have hlen : (xs ++ news).length = (n + 1) * inf.size := by rw [List.length_append, h7, hl, Nat.add_mul]; omega
  have hxs : ∀ i u, xs[i]? = some u → φ (i % inf.size) u := fun i u hu => by
    rw [← h6, List.getElem?_take] at hu
    split at hu
    · exact h8 i u (by simpa using hu)
    · cases hu
  have hmid : ∀ i u, n * inf.size ≤ i → news[i - n * inf.size]? = some u → φ (i % inf.size) u := fun i u hle hu => by
    have hlt := (List.getElem?_eq_some_iff.1 hu).1
    rw [mod_in hle (by omega)]
    exact hp _ _ hu
  by_cases hroom : n + 1 ≤ cap
  · have hcs : (n + 1) * inf.size ≤ cur.size := by rw [h5]; exact Nat.mul_le_mul_right _ hroom
    have hfit : n * inf.size + news.length ≤ cur.size := by rw [Nat.add_mul] at hcs; omega
    have hr := run_append_room (P := Try.prog) w t ty e inf ht hi g n cap cur h2 a 1 c news hl' hnews h1 hroom hfit
    refine ⟨_, _, g, hr, ⟨cap, _, rfl, setRow_heap w g cur _ e _ h2, hroom, h4, ?_, ?_, hlen, ?_⟩, ⟨rfl, rfl, rfl, by simp, fun k _ hk => setRow_other w g k _ (fun e => hk (by rw [e]))⟩, .inl rfl, ?_, _, _, setRow_heap w g cur _ e _ h2⟩
    · rw [← h5]
      simp only [List.size_toArray, List.length_append, List.length_take, List.length_drop, Array.length_toList]
      omega
    · rw [h6]
      show (xs ++ news ++ _).take _ = _
      rw [← hlen]
      exact List.take_left
    · intro i u hu
      rw [h6] at hu
      rw [List.getElem?_toArray] at hu
      by_cases c1 : i < (xs ++ news).length
      · rw [List.getElem?_append_left c1] at hu
        by_cases c2 : i < xs.length
        · rw [List.getElem?_append_left c2] at hu; exact hxs i u hu
        · rw [List.getElem?_append_right (by omega), h7] at hu
          exact hmid i u (by omega) hu
      · rw [List.getElem?_append_right (by omega), List.getElem?_drop] at hu
        refine h8 i u ?_
        rw [List.length_append, h7] at hu c1
        rw [show n * inf.size + news.length + (i - (n * inf.size + news.length)) = i by omega] at hu
        simpa using hu
    · intro i u hu
      simp only [World.cell?, setRow_heap w g cur _ e _ h2]
      rw [h6, List.append_assoc]
      have := (List.getElem?_eq_some_iff.1 hu).1
      simp only [List.getElem?_toArray, List.getElem?_append_left this]
      simpa using hu
  · have holds : ∀ j u, xs[j]? = some u → w.cell? ((⟨g, 0, none⟩ : Addr).add j) = some u := fun j u hu => by
      rw [Go.WideShapes.add_plain, Nat.zero_add]
      exact h.cell hu
    have h63 : n + 1 ≤ maxLen := by unfold maxLen; omega
    have hr := run_append_grow (P := Try.prog) w t ty e inf z ht hi hz ⟨g, 0, none⟩ n cap xs h7 holds a 1 c news hl' hnews (by omega) (by omega) (growslice_fits (by omega) (by
      have : (n + 1) * inf.bytes ≤ 1000 * 100 := Nat.mul_le_mul hn hb
      omega))
    have hge := grownCap_ge w (n + 1) cap e
    have hcm : grownCap w (n + 1) cap e ≤ maxLen := grownCap_le_maxLen w (n + 1) cap e h63
    refine ⟨_, _, w.heap.size, hr, ⟨_, _, rfl, heap_alloc_new w.drew _, hge, hcm, ?_, ?_, hlen, ?_⟩, ⟨rfl, rfl, rfl, by simp, fun k hk _ => heap_alloc_old w.drew _ hk⟩, .inr rfl, fun i u hu => (World.cell?_of_block (a := ⟨g, i, none⟩) (heap_alloc_old w.drew _ h.lt)).trans (h.cell hu), _, _, (heap_alloc_old w.drew _ h.lt).trans h2⟩
    · simp only [Array.size_append, List.size_toArray, size_zeroCells, hzs, h7, hl]
      rw [← Nat.succ_mul, ← Nat.add_mul]
      congr 1
      omega
    · simp only [Array.toList_append, List.append_assoc]
      rw [← List.append_assoc, ← hlen]
      exact List.take_left
    · intro i u hu
      by_cases c1 : i < (xs.toArray ++ news.toArray).size
      · rw [Array.getElem?_append_left c1] at hu
        by_cases c2 : i < xs.toArray.size
        · rw [Array.getElem?_append_left c2, List.getElem?_toArray] at hu; exact hxs i u hu
        · rw [Array.getElem?_append_right (by omega), List.getElem?_toArray] at hu
          rw [List.size_toArray, h7] at hu c2
          exact hmid i u (by omega) hu
      · rw [Array.getElem?_append_right (by omega)] at hu
        simp only [Array.size_append, List.size_toArray] at hu c1
        rw [← List.length_append, hlen] at hu
        rw [← List.length_append, hlen] at c1
        unfold Builtin.zeroCells at hu
        rw [Array.getElem?_map] at hu
        obtain ⟨q, hq, rfl⟩ := Option.map_eq_some_iff.1 hu
        have hq' : q = i - (n + 1) * inf.size := by
          have := (Array.getElem?_eq_some_iff.1 hq).2
          simp at this
          omega
        have hm : i % inf.size = q % z.cells.size := by
          rw [hzs, hq']
          obtain ⟨r, rfl⟩ := Nat.exists_eq_add_of_le (show (n + 1) * inf.size ≤ i by omega)
          rw [Nat.add_sub_cancel_left, Nat.mul_comm (n + 1), Nat.mul_add_mod]
        rw [hm]
        exact hpz _ (by rw [hzs]; exact Nat.mod_lt _ hs0)
theorem and_byte (n : Int) : bits .and .i64 n 255 = n % 256 := by
  have h : (BitVec.ofInt 64 255).toNat = 2 ^ 8 - 1 := by decide
  have key : (BitVec.ofInt 64 n &&& BitVec.ofInt 64 255).toNat = (n % ((2 ^ 64 : Nat) : Int)).toNat % 2 ^ 8 := by
    rw [BitVec.toNat_and, BitVec.toNat_ofInt, h, Nat.and_two_pow_sub_one_eq_mod]
  show IntKind.i64.wrap ((BitVec.ofInt 64 n &&& BitVec.ofInt 64 255).toNat : Nat) = n % 256
  rw [key, IntKind.wrap_i64]
  omega

theorem flat_get {α : Type} {f : α → List Value} {k : Nat} (hf : ∀ x, (f x).length = k) : ∀ (l : List α) (i : Nat) (x : α), l[i]? = some x → ∀ j u, (f x)[j]? = some u → (l.flatMap f)[i * k + j]? = some u := by
  intro l
  induction l with
  | nil => intro i x hx; simp at hx
  | cons y r ih =>
    intro i x hx j u hu
    have hjj : j < k := by
      have := (List.getElem?_eq_some_iff.1 hu).1
      rwa [hf x] at this
    rw [List.flatMap_cons]
    cases i with
    | zero =>
      have e : y = x := by simpa using hx
      subst e
      rw [Nat.zero_mul, Nat.zero_add, List.getElem?_append_left (by rw [hf]; exact hjj)]
      exact hu
    | succ i =>
      rw [List.getElem?_append_right (by rw [hf, Nat.succ_mul]; omega), hf, show (i + 1) * k + j - k = i * k + j by rw [Nat.succ_mul]; omega]
      exact ih i x (by simpa using hx) j u hu
def inv1 (z : Int) : List Value := [.int .i64 z]
theorem inv1_ne (z : Int) : inv1 z ≠ [] := by simp [inv1]
theorem Rw.int1 {w : World} {a : Option Addr} {l : List Int} (h : Rw inv1 1 w a l) {i : Nat} (hi : i < l.length) : ∃ b o, a = some ⟨b, o, none⟩ ∧ b < w.heap.size ∧ w.cell? ⟨b, o + i * 1, none⟩ = some (.int .i64 l[i]) := by
  have hne : l ≠ [] := fun e => by rw [e] at hi; simp at hi
  obtain ⟨b, o, e, hc⟩ := h hne
  exact ⟨b, o, e, h.lt inv1_ne e hne, hc i _ (List.getElem?_eq_getElem hi) 0 _ rfl⟩
theorem pick_in (z : Int) (n : Nat) (hn : 0 < n) : ∃ i : Nat, i < n ∧ Int.tmod (z % 256) (n : Int) = (i : Int) := by
  have h0 : 0 ≤ z % 256 := Int.emod_nonneg _ (by omega)
  refine ⟨(Int.tmod (z % 256) (n : Int)).toNat, ?_, ?_⟩
  · have := Int.tmod_lt_of_pos (z % 256) (show (0 : Int) < n by omega)
    have := Int.tmod_nonneg (n : Int) h0
    omega
  · have := Int.tmod_nonneg (n : Int) h0
    omega

theorem NT.off27 {w w' : World} {R : Nat} (hT : Tg w R 27) (far : ∀ k, k < w.heap.size → k ≠ R → w'.heap[k]? = w.heap[k]?) {a : Option Addr} (h : NT w a) : NT w' a := fun b o s e => by
  obtain ⟨cur, t, fz, h1, h2⟩ := h b o s e
  exact ⟨cur, t, fz, (far b (Array.getElem?_eq_some_iff.1 h1).1 (fun q => by subst q; exact h2 (Tg.one ⟨cur, fz, h1⟩ hT))).trans h1, h2⟩
theorem NT.ne27 {w : World} {R : Nat} (hT : Tg w R 27) {b o : Nat} {s : _} (h : NT w (some ⟨b, o, s⟩)) : b ≠ R := by
  rintro rfl
  obtain ⟨cur, t, fz, h1, h2⟩ := h _ _ _ rfl
  exact h2 (Tg.one ⟨cur, fz, h1⟩ hT)
theorem NT.off28 {w w' : World} {R : Nat} (hT : Tg w' R 28) (far : ∀ k, k < w.heap.size → k ≠ R → w'.heap[k]? = w.heap[k]?) {a : Option Addr} (h : NT w a) : NT w' a := fun b o s e => by
  obtain ⟨cur, t, fz, h1, h2⟩ := h b o s e
  by_cases q : b = R
  · subst q
    obtain ⟨cur', fz', e'⟩ := hT
    exact ⟨cur', 28, fz', e', by decide⟩
  · exact ⟨cur, t, fz, (far b (Array.getElem?_eq_some_iff.1 h1).1 q).trans h1, h2⟩
theorem Ix.off27 {w w' : World} {p : Option Addr} {F : Val → List Int} {nb M : Nat} (h : Ix w p F nb M) {R : Nat} (hT : Tg w R 27) (hpat : ∀ j u, w.cell? ⟨R, j, none⟩ = some u → (∃ q, u = .pointer q) ∨ ∃ c, u = .int .i64 c) (far : ∀ k, k < w.heap.size → k ≠ R → w'.heap[k]? = w.heap[k]?) : Ix w' p F nb M := by
  rcases h with h | ⟨g, v, ads, us, bs, e, h⟩
  · exact .inl h
  · refine .inr ⟨g, v, ads, us, bs, e, ?_⟩
    have hcell : ∀ {b j : Nat} {u : Value}, b ≠ R → w.cell? ⟨b, j, none⟩ = some u → w'.cell? ⟨b, j, none⟩ = some u := fun {b j u} hb hc => (World.cell?_of_block (a := ⟨b, j, none⟩) (far b (World.block_lt_of_cell? w _ hc) hb)).trans hc
    have hsl : ∀ {b j : Nat} {x : Option Addr} {n c : Nat}, w.cell? ⟨b, j, none⟩ = some (.slice x n c) → b ≠ R := fun {b j x n c} hc e => by
      subst e
      rcases hpat _ _ hc with ⟨_, q⟩ | ⟨_, q⟩ <;> cases q
    have hstr : ∀ {b j : Nat} {x : ByteArray}, w.cell? ⟨b, j, none⟩ = some (.string x) → b ≠ R := fun {b j x} hc e => by
      subst e
      rcases hpat _ _ hc with ⟨_, q⟩ | ⟨_, q⟩ <;> cases q
    have hfl : ∀ {α : Type} {f : α → List Value} {k : Nat} {a : Option Addr} {l : List α}, (∀ x, f x ≠ []) → Rw f k w a l → (∀ b o, a = some ⟨b, o, none⟩ → l ≠ [] → b ≠ R) → Rw f k w' a l := fun {α f k a l} hf hr hb => hr.far (fun b o e hl => far b (hr.lt hf e hl) (hb b o e hl))
    have hbk : ∀ u b, BkAt w u b → BkAt w' u b := fun u b hb => by
      obtain ⟨es, ⟨a, c, e1, e2, e3, e4⟩, ht⟩ := hb
      refine ⟨es, ⟨a, c, e1, hfl ev_ne e2 (fun b' o' e' hl => ?_), e3, e4⟩, ht.mono (fun en x ⟨q1, ⟨a', c', q2, q3, q4, q5⟩, q6⟩ => ⟨q1, ⟨a', c', q2, hfl iv_ne q3 (fun b' o' e' hl => ?_), q4, q5⟩, NT.off27 hT far q6⟩)⟩
      · obtain ⟨b2, o2, e5, hc⟩ := e2 hl
        rw [e5] at e'
        cases e'
        cases es with
        | nil => exact absurd rfl hl
        | cons y r => exact hstr (hc 0 y rfl 2 (.string y.v.s) rfl)
      · have e0 := (Value.slice.inj q2).1
        rw [e'] at e0
        rw [e0] at q6
        exact NT.ne27 hT q6
    have hform : ∀ (q : Nat) u, us[q]? = some u → ∃ x n c, u = .slice x n c := fun q u hu => by
      obtain ⟨es, ⟨a, c, e1, _⟩, _⟩ := h.two.2 q u _ hu (List.getElem?_eq_getElem (by rw [← h.two.1]; exact getD_lt hu))
      exact ⟨a, _, c, e1⟩
    have hlst := h.lst
    obtain ⟨a, c, e1, e2, e3, e4⟩ := hlst
    refine { h with cell := ?_, lst := ⟨a, c, e1, hfl ptv_ne e2 (fun b o e' hl => ?_), e3, e4⟩, blk := ?_, two := h.two.mono hbk, ltag := fun a n c e => NT.off27 hT far (h.ltag a n c e), btag := fun a g hg => (h.btag a g hg).far (far g (h.btag a g hg).lt (fun e => by subst e; exact absurd ((h.btag a _ hg).one hT) (by decide))) }
    · have hc := h.cell
      have hc2 := hc
      rw [e1] at hc2
      exact hcell (hsl hc2) hc
    · have := h.ltag a _ c e1
      rw [e'] at this
      exact NT.ne27 hT this
    · intro a' i g' u h1 h2 h3
      have hc := h.blk a' i g' u h1 h2 h3
      obtain ⟨x, n', c', rfl⟩ := hform _ u h3
      exact hcell (hsl hc) hc
theorem Ix.off28 {w w' : World} {p : Option Addr} {F : Val → List Int} {nb M : Nat} (h : Ix w p F nb M) {R : Nat} (hT : Tg w R 28) (hT' : Tg w' R 28) (hpat : ∀ j u, w.cell? ⟨R, j, none⟩ = some u → ∃ a n c, u = .slice a n c) (h0 : ∀ u, w.cell? ⟨R, 0, none⟩ = some u → w'.cell? ⟨R, 0, none⟩ = some u) (far : ∀ k, k < w.heap.size → k ≠ R → w'.heap[k]? = w.heap[k]?) : Ix w' p F nb M := by
  rcases h with h | ⟨g, v, ads, us, bs, e, h⟩
  · exact .inl h
  · refine .inr ⟨g, v, ads, us, bs, e, ?_⟩
    have hcell : ∀ {b j : Nat} {u : Value}, b ≠ R → w.cell? ⟨b, j, none⟩ = some u → w'.cell? ⟨b, j, none⟩ = some u := fun {b j u} hb hc => (World.cell?_of_block (a := ⟨b, j, none⟩) (far b (World.block_lt_of_cell? w _ hc) hb)).trans hc
    have hstr : ∀ {b j : Nat} {x : ByteArray}, w.cell? ⟨b, j, none⟩ = some (.string x) → b ≠ R := fun {b j x} hc e => by
      subst e
      obtain ⟨_, _, _, q⟩ := hpat _ _ hc
      cases q
    have hint : ∀ {b j : Nat} {x : Int}, w.cell? ⟨b, j, none⟩ = some (.int .i64 x) → b ≠ R := fun {b j x} hc e => by
      subst e
      obtain ⟨_, _, _, q⟩ := hpat _ _ hc
      cases q
    have hptr : ∀ {b j : Nat} {x : Option Addr}, w.cell? ⟨b, j, none⟩ = some (.pointer x) → b ≠ R := fun {b j x} hc e => by
      subst e
      obtain ⟨_, _, _, q⟩ := hpat _ _ hc
      cases q
    have hfl : ∀ {α : Type} {f : α → List Value} {k : Nat} {a : Option Addr} {l : List α}, (∀ x, f x ≠ []) → Rw f k w a l → (∀ b o, a = some ⟨b, o, none⟩ → l ≠ [] → b ≠ R) → Rw f k w' a l := fun {α f k a l} hf hr hb => hr.far (fun b o e hl => far b (hr.lt hf e hl) (hb b o e hl))
    have hbk : ∀ u b, BkAt w u b → BkAt w' u b := fun u b hb => by
      obtain ⟨es, ⟨a, c, e1, e2, e3, e4⟩, ht⟩ := hb
      refine ⟨es, ⟨a, c, e1, hfl ev_ne e2 (fun b' o' e' hl => ?_), e3, e4⟩, ht.mono (fun en x ⟨q1, ⟨a', c', q2, q3, q4, q5⟩, q6⟩ => ⟨q1, ⟨a', c', q2, hfl iv_ne q3 (fun b' o' e' hl => ?_), q4, q5⟩, NT.off28 hT' far q6⟩)⟩
      · obtain ⟨b2, o2, e5, hc⟩ := e2 hl
        rw [e5] at e'
        cases e'
        cases es with
        | nil => exact absurd rfl hl
        | cons y r => exact hstr (hc 0 y rfl 2 (.string y.v.s) rfl)
      · obtain ⟨b2, o2, e5, hc⟩ := q3 hl
        rw [e5] at e'
        cases e'
        obtain ⟨y, r, hx2⟩ := List.exists_cons_of_ne_nil hl
        rw [hx2] at hc
        exact hint (hc 0 y rfl 0 (.int .i64 y) rfl)
    have hlst := h.lst
    obtain ⟨a, c, e1, e2, e3, e4⟩ := hlst
    refine { h with cell := ?_, lst := ⟨a, c, e1, hfl ptv_ne e2 (fun b o e' hl => ?_), e3, e4⟩, blk := ?_, two := h.two.mono hbk, ltag := fun a n c e => NT.off28 hT' far (h.ltag a n c e), btag := fun a g hg => (h.btag a g hg).far (far g (h.btag a g hg).lt (fun e => by subst e; exact absurd ((h.btag a _ hg).one hT) (by decide))) }
    · have hc := h.cell
      by_cases q : g = R
      · subst q; exact h0 _ hc
      · exact hcell q hc
    · obtain ⟨b2, o2, e5, hc⟩ := e2 hl
      rw [e5] at e'
      cases e'
      obtain ⟨y, r, hx2⟩ := List.exists_cons_of_ne_nil hl
      rw [hx2] at hc
      exact hptr (hc 0 y rfl 0 _ rfl)
    · intro a' i g' u h1 h2 h3
      have hc := h.blk a' i g' u h1 h2 h3
      exact hcell (fun e => by subst e; exact absurd ((h.btag a' _ h1).one hT) (by decide)) hc
theorem Sl.offS {w w' : World} {R : Nat} {v : Value} {m : List Pr} (h : Sl pv 4 w v m) (hs : ∀ j s, ¬ w.cell? ⟨R, j, none⟩ = some (.string s)) (far : ∀ k, k < w.heap.size → k ≠ R → w'.heap[k]? = w.heap[k]?) : Sl pv 4 w' v m := by
  obtain ⟨a, c, e, hr, h3, h4⟩ := h
  refine ⟨a, c, e, hr.far (fun b o e1 hl => far b (hr.lt pv_ne e1 hl) (fun q => ?_)), h3, h4⟩
  subst q
  obtain ⟨b2, o2, e5, hc⟩ := hr hl
  rw [e5] at e1
  cases e1
  obtain ⟨y, r, hx2⟩ := List.exists_cons_of_ne_nil hl
  rw [hx2] at hc
  exact hs _ _ (hc 0 y rfl 2 _ rfl)
/-! ### Indexes and pairs side by side -/
structure Pe where
  p : Option Addr
  F : Val → List Int
  nb : Nat
  a : Option Addr
  c : Nat
  m : List Pr
def trv (E : Pe) : List Value := [.pointer E.p, .int .i64 (E.m.length : Int)]
def slv (E : Pe) : List Value := [.slice E.a E.m.length E.c]
def pat5 (r : Nat) (u : Value) : Prop := (r = 0 ∧ ∃ p, u = .pointer p) ∨ (r = 1 ∧ ∃ z, u = .int .i64 z)
def pat6 (_ : Nat) (u : Value) : Prop := ∃ a n c, u = .slice a n c
theorem info27 : (Try.prog.info? 27).map (fun i => (i.zero, i.size, i.bytes)) = some (some (.agg #[.pointer none, .int .i64 0]), 2, 16) := by kernel_rfl
theorem info28 : (Try.prog.info? 28).map (fun i => (i.zero, i.size, i.bytes)) = some (some (.slice none 0 0), 1, 24) := by kernel_rfl
theorem RowP.tg {φ : Nat → Value → Prop} {w : World} {e size : Nat} {v : Value} {n : Nat} {xs : List Value} {g : Nat} (h : RowP φ w e size v n xs g) : Tg w g e := by
  obtain ⟨cap, cur, _, hg, _⟩ := h.ex
  exact ⟨cur, _, hg⟩
/-- An index and its pairs. -/
structure Side (w : World) (j : Nat) (p : Option Addr) (F : Val → List Int) (nb : Nat) (m : List Pr) : Prop where
  ix : Ix w p F nb (j + 1)
  st : St F m.length nb
  rel : Rel F m
  lj : m.length ≤ j
  bk : ∃ most, Bk most nb m.length ∧ most ≤ j
theorem Side.next {w w' : World} {j : Nat} {p : Option Addr} {F : Val → List Int} {nb : Nat} {m : List Pr} (h : Side w j p F nb m) (b : Below w.heap.size w w') : Side w' j p F nb m := ⟨h.ix.next b, h.st, h.rel, h.lj, h.bk⟩
theorem Side.more {w : World} {j : Nat} {p : Option Addr} {F : Val → List Int} {nb : Nat} {m : List Pr} (h : Side w j p F nb m) : Side w (j + 1) p F nb m := ⟨h.ix.wide (by omega), h.st, h.rel, by have := h.lj; omega, by obtain ⟨q, h1, h2⟩ := h.bk; exact ⟨q, h1, by omega⟩⟩
theorem Side.nb {w : World} {j : Nat} {p : Option Addr} {F : Val → List Int} {nb : Nat} {m : List Pr} (h : Side w j p F nb m) (hj : j ≤ 200) : nb ≤ 20 := by
  obtain ⟨q, h1, h2⟩ := h.bk
  exact h1.nb (by omega)
theorem Side.act {w w' : World} {j : Nat} {p p' : Option Addr} {F : Val → List Int} {nb : Nat} {m : List Pr} (h : Side w j p F nb m) (x : Hac) (hx : x.v.fit) (hi : Ix w' p' (actF F x) (actN F x m.length nb) (j + 1 + 1)) : Side w' (j + 1) p' (actF F x) (actN F x m.length nb) (actM m x) := by
  refine ⟨hi, h.st.act h.rel x hx, h.rel.act x, Nat.le_trans (actM_len h.rel x) (by have := h.lj; omega), ?_⟩
  obtain ⟨q, h1, h2⟩ := h.bk
  have := h1.act h.rel x
  by_cases c : (actM m x).length > q
  · exact ⟨_, (this.1 c).1, Nat.le_trans (actM_len h.rel x) (by have := h.lj; omega)⟩
  · exact ⟨q, (this.2 c).1, by omega⟩
structure Ss (w wr : World) (v5 v6 : Value) (Es : List Pe) (g5 g6 j : Nat) : Prop where
  r5 : RowP pat5 wr 27 2 v5 Es.length (Es.flatMap trv) g5
  r6 : RowP pat6 wr 28 1 v6 Es.length (Es.flatMap slv) g6
  pos : Es ≠ []
  b5 : w.heap.size ≤ g5
  b6 : w.heap.size ≤ g6
  bel : Below w.heap.size w wr
  all : ∀ E, E ∈ Es → Side wr j E.p E.F E.nb E.m ∧ Sl pv 4 wr (.slice E.a E.m.length E.c) E.m
theorem Ss.next {w wr w' : World} {v5 v6 : Value} {Es : List Pe} {g5 g6 j : Nat} (h : Ss w wr v5 v6 Es g5 g6 j) (k : Below wr.heap.size wr w') : Ss w w' v5 v6 Es g5 g6 j :=
  ⟨h.r5.next k, h.r6.next k, h.pos, h.b5, h.b6, Below.next h.bel k, fun E hE => ⟨(h.all E hE).1.next k, (h.all E hE).2.next pv_ne k⟩⟩
structure Sm (w wr : World) (v5 v6 : Value) (Es : List Pe) (g5 g6 j : Nat) (p : Option Addr) (F : Val → List Int) (nb : Nat) (m : List Pr) : Prop where
  r5 : RowP pat5 wr 27 2 v5 (Es.length + 1) (Es.flatMap trv ++ [.pointer p, .int .i64 (m.length : Int)]) g5
  r6 : RowP pat6 wr 28 1 v6 Es.length (Es.flatMap slv) g6
  pos : Es ≠ []
  b5 : w.heap.size ≤ g5
  b6 : w.heap.size ≤ g6
  bel : Below w.heap.size w wr
  all : ∀ E, E ∈ Es → Side wr j E.p E.F E.nb E.m ∧ Sl pv 4 wr (.slice E.a E.m.length E.c) E.m
  new : Side wr (j + 1) p F nb m
theorem Sm.next {w wr w' : World} {v5 v6 : Value} {Es : List Pe} {g5 g6 j : Nat} {p : Option Addr} {F : Val → List Int} {nb : Nat} {m : List Pr} (h : Sm w wr v5 v6 Es g5 g6 j p F nb m) (k : Below wr.heap.size wr w') : Sm w w' v5 v6 Es g5 g6 j p F nb m :=
  ⟨h.r5.next k, h.r6.next k, h.pos, h.b5, h.b6, Below.next h.bel k, fun E hE => ⟨(h.all E hE).1.next k, (h.all E hE).2.next pv_ne k⟩, h.new.next k⟩
theorem tg_apart {w : World} {g g' t t' : Nat} (h : Tg w g t) (h' : Tg w g' t') (ht : t ≠ t') : g' ≠ g := fun e => by subst e; exact ht (h.one h')
theorem pat5_cells {w : World} {v : Value} {n : Nat} {xs : List Value} {g : Nat} (h : RowP pat5 w 27 2 v n xs g) : ∀ j u, w.cell? ⟨g, j, none⟩ = some u → (∃ q, u = .pointer q) ∨ ∃ c, u = .int .i64 c := fun j u hu => by
  rcases h.pat hu with ⟨_, q⟩ | ⟨_, q⟩
  · exact .inl q
  · exact .inr q
theorem pat5_str {w : World} {v : Value} {n : Nat} {xs : List Value} {g : Nat} (h : RowP pat5 w 27 2 v n xs g) : ∀ j s, ¬ w.cell? ⟨g, j, none⟩ = some (.string s) := fun j s hu => by
  rcases pat5_cells h j _ hu with ⟨_, q⟩ | ⟨_, q⟩ <;> cases q
theorem pat6_str {w : World} {v : Value} {n : Nat} {xs : List Value} {g : Nat} (h : RowP pat6 w 28 1 v n xs g) : ∀ j s, ¬ w.cell? ⟨g, j, none⟩ = some (.string s) := fun j s hu => by
  obtain ⟨_, _, _, q⟩ := h.pat hu
  cases q
theorem Ss.push {w wr : World} {v5 v6 : Value} {Es : List Pe} {g5 g6 j : Nat} (h : Ss w wr v5 v6 Es g5 g6 j) (hn : Es.length + 1 ≤ 1000) (p : Option Addr) (F : Val → List Int) (nb : Nat) (m : List Pr) (ht : Side wr (j + 1) p F nb m) :
    ∃ v' w' g', (Builtin.append_ #[40, 40] 40 #[v5, .slice (some ⟨wr.heap.size, 0, none⟩) 1 1]).run Try.prog (wr.alloc (.cells #[.pointer p, .int .i64 (m.length : Int)] 27)) = .ok v' w' ∧ Sm w w' v' v6 Es g' g6 j p F nb m ∧ (∀ i u, (Es.flatMap trv)[i]? = some u → w'.cell? ⟨g5, i, none⟩ = some u) := by
  obtain ⟨inf, hi0, hz0, hzs, hzb⟩ := info_of info27
  obtain ⟨w1, hw1⟩ : ∃ w1, wr.alloc (.cells #[.pointer p, .int .i64 (m.length : Int)] 27) = w1 := ⟨_, rfl⟩
  have k1 : Below wr.heap.size wr w1 := hw1 ▸ below1 _ _
  have hC : CellsF w1 wr.heap.size [.pointer p, .int .i64 (m.length : Int)] := by rw [← hw1]; exact CellsF.at _ 27 (by simp) rfl
  have h' := h.next k1
  rw [hw1]
  obtain ⟨v', w', g', q1, q2, q3, q4, q5, q6⟩ := h'.r5.push (t := 40) (ty := 40) Try.underlying40 hi0 hz0 hzs hzb rfl (by omega) ⟨wr.heap.size, 0, none⟩ 1 [.pointer p, .int .i64 (m.length : Int)] rfl (fun i u hu => by rw [Go.WideShapes.add_plain, Nat.zero_add]; exact hC.cs i u hu)
    (fun u hu => by simp at hu; rcases hu with rfl | rfl <;> rfl) (fun i u hu => by
      match i, hu with
      | 0, hu => cases hu; exact .inl ⟨rfl, _, rfl⟩
      | 1, hu => cases hu; exact .inr ⟨rfl, _, rfl⟩) (fun i hi => by
      match i, hi with
      | 0, _ => exact .inl ⟨rfl, _, rfl⟩
      | 1, _ => exact .inr ⟨rfl, _, rfl⟩) hn (by omega)
  have hw : ∀ q, q < w1.heap.size → q ≠ g5 → w'.heap[q]? = w1.heap[q]? := fun q h1 h2 => q3.block q h1 (fun e => h2 (by injection e))
  have hsd : ∀ {j p F nb m}, Side w1 j p F nb m → Side w' j p F nb m := fun {j p F nb m} s => ⟨s.ix.off27 h'.r5.tg (pat5_cells h'.r5) hw, s.st, s.rel, s.lj, s.bk⟩
  refine ⟨v', w', g', q1, ⟨q2, h'.r6.far (hw g6 h'.r6.lt (tg_apart h'.r5.tg h'.r6.tg (by decide))), h.pos, ?_, h.b6, h'.bel.grown q3 h'.bel.size (fun k hk => by cases hk; exact h.b5), fun E hE => ⟨hsd (h'.all E hE).1, (h'.all E hE).2.offS (pat5_str h'.r5) hw⟩, hsd (ht.next k1)⟩, q5⟩
  rcases q4 with rfl | rfl
  · exact h.b5
  · exact h'.bel.size
theorem Sm.push {w wr : World} {v5 v6 : Value} {Es : List Pe} {g5 g6 j : Nat} {p : Option Addr} {F : Val → List Int} {nb : Nat} {m : List Pr} (h : Sm w wr v5 v6 Es g5 g6 j p F nb m) (hn : Es.length + 1 ≤ 1000) (a : Option Addr) (c : Nat) (hs : Sl pv 4 wr (.slice a m.length c) m) :
    ∃ v' w' g', (Builtin.append_ #[41, 41] 41 #[v6, .slice (some ⟨wr.heap.size, 0, none⟩) 1 1]).run Try.prog (wr.alloc (.cells #[.slice a m.length c] 28)) = .ok v' w' ∧ Ss w w' v5 v' (Es ++ [⟨p, F, nb, a, c, m⟩]) g5 g' (j + 1) ∧ (∀ i u, (Es.flatMap slv)[i]? = some u → w'.cell? ⟨g6, i, none⟩ = some u) := by
  obtain ⟨inf, hi0, hz0, hzs, hzb⟩ := info_of info28
  obtain ⟨w1, hw1⟩ : ∃ w1, wr.alloc (.cells #[.slice a m.length c] 28) = w1 := ⟨_, rfl⟩
  have k1 : Below wr.heap.size wr w1 := hw1 ▸ below1 _ _
  have hC : CellsF w1 wr.heap.size [.slice a m.length c] := by rw [← hw1]; exact CellsF.at _ 28 (by simp) rfl
  have h' := h.next k1
  rw [hw1]
  obtain ⟨v', w', g', q1, q2, q3, q4, q5, q6⟩ := h'.r6.push (t := 41) (ty := 41) Try.underlying41 hi0 hz0 hzs hzb rfl (by omega) ⟨wr.heap.size, 0, none⟩ 1 [.slice a m.length c] rfl (fun i u hu => by rw [Go.WideShapes.add_plain, Nat.zero_add]; exact hC.cs i u hu)
    (fun u hu => by simp at hu; subst hu; rfl) (fun i u hu => by
      match i, hu with
      | 0, hu => cases hu; exact ⟨_, _, _, rfl⟩) (fun i hi => by
      match i, hi with
      | 0, _ => exact ⟨_, _, _, rfl⟩) hn (by omega)
  have hw : ∀ q, q < w1.heap.size → q ≠ g6 → w'.heap[q]? = w1.heap[q]? := fun q h1 h2 => q3.block q h1 (fun e => h2 (by injection e))
  have hT' : Tg w' g6 28 := q6
  have h0 : ∀ u, w1.cell? ⟨g6, 0, none⟩ = some u → w'.cell? ⟨g6, 0, none⟩ = some u := fun u hu => by
    obtain ⟨E0, Er, hE0⟩ := List.exists_cons_of_ne_nil h.pos
    have h1 : (Es.flatMap slv)[0]? = some (.slice E0.a E0.m.length E0.c) := by rw [hE0]; rfl
    have h2 := h'.r6.cell h1
    rw [hu] at h2
    cases h2
    exact q5 0 _ h1
  have hsd : ∀ {j p F nb m}, Side w1 j p F nb m → Side w' j p F nb m := fun {j p F nb m} s => ⟨s.ix.off28 h'.r6.tg hT' (fun j u hu => h'.r6.pat hu) h0 hw, s.st, s.rel, s.lj, s.bk⟩
  refine ⟨v', w', g', q1, ⟨?_, ?_, by simp, h.b5, ?_, h'.bel.grown q3 h'.bel.size (fun k hk => by cases hk; exact h.b6), fun E hE => ?_⟩, q5⟩
  · rw [List.length_append, List.flatMap_append]
    have := h'.r5.far (hw g5 h'.r5.lt (fun e => (tg_apart h'.r5.tg h'.r6.tg (by decide)) e.symm))
    simpa [trv] using this
  · rw [List.length_append, List.flatMap_append]
    simpa [slv] using q2
  · rcases q4 with rfl | rfl
    · exact h.b6
    · exact h'.bel.size
  · rcases List.mem_append.1 hE with hE | hE
    · exact ⟨hsd (h'.all E hE).1.more, (h'.all E hE).2.offS (pat6_str h'.r6) hw⟩
    · simp at hE
      subst hE
      exact ⟨hsd h'.new, (hs.next pv_ne k1).offS (pat6_str h'.r6) hw⟩
theorem Ss.cells {w wr : World} {v5 v6 : Value} {Es : List Pe} {g5 g6 j : Nat} (h : Ss w wr v5 v6 Es g5 g6 j) {i : Nat} (hi : i < Es.length) : wr.cell? ⟨g5, i * 2, none⟩ = some (.pointer Es[i].p) ∧ wr.cell? ⟨g5, i * 2 + 1, none⟩ = some (.int .i64 (Es[i].m.length : Int)) ∧ wr.cell? ⟨g6, i, none⟩ = some (.slice Es[i].a Es[i].m.length Es[i].c) :=
  ⟨h.r5.cell (flat_get (f := trv) (k := 2) (fun _ => rfl) Es i _ (List.getElem?_eq_getElem hi) 0 _ rfl), h.r5.cell (flat_get (f := trv) (k := 2) (fun _ => rfl) Es i _ (List.getElem?_eq_getElem hi) 1 _ rfl), by have := h.r6.cell (flat_get (f := slv) (k := 1) (fun _ => rfl) Es i _ (List.getElem?_eq_getElem hi) 0 _ rfl); rwa [Nat.mul_one] at this⟩
theorem Sm.cell6 {w wr : World} {v5 v6 : Value} {Es : List Pe} {g5 g6 j : Nat} {p : Option Addr} {F : Val → List Int} {nb : Nat} {m : List Pr} (h : Sm w wr v5 v6 Es g5 g6 j p F nb m) {i : Nat} (hi : i < Es.length) : wr.cell? ⟨g6, i, none⟩ = some (.slice Es[i].a Es[i].m.length Es[i].c) := by
  have := h.r6.cell (flat_get (f := slv) (k := 1) (fun _ => rfl) Es i _ (List.getElem?_eq_getElem hi) 0 _ rfl)
  rwa [Nat.mul_one] at this
theorem Ss.start (w : World) : Ss w ((w.alloc (.cells #[.pointer none, .int .i64 0] 27)).alloc (.cells #[.slice none 0 0] 28)) (.slice (some ⟨w.heap.size, 0, none⟩) 1 1) (.slice (some ⟨w.heap.size + 1, 0, none⟩) 1 1) [⟨none, (fun _ => []), 0, none, 0, []⟩] w.heap.size (w.heap.size + 1) 0 := by
  refine ⟨⟨1, #[.pointer none, .int .i64 0], rfl, ?_, Nat.le_refl _, by unfold maxLen; omega, rfl, rfl, rfl, ?_⟩, ⟨1, #[.slice none 0 0], rfl, ?_, Nat.le_refl _, by unfold maxLen; omega, rfl, rfl, rfl, ?_⟩, by simp, Nat.le_refl _, Nat.le_succ _, below2 _ _ _, ?_⟩
  · have := (below1 (w.alloc (.cells #[.pointer none, .int .i64 0] 27)) (.cells #[.slice none 0 0] 28)).block w.heap.size (by rw [size_alloc]; omega)
    rw [this]
    exact heap_alloc_new w _
  · intro i u hu
    match i, hu with
    | 0, hu => cases hu; exact .inl ⟨rfl, _, rfl⟩
    | 1, hu => cases hu; exact .inr ⟨rfl, _, rfl⟩
  · have := heap_alloc_new (w.alloc (.cells #[.pointer none, .int .i64 0] 27)) (.cells #[.slice none 0 0] 28)
    rw [size_alloc] at this
    exact this
  · intro i u hu
    match i, hu with
    | 0, hu => cases hu; exact ⟨_, _, _, rfl⟩
  · intro E hE
    simp at hE
    subst hE
    exact ⟨⟨Ix.zero _ _, St.zero, Rel.nil, Nat.le_refl _, 0, Bk.zero, Nat.le_refl _⟩, Sl.nil _ _ _⟩
end Go.Proofs.Ytgjeobmbfeinnaa
