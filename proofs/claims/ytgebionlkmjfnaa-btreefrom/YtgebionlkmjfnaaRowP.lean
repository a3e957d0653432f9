/- Rows whose cells follow a pattern. -/
import Derived.Test.YtgebionlkmjfnaaActs
namespace Go.Proofs.Ytgebionlkmjfnaa
open Go.ChangeShapes Go.WideShapes Go.RowKit
set_option linter.unusedVariables false
set_option maxRecDepth 100000

structure RowP (φ : Nat → Value → Prop) (w : World) (e size : Nat) (v : Value) (n : Nat) (xs : List Value) (g : Nat) : Prop where
  ex : ∃ cap cur, v = .slice (some ⟨g, 0, none⟩) n cap ∧ w.heap[g]? = some (.cells cur e (0, 0)) ∧ n ≤ cap ∧ cap ≤ maxLen ∧ cur.size = cap * size ∧ cur.toList.take (n * size) = xs ∧ xs.length = n * size ∧ ∀ i u, cur[i]? = some u → φ (i % size) u
theorem RowP.lt {φ : Nat → Value → Prop} {w : World} {e size : Nat} {v : Value} {n : Nat} {xs : List Value} {g : Nat} (h : RowP φ w e size v n xs g) : g < w.heap.size := by
  obtain ⟨cap, cur, _, hg, _⟩ := h.ex
  exact (Array.getElem?_eq_some_iff.1 hg).1
theorem RowP.far {φ : Nat → Value → Prop} {w w' : World} {e size : Nat} {v : Value} {n : Nat} {xs : List Value} {g : Nat} (h : RowP φ w e size v n xs g) (hb : w'.heap[g]? = w.heap[g]?) : RowP φ w' e size v n xs g := by
  obtain ⟨cap, cur, h1, h2, h3⟩ := h.ex
  exact ⟨cap, cur, h1, hb.trans h2, h3⟩
theorem RowP.next {φ : Nat → Value → Prop} {w w' : World} {e size : Nat} {v : Value} {n : Nat} {xs : List Value} {g : Nat} (h : RowP φ w e size v n xs g) (b : Below w.heap.size w w') : RowP φ w' e size v n xs g := h.far (b.block g h.lt)
theorem RowP.cell {φ : Nat → Value → Prop} {w : World} {e size : Nat} {v : Value} {n : Nat} {xs : List Value} {g : Nat} (h : RowP φ w e size v n xs g) {i : Nat} {u : Value} (hu : xs[i]? = some u) : w.cell? ⟨g, i, none⟩ = some u := by
  obtain ⟨cap, cur, h1, h2, h3, h4, h5, h6, h7, h8⟩ := h.ex
  rw [← h6, List.getElem?_take] at hu
  split at hu
  · simp only [World.cell?, h2]; simpa using hu
  · cases hu
theorem RowP.pat {φ : Nat → Value → Prop} {w : World} {e size : Nat} {v : Value} {n : Nat} {xs : List Value} {g : Nat} (h : RowP φ w e size v n xs g) {i : Nat} {u : Value} (hu : w.cell? ⟨g, i, none⟩ = some u) : φ (i % size) u := by
  obtain ⟨cap, cur, h1, h2, h3, h4, h5, h6, h7, h8⟩ := h.ex
  simp only [World.cell?, h2] at hu
  exact h8 i u (by simpa using hu)
theorem mod_in {n s i : Nat} (h1 : n * s ≤ i) (h2 : i < n * s + s) : i % s = i - n * s := by
  obtain ⟨r, rfl⟩ := Nat.exists_eq_add_of_le h1
  rw [Nat.mul_comm n s, Nat.mul_add_mod, Nat.add_sub_cancel_left, Nat.mod_eq_of_lt (by omega)]
theorem RowP.push {φ : Nat → Value → Prop} {w : World} {t ty e size bytes : Nat} {v : Value} {n : Nat} {xs : List Value} {g : Nat} {inf : TypeInfo} {z : Value} (h : RowP φ w e size v n xs g) (ht : Try.prog.underlying t = some (.slice e)) (hi : Try.prog.info? e = some inf) (hz : inf.zero = some z) (hsize : inf.size = size) (hby : inf.bytes = bytes) (hzs : z.cells.size = size) (hs0 : 0 < size)
    (a : Addr) (c : Nat) (news : List Value) (hl : news.length = size) (hnews : ∀ j u, news[j]? = some u → w.cell? (a.add j) = some u) (h1 : ∀ u ∈ news, u.oneCell' = true) (hp : ∀ j u, news[j]? = some u → φ j u) (hpz : ∀ j, j < size → φ j z.cells[j]!) (hn : n + 1 ≤ 1000) (hb : bytes ≤ 100) :
    ∃ v' w' g', (Builtin.append_ #[t, t] ty #[v, .slice (some a) 1 c]).run Try.prog w = .ok v' w' ∧ RowP φ w' e size v' (n + 1) (xs ++ news) g' ∧ w.grownBy w' (some g) ∧ (g' = g ∨ g' = w.heap.size) ∧ (∀ i u, xs[i]? = some u → w'.cell? ⟨g, i, none⟩ = some u) := by
  obtain ⟨cap, cur, rfl, h2, h3, h4, h5, h6, h7, h8⟩ := h.ex
  subst hsize
  subst hby
  have hl' : news.length = 1 * inf.size := by omega
  have hlen : (xs ++ news).length = (n + 1) * inf.size := by rw [List.length_append, h7, hl, Nat.add_mul]; omega
  have hxs : ∀ i u, xs[i]? = some u → φ (i % inf.size) u := fun i u hu => by
    rw [← h6, List.getElem?_take] at hu
    split at hu
    · exact h8 i u (by simpa using hu)
    · cases hu
  have hmid : ∀ i u, n * inf.size ≤ i → news[i - n * inf.size]? = some u → φ (i % inf.size) u := fun i u hle hu => by
    have hlt := (List.getElem?_eq_some_iff.1 hu).1
    rw [mod_in hle (by omega)]
    exact hp _ _ hu
  by_cases hroom : n + 1 ≤ cap
  · have hcs : (n + 1) * inf.size ≤ cur.size := by rw [h5]; exact Nat.mul_le_mul_right _ hroom
    have hfit : n * inf.size + news.length ≤ cur.size := by rw [Nat.add_mul] at hcs; omega
    have hr := run_append_room (P := Try.prog) w t ty e inf ht hi g n cap cur h2 a 1 c news hl' hnews h1 hroom hfit
    refine ⟨_, _, g, hr, ⟨cap, _, rfl, setRow_heap w g cur _ e _ h2, hroom, h4, ?_, ?_, hlen, ?_⟩, ⟨rfl, rfl, rfl, by simp, fun k _ hk => setRow_other w g k _ (fun e => hk (by rw [e]))⟩, .inl rfl, ?_⟩
    · rw [← h5]
      simp only [List.size_toArray, List.length_append, List.length_take, List.length_drop, Array.length_toList]
      omega
    · rw [h6]
      show (xs ++ news ++ _).take _ = _
      rw [← hlen]
      exact List.take_left
    · intro i u hu
      rw [h6] at hu
      rw [List.getElem?_toArray] at hu
      by_cases c1 : i < (xs ++ news).length
      · rw [List.getElem?_append_left c1] at hu
        by_cases c2 : i < xs.length
        · rw [List.getElem?_append_left c2] at hu; exact hxs i u hu
        · rw [List.getElem?_append_right (by omega), h7] at hu
          exact hmid i u (by omega) hu
      · rw [List.getElem?_append_right (by omega), List.getElem?_drop] at hu
        refine h8 i u ?_
        rw [List.length_append, h7] at hu c1
        rw [show n * inf.size + news.length + (i - (n * inf.size + news.length)) = i by omega] at hu
        simpa using hu
    · intro i u hu
      simp only [World.cell?, setRow_heap w g cur _ e _ h2]
      rw [h6, List.append_assoc]
      have := (List.getElem?_eq_some_iff.1 hu).1
      simp only [List.getElem?_toArray, List.getElem?_append_left this]
      simpa using hu
  · have holds : ∀ j u, xs[j]? = some u → w.cell? ((⟨g, 0, none⟩ : Addr).add j) = some u := fun j u hu => by
      rw [Go.WideShapes.add_plain, Nat.zero_add]
      exact h.cell hu
    have h63 : n + 1 ≤ maxLen := by unfold maxLen; omega
    have hr := run_append_grow (P := Try.prog) w t ty e inf z ht hi hz ⟨g, 0, none⟩ n cap xs h7 holds a 1 c news hl' hnews (by omega) (by omega) (growslice_fits (by omega) (by
      have : (n + 1) * inf.bytes ≤ 1000 * 100 := Nat.mul_le_mul hn hb
      omega))
    have hge := grownCap_ge w (n + 1) cap e
    have hcm : grownCap w (n + 1) cap e ≤ maxLen := grownCap_le_maxLen w (n + 1) cap e h63
    refine ⟨_, _, w.heap.size, hr, ⟨_, _, rfl, heap_alloc_new w.drew _, hge, hcm, ?_, ?_, hlen, ?_⟩, ⟨rfl, rfl, rfl, by simp, fun k hk _ => heap_alloc_old w.drew _ hk⟩, .inr rfl, fun i u hu => (World.cell?_of_block (a := ⟨g, i, none⟩) (heap_alloc_old w.drew _ h.lt)).trans (h.cell hu)⟩
    · simp only [Array.size_append, List.size_toArray, size_zeroCells, hzs, h7, hl]
      rw [← Nat.succ_mul, ← Nat.add_mul]
      congr 1
      omega
    · simp only [Array.toList_append, List.append_assoc]
      rw [← List.append_assoc, ← hlen]
      exact List.take_left
    · intro i u hu
      by_cases c1 : i < (xs.toArray ++ news.toArray).size
      · rw [Array.getElem?_append_left c1] at hu
        by_cases c2 : i < xs.toArray.size
        · rw [Array.getElem?_append_left c2, List.getElem?_toArray] at hu; exact hxs i u hu
        · rw [Array.getElem?_append_right (by omega), List.getElem?_toArray] at hu
          rw [List.size_toArray, h7] at hu c2
          exact hmid i u (by omega) hu
      · rw [Array.getElem?_append_right (by omega)] at hu
        simp only [Array.size_append, List.size_toArray] at hu c1
        rw [← List.length_append, hlen] at hu
        rw [← List.length_append, hlen] at c1
        unfold Builtin.zeroCells at hu
        rw [Array.getElem?_map] at hu
        obtain ⟨q, hq, rfl⟩ := Option.map_eq_some_iff.1 hu
        have hq' : q = i - (n + 1) * inf.size := by
          have := (Array.getElem?_eq_some_iff.1 hq).2
          simp at this
          omega
        have hm : i % inf.size = q % z.cells.size := by
          rw [hzs, hq']
          obtain ⟨r, rfl⟩ := Nat.exists_eq_add_of_le (show (n + 1) * inf.size ≤ i by omega)
          rw [Nat.add_sub_cancel_left, Nat.mul_comm (n + 1), Nat.mul_add_mod]
        rw [hm]
        exact hpz _ (by rw [hzs]; exact Nat.mod_lt _ hs0)
/-- A block in which no tree and no list of items lies. -/
structure Good (w : World) (g : Nat) : Prop where
  str : ∀ o s, ¬ w.cell? ⟨g, o, none⟩ = some (.string s)
  ptr : ∀ o p q, ¬ (w.cell? ⟨g, o, none⟩ = some (.pointer p) ∧ w.cell? ⟨g, o + 1, none⟩ = some (.pointer q))
  nod : ∀ a n c, w.cell? ⟨g, 0, none⟩ = some (.slice a n c) → n = 0
theorem Sl.offG {w w' : World} {g : Nat} (hb : Good w g) (hw : ∀ q, q < w.heap.size → q ≠ g → w'.heap[q]? = w.heap[q]?) {v : Value} {l : List Itm} (h : Sl itv 2 w v l) : Sl itv 2 w' v l := by
  obtain ⟨a, c, h1, h2, h3, h4⟩ := h
  refine ⟨a, c, h1, h2.far (fun b o e hl => hw b (h2.lt itv_ne e hl) (fun e' => ?_)), h3, h4⟩
  subst e'
  obtain ⟨b', o', e2, hc⟩ := h2 hl
  rw [e] at e2
  cases e2
  cases l with
  | nil => exact hl rfl
  | cons x r => exact hb.str _ _ (hc 0 x rfl 1 _ rfl)
theorem Sl.offGP {w w' : World} {g : Nat} (hb : Good w g) (hw : ∀ q, q < w.heap.size → q ≠ g → w'.heap[q]? = w.heap[q]?) {v : Value} {l : List Nat} (hl2 : l = [] ∨ 2 ≤ l.length) (h : Sl ptv 1 w v l) : Sl ptv 1 w' v l := by
  obtain ⟨a, c, h1, h2, h3, h4⟩ := h
  refine ⟨a, c, h1, h2.far (fun b o e hl => hw b (h2.lt ptv_ne e hl) (fun e' => ?_)), h3, h4⟩
  subst e'
  obtain ⟨b', o', e2, hc⟩ := h2 hl
  rw [e] at e2
  cases e2
  match l, hl, hl2 with
  | [], hl, _ => exact hl rfl
  | [x], _, hl2 => rcases hl2 with e | e <;> simp at e
  | x :: y :: r, _, _ =>
    have c0 := hc 0 x rfl 0 _ rfl
    have c1 := hc 1 y rfl 0 _ rfl
    rw [Nat.zero_mul, Nat.add_zero] at c0
    rw [Nat.one_mul, Nat.add_zero] at c1
    exact hb.ptr _ _ _ ⟨c0, c1⟩
theorem NdAt.offG {w w' : World} {g : Nat} (hb : Good w g) (hw : ∀ q, q < w.heap.size → q ≠ g → w'.heap[q]? = w.heap[q]?) {b : Nat} {xs : List Itm} {bs : List Nat} (hx : 1 ≤ xs.length) (hl2 : bs = [] ∨ 2 ≤ bs.length) (h : NdAt itv w b xs bs) : NdAt itv w' b xs bs := by
  obtain ⟨u, v, h1, h2, h3, h4⟩ := h
  have hbg : b ≠ g := fun e => by
    subst e
    obtain ⟨a, c, e1, _⟩ := h3
    rw [e1] at h1
    have := hb.nod _ _ _ h1
    omega
  have hq := hw b (World.block_lt_of_cell? w _ h1) hbg
  exact ⟨u, v, (World.cell?_of_block (a := ⟨b, 0, none⟩) hq).trans h1, (World.cell?_of_block (a := ⟨b, 1, none⟩) hq).trans h2, h3.offG hb hw, h4.offGP hb hw hl2⟩
theorem At.offG {w w' : World} {g : Nat} (hb : Good w g) (hw : ∀ q, q < w.heap.size → q ≠ g → w'.heap[q]? = w.heap[q]?) : ∀ {d : Nat} {b : Nat} {t : T d} {lo hi : Nat}, 1 ≤ lo → Sz lo hi d t → At itv w d b t → At itv w' d b t
  | 0, _, _, _, _, hlo, hz, h => NdAt.offG hb hw (Nat.le_trans hlo hz.1) (.inl rfl) h
  | d + 1, _, t, lo, hi, hlo, hz, ⟨bs, h1, h2⟩ => ⟨bs, h1.offG hb hw (Nat.le_trans hlo hz.1) (.inr (by rw [h2.1, hz.2.2.1]; have := hz.1; omega)), h2.1, fun i b k e1 e2 => At.offG hb hw (lo := 6) (hi := 12) (by omega) (hz.2.2.2 k (List.mem_of_getElem? e2)) (h2.2 i b k e1 e2)⟩
theorem TreeV.offG {w w' : World} {g : Nat} {q : Option Addr} {m : Int} {l : List Itm} (hb : Good w g) (hw : ∀ q, q < w.heap.size → q ≠ g → w'.heap[q]? = w.heap[q]?) (h : TreeV w q m l) : TreeV w' q m l := by
  obtain ⟨h1, h2, h3⟩ := h
  refine ⟨h1, h2, h3.imp id ?_⟩
  rintro ⟨b, d, t, e1, e2, e3, e4⟩
  exact ⟨b, d, t, e1, At.offG hb hw (Nat.le_refl _) e3 e2, e3, e4⟩
end Go.Proofs.Ytgebionlkmjfnaa
