/- Trees and lists side by side. -/
import Derived.Test.YtgebionlkmjfnaaRowP
import Derived.ChangeSlices
namespace Go.Proofs.Ytgebionlkmjfnaa
open Go.ChangeShapes Go.WideShapes Go.RowKit
set_option linter.unusedVariables false
set_option maxRecDepth 100000

theorem and_byte (n : Int) : bits .and .i64 n 255 = n % 256 := by
  have h : (BitVec.ofInt 64 255).toNat = 2 ^ 8 - 1 := by decide
  have key : (BitVec.ofInt 64 n &&& BitVec.ofInt 64 255).toNat = (n % ((2 ^ 64 : Nat) : Int)).toNat % 2 ^ 8 := by
    rw [BitVec.toNat_and, BitVec.toNat_ofInt, h, Nat.and_two_pow_sub_one_eq_mod]
  show IntKind.i64.wrap ((BitVec.ofInt 64 n &&& BitVec.ofInt 64 255).toNat : Nat) = n % 256
  rw [key, IntKind.wrap_i64]
  omega

structure Ent where
  p : Option Addr
  a : Option Addr
  c : Nat
  l : List Itm
def trv (E : Ent) : List Value := [.pointer E.p, .int .i64 (E.l.length : Int)]
def slv (E : Ent) : List Value := [.slice E.a E.l.length E.c]
def pat5 (r : Nat) (u : Value) : Prop := (r = 0 ∧ ∃ p, u = .pointer p) ∨ (r = 1 ∧ ∃ z, u = .int .i64 z)
def pat6 (_ : Nat) (u : Value) : Prop := ∃ a n c, u = .slice a n c
theorem info25 : (Try.prog.info? 25).map (fun i => (i.zero, i.size, i.bytes)) = some (some (.agg #[.pointer none, .int .i64 0]), 2, 16) := by kernel_rfl
theorem info26 : (Try.prog.info? 26).map (fun i => (i.zero, i.size, i.bytes)) = some (some (.slice none 0 0), 1, 24) := by kernel_rfl
theorem flat_get {α : Type} {f : α → List Value} {k : Nat} (hf : ∀ x, (f x).length = k) : ∀ (l : List α) (i : Nat) (x : α), l[i]? = some x → ∀ j u, (f x)[j]? = some u → (l.flatMap f)[i * k + j]? = some u := by
  intro l
  induction l with
  | nil => intro i x hx; simp at hx
  | cons y r ih =>
    intro i x hx j u hu
    have hjj : j < k := by
      have := (List.getElem?_eq_some_iff.1 hu).1
      rwa [hf x] at this
    rw [List.flatMap_cons]
    cases i with
    | zero =>
      have e : y = x := by simpa using hx
      subst e
      rw [Nat.zero_mul, Nat.zero_add, List.getElem?_append_left (by rw [hf]; exact hjj)]
      exact hu
    | succ i =>
      rw [List.getElem?_append_right (by rw [hf, Nat.succ_mul]; omega), hf, show (i + 1) * k + j - k = i * k + j by rw [Nat.succ_mul]; omega]
      exact ih i x (by simpa using hx) j u hu
theorem good5 {w : World} {v : Value} {n : Nat} {xs : List Value} {g : Nat} (h : RowP pat5 w 25 2 v n xs g) : Good w g := by
  refine ⟨fun o s hc => ?_, fun o p q ⟨h1, h2⟩ => ?_, fun a n c hc => ?_⟩
  · rcases h.pat hc with ⟨_, p, e⟩ | ⟨_, z, e⟩ <;> cases e
  · rcases h.pat h1 with ⟨e1, _⟩ | ⟨_, z, e⟩
    · rcases h.pat h2 with ⟨e2, _⟩ | ⟨_, z, e⟩
      · omega
      · cases e
    · cases e
  · rcases h.pat hc with ⟨_, p, e⟩ | ⟨_, z, e⟩ <;> cases e
theorem good6 {w : World} {v : Value} {n : Nat} {xs : List Value} {g : Nat} (h : RowP pat6 w 26 1 v n xs g) (h0 : xs[0]? = some (.slice none 0 0)) : Good w g := by
  refine ⟨fun o s hc => ?_, fun o p q ⟨h1, h2⟩ => ?_, fun a n c hc => ?_⟩
  · obtain ⟨a, n, c, e⟩ := h.pat hc
    cases e
  · obtain ⟨a, n, c, e⟩ := h.pat h1
    cases e
  · rw [h.cell h0] at hc
    cases hc
    rfl
structure St (w wr : World) (v5 v6 : Value) (Es : List Ent) (g5 g6 j : Nat) : Prop where
  r5 : RowP pat5 wr 25 2 v5 Es.length (Es.flatMap trv) g5
  r6 : RowP pat6 wr 26 1 v6 Es.length (Es.flatMap slv) g6
  hd : (Es.flatMap slv)[0]? = some (.slice none 0 0)
  b5 : w.heap.size ≤ g5
  b6 : w.heap.size ≤ g6
  bel : Below w.heap.size w wr
  all : ∀ E, E ∈ Es → TreeV wr E.p (E.l.length : Int) E.l ∧ Sl itv 2 wr (.slice E.a E.l.length E.c) E.l ∧ E.l.length ≤ j
theorem St.next {w wr w' : World} {v5 v6 : Value} {Es : List Ent} {g5 g6 j : Nat} (h : St w wr v5 v6 Es g5 g6 j) (k : Below wr.heap.size wr w') : St w w' v5 v6 Es g5 g6 j :=
  ⟨h.r5.next k, h.r6.next k, h.hd, h.b5, h.b6, Below.next h.bel k, fun E hE => ⟨(h.all E hE).1.next k, (h.all E hE).2.1.next itv_ne k, (h.all E hE).2.2⟩⟩
structure Mid (w wr : World) (v5 v6 : Value) (Es : List Ent) (g5 g6 j : Nat) (p : Option Addr) (l : List Itm) : Prop where
  r5 : RowP pat5 wr 25 2 v5 (Es.length + 1) (Es.flatMap trv ++ [.pointer p, .int .i64 (l.length : Int)]) g5
  r6 : RowP pat6 wr 26 1 v6 Es.length (Es.flatMap slv) g6
  hd : (Es.flatMap slv)[0]? = some (.slice none 0 0)
  b5 : w.heap.size ≤ g5
  b6 : w.heap.size ≤ g6
  bel : Below w.heap.size w wr
  all : ∀ E, E ∈ Es → TreeV wr E.p (E.l.length : Int) E.l ∧ Sl itv 2 wr (.slice E.a E.l.length E.c) E.l ∧ E.l.length ≤ j
  new : TreeV wr p (l.length : Int) l
theorem Mid.next {w wr w' : World} {v5 v6 : Value} {Es : List Ent} {g5 g6 j : Nat} {p : Option Addr} {l : List Itm} (h : Mid w wr v5 v6 Es g5 g6 j p l) (k : Below wr.heap.size wr w') : Mid w w' v5 v6 Es g5 g6 j p l :=
  ⟨h.r5.next k, h.r6.next k, h.hd, h.b5, h.b6, Below.next h.bel k, fun E hE => ⟨(h.all E hE).1.next k, (h.all E hE).2.1.next itv_ne k, (h.all E hE).2.2⟩, h.new.next k⟩
theorem rows_apart {φ ψ : Nat → Value → Prop} {w : World} {s s' n n' : Nat} {v v' : Value} {xs xs' : List Value} {g g' : Nat} (h : RowP φ w 25 s v n xs g) (h' : RowP ψ w 26 s' v' n' xs' g') : g' ≠ g := fun e => by
  subst e
  obtain ⟨_, _, _, h2, _⟩ := h.ex
  obtain ⟨_, _, _, h2', _⟩ := h'.ex
  rw [h2] at h2'
  cases h2'
theorem St.push {w wr : World} {v5 v6 : Value} {Es : List Ent} {g5 g6 j : Nat} (h : St w wr v5 v6 Es g5 g6 j) (hn : Es.length + 1 ≤ 1000) (p : Option Addr) (l : List Itm) (ht : TreeV wr p (l.length : Int) l) :
    ∃ v' w' g', (Builtin.append_ #[43, 43] 43 #[v5, .slice (some ⟨wr.heap.size, 0, none⟩) 1 1]).run Try.prog (wr.alloc (.cells #[.pointer p, .int .i64 (l.length : Int)] 25)) = .ok v' w' ∧ Mid w w' v' v6 Es g' g6 j p l ∧ (∀ x cs, CellsF wr x cs → x ≠ g5 → CellsF w' x cs) ∧ (∀ i u, (Es.flatMap trv)[i]? = some u → w'.cell? ⟨g5, i, none⟩ = some u) := by
  obtain ⟨inf, hi0, hz0, hzs, hzb⟩ := info_of info25
  obtain ⟨w1, hw1⟩ : ∃ w1, wr.alloc (.cells #[.pointer p, .int .i64 (l.length : Int)] 25) = w1 := ⟨_, rfl⟩
  have k1 : Below wr.heap.size wr w1 := hw1 ▸ below1 _ _
  have hC : CellsF w1 wr.heap.size [.pointer p, .int .i64 (l.length : Int)] := by rw [← hw1]; exact CellsF.at _ 25 (by simp) rfl
  have h' := h.next k1
  have hs1 : w1.heap.size = wr.heap.size + 1 := by rw [← hw1, size_alloc]
  rw [hw1]
  obtain ⟨v', w', g', q1, q2, q3, q4, q5⟩ := h'.r5.push (t := 43) (ty := 43) Try.underlying43 hi0 hz0 hzs hzb rfl (by omega) ⟨wr.heap.size, 0, none⟩ 1 [.pointer p, .int .i64 (l.length : Int)] rfl (fun i u hu => by rw [Go.WideShapes.add_plain, Nat.zero_add]; exact hC.cs i u hu)
    (fun u hu => by simp at hu; rcases hu with rfl | rfl <;> rfl) (fun i u hu => by
      match i, hu with
      | 0, hu => cases hu; exact .inl ⟨rfl, _, rfl⟩
      | 1, hu => cases hu; exact .inr ⟨rfl, _, rfl⟩) (fun i hi => by
      match i, hi with
      | 0, _ => exact .inl ⟨rfl, _, rfl⟩
      | 1, _ => exact .inr ⟨rfl, _, rfl⟩) hn (by omega)
  have hG := good5 h'.r5
  have hw : ∀ q, q < w1.heap.size → q ≠ g5 → w'.heap[q]? = w1.heap[q]? := fun q h1 h2 => q3.block q h1 (fun e => h2 (by injection e))
  refine ⟨v', w', g', q1, ⟨q2, h'.r6.far (hw g6 h'.r6.lt (rows_apart h'.r5 h'.r6)), h.hd, ?_, h.b6, h'.bel.grown q3 h'.bel.size (fun k hk => by cases hk; exact h.b5), fun E hE => ⟨(h'.all E hE).1.offG hG hw, (h'.all E hE).2.1.offG hG hw, (h'.all E hE).2.2⟩, (ht.next k1).offG hG hw⟩, fun x cs hc hx => (hc.next k1).far (hw x (by rw [hs1]; have := hc.lt; omega) hx), q5⟩
  rcases q4 with rfl | rfl
  · exact h.b5
  · exact h'.bel.size
theorem Mid.push {w wr : World} {v5 v6 : Value} {Es : List Ent} {g5 g6 j : Nat} {p : Option Addr} {l : List Itm} (h : Mid w wr v5 v6 Es g5 g6 j p l) (hn : Es.length + 1 ≤ 1000) (a : Option Addr) (c : Nat) (hs : Sl itv 2 wr (.slice a l.length c) l) (hl : l.length ≤ j + 1) :
    ∃ v' w' g', (Builtin.append_ #[44, 44] 44 #[v6, .slice (some ⟨wr.heap.size, 0, none⟩) 1 1]).run Try.prog (wr.alloc (.cells #[.slice a l.length c] 26)) = .ok v' w' ∧ St w w' v5 v' (Es ++ [⟨p, a, c, l⟩]) g5 g' (j + 1) ∧ (∀ x cs, CellsF wr x cs → x ≠ g6 → CellsF w' x cs) ∧ (∀ i u, (Es.flatMap slv)[i]? = some u → w'.cell? ⟨g6, i, none⟩ = some u) := by
  obtain ⟨inf, hi0, hz0, hzs, hzb⟩ := info_of info26
  obtain ⟨w1, hw1⟩ : ∃ w1, wr.alloc (.cells #[.slice a l.length c] 26) = w1 := ⟨_, rfl⟩
  have k1 : Below wr.heap.size wr w1 := hw1 ▸ below1 _ _
  have hC : CellsF w1 wr.heap.size [.slice a l.length c] := by rw [← hw1]; exact CellsF.at _ 26 (by simp) rfl
  have h' := h.next k1
  have hs1 : w1.heap.size = wr.heap.size + 1 := by rw [← hw1, size_alloc]
  rw [hw1]
  obtain ⟨v', w', g', q1, q2, q3, q4, q5⟩ := h'.r6.push (t := 44) (ty := 44) Try.underlying44 hi0 hz0 hzs hzb rfl (by omega) ⟨wr.heap.size, 0, none⟩ 1 [.slice a l.length c] rfl (fun i u hu => by rw [Go.WideShapes.add_plain, Nat.zero_add]; exact hC.cs i u hu)
    (fun u hu => by simp at hu; subst hu; rfl) (fun i u hu => by
      match i, hu with
      | 0, hu => cases hu; exact ⟨_, _, _, rfl⟩) (fun i hi => by
      match i, hi with
      | 0, _ => exact ⟨_, _, _, rfl⟩) hn (by omega)
  have hG := good6 h'.r6 h.hd
  have hw : ∀ q, q < w1.heap.size → q ≠ g6 → w'.heap[q]? = w1.heap[q]? := fun q h1 h2 => q3.block q h1 (fun e => h2 (by injection e))
  refine ⟨v', w', g', q1, ⟨?_, ?_, ?_, h.b5, ?_, h'.bel.grown q3 h'.bel.size (fun k hk => by cases hk; exact h.b6), fun E hE => ?_⟩, fun x cs hc hx => (hc.next k1).far (hw x (by rw [hs1]; have := hc.lt; omega) hx), q5⟩
  · rw [List.length_append, List.flatMap_append]
    have := h'.r5.far (hw g5 h'.r5.lt (fun e => (rows_apart h'.r5 h'.r6) e.symm))
    simpa [trv] using this
  · rw [List.length_append, List.flatMap_append]
    simpa [slv] using q2
  · rw [List.flatMap_append, List.getElem?_append_left ((List.getElem?_eq_some_iff.1 h.hd).1)]
    exact h.hd
  · rcases q4 with rfl | rfl
    · exact h.b6
    · exact h'.bel.size
  · rcases List.mem_append.1 hE with hE | hE
    · exact ⟨(h'.all E hE).1.offG hG hw, (h'.all E hE).2.1.offG hG hw, Nat.le_succ_of_le (h'.all E hE).2.2⟩
    · simp at hE
      subst hE
      exact ⟨h'.new.offG hG hw, (hs.next itv_ne k1).offG hG hw, hl⟩
theorem St.cells {w wr : World} {v5 v6 : Value} {Es : List Ent} {g5 g6 j : Nat} (h : St w wr v5 v6 Es g5 g6 j) {i : Nat} (hi : i < Es.length) : wr.cell? ⟨g5, i * 2, none⟩ = some (.pointer Es[i].p) ∧ wr.cell? ⟨g5, i * 2 + 1, none⟩ = some (.int .i64 (Es[i].l.length : Int)) ∧ wr.cell? ⟨g6, i * 1, none⟩ = some (.slice Es[i].a Es[i].l.length Es[i].c) :=
  ⟨h.r5.cell (flat_get (f := trv) (k := 2) (fun _ => rfl) Es i _ (List.getElem?_eq_getElem hi) 0 _ rfl), h.r5.cell (flat_get (f := trv) (k := 2) (fun _ => rfl) Es i _ (List.getElem?_eq_getElem hi) 1 _ rfl), h.r6.cell (flat_get (f := slv) (k := 1) (fun _ => rfl) Es i _ (List.getElem?_eq_getElem hi) 0 _ rfl)⟩
theorem St.start (w w1 : World) (k : Below w.heap.size w w1) : St w ((w1.alloc (.cells #[.pointer none, .int .i64 0] 25)).alloc (.cells #[.slice none 0 0] 26)) (.slice (some ⟨w1.heap.size, 0, none⟩) 1 1) (.slice (some ⟨w1.heap.size + 1, 0, none⟩) 1 1) [⟨none, none, 0, []⟩] w1.heap.size (w1.heap.size + 1) 0 := by
  refine ⟨⟨1, #[.pointer none, .int .i64 0], rfl, ?_, Nat.le_refl _, by unfold maxLen; omega, rfl, rfl, rfl, ?_⟩, ⟨1, #[.slice none 0 0], rfl, ?_, Nat.le_refl _, by unfold maxLen; omega, rfl, rfl, rfl, ?_⟩, rfl, k.size, Nat.le_succ_of_le k.size, Below.next k (below2 _ _ _), ?_⟩
  · have := (below1 (w1.alloc (.cells #[.pointer none, .int .i64 0] 25)) (.cells #[.slice none 0 0] 26)).block w1.heap.size (by rw [size_alloc]; omega)
    rw [this]
    exact heap_alloc_new w1 _
  · intro i u hu
    match i, hu with
    | 0, hu => cases hu; exact .inl ⟨rfl, _, rfl⟩
    | 1, hu => cases hu; exact .inr ⟨rfl, _, rfl⟩
  · have := heap_alloc_new (w1.alloc (.cells #[.pointer none, .int .i64 0] 25)) (.cells #[.slice none 0 0] 26)
    rw [size_alloc] at this
    exact this
  · intro i u hu
    match i, hu with
    | 0, hu => cases hu; exact ⟨_, _, _, rfl⟩
  · intro E hE
    simp at hE
    subst hE
    exact ⟨TreeV.none _, Sl.nil _ _ _, Nat.le_refl _⟩
def inv1 (z : Int) : List Value := [.int .i64 z]
theorem inv1_ne (z : Int) : inv1 z ≠ [] := by simp [inv1]
theorem Rw.int1 {w : World} {a : Option Addr} {l : List Int} (h : Rw inv1 1 w a l) {i : Nat} (hi : i < l.length) : ∃ b o, a = some ⟨b, o, none⟩ ∧ b < w.heap.size ∧ w.cell? ⟨b, o + i * 1, none⟩ = some (.int .i64 l[i]) := by
  have hne : l ≠ [] := fun e => by rw [e] at hi; simp at hi
  obtain ⟨b, o, e, hc⟩ := h hne
  exact ⟨b, o, e, h.lt inv1_ne e hne, hc i _ (List.getElem?_eq_getElem hi) 0 _ rfl⟩
theorem pick_in (z : Int) (n : Nat) (hn : 0 < n) : ∃ i : Nat, i < n ∧ Int.tmod (z % 256) (n : Int) = (i : Int) := by
  have h0 : 0 ≤ z % 256 := Int.emod_nonneg _ (by omega)
  refine ⟨(Int.tmod (z % 256) (n : Int)).toNat, ?_, ?_⟩
  · have := Int.tmod_lt_of_pos (z % 256) (show (0 : Int) < n by omega)
    have := Int.tmod_nonneg (n : Int) h0
    omega
  · have := Int.tmod_nonneg (n : Int) h0
    omega
end Go.Proofs.Ytgebionlkmjfnaa
