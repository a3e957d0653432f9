/- An index in memory. -/
import Derived.Test.YtgjeobmbfeinnaaPur
namespace Go.Proofs.Ytgjeobmbfeinnaa
open Go.ChangeShapes Go.WideShapes Go.RowKit
set_option linter.unusedVariables false
set_option maxRecDepth 100000

/-- What lies at an address is no index of a call's own. -/
def NT (w : World) (a : Option Addr) : Prop := ∀ b o s, a = some ⟨b, o, s⟩ → ∃ cur t fz, w.heap[b]? = some (.cells cur t fz) ∧ t ≠ 27
theorem NT.next {w w' : World} {a : Option Addr} (h : NT w a) (q : Below w.heap.size w w') : NT w' a := fun b o s e => by
  obtain ⟨cur, t, fz, h1, h2⟩ := h b o s e
  exact ⟨cur, t, fz, (q.block b (Array.getElem?_eq_some_iff.1 h1).1).trans h1, h2⟩
theorem NT.none (w : World) : NT w none := fun b o s e => by cases e
/-- The type of a block's cells. -/
def Tg (w : World) (g t : Nat) : Prop := ∃ cur fz, w.heap[g]? = some (.cells cur t fz)
theorem Tg.lt {w : World} {g t : Nat} (h : Tg w g t) : g < w.heap.size := by
  obtain ⟨cur, fz, e⟩ := h
  exact (Array.getElem?_eq_some_iff.1 e).1
theorem Tg.far {w w' : World} {g t : Nat} (h : Tg w g t) (e : w'.heap[g]? = w.heap[g]?) : Tg w' g t := by
  obtain ⟨cur, fz, h⟩ := h
  exact ⟨cur, fz, e.trans h⟩
theorem Tg.next {w w' : World} {g t : Nat} (h : Tg w g t) (b : Below w.heap.size w w') : Tg w' g t := h.far (b.block g h.lt)
theorem Tg.new (w : World) (C : Array Value) (t : Nat) : Tg (w.alloc (.cells C t)) w.heap.size t := ⟨C, (0, 0), heap_alloc_new w _⟩
theorem Tg.set {w : World} {g t : Nat} (h : Tg w g t) (i : Nat) (u : Value) : Tg (w.setCell ⟨g, i, none⟩ u) g t := by
  obtain ⟨cur, fz, e⟩ := h
  exact ⟨cur.setIfInBounds i u, fz, by rw [World.setCell]; simp only [Array.getElem?_modify, if_true, e, Option.map_some]; rfl⟩
theorem Tg.one {w : World} {g t t' : Nat} (h : Tg w g t) (h' : Tg w g t') : t = t' := by
  obtain ⟨cur, fz, e⟩ := h
  obtain ⟨cur', fz', e'⟩ := h'
  rw [e] at e'
  cases e'
  rfl
/-- Entries as they lie, and what they are. -/
def EnAt (w : World) (e : Ent) (x : En) : Prop := e.v = x.1 ∧ Sl iv 1 w e.u x.2 ∧ NT w e.a
theorem EnAt.next {w w' : World} {e : Ent} {x : En} (h : EnAt w e x) (b : Below w.heap.size w w') : EnAt w' e x := ⟨h.1, h.2.1.next iv_ne b, h.2.2.next b⟩
/-- A bucket. -/
def BkAt (w : World) (u : Value) (b : List En) : Prop := ∃ es : List Ent, Sl ev 4 w u es ∧ Two (EnAt w) es b
theorem BkAt.next {w w' : World} {u : Value} {b : List En} (h : BkAt w u b) (q : Below w.heap.size w w') : BkAt w' u b := by
  obtain ⟨es, h1, h2⟩ := h
  exact ⟨es, h1.next ev_ne q, h2.mono (fun _ _ r => r.next q)⟩
theorem two_keys {w : World} {es : List Ent} {b : List En} (h : Two (EnAt w) es b) : es.map Ent.v = b.map Prod.fst := by
  refine List.ext_getElem (by simp [h.1]) (fun i h1 h2 => ?_)
  rw [List.length_map] at h1 h2
  rw [List.getElem_map, List.getElem_map]
  exact (h.2 i _ _ (List.getElem?_eq_getElem h1) (List.getElem?_eq_getElem h2)).1
/-- An index that has buckets: its list of blocks lies at p. -/
structure IxAt (w : World) (p : Nat) (F : Val → List Int) (nb M : Nat) (v : Value) (ads : List Nat) (us : List Value) (bs : List (List En)) : Prop where
  cell : w.cell? ⟨p, 0, none⟩ = some v
  lst : Sl ptv 1 w v ads
  nads : ads.length = nb
  nus : us.length = 8 * nb
  blk : ∀ a i g u, ads[a]? = some g → i < 8 → us[8 * a + i]? = some u → w.cell? ⟨g, i, none⟩ = some u
  two : Two (BkAt w) us bs
  fits : Fits F bs
  few : bs.flatten.length ≤ M
  less : ∀ v, (F v).length ≤ M
  rise : ∀ v, Rise (F v)
  ltag : ∀ a n c, v = .slice a n c → NT w a
  btag : ∀ (a g : Nat), ads[a]? = some g → Tg w g 71
theorem IxAt.next {w w' : World} {p : Nat} {F : Val → List Int} {nb M : Nat} {v : Value} {ads : List Nat} {us : List Value} {bs : List (List En)} (h : IxAt w p F nb M v ads us bs) (b : Below w.heap.size w w') : IxAt w' p F nb M v ads us bs :=
  { h with
    cell := (b.cell (p := ⟨p, 0, none⟩) (World.block_lt_of_cell? w _ h.cell)).trans h.cell
    lst := h.lst.next ptv_ne b
    blk := fun a i g u h1 h2 h3 => (b.cell (p := ⟨g, i, none⟩) (World.block_lt_of_cell? w _ (h.blk a i g u h1 h2 h3))).trans (h.blk a i g u h1 h2 h3)
    two := h.two.mono (fun _ _ r => r.next b)
    ltag := fun a n c e => (h.ltag a n c e).next b
    btag := fun a g e => (h.btag a g e).next b }
theorem IxAt.nbs {w : World} {p : Nat} {F : Val → List Int} {nb M : Nat} {v : Value} {ads : List Nat} {us : List Value} {bs : List (List En)} (h : IxAt w p F nb M v ads us bs) : bs.length = 8 * nb := by rw [← h.two.1, h.nus]
theorem IxAt.posn {w : World} {p : Nat} {F : Val → List Int} {nb M : Nat} {v : Value} {ads : List Nat} {us : List Value} {bs : List (List En)} (h : IxAt w p F nb M v ads us bs) : 0 < nb := by have := h.fits.pos; rw [h.nbs] at this; omega
/-- An index. -/
def Ix (w : World) (p : Option Addr) (F : Val → List Int) (nb M : Nat) : Prop :=
  (p = none ∧ nb = 0 ∧ ∀ v, F v = []) ∨ ∃ g v ads us bs, p = some ⟨g, 0, none⟩ ∧ IxAt w g F nb M v ads us bs
theorem Ix.next {w w' : World} {p : Option Addr} {F : Val → List Int} {nb M : Nat} (h : Ix w p F nb M) (b : Below w.heap.size w w') : Ix w' p F nb M := by
  rcases h with h | ⟨g, v, ads, us, bs, e, h⟩
  · exact .inl h
  · exact .inr ⟨g, v, ads, us, bs, e, h.next b⟩
theorem Ix.rise {w : World} {p : Option Addr} {F : Val → List Int} {nb M : Nat} (h : Ix w p F nb M) (v : Val) : Rise (F v) := by
  rcases h with ⟨_, _, h⟩ | ⟨g, v', ads, us, bs, e, h⟩
  · rw [h v]; exact List.Pairwise.nil
  · exact h.rise v
theorem Ix.less {w : World} {p : Option Addr} {F : Val → List Int} {nb M : Nat} (h : Ix w p F nb M) (v : Val) : (F v).length ≤ M := by
  rcases h with ⟨_, _, h⟩ | ⟨g, v', ads, us, bs, e, h⟩
  · rw [h v]; exact Nat.zero_le _
  · exact h.less v
theorem Ix.wide {w : World} {p : Option Addr} {F : Val → List Int} {nb M M' : Nat} (h : Ix w p F nb M) (q : M ≤ M') : Ix w p F nb M' := by
  rcases h with h | ⟨g, v, ads, us, bs, e, h⟩
  · exact .inl h
  · exact .inr ⟨g, v, ads, us, bs, e, { h with few := Nat.le_trans h.few q, less := fun v => Nat.le_trans (h.less v) q }⟩
/-- Where a value's bucket is. -/
theorem place_mod (h nb : Nat) (hn : 0 < nb) : 8 * (h / 8 % nb) + h % 8 = h % (8 * nb) := by
  rw [Nat.mod_mul]; omega
theorem place_lt (h nb : Nat) (hn : 0 < nb) : h / 8 % nb < nb := Nat.mod_lt _ hn
/-- Where a bucket lies. -/
theorem IxAt.at {w : World} {p : Nat} {F : Val → List Int} {nb M : Nat} {v : Value} {ads : List Nat} {us : List Value} {bs : List (List En)} (h : IxAt w p F nb M v ads us bs) (x : Val) :
    ∃ (g : Nat) (u : Value) (b : List En), ads[hs x / 8 % nb]? = some g ∧ us[hs x % bs.length]? = some u ∧ bs[hs x % bs.length]? = some b ∧ w.cell? ⟨g, hs x % 8, none⟩ = some u ∧ BkAt w u b ∧ hs x % bs.length = 8 * (hs x / 8 % nb) + hs x % 8 ∧ b.length ≤ M := by
  have hn := h.posn
  have hq : hs x % bs.length < bs.length := Nat.mod_lt _ h.fits.pos
  have e : hs x % bs.length = 8 * (hs x / 8 % nb) + hs x % 8 := by rw [h.nbs, place_mod _ _ hn]
  have h1 : hs x / 8 % nb < ads.length := by rw [h.nads]; exact place_lt _ _ hn
  have h2 : hs x % bs.length < us.length := by rw [h.two.1]; exact hq
  refine ⟨ads[hs x / 8 % nb], us[hs x % bs.length], bs[hs x % bs.length], List.getElem?_eq_getElem h1, List.getElem?_eq_getElem h2, List.getElem?_eq_getElem hq, ?_, ?_, e, ?_⟩
  · refine h.blk _ _ _ _ (List.getElem?_eq_getElem h1) (Nat.mod_lt _ (by omega)) ?_
    rw [← e]; exact List.getElem?_eq_getElem h2
  · exact h.two.2 _ _ _ (List.getElem?_eq_getElem h2) (List.getElem?_eq_getElem hq)
  · exact Nat.le_trans (le_flat (List.getElem?_eq_getElem hq)) h.few
set_option maxHeartbeats 1000000 in
/-- place: the block, and where in it. -/
theorem placeC_is (p nb : Nat) (a : Option Addr) (c : Nat) (x : Val) (hx : x.fit) (hn : 0 < nb) (hn2 : nb ≤ 1000) (w : World) (hc : w.cell? ⟨p, 0, none⟩ = some (.slice a nb c)) :
    Calls Try.prog 25 #[.pointer (some ⟨p, 0, none⟩), x.v] w fun e w' => e = .returned (.tuple #[.int .i64 (hs x / 8 % nb : Nat), .int .i64 (hs x % 8 : Nat)]) ∧ Below w.heap.size w w' := by
  have HH : Hid (∀ w, Calls Try.prog 38 #[x.v] w fun e w' => e = .returned (.int .i64 (hs x : Int)) ∧ Below w.heap.size w w') := fun w => by
    have := hash_is x.k x.n x.s hx w
    rw [hs_is] at this
    exact this
  have hlt := hs_lt x
  have HB : Hid (∀ t, Below w.heap.size w (w.alloc t)) := fun t => below1 _ _
  have HC : Hid (w.cell? ⟨p, 0, none⟩ = some (.slice a nb c)) := hc
  obtain ⟨k, n, s⟩ := x
  generalize hs ⟨k, n, s⟩ = h at *
  have HD1 : Hid (((h : Int).tdiv 8).tmod (nb : Int) = ((h / 8 % nb : Nat) : Int)) := rfl
  clear hc hx
  go_enter Try.func25, Try.ntmps25
  go_wp2_with fail
  refine Calls.mono (HH.out _) ?_; rintro e w1 ⟨rfl, k1⟩
  have HB1 : Hid (Below w.heap.size w w1) := Below.next (HB.out _) k1
  have y := (HB1.out.cell (p := ⟨p, 0, none⟩) (World.block_lt_of_cell? w _ HC.out)).trans HC.out
  have hnz : ¬ (nb : Int) = 0 := by omega
  have hw8 : wrap64 ((h : Int).tdiv 8) = ((h / 8 : Nat) : Int) := by
    have : (h : Int).tdiv 8 = ((h / 8 : Nat) : Int) := rfl
    rw [this]; unfold wrap64; omega
  clear k1
  go_wp2_with fail
  go_ret2
  exact ⟨rfl, HB1.out⟩
end Go.Proofs.Ytgjeobmbfeinnaa
