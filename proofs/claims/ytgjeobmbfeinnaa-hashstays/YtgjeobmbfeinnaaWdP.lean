/- The wider index, by definition. -/
import Derived.Test.YtgjeobmbfeinnaaWid
namespace Go.Proofs.Ytgjeobmbfeinnaa
open Go.ChangeShapes Go.WideShapes Go.RowKit
set_option linter.unusedVariables false
set_option maxRecDepth 100000

def addE (bs : List (List En)) (e : En) : List (List En) := bs.set (hs e.1 % bs.length) ((bs[hs e.1 % bs.length]?.getD []) ++ [e])
theorem addE_len (bs : List (List En)) (e : En) : (addE bs e).length = bs.length := by unfold addE; rw [List.length_set]
def wides (m : Nat) (L : List En) : List (List En) := L.foldl addE (List.replicate m [])
theorem foldE_len (L : List En) : ∀ bs : List (List En), (L.foldl addE bs).length = bs.length := by
  induction L with
  | nil => intro bs; rfl
  | cons e L ih => intro bs; rw [List.foldl_cons, ih, addE_len]
theorem wides_len (m : Nat) (L : List En) : (wides m L).length = m := by unfold wides; rw [foldE_len, List.length_replicate]
theorem wides_snoc (m : Nat) (L : List En) (e : En) : wides m (L ++ [e]) = addE (wides m L) e := by unfold wides; rw [List.foldl_append, List.foldl_cons, List.foldl_nil]
theorem addE_flat (bs : List (List En)) (e : En) (h : 0 < bs.length) : (addE bs e).flatten.length = bs.flatten.length + 1 := by
  obtain ⟨b, hb⟩ : ∃ b, bs[hs e.1 % bs.length]? = some b := ⟨_, List.getElem?_eq_getElem (Nat.mod_lt _ h)⟩
  unfold addE
  rw [hb]
  have := set_flat bs _ b (b ++ [e]) hb
  simp only [Option.getD_some]
  rw [List.length_append, List.length_singleton] at this
  omega
theorem foldE_flat (L : List En) : ∀ bs : List (List En), 0 < bs.length → (L.foldl addE bs).flatten.length = bs.flatten.length + L.length := by
  induction L with
  | nil => intro bs h; rfl
  | cons e L ih => intro bs h; rw [List.foldl_cons, ih _ (by rw [addE_len]; exact h), addE_flat bs e h, List.length_cons]; omega
theorem wides_flat (m : Nat) (hm : 0 < m) (L : List En) : (wides m L).flatten.length = L.length := by
  unfold wides
  rw [foldE_flat L _ (by rw [List.length_replicate]; exact hm)]
  have : (List.replicate m ([] : List En)).flatten = [] := by
    rw [List.flatten_eq_nil_iff]
    intro l hl
    exact List.eq_of_mem_replicate hl
  rw [this, List.length_nil, Nat.zero_add]
theorem Fits.add {G : Val → List Int} {bs : List (List En)} (h : Fits G bs) (e : En) (hne : e.2 ≠ []) (hG : G e.1 = []) : Fits (upd G e.1 e.2) (addE bs e) := by
  obtain ⟨b, hb⟩ : ∃ b, bs[hs e.1 % bs.length]? = some b := ⟨_, List.getElem?_eq_getElem (Nat.mod_lt _ h.pos)⟩
  have hr : Spot (b.map Prod.fst) e.1 (-1) := by
    refine .inl ⟨rfl, fun hm => ?_⟩
    obtain ⟨x, hx, ex⟩ := List.mem_map.1 hm
    have := h.at_ _ b hb x hx
    rw [ex, hG] at this
    exact this.2.2 this.2.1.symm
  have := h.put hb hr e.2
  unfold put1 at this
  rw [if_pos rfl, if_neg hne] at this
  unfold addE
  rw [hb]
  exact this
theorem fold_other (v : Val) : ∀ (L : List En) (G : Val → List Int), v ∉ L.map Prod.fst → (L.foldl (fun G e => upd G e.1 e.2) G) v = G v
  | [], G, _ => rfl
  | e :: L, G, h => by
    rw [List.map_cons, List.mem_cons] at h
    rw [List.foldl_cons, fold_other v L _ (fun q => h (.inr q)), upd_other _ _ (fun q => h (.inl q))]
theorem fold_there (x : En) : ∀ (L : List En) (G : Val → List Int), L.Pairwise (fun a b => a.1 ≠ b.1) → x ∈ L → (L.foldl (fun G e => upd G e.1 e.2) G) x.1 = x.2
  | [], G, _, h => by simp at h
  | e :: L, G, hp, h => by
    obtain ⟨h1, h2⟩ := List.pairwise_cons.1 hp
    rw [List.foldl_cons]
    rcases List.mem_cons.1 h with rfl | h
    · rw [fold_other x.1 L _ (fun q => by obtain ⟨y, hy, ey⟩ := List.mem_map.1 q; exact h1 y hy ey.symm), upd_same]
    · exact fold_there x L _ h2 h
theorem Fits.fold : ∀ (L : List En) (G : Val → List Int) (bs : List (List En)), Fits G bs → L.Pairwise (fun a b => a.1 ≠ b.1) → (∀ e ∈ L, e.2 ≠ []) → (∀ e ∈ L, G e.1 = []) → Fits (L.foldl (fun G e => upd G e.1 e.2) G) (L.foldl addE bs)
  | [], G, bs, h, _, _, _ => h
  | e :: L, G, bs, h, hp, hn, hG => by
    obtain ⟨h1, h2⟩ := List.pairwise_cons.1 hp
    rw [List.foldl_cons, List.foldl_cons]
    refine Fits.fold L _ _ (h.add e (hn e (List.mem_cons_self ..)) (hG e (List.mem_cons_self ..))) h2 (fun x hx => hn x (List.mem_cons_of_mem _ hx)) (fun x hx => ?_)
    rw [upd_other _ _ (fun q => h1 x hx q.symm)]
    exact hG x (List.mem_cons_of_mem _ hx)
/-- The wider buckets hold the same. -/
theorem Fits.wides {F : Val → List Int} {bs : List (List En)} (h : Fits F bs) {m : Nat} (hm : 0 < m) : Fits F (wides m bs.flatten) := by
  have hall : ∀ e ∈ bs.flatten, F e.1 = e.2 ∧ e.2 ≠ [] := fun e he => by
    obtain ⟨b, hb, he⟩ := List.mem_flatten.1 he
    obtain ⟨q, hq, rfl⟩ := List.mem_iff_getElem.1 hb
    exact (h.at_ q _ (List.getElem?_eq_getElem hq) e he).2
  refine (Fits.fold bs.flatten (fun _ => []) _ (Fits.empty hm) h.apart (fun e he => (hall e he).2) (fun _ _ => rfl)).same (fun v => ?_)
  by_cases c : v ∈ bs.flatten.map Prod.fst
  · obtain ⟨x, hx, rfl⟩ := List.mem_map.1 c
    rw [fold_there x _ _ h.apart hx, (hall x hx).1]
  · rw [fold_other v _ _ c]
    by_cases d : F v = []
    · exact d.symm
    · refine absurd ?_ c
      have hq : hs v % bs.length < bs.length := Nat.mod_lt _ h.pos
      have := h.all v d _ (List.getElem?_eq_getElem hq)
      exact List.mem_map.2 ⟨_, List.mem_flatten.2 ⟨_, List.getElem_mem hq, this⟩, rfl⟩
theorem Wd.far {w w' : World} {B tb pw gl cl nb : Nat} {ads : List Nat} {us : List Value} {ess : List (List Ent)} (h : Wd w B tb pw gl cl nb ads us ess) (f : ∀ k, B ≤ k → w'.heap[k]? = w.heap[k]?) : Wd w' B tb pw gl cl nb ads us ess :=
  { h with
    t := h.t.far (f _ h.bt), p := h.p.far (f _ h.bp), l := h.l.far (f _ h.bl)
    blk := fun a g hg => (h.blk a g hg).far (f _ (h.bads a g hg))
    row := fun q u es h1 h2 => ownsRow_kept (h.row q u es h1 h2) (fun g hg => f g (h.brow q u g h1 hg)) }
/-- What is told so far lies in the wider index. -/
def Jw (w w1 : World) (tb pw gl m : Nat) (ads : List Nat) (wr : World) (L : List En) : Prop :=
  Below w.heap.size w w1 ∧ Below w1.heap.size w1 wr ∧ ∃ us ess, Wd wr w1.heap.size tb pw gl m m ads us ess ∧ Two (Two (EnAt w)) ess (wides (8 * m) L)
/-- The wider index, when all is told. -/
theorem Jw.ix {w w1 wq wr : World} {tb pw gl m : Nat} {ads : List Nat} {F : Val → List Int} {L : List En} {M : Nat} (h : Jw w w1 tb pw gl m ads wq L) (hb : Below w.heap.size w wr) (hfar : ∀ k, w1.heap.size ≤ k → wr.heap[k]? = wq.heap[k]?) (hm : 0 < m) (hf : Fits F (wides (8 * m) L)) (hL : L.length ≤ M) (hl : ∀ v, (F v).length ≤ M) (hr : ∀ v, Rise (F v)) : Ix wr (some ⟨pw, 0, none⟩) F m M := by
  obtain ⟨_, _, us, ess, hw0, ht⟩ := h
  have hw := hw0.far hfar
  refine .inr ⟨pw, .slice (some ⟨gl, 0, none⟩) m m, ads, us, wides (8 * m) L, rfl, ?_⟩
  refine ⟨hw.p.cell rfl, ⟨some ⟨gl, 0, none⟩, m, by rw [hw.nads], ?_, by rw [hw.nads]; exact Nat.le_refl _, fun e => by cases e⟩, hw.nads, hw.nus, ?_, ⟨by rw [hw.nus, wides_len], ?_⟩, hf, by rw [wides_flat _ (by omega)]; exact hL, hl, hr, fun a0 n0 c0 e0 b' o' s' e' => by cases e0; cases e'; exact ⟨_, 65, (0, 0), hw.l, by decide⟩, fun a g hg => ⟨_, _, hw.blk a g hg⟩⟩
  · intro _
    refine ⟨gl, 0, rfl, fun i x hx j u hu => ?_⟩
    have hj : j = 0 := by have := getD_lt hu; rw [ptv_len] at this; omega
    subst hj
    have e : Value.pointer (some ⟨x, 0, none⟩) = u := by simpa [ptv] using hu
    rw [← e, Nat.zero_add, Nat.mul_one, Nat.add_zero]
    exact hw.l.cell (flat_at1 ads i x hx)
  · intro a i g u hg hi hu
    exact (hw.blk a g hg).cell (by rw [take8_at hi]; exact hu)
  · intro q u b hu hb'
    obtain ⟨es, hes⟩ : ∃ es, ess[q]? = some es := ⟨_, List.getElem?_eq_getElem (by rw [hw.ness, ← hw.nus]; exact getD_lt hu)⟩
    refine ⟨es, own_rw ev_len (hw.row q u es hu hes), (ht.2 q es b hes hb').mono (fun _ _ r => r.next hb)⟩
theorem two_replicate (w : World) (m : Nat) : Two (Two (EnAt w)) (List.replicate m []) (wides m []) := by
  show Two _ _ (List.replicate m [])
  refine ⟨by rw [List.length_replicate, List.length_replicate], fun i a b h1 h2 => ?_⟩
  rw [List.eq_of_mem_replicate (List.mem_of_getElem? h1), List.eq_of_mem_replicate (List.mem_of_getElem? h2)]
  exact Two.nil _
end Go.Proofs.Ytgjeobmbfeinnaa
