/- numbers, and whose they are. -/
import Derived.Test.YtgjeobmbfeinnaaWtn
namespace Go.Proofs.Ytgjeobmbfeinnaa
open Go.ChangeShapes Go.WideShapes Go.RowKit
set_option linter.unusedVariables false
set_option maxRecDepth 100000

set_option maxHeartbeats 4000000 in
theorem numbersT_is (p : Option Addr) (c : Int) (F : Val → List Int) (nb M : Nat) (hM : M ≤ 1000) (hn2 : nb ≤ 1000) (x : Val) (hx : x.fit) (w : World) (h : Ix w p F nb M) :
    Calls Try.prog 19 #[.agg #[.pointer p, .int .i64 c], x.v] w fun e w' => ∃ a cc, e = .returned (.slice a (F x).length cc) ∧ Sl iv 1 w' (.slice a (F x).length cc) (F x) ∧ Below w.heap.size w w' ∧ (F x = [] → a = none ∧ cc = 0) ∧ NT w' a := by
  have HB : Hid (∀ t u, Below w.heap.size w ((w.alloc t).alloc u)) := fun t u => below2 _ _ _
  rcases h with ⟨rfl, rfl, h0⟩ | ⟨g, v, ads, us, bs, rfl, h⟩
  · have HF : Hid (F x = []) := h0 x
    clear h0
    obtain ⟨k, n, s⟩ := x
    go_enter Try.func19, Try.ntmps19
    go_wp2_with fail
    go_ret
    refine ⟨none, 0, by rw [HF.out]; rfl, ?_, HB.out _ _, fun _ => ⟨rfl, rfl⟩, NT.none _⟩
    rw [HF.out]
    exact Sl.nil _ _ _
  · have HI : Hid (IxAt w g F nb M v ads us bs) := h
    obtain ⟨gb, u, b, e1, e2, e3, e4, e5, e6, e7⟩ := h.at x
    have HE5 : Hid (BkAt w u b) := e5
    have HFD : Hid (∀ r, Spot (b.map Prod.fst) x r → (r = -1 ∧ F x = []) ∨ ∃ j : Nat, r = j ∧ b[j]? = some (x, F x) ∧ F x ≠ []) := fun r hr => by
      rcases h.fits.find e3 hr with q | ⟨j, q1, q2⟩
      · exact .inl q
      · exact .inr ⟨j, q1, q2, (h.fits.at_ _ b e3 _ (List.mem_of_getElem? q2)).2.2⟩
    have hl0 : ads ≠ [] := fun e => by rw [e] at e1; simp at e1
    have hpos := h.posn
    obtain ⟨lb, lo', lc, hlv, hlc, hlb, hcs⟩ := h.lst.ptrs hl0
    rw [h.nads] at hlv hlc
    have d0 := h.cell
    rw [hlv] at d0
    have HP : Hid (∀ w' : World, Below w.heap.size w w' → Calls Try.prog 25 #[.pointer (some ⟨g, 0, none⟩), x.v] w' fun e w'' => e = .returned (.tuple #[.int .i64 (hs x / 8 % nb : Nat), .int .i64 (hs x % 8 : Nat)]) ∧ Below w'.heap.size w' w'') := fun w' hb => placeC_is g nb _ _ x hx hpos hn2 w' ((hb.cell (p := ⟨g, 0, none⟩) (World.block_lt_of_cell? w _ d0)).trans d0)
    have d1 := hcs _ _ e1
    have HD0 : Hid _ := d0
    have HD1 : Hid _ := d1
    have HE4 : Hid _ := e4
    have hat : hs x / 8 % nb < nb := place_lt _ _ hpos
    have hin : hs x % 8 < 8 := Nat.mod_lt _ (by omega)
    have HAT : Hid (At ((w.alloc (.cells #[.pointer (some ⟨g, 0, none⟩), .int .i64 c] 27)).alloc (.cells #[.int .i64 x.k, .int .i64 x.n, .string x.s] 24)) (w.heap.size + 1) 0 x.k x.n x.s) := by
      have := At.new (w.alloc (.cells #[.pointer (some ⟨g, 0, none⟩), .int .i64 c] 27)) x.k x.n x.s
      rwa [size_alloc] at this
    have HIX : Hid (∀ (es : List Ent), es.length ≤ 1000 → ∀ (w' : World), Sl ev 4 w' u es → At w' (w.heap.size + 1) 0 x.k x.n x.s → Calls Try.prog 26 #[u, .func (.func 27) #[] #[.pointer (some ⟨w.heap.size + 1, 0, none⟩)]] w' fun e w'' => ∃ r : Int, e = .returned (.int .i64 r) ∧ Spot (es.map Ent.v) x r ∧ Below w'.heap.size w' w'') := fun es he w' h1 h2 => idx27_is u es he x _ w' h1 h2
    obtain ⟨F', hF'⟩ : ∃ F', F x = F' := ⟨_, rfl⟩
    rw [hF'] at HFD ⊢
    have HXX : Hid (x = x) := rfl
    generalize hs x / 8 % nb = qa at *
    generalize hs x % 8 = qi at *
    obtain ⟨k, n, s⟩ := x
    clear hx h e1 e2 e3 e4 e5 e6 d0 d1 hcs hlb hF' HI
    go_enter Try.func19, Try.ntmps19
    go_wp2_with fail
    refine Calls.mono (HP.out _ (HB.out _ _)) ?_; rintro e w1 ⟨rfl, k1⟩
    have HB1 : Hid (Below w.heap.size w w1) := Below.next (HB.out _ _) k1
    have HAT1 : Hid (At w1 (w.heap.size + 1) 0 k n s) := HAT.out.next k1
    have y0 := (k1.cell (p := ⟨w.heap.size, 0, none⟩) (by simp; omega)).trans (show ((w.alloc (.cells #[.pointer (some ⟨g, 0, none⟩), .int .i64 c] 27)).alloc (.cells #[.int .i64 k, .int .i64 n, .string s] 24)).cell? ⟨w.heap.size, 0, none⟩ = some (.pointer (some ⟨g, 0, none⟩)) by simp)
    have y1 := (HB1.out.cell (p := ⟨g, 0, none⟩) (World.block_lt_of_cell? w _ HD0.out)).trans HD0.out
    have y2 := (HB1.out.cell (p := ⟨lb, lo' + qa, none⟩) (World.block_lt_of_cell? w _ HD1.out)).trans HD1.out
    have y3 := (HB1.out.cell (p := ⟨gb, qi, none⟩) (World.block_lt_of_cell? w _ HE4.out)).trans HE4.out
    obtain ⟨es, hsl, htwo⟩ := HE5.out
    have hel : es.length ≤ 1000 := by rw [htwo.1]; omega
    have HC : Hid _ := HIX.out es hel w1 (hsl.next ev_ne HB1.out) HAT1.out
    have hqa : (qa : Int) < (nb : Int) := by omega
    have hqi : (qi : Int) < 8 := by omega
    have HSL : Hid (Sl ev 4 w u es) := hsl
    have HTW : Hid (Two (EnAt w) es b) := htwo
    obtain ⟨ua, uc, hu, _, _, _⟩ := hsl
    obtain ⟨ne, hne⟩ : ∃ ne, es.length = ne := ⟨_, rfl⟩
    have HNE : Hid (es.length = ne) := hne
    rw [hne] at hu hel
    have HEL2 : ne ≤ 1000 := hel
    clear hne
    subst hu
    clear k1 htwo HIX HAT HP HE5 hel
    go_wp2_with fail
    refine Calls.mono HC.out ?_; rintro e w2 ⟨r, rfl, hsp, k2⟩
    have HB2 : Hid (Below w.heap.size w w2) := Below.next HB1.out k2
    have hkeys := two_keys HTW.out
    rw [hkeys] at hsp
    clear HC y0 y1 y2 y3
    rcases HFD.out r hsp with ⟨rfl, hF⟩ | ⟨j, rfl, hj, hFn⟩
    · have HF : Hid (F' = []) := hF
      clear hF hsp hkeys k2
      go_wp2_with fail
      go_ret
      refine ⟨none, 0, by rw [HF.out]; rfl, ?_, HB2.out, fun _ => ⟨rfl, rfl⟩, NT.none _⟩
      rw [HF.out]
      exact Sl.nil _ _ _
    · have hjb := getD_lt hj
      have hje : j < es.length := by rw [HTW.out.1]; exact hjb
      have hen := HTW.out.2 j _ _ (List.getElem?_eq_getElem hje) hj
      have hl0 : es ≠ [] := fun e => by rw [e] at hje; simp at hje
      obtain ⟨b2, o2, c2, hv, hc2, hb2, hcs2⟩ := HSL.out.ents hl0
      rw [HNE.out] at hv
      cases hv
      have z3 := (HB2.out.cell (p := ⟨b2, o2 + j * 4 + 3, none⟩) hb2).trans (hcs2 j hje).2.2.2
      have HNT : Hid (NT w2 es[j].a) := hen.2.2.next HB2.out
      have HSN : Hid (Sl iv 1 w2 es[j].u F') := hen.2.1.next iv_ne HB2.out
      have hln : es[j].n = F'.length := by
        obtain ⟨a', c', e, _⟩ := hen.2.1
        exact (Value.slice.inj e).2.1
      have hjn : (j : Int) < (ne : Int) := by rw [← HNE.out]; omega
      have hjn0 : ¬ (j : Int) < 0 := by omega
      generalize es[j] = en at *
      obtain ⟨ev0, ea, en0, ec⟩ := en
      have HLN : Hid (en0 = F'.length) := hln
      have HFN : Hid (F' ≠ []) := hFn
      clear hFn hen hl0 hcs2 hsp hkeys k2 hj hjb hje hb2 hln hc2
      go_wp2_with fail
      go_ret
      exact ⟨ea, ec, by rw [← HLN.out]; rfl, by rw [← HLN.out]; exact HSN.out, HB2.out, fun e => absurd e HFN.out, HNT.out⟩

theorem Sl.quiet {w w' : World} {a : Option Addr} {L cc : Nat} {l : List Int} (h : Sl iv 1 w (.slice a L cc) l) (hn : NT w a) {R : Nat} {q0 : Option Addr} {c0 : Int} (hR : Blk w R 27 [.pointer q0, .int .i64 c0]) (far : ∀ k, k ≠ R → w'.heap[k]? = w.heap[k]?) : Sl iv 1 w' (.slice a L cc) l := by
  obtain ⟨a', c', e, h2, h3, h4⟩ := h
  have e0 := (Value.slice.inj e).1
  subst e0
  exact ⟨a, c', e, h2.far (fun b o eb hl => far b (by rw [eb] at hn; exact NT.ne hR hn)), h3, h4⟩
end Go.Proofs.Ytgjeobmbfeinnaa
