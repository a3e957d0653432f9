/- put. -/
import Derived.Test.YtgjeobmbfeinnaaNbs
import Derived.Test.YtgjeobmbfeinnaaDele
import Derived.Test.YtgjeobmbfeinnaaCatE
import Derived.Test.YtgjeobmbfeinnaaCatQ
import Derived.Deep.RegionHeldLaw
namespace Go.Proofs.Ytgjeobmbfeinnaa
open Go.ChangeShapes Go.WideShapes Go.RowKit
set_option linter.unusedVariables false
set_option maxRecDepth 100000

theorem dr_appendD {P : Program} {ops : Array Oper} {o : Oper} {a : Act} {w w' : World} {Q : Exit → Act → World → Prop} {K : Act → World → Prop} {E : Prop} {v : Value} {x y : Operand} {t u : TypeId} {d : Option Tmp} (hd : o.dst = d) (hgd : o.guard = none) (ho : o.op = .call { callee := .builtin .append, args := #[x, y], argTypes := #[t, u] }) (hr : (Builtin.append_ #[t, u] o.type #[a.eval x, a.eval y]).run P w = .ok v w')
    (hK : K (a.put d v) w') : if Region.wanted o (yielded ops a.tmps) = true then Oper.wp P o a w K Q else E := by
  subst hd
  exact dr_append hgd ho hr hK
theorem load27 {w : World} {b : Nat} {c0 c1 : Value} (h0 : w.cell? ⟨b, 0, none⟩ = some c0) (h1 : w.cell? ⟨b, 1, none⟩ = some c1) : (loadVar 27 ⟨b, 0, none⟩).run Try.prog w = .ok (.agg #[c0, c1]) w := by
  have hl := loads [c0, c1] (n := 2) (w := w) (b := b) (o := 0) rfl (fun j x hx => by
    match j, hx with
    | 0, hx => cases hx; simpa using h0
    | 1, hx => cases hx; simpa using h1)
  simp [loadVar, Sem.run_bind, loadCells, hl]
/-- The eight buckets of a block. -/
theorem IxAt.eight {w : World} {p : Nat} {F : Val → List Int} {nb M : Nat} {v : Value} {ads : List Nat} {us : List Value} {bs : List (List En)} (h : IxAt w p F nb M v ads us bs) {a g : Nat} (hg : ads[a]? = some g) :
    ∃ U : List Value, U.length = 8 ∧ (∀ i u, U[i]? = some u → us[8 * a + i]? = some u ∧ w.cell? ⟨g, i, none⟩ = some u ∧ ∃ x n c, u = .slice x n c) := by
  have ha := getD_lt hg
  rw [h.nads] at ha
  refine ⟨(us.drop (8 * a)).take 8, by rw [List.length_take, List.length_drop, h.nus]; omega, fun i u hu => ?_⟩
  have hi : i < 8 := by have := getD_lt hu; rw [List.length_take] at this; omega
  rw [List.getElem?_take_of_lt hi, List.getElem?_drop] at hu
  refine ⟨hu, h.blk a i g u hg hi hu, ?_⟩
  have hl := getD_lt hu
  obtain ⟨es, hs, _⟩ := h.two.2 _ u _ hu (List.getElem?_eq_getElem (by rw [← h.two.1]; exact hl))
  obtain ⟨x, c, e, _⟩ := hs
  exact ⟨x, _, c, e⟩
theorem eight_of {U : List Value} (h : U.length = 8) (hf : ∀ (i : Nat) u, U[i]? = some u → ∃ x n c, u = .slice x n c) : ∃ a0 n0 c0 a1 n1 c1 a2 n2 c2 a3 n3 c3 a4 n4 c4 a5 n5 c5 a6 n6 c6 a7 n7 c7, U = [.slice a0 n0 c0, .slice a1 n1 c1, .slice a2 n2 c2, .slice a3 n3 c3, .slice a4 n4 c4, .slice a5 n5 c5, .slice a6 n6 c6, .slice a7 n7 c7] := by
  match U, h with
  | [u0, u1, u2, u3, u4, u5, u6, u7], _ =>
    obtain ⟨a0, n0, c0, rfl⟩ := hf 0 _ rfl
    obtain ⟨a1, n1, c1, rfl⟩ := hf 1 _ rfl
    obtain ⟨a2, n2, c2, rfl⟩ := hf 2 _ rfl
    obtain ⟨a3, n3, c3, rfl⟩ := hf 3 _ rfl
    obtain ⟨a4, n4, c4, rfl⟩ := hf 4 _ rfl
    obtain ⟨a5, n5, c5, rfl⟩ := hf 5 _ rfl
    obtain ⟨a6, n6, c6, rfl⟩ := hf 6 _ rfl
    obtain ⟨a7, n7, c7, rfl⟩ := hf 7 _ rfl
    exact ⟨_, _, _, _, _, _, _, _, _, _, _, _, _, _, _, _, _, _, _, _, _, _, _, _, rfl⟩
theorem flat_set1 (d : Nat) : ∀ (X : List Nat) (i : Nat), i < X.length → (X.flatMap ptv).set i (.pointer (some ⟨d, 0, none⟩)) = (X.set i d).flatMap ptv
  | [], i, h => by simp at h
  | x :: r, 0, h => by simp [ptv]
  | x :: r, i + 1, h => by
    have ih := flat_set1 d r i (by simpa using h)
    rw [List.set_cons_succ, List.flatMap_cons, List.flatMap_cons, ← ih]
    simp [ptv]
theorem flat_at1 : ∀ (X : List Nat) (i x : Nat), X[i]? = some x → (X.flatMap ptv)[i]? = some (.pointer (some ⟨x, 0, none⟩))
  | [], i, x, h => by simp at h
  | y :: r, 0, x, h => by simp at h; subst h; simp [ptv]
  | y :: r, i + 1, x, h => by
    have ih := flat_at1 r i x (by simpa using h)
    simpa [ptv] using ih
/-- The index behind a put. -/
theorem IxAt.put {w w' : World} {p : Nat} {F : Val → List Int} {nb M : Nat} {v : Value} {ads : List Nat} {us : List Value} {bs : List (List En)} (h : IxAt w p F nb M v ads us bs) (x : Val) {b : List En} {r : Int} {l : List Int} (hb : bs[hs x % bs.length]? = some b) (hr : Spot (b.map Prod.fst) x r) (hl : l.length ≤ M + 1) (hrl : Rise l)
    {d p' : Nat} {vl u' : Value} (hB : Below w.heap.size w w') (hp : w'.cell? ⟨p', 0, none⟩ = some vl) (hvl : Sl ptv 1 w' vl (ads.set (hs x / 8 % nb) d)) (hlt : ∀ a n c, vl = .slice a n c → NT w' a)
    {U : List Value} (hU : ∀ i u, U[i]? = some u → us[8 * (hs x / 8 % nb) + i]? = some u) (hU8 : U.length = 8) (hd : ∀ i u, (U.set (hs x % 8) u')[i]? = some u → w'.cell? ⟨d, i, none⟩ = some u) (hdt : Tg w' d 71) (hu' : BkAt w' u' (put1 b r x l)) :
    IxAt w' p' (upd F x l) nb (M + 1) vl (ads.set (hs x / 8 % nb) d) (us.set (hs x % bs.length) u') (bs.set (hs x % bs.length) (put1 b r x l)) := by
  have hn := h.posn
  have e : hs x % bs.length = 8 * (hs x / 8 % nb) + hs x % 8 := by rw [h.nbs, place_mod _ _ hn]
  refine ⟨hp, hvl, by rw [List.length_set]; exact h.nads, by rw [List.length_set]; exact h.nus, ?_, (h.two.mono (fun _ _ q => q.next hB)).set _ hu', h.fits.put hb hr l, ?_, ?_, ?_, hlt, ?_⟩
  · intro a i g u hg hi hu
    by_cases c : hs x / 8 % nb = a
    · subst c
      rw [List.getElem?_set_self (by have := getD_lt hg; rwa [List.length_set] at this)] at hg
      cases hg
      refine hd i u ?_
      by_cases c2 : hs x % 8 = i
      · subst c2
        rw [e, List.getElem?_set_self (by have := getD_lt hu; rwa [List.length_set] at this)] at hu
        rw [List.getElem?_set_self (by omega)]
        exact hu
      · rw [e, List.getElem?_set_ne (by omega)] at hu
        rw [List.getElem?_set_ne c2]
        obtain ⟨z, hz⟩ : ∃ z, U[i]? = some z := ⟨_, List.getElem?_eq_getElem (by omega)⟩
        rw [hz, ← hU i z hz, hu]
    · rw [List.getElem?_set_ne c] at hg
      have hne : hs x % bs.length ≠ 8 * a + i := by
        rw [e]
        have := Nat.mod_lt (hs x) (show 0 < 8 by omega)
        omega
      rw [List.getElem?_set_ne hne] at hu
      have := h.blk a i g u hg hi hu
      exact (hB.cell (p := ⟨g, i, none⟩) (World.block_lt_of_cell? w _ this)).trans this
  · have h1 := set_flat bs _ b (put1 b r x l) hb
    have h2 := put1_len b r x l
    have := h.few
    omega
  · intro v'
    by_cases c : v' = x
    · subst c; rw [upd_same]; exact hl
    · rw [upd_other _ _ c]; exact Nat.le_trans (h.less v') (by omega)
  · intro v'
    by_cases c : v' = x
    · subst c; rw [upd_same]; exact hrl
    · rw [upd_other _ _ c]; exact h.rise v'
  · intro a g hg
    by_cases c : hs x / 8 % nb = a
    · subst c
      rw [List.getElem?_set_self (by have := getD_lt hg; rwa [List.length_set] at this)] at hg
      cases hg
      exact hdt
    · rw [List.getElem?_set_ne c] at hg
      exact (h.btag a g hg).next hB
set_option maxHeartbeats 8000000 in
theorem put_is (p : Nat) (c : Int) (F : Val → List Int) (nb M : Nat) (v : Value) (ads : List Nat) (us : List Value) (bs : List (List En)) (hM : M ≤ 990) (hn2 : nb ≤ 1000) (x : Val) (hx : x.fit) (l : List Int) (hl : l.length ≤ M + 1) (hrl : Rise l) (ea : Option Addr) (ec : Nat) (w : World) (hsl : Sl iv 1 w (.slice ea l.length ec) l) (hnt : NT w ea) (h : IxAt w p F nb M v ads us bs) :
    Calls Try.prog 23 #[.agg #[.pointer (some ⟨p, 0, none⟩), .int .i64 c], .agg #[.int .i64 x.k, .int .i64 x.n, .string x.s, .slice ea l.length ec]] w fun e w' => ∃ p', e = .returned (.agg #[.pointer (some ⟨p', 0, none⟩), .int .i64 c]) ∧ Ix w' (some ⟨p', 0, none⟩) (upd F x l) nb (M + 1) ∧ Below w.heap.size w w' := by
  have HI : Hid (IxAt w p F nb M v ads us bs) := h
  obtain ⟨gb, u, b, e1, e2, e3, e4, e5, e6, e7⟩ := h.at x
  have HE3 : Hid (bs[hs x % bs.length]? = some b) := e3
  have hl0 : ads ≠ [] := fun e => by rw [e] at e1; simp at e1
  have hpos := h.posn
  obtain ⟨lb, lo', lc, hlv, hlc, hlb, hcs⟩ := h.lst.ptrs hl0
  have HLV : Hid (Sl ptv 1 w v ads) := h.lst
  rw [h.nads] at hlv hlc
  have d0 := h.cell
  rw [hlv] at d0 HLV
  have HP : Hid (∀ w' : World, Below w.heap.size w w' → Calls Try.prog 25 #[.pointer (some ⟨p, 0, none⟩), x.v] w' fun e w'' => e = .returned (.tuple #[.int .i64 (hs x / 8 % nb : Nat), .int .i64 (hs x % 8 : Nat)]) ∧ Below w'.heap.size w' w'') := fun w' hb => placeC_is p nb _ _ x hx hpos hn2 w' ((hb.cell (p := ⟨p, 0, none⟩) (World.block_lt_of_cell? w _ d0)).trans d0)
  have d1 := hcs _ _ e1
  have HD0 : Hid _ := d0
  have HD1 : Hid _ := d1
  have hat : hs x / 8 % nb < nb := place_lt _ _ hpos
  have hin : hs x % 8 < 8 := Nat.mod_lt _ (by omega)
  have hgu := h.eight e1
  obtain ⟨U, hU8, hU⟩ := hgu
  obtain ⟨a0, n0, c0, a1, n1, c1, a2, n2, c2, a3, n3, c3, a4, n4, c4, a5, n5, c5, a6, n6, c6, a7, n7, c7, hUe⟩ := eight_of hU8 (fun i u hu => (hU i u hu).2.2)
  have HU : Hid (∀ i u, U[i]? = some u → us[8 * (hs x / 8 % nb) + i]? = some u ∧ w.cell? ⟨gb, i, none⟩ = some u) := fun i u hu => ⟨(hU i u hu).1, (hU i u hu).2.1⟩
  have HUQ : Hid (U[hs x % 8]? = some u) := by
    show _ = _
    obtain ⟨z, hz⟩ : ∃ z, U[hs x % 8]? = some z := ⟨_, List.getElem?_eq_getElem (by omega)⟩
    have := (hU _ z hz).1
    rw [← e6, e2] at this
    rw [hz, this]
  obtain ⟨es, hses, htwo⟩ := e5
  have HES : Hid (Sl ev 4 w u es) := hses
  have HTW : Hid (Two (EnAt w) es b) := htwo
  have HFIN : Hid (∀ (r : Int), Spot (b.map Prod.fst) x r → ∀ (w' : World) (d p' : Nat) (vl u' : Value), Below w.heap.size w w' → w'.cell? ⟨p', 0, none⟩ = some vl → Sl ptv 1 w' vl (ads.set (hs x / 8 % nb) d) → (∀ a n c, vl = .slice a n c → NT w' a) → (∀ i z, (U.set (hs x % 8) u')[i]? = some z → w'.cell? ⟨d, i, none⟩ = some z) → Tg w' d 71 → BkAt w' u' (put1 b r x l) → Ix w' (some ⟨p', 0, none⟩) (upd F x l) nb (M + 1)) := fun r hr w' d p' vl u' hB hp hvl hlt hd hdt hu' => .inr ⟨p', _, _, _, _, rfl, h.put x e3 hr hl hrl hB hp hvl hlt (fun i z hz => (hU i z hz).1) hU8 hd hdt hu'⟩
  have HDIST : Hid (es.Pairwise (fun x y => x.v ≠ y.v)) := by
    have h1 := h.fits.uni b (List.mem_of_getElem? e3)
    have h2 : (b.map Prod.fst).Pairwise (· ≠ ·) := List.pairwise_map.2 h1
    rw [← two_keys htwo] at h2
    exact List.pairwise_map.1 h2
  have HKEY : Hid (es.map Ent.v = b.map Prod.fst) := two_keys htwo
  have HEL : Hid (es.length ≤ 990) := by show _ ≤ _; rw [htwo.1]; omega
  have HSN : Hid (Sl iv 1 w (.slice ea l.length ec) l) := hsl
  have HNT : Hid (NT w ea) := hnt
  have HADS : Hid (ads.length = nb ∧ ads[hs x / 8 % nb]? = some gb) := ⟨h.nads, e1⟩
  obtain ⟨qa, hqa⟩ : ∃ qa, hs x / 8 % nb = qa := ⟨_, rfl⟩
  obtain ⟨qi, hqi⟩ : ∃ qi, hs x % 8 = qi := ⟨_, rfl⟩
  rw [hqa] at HFIN HU HP HADS hat HD1
  rw [hqi] at HFIN HUQ HP hin
  obtain ⟨L, hL⟩ : ∃ L, l.length = L := ⟨_, rfl⟩
  have HLL : Hid (l.length = L) := hL
  rw [hL] at HSN hl ⊢
  obtain ⟨k, n, s⟩ := x
  obtain ⟨F', hF'⟩ : ∃ F', upd F ⟨k, n, s⟩ l = F' := ⟨_, rfl⟩
  rw [hF'] at HFIN ⊢
  have hlv2 := hlv
  clear hnt hx h e1 e2 e3 e4 e6 d0 d1 hcs hlb hF' hqa hqi hsl hL htwo hses HI hU HE3 hlv hU8
  -- three blocks of the call's own
  obtain ⟨W0, hW0⟩ : ∃ W0, ((w.alloc (.cells #[.pointer (some ⟨p, 0, none⟩), .int .i64 c] 27)).alloc (.cells #[.int .i64 k, .int .i64 n, .string s, .slice ea L ec] 61)).alloc (.cells #[.pointer none, .int .i64 0] 27) = W0 := ⟨_, rfl⟩
  have hsz0 : W0.heap.size = w.heap.size + 3 := by rw [← hW0, size_alloc, size_alloc, size_alloc]
  have HB0 : Hid (Below w.heap.size w W0) := by show Below _ _ _; rw [← hW0]; exact below3 _ _ _ _
  have HX0 : Hid (CellsF W0 w.heap.size [.pointer (some ⟨p, 0, none⟩), .int .i64 c]) := by
    show CellsF _ _ _
    rw [← hW0]
    exact (CellsF.new w [.pointer (some ⟨p, 0, none⟩), .int .i64 c] 27 (by simp)).next (below2 _ _ _)
  have HE0 : Hid (CellsF W0 (w.heap.size + 1) [.int .i64 k, .int .i64 n, .string s, .slice ea L ec]) := by
    show CellsF _ _ _
    rw [← hW0]
    exact (CellsF.at (w := w.alloc (.cells #[.pointer (some ⟨p, 0, none⟩), .int .i64 c] 27)) [.int .i64 k, .int .i64 n, .string s, .slice ea L ec] 61 (by simp) (by rw [size_alloc])).next (below1 _ _)
  have HR0 : Hid (CellsF W0 (w.heap.size + 2) [.pointer none, .int .i64 0]) := by
    show CellsF _ _ _
    rw [← hW0]
    exact CellsF.at [.pointer none, .int .i64 0] 27 (by simp) (by rw [size_alloc, size_alloc])
  have HW : Hid (((w.alloc (.cells #[.pointer (some ⟨p, 0, none⟩), .int .i64 c] 27)).alloc (.cells #[.int .i64 k, .int .i64 n, .string s, .slice ea L ec] 61)).alloc (.cells #[.pointer none, .int .i64 0] 27) = W0) := hW0
  have HSZ0 : Hid (W0.heap.size = w.heap.size + 3) := hsz0
  clear hW0 hsz0
  go_enter Try.func23, Try.ntmps23
  go_wp2_with fail
  rw [HW.out]
  refine Calls.mono (HP.out _ HB0.out) ?_; rintro e w1 ⟨rfl, k1⟩
  have HB1 : Hid (Below w.heap.size w w1) := Below.next HB0.out k1
  have HS1 : Hid (w.heap.size + 3 ≤ w1.heap.size) := by show _ ≤ _; rw [← HSZ0.out]; exact k1.size
  have HX1 : Hid _ := HX0.out.next k1
  have HE1 : Hid _ := HE0.out.next k1
  have HR1 : Hid _ := HR0.out.next k1
  have x0 := HX1.out.cs 0 _ rfl
  have y1 := (HB1.out.cell (p := ⟨p, 0, none⟩) (World.block_lt_of_cell? w _ HD0.out)).trans HD0.out
  have y2 := (HB1.out.cell (p := ⟨lb, lo' + qa, none⟩) (World.block_lt_of_cell? w _ HD1.out)).trans HD1.out
  have z0 := (HB1.out.cell (p := ⟨gb, 0, none⟩) (World.block_lt_of_cell? w _ (HU.out 0 (.slice a0 n0 c0) (by rw [hUe]; rfl)).2)).trans (HU.out 0 (.slice a0 n0 c0) (by rw [hUe]; rfl)).2
  have z1 := (HB1.out.cell (p := ⟨gb, 1, none⟩) (World.block_lt_of_cell? w _ (HU.out 1 (.slice a1 n1 c1) (by rw [hUe]; rfl)).2)).trans (HU.out 1 (.slice a1 n1 c1) (by rw [hUe]; rfl)).2
  have z2 := (HB1.out.cell (p := ⟨gb, 2, none⟩) (World.block_lt_of_cell? w _ (HU.out 2 (.slice a2 n2 c2) (by rw [hUe]; rfl)).2)).trans (HU.out 2 (.slice a2 n2 c2) (by rw [hUe]; rfl)).2
  have z3 := (HB1.out.cell (p := ⟨gb, 3, none⟩) (World.block_lt_of_cell? w _ (HU.out 3 (.slice a3 n3 c3) (by rw [hUe]; rfl)).2)).trans (HU.out 3 (.slice a3 n3 c3) (by rw [hUe]; rfl)).2
  have z4 := (HB1.out.cell (p := ⟨gb, 4, none⟩) (World.block_lt_of_cell? w _ (HU.out 4 (.slice a4 n4 c4) (by rw [hUe]; rfl)).2)).trans (HU.out 4 (.slice a4 n4 c4) (by rw [hUe]; rfl)).2
  have z5 := (HB1.out.cell (p := ⟨gb, 5, none⟩) (World.block_lt_of_cell? w _ (HU.out 5 (.slice a5 n5 c5) (by rw [hUe]; rfl)).2)).trans (HU.out 5 (.slice a5 n5 c5) (by rw [hUe]; rfl)).2
  have z6 := (HB1.out.cell (p := ⟨gb, 6, none⟩) (World.block_lt_of_cell? w _ (HU.out 6 (.slice a6 n6 c6) (by rw [hUe]; rfl)).2)).trans (HU.out 6 (.slice a6 n6 c6) (by rw [hUe]; rfl)).2
  have z7 := (HB1.out.cell (p := ⟨gb, 7, none⟩) (World.block_lt_of_cell? w _ (HU.out 7 (.slice a7 n7 c7) (by rw [hUe]; rfl)).2)).trans (HU.out 7 (.slice a7 n7 c7) (by rw [hUe]; rfl)).2

  have hqai : (qa : Int) < (nb : Int) := by omega
  have hqii : (qi : Int) < 8 := by omega
  have HUE : Hid (U = [.slice a0 n0 c0, .slice a1 n1 c1, .slice a2 n2 c2, .slice a3 n3 c3, .slice a4 n4 c4, .slice a5 n5 c5, .slice a6 n6 c6, .slice a7 n7 c7]) := hUe
  obtain ⟨W1, hW1⟩ : ∃ W1, w1.alloc (.cells #[.slice a0 n0 c0, .slice a1 n1 c1, .slice a2 n2 c2, .slice a3 n3 c3, .slice a4 n4 c4, .slice a5 n5 c5, .slice a6 n6 c6, .slice a7 n7 c7] 71) = W1 := ⟨_, rfl⟩
  have HD : Hid (CellsF W1 w1.heap.size U) := by
    show CellsF _ _ _
    rw [← hW1, HUE.out]
    exact CellsF.new w1 [.slice a0 n0 c0, .slice a1 n1 c1, .slice a2 n2 c2, .slice a3 n3 c3, .slice a4 n4 c4, .slice a5 n5 c5, .slice a6 n6 c6, .slice a7 n7 c7] 71 (by simp)
  have HTG : Hid (Tg W1 w1.heap.size 71) := by
    show Tg _ _ _
    rw [← hW1]
    exact Tg.new w1 _ 71
  have HBW : Hid (Below w1.heap.size w1 W1 ∧ W1.heap.size = w1.heap.size + 1) := by rw [← hW1]; exact ⟨below1 _ _, by rw [size_alloc]⟩
  have HW1 : Hid (w1.alloc (.cells #[.slice a0 n0 c0, .slice a1 n1 c1, .slice a2 n2 c2, .slice a3 n3 c3, .slice a4 n4 c4, .slice a5 n5 c5, .slice a6 n6 c6, .slice a7 n7 c7] 71) = W1) := hW1
  clear k1 HX0 HE0 HR0 HW hUe hW1
  have hu := HES.out
  obtain ⟨ua, uc, hue, _, _, _⟩ := hu
  have dq : (w1.alloc (.cells #[.slice a0 n0 c0, .slice a1 n1 c1, .slice a2 n2 c2, .slice a3 n3 c3, .slice a4 n4 c4, .slice a5 n5 c5, .slice a6 n6 c6, .slice a7 n7 c7] 71)).cell? ⟨w1.heap.size, qi, none⟩ = some (.slice ua es.length uc) := by rw [← hue, HW1.out]; exact HD.out.cs qi u HUQ.out
  obtain ⟨ne, hne⟩ : ∃ ne, es.length = ne := ⟨_, rfl⟩
  have HNE : Hid (es.length = ne) := hne
  rw [hne] at dq hue
  have HUV : Hid (u = .slice ua ne uc) := hue
  have HCL : Hid (Calls Try.prog 34 #[.slice ua ne uc] W1 fun e w' => ∃ v', e = .returned v' ∧ Fresh 61 4 (es.flatMap ev) es.length W1 w' v') := cloneE_is _ es (by have := HEL.out; omega) W1 (hue ▸ HES.out.next ev_ne (Below.next HB1.out HBW.out.1))
  clear hne hue HUQ
  go_wp2_with fail
  rw [HW1.out]
  refine Calls.mono HCL.out ?_; rintro e w2 ⟨v1, rfl, hf2⟩
  have HE2 : Hid (CellsF w2 (w.heap.size + 1) [.int .i64 k, .int .i64 n, .string s, .slice ea L ec]) := (HE1.out.next HBW.out.1).next hf2.bel
  have HDL : Hid (Calls Try.prog 33 #[v1, .func (.func 35) #[] #[.pointer (some ⟨w.heap.size + 1, 0, none⟩)]] w2 fun e w' => ∃ (r : Int) (v' : Value), e = .returned v' ∧ Spot (es.map Ent.v) ⟨k, n, s⟩ r ∧ w'.ownsRow 0 61 4 v' (if r = -1 then es else es.eraseIdx r.toNat).length ((if r = -1 then es else es.eraseIdx r.toNat).flatMap ev) ∧ w2.grownBy w' v1.ownBlock ∧ v'.ownBlock = v1.ownBlock) :=
    delete_is v1 es (by have := HEL.out; omega) ⟨k, n, s⟩ (w.heap.size + 1) w2 hf2.own HDIST.out ⟨HE2.out.cs 0 _ rfl, HE2.out.cs 1 _ rfl, HE2.out.cs 2 _ rfl⟩ (fun e => by have := (hf2.new _ e).1; have := HBW.out.2; have := HS1.out; omega)
  have HF2 : Hid (Below W1.heap.size W1 w2 ∧ ∀ g, v1.ownBlock = some g → W1.heap.size ≤ g ∧ g < w2.heap.size) := ⟨hf2.bel, hf2.new⟩
  obtain ⟨va, vc, hv1⟩ := own_form hf2.own
  rw [HNE.out] at hv1
  subst hv1
  clear hf2 HCL x0 y1 y2 dq z0 z1 z2 z3 z4 z5 z6 z7
  go_wp2_with fail
  refine Calls.mono HDL.out ?_; rintro e w3 ⟨r, v2, rfl, hsp, hown, hgr, hob⟩
  rw [HKEY.out] at hsp
  have HSP : Hid (Spot (b.map Prod.fst) ⟨k, n, s⟩ r) := hsp
  obtain ⟨es', hes'⟩ : ∃ es', (if r = -1 then es else es.eraseIdx r.toNat) = es' := ⟨_, rfl⟩
  rw [hes'] at hown
  have HB3 : Hid (Below W1.heap.size W1 w3) := HF2.out.1.grown hgr HF2.out.1.size (fun q hq => (HF2.out.2 q hq).1)
  have HTW3 : Hid (Two (EnAt w) es' (if r = -1 then b else b.eraseIdx r.toNat)) := by
    show Two _ _ _
    rw [← hes']
    by_cases c : r = -1
    · rw [if_pos c, if_pos c]; exact HTW.out
    · rw [if_neg c, if_neg c]; exact HTW.out.erase _
  have HEL3 : Hid (es'.length ≤ 990) := by
    show _ ≤ _
    rw [← hes']
    split
    · exact HEL.out
    · rw [List.length_eraseIdx]; have := HEL.out; split <;> omega
  have HOW3 : Hid (w3.ownsRow 0 61 4 v2 es'.length (es'.flatMap ev) ∧ ∀ g, v2.ownBlock = some g → W1.heap.size ≤ g) := ⟨hown, fun g hg => by rw [hob] at hg; exact (HF2.out.2 g hg).1⟩
  have HD3 : Hid (CellsF w3 w1.heap.size U) := HD.out.next HB3.out
  have HTG3 : Hid (Tg w3 w1.heap.size 71) := HTG.out.next HB3.out
  have HX3 : Hid _ := (HX1.out.next HBW.out.1).next HB3.out
  have HE3 : Hid _ := (HE1.out.next HBW.out.1).next HB3.out
  have HR3 : Hid _ := (HR1.out.next HBW.out.1).next HB3.out
  obtain ⟨v2a, v2c, hv2⟩ := own_form hown
  obtain ⟨m2, hm2⟩ : ∃ m2, es'.length = m2 := ⟨_, rfl⟩
  have HM2 : Hid (es'.length = m2) := hm2
  rw [hm2] at hv2
  subst hv2
  have hUl : U.length = 8 := by rw [HUE.out]; rfl
  obtain ⟨uq, huq⟩ : ∃ uq, U[qi]? = some uq := ⟨_, List.getElem?_eq_getElem (by omega)⟩
  have dq := HD3.out.cs qi uq huq
  have df := HD3.out.fz
  have e3c := HE3.out.cs 3 _ rfl
  have HD4 : Hid (CellsF (w3.setCell ⟨w1.heap.size, qi, none⟩ (.slice v2a m2 v2c)) w1.heap.size (U.set qi (.slice v2a m2 v2c))) := HD3.out.set qi _ (by omega)
  have HTG4 : Hid (Tg (w3.setCell ⟨w1.heap.size, qi, none⟩ (.slice v2a m2 v2c)) w1.heap.size 71) := HTG3.out.set qi _
  have hne1 : w.heap.size + 1 ≠ w1.heap.size := by have := HS1.out; omega
  have e3d : (w3.setCell ⟨w1.heap.size, qi, none⟩ (.slice v2a m2 v2c)).cell? ⟨w.heap.size + 1, 3, none⟩ = some (.slice ea L ec) := (cell_put _ (fun e => hne1 e.1.symm)).trans e3c
  obtain ⟨w4, hw4⟩ : ∃ w4, w3.setCell ⟨w1.heap.size, qi, none⟩ (.slice v2a m2 v2c) = w4 := ⟨_, rfl⟩
  have HW4 : Hid (w3.setCell ⟨w1.heap.size, qi, none⟩ (.slice v2a m2 v2c) = w4) := hw4
  clear hown hgr hob hsp hes' hm2 hw4 HDL
  have HB4 : Hid (Below w1.heap.size w1 w4) := by
    show Below _ _ _
    rw [← HW4.out]
    exact below_set (HBW.out.1.trans (HB3.out.mono (by have := HBW.out.2; omega))) _ _ _ (Nat.le_refl _)
  have HH4 : Hid (∀ k, k ≠ w1.heap.size → w4.heap[k]? = w3.heap[k]?) := fun k hk => by rw [← HW4.out]; exact heap_set _ _ _ hk
  have HX4 : Hid (CellsF w4 w.heap.size [.pointer (some ⟨p, 0, none⟩), .int .i64 c]) := HX3.out.far (HH4.out _ (by have := HS1.out; omega))
  have HE4 : Hid (CellsF w4 (w.heap.size + 1) [.int .i64 k, .int .i64 n, .string s, .slice ea L ec]) := HE3.out.far (HH4.out _ (by have := HS1.out; omega))
  have HR4 : Hid (CellsF w4 (w.heap.size + 2) [.pointer none, .int .i64 0]) := HR3.out.far (HH4.out _ (by have := HS1.out; omega))
  have HOW4 : Hid (w4.ownsRow 0 61 4 (.slice v2a m2 v2c) es'.length (es'.flatMap ev)) := ownsRow_kept HOW3.out.1 (fun g hg => HH4.out g (by have := HOW3.out.2 g hg; have := HBW.out.2; omega))
  rw [HW4.out] at HD4
  rw [HW4.out] at HTG4
  by_cases hL0 : L = 0
  · have hLi : ¬ ((L : Int) > 0) := by omega
    have HT : Hid (Two (EnAt w) es' (put1 b r ⟨k, n, s⟩ l)) := by
      have e : l = [] := List.eq_nil_of_length_eq_zero (by rw [HLL.out]; exact hL0)
      show Two _ _ _
      unfold put1
      rw [if_pos e, List.append_nil]
      exact HTW3.out
    have HBQ : Hid (Below w.heap.size w w4) := Below.next HB1.out HB4.out
    have HXQ : Hid _ := HX4.out
    have HRQ : Hid _ := HR4.out
    have HDQ : Hid _ := HD4.out
    have HTGQ : Hid (Tg w4 w1.heap.size 71) := HTG4.out
    have HOQ : Hid (w4.ownsRow 0 61 4 (.slice v2a m2 v2c) es'.length (es'.flatMap ev) ∧ ∀ g, (Value.slice v2a m2 v2c).ownBlock = some g → W1.heap.size ≤ g) := ⟨HOW4.out, HOW3.out.2⟩
    have HCQ : Hid (Calls Try.prog 36 #[.slice (some ⟨lb, lo', none⟩) nb lc] w4 fun e w' => ∃ v', e = .returned v' ∧ Fresh 65 1 (ads.flatMap ptv) ads.length w4 w' v') := cloneQ_is _ ads (by have := HADS.out.1; omega) w4 (HLV.out.next ptv_ne HBQ.out)
    have x0 : (w3.setCell ⟨w1.heap.size, qi, none⟩ (.slice v2a m2 v2c)).cell? ⟨w.heap.size, 0, none⟩ = some (.pointer (some ⟨p, 0, none⟩)) := by rw [HW4.out]; exact HXQ.out.cs 0 _ rfl
    have y1 : (w3.setCell ⟨w1.heap.size, qi, none⟩ (.slice v2a m2 v2c)).cell? ⟨p, 0, none⟩ = some (.slice (some ⟨lb, lo', none⟩) nb lc) := by rw [HW4.out]; exact (HBQ.out.cell (p := ⟨p, 0, none⟩) (World.block_lt_of_cell? w _ HD0.out)).trans HD0.out
    go_wp2_with fail
    rw [HW4.out]
    refine Calls.mono HCQ.out ?_; rintro e w5 ⟨v5, rfl, hf5⟩
    have hnb0 : 0 < ads.length := by rw [HADS.out.1]; exact hpos
    obtain ⟨g5, c5, hv5, hg5⟩ : ∃ g5 c5, v5 = .slice (some ⟨g5, 0, none⟩) nb c5 ∧ w4.heap.size ≤ g5 := by
      rcases hf5.own.2 with ⟨_, h0⟩ | ⟨g, cap, cur, e, _⟩
      · omega
      · exact ⟨g, cap, by rw [e, HADS.out.1], (hf5.new g (by rw [e]; rfl)).1⟩
    subst hv5
    have h5o := hf5.own
    rw [HADS.out.1] at h5o
    have g5a := h5o.cells (g := g5) rfl qa _ (flat_at1 ads qa _ HADS.out.2)
    rw [Go.WideShapes.add_plain, Nat.zero_add] at g5a
    have g5f : ∀ j, w5.frozen? ⟨g5, j, none⟩ = false := fun j => by
      rcases h5o.2 with ⟨e, _⟩ | ⟨g', cap', cur, e, _, hg, _⟩
      · cases e
      · cases e; exact frozen_of_row w5 g5 j cur 65 hg
    have HO6 : Hid ((w5.setCell ⟨g5, qa, none⟩ (.pointer (some ⟨w1.heap.size, 0, none⟩))).ownsRow 0 65 1 (.slice (some ⟨g5, 0, none⟩) nb c5) nb ((ads.set qa w1.heap.size).flatMap ptv)) := by
      have := (h5o.stored qa (.pointer (some ⟨w1.heap.size, 0, none⟩))).1
      rw [flat_set1 _ ads qa (by rw [HADS.out.1]; exact hat)] at this
      exact this
    have HX5 : Hid _ := HXQ.out.next hf5.bel
    have HR5 : Hid _ := HRQ.out.next hf5.bel
    have HD5 : Hid _ := HDQ.out.next hf5.bel
    have HB5 : Hid (Below w4.heap.size w4 w5) := hf5.bel
    have hXs : w.heap.size < w1.heap.size := by have := HS1.out; omega
    have hRs : w.heap.size + 2 < w1.heap.size := by have := HS1.out; omega
    have hQs : w1.heap.size < w4.heap.size := HDQ.out.lt
    have n1 : w.heap.size ≠ g5 := by omega
    have n2 : w.heap.size + 2 ≠ g5 := by omega
    have n3 : w.heap.size + 2 ≠ w.heap.size := by omega
    have HX6 : Hid (CellsF (w5.setCell ⟨g5, qa, none⟩ (.pointer (some ⟨w1.heap.size, 0, none⟩))) w.heap.size [.pointer (some ⟨p, 0, none⟩), .int .i64 c]) := HX5.out.far (heap_set _ _ _ n1)
    obtain ⟨w6, hw6⟩ : ∃ w6, w5.setCell ⟨g5, qa, none⟩ (.pointer (some ⟨w1.heap.size, 0, none⟩)) = w6 := ⟨_, rfl⟩
    have HR6 : Hid (CellsF w6 (w.heap.size + 2) [.pointer none, .int .i64 0]) := by show CellsF _ _ _; rw [← hw6]; exact HR5.out.far (heap_set _ _ _ n2)
    have HS6 : Hid (w6.heap.size = w5.heap.size) := by show _ = _; rw [← hw6, size_set]
    have HB6 : Hid (∀ k, k < w4.heap.size → w6.heap[k]? = w4.heap[k]?) := fun k hk => by rw [← hw6]; exact (heap_set _ _ _ (by omega)).trans (HB5.out.block k hk)
    rw [hw6] at HX6 HO6
    obtain ⟨w7, hw7⟩ : ∃ w7, w6.alloc (.cells #[.slice (some ⟨g5, 0, none⟩) nb c5] 51) = w7 := ⟨_, rfl⟩
    have HP7 : Hid (CellsF w7 w6.heap.size [.slice (some ⟨g5, 0, none⟩) nb c5]) := by show CellsF _ _ _; rw [← hw7]; exact CellsF.new w6 [.slice (some ⟨g5, 0, none⟩) nb c5] 51 (by simp)
    have HB7 : Hid (Below w6.heap.size w6 w7) := by show Below _ _ _; rw [← hw7]; exact below1 _ _
    have HX7 : Hid _ := HX6.out.next HB7.out
    have HR7 : Hid _ := HR6.out.next HB7.out
    have HX8 : Hid (CellsF (w7.setCell ⟨w.heap.size, 0, none⟩ (.pointer (some ⟨w6.heap.size, 0, none⟩))) w.heap.size [.pointer (some ⟨w6.heap.size, 0, none⟩), .int .i64 c]) := HX7.out.set 0 _ (by simp)
    obtain ⟨w8, hw8⟩ : ∃ w8, w7.setCell ⟨w.heap.size, 0, none⟩ (.pointer (some ⟨w6.heap.size, 0, none⟩)) = w8 := ⟨_, rfl⟩
    rw [hw8] at HX8
    have HR8 : Hid (CellsF w8 (w.heap.size + 2) [.pointer none, .int .i64 0]) := by show CellsF _ _ _; rw [← hw8]; exact HR7.out.far (heap_set _ _ _ n3)
    have HW6 : Hid (w5.setCell ⟨g5, qa, none⟩ (.pointer (some ⟨w1.heap.size, 0, none⟩)) = w6) := hw6
    have HW7 : Hid (w6.alloc (.cells #[.slice (some ⟨g5, 0, none⟩) nb c5] 51) = w7) := hw7
    have HW8 : Hid (w7.setCell ⟨w.heap.size, 0, none⟩ (.pointer (some ⟨w6.heap.size, 0, none⟩)) = w8) := hw8
    have HA : Hid ((w5.setCell ⟨g5, qa, none⟩ (.pointer (some ⟨w1.heap.size, 0, none⟩))) = w6) := hw6
    have HBE : Hid (((w5.setCell ⟨g5, qa, none⟩ (.pointer (some ⟨w1.heap.size, 0, none⟩))).alloc (.cells #[.slice (some ⟨g5, 0, none⟩) nb c5] 51)) = w7) := by show _ = _; rw [hw6, hw7]
    have HCE : Hid ((((w5.setCell ⟨g5, qa, none⟩ (.pointer (some ⟨w1.heap.size, 0, none⟩))).alloc (.cells #[.slice (some ⟨g5, 0, none⟩) nb c5] 51)).setCell ⟨w.heap.size, 0, none⟩ (.pointer (some ⟨w5.heap.size, 0, none⟩))) = w8) := by show _ = _; rw [hw6, hw7, ← HS6.out]; exact hw8
    have fb0 : ((w5.setCell ⟨g5, qa, none⟩ (.pointer (some ⟨w1.heap.size, 0, none⟩))).alloc (.cells #[.slice (some ⟨g5, 0, none⟩) nb c5] 51)).cell? ⟨w.heap.size, 0, none⟩ = some (.pointer (some ⟨p, 0, none⟩)) := by rw [HBE.out]; exact HX7.out.cs 0 _ rfl
    have fbz : ∀ j, ((w5.setCell ⟨g5, qa, none⟩ (.pointer (some ⟨w1.heap.size, 0, none⟩))).alloc (.cells #[.slice (some ⟨g5, 0, none⟩) nb c5] 51)).frozen? ⟨w.heap.size, j, none⟩ = false := by rw [HBE.out]; exact HX7.out.fz
    have fc0 : (((w5.setCell ⟨g5, qa, none⟩ (.pointer (some ⟨w1.heap.size, 0, none⟩))).alloc (.cells #[.slice (some ⟨g5, 0, none⟩) nb c5] 51)).setCell ⟨w.heap.size, 0, none⟩ (.pointer (some ⟨w5.heap.size, 0, none⟩))).cell? ⟨w.heap.size, 0, none⟩ = some (.pointer (some ⟨w5.heap.size, 0, none⟩)) := by rw [HCE.out, ← HS6.out]; exact HX8.out.cs 0 _ rfl
    have fc1 : (((w5.setCell ⟨g5, qa, none⟩ (.pointer (some ⟨w1.heap.size, 0, none⟩))).alloc (.cells #[.slice (some ⟨g5, 0, none⟩) nb c5] 51)).setCell ⟨w.heap.size, 0, none⟩ (.pointer (some ⟨w5.heap.size, 0, none⟩))).cell? ⟨w.heap.size, 1, none⟩ = some (.int .i64 c) := by rw [HCE.out]; exact HX8.out.cs 1 _ rfl
    have fr0 : (((w5.setCell ⟨g5, qa, none⟩ (.pointer (some ⟨w1.heap.size, 0, none⟩))).alloc (.cells #[.slice (some ⟨g5, 0, none⟩) nb c5] 51)).setCell ⟨w.heap.size, 0, none⟩ (.pointer (some ⟨w5.heap.size, 0, none⟩))).cell? ⟨w.heap.size + 1 + 1, 0, none⟩ = some (.pointer none) := by rw [HCE.out]; exact HR8.out.cs 0 _ rfl
    have fr1 : (((w5.setCell ⟨g5, qa, none⟩ (.pointer (some ⟨w1.heap.size, 0, none⟩))).alloc (.cells #[.slice (some ⟨g5, 0, none⟩) nb c5] 51)).setCell ⟨w.heap.size, 0, none⟩ (.pointer (some ⟨w5.heap.size, 0, none⟩))).cell? ⟨w.heap.size + 1 + 1, 1, none⟩ = some (.int .i64 0) := by rw [HCE.out]; exact HR8.out.cs 1 _ rfl
    have frz : ∀ j, (((w5.setCell ⟨g5, qa, none⟩ (.pointer (some ⟨w1.heap.size, 0, none⟩))).alloc (.cells #[.slice (some ⟨g5, 0, none⟩) nb c5] 51)).setCell ⟨w.heap.size, 0, none⟩ (.pointer (some ⟨w5.heap.size, 0, none⟩))).frozen? ⟨w.heap.size + 1 + 1, j, none⟩ = false := by rw [HCE.out]; exact HR8.out.fz
    have hqan : qa < nb := hat
    have HR9 : Hid (CellsF ((w8.setCell ⟨w.heap.size + 2, 0, none⟩ (.pointer (some ⟨w5.heap.size, 0, none⟩))).setCell ⟨w.heap.size + 2, 1, none⟩ (.int .i64 c)) (w.heap.size + 2) [.pointer (some ⟨w5.heap.size, 0, none⟩), .int .i64 c]) := HR8.out.two (by rfl) _ _
    obtain ⟨w9, hw9⟩ : ∃ w9, (w8.setCell ⟨w.heap.size + 2, 0, none⟩ (.pointer (some ⟨w5.heap.size, 0, none⟩))).setCell ⟨w.heap.size + 2, 1, none⟩ (.int .i64 c) = w9 := ⟨_, rfl⟩
    have HW9 : Hid (((((w5.setCell ⟨g5, qa, none⟩ (.pointer (some ⟨w1.heap.size, 0, none⟩))).alloc (.cells #[.slice (some ⟨g5, 0, none⟩) nb c5] 51)).setCell ⟨w.heap.size, 0, none⟩ (.pointer (some ⟨w5.heap.size, 0, none⟩))).setCell ⟨w.heap.size + 1 + 1, 0, none⟩ (.pointer (some ⟨w5.heap.size, 0, none⟩))).setCell ⟨w.heap.size + 1 + 1, 1, none⟩ (.int .i64 c) = w9) := by show _ = _; rw [HCE.out]; exact hw9
    rw [hw9] at HR9
    have HH9 : Hid (∀ k, k ≠ w.heap.size → k ≠ w.heap.size + 2 → w9.heap[k]? = w7.heap[k]?) := fun k h1 h2 => by
      rw [← hw9, ← hw8]
      exact (heap_set _ _ _ h2).trans ((heap_set _ _ _ h2).trans (heap_set _ _ _ h1))
    have HS9 : Hid (w9.heap.size = w7.heap.size) := by show _ = _; rw [← hw9, ← hw8, size_set, size_set, size_set]
    have HB9 : Hid (Below w.heap.size w w9) := by
      have hb6 : Below w.heap.size w w6 := by
        rw [← hw6]
        exact below_set (Below.next HBQ.out HB5.out) _ _ _ (by omega)
      have hb7 : Below w.heap.size w w7 := hb6.trans (HB7.out.mono hb6.size)
      show Below _ _ _
      rw [← hw9, ← hw8]
      exact below_set (below_set (below_set hb7 _ _ _ (Nat.le_refl _)) _ _ _ (by omega)) _ _ _ (by omega)
    have HFI : Hid (Ix w9 (some ⟨w5.heap.size, 0, none⟩) F' nb (M + 1)) := by
      refine HFIN.out r HSP.out w9 w1.heap.size w5.heap.size (.slice (some ⟨g5, 0, none⟩) nb c5) (.slice v2a m2 v2c) HB9.out ?_ ?_ ?_ ?_ ?_ ?_
      · have := HP7.out.cs 0 _ rfl
        rw [HS6.out] at this
        exact (World.cell?_of_block (a := ⟨w5.heap.size, 0, none⟩) (HH9.out w5.heap.size (by have := HB5.out.size; omega) (by have := HB5.out.size; omega))).trans this
      · have hg : g5 < w6.heap.size := (World.ownsRow.lt HO6.out g5 rfl).2
        have h1 : w9.heap[g5]? = w6.heap[g5]? := (HH9.out g5 (by omega) (by omega)).trans (HB7.out.block g5 hg)
        have h2 := HO6.out
        rw [show nb = (ads.set qa w1.heap.size).length by rw [List.length_set, HADS.out.1]] at h2 ⊢
        exact Sl.own ptv_len h2 (fun g hg' => by cases hg'; exact h1)
      · intro a0' n0' c0' ea'
        have h2 := HO6.out
        have hg : g5 < w6.heap.size := (World.ownsRow.lt HO6.out g5 rfl).2
        have h1 : w9.heap[g5]? = w6.heap[g5]? := (HH9.out g5 (by omega) (by omega)).trans (HB7.out.block g5 hg)
        intro b' o' s' e'
        cases ea'
        cases e'
        rcases h2.2 with ⟨e, _⟩ | ⟨g', cap', cur, e, _, hg', _⟩
        · cases e
        · cases e; exact ⟨cur, 65, (0, 0), h1.trans hg', by decide⟩
      · intro i z hz
        have h1 : w9.heap[w1.heap.size]? = w4.heap[w1.heap.size]? := (HH9.out _ (by omega) (by omega)).trans ((HB7.out.block _ (by rw [HS6.out]; have := HB5.out.size; omega)).trans (HB6.out _ hQs))
        exact (HDQ.out.far h1).cs i z hz
      · have h1 : w9.heap[w1.heap.size]? = w4.heap[w1.heap.size]? := (HH9.out _ (by omega) (by omega)).trans ((HB7.out.block _ (by rw [HS6.out]; have := HB5.out.size; omega)).trans (HB6.out _ hQs))
        exact HTGQ.out.far h1
      · refine ⟨es', Sl.own ev_len HOQ.out.1 (fun g hg => ?_), HT.out.mono (fun _ _ q => q.next HB9.out)⟩
        have hl := (World.ownsRow.lt HOQ.out.1 g hg).2
        have hl2 := HOQ.out.2 g hg
        exact (HH9.out g (by have := HBW.out.2; omega) (by have := HBW.out.2; omega)).trans ((HB7.out.block g (by rw [HS6.out]; have := HB5.out.size; omega)).trans (HB6.out g hl))
    have HRR : Hid ((loadVar 27 ⟨w.heap.size + 1 + 1, 0, none⟩).run Try.prog w9 = .ok (.agg #[.pointer (some ⟨w5.heap.size, 0, none⟩), .int .i64 c]) w9) := load27 (HR9.out.cs 0 _ rfl) (HR9.out.cs 1 _ rfl)
    clear hf5 h5o HCQ x0 y1 hw6 hw7 hw8 hw9 HFIN n1 n2 n3
    go_wp2_with fail
    rw [HW9.out]
    refine bodyPost_ret (end_cell rfl rfl HRR.out) rfl ?_
    exact ⟨_, rfl, HFI.out, HB9.out⟩
  · have hLi : (L : Int) > 0 := by omega
    have hlne : ¬ l = [] := fun e => hL0 (by rw [← HLL.out, e]; rfl)
    have HT : Hid (Two (EnAt w) (es' ++ [(⟨⟨k, n, s⟩, ea, L, ec⟩ : Ent)]) (put1 b r ⟨k, n, s⟩ l)) := by
      show Two _ _ _
      unfold put1
      rw [if_neg hlne]
      exact HTW3.out.snoc ⟨rfl, HSN.out, HNT.out⟩
    have hbl : Below w4.heap.size w4 (w4.alloc (.cells #[.int .i64 k, .int .i64 n, .string s, .slice ea L ec] 61)).drew := (below1 _ _).drew
    obtain ⟨v3, w4b, ra, ho3, hg3, hb3⟩ := appE_is (w := (w4.alloc (.cells #[.int .i64 k, .int .i64 n, .string s, .slice ea L ec] 61)).drew) (l := es') (l' := [(⟨⟨k, n, s⟩, ea, L, ec⟩ : Ent)]) (ownsRow_kept HOW4.out (fun g hg => hbl.block g (World.ownsRow.lt HOW4.out g hg).2)) (.slice (some ⟨w4.heap.size, 0, none⟩) 1 1) ⟨some ⟨w4.heap.size, 0, none⟩, 1, rfl, rw_lit ev_len (CellsF.far (CellsF.new w4 [.int .i64 k, .int .i64 n, .string s, .slice ea L ec] 61 (by simp)) rfl), Nat.le_refl _, fun e => by cases e⟩ (by rw [List.length_append]; have := HEL3.out; simp; omega)
    have hl3 : (es' ++ [(⟨⟨k, n, s⟩, ea, L, ec⟩ : Ent)]).length = m2 + 1 := by rw [List.length_append, HM2.out]; rfl
    obtain ⟨v3a, v3c, hv3⟩ := own_form ho3
    rw [hl3] at hv3
    subst hv3
    have RA : Hid ((Builtin.append_ #[64, 64] 64 #[.slice v2a m2 v2c, .slice (some ⟨w4.heap.size, 0, none⟩) 1 1]).run Try.prog ((w3.setCell ⟨w1.heap.size, qi, none⟩ (.slice v2a m2 v2c)).alloc (.cells #[.int .i64 k, .int .i64 n, .string s, .slice ea L ec] 61)).drew = .ok (.slice v3a (m2 + 1) v3c) w4b) := by show _ = _; rw [HW4.out]; exact ra
    have HS4 : Hid (w4.heap.size = w3.heap.size) := by show _ = _; rw [← HW4.out, size_set]
    have hW14 : W1.heap.size ≤ w4.heap.size := by rw [HS4.out]; exact HB3.out.size
    have hDW : w1.heap.size < W1.heap.size := by rw [HBW.out.2]; omega
    have HBb : Hid (Below W1.heap.size w4 w4b) := (hbl.mono hW14).grown hg3 (Nat.le_trans hW14 (by show _ ≤ (w4.alloc _).heap.size; rw [size_alloc]; omega)) (fun q hq => HOW3.out.2 q hq)
    have HTGb : Hid (Tg w4b w1.heap.size 71) := HTG4.out.far (HBb.out.block _ hDW)
    have HDb : Hid (CellsF w4b w1.heap.size (U.set qi (.slice v2a m2 v2c))) := HD4.out.far (HBb.out.block _ hDW)
    obtain ⟨wq, hwq⟩ : ∃ wq, (w4b.setCell ⟨w1.heap.size, qi, none⟩ (.slice v3a (m2 + 1) v3c)) = wq := ⟨_, rfl⟩
    have HWQ : Hid ((w4b.setCell ⟨w1.heap.size, qi, none⟩ (.slice v3a (m2 + 1) v3c)) = wq) := hwq
    have HDQ : Hid (CellsF wq w1.heap.size (U.set qi (.slice v3a (m2 + 1) v3c))) := by
      have := HDb.out.set qi (.slice v3a (m2 + 1) v3c) (by rw [List.length_set]; omega)
      rw [List.set_set, hwq] at this
      exact this
    have HTGQ : Hid (Tg wq w1.heap.size 71) := by
      have := HTGb.out.set qi (.slice v3a (m2 + 1) v3c)
      rw [hwq] at this
      exact this
    have HHq : Hid (∀ k, k < w1.heap.size → wq.heap[k]? = w4.heap[k]?) := fun k hk => by rw [← hwq]; exact (heap_set _ _ _ (by omega)).trans (HBb.out.block k (by omega))
    have HXQ : Hid (CellsF wq w.heap.size [.pointer (some ⟨p, 0, none⟩), .int .i64 c]) := HX4.out.far (HHq.out _ (by have := HS1.out; omega))
    have HRQ : Hid (CellsF wq (w.heap.size + 2) [.pointer none, .int .i64 0]) := HR4.out.far (HHq.out _ (by have := HS1.out; omega))
    have HBQ : Hid (Below w.heap.size w wq) := by
      show Below _ _ _
      rw [← hwq]
      exact below_set ((Below.next HB1.out HB4.out).trans (HBb.out.mono (by have := HB1.out.size; omega))) _ _ _ HB1.out.size
    have HOQ : Hid (wq.ownsRow 0 61 4 (.slice v3a (m2 + 1) v3c) (es' ++ [(⟨⟨k, n, s⟩, ea, L, ec⟩ : Ent)]).length ((es' ++ [(⟨⟨k, n, s⟩, ea, L, ec⟩ : Ent)]).flatMap ev) ∧ ∀ g, (Value.slice v3a (m2 + 1) v3c).ownBlock = some g → W1.heap.size ≤ g) := by
      have hbig : ∀ g, (Value.slice v3a (m2 + 1) v3c).ownBlock = some g → W1.heap.size ≤ g := fun g hg => by
        rcases hb3 with e | e
        · rw [e] at hg; exact HOW3.out.2 g hg
        · rw [e] at hg
          cases hg
          exact Nat.le_trans hW14 (by show _ ≤ (w4.alloc _).heap.size; rw [size_alloc]; omega)
      refine ⟨ownsRow_kept ho3 (fun g hg => ?_), hbig⟩
      rw [← hwq]
      exact heap_set _ _ _ (by have := hbig g hg; omega)
    have g0 : (w3.setCell ⟨w1.heap.size, qi, none⟩ (.slice v2a m2 v2c)).cell? ⟨w.heap.size + 1, 0, none⟩ = some (.int .i64 k) := by rw [HW4.out]; exact HE4.out.cs 0 _ rfl
    have g1 : (w3.setCell ⟨w1.heap.size, qi, none⟩ (.slice v2a m2 v2c)).cell? ⟨w.heap.size + 1, 1, none⟩ = some (.int .i64 n) := by rw [HW4.out]; exact HE4.out.cs 1 _ rfl
    have g2 : (w3.setCell ⟨w1.heap.size, qi, none⟩ (.slice v2a m2 v2c)).cell? ⟨w.heap.size + 1, 2, none⟩ = some (.string s) := by rw [HW4.out]; exact HE4.out.cs 2 _ rfl
    have gd : (w3.setCell ⟨w1.heap.size, qi, none⟩ (.slice v2a m2 v2c)).cell? ⟨w1.heap.size, qi, none⟩ = some (.slice v2a m2 v2c) := by rw [HW4.out]; exact HD4.out.cs qi _ (by rw [List.getElem?_set_self (by omega)])
    have gd2 : ((w3.setCell ⟨w1.heap.size, qi, none⟩ (.slice v2a m2 v2c)).alloc (.cells #[.int .i64 k, .int .i64 n, .string s, .slice ea L ec] 61)).cell? ⟨w1.heap.size, qi, none⟩ = some (.slice v2a m2 v2c) := by
      rw [HW4.out]
      rw [HW4.out] at gd
      exact ((below1 w4 (.cells #[.int .i64 k, .int .i64 n, .string s, .slice ea L ec] 61)).cell (p := ⟨w1.heap.size, qi, none⟩) (World.block_lt_of_cell? w4 _ gd)).trans gd
    have gb1 := HDb.out.cs qi (.slice v2a m2 v2c) (by rw [List.getElem?_set_self (by omega)])
    have gbf := HDb.out.fz
    have HRA2 := RA.out
    rw [HS4.out] at HRA2
    have RA2 : Hid _ := HRA2
    clear ra ho3 hg3 hb3 hbl hwq HRA2
    go_wp2_with fail
    go_region_law (first | refine dr_appendD (d := some 45) rfl rfl rfl RA2.out ?_)
    all_goals clear g0 g1 g2 gd gd2 gb1 gbf RA RA2 HDb
    all_goals (
      have HCQ : Hid (Calls Try.prog 36 #[.slice (some ⟨lb, lo', none⟩) nb lc] wq fun e w' => ∃ v', e = .returned v' ∧ Fresh 65 1 (ads.flatMap ptv) ads.length wq w' v') := cloneQ_is _ ads (by have := HADS.out.1; omega) wq (HLV.out.next ptv_ne HBQ.out)
      have x0 : (w4b.setCell ⟨w1.heap.size, qi, none⟩ (.slice v3a (m2 + 1) v3c)).cell? ⟨w.heap.size, 0, none⟩ = some (.pointer (some ⟨p, 0, none⟩)) := by rw [HWQ.out]; exact HXQ.out.cs 0 _ rfl
      have y1 : (w4b.setCell ⟨w1.heap.size, qi, none⟩ (.slice v3a (m2 + 1) v3c)).cell? ⟨p, 0, none⟩ = some (.slice (some ⟨lb, lo', none⟩) nb lc) := by rw [HWQ.out]; exact (HBQ.out.cell (p := ⟨p, 0, none⟩) (World.block_lt_of_cell? w _ HD0.out)).trans HD0.out
      go_wp2_with fail
      rw [HWQ.out]
      refine Calls.mono HCQ.out ?_; rintro e w5 ⟨v5, rfl, hf5⟩
      have hnb0 : 0 < ads.length := by rw [HADS.out.1]; exact hpos
      obtain ⟨g5, c5, hv5, hg5⟩ : ∃ g5 c5, v5 = .slice (some ⟨g5, 0, none⟩) nb c5 ∧ wq.heap.size ≤ g5 := by
        rcases hf5.own.2 with ⟨_, h0⟩ | ⟨g, cap, cur, e, _⟩
        · omega
        · exact ⟨g, cap, by rw [e, HADS.out.1], (hf5.new g (by rw [e]; rfl)).1⟩
      subst hv5
      have h5o := hf5.own
      rw [HADS.out.1] at h5o
      have g5a := h5o.cells (g := g5) rfl qa _ (flat_at1 ads qa _ HADS.out.2)
      rw [Go.WideShapes.add_plain, Nat.zero_add] at g5a
      have g5f : ∀ j, w5.frozen? ⟨g5, j, none⟩ = false := fun j => by
        rcases h5o.2 with ⟨e, _⟩ | ⟨g', cap', cur, e, _, hg, _⟩
        · cases e
        · cases e; exact frozen_of_row w5 g5 j cur 65 hg
      have HO6 : Hid ((w5.setCell ⟨g5, qa, none⟩ (.pointer (some ⟨w1.heap.size, 0, none⟩))).ownsRow 0 65 1 (.slice (some ⟨g5, 0, none⟩) nb c5) nb ((ads.set qa w1.heap.size).flatMap ptv)) := by
        have := (h5o.stored qa (.pointer (some ⟨w1.heap.size, 0, none⟩))).1
        rw [flat_set1 _ ads qa (by rw [HADS.out.1]; exact hat)] at this
        exact this
      have HX5 : Hid _ := HXQ.out.next hf5.bel
      have HR5 : Hid _ := HRQ.out.next hf5.bel
      have HD5 : Hid _ := HDQ.out.next hf5.bel
      have HB5 : Hid (Below wq.heap.size wq w5) := hf5.bel
      have hXs : w.heap.size < w1.heap.size := by have := HS1.out; omega
      have hRs : w.heap.size + 2 < w1.heap.size := by have := HS1.out; omega
      have hQs : w1.heap.size < wq.heap.size := HDQ.out.lt
      have n1 : w.heap.size ≠ g5 := by omega
      have n2 : w.heap.size + 2 ≠ g5 := by omega
      have n3 : w.heap.size + 2 ≠ w.heap.size := by omega
      have HX6 : Hid (CellsF (w5.setCell ⟨g5, qa, none⟩ (.pointer (some ⟨w1.heap.size, 0, none⟩))) w.heap.size [.pointer (some ⟨p, 0, none⟩), .int .i64 c]) := HX5.out.far (heap_set _ _ _ n1)
      obtain ⟨w6, hw6⟩ : ∃ w6, w5.setCell ⟨g5, qa, none⟩ (.pointer (some ⟨w1.heap.size, 0, none⟩)) = w6 := ⟨_, rfl⟩
      have HR6 : Hid (CellsF w6 (w.heap.size + 2) [.pointer none, .int .i64 0]) := by show CellsF _ _ _; rw [← hw6]; exact HR5.out.far (heap_set _ _ _ n2)
      have HS6 : Hid (w6.heap.size = w5.heap.size) := by show _ = _; rw [← hw6, size_set]
      have HB6 : Hid (∀ k, k < wq.heap.size → w6.heap[k]? = wq.heap[k]?) := fun k hk => by rw [← hw6]; exact (heap_set _ _ _ (by omega)).trans (HB5.out.block k hk)
      rw [hw6] at HX6 HO6
      obtain ⟨w7, hw7⟩ : ∃ w7, w6.alloc (.cells #[.slice (some ⟨g5, 0, none⟩) nb c5] 51) = w7 := ⟨_, rfl⟩
      have HP7 : Hid (CellsF w7 w6.heap.size [.slice (some ⟨g5, 0, none⟩) nb c5]) := by show CellsF _ _ _; rw [← hw7]; exact CellsF.new w6 [.slice (some ⟨g5, 0, none⟩) nb c5] 51 (by simp)
      have HB7 : Hid (Below w6.heap.size w6 w7) := by show Below _ _ _; rw [← hw7]; exact below1 _ _
      have HX7 : Hid _ := HX6.out.next HB7.out
      have HR7 : Hid _ := HR6.out.next HB7.out
      have HX8 : Hid (CellsF (w7.setCell ⟨w.heap.size, 0, none⟩ (.pointer (some ⟨w6.heap.size, 0, none⟩))) w.heap.size [.pointer (some ⟨w6.heap.size, 0, none⟩), .int .i64 c]) := HX7.out.set 0 _ (by simp)
      obtain ⟨w8, hw8⟩ : ∃ w8, w7.setCell ⟨w.heap.size, 0, none⟩ (.pointer (some ⟨w6.heap.size, 0, none⟩)) = w8 := ⟨_, rfl⟩
      rw [hw8] at HX8
      have HR8 : Hid (CellsF w8 (w.heap.size + 2) [.pointer none, .int .i64 0]) := by show CellsF _ _ _; rw [← hw8]; exact HR7.out.far (heap_set _ _ _ n3)
      have HW6 : Hid (w5.setCell ⟨g5, qa, none⟩ (.pointer (some ⟨w1.heap.size, 0, none⟩)) = w6) := hw6
      have HW7 : Hid (w6.alloc (.cells #[.slice (some ⟨g5, 0, none⟩) nb c5] 51) = w7) := hw7
      have HW8 : Hid (w7.setCell ⟨w.heap.size, 0, none⟩ (.pointer (some ⟨w6.heap.size, 0, none⟩)) = w8) := hw8
      have HA : Hid ((w5.setCell ⟨g5, qa, none⟩ (.pointer (some ⟨w1.heap.size, 0, none⟩))) = w6) := hw6
      have HBE : Hid (((w5.setCell ⟨g5, qa, none⟩ (.pointer (some ⟨w1.heap.size, 0, none⟩))).alloc (.cells #[.slice (some ⟨g5, 0, none⟩) nb c5] 51)) = w7) := by show _ = _; rw [hw6, hw7]
      have HCE : Hid ((((w5.setCell ⟨g5, qa, none⟩ (.pointer (some ⟨w1.heap.size, 0, none⟩))).alloc (.cells #[.slice (some ⟨g5, 0, none⟩) nb c5] 51)).setCell ⟨w.heap.size, 0, none⟩ (.pointer (some ⟨w5.heap.size, 0, none⟩))) = w8) := by show _ = _; rw [hw6, hw7, ← HS6.out]; exact hw8
      have fb0 : ((w5.setCell ⟨g5, qa, none⟩ (.pointer (some ⟨w1.heap.size, 0, none⟩))).alloc (.cells #[.slice (some ⟨g5, 0, none⟩) nb c5] 51)).cell? ⟨w.heap.size, 0, none⟩ = some (.pointer (some ⟨p, 0, none⟩)) := by rw [HBE.out]; exact HX7.out.cs 0 _ rfl
      have fbz : ∀ j, ((w5.setCell ⟨g5, qa, none⟩ (.pointer (some ⟨w1.heap.size, 0, none⟩))).alloc (.cells #[.slice (some ⟨g5, 0, none⟩) nb c5] 51)).frozen? ⟨w.heap.size, j, none⟩ = false := by rw [HBE.out]; exact HX7.out.fz
      have fc0 : (((w5.setCell ⟨g5, qa, none⟩ (.pointer (some ⟨w1.heap.size, 0, none⟩))).alloc (.cells #[.slice (some ⟨g5, 0, none⟩) nb c5] 51)).setCell ⟨w.heap.size, 0, none⟩ (.pointer (some ⟨w5.heap.size, 0, none⟩))).cell? ⟨w.heap.size, 0, none⟩ = some (.pointer (some ⟨w5.heap.size, 0, none⟩)) := by rw [HCE.out, ← HS6.out]; exact HX8.out.cs 0 _ rfl
      have fc1 : (((w5.setCell ⟨g5, qa, none⟩ (.pointer (some ⟨w1.heap.size, 0, none⟩))).alloc (.cells #[.slice (some ⟨g5, 0, none⟩) nb c5] 51)).setCell ⟨w.heap.size, 0, none⟩ (.pointer (some ⟨w5.heap.size, 0, none⟩))).cell? ⟨w.heap.size, 1, none⟩ = some (.int .i64 c) := by rw [HCE.out]; exact HX8.out.cs 1 _ rfl
      have fr0 : (((w5.setCell ⟨g5, qa, none⟩ (.pointer (some ⟨w1.heap.size, 0, none⟩))).alloc (.cells #[.slice (some ⟨g5, 0, none⟩) nb c5] 51)).setCell ⟨w.heap.size, 0, none⟩ (.pointer (some ⟨w5.heap.size, 0, none⟩))).cell? ⟨w.heap.size + 1 + 1, 0, none⟩ = some (.pointer none) := by rw [HCE.out]; exact HR8.out.cs 0 _ rfl
      have fr1 : (((w5.setCell ⟨g5, qa, none⟩ (.pointer (some ⟨w1.heap.size, 0, none⟩))).alloc (.cells #[.slice (some ⟨g5, 0, none⟩) nb c5] 51)).setCell ⟨w.heap.size, 0, none⟩ (.pointer (some ⟨w5.heap.size, 0, none⟩))).cell? ⟨w.heap.size + 1 + 1, 1, none⟩ = some (.int .i64 0) := by rw [HCE.out]; exact HR8.out.cs 1 _ rfl
      have frz : ∀ j, (((w5.setCell ⟨g5, qa, none⟩ (.pointer (some ⟨w1.heap.size, 0, none⟩))).alloc (.cells #[.slice (some ⟨g5, 0, none⟩) nb c5] 51)).setCell ⟨w.heap.size, 0, none⟩ (.pointer (some ⟨w5.heap.size, 0, none⟩))).frozen? ⟨w.heap.size + 1 + 1, j, none⟩ = false := by rw [HCE.out]; exact HR8.out.fz
      have hqan : qa < nb := hat
      have HR9 : Hid (CellsF ((w8.setCell ⟨w.heap.size + 2, 0, none⟩ (.pointer (some ⟨w5.heap.size, 0, none⟩))).setCell ⟨w.heap.size + 2, 1, none⟩ (.int .i64 c)) (w.heap.size + 2) [.pointer (some ⟨w5.heap.size, 0, none⟩), .int .i64 c]) := HR8.out.two (by rfl) _ _
      obtain ⟨w9, hw9⟩ : ∃ w9, (w8.setCell ⟨w.heap.size + 2, 0, none⟩ (.pointer (some ⟨w5.heap.size, 0, none⟩))).setCell ⟨w.heap.size + 2, 1, none⟩ (.int .i64 c) = w9 := ⟨_, rfl⟩
      have HW9 : Hid (((((w5.setCell ⟨g5, qa, none⟩ (.pointer (some ⟨w1.heap.size, 0, none⟩))).alloc (.cells #[.slice (some ⟨g5, 0, none⟩) nb c5] 51)).setCell ⟨w.heap.size, 0, none⟩ (.pointer (some ⟨w5.heap.size, 0, none⟩))).setCell ⟨w.heap.size + 1 + 1, 0, none⟩ (.pointer (some ⟨w5.heap.size, 0, none⟩))).setCell ⟨w.heap.size + 1 + 1, 1, none⟩ (.int .i64 c) = w9) := by show _ = _; rw [HCE.out]; exact hw9
      rw [hw9] at HR9
      have HH9 : Hid (∀ k, k ≠ w.heap.size → k ≠ w.heap.size + 2 → w9.heap[k]? = w7.heap[k]?) := fun k h1 h2 => by
        rw [← hw9, ← hw8]
        exact (heap_set _ _ _ h2).trans ((heap_set _ _ _ h2).trans (heap_set _ _ _ h1))
      have HS9 : Hid (w9.heap.size = w7.heap.size) := by show _ = _; rw [← hw9, ← hw8, size_set, size_set, size_set]
      have HB9 : Hid (Below w.heap.size w w9) := by
        have hb6 : Below w.heap.size w w6 := by
          rw [← hw6]
          exact below_set (Below.next HBQ.out HB5.out) _ _ _ (by omega)
        have hb7 : Below w.heap.size w w7 := hb6.trans (HB7.out.mono hb6.size)
        show Below _ _ _
        rw [← hw9, ← hw8]
        exact below_set (below_set (below_set hb7 _ _ _ (Nat.le_refl _)) _ _ _ (by omega)) _ _ _ (by omega)
      have HFI : Hid (Ix w9 (some ⟨w5.heap.size, 0, none⟩) F' nb (M + 1)) := by
        refine HFIN.out r HSP.out w9 w1.heap.size w5.heap.size (.slice (some ⟨g5, 0, none⟩) nb c5) (.slice v3a (m2 + 1) v3c) HB9.out ?_ ?_ ?_ ?_ ?_ ?_
        · have := HP7.out.cs 0 _ rfl
          rw [HS6.out] at this
          exact (World.cell?_of_block (a := ⟨w5.heap.size, 0, none⟩) (HH9.out w5.heap.size (by have := HB5.out.size; omega) (by have := HB5.out.size; omega))).trans this
        · have hg : g5 < w6.heap.size := (World.ownsRow.lt HO6.out g5 rfl).2
          have h1 : w9.heap[g5]? = w6.heap[g5]? := (HH9.out g5 (by omega) (by omega)).trans (HB7.out.block g5 hg)
          have h2 := HO6.out
          rw [show nb = (ads.set qa w1.heap.size).length by rw [List.length_set, HADS.out.1]] at h2 ⊢
          exact Sl.own ptv_len h2 (fun g hg' => by cases hg'; exact h1)
        · intro a0' n0' c0' ea'
          have h2 := HO6.out
          have hg : g5 < w6.heap.size := (World.ownsRow.lt HO6.out g5 rfl).2
          have h1 : w9.heap[g5]? = w6.heap[g5]? := (HH9.out g5 (by omega) (by omega)).trans (HB7.out.block g5 hg)
          intro b' o' s' e'
          cases ea'
          cases e'
          rcases h2.2 with ⟨e, _⟩ | ⟨g', cap', cur, e, _, hg', _⟩
          · cases e
          · cases e; exact ⟨cur, 65, (0, 0), h1.trans hg', by decide⟩
        · intro i z hz
          have h1 : w9.heap[w1.heap.size]? = wq.heap[w1.heap.size]? := (HH9.out _ (by omega) (by omega)).trans ((HB7.out.block _ (by rw [HS6.out]; have := HB5.out.size; omega)).trans (HB6.out _ hQs))
          exact (HDQ.out.far h1).cs i z hz
        · have h1 : w9.heap[w1.heap.size]? = wq.heap[w1.heap.size]? := (HH9.out _ (by omega) (by omega)).trans ((HB7.out.block _ (by rw [HS6.out]; have := HB5.out.size; omega)).trans (HB6.out _ hQs))
          exact HTGQ.out.far h1
        · refine ⟨es' ++ [(⟨⟨k, n, s⟩, ea, L, ec⟩ : Ent)], Sl.own ev_len HOQ.out.1 (fun g hg => ?_), HT.out.mono (fun _ _ q => q.next HB9.out)⟩
          have hl := (World.ownsRow.lt HOQ.out.1 g hg).2
          have hl2 := HOQ.out.2 g hg
          exact (HH9.out g (by have := HBW.out.2; omega) (by have := HBW.out.2; omega)).trans ((HB7.out.block g (by rw [HS6.out]; have := HB5.out.size; omega)).trans (HB6.out g hl))
      have HRR : Hid ((loadVar 27 ⟨w.heap.size + 1 + 1, 0, none⟩).run Try.prog w9 = .ok (.agg #[.pointer (some ⟨w5.heap.size, 0, none⟩), .int .i64 c]) w9) := load27 (HR9.out.cs 0 _ rfl) (HR9.out.cs 1 _ rfl)
      clear hf5 h5o HCQ x0 y1 hw6 hw7 hw8 hw9 HFIN n1 n2 n3
      go_wp2_with fail
      rw [HW9.out]
      refine bodyPost_ret (end_cell rfl rfl HRR.out) rfl ?_
      exact ⟨_, rfl, HFI.out, HB9.out⟩)
end Go.Proofs.Ytgjeobmbfeinnaa
