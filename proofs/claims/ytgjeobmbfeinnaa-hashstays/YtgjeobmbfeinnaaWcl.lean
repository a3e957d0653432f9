/- widened: one entry. -/
import Derived.Test.YtgjeobmbfeinnaaWid
namespace Go.Proofs.Ytgjeobmbfeinnaa
open Go.ChangeShapes Go.WideShapes Go.RowKit
set_option linter.unusedVariables false
set_option maxRecDepth 100000

set_option maxHeartbeats 8000000 in
theorem clo32_is (e : Ent) (he : e.v.fit) (B tb pw gl cl nb : Nat) (ads : List Nat) (us : List Value) (ess : List (List Ent)) (es : List Ent) (w : World) (h : Wd w B tb pw gl cl nb ads us ess) (hB : B ≤ w.heap.size) (hn : 0 < nb) (hn2 : nb ≤ 1000) (hes : ess[hs e.v % (8 * nb)]? = some es) (hel : es.length ≤ 990) :
    Calls Try.prog 32 #[e.val, .pointer (some ⟨tb, 0, none⟩)] w fun r w' => r = .returned (.tuple #[]) ∧ (∃ us', Wd w' B tb pw gl cl nb ads us' (ess.set (hs e.v % (8 * nb)) (es ++ [e]))) ∧ Below B w w' := by
  have hq : hs e.v % (8 * nb) = 8 * (hs e.v / 8 % nb) + hs e.v % 8 := (place_mod _ _ hn).symm
  have hqa : hs e.v / 8 % nb < nb := place_lt _ _ hn
  have hqi : hs e.v % 8 < 8 := Nat.mod_lt _ (by omega)
  have HP : Hid (∀ w' : World, w'.cell? ⟨pw, 0, none⟩ = some (.slice (some ⟨gl, 0, none⟩) nb cl) → Calls Try.prog 25 #[.pointer (some ⟨pw, 0, none⟩), e.v.v] w' fun r w'' => r = .returned (.tuple #[.int .i64 (hs e.v / 8 % nb : Nat), .int .i64 (hs e.v % 8 : Nat)]) ∧ Below w'.heap.size w' w'') := fun w' hc => placeC_is pw nb _ _ e.v he hn hn2 w' hc
  obtain ⟨g, hg⟩ : ∃ g, ads[hs e.v / 8 % nb]? = some g := ⟨_, List.getElem?_eq_getElem (by rw [h.nads]; exact hqa)⟩
  obtain ⟨u, hu⟩ : ∃ u, us[hs e.v % (8 * nb)]? = some u := ⟨_, List.getElem?_eq_getElem (by rw [h.nus]; exact Nat.mod_lt _ (by omega))⟩
  generalize hs e.v / 8 % nb = qa at *
  generalize hs e.v % 8 = qi at *
  generalize hs e.v % (8 * nb) = q at *
  have HWd : Hid (Wd w B tb pw gl cl nb ads us ess) := h
  have HG : Hid (ads[qa]? = some g ∧ us[q]? = some u ∧ ess[q]? = some es) := ⟨hg, hu, hes⟩
  have HEL : Hid (es.length ≤ 990) := hel
  have HBB : Hid (B ≤ w.heap.size) := hB
  have HROW : Hid (w.ownsRow 0 61 4 u es.length (es.flatMap ev)) := h.row q u es hu hes
  have t0 : w.cell? ⟨tb, 0, none⟩ = some (.pointer (some ⟨pw, 0, none⟩)) := h.t.cell rfl
  have p0 : w.cell? ⟨pw, 0, none⟩ = some (.slice (some ⟨gl, 0, none⟩) nb cl) := h.p.cell rfl
  have l0 : w.cell? ⟨gl, qa, none⟩ = some (.pointer (some ⟨g, 0, none⟩)) := h.l.cell (flat_at1 ads qa g hg)
  have b0 : w.cell? ⟨g, qi, none⟩ = some u := (h.blk qa g hg).cell (by rw [take8_at hqi, ← hq]; exact hu)
  have bf : ∀ j, w.frozen? ⟨g, j, none⟩ = false := (h.blk qa g hg).fz
  have hncl := h.ncl
  obtain ⟨ua, uc, hue⟩ := own_form HROW.out
  obtain ⟨⟨k, n, s⟩, ea, en, ec⟩ := e
  have HC0 : Hid (w.cell? ⟨tb, 0, none⟩ = some (.pointer (some ⟨pw, 0, none⟩)) ∧ w.cell? ⟨pw, 0, none⟩ = some (.slice (some ⟨gl, 0, none⟩) nb cl) ∧ w.cell? ⟨gl, qa, none⟩ = some (.pointer (some ⟨g, 0, none⟩)) ∧ w.cell? ⟨g, qi, none⟩ = some u ∧ (∀ j, w.frozen? ⟨g, j, none⟩ = false)) := ⟨t0, p0, l0, b0, bf⟩
  have t0a : (w.alloc (.cells #[.int .i64 k, .int .i64 n, .string s, .slice ea en ec] 61)).cell? ⟨tb, 0, none⟩ = some (.pointer (some ⟨pw, 0, none⟩)) := ((below1 w _).cell (p := ⟨tb, 0, none⟩) (World.block_lt_of_cell? w _ t0)).trans t0
  have HPW : Hid ((w.alloc (.cells #[.int .i64 k, .int .i64 n, .string s, .slice ea en ec] 61)).cell? ⟨pw, 0, none⟩ = some (.slice (some ⟨gl, 0, none⟩) nb cl)) := ((below1 w _).cell (p := ⟨pw, 0, none⟩) (World.block_lt_of_cell? w _ p0)).trans p0
  have HE0 : Hid (CellsF (w.alloc (.cells #[.int .i64 k, .int .i64 n, .string s, .slice ea en ec] 61)) w.heap.size [.int .i64 k, .int .i64 n, .string s, .slice ea en ec]) := CellsF.new w [.int .i64 k, .int .i64 n, .string s, .slice ea en ec] 61 (by simp)
  have HB0 : Hid (Below w.heap.size w (w.alloc (.cells #[.int .i64 k, .int .i64 n, .string s, .slice ea en ec] 61))) := below1 _ _
  clear h hg hu hes hel hB t0 p0 l0 b0 bf he
  go_enter Try.func32, Try.ntmps32
  go_wp2_with fail
  refine Calls.mono (HP.out _ HPW.out) ?_; rintro r w1 ⟨rfl, k1⟩
  have HB1 : Hid (Below w.heap.size w w1) := Below.next HB0.out k1
  have HE1 : Hid _ := HE0.out.next k1
  -- the world, its loads and what is appended
  obtain ⟨h0, h1, h2, h3, h4⟩ := HC0.out
  have hgl0 := World.block_lt_of_cell? w _ h3
  have y0 := (HB1.out.cell (p := ⟨tb, 0, none⟩) (World.block_lt_of_cell? w _ h0)).trans h0
  have y1 := (HB1.out.cell (p := ⟨pw, 0, none⟩) (World.block_lt_of_cell? w _ h1)).trans h1
  have y2 := (HB1.out.cell (p := ⟨gl, qa, none⟩) (World.block_lt_of_cell? w _ h2)).trans h2
  have y3 := (HB1.out.cell (p := ⟨g, qi, none⟩) hgl0).trans h3
  have hbl : Below w1.heap.size w1 (w1.alloc (.cells #[.int .i64 k, .int .i64 n, .string s, .slice ea en ec] 61)) := below1 _ _
  have y0a := (hbl.cell (p := ⟨tb, 0, none⟩) (World.block_lt_of_cell? w1 _ y0)).trans y0
  have y1a := (hbl.cell (p := ⟨pw, 0, none⟩) (World.block_lt_of_cell? w1 _ y1)).trans y1
  have y2a := (hbl.cell (p := ⟨gl, qa, none⟩) (World.block_lt_of_cell? w1 _ y2)).trans y2
  have y3a := (hbl.cell (p := ⟨g, qi, none⟩) (World.block_lt_of_cell? w1 _ y3)).trans y3
  have e0 := HE1.out.cs 0 _ rfl
  have e1 := HE1.out.cs 1 _ rfl
  have e2 := HE1.out.cs 2 _ rfl
  have e3 := HE1.out.cs 3 _ rfl
  have hrow1 : w1.ownsRow 0 61 4 u es.length (es.flatMap ev) := ownsRow_kept HROW.out (fun g hg => HB1.out.block g (World.ownsRow.lt HROW.out g hg).2)
  have hbl2 : Below w1.heap.size w1 (w1.alloc (.cells #[.int .i64 k, .int .i64 n, .string s, .slice ea en ec] 61)).drew := (below1 _ _).drew
  obtain ⟨u', w2, ra, ho2, hg2, hb2⟩ := appE_is (w := (w1.alloc (.cells #[.int .i64 k, .int .i64 n, .string s, .slice ea en ec] 61)).drew) (l := es) (l' := [(⟨⟨k, n, s⟩, ea, en, ec⟩ : Ent)]) (ownsRow_kept hrow1 (fun g hg => hbl2.block g (World.ownsRow.lt hrow1 g hg).2)) (.slice (some ⟨w1.heap.size, 0, none⟩) 1 1) ⟨some ⟨w1.heap.size, 0, none⟩, 1, rfl, rw_lit ev_len (CellsF.far (CellsF.new w1 [.int .i64 k, .int .i64 n, .string s, .slice ea en ec] 61 (by simp)) rfl), Nat.le_refl _, fun e => by cases e⟩ (by rw [List.length_append]; have := HEL.out; simp; omega)
  have hgr : w.grownBy w2 u.ownBlock := gb_trans (gb_below (gb_refl w _) (Below.next HB1.out hbl2)) hg2
  have hgn : u.ownBlock ≠ some g := fun e => (HWd.out.blk qa g HG.out.1).ne_row HROW.out e (by decide) rfl
  have z3 := hgr.cell (a := ⟨g, qi, none⟩) h3 (fun e => hgn e.symm)
  have zf : ∀ j, w2.frozen? ⟨g, j, none⟩ = false := fun j => (World.frozen?_of_block (a := ⟨g, j, none⟩) (hgr.block g hgl0 (fun e => hgn e.symm))).trans (h4 j)
  have ht2 : u.ownBlock ≠ some tb := fun e => HWd.out.t.ne_row HROW.out e (by decide) rfl
  have hp2 : u.ownBlock ≠ some pw := fun e => HWd.out.p.ne_row HROW.out e (by decide) rfl
  have hl2 : u.ownBlock ≠ some gl := fun e => HWd.out.l.ne_row HROW.out e (by decide) rfl
  have z0 := hgr.cell (a := ⟨tb, 0, none⟩) h0 (fun e => ht2 e.symm)
  have z1 := hgr.cell (a := ⟨pw, 0, none⟩) h1 (fun e => hp2 e.symm)
  have z2 := hgr.cell (a := ⟨gl, qa, none⟩) h2 (fun e => hl2 e.symm)
  have HFIN : Hid (Wd (w2.setCell ⟨g, qi, none⟩ u') B tb pw gl cl nb ads (us.set q u') (ess.set q (es ++ [(⟨⟨k, n, s⟩, ea, en, ec⟩ : Ent)])) ∧ Below B w (w2.setCell ⟨g, qi, none⟩ u')) := by
    refine ⟨HWd.out.more hq hqi HG.out.1 HG.out.2.1 HG.out.2.2 hgr ho2 ?_ HBB.out rfl, below_set ((Below.refl B w).grown hgr HBB.out (fun k hk => HWd.out.brow q u k HG.out.2.1 hk)) _ _ _ (HWd.out.bads qa g HG.out.1)⟩
    rcases hb2 with e | e
    · exact .inl e
    · exact .inr ⟨_, e, Nat.le_trans HB1.out.size (by show _ ≤ (w1.alloc _).heap.size; rw [size_alloc]; omega)⟩
  subst hue
  have RA : Hid ((Builtin.append_ #[64, 64] 64 #[.slice ua es.length uc, .slice (some ⟨w1.heap.size, 0, none⟩) 1 1]).run Try.prog (w1.alloc (.cells #[.int .i64 k, .int .i64 n, .string s, .slice ea en ec] 61)).drew = .ok u' w2) := ra
  have hqai : (qa : Int) < (nb : Int) := by omega
  have hqii : (qi : Int) < 8 := by omega
  obtain ⟨u'a, u'c, hu'⟩ := own_form ho2
  obtain ⟨nn, hnn⟩ : ∃ nn, (es ++ [(⟨⟨k, n, s⟩, ea, en, ec⟩ : Ent)]).length = nn := ⟨_, rfl⟩
  rw [hnn] at hu'
  subst hu'
  obtain ⟨ne, hne⟩ : ∃ ne, es.length = ne := ⟨_, rfl⟩
  rw [hne] at RA y3 y3a z3
  have HS0 : Hid ((w1.drew.cell? ⟨tb, 0, none⟩ = some (.pointer (some ⟨pw, 0, none⟩)) ∧ w1.drew.cell? ⟨pw, 0, none⟩ = some (.slice (some ⟨gl, 0, none⟩) nb cl) ∧ w1.drew.cell? ⟨gl, qa, none⟩ = some (.pointer (some ⟨g, 0, none⟩)) ∧ w1.drew.cell? ⟨w.heap.size, 0, none⟩ = some (.int .i64 k) ∧ w1.drew.cell? ⟨w.heap.size, 1, none⟩ = some (.int .i64 n) ∧ w1.drew.cell? ⟨w.heap.size, 2, none⟩ = some (.string s) ∧ w1.drew.cell? ⟨w.heap.size, 3, none⟩ = some (.slice ea en ec))) := ⟨y0, y1, y2, e0, e1, e2, e3⟩
  have hE : CellsF w1 w.heap.size [.int .i64 k, .int .i64 n, .string s, .slice ea en ec] := HE1.out
  have hEa := hE.next hbl
  have HS1 : Hid (((w1.alloc (.cells #[.int .i64 k, .int .i64 n, .string s, .slice ea en ec] 61)).drew.cell? ⟨tb, 0, none⟩ = some (.pointer (some ⟨pw, 0, none⟩)) ∧ (w1.alloc (.cells #[.int .i64 k, .int .i64 n, .string s, .slice ea en ec] 61)).drew.cell? ⟨pw, 0, none⟩ = some (.slice (some ⟨gl, 0, none⟩) nb cl) ∧ (w1.alloc (.cells #[.int .i64 k, .int .i64 n, .string s, .slice ea en ec] 61)).drew.cell? ⟨gl, qa, none⟩ = some (.pointer (some ⟨g, 0, none⟩)) ∧ (w1.alloc (.cells #[.int .i64 k, .int .i64 n, .string s, .slice ea en ec] 61)).drew.cell? ⟨w.heap.size, 0, none⟩ = some (.int .i64 k) ∧ (w1.alloc (.cells #[.int .i64 k, .int .i64 n, .string s, .slice ea en ec] 61)).drew.cell? ⟨w.heap.size, 1, none⟩ = some (.int .i64 n) ∧ (w1.alloc (.cells #[.int .i64 k, .int .i64 n, .string s, .slice ea en ec] 61)).drew.cell? ⟨w.heap.size, 2, none⟩ = some (.string s) ∧ (w1.alloc (.cells #[.int .i64 k, .int .i64 n, .string s, .slice ea en ec] 61)).drew.cell? ⟨w.heap.size, 3, none⟩ = some (.slice ea en ec))) := ⟨y0a, y1a, y2a, hEa.cs 0 _ rfl, hEa.cs 1 _ rfl, hEa.cs 2 _ rfl, hEa.cs 3 _ rfl⟩
  have hE2 : CellsF w2 w.heap.size [.int .i64 k, .int .i64 n, .string s, .slice ea en ec] := hEa.far (hg2.block w.heap.size hEa.lt (fun e => by have := (World.ownsRow.lt HROW.out _ e.symm).2; omega))
  have HS2 : Hid ((w2.cell? ⟨tb, 0, none⟩ = some (.pointer (some ⟨pw, 0, none⟩)) ∧ w2.cell? ⟨pw, 0, none⟩ = some (.slice (some ⟨gl, 0, none⟩) nb cl) ∧ w2.cell? ⟨gl, qa, none⟩ = some (.pointer (some ⟨g, 0, none⟩)) ∧ w2.cell? ⟨w.heap.size, 0, none⟩ = some (.int .i64 k) ∧ w2.cell? ⟨w.heap.size, 1, none⟩ = some (.int .i64 n) ∧ w2.cell? ⟨w.heap.size, 2, none⟩ = some (.string s) ∧ w2.cell? ⟨w.heap.size, 3, none⟩ = some (.slice ea en ec))) := ⟨z0, z1, z2, hE2.cs 0 _ rfl, hE2.cs 1 _ rfl, hE2.cs 2 _ rfl, hE2.cs 3 _ rfl⟩
  have hgw : g < w.heap.size := hgl0
  have hgt : g ≠ tb := fun e => (HWd.out.blk qa g HG.out.1).ne HWd.out.t (by decide) e
  have hgp : g ≠ pw := fun e => (HWd.out.blk qa g HG.out.1).ne HWd.out.p (by decide) e
  have hgg : g ≠ gl := fun e => (HWd.out.blk qa g HG.out.1).ne HWd.out.l (by decide) e
  have HS3 : Hid (((w2.setCell ⟨g, qi, none⟩ (.slice u'a nn u'c)).cell? ⟨tb, 0, none⟩ = some (.pointer (some ⟨pw, 0, none⟩)) ∧ (w2.setCell ⟨g, qi, none⟩ (.slice u'a nn u'c)).cell? ⟨pw, 0, none⟩ = some (.slice (some ⟨gl, 0, none⟩) nb cl) ∧ (w2.setCell ⟨g, qi, none⟩ (.slice u'a nn u'c)).cell? ⟨gl, qa, none⟩ = some (.pointer (some ⟨g, 0, none⟩)) ∧ (w2.setCell ⟨g, qi, none⟩ (.slice u'a nn u'c)).cell? ⟨w.heap.size, 0, none⟩ = some (.int .i64 k) ∧ (w2.setCell ⟨g, qi, none⟩ (.slice u'a nn u'c)).cell? ⟨w.heap.size, 1, none⟩ = some (.int .i64 n) ∧ (w2.setCell ⟨g, qi, none⟩ (.slice u'a nn u'c)).cell? ⟨w.heap.size, 2, none⟩ = some (.string s) ∧ (w2.setCell ⟨g, qi, none⟩ (.slice u'a nn u'c)).cell? ⟨w.heap.size, 3, none⟩ = some (.slice ea en ec))) := ⟨(cell_put _ (fun e => hgt e.1)).trans z0, (cell_put _ (fun e => hgp e.1)).trans z1, (cell_put _ (fun e => hgg e.1)).trans z2, (cell_put _ (fun e => by have := e.1; omega)).trans (hE2.cs 0 _ rfl), (cell_put _ (fun e => by have := e.1; omega)).trans (hE2.cs 1 _ rfl), (cell_put _ (fun e => by have := e.1; omega)).trans (hE2.cs 2 _ rfl), (cell_put _ (fun e => by have := e.1; omega)).trans (hE2.cs 3 _ rfl)⟩
  clear hE hEa hE2 hgt hgp hgg y0 y1 y2 y0a y1a y2a z0 z1 z2 e0 e1 e2 e3
  clear k1 h0 h1 h2 h3 h4 hbl hrow1 hbl2 ra ho2 hg2 hb2 hgr hgn hgl0 hnn hne HP t0a ht2 hp2 hl2
  go_wp2_with fail
  refine wp_region_held_drew (S := (fun (w' : World) => (w'.cell? ⟨tb, 0, none⟩ = some (.pointer (some ⟨pw, 0, none⟩)) ∧ w'.cell? ⟨pw, 0, none⟩ = some (.slice (some ⟨gl, 0, none⟩) nb cl) ∧ w'.cell? ⟨gl, qa, none⟩ = some (.pointer (some ⟨g, 0, none⟩)) ∧ w'.cell? ⟨w.heap.size, 0, none⟩ = some (.int .i64 k) ∧ w'.cell? ⟨w.heap.size, 1, none⟩ = some (.int .i64 n) ∧ w'.cell? ⟨w.heap.size, 2, none⟩ = some (.string s) ∧ w'.cell? ⟨w.heap.size, 3, none⟩ = some (.slice ea en ec)))) (by kernel_rfl) HS0.out (fun hHeld => ?_)
  refine wpAnyH_take (i := 0) (oi := { dst := some 12, op := Op.load 25 (Operand.tmp 1), type := 25, pos := "hash.go:119", after := #[], guard := none }) (v := .pointer (some ⟨pw, 0, none⟩)) rfl (by kernel_rfl) (by kernel_rfl) (by kernel_rfl) (fun _ _ _ h => h) (Or.inl ⟨by rfl, ?_⟩) (by with_reducible assumption) ?_
  · intro wx hSw
    (try dsimp only at hSw)
    first | (go_simp; done) | (go_simp; with_reducible rfl)
  try simp only [Act.put, List.setIfInBounds_toArray, List.set_cons_zero, List.set_cons_succ]
  refine wpAnyH_take (i := 1) (oi := { dst := some 13, op := Op.nilCheck (Operand.tmp 12), type := 0, pos := "hash.go:119", after := #[{ on := 0, ground := Ground.data }], guard := none }) (v := .pointer (some ⟨pw, 0, none⟩)) rfl (by kernel_rfl) (by kernel_rfl) (by kernel_rfl) (fun _ _ _ h => h) (Or.inl ⟨by rfl, ?_⟩) (by with_reducible assumption) ?_
  · intro wx hSw
    (try dsimp only at hSw)
    first | (go_simp; done) | (go_simp; with_reducible rfl)
  try simp only [Act.put, List.setIfInBounds_toArray, List.set_cons_zero, List.set_cons_succ]
  refine wpAnyH_take (i := 2) (oi := { dst := some 14, op := Op.fieldAddr 51 (Operand.tmp 13) 0, type := 0, pos := "hash.go:119", after := #[{ on := 1, ground := Ground.data }], guard := none }) (v := .pointer (some ⟨pw, 0, none⟩)) rfl (by kernel_rfl) (by kernel_rfl) (by kernel_rfl) (fun _ _ _ h => h) (Or.inl ⟨by rfl, ?_⟩) (by with_reducible assumption) ?_
  · intro wx hSw
    (try dsimp only at hSw)
    first | (go_simp; done) | (go_simp; with_reducible rfl)
  try simp only [Act.put, List.setIfInBounds_toArray, List.set_cons_zero, List.set_cons_succ]
  refine wpAnyH_take (i := 3) (oi := { dst := some 15, op := Op.load 49 (Operand.tmp 14), type := 49, pos := "hash.go:119", after := #[{ on := 2, ground := Ground.data }], guard := none }) (v := .slice (some ⟨gl, 0, none⟩) nb cl) rfl (by kernel_rfl) (by kernel_rfl) (by kernel_rfl) (fun _ _ _ h => h) (Or.inl ⟨by rfl, ?_⟩) (by with_reducible assumption) ?_
  · intro wx hSw
    (try dsimp only at hSw)
    first | (go_simp; done) | (go_simp; with_reducible rfl)
  try simp only [Act.put, List.setIfInBounds_toArray, List.set_cons_zero, List.set_cons_succ]
  refine wpAnyH_take (i := 4) (oi := { dst := some 16, op := Op.move (Operand.tmp 3), type := 3, pos := "hash.go:119", after := #[], guard := none }) (v := .int .i64 qa) rfl (by kernel_rfl) (by kernel_rfl) (by kernel_rfl) (fun _ _ _ h => h) (Or.inl ⟨by rfl, ?_⟩) (by with_reducible assumption) ?_
  · intro wx hSw
    (try dsimp only at hSw)
    first | (go_simp; done) | (go_simp; with_reducible rfl)
  try simp only [Act.put, List.setIfInBounds_toArray, List.set_cons_zero, List.set_cons_succ]
  refine wpAnyH_take (i := 5) (oi := { dst := some 17, op := Op.indexAddr 49 (Operand.tmp 15) (Operand.tmp 16), type := 0, pos := "hash.go:119", after := #[{ on := 3, ground := Ground.data }, { on := 4, ground := Ground.data }], guard := none }) (v := .pointer (some ⟨gl, qa, none⟩)) rfl (by kernel_rfl) (by kernel_rfl) (by kernel_rfl) (fun _ _ _ h => h) (Or.inl ⟨by rfl, ?_⟩) (by with_reducible assumption) ?_
  · intro wx hSw
    (try dsimp only at hSw)
    first | (go_simp; done) | (go_simp; with_reducible rfl)
  try simp only [Act.put, List.setIfInBounds_toArray, List.set_cons_zero, List.set_cons_succ]
  refine wpAnyH_take (i := 6) (oi := { dst := some 18, op := Op.load 65 (Operand.tmp 17), type := 65, pos := "hash.go:119", after := #[{ on := 5, ground := Ground.data }], guard := none }) (v := .pointer (some ⟨g, 0, none⟩)) rfl (by kernel_rfl) (by kernel_rfl) (by kernel_rfl) (fun _ _ _ h => h) (Or.inl ⟨by rfl, ?_⟩) (by with_reducible assumption) ?_
  · intro wx hSw
    (try dsimp only at hSw)
    first | (go_simp; done) | (go_simp; with_reducible rfl)
  try simp only [Act.put, List.setIfInBounds_toArray, List.set_cons_zero, List.set_cons_succ]
  refine wpAnyH_take (i := 7) (oi := { dst := some 19, op := Op.move (Operand.tmp 4), type := 3, pos := "hash.go:119", after := #[], guard := none }) (v := .int .i64 qi) rfl (by kernel_rfl) (by kernel_rfl) (by kernel_rfl) (fun _ _ _ h => h) (Or.inl ⟨by rfl, ?_⟩) (by with_reducible assumption) ?_
  · intro wx hSw
    (try dsimp only at hSw)
    first | (go_simp; done) | (go_simp; with_reducible rfl)
  try simp only [Act.put, List.setIfInBounds_toArray, List.set_cons_zero, List.set_cons_succ]
  refine wpAnyH_take (i := 8) (oi := { dst := some 20, op := Op.load 25 (Operand.tmp 1), type := 25, pos := "hash.go:119", after := #[], guard := none }) (v := .pointer (some ⟨pw, 0, none⟩)) rfl (by kernel_rfl) (by kernel_rfl) (by kernel_rfl) (fun _ _ _ h => h) (Or.inl ⟨by rfl, ?_⟩) (by with_reducible assumption) ?_
  · intro wx hSw
    (try dsimp only at hSw)
    first | (go_simp; done) | (go_simp; with_reducible rfl)
  try simp only [Act.put, List.setIfInBounds_toArray, List.set_cons_zero, List.set_cons_succ]
  refine wpAnyH_take (i := 9) (oi := { dst := some 21, op := Op.nilCheck (Operand.tmp 20), type := 0, pos := "hash.go:119", after := #[{ on := 8, ground := Ground.data }], guard := none }) (v := .pointer (some ⟨pw, 0, none⟩)) rfl (by kernel_rfl) (by kernel_rfl) (by kernel_rfl) (fun _ _ _ h => h) (Or.inl ⟨by rfl, ?_⟩) (by with_reducible assumption) ?_
  · intro wx hSw
    (try dsimp only at hSw)
    first | (go_simp; done) | (go_simp; with_reducible rfl)
  try simp only [Act.put, List.setIfInBounds_toArray, List.set_cons_zero, List.set_cons_succ]
  refine wpAnyH_take (i := 10) (oi := { dst := some 22, op := Op.fieldAddr 51 (Operand.tmp 21) 0, type := 0, pos := "hash.go:119", after := #[{ on := 9, ground := Ground.data }], guard := none }) (v := .pointer (some ⟨pw, 0, none⟩)) rfl (by kernel_rfl) (by kernel_rfl) (by kernel_rfl) (fun _ _ _ h => h) (Or.inl ⟨by rfl, ?_⟩) (by with_reducible assumption) ?_
  · intro wx hSw
    (try dsimp only at hSw)
    first | (go_simp; done) | (go_simp; with_reducible rfl)
  try simp only [Act.put, List.setIfInBounds_toArray, List.set_cons_zero, List.set_cons_succ]
  refine wpAnyH_take (i := 11) (oi := { dst := some 23, op := Op.load 49 (Operand.tmp 22), type := 49, pos := "hash.go:119", after := #[{ on := 10, ground := Ground.data }], guard := none }) (v := .slice (some ⟨gl, 0, none⟩) nb cl) rfl (by kernel_rfl) (by kernel_rfl) (by kernel_rfl) (fun _ _ _ h => h) (Or.inl ⟨by rfl, ?_⟩) (by with_reducible assumption) ?_
  · intro wx hSw
    (try dsimp only at hSw)
    first | (go_simp; done) | (go_simp; with_reducible rfl)
  try simp only [Act.put, List.setIfInBounds_toArray, List.set_cons_zero, List.set_cons_succ]
  refine wpAnyH_take (i := 12) (oi := { dst := some 24, op := Op.move (Operand.tmp 3), type := 3, pos := "hash.go:119", after := #[], guard := none }) (v := .int .i64 qa) rfl (by kernel_rfl) (by kernel_rfl) (by kernel_rfl) (fun _ _ _ h => h) (Or.inl ⟨by rfl, ?_⟩) (by with_reducible assumption) ?_
  · intro wx hSw
    (try dsimp only at hSw)
    first | (go_simp; done) | (go_simp; with_reducible rfl)
  try simp only [Act.put, List.setIfInBounds_toArray, List.set_cons_zero, List.set_cons_succ]
  refine wpAnyH_take (i := 13) (oi := { dst := some 25, op := Op.indexAddr 49 (Operand.tmp 23) (Operand.tmp 24), type := 0, pos := "hash.go:119", after := #[{ on := 11, ground := Ground.data }, { on := 12, ground := Ground.data }], guard := none }) (v := .pointer (some ⟨gl, qa, none⟩)) rfl (by kernel_rfl) (by kernel_rfl) (by kernel_rfl) (fun _ _ _ h => h) (Or.inl ⟨by rfl, ?_⟩) (by with_reducible assumption) ?_
  · intro wx hSw
    (try dsimp only at hSw)
    first | (go_simp; done) | (go_simp; with_reducible rfl)
  try simp only [Act.put, List.setIfInBounds_toArray, List.set_cons_zero, List.set_cons_succ]
  refine wpAnyH_take (i := 14) (oi := { dst := some 26, op := Op.load 65 (Operand.tmp 25), type := 65, pos := "hash.go:119", after := #[{ on := 13, ground := Ground.data }], guard := none }) (v := .pointer (some ⟨g, 0, none⟩)) rfl (by kernel_rfl) (by kernel_rfl) (by kernel_rfl) (fun _ _ _ h => h) (Or.inl ⟨by rfl, ?_⟩) (by with_reducible assumption) ?_
  · intro wx hSw
    (try dsimp only at hSw)
    first | (go_simp; done) | (go_simp; with_reducible rfl)
  try simp only [Act.put, List.setIfInBounds_toArray, List.set_cons_zero, List.set_cons_succ]
  refine wpAnyH_take (i := 15) (oi := { dst := some 27, op := Op.move (Operand.tmp 4), type := 3, pos := "hash.go:119", after := #[], guard := none }) (v := .int .i64 qi) rfl (by kernel_rfl) (by kernel_rfl) (by kernel_rfl) (fun _ _ _ h => h) (Or.inl ⟨by rfl, ?_⟩) (by with_reducible assumption) ?_
  · intro wx hSw
    (try dsimp only at hSw)
    first | (go_simp; done) | (go_simp; with_reducible rfl)
  try simp only [Act.put, List.setIfInBounds_toArray, List.set_cons_zero, List.set_cons_succ]
  refine wpAnyH_take (i := 16) (oi := { dst := some 28, op := Op.nilCheck (Operand.tmp 26), type := 0, pos := "hash.go:119", after := #[{ on := 14, ground := Ground.data }], guard := none }) (v := .pointer (some ⟨g, 0, none⟩)) rfl (by kernel_rfl) (by kernel_rfl) (by kernel_rfl) (fun _ _ _ h => h) (Or.inl ⟨by rfl, ?_⟩) (by with_reducible assumption) ?_
  · intro wx hSw
    (try dsimp only at hSw)
    first | (go_simp; done) | (go_simp; with_reducible rfl)
  try simp only [Act.put, List.setIfInBounds_toArray, List.set_cons_zero, List.set_cons_succ]
  refine wpAnyH_take (i := 17) (oi := { dst := some 29, op := Op.indexAddr 71 (Operand.tmp 28) (Operand.tmp 27), type := 0, pos := "hash.go:119", after := #[{ on := 16, ground := Ground.data }, { on := 15, ground := Ground.data }], guard := none }) (v := .pointer (some ⟨g, qi, none⟩)) rfl (by kernel_rfl) (by kernel_rfl) (by kernel_rfl) (fun _ _ _ h => h) (Or.inl ⟨by rfl, ?_⟩) (by with_reducible assumption) ?_
  · intro wx hSw
    (try dsimp only at hSw)
    first | (go_simp; done) | (go_simp; with_reducible rfl)
  try simp only [Act.put, List.setIfInBounds_toArray, List.set_cons_zero, List.set_cons_succ]
  refine wpAnyH_take (i := 19) (oi := { dst := some 31, op := Op.load 61 (Operand.tmp 2), type := 61, pos := "hash.go:119", after := #[], guard := none }) (v := .agg #[.int .i64 k, .int .i64 n, .string s, .slice ea en ec]) rfl (by kernel_rfl) (by kernel_rfl) (by kernel_rfl) (fun _ _ _ h => h) (Or.inl ⟨by rfl, ?_⟩) (by with_reducible assumption) ?_
  · intro wx hSw
    (try dsimp only at hSw)
    first | (go_simp; done) | (go_simp; with_reducible rfl)
  try simp only [Act.put, List.setIfInBounds_toArray, List.set_cons_zero, List.set_cons_succ]
  refine wpAnyH_take (i := 22) (oi := { dst := some 34, op := Op.nilCheck (Operand.tmp 18), type := 0, pos := "hash.go:119", after := #[{ on := 6, ground := Ground.data }], guard := none }) (v := .pointer (some ⟨g, 0, none⟩)) rfl (by kernel_rfl) (by kernel_rfl) (by kernel_rfl) (fun _ _ _ h => h) (Or.inl ⟨by rfl, ?_⟩) (by with_reducible assumption) ?_
  · intro wx hSw
    (try dsimp only at hSw)
    first | (go_simp; done) | (go_simp; with_reducible rfl)
  try simp only [Act.put, List.setIfInBounds_toArray, List.set_cons_zero, List.set_cons_succ]
  refine wpAnyH_ready (rs := [18, 20]) (by kernel_rfl) (by simp) ?_
  refine AllReadyH.cons rfl (fun K hK => ?_) (AllReadyH.cons rfl (fun K hK => ?_) AllReadyH.nil)
  · skip
    go_simp
    refine hK.out _ _ HS0.out (fun hHeld => ?_)
    clear hK K
    try simp only [Act.put, List.setIfInBounds_toArray, List.set_cons_zero, List.set_cons_succ]
    refine wpAnyH_ready (rs := [20]) (by kernel_rfl) (by simp) ?_
    refine AllReadyH.cons rfl (fun K hK => ?_) AllReadyH.nil
    go_simp
    refine hK.out _ _ HS1.out (fun hHeld => ?_)
    clear hK K
    try simp only [Act.put, List.setIfInBounds_toArray, List.set_cons_zero, List.set_cons_succ]
    refine wpAnyH_ready (rs := [21]) (by kernel_rfl) (by simp) ?_
    refine AllReadyH.cons rfl (fun K hK => ?_) AllReadyH.nil
    refine dr_appendD (d := some 33) rfl rfl rfl RA.out ?_
    refine hK.out _ _ HS2.out (fun hHeld => ?_)
    clear hK K
    try simp only [Act.put, List.setIfInBounds_toArray, List.set_cons_zero, List.set_cons_succ]
    refine wpAnyH_take (i := 23) (oi := { dst := some 35, op := Op.indexAddr 71 (Operand.tmp 34) (Operand.tmp 19), type := 0, pos := "hash.go:119", after := #[{ on := 22, ground := Ground.data }, { on := 7, ground := Ground.data }, { on := 0, ground := Ground.phase }, { on := 1, ground := Ground.phase }, { on := 2, ground := Ground.phase }, { on := 3, ground := Ground.phase }, { on := 4, ground := Ground.phase }, { on := 5, ground := Ground.phase }, { on := 6, ground := Ground.phase }, { on := 7, ground := Ground.phase }, { on := 8, ground := Ground.phase }, { on := 9, ground := Ground.phase }, { on := 10, ground := Ground.phase }, { on := 11, ground := Ground.phase }, { on := 12, ground := Ground.phase }, { on := 13, ground := Ground.phase }, { on := 14, ground := Ground.phase }, { on := 15, ground := Ground.phase }, { on := 16, ground := Ground.phase }, { on := 17, ground := Ground.phase }, { on := 18, ground := Ground.phase }, { on := 19, ground := Ground.phase }, { on := 20, ground := Ground.phase }, { on := 21, ground := Ground.phase }], guard := none }) (v := .pointer (some ⟨g, qi, none⟩)) rfl (by kernel_rfl) (by kernel_rfl) (by kernel_rfl) (fun _ _ _ h => h) (Or.inl ⟨by rfl, ?_⟩) (by with_reducible assumption) ?_
    · intro wx hSw
      (try dsimp only at hSw)
      first | (go_simp; done) | (go_simp; with_reducible rfl)
    try simp only [Act.put, List.setIfInBounds_toArray, List.set_cons_zero, List.set_cons_succ]
    refine wpAnyH_ready (rs := [24]) (by kernel_rfl) (by simp) ?_
    refine AllReadyH.cons rfl (fun K hK => ?_) AllReadyH.nil
    go_simp
    refine hK.out _ _ HS3.out (fun hHeld => ?_)
    clear hK K
    try simp only [Act.put, List.setIfInBounds_toArray, List.set_cons_zero, List.set_cons_succ]
    refine wpAnyH_done (by kernel_rfl) ?_ _
    go_wp2_with fail
    go_end0
    exact ⟨rfl, ⟨_, HFIN.out.1⟩, HFIN.out.2⟩
  · skip
    go_simp
    refine hK.out _ _ HS1.out (fun hHeld => ?_)
    clear hK K
    try simp only [Act.put, List.setIfInBounds_toArray, List.set_cons_zero, List.set_cons_succ]
    refine wpAnyH_ready (rs := [18]) (by kernel_rfl) (by simp) ?_
    refine AllReadyH.cons rfl (fun K hK => ?_) AllReadyH.nil
    go_simp
    refine hK.out _ _ HS1.out (fun hHeld => ?_)
    clear hK K
    try simp only [Act.put, List.setIfInBounds_toArray, List.set_cons_zero, List.set_cons_succ]
    refine wpAnyH_ready (rs := [21]) (by kernel_rfl) (by simp) ?_
    refine AllReadyH.cons rfl (fun K hK => ?_) AllReadyH.nil
    refine dr_appendD (d := some 33) rfl rfl rfl RA.out ?_
    refine hK.out _ _ HS2.out (fun hHeld => ?_)
    clear hK K
    try simp only [Act.put, List.setIfInBounds_toArray, List.set_cons_zero, List.set_cons_succ]
    refine wpAnyH_take (i := 23) (oi := { dst := some 35, op := Op.indexAddr 71 (Operand.tmp 34) (Operand.tmp 19), type := 0, pos := "hash.go:119", after := #[{ on := 22, ground := Ground.data }, { on := 7, ground := Ground.data }, { on := 0, ground := Ground.phase }, { on := 1, ground := Ground.phase }, { on := 2, ground := Ground.phase }, { on := 3, ground := Ground.phase }, { on := 4, ground := Ground.phase }, { on := 5, ground := Ground.phase }, { on := 6, ground := Ground.phase }, { on := 7, ground := Ground.phase }, { on := 8, ground := Ground.phase }, { on := 9, ground := Ground.phase }, { on := 10, ground := Ground.phase }, { on := 11, ground := Ground.phase }, { on := 12, ground := Ground.phase }, { on := 13, ground := Ground.phase }, { on := 14, ground := Ground.phase }, { on := 15, ground := Ground.phase }, { on := 16, ground := Ground.phase }, { on := 17, ground := Ground.phase }, { on := 18, ground := Ground.phase }, { on := 19, ground := Ground.phase }, { on := 20, ground := Ground.phase }, { on := 21, ground := Ground.phase }], guard := none }) (v := .pointer (some ⟨g, qi, none⟩)) rfl (by kernel_rfl) (by kernel_rfl) (by kernel_rfl) (fun _ _ _ h => h) (Or.inl ⟨by rfl, ?_⟩) (by with_reducible assumption) ?_
    · intro wx hSw
      (try dsimp only at hSw)
      first | (go_simp; done) | (go_simp; with_reducible rfl)
    try simp only [Act.put, List.setIfInBounds_toArray, List.set_cons_zero, List.set_cons_succ]
    refine wpAnyH_ready (rs := [24]) (by kernel_rfl) (by simp) ?_
    refine AllReadyH.cons rfl (fun K hK => ?_) AllReadyH.nil
    go_simp
    refine hK.out _ _ HS3.out (fun hHeld => ?_)
    clear hK K
    try simp only [Act.put, List.setIfInBounds_toArray, List.set_cons_zero, List.set_cons_succ]
    refine wpAnyH_done (by kernel_rfl) ?_ _
    go_wp2_with fail
    go_end0
    exact ⟨rfl, ⟨_, HFIN.out.1⟩, HFIN.out.2⟩
end Go.Proofs.Ytgjeobmbfeinnaa
