/- Proved: for every slice of numbers the Go function NumSums of the stage's statements returns true, and its argument reads behind the call as it did before; no condition beyond the form's own reach. -/
import Derived.Test.YtoieipodmckmiaaRows
import Derived.WalkKit
import Derived.ProofKit
import Derived.OpenShut
import Derived.SizedLaws
import Derived.WalkSpells
import Derived.Test.YtoieipodmckmiaaRefSum
import Derived.ShutString
import Derived.ChangeOld
import Derived.Below
namespace Go.Proofs.Ytoieipodmckmiaa.numSums
open Go.ChangeShapes Go.WideShapes Go.ChangeAt Go.RowKit
open Go.ChangeMaps (open_string shut_string)
set_option linter.unusedVariables false

theorem own : ownKnob Try.prog.godebug = none := by kernel_rfl
theorem laidOut : laidOutB Try.prog = true := by kernel_rfl

/-- WHAT THE WALK IS TOLD OF A SLICE OF INTEGERS THAT CAME IN: it is nil; or it leads to a row of 'cap' cells, the numbers 'zs' (the first 'len' are its elements, the rest its spare room), each fitting its kind. -/
def IsRow (k : IntKind) (w : World) (a : Option Addr) (len cap : Nat) (zs : List Int) : Prop :=
  (a = none ∧ len = 0 ∧ cap = 0 ∧ zs = []) ∨
  ∃ x, a = some x ∧ len ≤ cap ∧ cap ≤ maxLen ∧ zs.length = cap ∧ (∀ i, i < zs.length → w.cell? (x.add i) = some (.int k (zs.getD i 0))) ∧ ∀ n ∈ zs, (Lit.int k n).wf = true


theorem Try.info3 : (Try.prog.info? 3).map (fun i => (i.zero, i.size, i.bytes)) = some (some (.int .i64 0), 1, 8) := by kernel_rfl

theorem Try.bytes3 : Try.prog.bytesOf 3 = 8 := by kernel_rfl

theorem sum_three (w : World) (c : Nat) (n : Nat) (hn : w.heap.size = n) :
    Calls Try.prog 22 #[.slice (some ⟨n, 0, none⟩) 3 c] (w.alloc (.cells #[.int .i64 9223372036854775807, .int .i64 1, .int .i64 (-1)] 3)) fun e w' => e = .returned (.tuple #[.int .i64 9223372036854775807, .int .i64 0]) ∧ w' = w.alloc (.cells #[.int .i64 9223372036854775807, .int .i64 1, .int .i64 (-1)] 3) := by
  subst hn
  have h := sum_row w.heap.size 0 c [9223372036854775807, 1, -1] (w.alloc (.cells #[.int .i64 9223372036854775807, .int .i64 1, .int .i64 (-1)] 3)) (by simp)
    (by intro k hk; match k, hk with | 0, _ => simp [go_sem] | 1, _ => simp [go_sem] | 2, _ => simp [go_sem])
    (by intro k hk; match k, hk with | 0, _ => simp | 1, _ => simp | 2, _ => simp)
  have e : ([9223372036854775807, 1, -1] : List Int).sum = 9223372036854775807 := by simp
  rw [e, (vl_in (by omega)).1, (vl_in (by omega)).2] at h
  exact h

theorem walk_none (a : Option Addr) (cap : Nat) (w : World) :
    Calls Try.prog 6 #[.slice a 0 cap] w fun e w' => e = .returned (.bool true) ∧ Below w.heap.size w w' := by
  go_enter Try.func6, Try.ntmps6
  go_wp2
  refine wp_loop_rounds 1 ?_
  rw [rounds_succ]
  go_wp2_with fail
  refine (sum_none a cap _).mono ?_; rintro e w1 ⟨rfl, rfl⟩
  go_wp2_with fail
  refine (refSum_none a cap _).mono ?_; rintro e w1 ⟨rfl, k1⟩
  go_wp2_with fail
  refine (sum_none none 0 _).mono ?_; rintro e w2 ⟨rfl, rfl⟩
  go_wp2_with fail
  refine (sum_three _ 3 _ rfl).mono ?_; rintro e w2 ⟨rfl, rfl⟩
  go_wp2_with fail
  go_ret
  exact ⟨rfl, bnext k1 ((Below.refl _ _).alloc (Nat.le_refl _) _)⟩

/-- What has been gathered when the numbers from q on are gone over, from the last. -/
def back (zs : List Int) (q : Nat) : List Value := (zs.drop q).reverse.map (Value.int .i64)
theorem back_end (zs : List Int) : back zs zs.length = [] := by unfold back; simp
theorem back_step (zs : List Int) (q : Nat) (h : q < zs.length) : back zs q = back zs (q + 1) ++ [Value.int .i64 (zs[q]?.getD 0)] := by
  unfold back
  rw [List.drop_eq_getElem_cons h, List.reverse_cons, List.map_append]
  simp [h]
theorem back_all (zs : List Int) : back zs 0 = zs.reverse.map (Value.int .i64) := by unfold back; simp

set_option maxHeartbeats 1000000 in
theorem walk_row (b off cap : Nat) (zs : List Int) (w : World) (hp : 0 < zs.length) (hl : zs.length * 8 ≤ 140737488351232) (hb : b < w.heap.size)
    (hc : ∀ k, k < zs.length → w.cell? ⟨b, off + k, none⟩ = some (.int .i64 (zs[k]?.getD 0)))
    (hz : ∀ k, k < zs.length → -9223372036854775808 ≤ zs[k]?.getD 0 ∧ zs[k]?.getD 0 ≤ 9223372036854775807) :
    Calls Try.prog 6 #[.slice (some ⟨b, off, none⟩) zs.length cap] w fun e w' => e = .returned (.bool true) ∧ Below w.heap.size w w' := by
  obtain ⟨i0, hi0, hz0, hz1, hz2⟩ := info_parts Try.info3
  have HC : Hid (∀ k, k < zs.length → w.cell? ⟨b, off + k, none⟩ = some (.int .i64 (zs[k]?.getD 0))) := hc
  have HZ : Hid (∀ k, k < zs.length → -9223372036854775808 ≤ zs[k]?.getD 0 ∧ zs[k]?.getD 0 ≤ 9223372036854775807) := hz
  clear hc hz
  obtain ⟨n, hn⟩ : ∃ n, n = zs.length := ⟨_, rfl⟩
  have HN : Hid (n = zs.length) := hn
  rw [← hn] at hl hp ⊢
  clear hn
  go_enter Try.func6, Try.ntmps6
  go_wp2
  go_loopw [3, 4] (fun v i wr => ∃ t : Int, -1 ≤ t ∧ t < n ∧ i = .int .i64 t ∧ wr.ownsRow w.heap.size 3 1 v (n - (t + 1).toNat) (back zs (t + 1).toNat) ∧ Below w.heap.size w wr)
    (fun _ i _ => (intOf i + 1).toNat)
  case atStart =>
    refine ⟨(n : Int) - 1, by omega, by omega, rfl, ?_, Below.refl _ _⟩
    have e1 : ((n : Int) - 1 + 1).toNat = n := by omega
    have e2 : back zs n = [] := by rw [HN.out, back_end]
    rw [e1, e2, Nat.sub_self]
    exact World.ownsRow_nil _ _ _ _
  case round =>
    obtain ⟨t, ht1, ht2, rfl, hown, KB⟩ := hrel
    by_cases c : 0 ≤ t
    · obtain ⟨q, rfl⟩ := Int.eq_ofNat_of_zero_le c
      have eq : ((q : Int) + 1).toNat = q + 1 := by omega
      rw [eq] at hown
      clear eq
      have hq : q < n := by omega
      have hcell := (KB.cell (p := ⟨b, off + q, none⟩) hb).trans (HC.out q (by have := HN.out; omega))
      have HB : Hid (back zs q = back zs (q + 1) ++ [Value.int .i64 (zs[q]?.getD 0)]) := back_step zs q (by have := HN.out; omega)
      generalize zs[q]?.getD 0 = z at hcell HB
      have hks := KB.size
      go_wp2_with (at_builtin; refine wpList_append_own _ rfl _ _ 28 rfl w.heap.size 3 i0 (.int .i64 0) 1 8 Try.underlying28 hi0 hz0 hz1 hz2 rfl (by decide) _ _ _ rfl (hown.alloc _) ⟨wr.heap.size, 0, none⟩ 1 1 [.int .i64 z] rfl rfl ?c1 ?c2 ?c3 ?c4 ?c5 ?_)
      case c1 => exact cell_one_new _ _ _
      case c2 => intro u hu; simp at hu; subst hu; rfl
      case c3 => unfold maxLen; omega
      case c4 => omega
      case c5 => simp; omega
      intro v' w1 hown' hgrow _
      clear hcell
      go_wp2
      go_roundw
      case rel =>
        have eq : ((q : Int) - 1 + 1).toNat = q := by omega
        refine ⟨(q : Int) - 1, by omega, by omega, rfl, ?_, (KB.alloc (by omega) _).grown hgrow (by simp; omega) ?_⟩
        · rw [eq, HB.out]
          have : n - q = n - (q + 1) + 1 := by omega
          rw [this]
          exact hown'
        · intro k hk
          exact (hown.lt k hk).1
      case measure => simp [intOf]
    · obtain rfl : t = -1 := by omega
      have e0 : ((-1 : Int) + 1).toNat = 0 := rfl
      rw [e0, back_all, Nat.sub_zero] at hown
      clear e0
      have hform : ∃ g cp, u3 = .slice (some ⟨g, 0, none⟩) n cp ∧ g < wr.heap.size := by
        rcases hown.2 with ⟨_, h0⟩ | ⟨g, cp, cur, hv, hbg, hg, _⟩
        · omega
        · refine ⟨g, cp, hv, ?_⟩
          rcases Nat.lt_or_ge g wr.heap.size with hlt | hge
          · exact hlt
          · rw [Array.getElem?_eq_none hge] at hg; simp at hg
      obtain ⟨g, cp, rfl, hg⟩ := hform
      have HR : Hid (∀ k, k < n → wr.cell? ⟨g, 0 + k, none⟩ = some (.int .i64 (zs.reverse[k]?.getD 0))) := fun k hk => by
        rw [Nat.zero_add, hown.cellAt k (by omega)]
        have : k < zs.reverse.length := by have := HN.out; simp; omega
        rw [List.getElem?_map, List.getElem?_eq_getElem this]
        rfl
      clear hown
      have hlen : n ≤ 140737488351232 := by omega
      have HN' : Hid (n = zs.reverse.length) := by rw [List.length_reverse]; exact HN
      have ZR : Hid (∀ k, k < zs.reverse.length → -9223372036854775808 ≤ zs.reverse[k]?.getD 0 ∧ zs.reverse[k]?.getD 0 ≤ 9223372036854775807) := fun k hk => by
        simp at hk
        rw [List.getElem?_reverse hk]
        exact HZ.out _ (by omega)
      have HL : Hid (∀ wx : World, (∀ k, k < n → wx.cell? ⟨b, off + k, none⟩ = some (.int .i64 (zs[k]?.getD 0))) → Calls Try.prog 22 #[.slice (some ⟨b, off, none⟩) n cap] wx fun e w' => e = .returned (.tuple #[.int .i64 (vl zs.sum), .int .i64 (er zs.sum)]) ∧ w' = wx) := by
        have hh := HN.out
        subst hh
        exact fun wx h => sum_row b off cap zs wx hlen h HZ.out
      have HM : Hid (∀ wx : World, b < wx.heap.size → (∀ k, k < n → wx.cell? ⟨b, off + k, none⟩ = some (.int .i64 (zs[k]?.getD 0))) → Calls Try.prog 23 #[.slice (some ⟨b, off, none⟩) n cap] wx fun e w' => e = .returned (.tuple #[.int .i64 (vl zs.sum), .int .i64 (er zs.sum)]) ∧ Below wx.heap.size wx w') := by
        have hh := HN.out
        subst hh
        exact fun wx hb h => refSum_row b off cap zs wx hlen hb h HZ.out
      have HT : Hid (∀ wx : World, (∀ k, k < n → wx.cell? ⟨g, 0 + k, none⟩ = some (.int .i64 (zs.reverse[k]?.getD 0))) → Calls Try.prog 22 #[.slice (some ⟨g, 0, none⟩) n cp] wx fun e w' => e = .returned (.tuple #[.int .i64 (vl zs.sum), .int .i64 (er zs.sum)]) ∧ w' = wx) := by
        have hh := HN'.out
        subst hh
        have hr : zs.reverse.sum = zs.sum := List.sum_reverse zs
        rw [← hr]
        exact fun wx h => sum_row g 0 cp zs.reverse wx hlen h ZR.out
      have HW : Hid (∀ k, k < n → wr.cell? ⟨b, off + k, none⟩ = some (.int .i64 (zs[k]?.getD 0))) := fun k hk => (KB.cell (p := ⟨b, off + k, none⟩) hb).trans (HC.out k (by have := HN.out; omega))
      have hbw : b < wr.heap.size := Nat.lt_of_lt_of_le hb KB.size
      clear HC HZ HN HN' ZR hl hlen
      go_wp2_with fail
      refine (HL.out _ HW.out).mono ?_; rintro e w1 ⟨rfl, rfl⟩
      go_wp2_with fail
      refine (HM.out _ hbw HW.out).mono ?_; rintro e w1 ⟨rfl, k1⟩
      go_wp2_with fail
      refine (HT.out _ (fun k hk => (k1.cell (p := ⟨g, 0 + k, none⟩) hg).trans (HR.out k hk))).mono ?_; rintro e w2 ⟨rfl, rfl⟩
      go_wp2_with fail
      refine (sum_three _ 3 _ rfl).mono ?_; rintro e w2 ⟨rfl, rfl⟩
      go_wp2_with fail
      go_ret
      exact ⟨rfl, bnext KB (bnext k1 ((Below.refl _ _).alloc (Nat.le_refl _) _))⟩

theorem walk (a0 : Option Addr) (len0 cap0 : Nat) (z0 : List Int) (w : World) (w0 : IsRow .i64 w a0 len0 cap0 z0) (hr : cap0 * 8 ≤ 140737488351232) :
    Calls Try.prog 6 #[.slice a0 len0 cap0] w fun e w' => e = .returned (.bool true) ∧ Below w.heap.size w w' := by
  by_cases h : len0 = 0
  · subst h
    exact walk_none a0 cap0 w
  rcases w0 with ⟨_, h0, _⟩ | ⟨x, rfl, hlc, hm, hzl, hcell, hwz⟩
  · exact absurd h0 h
  obtain ⟨b, off, rfl, hc⟩ := ints_at hcell (by omega)
  have hlen : (z0.take len0).length = len0 := by simp; omega
  have hget : ∀ k, k < len0 → (z0.take len0)[k]?.getD 0 = z0.getD k 0 := fun k hk => by simp [hk, List.getD]
  have hb : b < w.heap.size := by
    have h1 := hc 0 (by omega)
    rcases Nat.lt_or_ge b w.heap.size with hlt | hge
    · exact hlt
    · simp [World.cell?, Array.getElem?_eq_none hge] at h1
  have hz : ∀ k, k < z0.length → -9223372036854775808 ≤ z0.getD k 0 ∧ z0.getD k 0 ≤ 9223372036854775807 := fun k hk => by
    have := hwz (z0.getD k 0) (by simp [List.getD, hk])
    exact bd64 this
  have := walk_row b off cap0 (z0.take len0) w (by omega) (by omega) hb (fun k hk => by rw [hget k (by omega)]; exact hc k (by omega)) (fun k hk => by rw [hget k (by omega)]; exact hz k (by omega))
  rwa [hlen] at this

/-! ### THE ROW's STEP: WRITTEN OUT: LEAVE IT -/
set_option maxRecDepth 100000 in
theorem lifted (os : Os) (started : os.Started) (H : Type) (enc : TypeId × Value → H) :
    ReturnsInHanded {} Try.checked os 6 .any (Rows.numSumsSpec.pre6 enc Try.prog Try.f6 Rows.numSumsRow.domain false) (Rows.numSumsSpec.post enc Try.prog Try.f6 false true false false) := by
  refine returnsInHanded_of_change_sized (C := Try.checked) own started (by kernel_rfl) Try.func6
    (ChangeSpec.witness6 (enc := enc) (C := Try.checked) false ⟨#[], #[.slice none 0 0], []⟩ 8 (by kernel_rfl) (by kernel_rfl) (by kernel_rfl) (by kernel_rfl)) ?_
  intro W base args ds gs before hval0 hW hcnd hsz0 _
  have hsz : (DataW.weightsEach Try.prog (Try.f6.params.toList ++ Rows.numSumsSpec.plain.varTypes Try.prog) (ds ++ gs)).all (· ≤ reachBytes) = true := hsz0
  clear hsz0
  have hval : ∀ (j : Nat) t v, Try.f6.params[j]? = some t → args[j]? = some v → Value.okWide Try.prog W .any base t v := hval0
  have hW' := hW
  obtain ⟨p, q, hA0, hV, rfl, hfz, hnd⟩ := hW
  have hA : DataW.TrodAll enc Try.prog W 0 (fun _ => true) true Try.f6.params.toList args.toList ds p := hA0
  rw [Try.params6] at hA hval hsz
  obtain ⟨v0, vs0, d0, ds0, p0, q0, hargs, rfl, rfl, h0, r0⟩ := trodAll_cons hA
  obtain ⟨rfl, rfl, rfl⟩ := trodAll_nil r0
  obtain rfl : args = #[v0] := by cases args; simp_all
  obtain ⟨rfl, rfl⟩ := trodVars_none hV
  obtain ⟨a0, len0, cap0, rfl⟩ := okWide_slice Try.underlying28 (hval 0 28 v0 rfl rfl)
  have k0 := h0
  have lt0 : ∀ x ∈ p0, x.block < W.heap.size := by obtain ⟨m, hm⟩ := k0; exact DataW.trod_lt m _ _ _ hm
  obtain ⟨z0, w0, hr⟩ : ∃ zs, IsRow .i64 W a0 len0 cap0 zs ∧ cap0 * 8 ≤ 140737488351232 := by
    obtain ⟨fuel, hf⟩ := h0
    rcases open_ints Try.underlying28 Try.underlying3 (by kernel_rfl) hf with ⟨hcs, _⟩ | ⟨x, l, c, zs, hcs, _, hl, hm, hz, hx, hcell, hwz⟩
    · simp [Value.cells] at hcs
      obtain ⟨rfl, rfl, rfl⟩ := hcs
      exact ⟨[], .inl ⟨rfl, rfl, rfl, rfl⟩, by omega⟩
    · simp [Value.cells] at hcs
      obtain ⟨rfl, rfl, rfl⟩ := hcs
      simp only [Prod.mk.injEq] at hx
      have hz' : zs.length = cap0 := by simpa using hz
      refine ⟨zs, .inr ⟨_, rfl, hl, hm, hz', hcell, hwz⟩, ?_⟩
      rw [hx.1] at hsz
      have := sized_slice hsz (j := 0) (t := 28) (e := 3) rfl rfl Try.underlying28
      rw [Try.bytes3] at this
      simp only [lits, List.length_map, List.length_take, List.length_drop, reachBytes] at this
      omega
  clear hA0 hval0
  refine (walk a0 len0 cap0 z0 W w0 hr).mono fun e W' ⟨he, bel⟩ => ?_
  subst he
  exact ⟨_, rfl, _, _, _, [], _, [], hW', trodAll_mk1 (shut_bool Try.underlying4 _), (trodAll_cons_mk (Below.trod laidOut (by kernel_rfl) (of_decide_eq_true (by kernel_rfl)) k0 bel lt0) trodAll_mk0), rfl, bel.frame _, fun h => by cases h⟩

theorem over : Rows.numSumsRow.holds Try.pinned (OpenSpec.ofChange Rows.numSumsSpec) :=
  OpenClaim.holds_of_wide 6 Try.f6 rfl rfl rfl rfl rfl rfl rfl ⟨rfl, rfl, rfl, rfl, rfl⟩ rfl rfl rfl rfl rfl (by kernel_rfl) Try.func6 (by kernel_rfl)
    (of_decide_eq_true (by kernel_rfl)) (by unfold Func.isWrapper; first | (rw [if_pos (by decide +kernel)]; kernel_rfl) | (rw [if_neg (by decide +kernel)]; exact ⟨rfl, rfl⟩))
    (fun os started H enc _ => lifted os started H enc)

/-- ████ THE STATEMENT ████ -/
theorem proved : Rows.NumSumsSaid := over
#print axioms proved
end Go.Proofs.Ytoieipodmckmiaa.numSums
