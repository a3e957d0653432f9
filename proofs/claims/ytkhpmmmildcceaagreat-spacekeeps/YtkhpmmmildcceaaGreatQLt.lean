/- The latest state. -/
import Derived.Test.YtkhpmmmildcceaaGreatQCh
namespace Go.Proofs.YtkhpmmmildcceaaGreat
open Go.ChangeShapes Go.WideShapes Go.ChangeAt Go.RowKit
set_option linter.unusedVariables false
set_option maxRecDepth 100000

theorem end_tmp_cell {fn : Func} {p u : Tmp} {ty : TypeId} {b : Addr} {v : Value} {tmps : Array Value} {w : World} (h : fn.results = #[.tmp u, .cell p ty]) (hp : tmps.getD p undef = .pointer (some b)) (hl : (loadVar ty b).run Tryz.prog w = .ok v w) :
    (results fn tmps).run Tryz.prog w = .ok (.tuple #[tmps.getD u undef, v]) w := by
  have e : (results fn tmps).run Tryz.prog w = ((asAddr (tmps.getD p undef)).run Tryz.prog w).andThen fun a w₁ => ((loadVar ty a).run Tryz.prog w₁).andThen fun v w₂ => .ok (.tuple #[tmps.getD u undef, v]) w₂ := by
    simp only [results, h]
    simp [Sem.run_bind, Result.andThen]
  rw [e, hp]
  simp [asAddr, hl, Result.andThen]
theorem nm_ne {w : World} {m : Nat} {ns : List Nam} (h : NmAt w m ns) {b : Nat} (k : StX w b) : m ≠ b := by
  rintro rfl
  obtain ⟨es, clock, hb, _⟩ := h
  obtain ⟨u, mo, h1, _⟩ := k
  unfold Blk at h1
  rw [hb] at h1
  cases h1
/-- A state that is moved from one block to another. -/
structure MI (w : World) (Bs Bd : Nat) (CT : List Value) (V : World) : Prop where
  st : ∃ u mo, StAt V Bs u mo ∧ CT = stC u mo
  rx : StX V Bd
  kp : Kept (fun i => i = Bd) w V
theorem MI.kept {w : World} {Bs Bd : Nat} {CT : List Value} {V V' : World} (h : MI w Bs Bd CT V) (k : Kept (fun _ => False) V V') : MI w Bs Bd CT V' := by
  obtain ⟨u, mo, h1, h2⟩ := h.st
  exact ⟨⟨u, mo, h1.kept k (fun z => z), h2⟩, h.rx.kept k (fun z => z), h.kp.trans k (fun _ z => z.elim)⟩
theorem mv_core (w : World) (Bs Bd : Nat) (CT : List Value) (hne : Bs ≠ Bd) :
    (∀ V, MI w Bs Bd CT V → (V.rangeAt Bs 0 CT ∧ V.there Bd 0 64 ∧ Hid (MI w Bs Bd CT V))) ∧
    (∀ V, (V.rangeAt Bs 0 CT ∧ V.there Bd 0 64 ∧ Hid (MI w Bs Bd CT V)) → (Instr.storeAt 68 (.pointer (some ⟨Bd, 0, none⟩)) (.agg CT.toArray)).run Tryz.prog V = .ok () (V.setCells Bd 0 CT)) ∧
    (∀ V, (V.rangeAt Bs 0 CT ∧ V.there Bd 0 64 ∧ Hid (MI w Bs Bd CT V)) → ((V.setCells Bd 0 CT).rangeAt Bs 0 CT ∧ (V.setCells Bd 0 CT).there Bd 0 64 ∧ Hid (MI w Bs Bd CT (V.setCells Bd 0 CT)))) := by
  have f1 : ∀ V, MI w Bs Bd CT V → (V.rangeAt Bs 0 CT ∧ V.there Bd 0 64 ∧ Hid (MI w Bs Bd CT V)) := fun V hV => by
    obtain ⟨u, mo, h1, h2⟩ := hV.st
    refine ⟨?_, hV.rx.there, hV⟩
    rw [h2]
    intro j v hv
    rw [Nat.zero_add]
    exact h1.1.cell hv
  refine ⟨f1, fun V hV => ?_, fun V hV => f1 _ ?_⟩
  · obtain ⟨u, mo, h1, h2⟩ := hV.2.2.out.st
    rw [h2]
    exact (hV.2.2.out.rx.store u mo h1.2).1
  · have hI := hV.2.2.out
    obtain ⟨u, mo, h1, h2⟩ := hI.st
    have kk : Kept (fun i => i = Bd) V (V.setCells Bd 0 CT) := Kept.setCells (F := fun i => i = Bd) (.inl rfl) _ _ _ (Kept.refl _ V)
    have q := (hI.rx.store u mo h1.2).2
    rw [← h2] at q
    exact ⟨⟨u, mo, h1.kept kk hne, h2⟩, ⟨_, _, q⟩, hI.kp.trans kk (fun i e => .inl e)⟩
theorem mv_end {w : World} {Bs Bd : Nat} {V : World} {u : List UInt8} {mo : Option Nat} (h : MI w Bs Bd (stC u mo) V) (hu : u.length = 63) : StAt (V.setCells Bd 0 (stC u mo)) Bd u mo ∧ Kept (fun i => i = Bd) V (V.setCells Bd 0 (stC u mo)) := by
  exact ⟨(h.rx.store u mo hu).2, Kept.setCells (F := fun i => i = Bd) (.inl rfl) _ _ _ (Kept.refl _ V)⟩
/-- The best of the first halves. -/
def LatJ (C : Nat → Nat → List UInt8 → List Nam → Prop) (j t : Nat) (u : List UInt8) (ns : List Nam) : Prop :=
  (t = 0 ∧ u = u0 ∧ ns = [] ∧ ∀ h, h < j → ∀ t' u' ns', C h t' u' ns' → t' = 0) ∨ (∃ h, h < j ∧ 0 < t ∧ C h t u ns ∧ ∀ h', h' < j → ∀ t' u' ns', C h' t' u' ns' → t' ≤ t)
theorem LatJ.skip {C : Nat → Nat → List UInt8 → List Nam → Prop} {j t : Nat} {u : List UInt8} {ns : List Nam} (h : LatJ C j t u ns) (hj : ∀ t' u' ns', C j t' u' ns' → t' ≤ t) : LatJ C (j + 1) t u ns := by
  rcases h with ⟨rfl, h2, h3, h4⟩ | ⟨hf, h1, h2, h3, h4⟩
  · refine .inl ⟨rfl, h2, h3, fun h hh t' u' ns' hc => ?_⟩
    rcases Nat.lt_or_eq_of_le (Nat.le_of_lt_succ hh) with q | rfl
    · exact h4 h q t' u' ns' hc
    · have := hj t' u' ns' hc; omega
  · refine .inr ⟨hf, by omega, h2, h3, fun h hh t' u' ns' hc => ?_⟩
    rcases Nat.lt_or_eq_of_le (Nat.le_of_lt_succ hh) with q | rfl
    · exact h4 h q t' u' ns' hc
    · exact hj t' u' ns' hc
theorem LatJ.take {C : Nat → Nat → List UInt8 → List Nam → Prop} {j t n : Nat} {u uc : List UInt8} {ns nc : List Nam} (h : LatJ C j t u ns) (hc : C j n uc nc) (hf : ∀ t' u' ns', C j t' u' ns' → t' = n) (hlt : t < n) : LatJ C (j + 1) n uc nc := by
  refine .inr ⟨j, by omega, by omega, hc, fun h' hh t' u' ns' hc' => ?_⟩
  rcases Nat.lt_or_eq_of_le (Nat.le_of_lt_succ hh) with q | rfl
  · rcases h with ⟨_, _, _, h4⟩ | ⟨_, _, _, _, h4⟩
    · have := h4 h' q t' u' ns' hc'; omega
    · have := h4 h' q t' u' ns' hc'; omega
  · have := hf t' u' ns' hc'; omega
/-- What a disk's halves say. -/
def ComD (d : Dk) (fr pg hf t : Nat) (u : List UInt8) (ns : List Nam) : Prop := ComS (d.last (fr + hf)) (rdP d (fr + (1 + hf) * 8) 8) hf pg t u ns
/-- What latest answers. -/
def LatE (d : Dk) (fr pg : Nat) (w : World) (e : Ending) (w' : World) : Prop := ∃ (t : Nat) (u : List UInt8) (m : Nat) (ns : List Nam), e = .returned (.tuple #[.int .i64 (t : Int), .agg (stC u (some m)).toArray]) ∧ u.length = 63 ∧ t ≤ 4294967296 ∧ NmAt w' m ns ∧ w.heap.size ≤ m ∧ Kept (fun _ => False) w w' ∧ LatJ (ComD d fr pg) 2 t u ns
structure LI (w : World) (B3 B5 : Nat) (u : List UInt8) (m : Nat) (ns : List Nam) (V : World) : Prop where
  st : StAt V B5 u (some m)
  nm : NmAt V m ns
  rx : StX V B3
  kp : Kept (fun _ => False) w V
  ml : w.heap.size ≤ m
theorem LI.kept {w : World} {B3 B5 m : Nat} {u : List UInt8} {ns : List Nam} {V V' : World} (h : LI w B3 B5 u m ns V) (k : Kept (fun _ => False) V V') : LI w B3 B5 u m ns V' :=
  ⟨h.st.kept k (fun z => z), h.nm.kept k (fun z => z), h.rx.kept k (fun z => z), h.kp.trans k (fun _ z => z.elim), h.ml⟩
set_option maxHeartbeats 4000000 in
theorem latest_is {w : World} {F : Nat → Prop} {p : Nat} {x : Sp} {d : Dk} (h : SpAt w p x) (hd : Disk w F x.pd d) (hoff : d.off = false) (hfr : x.fr ≤ 4096) (hin : x.fr + 24 ≤ d.n) : Calls Tryz.prog 33 #[.pointer (some ⟨p, 0, none⟩)] w fun e w' => LatE d x.fr x.pg w e w' := by
  obtain ⟨B3, hB3⟩ : ∃ B, w.heap.size = B := ⟨_, rfl⟩
  obtain ⟨W1, hW1⟩ : ∃ W, w.alloc (.cells (stC u0 none).toArray 68) = W := ⟨_, rfl⟩
  have k1 : Kept (fun _ => False) w W1 := hW1 ▸ (Kept.refl _ w).alloc _
  have z1 : W1.heap.size = B3 + 1 := by rw [← hW1, ← hB3]; simp
  obtain ⟨m, hmB⟩ : ∃ m, W1.heap.size = m := ⟨_, rfl⟩
  obtain ⟨W2, hW2⟩ : ∃ W, W1.alloc (.map #[] 0) = W := ⟨_, rfl⟩
  have k2 : Kept (fun _ => False) W1 W2 := hW2 ▸ (Kept.refl _ W1).alloc _
  obtain ⟨B5, hB5⟩ : ∃ B, W2.heap.size = B := ⟨_, rfl⟩
  have z2 : B5 = m + 1 := by rw [← hB5, ← hW2, ← hmB]; simp
  obtain ⟨W3, hW3⟩ : ∃ W, W2.alloc (.cells (stC u0 none).toArray 68) = W := ⟨_, rfl⟩
  have k3 : Kept (fun _ => False) W2 W3 := hW3 ▸ (Kept.refl _ W2).alloc _
  have hs3 : StAt W3 B5 u0 none := by have := StAt.new W2 u0 none u0_len; rw [hW3, hB5] at this; exact this
  have q3 := hs3.store u0 (some m) u0_len
  obtain ⟨CM, hCM⟩ : ∃ C : Array Value, (stC u0 (some m)).toArray = C := ⟨_, rfl⟩
  obtain ⟨W4, hW4⟩ : ∃ W, W3.setCells B5 0 (stC u0 (some m)) = W := ⟨_, rfl⟩
  rw [hCM, hW4] at q3
  have k4 : Kept (fun i => i = B5) W3 W4 := hW4 ▸ Kept.setCells (F := fun i => i = B5) (.inl rfl) _ _ _ (Kept.refl _ W3)
  have HA1 : Hid ((Instr.alloc 68 true (.tuple #[])).run Tryz.prog w = .ok (.pointer (some ⟨B3, 0, none⟩)) W1) := by have := alloc68 w; rw [hW1, hB3] at this; exact this
  have HA2 : Hid ((Instr.alloc 68 true (.tuple #[])).run Tryz.prog W2 = .ok (.pointer (some ⟨B5, 0, none⟩)) W3) := by have := alloc68 W2; rw [hW3, hB5] at this; exact this
  have HBU : Hid ((Instr.build 68 #[(1, .map (some m))]).run Tryz.prog W2 = .ok (.agg CM) W2) := by rw [← hCM]; exact build68_m W2 (some m)
  have hmm : (Instr.makeMap 66 none).run Tryz.prog W1 = .ok (.map (some m)) W2 := by
    have := run_makeMap (P := Tryz.prog) 66 W1
    rw [hmB, hW2] at this
    exact this
  have HST : Hid ((Instr.storeAt 68 (.pointer (some ⟨B5, 0, none⟩)) (.agg CM)).run Tryz.prog W3 = .ok () W4) := q3.1
  have n4 : NmAt W4 m [] := by
    have := NmAt.new W1
    rw [hW2, hmB] at this
    exact (this.kept k3 (fun z => z)).kept k4 (by omega)
  have x4 : StX W4 B3 := by
    have := StAt.new w u0 none u0_len
    rw [hW1, hB3] at this
    have xx : StX W1 B3 := ⟨_, _, this⟩
    exact ((StX.kept xx k2 (fun z => z)).kept k3 (fun z => z)).kept k4 (by omega)
  have k04 : Kept (fun _ => False) w W4 := ((k1.trans k2 (fun _ z => z.elim)).trans k3 (fun _ z => z.elim)).trans k4 (fun i e => .inr (by omega))
  have HI4 : Hid (LI w B3 B5 u0 m [] W4) := ⟨q3.2, n4, x4, k04, by omega⟩
  have HBL : Hid (w.heap.size = B3 ∧ B3 < B5) := ⟨hB3, by omega⟩
  have HCO : Hid (∀ (V : World) (hf : Nat), hf ≤ 1 → Kept (fun _ => False) w V → Calls Tryz.prog 61 #[.pointer (some ⟨p, 0, none⟩), .int .i64 (hf : Int)] V fun e w' => ∃ (n : Nat) (u : List UInt8) (mo : Option Nat) (b : Bool), e = .returned (.tuple #[.int .i64 (n : Int), .agg (stC u mo).toArray, .bool b]) ∧ Hid (u.length = 63 ∧ n ≤ 4294967296 ∧ Kept (fun _ => False) V w' ∧ (b = false → ∀ t u' ns', ¬ ComD d x.fr x.pg hf t u' ns') ∧ (b = true → ∃ m ns, mo = some m ∧ NmAt w' m ns ∧ V.heap.size ≤ m ∧ ComD d x.fr x.pg hf n u ns))) := fun V hf hh kV => by
    refine (committed_is (h.kept kV (fun z => z)) (hd.kept kV (fun _ _ z => z)) hoff hfr hf hh hin).mono ?_
    rintro e w' ⟨n, u, mo, b, rfl, a1, a2, a3, a4, a5⟩
    exact ⟨n, u, mo, b, rfl, a1, a2, a3, a4, a5⟩
  obtain ⟨d68, hu68, hd68⟩ := under68
  clear h hd hoff hfr hin hB3 hW1 k1 z1 hmB hW2 k2 hB5 z2 hW3 k3 hs3 q3 hCM hW4 k4 n4 x4 k04
  go_enter Tryz.func33, Tryz.ntmps33
  go_wp2_with (first | ((with_reducible apply st_alloc); (case ho => rfl); (case hgd => rfl); (case hr => first | exact HA1.out | exact HA2.out)) | ((with_reducible apply st_build); (case ho => rfl); (case hgd => rfl); (case hr => exact HBU.out)) | ((with_reducible apply st_store); (case ho => rfl); (case hgd => rfl); (case hr => exact HST.out)))
  clear HA1 HA2 HBU HST hmm
  go_loopw [4, 12] (fun v4 v12 wr => ∃ (j t : Nat) (u : List UInt8) (m : Nat) (ns : List Nam), j ≤ 2 ∧ v12 = .int .i64 (j : Int) ∧ v4 = .int .i64 (t : Int) ∧ Hid (LI w B3 B5 u m ns wr ∧ LatJ (ComD d x.fr x.pg) j t u ns ∧ t ≤ 4294967296)) (fun _ v12 _ => 2 - (intOf v12).toNat)
  case atStart => exact ⟨0, 0, u0, m, [], by omega, rfl, rfl, HI4.out, .inl ⟨rfl, rfl, rfl, fun h hh => absurd hh (Nat.not_lt_zero _)⟩, by omega⟩
  case round =>
    obtain ⟨j, t, u, m, ns, hj, rfl, rfl, HL⟩ := hrel
    by_cases hj2 : j < 2
    · have c0 : (j : Int) < 2 := by omega
      have HCJ : Hid _ := HCO.out wr j (by omega) HL.out.1.kp
      go_wp2_with fail
      refine Calls.mono HCJ.out ?_; rintro e w5 ⟨n, uc, mo, b, rfl, HC5⟩
      obtain ⟨a1, a2, a3, a4, a5⟩ := HC5.out
      obtain ⟨B8, hB8⟩ : ∃ B, w5.heap.size = B := ⟨_, rfl⟩
      obtain ⟨V1, hV1⟩ : ∃ V, w5.alloc (.cells (stC u0 none).toArray 68) = V := ⟨_, rfl⟩
      have HA2 : Hid ((Instr.alloc 68 true (.tuple #[])).run Tryz.prog w5 = .ok (.pointer (some ⟨B8, 0, none⟩)) V1) := by have := alloc68 w5; rw [hV1, hB8] at this; exact this
      have kk1 : Kept (fun _ => False) w5 V1 := hV1 ▸ (Kept.refl _ w5).alloc _
      have ss1 : StAt V1 B8 u0 none := by have := StAt.new w5 u0 none u0_len; rw [hV1, hB8] at this; exact this
      have qq := ss1.store uc mo a1
      obtain ⟨V2, hV2⟩ : ∃ V, V1.setCells B8 0 (stC uc mo) = V := ⟨_, rfl⟩
      obtain ⟨CA, hCA⟩ : ∃ C, (stC uc mo).toArray = C := ⟨_, rfl⟩
      rw [hV2] at qq
      have kk2 : Kept (fun i => i = B8) V1 V2 := hV2 ▸ Kept.setCells (F := fun i => i = B8) (.inl rfl) _ _ _ (Kept.refl _ V1)
      have HS2 : Hid ((Instr.storeAt 68 (.pointer (some ⟨B8, 0, none⟩)) (.agg CA)).run Tryz.prog V1 = .ok () V2) := by rw [← hCA]; exact qq.1
      have k52 : Kept (fun _ => False) w5 V2 := (kk1.trans kk2 (fun i e => .inr (by omega)))
      have hI2 := (HL.out.1.kept a3).kept k52
      have hb8 : B5 < B8 := by
        have h1 := (HL.out.1.kept a3).st.1.lt
        omega
      have HM2 : Hid (LI w B3 B5 u m ns V2 ∧ StAt V2 B8 uc mo ∧ B5 < B8) := ⟨hI2, qq.2, hb8⟩
      rw [hCA]
      cases b with
      | false =>
        have HJ1 : Hid (LatJ (ComD d x.fr x.pg) (j + 1) t u ns) := HL.out.2.1.skip (fun t' u' ns' hc => absurd hc (a4 rfl t' u' ns'))
        clear a1 a2 a3 a4 a5 hB8 hV1 kk1 ss1 qq hV2 hCA kk2 k52 hI2 hb8 HC5 HCJ
        go_wp2_with (first | ((with_reducible apply st_alloc); (case ho => rfl); (case hgd => rfl); (case hr => exact HA2.out)) | ((with_reducible apply st_store); (case ho => rfl); (case hgd => rfl); (case hr => exact HS2.out)))
        go_roundw
        case rel => exact ⟨j + 1, t, u, m, ns, by omega, by rw [Int.natCast_add]; rfl, rfl, HM2.out.1, HJ1.out, HL.out.2.2⟩
        case measure => simp only [intOf]; omega
      | true =>
        obtain ⟨mc, nc, b1, b2, b3, b4⟩ := a5 rfl
        have hfun : ∀ t' u' ns', ComD d x.fr x.pg j t' u' ns' → t' = n := fun t' u' ns' hc => hc.1.symm.trans b4.1
        by_cases hq : t < n
        · have c1 : (t : Int) < (n : Int) := by omega
          have HJ1 : Hid (LatJ (ComD d x.fr x.pg) (j + 1) n uc nc) := HL.out.2.1.take b4 hfun hq
          have hn2 : NmAt V2 mc nc := b2.kept k52 (fun z => z)
          have HN2 : Hid (NmAt V2 mc nc ∧ w.heap.size ≤ mc ∧ mo = some mc ∧ n ≤ 4294967296 ∧ uc.length = 63) := ⟨hn2, by have := HL.out.1.kp.size; omega, b1, a2, a1⟩
          obtain ⟨CT, hCT⟩ : ∃ C, stC uc mo = C := ⟨_, rfl⟩
          have hi68 : (Tryz.prog.info? 68).map (·.size) = some CT.length := by rw [size68, ← hCT, stC_len uc _ a1]
          have HMV : Hid _ := mv_core V2 B8 B5 CT (by omega)
          have HMI : Hid (MI V2 B8 B5 CT V2) := ⟨⟨uc, mo, qq.2, hCT.symm⟩, ⟨_, _, hI2.st⟩, Kept.refl _ _⟩
          have HCT : Hid (stC uc mo = CT) := hCT
          clear a1 a2 a3 a4 a5 hB8 hV1 kk1 ss1 qq hV2 hCA kk2 k52 hI2 hb8 b1 b2 b3 b4 hfun hq hn2 hCT HC5 HCJ
          go_wp2_with (first | ((with_reducible apply st_alloc); (case ho => rfl); (case hgd => rfl); (case hr => exact HA2.out)) | ((with_reducible apply st_store); (case ho => rfl); (case hgd => rfl); (case hr => exact HS2.out)))
          refine wp_region_held_drew (S := (fun (V : World) => (V.rangeAt B8 0 CT ∧ V.there B5 0 64 ∧ Hid (MI V2 B8 B5 CT V)))) (by kernel_rfl) (HMV.out.1 _ (HMI.out.kept ((Kept.refl _ _).drew))) (fun hS0 => ?_)
          refine wpAnyH_take (i := 0) (oi := { dst := some 28, op := Op.move (Operand.tmp 7), type := 3, pos := "commit.go:65", after := #[], guard := none }) (v := (.int .i64 (n : Int))) rfl (by kernel_rfl) (by kernel_rfl) (by kernel_rfl) (fun _ _ _ h => h) (Or.inl ⟨by rfl, ?_⟩) hS0 ?_
          · intro wx hSw
            (try dsimp only at hSw)
            first | (go_simp; done) | (go_simp; with_reducible rfl)
          (try simp only [Act.put]); (try simp only [List.setIfInBounds_toArray]); (try simp only [List.set_cons_succ]); (try simp only [List.set_cons_zero])
          refine wpAnyH_take (i := 1) (oi := { dst := some 29, op := Op.load 68 (Operand.tmp 8), type := 68, pos := "commit.go:65", after := #[{ on := 2, ground := Ground.gcOnly Departure.lateStores }], guard := none }) (v := _) rfl (by kernel_rfl) (by kernel_rfl) (by kernel_rfl) (fun _ _ _ h => h) (yieldsIf_load_mid (by rfl) 68 (Operand.tmp 8) rfl _ _ rfl _ _ (fun V hV => hV.1) hu68 hd68 hi68) hS0 ?_
          (try simp only [Act.put]); (try simp only [List.setIfInBounds_toArray]); (try simp only [List.set_cons_succ]); (try simp only [List.set_cons_zero])
          refine wpAnyH_take (i := 2) (oi := { dst := some 4, op := Op.assign (Operand.tmp 28), type := 3, pos := "commit.go:65", after := #[{ on := 0, ground := Ground.data }, { on := 0, ground := Ground.phase }, { on := 1, ground := Ground.textOnly Departure.lateStores }], guard := none }) (v := (.int .i64 (n : Int))) rfl (by kernel_rfl) (by kernel_rfl) (by kernel_rfl) (fun _ _ _ h => h) (Or.inl ⟨by rfl, ?_⟩) hS0 ?_
          · intro wx hSw
            (try dsimp only at hSw)
            first | (go_simp; done) | (go_simp; with_reducible rfl)
          (try simp only [Act.put]); (try simp only [List.setIfInBounds_toArray]); (try simp only [List.set_cons_succ]); (try simp only [List.set_cons_zero])
          refine wpAnyH_ready (rs := [3]) (by kernel_rfl) (by simp) ?_
          refine AllReadyH.cons rfl (fun K hK => ?_) AllReadyH.nil
          refine dr_store rfl rfl (HMV.out.2.1 _ hS0) ?_
          refine hK.out _ _ (HMV.out.2.2 _ hS0) (fun hS1 => ?_)
          clear hK K
          (try simp only [Act.put]); (try simp only [List.setIfInBounds_toArray]); (try simp only [List.set_cons_succ]); (try simp only [List.set_cons_zero])
          refine wpAnyH_done (by kernel_rfl) ?_ _
          try simp only [Exit.then]
          have HI9 : Hid (LI w B3 B5 uc mc nc (V2.drew.setCells B5 0 CT)) := by
            have h9 := hS0.2.2.out
            rw [← HCT.out] at h9 ⊢
            obtain ⟨g1, g2⟩ := mv_end h9 HN2.out.2.2.2.2
            have kk : Kept (fun i => i = B5) V2 (V2.drew.setCells B5 0 (stC uc mo)) := h9.kp.trans g2 (fun i e => .inl e)
            obtain ⟨l1, l2, l3⟩ := HM2.out
            rw [HN2.out.2.2.1] at g1 g2 kk ⊢
            have hb := HBL.out
            exact ⟨g1, HN2.out.1.kept kk (nm_ne HN2.out.1 ⟨_, _, l1.st⟩), l1.rx.kept kk (by omega), l1.kp.trans kk (fun i e => .inr (by omega)), HN2.out.2.1⟩
          obtain ⟨V9, hV9⟩ : ∃ V, V2.drew.setCells B5 0 CT = V := ⟨_, rfl⟩
          rw [hV9] at HI9 ⊢
          go_wp2_with fail
          go_roundw
          case rel => exact ⟨j + 1, n, uc, mc, nc, by omega, by rw [Int.natCast_add]; rfl, rfl, HI9.out, HJ1.out, HN2.out.2.2.2.1⟩
          case measure => simp only [intOf]; omega
        · have c1 : ¬ (t : Int) < (n : Int) := by omega
          have HJ1 : Hid (LatJ (ComD d x.fr x.pg) (j + 1) t u ns) := HL.out.2.1.skip (fun t' u' ns' hc => by rw [hfun t' u' ns' hc]; omega)
          clear a1 a2 a3 a4 a5 hB8 hV1 kk1 ss1 qq hV2 hCA kk2 k52 hI2 hb8 b1 b2 b3 b4 hfun hq HC5 HCJ
          go_wp2_with (first | ((with_reducible apply st_alloc); (case ho => rfl); (case hgd => rfl); (case hr => exact HA2.out)) | ((with_reducible apply st_store); (case ho => rfl); (case hgd => rfl); (case hr => exact HS2.out)))
          go_roundw
          case rel => exact ⟨j + 1, t, u, m, ns, by omega, by rw [Int.natCast_add]; rfl, rfl, HM2.out.1, HJ1.out, HL.out.2.2⟩
          case measure => simp only [intOf]; omega
    · obtain rfl : j = 2 := by omega
      have hl1 := HL.out.1
      obtain ⟨CT, hCT⟩ : ∃ C, stC u (some m) = C := ⟨_, rfl⟩
      have hi68 : (Tryz.prog.info? 68).map (·.size) = some CT.length := by rw [size68, ← hCT, stC_len u _ hl1.st.2]
      have hb := HBL.out
      have HMV : Hid _ := mv_core wr B5 B3 CT (by omega)
      have HMI : Hid (MI wr B5 B3 CT wr) := ⟨⟨u, some m, hl1.st, hCT.symm⟩, hl1.rx, Kept.refl _ _⟩
      have HCT : Hid (stC u (some m) = CT) := hCT
      clear hl1 hCT hb HCO
      go_wp2_with fail
      refine wp_region_held_drew (S := (fun (V : World) => (V.rangeAt B5 0 CT ∧ V.there B3 0 64 ∧ Hid (MI wr B5 B3 CT V)))) (by kernel_rfl) (HMV.out.1 _ (HMI.out.kept ((Kept.refl _ _).drew))) (fun hS0 => ?_)
      refine wpAnyH_take (i := 0) (oi := { dst := some 31, op := Op.move (Operand.tmp 4), type := 3, pos := "commit.go:68", after := #[], guard := none }) (v := (.int .i64 (t : Int))) rfl (by kernel_rfl) (by kernel_rfl) (by kernel_rfl) (fun _ _ _ h => h) (Or.inl ⟨by rfl, ?_⟩) hS0 ?_
      · intro wx hSw
        (try dsimp only at hSw)
        first | (go_simp; done) | (go_simp; with_reducible rfl)
      (try simp only [Act.put]); (try simp only [List.setIfInBounds_toArray]); (try simp only [List.set_cons_succ]); (try simp only [List.set_cons_zero])
      refine wpAnyH_take (i := 1) (oi := { dst := some 32, op := Op.load 68 (Operand.tmp 5), type := 68, pos := "commit.go:68", after := #[{ on := 2, ground := Ground.gcOnly Departure.lateStores }], guard := none }) (v := _) rfl (by kernel_rfl) (by kernel_rfl) (by kernel_rfl) (fun _ _ _ h => h) (yieldsIf_load_mid (by rfl) 68 (Operand.tmp 5) rfl _ _ rfl _ _ (fun V hV => hV.1) hu68 hd68 hi68) hS0 ?_
      (try simp only [Act.put]); (try simp only [List.setIfInBounds_toArray]); (try simp only [List.set_cons_succ]); (try simp only [List.set_cons_zero])
      refine wpAnyH_take (i := 2) (oi := { dst := some 2, op := Op.assign (Operand.tmp 31), type := 3, pos := "commit.go:68", after := #[{ on := 0, ground := Ground.data }, { on := 0, ground := Ground.phase }, { on := 1, ground := Ground.textOnly Departure.lateStores }], guard := none }) (v := (.int .i64 (t : Int))) rfl (by kernel_rfl) (by kernel_rfl) (by kernel_rfl) (fun _ _ _ h => h) (Or.inl ⟨by rfl, ?_⟩) hS0 ?_
      · intro wx hSw
        (try dsimp only at hSw)
        first | (go_simp; done) | (go_simp; with_reducible rfl)
      (try simp only [Act.put]); (try simp only [List.setIfInBounds_toArray]); (try simp only [List.set_cons_succ]); (try simp only [List.set_cons_zero])
      refine wpAnyH_ready (rs := [3]) (by kernel_rfl) (by simp) ?_
      refine AllReadyH.cons rfl (fun K hK => ?_) AllReadyH.nil
      refine dr_store rfl rfl (HMV.out.2.1 _ hS0) ?_
      refine hK.out _ _ (HMV.out.2.2 _ hS0) (fun hS1 => ?_)
      clear hK K
      (try simp only [Act.put]); (try simp only [List.setIfInBounds_toArray]); (try simp only [List.set_cons_succ]); (try simp only [List.set_cons_zero])
      refine wpAnyH_done (by kernel_rfl) ?_ _
      try simp only [Exit.then]
      have hl := HL.out
      have h9 := hS0.2.2.out
      rw [← HCT.out] at h9
      obtain ⟨g1, g2⟩ := mv_end h9 hl.1.st.2
      have kk : Kept (fun i => i = B3) wr (wr.drew.setCells B3 0 (stC u (some m))) := h9.kp.trans g2 (fun i e => .inl e)
      obtain ⟨V9, hV9⟩ : ∃ V, wr.drew.setCells B3 0 (stC u (some m)) = V := ⟨_, rfl⟩
      rw [hV9] at g1 g2 kk
      have hV9b : wr.drew.setCells B3 0 CT = V9 := by rw [← HCT.out]; exact hV9
      rw [hV9b]
      clear hV9 hV9b
      go_wp2_with fail
      have hld := g1.loadV
      refine bodyPost_ret (end_tmp_cell rfl rfl hld) rfl ?_
      have hb := HBL.out
      exact ⟨t, u, m, ns, rfl, hl.1.st.2, hl.2.2, hl.1.nm.kept kk (nm_ne hl.1.nm hl.1.rx), hl.1.ml, hl.1.kp.trans kk (fun i e => .inr (by omega)), hl.2.1⟩
end Go.Proofs.YtkhpmmmildcceaaGreat
