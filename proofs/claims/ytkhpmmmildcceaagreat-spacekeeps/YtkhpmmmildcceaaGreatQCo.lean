/- Commit. -/
import Derived.Test.YtkhpmmmildcceaaGreatQOp
import Derived.Test.YtkhpmmmildcceaaGreatQNmo
namespace Go.Proofs.YtkhpmmmildcceaaGreat
open Go.ChangeShapes Go.WideShapes Go.ChangeAt Go.RowKit
set_option linter.unusedVariables false
set_option maxRecDepth 100000

theorem nm_ne_blk {w : World} {m : Nat} {ns : List Nam} (h : NmAt w m ns) {b : Nat} {t : TypeId} {C : List Value} (k : Blk w b t C) : m ≠ b := by
  rintro rfl
  obtain ⟨es, clock, hb, _⟩ := h
  unfold Blk at k
  rw [hb] at k
  cases k
/-- The bytes of a state's map. -/
def mapB (u : List UInt8) (ns : List Nam) : List UInt8 := bytesB (lay (UInt8.ofNat 3) (cellsN u ns))
theorem bytesB_len (kd : UInt8) {cs : List Cel} (h : okC cs) : (bytesB (lay kd cs)).length = 256 := by
  have hl := lay_len kd cs h.2
  unfold bytesB
  rw [List.length_append, List.length_append, List.length_take, List.length_drop, hl]
  rfl
/-- What Commit answers. -/
def CoE (F : Nat → Prop) (d : Dk) (p : Nat) (x : Sp) (nn : List Nam) (w : World) (e : Ending) (w' : World) : Prop :=
  (soundN x.un nn = false ∧ e = .returned (.int .i64 130) ∧ Kept (fun _ => False) w w') ∨
  (soundN x.un nn = true ∧ x.tn = 1048575 ∧ e = .returned (.int .i64 2) ∧ Kept (fun _ => False) w w') ∨
  (soundN x.un nn = true ∧ x.tn ≠ 1048575 ∧ ∃ er dd, LayS d x.fr (x.tn + 1) (mapB x.un nn) er dd ∧ ((er ≠ 0 ∧ e = .returned (.int .i64 er) ∧ Out F w w' x.pd dd) ∨ (er = 0 ∧ e = .returned (.int .i64 0) ∧ ∃ k, SpAt w' p { x with tn := x.tn + 1, ul := x.un, ml := some k } ∧ NmAt w' k nn ∧ w.heap.size ≤ k ∧ ∃ F', Disk w' F' x.pd dd ∧ Kept (fun i => F i ∨ i = p) w w' ∧ Grew F F' w ∧ ¬ F' k)))
set_option maxHeartbeats 4000000 in
theorem commit_is {w : World} {F : Nat → Prop} {p b : Nat} {x : Sp} {d : Dk} {nn : List Nam} (h : SpAt w p x) (hd : Disk w F x.pd d) (np : ¬ F p) (hb : x.mn = some b) (hn : NmAt w b nn) (hk : ∀ y, y ∈ nn → okN y) (hl : nn.length ≤ 6) (hfr : x.fr ≤ 4096) (htn : x.tn ≤ 1048575) (hin : x.fr + 24 ≤ d.n) (hq : d.Q.length + 20 ≤ 1048576) (nb : ¬ F b) : Calls Tryz.prog 22 #[.pointer (some ⟨p, 0, none⟩)] w fun e w' => CoE F d p x nn w e w' := by
  have HO : Hid _ := open_yes h
  have hm63 : w.cell? ⟨p, 68 + 63, none⟩ = some (.map (some b)) := by rw [← hb]; exact h.cn
  obtain ⟨sd, hsd⟩ : ∃ z, soundN x.un nn = z := ⟨_, rfl⟩
  have HSO : Hid (Calls Tryz.prog 56 #[.pointer (some ⟨p, 68, none⟩)] w fun e w' => e = .returned (.bool sd) ∧ Hid (Kept (fun _ => False) w w')) := by
    have := sound_is h.now hm63 hn
    rw [hsd] at this
    exact this
  have HSD : Hid (soundN x.un nn = sd) := hsd
  have HX : Hid (SpAt w p x ∧ Disk w F x.pd d ∧ ¬ F p ∧ NmAt w b nn ∧ p < w.heap.size) := ⟨h, hd, np, hn, h.blk.lt⟩
  obtain ⟨tn, htn2⟩ : ∃ t, x.tn = t := ⟨_, rfl⟩
  have HTN : Hid (x.tn = tn) := htn2
  have HC3 : Hid (∀ V, Kept (fun _ => False) w V → V.cell? ⟨p, 3, none⟩ = some (.int .i64 (tn : Int))) := fun V k => by rw [← htn2]; exact k.cell h.c3 (fun z => z)
  cases sd with
  | false =>
    clear h hd np hb hn hk hl hfr htn hin hq nb hm63 hsd htn2
    go_enter Tryz.func22, Tryz.ntmps22
    go_wp2_with fail
    refine Calls.mono HO.out ?_; rintro e w1 ⟨rfl, rfl⟩
    go_wp2_with fail
    refine Calls.mono HSO.out ?_; rintro e w2 ⟨rfl, HK2⟩
    go_wp2_with fail
    go_ret
    exact .inl ⟨HSD.out, rfl, HK2.out⟩
  | true =>
    by_cases hmax : tn = 1048575
    · have c1 : (tn : Int) = 1048575 := by omega
      have HMX : Hid (tn = 1048575) := hmax
      clear h hd np hb hn hk hl hfr htn hin hq nb hm63 hsd htn2 hmax
      go_enter Tryz.func22, Tryz.ntmps22
      go_wp2_with fail
      refine Calls.mono HO.out ?_; rintro e w1 ⟨rfl, rfl⟩
      go_wp2_with fail
      refine Calls.mono HSO.out ?_; rintro e w2 ⟨rfl, HK2⟩
      have hc3 := HC3.out w2 HK2.out
      rw [c1] at hc3
      go_wp2_with fail
      go_ret
      exact .inr (.inl ⟨HSD.out, by rw [HTN.out]; exact HMX.out, rfl, HK2.out⟩)
    · have c1 : ¬ (tn : Int) = 1048575 := by omega
      have c2 : (tn : Int) ≤ 1048575 := by omega
      have hu := h.ln
      have hokc := okC_cells hu hk hl
      have hsnd := List.all_eq_true.1 hsd
      have hpg : ∀ y, y ∈ nn → okN y ∧ y.2 < 65536 := fun y hy => ⟨hk y hy, by
        have := hasU_range (hsnd y hy)
        omega⟩
      obtain ⟨tx, htx⟩ : ∃ z : ByteArray, (⟨(mapB x.un nn).toArray⟩ : ByteArray) = z := ⟨_, rfl⟩
      have htxs : tx.size = 256 := by rw [← htx]; show (mapB x.un nn).toArray.size = 256; rw [List.size_toArray]; exact bytesB_len _ hokc
      have htxl : tx.data.toList = mapB x.un nn := by rw [← htx]
      have HWT : Hid (IntKind.i64.wrap ((tn : Int) + 1) = ((tn + 1 : Nat) : Int)) := by show _ = _; rw [IntKind.wrap_i64]; omega
      have HBY : Hid (∀ V, Kept (fun _ => False) w V → Calls Tryz.prog 58 #[.pointer (some ⟨p, 68, none⟩)] V fun e w' => e = .returned (.string tx) ∧ w'.cell? ⟨p, 3, none⟩ = some (.int .i64 (tn : Int)) ∧ Hid (Kept (fun _ => False) w w')) := fun V kV => by
        have hX := h.kept kV (fun z => z)
        refine (sbytes_is hX.now (kV.cell hm63 (fun z => z)) (hn.kept kV (fun z => z)) hpg).mono ?_
        rintro e w' ⟨cs, q1, rfl, q2⟩
        have kk := kV.trans q2 (fun _ z => z.elim)
        rw [q1.2.2.2.2 hokc]
        exact ⟨by rw [← htx]; rfl, HC3.out _ kk, kk⟩
      have HLY : Hid (∀ V, Kept (fun _ => False) w V → Calls Tryz.prog 57 #[.pointer (some ⟨p, 0, none⟩), .int .i64 ((tn + 1 : Nat) : Int), .string tx] V fun e w' => ∃ er dd, e = .returned (.int .i64 er) ∧ w'.cell? ⟨p, 3, none⟩ = some (.int .i64 (tn : Int)) ∧ Hid (LayS d x.fr (tn + 1) (mapB x.un nn) er dd ∧ Out F w w' x.pd dd)) := fun V kV => by
        have o0 : Out F w V x.pd d := Out.keep ⟨F, hd, Kept.refl _ _, fun i hi => .inl hi⟩ kV
        obtain ⟨F', g1, g2, g3, g4⟩ := o0.next h.blk.lt np
        refine (lay_is x.fr (tn + 1) (g4 0 _ h.c0) (g4 1 _ h.c1) g1 g2 hfr (by omega) hin tx htxs hq).mono ?_
        rintro e w' ⟨er, dd, rfl, q1, q2⟩
        rw [htxl] at q1
        have q3 := g3 _ _ q2
        refine ⟨er, dd, rfl, ?_, q1, q3⟩
        obtain ⟨F2, r1, r2, r3⟩ := q3
        rw [← htn2]
        exact r2.cell h.c3 np
      have HUX : Hid (x.un.length = 63 ∧ ¬ F b ∧ x.mn = some b) := ⟨hu, nb, hb⟩
      have HNE : Hid (¬ x.tn = 1048575) := by show ¬ _; rw [htn2]; exact hmax
      clear h hd np hb hn hk hl hfr htn hin hq nb hm63 hsd htn2 hmax hu hokc hsnd hpg htx htxs htxl
      go_enter Tryz.func22, Tryz.ntmps22
      go_wp2_with fail
      refine Calls.mono HO.out ?_; rintro e w1 ⟨rfl, rfl⟩
      go_wp2_with fail
      refine Calls.mono HSO.out ?_; rintro e w2 ⟨rfl, HK2⟩
      have hc3 := HC3.out w2 HK2.out
      go_wp2_with fail
      refine wp_region_held_drew (S := (fun (V : World) => V.cell? ⟨p, 3, none⟩ = some (.int .i64 (tn : Int)))) (by kernel_rfl) (hc3) (fun hS0 => ?_)
      refine wpAnyH_take (i := 0) (oi := { dst := some 17, op := Op.move (Operand.tmp 0), type := 27, pos := "commit.go:100", after := #[], guard := none }) (v := (.pointer (some ⟨p, 0, none⟩))) rfl (by kernel_rfl) (by kernel_rfl) (by kernel_rfl) (fun _ _ _ h => h) (Or.inl ⟨by rfl, ?_⟩) hS0 ?_
      · intro wx hSw
        (try dsimp only at hSw)
        first | (go_simp; done) | (go_simp; with_reducible rfl)
      (try simp only [Act.put]); (try simp only [List.setIfInBounds_toArray]); (try simp only [List.set_cons_succ]); (try simp only [List.set_cons_zero])
      refine wpAnyH_take (i := 1) (oi := { dst := some 18, op := Op.move (Operand.tmp 0), type := 27, pos := "commit.go:100", after := #[], guard := none }) (v := (.pointer (some ⟨p, 0, none⟩))) rfl (by kernel_rfl) (by kernel_rfl) (by kernel_rfl) (fun _ _ _ h => h) (Or.inl ⟨by rfl, ?_⟩) hS0 ?_
      · intro wx hSw
        (try dsimp only at hSw)
        first | (go_simp; done) | (go_simp; with_reducible rfl)
      (try simp only [Act.put]); (try simp only [List.setIfInBounds_toArray]); (try simp only [List.set_cons_succ]); (try simp only [List.set_cons_zero])
      refine wpAnyH_take (i := 2) (oi := { dst := some 19, op := Op.nilCheck (Operand.tmp 18), type := 0, pos := "commit.go:100", after := #[{ on := 1, ground := Ground.data }], guard := none }) (v := (.pointer (some ⟨p, 0, none⟩))) rfl (by kernel_rfl) (by kernel_rfl) (by kernel_rfl) (fun _ _ _ h => h) (Or.inl ⟨by rfl, ?_⟩) hS0 ?_
      · intro wx hSw
        (try dsimp only at hSw)
        first | (go_simp; done) | (go_simp; with_reducible rfl)
      (try simp only [Act.put]); (try simp only [List.setIfInBounds_toArray]); (try simp only [List.set_cons_succ]); (try simp only [List.set_cons_zero])
      refine wpAnyH_take (i := 3) (oi := { dst := some 20, op := Op.fieldAddr 70 (Operand.tmp 19) 3, type := 0, pos := "commit.go:100", after := #[{ on := 2, ground := Ground.data }], guard := none }) (v := (.pointer (some ⟨p, 3, none⟩))) rfl (by kernel_rfl) (by kernel_rfl) (by kernel_rfl) (fun _ _ _ h => h) (Or.inl ⟨by rfl, ?_⟩) hS0 ?_
      · intro wx hSw
        (try dsimp only at hSw)
        first | (go_simp; done) | (go_simp; with_reducible rfl)
      (try simp only [Act.put]); (try simp only [List.setIfInBounds_toArray]); (try simp only [List.set_cons_succ]); (try simp only [List.set_cons_zero])
      refine wpAnyH_take (i := 4) (oi := { dst := some 21, op := Op.load 3 (Operand.tmp 20), type := 3, pos := "commit.go:100", after := #[{ on := 3, ground := Ground.data }], guard := none }) (v := (.int .i64 (tn : Int))) rfl (by kernel_rfl) (by kernel_rfl) (by kernel_rfl) (fun _ _ _ h => h) (Or.inl ⟨by rfl, ?_⟩) hS0 ?_
      · intro wx hSw
        (try dsimp only at hSw)
        first | (go_simp; done) | (go_simp; with_reducible rfl)
      (try simp only [Act.put]); (try simp only [List.setIfInBounds_toArray]); (try simp only [List.set_cons_succ]); (try simp only [List.set_cons_zero])
      refine wpAnyH_take (i := 5) (oi := { dst := some 22, op := Op.binOp BinOp.add 3 (Operand.tmp 21) (Operand.const (Value.int IntKind.i64 1)) 3, type := 3, pos := "commit.go:100", after := #[{ on := 4, ground := Ground.data }], guard := none }) (v := (.int .i64 ((tn + 1 : Nat) : Int))) rfl (by kernel_rfl) (by kernel_rfl) (by kernel_rfl) (fun _ _ _ h => h) (Or.inl ⟨by rfl, ?_⟩) hS0 ?_
      · intro wx hSw
        (try dsimp only at hSw)
        first | (go_simp; done) | (go_simp; with_reducible rfl) | (go_simp; exact HWT.out)
      (try simp only [Act.put]); (try simp only [List.setIfInBounds_toArray]); (try simp only [List.set_cons_succ]); (try simp only [List.set_cons_zero])
      refine wpAnyH_take (i := 6) (oi := { dst := some 23, op := Op.move (Operand.tmp 0), type := 27, pos := "commit.go:100", after := #[], guard := none }) (v := (.pointer (some ⟨p, 0, none⟩))) rfl (by kernel_rfl) (by kernel_rfl) (by kernel_rfl) (fun _ _ _ h => h) (Or.inl ⟨by rfl, ?_⟩) hS0 ?_
      · intro wx hSw
        (try dsimp only at hSw)
        first | (go_simp; done) | (go_simp; with_reducible rfl)
      (try simp only [Act.put]); (try simp only [List.setIfInBounds_toArray]); (try simp only [List.set_cons_succ]); (try simp only [List.set_cons_zero])
      refine wpAnyH_take (i := 7) (oi := { dst := some 24, op := Op.nilCheck (Operand.tmp 23), type := 0, pos := "commit.go:100", after := #[{ on := 6, ground := Ground.data }], guard := none }) (v := (.pointer (some ⟨p, 0, none⟩))) rfl (by kernel_rfl) (by kernel_rfl) (by kernel_rfl) (fun _ _ _ h => h) (Or.inl ⟨by rfl, ?_⟩) hS0 ?_
      · intro wx hSw
        (try dsimp only at hSw)
        first | (go_simp; done) | (go_simp; with_reducible rfl)
      (try simp only [Act.put]); (try simp only [List.setIfInBounds_toArray]); (try simp only [List.set_cons_succ]); (try simp only [List.set_cons_zero])
      refine wpAnyH_take (i := 8) (oi := { dst := some 25, op := Op.fieldAddr 70 (Operand.tmp 24) 5, type := 0, pos := "commit.go:100", after := #[{ on := 7, ground := Ground.data }], guard := none }) (v := (.pointer (some ⟨p, 68, none⟩))) rfl (by kernel_rfl) (by kernel_rfl) (by kernel_rfl) (fun _ _ _ h => h) (Or.inl ⟨by rfl, ?_⟩) hS0 ?_
      · intro wx hSw
        (try dsimp only at hSw)
        first | (go_simp; done) | (go_simp; with_reducible rfl)
      (try simp only [Act.put]); (try simp only [List.setIfInBounds_toArray]); (try simp only [List.set_cons_succ]); (try simp only [List.set_cons_zero])
      refine wpAnyH_ready (rs := [9]) (by kernel_rfl) (by simp) ?_
      refine AllReadyH.cons rfl (fun K hK => ?_) AllReadyH.nil
      go_simp
      refine Calls.mono (HBY.out _ HK2.out.drew) ?_
      rintro e w8 ⟨rfl, hS8, HK8⟩
      refine hK.out _ _ (hS8) (fun hS1 => ?_)
      clear hK K
      (try simp only [Act.put]); (try simp only [List.setIfInBounds_toArray]); (try simp only [List.set_cons_succ]); (try simp only [List.set_cons_zero])
      refine wpAnyH_ready (rs := [10]) (by kernel_rfl) (by simp) ?_
      refine AllReadyH.cons rfl (fun K hK => ?_) AllReadyH.nil
      go_simp
      refine Calls.mono (HLY.out w8 HK8.out) ?_
      rintro e w9 ⟨er, dd, rfl, hS9, HL9⟩
      refine hK.out _ _ (hS9) (fun hS2 => ?_)
      clear hK K
      (try simp only [Act.put]); (try simp only [List.setIfInBounds_toArray]); (try simp only [List.set_cons_succ]); (try simp only [List.set_cons_zero])
      refine wpAnyH_take (i := 11) (oi := { dst := some 3, op := Op.assign (Operand.tmp 27), type := 24, pos := "commit.go:100", after := #[{ on := 10, ground := Ground.data }, { on := 10, ground := Ground.chain }, { on := 0, ground := Ground.phase }, { on := 1, ground := Ground.phase }, { on := 2, ground := Ground.phase }, { on := 3, ground := Ground.phase }, { on := 4, ground := Ground.phase }, { on := 5, ground := Ground.phase }, { on := 6, ground := Ground.phase }, { on := 7, ground := Ground.phase }, { on := 8, ground := Ground.phase }, { on := 9, ground := Ground.phase }, { on := 10, ground := Ground.phase }], guard := none }) (v := (.int .i64 er)) rfl (by kernel_rfl) (by kernel_rfl) (by kernel_rfl) (fun _ _ _ h => h) (Or.inl ⟨by rfl, ?_⟩) hS2 ?_
      · intro wx hSw
        (try dsimp only at hSw)
        first | (go_simp; done) | (go_simp; with_reducible rfl)
      (try simp only [Act.put]); (try simp only [List.setIfInBounds_toArray]); (try simp only [List.set_cons_succ]); (try simp only [List.set_cons_zero])
      refine wpAnyH_done (by kernel_rfl) ?_ _
      try simp only [Exit.then]
      obtain ⟨hl9, F9, g1, g2, g3⟩ := HL9.out
      by_cases h0 : er = 0
      · subst h0
        have s9 : SpAt w9 p x := HX.out.1.kept g2 HX.out.2.2.1
        have n9 : NmAt w9 b nn := HX.out.2.2.2.1.kept g2 HUX.out.2.1
        have f3 := s9.blk.fz 3
        have q10 := s9.setT (tn + 1)
        obtain ⟨V10, hV10⟩ : ∃ V, w9.setCell ⟨p, 3, none⟩ (.int .i64 ((tn + 1 : Nat) : Int)) = V := ⟨_, rfl⟩
        rw [hV10] at q10
        have HST10 : Hid ((Instr.storeAt 3 (.pointer (some ⟨p, 3, none⟩)) (.int .i64 ((tn : Int) + 1))).run Tryz.prog w9 = .ok () V10) := by
          rw [← hV10]
          show (Instr.storeAt 3 (.pointer (some ⟨p, 3, none⟩)) (.int .i64 ((tn : Int) + 1))).run Tryz.prog w9 = _
          simp [go_sem, hS9, f3]
        have hbp : b ≠ p := nm_ne_blk n9 s9.blk
        have n10 : NmAt V10 b nn := n9.kept q10.2 hbp
        have HCP : Hid (Calls Tryz.prog 34 #[.pointer (some ⟨p, 68, none⟩)] V10 fun e w' => ∃ k, e = .returned (.agg (stC x.un (some k)).toArray) ∧ Hid (NmAt w' k nn ∧ V10.heap.size ≤ k ∧ Kept (fun _ => False) V10 w')) := by
          have hc : V10.cell? ⟨p, 68 + 63, none⟩ = some (.map (some b)) := by
            have := q10.1.cn
            rw [show ({ x with tn := tn + 1 } : Sp).mn = some b from HUX.out.2.2] at this
            exact this
          refine (copied_is q10.1.now hc n10).mono ?_
          rintro e w' ⟨k, rfl, b1, b2, b3⟩
          exact ⟨k, rfl, b1, b2, b3⟩
        have HQ10 : Hid (SpAt V10 p { x with tn := tn + 1 } ∧ Kept (fun i => i = p) w9 V10) := q10
        have HG9 : Hid (Out F w1 w9 x.pd dd ∧ LayS d x.fr (tn + 1) (mapB x.un nn) 0 dd) := ⟨⟨F9, g1, g2, g3⟩, hl9⟩
        clear hl9 g1 g2 g3 s9 n9 f3 q10 hV10 hbp n10 HL9
        go_wp2_with (first | ((with_reducible apply st_store); (case ho => rfl); (case hgd => rfl); (case hr => exact HST10.out)) | fail)
        refine Calls.mono HCP.out ?_; rintro e w11 ⟨k, rfl, HN11⟩
        obtain ⟨b1, b2, b3⟩ := HN11.out
        have s11 := HQ10.out.1.kept b3 (fun z => z)
        have q12 := s11.setL x.un (some k) HUX.out.1
        obtain ⟨V12, hV12⟩ : ∃ V, w11.setCells p 4 (stC x.un (some k)) = V := ⟨_, rfl⟩
        obtain ⟨CB, hCB⟩ : ∃ C, (stC x.un (some k)).toArray = C := ⟨_, rfl⟩
        rw [hV12, hCB] at q12
        have HST12 : Hid ((Instr.storeAt 68 (.pointer (some ⟨p, 4, none⟩)) (.agg CB)).run Tryz.prog w11 = .ok () V12) := q12.1
        have HF : Hid (CoE F d p x nn w1 (.returned (.int .i64 0)) V12) := by
          obtain ⟨o9, l9⟩ := HG9.out
          have hsz := HX.out.2.2.2.2
          have hz10 : w9.heap.size ≤ V10.heap.size := HQ10.out.2.size
          have hz9 : w1.heap.size ≤ w9.heap.size := by obtain ⟨F9, g1, g2, g3⟩ := o9; exact g2.size
          refine .inr (.inr ⟨HSD.out, HNE.out, 0, dd, by rw [HTN.out]; exact l9, .inr ⟨rfl, rfl, k, by rw [HTN.out]; exact q12.2.1, b1.kept q12.2.2 (by omega), by omega, ?_⟩⟩)
          obtain ⟨F9, g1, g2, g3⟩ := o9
          have kk : Kept (fun i => i = p) w9 V12 := (HQ10.out.2.trans b3 (fun _ z => z.elim)).trans q12.2.2 (fun i z => .inl z)
          refine ⟨F9, g1.kept kk (fun i hi e => ?_), (g2.mono (fun i z => .inl z)).trans kk (fun i e => .inl (.inr e)), g3, fun z => by have := g1.bound k z; omega⟩
          subst e
          rcases g3 _ hi with q | q
          · exact HX.out.2.2.1 q
          · omega
        rw [hCB]
        clear b1 b2 b3 s11 q12 hV12 hCB HN11
        go_wp2_with (first | ((with_reducible apply st_store); (case ho => rfl); (case hgd => rfl); (case hr => exact HST12.out)) | fail)
        go_ret
        exact HF.out
      · have HF : Hid (CoE F d p x nn w1 (.returned (.int .i64 er)) w9) := .inr (.inr ⟨HSD.out, HNE.out, er, dd, by rw [HTN.out]; exact hl9, .inl ⟨h0, rfl, F9, g1, g2, g3⟩⟩)
        clear hl9 g1 g2 g3 HL9
        go_wp2_with fail
        go_ret
        exact HF.out
end Go.Proofs.YtkhpmmmildcceaaGreat
