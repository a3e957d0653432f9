/- Name, Named. -/
import Derived.Test.YtkhpmmmildcceaaGreatQOp
import Derived.Test.YtkhpmmmildcceaaGreatQSof
namespace Go.Proofs.YtkhpmmmildcceaaGreat
open Go.ChangeShapes Go.WideShapes Go.ChangeAt Go.RowKit
set_option linter.unusedVariables false
set_option maxRecDepth 100000

theorem named_is {w : World} {p b : Nat} {x : Sp} {nn : List Nam} (h : SpAt w p x) (hb : x.mn = some b) (hn : NmAt w b nn) (s : ByteArray) (hs : s.size ≤ 1000) : Calls Tryz.prog 26 #[.pointer (some ⟨p, 0, none⟩), .string s] w fun e w' => e = .returned (.tuple #[.int .i64 (((getN nn s.data.toList).getD 0 : Nat) : Int), .bool (getN nn s.data.toList).isSome]) ∧ w' = w := by
  have HO : Hid _ := open_yes h
  have hc131 : w.cell? ⟨p, 131, none⟩ = some (.map (some b)) := by rw [← hb]; exact h.cn
  have hlk := hn.look s hs
  obtain ⟨n0, hn0⟩ : ∃ z, (getN nn s.data.toList).getD 0 = z := ⟨_, rfl⟩
  obtain ⟨is, his⟩ : ∃ z, (getN nn s.data.toList).isSome = z := ⟨_, rfl⟩
  rw [hn0, his] at hlk ⊢
  clear h hb hn hs hn0 his
  go_enter Tryz.func26, Tryz.ntmps26
  go_wp2_with fail
  refine Calls.mono HO.out ?_; rintro e w1 ⟨rfl, rfl⟩
  go_wp2_with fail
  go_ret2
  exact ⟨rfl, rfl⟩
theorem clone_str (s : ByteArray) (hs : s.size ≤ 1000) (w : World) : Calls Tryz.prog 55 #[.string s] w fun e w' => e = .returned (.string s) ∧ Kept (fun _ => False) w w' := by
  have HC : Hid (∀ V, Calls Tryz.prog 74 #[.string s] V fun e w' => e = .returned (.string s) ∧ Hid (Kept (fun _ => False) V w')) := fun V => (Tryz.stringslite_Clone s V (by omega)).mono (fun e w' h => ⟨h.1, below_k0 h.2⟩)
  go_enter Tryz.func55, Tryz.ntmps55
  go_wp2_with fail
  refine Calls.mono (HC.out _) ?_; rintro e w1 ⟨rfl, HK⟩
  go_wp2_with fail
  go_ret
  exact ⟨rfl, HK.out⟩
/-- What Name answers. -/
def NaE (u : List UInt8) (nn : List Nam) (s : ByteArray) (n : Int) (w : World) (b : Nat) (e : Ending) (w' : World) : Prop :=
  (¬ (1 ≤ s.size ∧ s.size ≤ 8) ∧ e = .returned (.int .i64 1) ∧ w' = w) ∨
  ((1 ≤ s.size ∧ s.size ≤ 8) ∧ hasU u n = false ∧ e = .returned (.int .i64 130) ∧ w' = w) ∨
  ((1 ≤ s.size ∧ s.size ≤ 8) ∧ hasU u n = true ∧ getN nn s.data.toList = none ∧ nn.length = 6 ∧ e = .returned (.int .i64 2) ∧ w' = w) ∨
  ((1 ≤ s.size ∧ s.size ≤ 8) ∧ hasU u n = true ∧ ¬ (getN nn s.data.toList = none ∧ nn.length = 6) ∧ e = .returned (.int .i64 0) ∧ NmAt w' b (putN nn s.data.toList n.toNat) ∧ Kept (fun i => i = b) w w')
set_option maxHeartbeats 2000000 in
theorem name_is {w : World} {p b : Nat} {x : Sp} {nn : List Nam} (h : SpAt w p x) (hb : x.mn = some b) (hn : NmAt w b nn) (hl : nn.length ≤ 6) (s : ByteArray) (hs : s.size ≤ 1000) (ni : Int) : Calls Tryz.prog 21 #[.pointer (some ⟨p, 0, none⟩), .string s, .int .i64 ni] w fun e w' => NaE x.un nn s ni w b e w' := by
  have HO : Hid _ := open_yes h
  have hc131 : w.cell? ⟨p, 131, none⟩ = some (.map (some b)) := by rw [← hb]; exact h.cn
  have hlk := hn.look s hs
  have HLK : Hid (getN nn s.data.toList = none ↔ (getN nn s.data.toList).isSome = false) := by show _ ↔ _; cases getN nn s.data.toList <;> simp
  obtain ⟨n0, hn0⟩ : ∃ z, (getN nn s.data.toList).getD 0 = z := ⟨_, rfl⟩
  obtain ⟨is, his⟩ : ∃ z, (getN nn s.data.toList).isSome = z := ⟨_, rfl⟩
  rw [hn0, his] at hlk
  rw [his] at HLK
  have HMN : Hid _ := mayName_is s hs w
  have HHA : Hid _ := hasU_is h.now ni
  have hln : ∀ ty, (Builtin.len_ #[66] ty #[.map (some b)]).run Tryz.prog w = .ok (.int .i64 (nn.length : Int)) w := fun ty => hn.len ty
  have HCL : Hid (∀ V, Kept (fun _ => False) w V → Calls Tryz.prog 55 #[.string s] V fun e w' => e = .returned (.string s) ∧ w'.cell? ⟨p, 131, none⟩ = some (.map (some b)) ∧ Hid (Kept (fun _ => False) w w')) := fun V hV => (clone_str s hs V).mono (fun e w' ⟨q1, q2⟩ => ⟨q1, (hV.trans q2 (fun _ z => z.elim)).cell hc131 (fun z => z), hV.trans q2 (fun _ z => z.elim)⟩)
  have HNB : Hid (p ≠ b) := fun e => by
    obtain ⟨es, clock, hb2, _⟩ := hn
    have h1 := h.blk
    unfold Blk at h1
    rw [e, hb2] at h1
    cases h1
  have HNM : Hid (NmAt w b nn) := hn
  clear h hb hn hn0 his
  by_cases c1 : 1 ≤ s.size ∧ s.size ≤ 8
  · rw [decide_eq_true c1] at HMN
    have HC1 : Hid (1 ≤ s.size ∧ s.size ≤ 8) := c1
    clear c1
    cases c2 : hasU x.un ni with
    | false =>
      rw [c2] at HHA
      have HC2 : Hid (hasU x.un ni = false) := c2
      clear c2
      go_enter Tryz.func21, Tryz.ntmps21
      go_wp2_with fail
      refine Calls.mono HO.out ?_; rintro e w1 ⟨rfl, rfl⟩
      go_wp2_with fail
      refine Calls.mono HMN.out ?_; rintro e w2 ⟨rfl, rfl⟩
      go_wp2_with fail
      refine Calls.mono HHA.out ?_; rintro e w3 ⟨rfl, rfl⟩
      go_wp2_with fail
      go_ret
      exact .inr (.inl ⟨HC1.out, HC2.out, rfl, rfl⟩)
    | true =>
      rw [c2] at HHA
      have HC2 : Hid (hasU x.un ni = true) := c2
      have hrg := hasU_range c2
      obtain ⟨n, rfl⟩ : ∃ n : Nat, ni = (n : Int) := ⟨ni.toNat, by omega⟩
      have HPT : Hid (∀ V, Kept (fun _ => False) w V → ∃ V', Hid ((Instr.mapUpdate 66 (.map (some b)) (.string s) (.int .i64 (n : Int))).run Tryz.prog V = .ok () V') ∧ Hid ((NmAt V' b (putN nn s.data.toList n) ∧ Kept (fun i => i = b) w V') ∧ V'.cell? ⟨p, 131, none⟩ = some (.map (some b)))) := fun V kV => by
        obtain ⟨V', r1, r2, r3, _⟩ := NmAt.put (HNM.out.kept kV (fun z => z)) (by omega) s hs n (by omega)
        have kk : Kept (fun i => i = b) w V' := (kV.mono (fun _ z => z.elim)).trans r3 (fun i e => .inl e)
        exact ⟨V', r1, ⟨r2, kk⟩, kk.cell hc131 HNB.out⟩
      clear c2 hrg
      by_cases c3 : is = false ∧ nn.length = 6
      · obtain ⟨rfl, c4⟩ := c3
        have HC3 : Hid (nn.length = 6) := c4
        have c5 : (nn.length : Int) = 6 := by omega
        clear c4
        go_enter Tryz.func21, Tryz.ntmps21
        go_wp2_with fail
        refine Calls.mono HO.out ?_; rintro e w1 ⟨rfl, rfl⟩
        go_wp2_with fail
        refine Calls.mono HMN.out ?_; rintro e w2 ⟨rfl, rfl⟩
        go_wp2_with fail
        refine Calls.mono HHA.out ?_; rintro e w3 ⟨rfl, rfl⟩
        go_wp2_with fail
        go_ret
        exact .inr (.inr (.inl ⟨HC1.out, HC2.out, HLK.out.2 trivial, HC3.out, rfl, rfl⟩))
      · have HC3 : Hid (¬ (getN nn s.data.toList = none ∧ nn.length = 6)) := fun z => c3 ⟨HLK.out.1 z.1, z.2⟩
        have hor : is = true ∨ ¬ (nn.length : Int) = 6 := by
          cases is with
          | true => exact .inl rfl
          | false => exact .inr (fun e => c3 ⟨rfl, by omega⟩)
        clear c3 HLK
        have key : ∀ (e : Ending) (w' : World), (e = .returned (.int .i64 0) ∧ NmAt w' b (putN nn s.data.toList n) ∧ Kept (fun i => i = b) w w') → NaE x.un nn s (n : Int) w b e w' := fun e w' ⟨q1, q2, q3⟩ => .inr (.inr (.inr ⟨HC1.out, HC2.out, HC3.out, q1, q2, q3⟩))
        refine Calls.mono ?_ key
        have HKey : Hid _ := key
        clear key
        rcases hor with rfl | c5
        · go_enter Tryz.func21, Tryz.ntmps21
          go_wp2_with fail
          refine Calls.mono HO.out ?_; rintro e w1 ⟨rfl, rfl⟩
          go_wp2_with fail
          refine Calls.mono HMN.out ?_; rintro e w2 ⟨rfl, rfl⟩
          go_wp2_with fail
          refine Calls.mono HHA.out ?_; rintro e w3 ⟨rfl, rfl⟩
          go_wp2_with fail
          refine wp_region_held_drew (S := (fun (V : World) => V.cell? ⟨p, 131, none⟩ = some (.map (some b)))) (by kernel_rfl) (hc131) (fun hS0 => ?_)
          refine wpAnyH_take (i := 0) (oi := { dst := some 45, op := Op.move (Operand.tmp 0), type := 27, pos := "space.go:149", after := #[], guard := none }) (v := (.pointer (some ⟨p, 0, none⟩))) rfl (by kernel_rfl) (by kernel_rfl) (by kernel_rfl) (fun _ _ _ h => h) (Or.inl ⟨by rfl, ?_⟩) hS0 ?_
          · intro wx hSw
            (try dsimp only at hSw)
            first | (go_simp; done) | (go_simp; with_reducible rfl)
          (try simp only [Act.put]); (try simp only [List.setIfInBounds_toArray]); (try simp only [List.set_cons_succ]); (try simp only [List.set_cons_zero])
          refine wpAnyH_take (i := 1) (oi := { dst := some 46, op := Op.nilCheck (Operand.tmp 45), type := 0, pos := "space.go:149", after := #[{ on := 0, ground := Ground.data }], guard := none }) (v := (.pointer (some ⟨p, 0, none⟩))) rfl (by kernel_rfl) (by kernel_rfl) (by kernel_rfl) (fun _ _ _ h => h) (Or.inl ⟨by rfl, ?_⟩) hS0 ?_
          · intro wx hSw
            (try dsimp only at hSw)
            first | (go_simp; done) | (go_simp; with_reducible rfl)
          (try simp only [Act.put]); (try simp only [List.setIfInBounds_toArray]); (try simp only [List.set_cons_succ]); (try simp only [List.set_cons_zero])
          refine wpAnyH_take (i := 2) (oi := { dst := some 47, op := Op.fieldAddr 70 (Operand.tmp 46) 5, type := 0, pos := "space.go:149", after := #[{ on := 1, ground := Ground.data }], guard := none }) (v := (.pointer (some ⟨p, 68, none⟩))) rfl (by kernel_rfl) (by kernel_rfl) (by kernel_rfl) (fun _ _ _ h => h) (Or.inl ⟨by rfl, ?_⟩) hS0 ?_
          · intro wx hSw
            (try dsimp only at hSw)
            first | (go_simp; done) | (go_simp; with_reducible rfl)
          (try simp only [Act.put]); (try simp only [List.setIfInBounds_toArray]); (try simp only [List.set_cons_succ]); (try simp only [List.set_cons_zero])
          refine wpAnyH_take (i := 3) (oi := { dst := some 48, op := Op.fieldAddr 68 (Operand.tmp 47) 1, type := 0, pos := "space.go:149", after := #[{ on := 2, ground := Ground.data }], guard := none }) (v := (.pointer (some ⟨p, 131, none⟩))) rfl (by kernel_rfl) (by kernel_rfl) (by kernel_rfl) (fun _ _ _ h => h) (Or.inl ⟨by rfl, ?_⟩) hS0 ?_
          · intro wx hSw
            (try dsimp only at hSw)
            first | (go_simp; done) | (go_simp; with_reducible rfl)
          (try simp only [Act.put]); (try simp only [List.setIfInBounds_toArray]); (try simp only [List.set_cons_succ]); (try simp only [List.set_cons_zero])
          refine wpAnyH_take (i := 4) (oi := { dst := some 49, op := Op.load 66 (Operand.tmp 48), type := 66, pos := "space.go:149", after := #[{ on := 3, ground := Ground.data }], guard := none }) (v := (.map (some b))) rfl (by kernel_rfl) (by kernel_rfl) (by kernel_rfl) (fun _ _ _ h => h) (Or.inl ⟨by rfl, ?_⟩) hS0 ?_
          · intro wx hSw
            (try dsimp only at hSw)
            first | (go_simp; done) | (go_simp; with_reducible rfl)
          (try simp only [Act.put]); (try simp only [List.setIfInBounds_toArray]); (try simp only [List.set_cons_succ]); (try simp only [List.set_cons_zero])
          refine wpAnyH_take (i := 5) (oi := { dst := some 50, op := Op.move (Operand.tmp 1), type := 9, pos := "space.go:149", after := #[], guard := none }) (v := (.string s)) rfl (by kernel_rfl) (by kernel_rfl) (by kernel_rfl) (fun _ _ _ h => h) (Or.inl ⟨by rfl, ?_⟩) hS0 ?_
          · intro wx hSw
            (try dsimp only at hSw)
            first | (go_simp; done) | (go_simp; with_reducible rfl)
          (try simp only [Act.put]); (try simp only [List.setIfInBounds_toArray]); (try simp only [List.set_cons_succ]); (try simp only [List.set_cons_zero])
          refine wpAnyH_take (i := 7) (oi := { dst := some 52, op := Op.move (Operand.tmp 2), type := 3, pos := "space.go:149", after := #[], guard := none }) (v := (.int .i64 (n : Int))) rfl (by kernel_rfl) (by kernel_rfl) (by kernel_rfl) (fun _ _ _ h => h) (Or.inl ⟨by rfl, ?_⟩) hS0 ?_
          · intro wx hSw
            (try dsimp only at hSw)
            first | (go_simp; done) | (go_simp; with_reducible rfl)
          (try simp only [Act.put]); (try simp only [List.setIfInBounds_toArray]); (try simp only [List.set_cons_succ]); (try simp only [List.set_cons_zero])
          refine wpAnyH_ready (rs := [6]) (by kernel_rfl) (by simp) ?_
          refine AllReadyH.cons rfl (fun K hK => ?_) AllReadyH.nil
          go_simp
          refine Calls.mono (HCL.out _ ((Kept.refl _ _).drew)) ?_
          rintro e w6 ⟨rfl, hS6, HK6⟩
          obtain ⟨V9, HR9, HF9⟩ := HPT.out w6 HK6.out
          refine hK.out _ _ (hS6) (fun hS1 => ?_)
          clear hK K
          (try simp only [Act.put]); (try simp only [List.setIfInBounds_toArray]); (try simp only [List.set_cons_succ]); (try simp only [List.set_cons_zero])
          refine wpAnyH_ready (rs := [8]) (by kernel_rfl) (by simp) ?_
          refine AllReadyH.cons rfl (fun K hK => ?_) AllReadyH.nil
          refine dr_mapUpdate rfl rfl HR9.out ?_
          refine hK.out _ _ (HF9.out.2) (fun hS2 => ?_)
          clear hK K
          (try simp only [Act.put]); (try simp only [List.setIfInBounds_toArray]); (try simp only [List.set_cons_succ]); (try simp only [List.set_cons_zero])
          refine wpAnyH_done (by kernel_rfl) ?_ _
          try simp only [Exit.then]
          go_wp2_with fail
          go_ret
          exact ⟨rfl, HF9.out.1⟩
        · go_enter Tryz.func21, Tryz.ntmps21
          go_wp2_with fail
          refine Calls.mono HO.out ?_; rintro e w1 ⟨rfl, rfl⟩
          go_wp2_with fail
          refine Calls.mono HMN.out ?_; rintro e w2 ⟨rfl, rfl⟩
          go_wp2_with fail
          refine Calls.mono HHA.out ?_; rintro e w3 ⟨rfl, rfl⟩
          cases is <;> go_wp2_with fail
          · refine wp_region_held_drew (S := (fun (V : World) => V.cell? ⟨p, 131, none⟩ = some (.map (some b)))) (by kernel_rfl) (hc131) (fun hS0 => ?_)
            refine wpAnyH_take (i := 0) (oi := { dst := some 45, op := Op.move (Operand.tmp 0), type := 27, pos := "space.go:149", after := #[], guard := none }) (v := (.pointer (some ⟨p, 0, none⟩))) rfl (by kernel_rfl) (by kernel_rfl) (by kernel_rfl) (fun _ _ _ h => h) (Or.inl ⟨by rfl, ?_⟩) hS0 ?_
            · intro wx hSw
              (try dsimp only at hSw)
              first | (go_simp; done) | (go_simp; with_reducible rfl)
            (try simp only [Act.put]); (try simp only [List.setIfInBounds_toArray]); (try simp only [List.set_cons_succ]); (try simp only [List.set_cons_zero])
            refine wpAnyH_take (i := 1) (oi := { dst := some 46, op := Op.nilCheck (Operand.tmp 45), type := 0, pos := "space.go:149", after := #[{ on := 0, ground := Ground.data }], guard := none }) (v := (.pointer (some ⟨p, 0, none⟩))) rfl (by kernel_rfl) (by kernel_rfl) (by kernel_rfl) (fun _ _ _ h => h) (Or.inl ⟨by rfl, ?_⟩) hS0 ?_
            · intro wx hSw
              (try dsimp only at hSw)
              first | (go_simp; done) | (go_simp; with_reducible rfl)
            (try simp only [Act.put]); (try simp only [List.setIfInBounds_toArray]); (try simp only [List.set_cons_succ]); (try simp only [List.set_cons_zero])
            refine wpAnyH_take (i := 2) (oi := { dst := some 47, op := Op.fieldAddr 70 (Operand.tmp 46) 5, type := 0, pos := "space.go:149", after := #[{ on := 1, ground := Ground.data }], guard := none }) (v := (.pointer (some ⟨p, 68, none⟩))) rfl (by kernel_rfl) (by kernel_rfl) (by kernel_rfl) (fun _ _ _ h => h) (Or.inl ⟨by rfl, ?_⟩) hS0 ?_
            · intro wx hSw
              (try dsimp only at hSw)
              first | (go_simp; done) | (go_simp; with_reducible rfl)
            (try simp only [Act.put]); (try simp only [List.setIfInBounds_toArray]); (try simp only [List.set_cons_succ]); (try simp only [List.set_cons_zero])
            refine wpAnyH_take (i := 3) (oi := { dst := some 48, op := Op.fieldAddr 68 (Operand.tmp 47) 1, type := 0, pos := "space.go:149", after := #[{ on := 2, ground := Ground.data }], guard := none }) (v := (.pointer (some ⟨p, 131, none⟩))) rfl (by kernel_rfl) (by kernel_rfl) (by kernel_rfl) (fun _ _ _ h => h) (Or.inl ⟨by rfl, ?_⟩) hS0 ?_
            · intro wx hSw
              (try dsimp only at hSw)
              first | (go_simp; done) | (go_simp; with_reducible rfl)
            (try simp only [Act.put]); (try simp only [List.setIfInBounds_toArray]); (try simp only [List.set_cons_succ]); (try simp only [List.set_cons_zero])
            refine wpAnyH_take (i := 4) (oi := { dst := some 49, op := Op.load 66 (Operand.tmp 48), type := 66, pos := "space.go:149", after := #[{ on := 3, ground := Ground.data }], guard := none }) (v := (.map (some b))) rfl (by kernel_rfl) (by kernel_rfl) (by kernel_rfl) (fun _ _ _ h => h) (Or.inl ⟨by rfl, ?_⟩) hS0 ?_
            · intro wx hSw
              (try dsimp only at hSw)
              first | (go_simp; done) | (go_simp; with_reducible rfl)
            (try simp only [Act.put]); (try simp only [List.setIfInBounds_toArray]); (try simp only [List.set_cons_succ]); (try simp only [List.set_cons_zero])
            refine wpAnyH_take (i := 5) (oi := { dst := some 50, op := Op.move (Operand.tmp 1), type := 9, pos := "space.go:149", after := #[], guard := none }) (v := (.string s)) rfl (by kernel_rfl) (by kernel_rfl) (by kernel_rfl) (fun _ _ _ h => h) (Or.inl ⟨by rfl, ?_⟩) hS0 ?_
            · intro wx hSw
              (try dsimp only at hSw)
              first | (go_simp; done) | (go_simp; with_reducible rfl)
            (try simp only [Act.put]); (try simp only [List.setIfInBounds_toArray]); (try simp only [List.set_cons_succ]); (try simp only [List.set_cons_zero])
            refine wpAnyH_take (i := 7) (oi := { dst := some 52, op := Op.move (Operand.tmp 2), type := 3, pos := "space.go:149", after := #[], guard := none }) (v := (.int .i64 (n : Int))) rfl (by kernel_rfl) (by kernel_rfl) (by kernel_rfl) (fun _ _ _ h => h) (Or.inl ⟨by rfl, ?_⟩) hS0 ?_
            · intro wx hSw
              (try dsimp only at hSw)
              first | (go_simp; done) | (go_simp; with_reducible rfl)
            (try simp only [Act.put]); (try simp only [List.setIfInBounds_toArray]); (try simp only [List.set_cons_succ]); (try simp only [List.set_cons_zero])
            refine wpAnyH_ready (rs := [6]) (by kernel_rfl) (by simp) ?_
            refine AllReadyH.cons rfl (fun K hK => ?_) AllReadyH.nil
            go_simp
            refine Calls.mono (HCL.out _ ((Kept.refl _ _).drew)) ?_
            rintro e w6 ⟨rfl, hS6, HK6⟩
            obtain ⟨V9, HR9, HF9⟩ := HPT.out w6 HK6.out
            refine hK.out _ _ (hS6) (fun hS1 => ?_)
            clear hK K
            (try simp only [Act.put]); (try simp only [List.setIfInBounds_toArray]); (try simp only [List.set_cons_succ]); (try simp only [List.set_cons_zero])
            refine wpAnyH_ready (rs := [8]) (by kernel_rfl) (by simp) ?_
            refine AllReadyH.cons rfl (fun K hK => ?_) AllReadyH.nil
            refine dr_mapUpdate rfl rfl HR9.out ?_
            refine hK.out _ _ (HF9.out.2) (fun hS2 => ?_)
            clear hK K
            (try simp only [Act.put]); (try simp only [List.setIfInBounds_toArray]); (try simp only [List.set_cons_succ]); (try simp only [List.set_cons_zero])
            refine wpAnyH_done (by kernel_rfl) ?_ _
            try simp only [Exit.then]
            go_wp2_with fail
            go_ret
            exact ⟨rfl, HF9.out.1⟩
          · refine wp_region_held_drew (S := (fun (V : World) => V.cell? ⟨p, 131, none⟩ = some (.map (some b)))) (by kernel_rfl) (hc131) (fun hS0 => ?_)
            refine wpAnyH_take (i := 0) (oi := { dst := some 45, op := Op.move (Operand.tmp 0), type := 27, pos := "space.go:149", after := #[], guard := none }) (v := (.pointer (some ⟨p, 0, none⟩))) rfl (by kernel_rfl) (by kernel_rfl) (by kernel_rfl) (fun _ _ _ h => h) (Or.inl ⟨by rfl, ?_⟩) hS0 ?_
            · intro wx hSw
              (try dsimp only at hSw)
              first | (go_simp; done) | (go_simp; with_reducible rfl)
            (try simp only [Act.put]); (try simp only [List.setIfInBounds_toArray]); (try simp only [List.set_cons_succ]); (try simp only [List.set_cons_zero])
            refine wpAnyH_take (i := 1) (oi := { dst := some 46, op := Op.nilCheck (Operand.tmp 45), type := 0, pos := "space.go:149", after := #[{ on := 0, ground := Ground.data }], guard := none }) (v := (.pointer (some ⟨p, 0, none⟩))) rfl (by kernel_rfl) (by kernel_rfl) (by kernel_rfl) (fun _ _ _ h => h) (Or.inl ⟨by rfl, ?_⟩) hS0 ?_
            · intro wx hSw
              (try dsimp only at hSw)
              first | (go_simp; done) | (go_simp; with_reducible rfl)
            (try simp only [Act.put]); (try simp only [List.setIfInBounds_toArray]); (try simp only [List.set_cons_succ]); (try simp only [List.set_cons_zero])
            refine wpAnyH_take (i := 2) (oi := { dst := some 47, op := Op.fieldAddr 70 (Operand.tmp 46) 5, type := 0, pos := "space.go:149", after := #[{ on := 1, ground := Ground.data }], guard := none }) (v := (.pointer (some ⟨p, 68, none⟩))) rfl (by kernel_rfl) (by kernel_rfl) (by kernel_rfl) (fun _ _ _ h => h) (Or.inl ⟨by rfl, ?_⟩) hS0 ?_
            · intro wx hSw
              (try dsimp only at hSw)
              first | (go_simp; done) | (go_simp; with_reducible rfl)
            (try simp only [Act.put]); (try simp only [List.setIfInBounds_toArray]); (try simp only [List.set_cons_succ]); (try simp only [List.set_cons_zero])
            refine wpAnyH_take (i := 3) (oi := { dst := some 48, op := Op.fieldAddr 68 (Operand.tmp 47) 1, type := 0, pos := "space.go:149", after := #[{ on := 2, ground := Ground.data }], guard := none }) (v := (.pointer (some ⟨p, 131, none⟩))) rfl (by kernel_rfl) (by kernel_rfl) (by kernel_rfl) (fun _ _ _ h => h) (Or.inl ⟨by rfl, ?_⟩) hS0 ?_
            · intro wx hSw
              (try dsimp only at hSw)
              first | (go_simp; done) | (go_simp; with_reducible rfl)
            (try simp only [Act.put]); (try simp only [List.setIfInBounds_toArray]); (try simp only [List.set_cons_succ]); (try simp only [List.set_cons_zero])
            refine wpAnyH_take (i := 4) (oi := { dst := some 49, op := Op.load 66 (Operand.tmp 48), type := 66, pos := "space.go:149", after := #[{ on := 3, ground := Ground.data }], guard := none }) (v := (.map (some b))) rfl (by kernel_rfl) (by kernel_rfl) (by kernel_rfl) (fun _ _ _ h => h) (Or.inl ⟨by rfl, ?_⟩) hS0 ?_
            · intro wx hSw
              (try dsimp only at hSw)
              first | (go_simp; done) | (go_simp; with_reducible rfl)
            (try simp only [Act.put]); (try simp only [List.setIfInBounds_toArray]); (try simp only [List.set_cons_succ]); (try simp only [List.set_cons_zero])
            refine wpAnyH_take (i := 5) (oi := { dst := some 50, op := Op.move (Operand.tmp 1), type := 9, pos := "space.go:149", after := #[], guard := none }) (v := (.string s)) rfl (by kernel_rfl) (by kernel_rfl) (by kernel_rfl) (fun _ _ _ h => h) (Or.inl ⟨by rfl, ?_⟩) hS0 ?_
            · intro wx hSw
              (try dsimp only at hSw)
              first | (go_simp; done) | (go_simp; with_reducible rfl)
            (try simp only [Act.put]); (try simp only [List.setIfInBounds_toArray]); (try simp only [List.set_cons_succ]); (try simp only [List.set_cons_zero])
            refine wpAnyH_take (i := 7) (oi := { dst := some 52, op := Op.move (Operand.tmp 2), type := 3, pos := "space.go:149", after := #[], guard := none }) (v := (.int .i64 (n : Int))) rfl (by kernel_rfl) (by kernel_rfl) (by kernel_rfl) (fun _ _ _ h => h) (Or.inl ⟨by rfl, ?_⟩) hS0 ?_
            · intro wx hSw
              (try dsimp only at hSw)
              first | (go_simp; done) | (go_simp; with_reducible rfl)
            (try simp only [Act.put]); (try simp only [List.setIfInBounds_toArray]); (try simp only [List.set_cons_succ]); (try simp only [List.set_cons_zero])
            refine wpAnyH_ready (rs := [6]) (by kernel_rfl) (by simp) ?_
            refine AllReadyH.cons rfl (fun K hK => ?_) AllReadyH.nil
            go_simp
            refine Calls.mono (HCL.out _ ((Kept.refl _ _).drew)) ?_
            rintro e w6 ⟨rfl, hS6, HK6⟩
            obtain ⟨V9, HR9, HF9⟩ := HPT.out w6 HK6.out
            refine hK.out _ _ (hS6) (fun hS1 => ?_)
            clear hK K
            (try simp only [Act.put]); (try simp only [List.setIfInBounds_toArray]); (try simp only [List.set_cons_succ]); (try simp only [List.set_cons_zero])
            refine wpAnyH_ready (rs := [8]) (by kernel_rfl) (by simp) ?_
            refine AllReadyH.cons rfl (fun K hK => ?_) AllReadyH.nil
            refine dr_mapUpdate rfl rfl HR9.out ?_
            refine hK.out _ _ (HF9.out.2) (fun hS2 => ?_)
            clear hK K
            (try simp only [Act.put]); (try simp only [List.setIfInBounds_toArray]); (try simp only [List.set_cons_succ]); (try simp only [List.set_cons_zero])
            refine wpAnyH_done (by kernel_rfl) ?_ _
            try simp only [Exit.then]
            go_wp2_with fail
            go_ret
            exact ⟨rfl, HF9.out.1⟩
  · rw [decide_eq_false c1] at HMN
    have HC1 : Hid (¬ (1 ≤ s.size ∧ s.size ≤ 8)) := c1
    clear c1
    go_enter Tryz.func21, Tryz.ntmps21
    go_wp2_with fail
    refine Calls.mono HO.out ?_; rintro e w1 ⟨rfl, rfl⟩
    go_wp2_with fail
    refine Calls.mono HMN.out ?_; rintro e w2 ⟨rfl, rfl⟩
    go_wp2_with fail
    go_ret
    exact .inl ⟨HC1.out, rfl, rfl⟩
end Go.Proofs.YtkhpmmmildcceaaGreat
