/- Write. -/
import Derived.Test.YtkhpmmmildcceaaGreatQPut
namespace Go.Proofs.YtkhpmmmildcceaaGreat
open Go.ChangeShapes Go.WideShapes Go.ChangeAt Go.RowKit
set_option linter.unusedVariables false
set_option maxRecDepth 100000

theorem write_no (v : Value) (n : Nat) (at_ : Int) (s : ByteArray) (w : World) (h : Szd w v n) (ha : ¬ (0 ≤ at_ ∧ at_ < (n : Int))) :
    Calls Tryz.prog 72 #[v, .int .i64 at_, .string s] w fun e w' => e = .returned (.int .i64 1) ∧ w' = w := by
  have H := (show Hid _ from has_is v n at_ w h)
  rw [decide_eq_false ha] at H
  clear h
  go_enter Tryz.func72, Tryz.ntmps72
  go_wp2_with fail
  refine Calls.mono H.out ?_; rintro e w1 ⟨rfl, rfl⟩
  go_wp2_with fail
  go_ret
  exact ⟨rfl, rfl⟩

theorem write_len (v : Value) (n : Nat) (at_ : Int) (s : ByteArray) (w : World) (h : Szd w v n) (ha : 0 ≤ at_ ∧ at_ < (n : Int)) (hs : s.size ≠ 32) :
    Calls Tryz.prog 72 #[v, .int .i64 at_, .string s] w fun e w' => e = .returned (.int .i64 1) ∧ w' = w := by
  have H := (show Hid _ from has_is v n at_ w h)
  rw [decide_eq_true ha] at H
  have hs' : ((s.size : Int) == 32) = false := by simp; omega
  clear h hs
  go_enter Tryz.func72, Tryz.ntmps72
  go_wp2_with fail
  refine Calls.mono H.out ?_; rintro e w1 ⟨rfl, rfl⟩
  go_wp2_with fail
  go_ret
  exact ⟨rfl, rfl⟩

/-- A disk behind a write or a flush, by its fuse. -/
def Dk.burnt (d : Dk) : Dk := { d with fuse := (burn d.fuse d.off).1, off := (burn d.fuse d.off).2.1 }

theorem write_off {w : World} {F : Nat → Prop} {p bs bl : Nat} {v : Value} {d : Dk} {L : Nat → List UInt8} (h : Lies w F p bs bl v d L) (a : Nat) (ha : a < d.n) (s : ByteArray) (hs : s.size = 32) (hb : (burn d.fuse d.off).2.2 = false) :
    Calls Tryz.prog 72 #[.pointer (some ⟨p, 0, none⟩), .int .i64 (a : Int), .string s] w fun e w' => e = .returned (.int .i64 30) ∧ Lies w' F p bs bl v d.burnt L ∧ Kept F w w' ∧ w'.heap.size = w.heap.size := by
  have H := (show Hid _ from has_is _ d.n (a : Int) w (.inr ⟨p, _, _, rfl, h.c1⟩))
  rw [decide_eq_true (by omega)] at H
  have HS := (show Hid _ from spend_lies h)
  rw [hb] at HS
  have hs' : (s.size : Int) = 32 := by omega
  have HF := (show Hid _ from h.fp)
  clear h hb hs
  go_enter Tryz.func72, Tryz.ntmps72
  go_wp2_with fail
  refine Calls.mono H.out ?_; rintro e w1 ⟨rfl, rfl⟩
  go_wp2_with fail
  refine Calls.mono HS.out ?_; rintro e w1 ⟨rfl, h1, k1, z1⟩
  have HL := (show Hid _ from And.intro h1 (And.intro k1 z1))
  clear h1 k1 z1
  go_wp2_with fail
  go_ret
  exact ⟨rfl, HL.out.1, HL.out.2.1.mono (fun i hi => by rw [hi]; exact HF.out), HL.out.2.2⟩

theorem Lies.form {w : World} {F : Nat → Prop} {p bs bl : Nat} {v : Value} {d : Dk} {L : Nat → List UInt8} (h : Lies w F p bs bl v d L) : ∃ o c, v = .slice o d.Q.length c := by
  rcases h.own.2 with ⟨e, e0⟩ | ⟨g, cap, cur, e, _⟩
  · exact ⟨none, 0, by rw [e, e0]⟩
  · exact ⟨_, _, e⟩

/-- The worlds of a write that is let be, one behind the other. -/
theorem write_worlds {w : World} {F : Nat → Prop} {p bs bl : Nat} {v : Value} {d : Dk} {L : Nat → List UInt8} (h1 : Lies w F p bs bl v d L) (a : Nat) (ha : a < d.n) (s : ByteArray) (hs : s.size = 32) (hn : d.Q.length < 1048576) :
    ∃ (W3 V3 W4 V4 W5 W6 : World) (v' : Value) (T U : Array Value) (g : Nat),
      V3 = { W3 with drawn := W3.drawn + 1 } ∧ V4 = { W4 with drawn := W4.drawn + 1 } ∧
      (Builtin.copy_ #[98, 9] 3 #[.slice (some ⟨w.heap.size, 1, none⟩) 32 32, .string s]).run Tryz.prog (w.alloc (.cells (bare a) 105)) = .ok (.int .i64 32) W3 ∧
      V3.cell? ⟨p, 1, none⟩ = some (.slice (some ⟨bl, 0, none⟩) d.n d.n) ∧
      (Instr.loadAt 103 (.pointer (some ⟨w.heap.size, 1, none⟩))).run Tryz.prog V3 = .ok (.agg T) V3 ∧
      (Instr.storeAt 103 (.pointer (some ⟨bl, a * 32, none⟩)) (.agg T)).run Tryz.prog V3 = .ok () W4 ∧
      (Instr.loadAt 77 (.pointer (some ⟨p, 2, none⟩))).run Tryz.prog V4 = .ok v V4 ∧
      (Instr.loadAt 105 (.pointer (some ⟨w.heap.size, 0, none⟩))).run Tryz.prog V4 = .ok (.agg U) V4 ∧
      (Instr.buildSlice 77 1 #[(0, .agg U)]).run Tryz.prog V4 = .ok (.slice (some ⟨g, 0, none⟩) 1 1) W5 ∧
      (Instr.loadAt 77 (.pointer (some ⟨p, 2, none⟩))).run Tryz.prog W5 = .ok v W5 ∧
      (Builtin.append_ #[77, 77] 77 #[v, .slice (some ⟨g, 0, none⟩) 1 1]).run Tryz.prog W5 = .ok v' W6 ∧
      W6.cell? ⟨p, 2, none⟩ = some v ∧ W6.frozen? ⟨p, 2, none⟩ = false ∧
      ∃ F', Lies (W6.setCell ⟨p, 2, none⟩ v') F' p bs bl v' { d with Q := d.Q ++ [(a, s.data.toList)] } (put L a s.data.toList) ∧ Kept F w (W6.setCell ⟨p, 2, none⟩ v') ∧ ∀ k, F' k → F k ∨ w.heap.size ≤ k := by
  obtain ⟨W3, hc, hk, hz, hq⟩ := wrote w a s hs
  have hlen : s.data.toList.length = 32 := by rw [← hs]; rfl
  have h3 := h1.kept hk (fun _ _ q => q)
  have h3d := h3.drew
  have hgl : w.heap.size ≠ bl := fun e => by have := h1.lt bl h1.fl; omega
  obtain ⟨V, hV⟩ : ∃ V, V = W3.drew := ⟨_, rfl⟩
  rw [← hV] at h3d
  have hqV : ∀ j x, (qv (a, s.data.toList))[j]? = some x → V.cell? ⟨w.heap.size, j, none⟩ = some x := by rw [hV]; exact hq
  have hld := load62 (w := V) (b := w.heap.size) (o := 1) (bv s.data.toList) (by rw [bv_len, hlen]) (fun j x hx => by
    rw [Nat.add_comm 1 j]
    exact hqV (j + 1) x (by simpa [qv] using hx))
  have hst := store62 (w := V) (b := bl) (o := a * 32) (bv s.data.toList) (by rw [bv_len, hlen]) (fun j hj => h3d.last.some_at ha hj) (fun j hj => h3d.last.free _) (bv_one _)
  have h4 := (h3d.setLast ha s.data.toList hlen).drew
  have k4 : Kept F V (V.setCells bl (a * 32) (bv s.data.toList)) := Kept.setCells (.inl h1.fl) _ _ _ (Kept.refl _ _)
  obtain ⟨W4, hW4⟩ : ∃ W4, W4 = V.setCells bl (a * 32) (bv s.data.toList) := ⟨_, rfl⟩
  obtain ⟨V4, hV4⟩ : ∃ V4, V4 = W4.drew := ⟨_, rfl⟩
  rw [← hW4] at hst k4
  rw [← hW4, ← hV4] at h4
  have hq4 : ∀ j x, (qv (a, s.data.toList))[j]? = some x → V4.cell? ⟨w.heap.size, j, none⟩ = some x := by
    intro j x hx
    rw [hV4, hW4]
    show (V.setCells bl (a * 32) (bv s.data.toList)).cell? _ = _
    rw [World.cell?_setCells_out bl _ _ _ _ (fun e _ => absurd e hgl)]
    exact hqV j x hx
  have hld4 := load64 (w := V4) (b := w.heap.size) (o := 0) (qv (a, s.data.toList)) (by simp [qv, bv_len, hlen]) (fun j x hx => by rw [Nat.zero_add]; exact hq4 j x hx)
  have hbs := bslice (qv (a, s.data.toList)) (by simp [qv, bv_len, hlen]) V4
  have k5 : Kept (fun _ => False) V4 (V4.alloc (.cells (qv (a, s.data.toList)).toArray 105)) := (Kept.refl _ V4).alloc _
  have h5 := h4.kept k5 (fun _ _ q => q)
  have hq5 : ∀ j x, (qv (a, s.data.toList))[j]? = some x → (V4.alloc (.cells (qv (a, s.data.toList)).toArray 105)).cell? ⟨V4.heap.size, j, none⟩ = some x := by
    intro j x hx
    rw [World.cell?_alloc_new]
    simpa using hx
  obtain ⟨v', W6, hap, c6, f6, F', h6, k6, hF'⟩ := h5.append (a, s.data.toList) ⟨ha, hlen⟩ hn V4.heap.size hq5
  have k34 : Kept F w V4 := by
    have e1 : Kept F w V := by rw [hV]; exact (hk.mono (fun _ q => q.elim)).drew
    have e2 : Kept F V V4 := by rw [hV4]; exact k4.drew
    exact e1.trans e2 (fun i q => .inl q)
  have k35 := k34.trans k5 (fun _ q => q.elim)
  exact ⟨W3, V, W4, V4, _, W6, v', _, _, _, hV, hV4, hc, h3d.c1, hld, hst, load54 h4.c2, hld4, hbs, load54 h5.c2, hap, c6, f6, F', h6, k35.trans k6 (fun i q => .inl q),
    fun k q => (hF' k q).elim .inl (fun q => .inr (Nat.le_trans k35.size q))⟩

set_option maxHeartbeats 1000000 in
theorem write_on {w : World} {F : Nat → Prop} {p bs bl : Nat} {v : Value} {d : Dk} {L : Nat → List UInt8} (h : Lies w F p bs bl v d L) (a : Nat) (ha : a < d.n) (s : ByteArray) (hs : s.size = 32) (hb : (burn d.fuse d.off).2.2 = true) (hn : d.Q.length < 1048576) :
    Calls Tryz.prog 72 #[.pointer (some ⟨p, 0, none⟩), .int .i64 (a : Int), .string s] w fun e w' => e = .returned (.int .i64 0) ∧
      ∃ v' F', Lies w' F' p bs bl v' { d.burnt with Q := d.Q ++ [(a, s.data.toList)] } (put L a s.data.toList) ∧ Kept F w w' ∧ ∀ k, F' k → F k ∨ w.heap.size ≤ k := by
  have H := (show Hid _ from has_is _ d.n (a : Int) w (.inr ⟨p, _, _, rfl, h.c1⟩))
  rw [decide_eq_true (by omega)] at H
  have HS := (show Hid _ from spend_lies h)
  rw [hb] at HS
  have hs' : (s.size : Int) = 32 := by omega
  have HZ := (show Hid _ from And.intro hs (And.intro ha (And.intro hn h.fp)))
  clear h hb hs ha hn
  go_enter Tryz.func72, Tryz.ntmps72
  go_wp2_with fail
  refine Calls.mono H.out ?_; rintro e w1 ⟨rfl, rfl⟩
  go_wp2_with fail
  refine Calls.mono HS.out ?_; rintro e w2 ⟨rfl, h1, k1, z1⟩
  obtain ⟨W3, V3, W4, V4, W5, W6, v', T, U, g2, eV3, eV4, hC, c1, hL3, hT3, hL54, hL64, hBS, hL55, hAP, c6, f6, F', hEND⟩ := write_worlds h1 a HZ.out.2.1 s HZ.out.1 HZ.out.2.2.1
  obtain ⟨ov, cv, ev⟩ := hEND.1.form
  subst ev
  have HB := (show Hid _ from build64 w2 (a : Int))
  have HA := (show Hid _ from alloc64 w2)
  have HT := (show Hid _ from store64 (w := w2) (bare a) (#[.int .i64 0] ++ Array.replicate 32 (.int .u8 0)) (by simp [bare]) (by simp) (by
    intro v hv
    simp [bare] at hv
    rcases hv with rfl | rfl <;> rfl))
  have eb : (#[.int .i64 (a : Int)] ++ Array.replicate 32 (.int .u8 0) : Array Value) = bare a := rfl
  rw [eb] at HB
  clear eb
  have HC := (show Hid _ from hC)
  have HL3 := (show Hid _ from hL3)
  have HT3 := (show Hid _ from hT3)
  have HL54 := (show Hid _ from hL54)
  have HL64 := (show Hid _ from hL64)
  have HBS := (show Hid _ from hBS)
  have HL55 := (show Hid _ from hL55)
  have HAP := (show Hid _ from hAP)
  have HEV := (show Hid _ from And.intro eV3 eV4)
  have HEND := (show Hid (∃ F', Lies (W6.setCell ⟨p, 2, none⟩ (.slice ov (d.Q ++ [(a, s.data.toList)]).length cv)) F' p bs bl (.slice ov (d.Q ++ [(a, s.data.toList)]).length cv) { d.burnt with Q := d.Q ++ [(a, s.data.toList)] } (put L a s.data.toList) ∧ Kept F w1 (W6.setCell ⟨p, 2, none⟩ (.slice ov (d.Q ++ [(a, s.data.toList)]).length cv)) ∧ ∀ k, F' k → F k ∨ w1.heap.size ≤ k) from
    ⟨F', hEND.1, (k1.mono (fun i hi => by rw [hi]; exact HZ.out.2.2.2)).trans hEND.2.1 (fun i q => .inl q), fun k q => (hEND.2.2 k q).elim .inl (fun q => .inr (Nat.le_trans k1.size q))⟩)
  have han : (a : Int) < (d.n : Int) := by have := HZ.out.2.1; omega
  clear hC hL3 hT3 hL54 hL64 hBS hL55 hAP eV3 eV4 hEND h1 k1 z1 HS H
  generalize (d.Q ++ [(a, s.data.toList)]).length = lv at *
  generalize bare a = C0 at *
  go_wp2_with (first | ((with_reducible apply st_build); (case ho => rfl); (case hgd => rfl); (case hr => exact HB.out)) | ((with_reducible apply st_alloc); (case ho => rfl); (case hgd => rfl); (case hr => exact HA.out)) | ((with_reducible apply st_store); (case ho => rfl); (case hgd => rfl); (case hr => exact HT.out)) | ((with_reducible apply st_copy); (case ho => rfl); (case hgd => rfl); (case hr => exact HC.out)))
  obtain ⟨g, hg⟩ : ∃ g, w2.heap.size = g := ⟨_, rfl⟩
  rw [hg] at HL3 HL64
  rw [hg]
  clear hg HB HA HT HC
  generalize d.n = n at *
  refine wp_region_still_tail 8 (by kernel_rfl) (by kernel_rfl) ?_
  rw [← HEV.out.1]
  simp only [List.take_succ_cons, List.take_zero, List.drop_succ_cons, List.drop_zero]
  still_step
  still_step
  still_step
  still_step
  still_step
  still_step
  refine sl_load rfl rfl HL3.out ?_
  still_step
  refine wpStill_nil ?_
  refine st_store rfl rfl HT3.out ?_
  go_wp2_with fail
  refine wp_region_any (by kernel_rfl) ?_
  rw [← HEV.out.2]
  refine wpAny_take (i := 0) (v := .pointer (some ⟨p, 0, none⟩)) rfl (by kernel_rfl) (by kernel_rfl) (by kernel_rfl) (fun _ _ _ h => h) (Or.inl ⟨by rfl, fun w => by go_simp⟩) ?_
  refine wpAny_take (i := 1) (v := .pointer (some ⟨p, 0, none⟩)) rfl (by kernel_rfl) (by kernel_rfl) (by kernel_rfl) (fun _ _ _ h => h) (Or.inl ⟨by rfl, fun w => by go_simp⟩) ?_
  refine wpAny_take (i := 2) (v := .pointer (some ⟨p, 0, none⟩)) rfl (by kernel_rfl) (by kernel_rfl) (by kernel_rfl) (fun _ _ _ h => h) (Or.inl ⟨by rfl, fun w => by go_simp⟩) ?_
  refine wpAny_take (i := 3) (v := .pointer (some ⟨p, 2, none⟩)) rfl (by kernel_rfl) (by kernel_rfl) (by kernel_rfl) (fun _ _ _ h => h) (Or.inl ⟨by rfl, fun w => by go_simp⟩) ?_
  refine wpAny_ready (rs := [4, 5]) (by kernel_rfl) (by simp) (AllReady.cons rfl (fun K hK => ?_) (AllReady.cons rfl (fun K hK => ?_) AllReady.nil))
  · refine dr_load rfl rfl HL54.out ?_
    go_simp
    refine hK _ _ ?_
    clear hK K
    refine wpAny_ready (rs := [5]) (by kernel_rfl) (by simp) (AllReady.cons rfl (fun K hK => ?_) AllReady.nil)
    refine dr_load rfl rfl HL64.out ?_
    go_simp
    refine hK _ _ ?_
    clear hK K
    refine wpAny_ready (rs := [6]) (by kernel_rfl) (by simp) (AllReady.cons rfl (fun K hK => ?_) AllReady.nil)
    refine dr_slice rfl rfl HBS.out ?_
    go_simp
    refine hK _ _ ?_
    clear hK K
    refine wpAny_ready (rs := [7]) (by kernel_rfl) (by simp) (AllReady.cons rfl (fun K hK => ?_) AllReady.nil)
    refine dr_append rfl rfl HAP.out ?_
    go_simp
    refine hK _ _ ?_
    clear hK K
    refine wpAny_ready (rs := [8]) (by kernel_rfl) (by simp) (AllReady.cons rfl (fun K hK => ?_) AllReady.nil)
    go_simp
    refine hK _ _ ?_
    clear hK K
    refine wpAny_ready (rs := [9]) (by kernel_rfl) (by simp) (AllReady.cons rfl (fun K hK => ?_) AllReady.nil)
    go_simp
    refine hK _ _ ?_
    clear hK K
    refine wpAny_ready (rs := [10]) (by kernel_rfl) (by simp) (AllReady.cons rfl (fun K hK => ?_) AllReady.nil)
    go_simp
    refine hK _ _ ?_
    clear hK K
    refine wpAny_done (by kernel_rfl) ?_ _
    go_wp2_with fail
    go_ret
    obtain ⟨F1, hE⟩ := HEND.out
    exact ⟨rfl, _, F1, hE⟩
  · refine dr_load rfl rfl HL64.out ?_
    go_simp
    refine hK _ _ ?_
    clear hK K
    refine wpAny_ready (rs := [4, 6]) (by kernel_rfl) (by simp) (AllReady.cons rfl (fun K hK => ?_) (AllReady.cons rfl (fun K hK => ?_) AllReady.nil))
    · refine dr_load rfl rfl HL54.out ?_
      go_simp
      refine hK _ _ ?_
      clear hK K
      refine wpAny_ready (rs := [6]) (by kernel_rfl) (by simp) (AllReady.cons rfl (fun K hK => ?_) AllReady.nil)
      refine dr_slice rfl rfl HBS.out ?_
      go_simp
      refine hK _ _ ?_
      clear hK K
      refine wpAny_ready (rs := [7]) (by kernel_rfl) (by simp) (AllReady.cons rfl (fun K hK => ?_) AllReady.nil)
      refine dr_append rfl rfl HAP.out ?_
      go_simp
      refine hK _ _ ?_
      clear hK K
      refine wpAny_ready (rs := [8]) (by kernel_rfl) (by simp) (AllReady.cons rfl (fun K hK => ?_) AllReady.nil)
      go_simp
      refine hK _ _ ?_
      clear hK K
      refine wpAny_ready (rs := [9]) (by kernel_rfl) (by simp) (AllReady.cons rfl (fun K hK => ?_) AllReady.nil)
      go_simp
      refine hK _ _ ?_
      clear hK K
      refine wpAny_ready (rs := [10]) (by kernel_rfl) (by simp) (AllReady.cons rfl (fun K hK => ?_) AllReady.nil)
      go_simp
      refine hK _ _ ?_
      clear hK K
      refine wpAny_done (by kernel_rfl) ?_ _
      go_wp2_with fail
      go_ret
      obtain ⟨F1, hE⟩ := HEND.out
      exact ⟨rfl, _, F1, hE⟩
    · refine dr_slice rfl rfl HBS.out ?_
      go_simp
      refine hK _ _ ?_
      clear hK K
      refine wpAny_ready (rs := [4]) (by kernel_rfl) (by simp) (AllReady.cons rfl (fun K hK => ?_) AllReady.nil)
      refine dr_load rfl rfl HL55.out ?_
      go_simp
      refine hK _ _ ?_
      clear hK K
      refine wpAny_ready (rs := [7]) (by kernel_rfl) (by simp) (AllReady.cons rfl (fun K hK => ?_) AllReady.nil)
      refine dr_append rfl rfl HAP.out ?_
      go_simp
      refine hK _ _ ?_
      clear hK K
      refine wpAny_ready (rs := [8]) (by kernel_rfl) (by simp) (AllReady.cons rfl (fun K hK => ?_) AllReady.nil)
      go_simp
      refine hK _ _ ?_
      clear hK K
      refine wpAny_ready (rs := [9]) (by kernel_rfl) (by simp) (AllReady.cons rfl (fun K hK => ?_) AllReady.nil)
      go_simp
      refine hK _ _ ?_
      clear hK K
      refine wpAny_ready (rs := [10]) (by kernel_rfl) (by simp) (AllReady.cons rfl (fun K hK => ?_) AllReady.nil)
      go_simp
      refine hK _ _ ?_
      clear hK K
      refine wpAny_done (by kernel_rfl) ?_ _
      go_wp2_with fail
      go_ret
      obtain ⟨F1, hE⟩ := HEND.out
      exact ⟨rfl, _, F1, hE⟩
end Go.Proofs.YtkhpmmmildcceaaGreat
