/- What was committed. -/
import Derived.Test.YtkhpmmmildcceaaGreatQSp
namespace Go.Proofs.YtkhpmmmildcceaaGreat
open Go.ChangeShapes Go.WideShapes Go.ChangeAt Go.RowKit
set_option linter.unusedVariables false
set_option maxRecDepth 100000

theorem end3 {fn : Func} {q p u : Tmp} {ty : TypeId} {b : Addr} {v : Value} {tmps : Array Value} {w : World} (h : fn.results = #[.tmp q, .cell p ty, .tmp u]) (hp : tmps.getD p undef = .pointer (some b)) (hl : (loadVar ty b).run Tryz.prog w = .ok v w) :
    (results fn tmps).run Tryz.prog w = .ok (.tuple #[tmps.getD q undef, v, tmps.getD u undef]) w := by
  have e : (results fn tmps).run Tryz.prog w = ((asAddr (tmps.getD p undef)).run Tryz.prog w).andThen fun a w₁ => ((loadVar ty a).run Tryz.prog w₁).andThen fun v w₂ => .ok (.tuple #[tmps.getD q undef, v, tmps.getD u undef]) w₂ := by
    simp only [results, h]
    simp [Sem.run_bind, Result.andThen]
  rw [e, hp]
  simp [asAddr, hl, Result.andThen]
section
variable {P : Program} {ops : Array Oper} {rest : List Oper} {o : Oper} {a : Act} {w w' : World} {Q : Exit → Act → World → Prop} {v : Value}
theorem st_build0 {ty : TypeId} (hgd : o.guard = none) (ho : o.op = .build ty #[]) (hr : (Instr.build ty #[]).run P w = .ok v w') (h : wpList P ops Q rest (a.put o.dst v) w') : wpList P ops Q (o :: rest) a w :=
  wpList_plain hgd fun _ hK => by
    unfold Oper.wp execOp
    simp only [ho, Sem.run_bind, List.map_toArray, List.map_nil, hr, Result.andThen_ok]
    exact hK _ _ h
end

/-- The turn of a head. -/
def tkB (l : List UInt8) : Nat := four (l.getD 0 0).toNat (l.getD 1 0).toNat (l.getD 2 0).toNat (l.getD 3 0).toNat
theorem take_list (s : ByteArray) (h : 4 ≤ s.size) (hs : s.size ≤ 1000) (w : World) : Calls Tryz.prog 88 #[.string s] w fun e w' => e = .returned (.int .i64 (tkB s.data.toList : Int)) ∧ w' = w := by
  have := take_is s h (by omega) w
  have g : ∀ i (hi : i < s.size), s.data.toList.getD i 0 = s[i]'hi := fun i hi => by
    rw [List.getD_eq_getElem?_getD, List.getElem?_eq_getElem (by simpa using hi)]
    rfl
  unfold tkB
  rw [g 0 (by omega), g 1 (by omega), g 2 (by omega), g 3 (by omega)]
  exact this
theorem tkB_lt (l : List UInt8) : tkB l < 4294967296 := by
  unfold tkB four
  have h0 := (l.getD 0 0).toNat_lt
  have h1 := (l.getD 1 0).toNat_lt
  have h2 := (l.getD 2 0).toNat_lt
  have h3 := (l.getD 3 0).toNat_lt
  omega
theorem half_wide (t : Nat) (ht : t < 4294967296) (w : World) : Calls Tryz.prog 75 #[.int .i64 (t : Int)] w fun e w' => e = .returned (.int .i64 ((t % 2 : Nat) : Int)) ∧ w' = w := by
  go_enter Tryz.func75, Tryz.ntmps75
  go_wp2_with fail
  go_ret
  exact ⟨by first | rfl | (rw [Int.natCast_emod]; rfl), rfl⟩
/-- A head and a map that go with each other. -/
def Whole (hf : Nat) (h l : List UInt8) : Prop := tkB h ≤ 1048575 ∧ tkB h % 2 = hf ∧ h = headB (tkB h) l
set_option maxHeartbeats 2000000 in
theorem committed_no {w : World} {F : Nat → Prop} {p : Nat} {x : Sp} {d : Dk} (h : SpAt w p x) (hd : Disk w F x.pd d) (hoff : d.off = false) (hfr : x.fr ≤ 4096) (hf : Nat) (hh : hf ≤ 1) (hin : x.fr + 24 ≤ d.n) (hno : ¬ Whole hf (d.last (x.fr + hf)) (rdP d (x.fr + (1 + hf) * 8) 8)) : Calls Tryz.prog 61 #[.pointer (some ⟨p, 0, none⟩), .int .i64 (hf : Int)] w fun e w' => e = .returned (.tuple #[.int .i64 0, .agg (stC u0 none).toArray, .bool false]) ∧ Kept (fun _ => False) w w' := by
  obtain ⟨W, hW⟩ : ∃ W, w.alloc (.cells (stC u0 none).toArray 68) = W := ⟨_, rfl⟩
  obtain ⟨B5, hB⟩ : ∃ B, w.heap.size = B := ⟨_, rfl⟩
  have HAL : Hid ((Instr.alloc 68 true (.tuple #[])).run Tryz.prog w = .ok (.pointer (some ⟨B5, 0, none⟩)) W) := by have := alloc68 w; rw [hW, hB] at this; exact this
  have k0 : Kept (fun _ => False) w W := hW ▸ (Kept.refl _ w).alloc _
  have s0 : StAt W B5 u0 none := by have := StAt.new w u0 none u0_len; rw [hW, hB] at this; exact this
  have kd : Kept (fun _ => False) W W.drew := (Kept.refl _ W).drew
  have HS0 : Hid (StAt W.drew B5 u0 none ∧ Kept (fun _ => False) w W.drew) := ⟨s0.kept kd (fun z => z), k0.trans kd (fun _ z => z.elim)⟩
  have hB5 : w.heap.size ≤ B5 := Nat.le_of_eq hB
  obtain ⟨C0, hC0⟩ : ∃ C : Array Value, (stC u0 none).toArray = C := ⟨_, rfl⟩
  have HBU : Hid (∀ V : World, (Instr.build 68 #[]).run Tryz.prog V = .ok (.agg C0) V) := fun V => by have := build68_0 V; rw [hC0] at this; exact this
  have HSO : Hid (∀ V, Kept (fun _ => False) W.drew V → ∃ V', (Instr.storeAt 68 (.pointer (some ⟨B5, 0, none⟩)) (.agg C0)).run Tryz.prog V = .ok () V' ∧ (loadVar 68 ⟨B5, 0, none⟩).run Tryz.prog V' = .ok (.agg C0) V' ∧ Kept (fun _ => False) w V') := fun V kV => by
    have s9 := HS0.out.1.kept kV (fun z => z)
    have q := s9.store u0 none u0_len
    have ql := q.2.loadV
    refine ⟨V.setCells B5 0 (stC u0 none), by rw [← hC0]; exact q.1, by rw [← hC0]; exact ql, ?_⟩
    exact (HS0.out.2.trans kV (fun _ z => z.elim)).setCells (.inr hB5) _ _
  rw [hC0]
  have hx := h.kept k0 (fun z => z)
  have hxd := hx.kept kd (fun z => z)
  have hdW := hd.kept k0 (fun _ _ z => z)
  have hdD := hdW.kept kd (fun _ _ z => z)
  have h32 := hd.last_len (a := x.fr + hf) (by omega)
  have h256 := rdP_len hd (x.fr + (1 + hf) * 8) 8 (by omega)
  obtain ⟨hl, hhl⟩ : ∃ l, d.last (x.fr + hf) = l := ⟨_, rfl⟩
  obtain ⟨tl, htl⟩ : ∃ l, rdP d (x.fr + (1 + hf) * 8) 8 = l := ⟨_, rfl⟩
  rw [hhl] at h32 hno
  rw [htl] at h256 hno
  obtain ⟨hs, hhs⟩ : ∃ s : ByteArray, (⟨hl.toArray⟩ : ByteArray) = s := ⟨_, rfl⟩
  obtain ⟨ts, hts⟩ : ∃ s : ByteArray, (⟨tl.toArray⟩ : ByteArray) = s := ⟨_, rfl⟩
  have hss : hs.size = 32 := by rw [← hhs]; show hl.toArray.size = 32; rw [List.size_toArray]; exact h32
  have hts2 : ts.size = 256 := by rw [← hts]; show tl.toArray.size = 256; rw [List.size_toArray]; omega
  have hsl : hs.data.toList = hl := by rw [← hhs]
  have tsl : ts.data.toList = tl := by rw [← hts]
  have HRD : Hid (∀ V, V = W.drew → Calls Tryz.prog 84 #[.pointer (some ⟨x.pd, 0, none⟩), .int .i64 ((x.fr : Int) + (hf : Int))] V fun e w' => e = .returned (.tuple #[.string hs, .int .i64 0]) ∧ w' = V) := fun V hV => by
    subst hV
    have := read_is hdD (x.fr + hf) (by omega)
    rw [hoff, hhl, hhs, Int.natCast_add] at this
    exact this
  have HSE : Hid (∀ V : World, (V.cell? ⟨p, 0, none⟩ = some (.pointer (some ⟨x.pd, 0, none⟩)) ∧ V.cell? ⟨p, 1, none⟩ = some (.int .i64 (x.fr : Int))) → Calls Tryz.prog 87 #[.pointer (some ⟨p, 0, none⟩), .int .i64 0] V fun e w' => e = .returned (.int .i64 (x.fr : Int)) ∧ w' = V) := fun V z => by
    have := sector_is x.fr 0 hfr (by omega) V z.2
    have e : ((x.fr : Int) + ((0 : Nat) : Int) * 8) = (x.fr : Int) := by omega
    rw [e] at this
    exact this
  have HSD : Hid (∀ w' : World, (w'.cell? ⟨p, 0, none⟩ = some (.pointer (some ⟨x.pd, 0, none⟩)) ∧ w'.cell? ⟨p, 1, none⟩ = some (.int .i64 (x.fr : Int))) → (w'.drew.cell? ⟨p, 0, none⟩ = some (.pointer (some ⟨x.pd, 0, none⟩)) ∧ w'.drew.cell? ⟨p, 1, none⟩ = some (.int .i64 (x.fr : Int)))) := fun w' z => z
  have hS0 : (W.cell? ⟨p, 0, none⟩ = some (.pointer (some ⟨x.pd, 0, none⟩)) ∧ W.cell? ⟨p, 1, none⟩ = some (.int .i64 (x.fr : Int))) := ⟨hx.c0, hx.c1⟩
  have HPR : Hid (Calls Tryz.prog 60 #[.pointer (some ⟨p, 0, none⟩), .int .i64 (1 + (hf : Int))] W.drew fun e w' => e = .returned (.tuple #[.string ts, .int .i64 0]) ∧ Hid (Kept (fun _ => False) W.drew w')) := by
    have := place_read x.fr (1 + hf) hxd.c0 hxd.c1 hdD hfr (by omega) (by omega)
    rw [hoff, htl, hts, Int.natCast_add] at this
    exact this
  have hw1 : IntKind.i64.wrap ((x.fr : Int) + (hf : Int)) = (x.fr : Int) + (hf : Int) := wrapk _ (by omega)
  obtain ⟨tk, htk⟩ : ∃ t, tkB hl = t := ⟨_, rfl⟩
  have htl2 := tkB_lt hl
  rw [htk] at htl2
  have HTK : Hid (∀ V, Calls Tryz.prog 88 #[.string hs] V fun e w' => e = .returned (.int .i64 (tk : Int)) ∧ w' = V) := fun V => by
    have := take_list hs (by omega) (by omega) V
    rw [hsl, htk] at this
    exact this
  have HHF : Hid (∀ V, Calls Tryz.prog 75 #[.int .i64 (tk : Int)] V fun e w' => e = .returned (.int .i64 ((tk % 2 : Nat) : Int)) ∧ w' = V) := fun V => half_wide tk htl2 V
  obtain ⟨hb, hhb⟩ : ∃ z : ByteArray, (⟨(headB tk tl).toArray⟩ : ByteArray) = z := ⟨_, rfl⟩
  have HHB : Hid (∀ V, Calls Tryz.prog 78 #[.int .i64 (tk : Int), .string ts] V fun e w' => e = .returned (.string hb) ∧ Hid (Kept (fun _ => False) V w')) := fun V => by
    have := head_is tk htl2 ts (by omega) V
    rw [tsl, hhb] at this
    exact this
  by_cases ca : 1048575 < tk
  · have qa : (1048575 : Int) < (tk : Int) := by omega
    clear h hd hoff hin hno hW hB k0 s0 kd hB5 hC0 HS0 hx hxd hdW hdD h32 h256 hhl htl hhs hts hss hts2 hsl tsl htk hhb
    go_enter Tryz.func61, Tryz.ntmps61
    go_upto_region 1 with ((with_reducible apply st_alloc); (case ho => rfl); (case hgd => rfl); (case hr => exact HAL.out))
    go_region_held (fun (w' : World) => (w'.cell? ⟨p, 0, none⟩ = some (.pointer (some ⟨x.pd, 0, none⟩)) ∧ w'.cell? ⟨p, 1, none⟩ = some (.int .i64 (x.fr : Int)))) (first | (with_reducible assumption) | (with_reducible exact HSD.out _ (by with_reducible assumption))) (first | ((with_reducible refine Calls.mono (HSE.out _ (by with_reducible assumption)) ?_); rintro e w6 ⟨rfl, rfl⟩) | ((with_reducible refine Calls.mono (HRD.out _ rfl) ?_); rintro e w7 ⟨rfl, rfl⟩))
    go_wp2_with fail
    refine Calls.mono HPR.out ?_; rintro e w8 ⟨rfl, HK8⟩
    go_wp2_with fail
    refine Calls.mono (HTK.out _) ?_; rintro e w9 ⟨rfl, rfl⟩
    obtain ⟨V9, HST, HEN⟩ := HSO.out _ HK8.out
    have HST2 : Hid _ := HST
    have HEN2 : Hid _ := HEN
    clear HST HEN
    go_wp2_with (first | ((with_reducible apply st_store); (case ho => rfl); (case hgd => rfl); (case hr => exact HST2.out)) | ((with_reducible apply st_build0); (case ho => rfl); (case hgd => rfl); (case hr => exact HBU.out _)))
    refine bodyPost_ret (end3 rfl rfl HEN2.out.1) rfl ?_
    exact ⟨rfl, HEN2.out.2⟩

  · have qa : ¬ (1048575 : Int) < (tk : Int) := by omega
    obtain ⟨m, hm⟩ : ∃ m, tk % 2 = m := ⟨_, rfl⟩
    rw [hm] at HHF
    by_cases cb : m = hf
    · have qb : (m : Int) = (hf : Int) := by omega
      have qc : (hs.toList == hb.toList) = false := by
        rw [beq_eq_false_iff_ne, ByteArray.toList_eq, ByteArray.toList_eq, hsl, ← hhb]
        intro e
        exact hno ⟨by rw [htk]; omega, by rw [htk, hm]; exact cb, by rw [htk]; exact e⟩
      clear h hd hoff hin hno hW hB k0 s0 kd hB5 hC0 HS0 hx hxd hdW hdD h32 h256 hhl htl hhs hts hss hts2 hsl tsl htk hhb hm
      go_enter Tryz.func61, Tryz.ntmps61
      go_upto_region 1 with ((with_reducible apply st_alloc); (case ho => rfl); (case hgd => rfl); (case hr => exact HAL.out))
      go_region_held (fun (w' : World) => (w'.cell? ⟨p, 0, none⟩ = some (.pointer (some ⟨x.pd, 0, none⟩)) ∧ w'.cell? ⟨p, 1, none⟩ = some (.int .i64 (x.fr : Int)))) (first | (with_reducible assumption) | (with_reducible exact HSD.out _ (by with_reducible assumption))) (first | ((with_reducible refine Calls.mono (HSE.out _ (by with_reducible assumption)) ?_); rintro e w6 ⟨rfl, rfl⟩) | ((with_reducible refine Calls.mono (HRD.out _ rfl) ?_); rintro e w7 ⟨rfl, rfl⟩))
      go_wp2_with fail
      refine Calls.mono HPR.out ?_; rintro e w8 ⟨rfl, HK8⟩
      go_wp2_with fail
      refine Calls.mono (HTK.out _) ?_; rintro e w9 ⟨rfl, rfl⟩
      go_wp2_with fail
      refine Calls.mono (HHF.out _) ?_; rintro e w10 ⟨rfl, rfl⟩
      go_wp2_with fail
      refine Calls.mono (HHB.out _) ?_; rintro e w11 ⟨rfl, HK11⟩
      obtain ⟨V9, HST, HEN⟩ := HSO.out _ (HK8.out.trans HK11.out (fun _ z => z.elim))
      have HST2 : Hid _ := HST
      have HEN2 : Hid _ := HEN
      clear HST HEN
      go_wp2_with (first | ((with_reducible apply st_store); (case ho => rfl); (case hgd => rfl); (case hr => exact HST2.out)) | ((with_reducible apply st_build0); (case ho => rfl); (case hgd => rfl); (case hr => exact HBU.out _)))
      refine bodyPost_ret (end3 rfl rfl HEN2.out.1) rfl ?_
      exact ⟨rfl, HEN2.out.2⟩

    · have qb : ¬ (m : Int) = (hf : Int) := by omega
      clear h hd hoff hin hno hW hB k0 s0 kd hB5 hC0 HS0 hx hxd hdW hdD h32 h256 hhl htl hhs hts hss hts2 hsl tsl htk hhb hm
      go_enter Tryz.func61, Tryz.ntmps61
      go_upto_region 1 with ((with_reducible apply st_alloc); (case ho => rfl); (case hgd => rfl); (case hr => exact HAL.out))
      go_region_held (fun (w' : World) => (w'.cell? ⟨p, 0, none⟩ = some (.pointer (some ⟨x.pd, 0, none⟩)) ∧ w'.cell? ⟨p, 1, none⟩ = some (.int .i64 (x.fr : Int)))) (first | (with_reducible assumption) | (with_reducible exact HSD.out _ (by with_reducible assumption))) (first | ((with_reducible refine Calls.mono (HSE.out _ (by with_reducible assumption)) ?_); rintro e w6 ⟨rfl, rfl⟩) | ((with_reducible refine Calls.mono (HRD.out _ rfl) ?_); rintro e w7 ⟨rfl, rfl⟩))
      go_wp2_with fail
      refine Calls.mono HPR.out ?_; rintro e w8 ⟨rfl, HK8⟩
      go_wp2_with fail
      refine Calls.mono (HTK.out _) ?_; rintro e w9 ⟨rfl, rfl⟩
      go_wp2_with fail
      refine Calls.mono (HHF.out _) ?_; rintro e w10 ⟨rfl, rfl⟩
      obtain ⟨V9, HST, HEN⟩ := HSO.out _ HK8.out
      have HST2 : Hid _ := HST
      have HEN2 : Hid _ := HEN
      clear HST HEN
      go_wp2_with (first | ((with_reducible apply st_store); (case ho => rfl); (case hgd => rfl); (case hr => exact HST2.out)) | ((with_reducible apply st_build0); (case ho => rfl); (case hgd => rfl); (case hr => exact HBU.out _)))
      refine bodyPost_ret (end3 rfl rfl HEN2.out.1) rfl ?_
      exact ⟨rfl, HEN2.out.2⟩
end Go.Proofs.YtkhpmmmildcceaaGreat
