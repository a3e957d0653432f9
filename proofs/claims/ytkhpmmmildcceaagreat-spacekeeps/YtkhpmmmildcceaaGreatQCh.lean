/- What was committed. -/
import Derived.Test.YtkhpmmmildcceaaGreatQFt
import Derived.Test.YtkhpmmmildcceaaGreatQCm
namespace Go.Proofs.YtkhpmmmildcceaaGreat
open Go.ChangeShapes Go.WideShapes Go.ChangeAt Go.RowKit
set_option linter.unusedVariables false
set_option maxRecDepth 100000

theorem under68 : ∃ d, Tryz.prog.underlying 68 = some d ∧ d.isRow = true := by
  have e : (Tryz.prog.underlying 68).map TypeDesc.isRow = some true := by kernel_rfl
  cases q6 : Tryz.prog.underlying 68 with
  | none => rw [q6] at e; cases e
  | some d => rw [q6] at e; exact ⟨d, rfl, by injection e⟩
theorem ris_insN (x : Nam) : ∀ l : List Nam, risN l → (∀ y, y ∈ l → y.1 ≠ x.1) → risN (insN x l)
  | [], _, _ => List.pairwise_cons.2 ⟨fun _ h => (by cases h), List.Pairwise.nil⟩
  | y :: r, h, hn => by
    have h' := List.pairwise_cons.1 h
    unfold insN
    split
    · rename_i q
      refine List.pairwise_cons.2 ⟨fun z hz => ?_, h⟩
      rcases List.mem_cons.1 hz with rfl | hz1
      · exact q
      · exact less_trans _ _ _ q (h'.1 z hz1)
    · rename_i q
      refine List.pairwise_cons.2 ⟨fun z hz => ?_, ris_insN x r h'.2 (fun z hz => hn z (List.mem_cons_of_mem _ hz))⟩
      rcases (mem_insN x z r).1 hz with rfl | hz1
      · exact less_of (by cases e : Op.bytesLess z.1 y.1 with | true => exact absurd e q | false => rfl) (fun e => hn y (List.mem_cons_self ..) e.symm)
      · exact h'.1 z hz1
theorem ris_putN {ns : List Nam} (h : risN ns) (s : List UInt8) (n : Nat) : risN (putN ns s n) := by
  unfold putN
  refine ris_insN _ _ (h.sublist (List.filter_sublist)) (fun y hy => (mem_delN.1 hy).2)
theorem dec_ris (cs : List Cel) : risN (decN cs).2 := by
  refine snoc_ind (P := fun cs => risN (decN cs).2) List.Pairwise.nil (fun l x ih => ?_) cs
  rw [decN_snoc]
  unfold stepN
  split
  · exact ih
  · split
    · exact ris_putN ih _ _
    · exact ih
/-- What a half says: a turn, and a state. -/
def ComS (h l : List UInt8) (hf pg t : Nat) (u : List UInt8) (ns : List Nam) : Prop := tkB h = t ∧ Whole hf h l ∧ MapS l u ns ∧ FitS u ns pg
/-- What committed answers. -/
def ComE (h l : List UInt8) (hf pg : Nat) (w : World) (e : Ending) (w' : World) : Prop := ∃ (n : Nat) (u : List UInt8) (mo : Option Nat) (b : Bool), e = .returned (.tuple #[.int .i64 (n : Int), .agg (stC u mo).toArray, .bool b]) ∧ u.length = 63 ∧ n ≤ 4294967296 ∧ Kept (fun _ => False) w w' ∧ (b = false → ∀ t u' ns', ¬ ComS h l hf pg t u' ns') ∧ (b = true → ∃ m ns, mo = some m ∧ NmAt w' m ns ∧ w.heap.size ≤ m ∧ ComS h l hf pg n u ns)
structure CI (w : World) (B5 B11 : Nat) (u : List UInt8) (mm : Nat) (ns : List Nam) (V : World) : Prop where
  st : StAt V B11 u (some mm)
  nm : NmAt V mm ns
  rx : StX V B5
  kp : Kept (fun _ => False) w V
theorem CI.kept {w : World} {B5 B11 mm : Nat} {u : List UInt8} {ns : List Nam} {V V' : World} (h : CI w B5 B11 u mm ns V) (k : Kept (fun _ => False) V V') : CI w B5 B11 u mm ns V' :=
  ⟨h.st.kept k (fun z => z), h.nm.kept k (fun z => z), h.rx.kept k (fun z => z), h.kp.trans k (fun _ z => z.elim)⟩
theorem com_core {w W12 : World} {p B5 B11 mm tk : Nat} {x : Sp} {u : List UInt8} {ns : List Nam} (h : SpAt w p x) (hI : CI w B5 B11 u mm ns W12) (hB : w.heap.size = B5) (hlt : B5 < B11) (h5m : B5 ≠ mm) : ∀ CT, stC u (some mm) = CT →
    (∀ V, CI w B5 B11 u mm ns V → (V.rangeAt B11 0 CT ∧ V.there B5 0 64 ∧ V.cell? ⟨p, 2, none⟩ = some (.int .i64 (x.pg : Int)) ∧ Hid (CI w B5 B11 u mm ns V))) ∧
    (∀ V, (V.rangeAt B11 0 CT ∧ V.there B5 0 64 ∧ V.cell? ⟨p, 2, none⟩ = some (.int .i64 (x.pg : Int)) ∧ Hid (CI w B5 B11 u mm ns V)) → Calls Tryz.prog 90 #[.pointer (some ⟨B11, 0, none⟩), .int .i64 (x.pg : Int)] V fun e w' => ∃ z, e = .returned (.bool z) ∧ Hid (z = true ↔ FitS u ns x.pg) ∧ (w'.rangeAt B11 0 CT ∧ w'.there B5 0 64 ∧ w'.cell? ⟨p, 2, none⟩ = some (.int .i64 (x.pg : Int)) ∧ Hid (CI w B5 B11 u mm ns w'))) ∧
    (∀ V, (V.rangeAt B11 0 CT ∧ V.there B5 0 64 ∧ V.cell? ⟨p, 2, none⟩ = some (.int .i64 (x.pg : Int)) ∧ Hid (CI w B5 B11 u mm ns V)) → (Instr.storeAt 68 (.pointer (some ⟨B5, 0, none⟩)) (.agg CT.toArray)).run Tryz.prog V = .ok () (V.setCells B5 0 CT)) ∧
    (∀ V, (V.rangeAt B11 0 CT ∧ V.there B5 0 64 ∧ V.cell? ⟨p, 2, none⟩ = some (.int .i64 (x.pg : Int)) ∧ Hid (CI w B5 B11 u mm ns V)) → ((V.setCells B5 0 CT).rangeAt B11 0 CT ∧ (V.setCells B5 0 CT).there B5 0 64 ∧ (V.setCells B5 0 CT).cell? ⟨p, 2, none⟩ = some (.int .i64 (x.pg : Int)) ∧ Hid (CI w B5 B11 u mm ns (V.setCells B5 0 CT)))) ∧
    (∀ V, (V.rangeAt B11 0 CT ∧ V.there B5 0 64 ∧ V.cell? ⟨p, 2, none⟩ = some (.int .i64 (x.pg : Int)) ∧ Hid (CI w B5 B11 u mm ns V)) → CI w B5 B11 u mm ns (V.setCells B5 0 CT) ∧ (loadVar 68 ⟨B5, 0, none⟩).run Tryz.prog (V.setCells B5 0 CT) = .ok (.agg (stC u (some mm)).toArray) (V.setCells B5 0 CT)) := by
  rintro CT rfl
  have hu := hI.st.2
  have f1 : ∀ V, CI w B5 B11 u mm ns V → (V.rangeAt B11 0 (stC u (some mm)) ∧ V.there B5 0 64 ∧ V.cell? ⟨p, 2, none⟩ = some (.int .i64 (x.pg : Int)) ∧ Hid (CI w B5 B11 u mm ns V)) := fun V hV => ⟨by
    intro j v hv
    rw [Nat.zero_add]
    exact hV.st.1.cell hv, hV.rx.there, hV.kp.cell h.c2 (fun z => z), hV⟩
  have f5 : ∀ V, CI w B5 B11 u mm ns V → CI w B5 B11 u mm ns (V.setCells B5 0 (stC u (some mm))) ∧ (loadVar 68 ⟨B5, 0, none⟩).run Tryz.prog (V.setCells B5 0 (stC u (some mm))) = .ok (.agg (stC u (some mm)).toArray) (V.setCells B5 0 (stC u (some mm))) := fun V hV => by
    have kk : Kept (fun i => i = B5) V (V.setCells B5 0 (stC u (some mm))) := Kept.setCells (F := fun i => i = B5) (.inl rfl) _ _ _ (Kept.refl _ V)
    have q2 := (hV.rx.store _ (some mm) hu).2
    exact ⟨⟨hV.st.kept kk (by omega), hV.nm.kept kk (by omega), ⟨_, _, q2⟩, hV.kp.trans kk (fun i e => .inr (by omega))⟩, q2.loadV⟩
  refine ⟨f1, fun V hV => ?_, fun V hV => (hV.2.2.2.out.rx.store _ (some mm) hu).1, fun V hV => f1 _ (f5 V hV.2.2.2.out).1, fun V hV => f5 V hV.2.2.2.out⟩
  have hI := hV.2.2.2.out
  have hm63 : V.cell? ⟨B11, 0 + 63, none⟩ = some (.map (some mm)) := by rw [Nat.zero_add]; exact hI.st.m
  refine (fits_is hI.st.us hm63 hI.nm).mono ?_
  rintro e w' ⟨z, rfl, q1, q2⟩
  exact ⟨z, rfl, q1, f1 _ (hI.kept q2)⟩
set_option maxHeartbeats 4000000 in
theorem committed_is {w : World} {F : Nat → Prop} {p : Nat} {x : Sp} {d : Dk} (h : SpAt w p x) (hd : Disk w F x.pd d) (hoff : d.off = false) (hfr : x.fr ≤ 4096) (hf : Nat) (hh : hf ≤ 1) (hin : x.fr + 24 ≤ d.n) : Calls Tryz.prog 61 #[.pointer (some ⟨p, 0, none⟩), .int .i64 (hf : Int)] w fun e w' => ComE (d.last (x.fr + hf)) (rdP d (x.fr + (1 + hf) * 8) 8) hf x.pg w e w' := by
  by_cases hW : Whole hf (d.last (x.fr + hf)) (rdP d (x.fr + (1 + hf) * 8) 8)
  · obtain ⟨W, hWe⟩ : ∃ W, w.alloc (.cells (stC u0 none).toArray 68) = W := ⟨_, rfl⟩
    obtain ⟨B5, hB⟩ : ∃ B, w.heap.size = B := ⟨_, rfl⟩
    have HAL : Hid ((Instr.alloc 68 true (.tuple #[])).run Tryz.prog w = .ok (.pointer (some ⟨B5, 0, none⟩)) W) := by have := alloc68 w; rw [hWe, hB] at this; exact this
    have k0 : Kept (fun _ => False) w W := hWe ▸ (Kept.refl _ w).alloc _
    have s0 : StAt W B5 u0 none := by have := StAt.new w u0 none u0_len; rw [hWe, hB] at this; exact this
    have kd : Kept (fun _ => False) W W.drew := (Kept.refl _ W).drew
    have HX0 : Hid (StX W.drew B5 ∧ Kept (fun _ => False) w W.drew) := ⟨⟨_, _, s0.kept kd (fun z => z)⟩, k0.trans kd (fun _ z => z.elim)⟩
    have hx := h.kept k0 (fun z => z)
    have hxd := hx.kept kd (fun z => z)
    have hdD := (hd.kept k0 (fun _ _ z => z)).kept kd (fun _ _ z => z)
    have h32 := hd.last_len (a := x.fr + hf) (by omega)
    have h256 := rdP_len hd (x.fr + (1 + hf) * 8) 8 (by omega)
    obtain ⟨hl, hhl⟩ : ∃ l, d.last (x.fr + hf) = l := ⟨_, rfl⟩
    obtain ⟨tl, htl⟩ : ∃ l, rdP d (x.fr + (1 + hf) * 8) 8 = l := ⟨_, rfl⟩
    rw [hhl] at h32 hW
    rw [htl] at h256 hW
    rw [hhl, htl]
    obtain ⟨hs, hhs⟩ : ∃ s : ByteArray, (⟨hl.toArray⟩ : ByteArray) = s := ⟨_, rfl⟩
    obtain ⟨ts, hts⟩ : ∃ s : ByteArray, (⟨tl.toArray⟩ : ByteArray) = s := ⟨_, rfl⟩
    have hss : hs.size = 32 := by rw [← hhs]; show hl.toArray.size = 32; rw [List.size_toArray]; exact h32
    have hts2 : ts.size = 256 := by rw [← hts]; show tl.toArray.size = 256; rw [List.size_toArray]; omega
    have hsl : hs.data.toList = hl := by rw [← hhs]
    have tsl : ts.data.toList = tl := by rw [← hts]
    have HRD : Hid (∀ V, V = W.drew → Calls Tryz.prog 84 #[.pointer (some ⟨x.pd, 0, none⟩), .int .i64 ((x.fr : Int) + (hf : Int))] V fun e w' => e = .returned (.tuple #[.string hs, .int .i64 0]) ∧ w' = V) := fun V hV => by
      subst hV
      have := read_is hdD (x.fr + hf) (by omega)
      rw [hoff, hhl, hhs, Int.natCast_add] at this
      exact this
    have HSE : Hid (∀ V : World, (V.cell? ⟨p, 0, none⟩ = some (.pointer (some ⟨x.pd, 0, none⟩)) ∧ V.cell? ⟨p, 1, none⟩ = some (.int .i64 (x.fr : Int))) → Calls Tryz.prog 87 #[.pointer (some ⟨p, 0, none⟩), .int .i64 0] V fun e w' => e = .returned (.int .i64 (x.fr : Int)) ∧ w' = V) := fun V z => by
      have := sector_is x.fr 0 hfr (by omega) V z.2
      have e : ((x.fr : Int) + ((0 : Nat) : Int) * 8) = (x.fr : Int) := by omega
      rw [e] at this
      exact this
    have HSD : Hid (∀ w' : World, (w'.cell? ⟨p, 0, none⟩ = some (.pointer (some ⟨x.pd, 0, none⟩)) ∧ w'.cell? ⟨p, 1, none⟩ = some (.int .i64 (x.fr : Int))) → (w'.drew.cell? ⟨p, 0, none⟩ = some (.pointer (some ⟨x.pd, 0, none⟩)) ∧ w'.drew.cell? ⟨p, 1, none⟩ = some (.int .i64 (x.fr : Int)))) := fun w' z => z
    have hS0 : (W.cell? ⟨p, 0, none⟩ = some (.pointer (some ⟨x.pd, 0, none⟩)) ∧ W.cell? ⟨p, 1, none⟩ = some (.int .i64 (x.fr : Int))) := ⟨hx.c0, hx.c1⟩
    have HPR : Hid (Calls Tryz.prog 60 #[.pointer (some ⟨p, 0, none⟩), .int .i64 (1 + (hf : Int))] W.drew fun e w' => e = .returned (.tuple #[.string ts, .int .i64 0]) ∧ Hid (Kept (fun _ => False) W.drew w')) := by
      have := place_read x.fr (1 + hf) hxd.c0 hxd.c1 hdD hfr (by omega) (by omega)
      rw [hoff, htl, hts, Int.natCast_add] at this
      exact this
    have hw1 : IntKind.i64.wrap ((x.fr : Int) + (hf : Int)) = (x.fr : Int) + (hf : Int) := wrapk _ (by omega)
    obtain ⟨tk, htk⟩ : ∃ t, tkB hl = t := ⟨_, rfl⟩
    have htl2 := tkB_lt hl
    rw [htk] at htl2
    have HTK : Hid (∀ V, Calls Tryz.prog 88 #[.string hs] V fun e w' => e = .returned (.int .i64 (tk : Int)) ∧ w' = V) := fun V => by
      have := take_list hs (by omega) (by omega) V
      rw [hsl, htk] at this
      exact this
    have HWH : Hid (Whole hf hl tl ∧ tkB hl = tk) := ⟨hW, htk⟩
    unfold Whole at hW
    rw [htk] at hW
    obtain ⟨wa, wb, wc⟩ := hW
    have HHF : Hid (∀ V, Calls Tryz.prog 75 #[.int .i64 (tk : Int)] V fun e w' => e = .returned (.int .i64 (hf : Int)) ∧ w' = V) := fun V => by
      have := half_wide tk htl2 V
      rw [wb] at this
      exact this
    have HHB : Hid (∀ V, Calls Tryz.prog 78 #[.int .i64 (tk : Int), .string ts] V fun e w' => e = .returned (.string hs) ∧ Hid (Kept (fun _ => False) V w')) := fun V => by
      have := head_is tk htl2 ts (by omega) V
      rw [tsl, ← wc, hhs] at this
      exact this
    have qa : ¬ (1048575 : Int) < (tk : Int) := by omega
    have HSF : Hid (∀ V, Calls Tryz.prog 89 #[.string ts] V fun e w' => ∃ u m b, e = .returned (.tuple #[.agg (stC u (some m)).toArray, .bool b]) ∧ Hid (∃ ns, u.length = 63 ∧ NmAt w' m ns ∧ V.heap.size ≤ m ∧ Kept (fun _ => False) V w' ∧ (b = true → MapS tl u ns) ∧ (b = false → ∀ u' ns', ¬ MapS tl u' ns'))) := fun V => by
      refine (stateOf_is ts V).mono ?_
      rintro e w' ⟨u, m, ns, b, rfl, a1, a2, a3, a4, a5, a6, a7, a8⟩
      rw [tsl] at a7 a8
      exact ⟨u, m, b, rfl, ns, a1, a2, a5, a6, a7, a8⟩
    have HWX : Hid (SpAt w p x ∧ w.heap.size = B5 ∧ tk ≤ 4294967296) := ⟨h, hB, by omega⟩
    obtain ⟨d68, hu68, hd68⟩ := under68
    clear h hd hoff hin hWe hB k0 s0 kd hx hxd hdD h32 h256 hhl htl hhs hts hss hts2 hsl tsl htk htl2 wa wb wc
    go_enter Tryz.func61, Tryz.ntmps61
    go_upto_region 1 with ((with_reducible apply st_alloc); (case ho => rfl); (case hgd => rfl); (case hr => exact HAL.out))
    go_region_held (fun (w' : World) => (w'.cell? ⟨p, 0, none⟩ = some (.pointer (some ⟨x.pd, 0, none⟩)) ∧ w'.cell? ⟨p, 1, none⟩ = some (.int .i64 (x.fr : Int)))) (first | (with_reducible assumption) | (with_reducible exact HSD.out _ (by with_reducible assumption))) (first | ((with_reducible refine Calls.mono (HSE.out _ (by with_reducible assumption)) ?_); rintro e w6 ⟨rfl, rfl⟩) | ((with_reducible refine Calls.mono (HRD.out _ rfl) ?_); rintro e w7 ⟨rfl, rfl⟩))
    go_wp2_with fail
    refine Calls.mono HPR.out ?_; rintro e w8 ⟨rfl, HK8⟩
    go_wp2_with fail
    refine Calls.mono (HTK.out _) ?_; rintro e w9 ⟨rfl, rfl⟩
    go_wp2_with fail
    refine Calls.mono (HHF.out _) ?_; rintro e w10 ⟨rfl, rfl⟩
    go_wp2_with fail
    refine Calls.mono (HHB.out _) ?_; rintro e w11 ⟨rfl, HK11⟩
    go_wp2_with fail
    refine Calls.mono (HSF.out _) ?_; rintro e w12 ⟨u, mm, zb, rfl, HN12⟩
    obtain ⟨ns, n1, n2, n3, n4, n5, n6⟩ := HN12.out
    obtain ⟨B11, hB11⟩ : ∃ B, w12.heap.size = B := ⟨_, rfl⟩
    obtain ⟨V1, hV1⟩ : ∃ V, w12.alloc (.cells (stC u0 none).toArray 68) = V := ⟨_, rfl⟩
    have HA2 : Hid ((Instr.alloc 68 true (.tuple #[])).run Tryz.prog w12 = .ok (.pointer (some ⟨B11, 0, none⟩)) V1) := by have := alloc68 w12; rw [hV1, hB11] at this; exact this
    have kk1 : Kept (fun _ => False) w12 V1 := hV1 ▸ (Kept.refl _ w12).alloc _
    have ss1 : StAt V1 B11 u0 none := by have := StAt.new w12 u0 none u0_len; rw [hV1, hB11] at this; exact this
    have qq := ss1.store u (some mm) n1
    obtain ⟨V2, hV2⟩ : ∃ V, V1.setCells B11 0 (stC u (some mm)) = V := ⟨_, rfl⟩
    obtain ⟨CA, hCA⟩ : ∃ C, (stC u (some mm)).toArray = C := ⟨_, rfl⟩
    rw [hV2] at qq
    have kk2 : Kept (fun i => i = B11) V1 V2 := hV2 ▸ Kept.setCells (F := fun i => i = B11) (.inl rfl) _ _ _ (Kept.refl _ V1)
    have HS2 : Hid ((Instr.storeAt 68 (.pointer (some ⟨B11, 0, none⟩)) (.agg CA)).run Tryz.prog V1 = .ok () V2) := by rw [← hCA]; exact qq.1
    have k012 : Kept (fun _ => False) W.drew w12 := (HK8.out.trans HK11.out (fun _ z => z.elim)).trans n4 (fun _ z => z.elim)
    have hlt5 : B5 < W.drew.heap.size := by obtain ⟨u1, m1, h1⟩ := HX0.out.1; exact h1.1.lt
    have hle12 := k012.size
    have hmlt := n2.lt
    have HI12 : Hid (CI w B5 B11 u mm ns V2) := by
      refine ⟨qq.2, (n2.kept kk1 (fun z => z)).kept kk2 (by omega), ((HX0.out.1.kept k012 (fun z => z)).kept kk1 (fun z => z)).kept kk2 (by omega), ((HX0.out.2.trans k012 (fun _ z => z.elim)).trans kk1 (fun _ z => z.elim)).trans kk2 (fun i e => .inr ?_)⟩
      have := HX0.out.2.size
      omega
    have hmge : W.drew.heap.size ≤ mm := by
      have := (HK8.out.trans HK11.out (fun _ z => z.elim)).size
      omega
    obtain ⟨CT, hCT⟩ : ∃ C, stC u (some mm) = C := ⟨_, rfl⟩
    obtain ⟨f1, f2, f3, f4, f5⟩ := com_core (tk := tk) HWX.out.1 HI12.out HWX.out.2.1 (by omega) (by omega) CT hCT
    have HSS : Hid _ := f1
    have HFI : Hid _ := f2
    have HSR : Hid _ := f3
    have HSW : Hid _ := f4
    have HFE : Hid _ := f5
    have hi68 : (Tryz.prog.info? 68).map (·.size) = some CT.length := by rw [size68, ← hCT, stC_len u _ n1]
    have hCAT : CA = CT.toArray := by rw [← hCA, hCT]
    have HNS : Hid (u.length = 63 ∧ w.heap.size ≤ mm ∧ (zb = true → MapS tl u ns) ∧ (zb = false → ∀ u' ns', ¬ MapS tl u' ns')) := ⟨n1, by have := HX0.out.2.size; omega, n5, n6⟩
    rw [hCT, ← hCAT]
    have HCT : Hid (stC u (some mm) = CT) := hCT
    have HCAT : Hid (CA = CT.toArray) := hCAT
    clear n1 n2 n3 n4 n5 n6 hB11 hV1 kk1 ss1 qq hV2 hCA kk2 k012 hlt5 hle12 hmlt hmge hCT hCAT f1 f2 f3 f4 f5 HN12 HX0 HAL HRD HSE HSD HPR HTK HHF HHB HSF HK8 HK11 hS0 hw1
    cases zb with
    | true =>
      go_wp2_with (first | ((with_reducible apply st_alloc); (case ho => rfl); (case hgd => rfl); (case hr => exact HA2.out)) | ((with_reducible apply st_store); (case ho => rfl); (case hgd => rfl); (case hr => exact HS2.out)))
      refine wp_region_held_drew (S := (fun (V : World) => (V.rangeAt B11 0 CT ∧ V.there B5 0 64 ∧ V.cell? ⟨p, 2, none⟩ = some (.int .i64 (x.pg : Int)) ∧ Hid (CI w B5 B11 u mm ns V)))) (by kernel_rfl) (HSS.out _ (HI12.out.kept ((Kept.refl _ _).drew))) (fun hS0 => ?_)
      refine wpAnyH_take (i := 0) (oi := { dst := some 61, op := Op.move (Operand.tmp 10), type := 3, pos := "commit.go:86", after := #[], guard := none }) (v := (.int .i64 (tk : Int))) rfl (by kernel_rfl) (by kernel_rfl) (by kernel_rfl) (fun _ _ _ h => h) (Or.inl ⟨by rfl, ?_⟩) hS0 ?_
      · intro wx hSw
        (try dsimp only at hSw)
        first | (go_simp; done) | (go_simp; with_reducible rfl)
      (try simp only [Act.put]); (try simp only [List.setIfInBounds_toArray]); (try simp only [List.set_cons_succ]); (try simp only [List.set_cons_zero])
      refine wpAnyH_take (i := 1) (oi := { dst := some 62, op := Op.load 68 (Operand.tmp 11), type := 68, pos := "commit.go:86", after := #[{ on := 10, ground := Ground.gcOnly Departure.lateStores }], guard := none }) (v := _) rfl (by kernel_rfl) (by kernel_rfl) (by kernel_rfl) (fun _ _ _ h => h) (yieldsIf_load_mid (by rfl) 68 (Operand.tmp 11) rfl _ _ rfl _ _ (fun V hV => hV.1) hu68 hd68 hi68) hS0 ?_
      (try simp only [Act.put]); (try simp only [List.setIfInBounds_toArray]); (try simp only [List.set_cons_succ]); (try simp only [List.set_cons_zero])
      refine wpAnyH_take (i := 2) (oi := { dst := some 63, op := Op.move (Operand.tmp 12), type := 4, pos := "commit.go:86", after := #[], guard := none }) (v := (.bool true)) rfl (by kernel_rfl) (by kernel_rfl) (by kernel_rfl) (fun _ _ _ h => h) (Or.inl ⟨by rfl, ?_⟩) hS0 ?_
      · intro wx hSw
        (try dsimp only at hSw)
        first | (go_simp; done) | (go_simp; with_reducible rfl)
      (try simp only [Act.put]); (try simp only [List.setIfInBounds_toArray]); (try simp only [List.set_cons_succ]); (try simp only [List.set_cons_zero])
      refine wpAnyH_take (i := 3) (oi := { dst := some 64, op := Op.move (Operand.tmp 63), type := 4, pos := "commit.go:86", after := #[{ on := 2, ground := Ground.data }], guard := none }) (v := (.bool true)) rfl (by kernel_rfl) (by kernel_rfl) (by kernel_rfl) (fun _ _ _ h => h) (Or.inl ⟨by rfl, ?_⟩) hS0 ?_
      · intro wx hSw
        (try dsimp only at hSw)
        first | (go_simp; done) | (go_simp; with_reducible rfl)
      (try simp only [Act.put]); (try simp only [List.setIfInBounds_toArray]); (try simp only [List.set_cons_succ]); (try simp only [List.set_cons_zero])
      refine wpAnyH_take (i := 4) (oi := { dst := some 65, op := Op.move (Operand.tmp 0), type := 27, pos := "commit.go:86", after := #[{ on := 3, ground := Ground.guard }], guard := some (3, true) }) (v := (.pointer (some ⟨p, 0, none⟩))) rfl (by kernel_rfl) (by kernel_rfl) (by kernel_rfl) (fun _ _ _ h => h) (Or.inl ⟨by rfl, ?_⟩) hS0 ?_
      · intro wx hSw
        (try dsimp only at hSw)
        first | (go_simp; done) | (go_simp; with_reducible rfl)
      (try simp only [Act.put]); (try simp only [List.setIfInBounds_toArray]); (try simp only [List.set_cons_succ]); (try simp only [List.set_cons_zero])
      refine wpAnyH_take (i := 5) (oi := { dst := some 66, op := Op.nilCheck (Operand.tmp 65), type := 0, pos := "commit.go:86", after := #[{ on := 4, ground := Ground.data }, { on := 3, ground := Ground.guard }], guard := some (3, true) }) (v := (.pointer (some ⟨p, 0, none⟩))) rfl (by kernel_rfl) (by kernel_rfl) (by kernel_rfl) (fun _ _ _ h => h) (Or.inl ⟨by rfl, ?_⟩) hS0 ?_
      · intro wx hSw
        (try dsimp only at hSw)
        first | (go_simp; done) | (go_simp; with_reducible rfl)
      (try simp only [Act.put]); (try simp only [List.setIfInBounds_toArray]); (try simp only [List.set_cons_succ]); (try simp only [List.set_cons_zero])
      refine wpAnyH_take (i := 6) (oi := { dst := some 67, op := Op.fieldAddr 70 (Operand.tmp 66) 2, type := 0, pos := "commit.go:86", after := #[{ on := 5, ground := Ground.data }, { on := 3, ground := Ground.guard }], guard := some (3, true) }) (v := (.pointer (some ⟨p, 2, none⟩))) rfl (by kernel_rfl) (by kernel_rfl) (by kernel_rfl) (fun _ _ _ h => h) (Or.inl ⟨by rfl, ?_⟩) hS0 ?_
      · intro wx hSw
        (try dsimp only at hSw)
        first | (go_simp; done) | (go_simp; with_reducible rfl)
      (try simp only [Act.put]); (try simp only [List.setIfInBounds_toArray]); (try simp only [List.set_cons_succ]); (try simp only [List.set_cons_zero])
      refine wpAnyH_take (i := 7) (oi := { dst := some 68, op := Op.load 3 (Operand.tmp 67), type := 3, pos := "commit.go:86", after := #[{ on := 6, ground := Ground.data }, { on := 3, ground := Ground.guard }], guard := some (3, true) }) (v := (.int .i64 (x.pg : Int))) rfl (by kernel_rfl) (by kernel_rfl) (by kernel_rfl) (fun _ _ _ h => h) (Or.inl ⟨by rfl, ?_⟩) hS0 ?_
      · intro wx hSw
        (try dsimp only at hSw)
        first | (go_simp; done) | (go_simp; with_reducible rfl)
      (try simp only [Act.put]); (try simp only [List.setIfInBounds_toArray]); (try simp only [List.set_cons_succ]); (try simp only [List.set_cons_zero])
      refine wpAnyH_ready (rs := [8]) (by kernel_rfl) (by simp) ?_
      refine AllReadyH.cons rfl (fun K hK => ?_) AllReadyH.nil
      go_simp
      refine Calls.mono (HFI.out _ hS0) ?_
      rintro e w13 ⟨zf, rfl, HF13, hS13⟩
      refine hK.out _ _ (hS13) (fun hS1 => ?_)
      clear hK K
      (try simp only [Act.put]); (try simp only [List.setIfInBounds_toArray]); (try simp only [List.set_cons_succ]); (try simp only [List.set_cons_zero])
      refine wpAnyH_take (i := 9) (oi := { dst := some 70, op := Op.pick (Operand.tmp 64) (Operand.tmp 69) (Operand.const (Value.bool false)), type := 4, pos := "commit.go:86", after := #[{ on := 3, ground := Ground.data }, { on := 8, ground := Ground.data }, { on := 11, ground := Ground.gcOnly Departure.lateStores }], guard := none }) (v := (.bool zf)) rfl (by kernel_rfl) (by kernel_rfl) (by kernel_rfl) (fun _ _ _ h => h) (Or.inl ⟨by rfl, ?_⟩) hS1 ?_
      · intro wx hSw
        (try dsimp only at hSw)
        first | (go_simp; done) | (go_simp; with_reducible rfl)
      (try simp only [Act.put]); (try simp only [List.setIfInBounds_toArray]); (try simp only [List.set_cons_succ]); (try simp only [List.set_cons_zero])
      refine wpAnyH_take (i := 10) (oi := { dst := some 4, op := Op.assign (Operand.tmp 61), type := 3, pos := "commit.go:86", after := #[{ on := 0, ground := Ground.data }, { on := 8, ground := Ground.chain }, { on := 0, ground := Ground.phase }, { on := 1, ground := Ground.textOnly Departure.lateStores }, { on := 2, ground := Ground.textOnly Departure.lateStores }, { on := 3, ground := Ground.textOnly Departure.lateStores }, { on := 4, ground := Ground.textOnly Departure.lateStores }, { on := 5, ground := Ground.textOnly Departure.lateStores }, { on := 6, ground := Ground.textOnly Departure.lateStores }, { on := 7, ground := Ground.textOnly Departure.lateStores }, { on := 8, ground := Ground.textOnly Departure.lateStoresUnsure }, { on := 9, ground := Ground.textOnly Departure.lateStores }], guard := none }) (v := (.int .i64 (tk : Int))) rfl (by kernel_rfl) (by kernel_rfl) (by kernel_rfl) (fun _ _ _ h => h) (Or.inl ⟨by rfl, ?_⟩) hS1 ?_
      · intro wx hSw
        (try dsimp only at hSw)
        first | (go_simp; done) | (go_simp; with_reducible rfl)
      (try simp only [Act.put]); (try simp only [List.setIfInBounds_toArray]); (try simp only [List.set_cons_succ]); (try simp only [List.set_cons_zero])
      refine wpAnyH_ready (rs := [11]) (by kernel_rfl) (by simp) ?_
      refine AllReadyH.cons rfl (fun K hK => ?_) AllReadyH.nil
      refine dr_store rfl rfl (HSR.out _ hS13) ?_
      refine hK.out _ _ (HSW.out _ hS13) (fun hS2 => ?_)
      clear hK K
      (try simp only [Act.put]); (try simp only [List.setIfInBounds_toArray]); (try simp only [List.set_cons_succ]); (try simp only [List.set_cons_zero])
      refine wpAnyH_take (i := 12) (oi := { dst := some 6, op := Op.assign (Operand.tmp 70), type := 4, pos := "commit.go:86", after := #[{ on := 9, ground := Ground.data }, { on := 11, ground := Ground.chain }, { on := 0, ground := Ground.phase }, { on := 1, ground := Ground.phase }, { on := 2, ground := Ground.phase }, { on := 3, ground := Ground.phase }, { on := 4, ground := Ground.phase }, { on := 5, ground := Ground.phase }, { on := 6, ground := Ground.phase }, { on := 7, ground := Ground.phase }, { on := 8, ground := Ground.phase }, { on := 9, ground := Ground.phase }, { on := 10, ground := Ground.phase }, { on := 11, ground := Ground.phase }], guard := none }) (v := (.bool zf)) rfl (by kernel_rfl) (by kernel_rfl) (by kernel_rfl) (fun _ _ _ h => h) (Or.inl ⟨by rfl, ?_⟩) hS2 ?_
      · intro wx hSw
        (try dsimp only at hSw)
        first | (go_simp; done) | (go_simp; with_reducible rfl)
      (try simp only [Act.put]); (try simp only [List.setIfInBounds_toArray]); (try simp only [List.set_cons_succ]); (try simp only [List.set_cons_zero])
      refine wpAnyH_done (by kernel_rfl) ?_ _
      try simp only [Exit.then]
      have HV9 := HFE.out w13 hS13
      obtain ⟨V9, hV9⟩ : ∃ V, w13.setCells B5 0 CT = V := ⟨_, rfl⟩
      rw [hV9] at HV9 ⊢
      go_wp2_with fail
      refine bodyPost_ret (end3 rfl rfl HV9.2) rfl ?_
      obtain ⟨n1, n2, n3, n4⟩ := HNS.out
      refine ⟨tk, u, some mm, zf, rfl, n1, HWX.out.2.2, HV9.1.kp, fun z t u' ns' hc => ?_, fun z => ⟨mm, ns, rfl, HV9.1.nm, n2, HWH.out.2, HWH.out.1, n3 trivial, HF13.out.1 z⟩⟩
      obtain ⟨e1, e2⟩ := (n3 trivial).inj hc.2.2.1 (dec_ris _)
      have hfit := hc.2.2.2
      rw [← e1, ← e2] at hfit
      rw [HF13.out.2 hfit] at z
      cases z
    | false =>
      go_wp2_with (first | ((with_reducible apply st_alloc); (case ho => rfl); (case hgd => rfl); (case hr => exact HA2.out)) | ((with_reducible apply st_store); (case ho => rfl); (case hgd => rfl); (case hr => exact HS2.out)))
      refine wp_region_held_drew (S := (fun (V : World) => (V.rangeAt B11 0 CT ∧ V.there B5 0 64 ∧ V.cell? ⟨p, 2, none⟩ = some (.int .i64 (x.pg : Int)) ∧ Hid (CI w B5 B11 u mm ns V)))) (by kernel_rfl) (HSS.out _ (HI12.out.kept ((Kept.refl _ _).drew))) (fun hS0 => ?_)
      refine wpAnyH_take (i := 0) (oi := { dst := some 61, op := Op.move (Operand.tmp 10), type := 3, pos := "commit.go:86", after := #[], guard := none }) (v := (.int .i64 (tk : Int))) rfl (by kernel_rfl) (by kernel_rfl) (by kernel_rfl) (fun _ _ _ h => h) (Or.inl ⟨by rfl, ?_⟩) hS0 ?_
      · intro wx hSw
        (try dsimp only at hSw)
        first | (go_simp; done) | (go_simp; with_reducible rfl)
      (try simp only [Act.put]); (try simp only [List.setIfInBounds_toArray]); (try simp only [List.set_cons_succ]); (try simp only [List.set_cons_zero])
      refine wpAnyH_take (i := 1) (oi := { dst := some 62, op := Op.load 68 (Operand.tmp 11), type := 68, pos := "commit.go:86", after := #[{ on := 10, ground := Ground.gcOnly Departure.lateStores }], guard := none }) (v := _) rfl (by kernel_rfl) (by kernel_rfl) (by kernel_rfl) (fun _ _ _ h => h) (yieldsIf_load_mid (by rfl) 68 (Operand.tmp 11) rfl _ _ rfl _ _ (fun V hV => hV.1) hu68 hd68 hi68) hS0 ?_
      (try simp only [Act.put]); (try simp only [List.setIfInBounds_toArray]); (try simp only [List.set_cons_succ]); (try simp only [List.set_cons_zero])
      refine wpAnyH_take (i := 2) (oi := { dst := some 63, op := Op.move (Operand.tmp 12), type := 4, pos := "commit.go:86", after := #[], guard := none }) (v := (.bool false)) rfl (by kernel_rfl) (by kernel_rfl) (by kernel_rfl) (fun _ _ _ h => h) (Or.inl ⟨by rfl, ?_⟩) hS0 ?_
      · intro wx hSw
        (try dsimp only at hSw)
        first | (go_simp; done) | (go_simp; with_reducible rfl)
      (try simp only [Act.put]); (try simp only [List.setIfInBounds_toArray]); (try simp only [List.set_cons_succ]); (try simp only [List.set_cons_zero])
      refine wpAnyH_take (i := 3) (oi := { dst := some 64, op := Op.move (Operand.tmp 63), type := 4, pos := "commit.go:86", after := #[{ on := 2, ground := Ground.data }], guard := none }) (v := (.bool false)) rfl (by kernel_rfl) (by kernel_rfl) (by kernel_rfl) (fun _ _ _ h => h) (Or.inl ⟨by rfl, ?_⟩) hS0 ?_
      · intro wx hSw
        (try dsimp only at hSw)
        first | (go_simp; done) | (go_simp; with_reducible rfl)
      (try simp only [Act.put]); (try simp only [List.setIfInBounds_toArray]); (try simp only [List.set_cons_succ]); (try simp only [List.set_cons_zero])
      refine wpAnyH_take (i := 4) (oi := { dst := some 65, op := Op.move (Operand.tmp 0), type := 27, pos := "commit.go:86", after := #[{ on := 3, ground := Ground.guard }], guard := some (3, true) }) (v := undef) rfl (by kernel_rfl) (by kernel_rfl) (by kernel_rfl) (fun _ _ _ h => h) (Or.inr ⟨by rfl, rfl⟩) hS0 ?_
      (try simp only [Act.put]); (try simp only [List.setIfInBounds_toArray]); (try simp only [List.set_cons_succ]); (try simp only [List.set_cons_zero])
      refine wpAnyH_take (i := 5) (oi := { dst := some 66, op := Op.nilCheck (Operand.tmp 65), type := 0, pos := "commit.go:86", after := #[{ on := 4, ground := Ground.data }, { on := 3, ground := Ground.guard }], guard := some (3, true) }) (v := undef) rfl (by kernel_rfl) (by kernel_rfl) (by kernel_rfl) (fun _ _ _ h => h) (Or.inr ⟨by rfl, rfl⟩) hS0 ?_
      (try simp only [Act.put]); (try simp only [List.setIfInBounds_toArray]); (try simp only [List.set_cons_succ]); (try simp only [List.set_cons_zero])
      refine wpAnyH_take (i := 6) (oi := { dst := some 67, op := Op.fieldAddr 70 (Operand.tmp 66) 2, type := 0, pos := "commit.go:86", after := #[{ on := 5, ground := Ground.data }, { on := 3, ground := Ground.guard }], guard := some (3, true) }) (v := undef) rfl (by kernel_rfl) (by kernel_rfl) (by kernel_rfl) (fun _ _ _ h => h) (Or.inr ⟨by rfl, rfl⟩) hS0 ?_
      (try simp only [Act.put]); (try simp only [List.setIfInBounds_toArray]); (try simp only [List.set_cons_succ]); (try simp only [List.set_cons_zero])
      refine wpAnyH_take (i := 7) (oi := { dst := some 68, op := Op.load 3 (Operand.tmp 67), type := 3, pos := "commit.go:86", after := #[{ on := 6, ground := Ground.data }, { on := 3, ground := Ground.guard }], guard := some (3, true) }) (v := undef) rfl (by kernel_rfl) (by kernel_rfl) (by kernel_rfl) (fun _ _ _ h => h) (Or.inr ⟨by rfl, rfl⟩) hS0 ?_
      (try simp only [Act.put]); (try simp only [List.setIfInBounds_toArray]); (try simp only [List.set_cons_succ]); (try simp only [List.set_cons_zero])
      refine wpAnyH_take (i := 8) (oi := { dst := some 69, op := Op.call { callee := Callee.value (Operand.func 90), args := #[Operand.tmp 11, Operand.tmp 68], argTypes := #[68, 3] }, type := 4, pos := "commit.go:86", after := #[{ on := 7, ground := Ground.data }, { on := 3, ground := Ground.chain }, { on := 3, ground := Ground.guard }], guard := some (3, true) }) (v := undef) rfl (by kernel_rfl) (by kernel_rfl) (by kernel_rfl) (fun _ _ _ h => h) (Or.inr ⟨by rfl, rfl⟩) hS0 ?_
      (try simp only [Act.put]); (try simp only [List.setIfInBounds_toArray]); (try simp only [List.set_cons_succ]); (try simp only [List.set_cons_zero])
      refine wpAnyH_take (i := 9) (oi := { dst := some 70, op := Op.pick (Operand.tmp 64) (Operand.tmp 69) (Operand.const (Value.bool false)), type := 4, pos := "commit.go:86", after := #[{ on := 3, ground := Ground.data }, { on := 8, ground := Ground.data }, { on := 11, ground := Ground.gcOnly Departure.lateStores }], guard := none }) (v := (.bool false)) rfl (by kernel_rfl) (by kernel_rfl) (by kernel_rfl) (fun _ _ _ h => h) (Or.inl ⟨by rfl, ?_⟩) hS0 ?_
      · intro wx hSw
        (try dsimp only at hSw)
        first | (go_simp; done) | (go_simp; with_reducible rfl)
      (try simp only [Act.put]); (try simp only [List.setIfInBounds_toArray]); (try simp only [List.set_cons_succ]); (try simp only [List.set_cons_zero])
      refine wpAnyH_take (i := 10) (oi := { dst := some 4, op := Op.assign (Operand.tmp 61), type := 3, pos := "commit.go:86", after := #[{ on := 0, ground := Ground.data }, { on := 8, ground := Ground.chain }, { on := 0, ground := Ground.phase }, { on := 1, ground := Ground.textOnly Departure.lateStores }, { on := 2, ground := Ground.textOnly Departure.lateStores }, { on := 3, ground := Ground.textOnly Departure.lateStores }, { on := 4, ground := Ground.textOnly Departure.lateStores }, { on := 5, ground := Ground.textOnly Departure.lateStores }, { on := 6, ground := Ground.textOnly Departure.lateStores }, { on := 7, ground := Ground.textOnly Departure.lateStores }, { on := 8, ground := Ground.textOnly Departure.lateStoresUnsure }, { on := 9, ground := Ground.textOnly Departure.lateStores }], guard := none }) (v := (.int .i64 (tk : Int))) rfl (by kernel_rfl) (by kernel_rfl) (by kernel_rfl) (fun _ _ _ h => h) (Or.inl ⟨by rfl, ?_⟩) hS0 ?_
      · intro wx hSw
        (try dsimp only at hSw)
        first | (go_simp; done) | (go_simp; with_reducible rfl)
      (try simp only [Act.put]); (try simp only [List.setIfInBounds_toArray]); (try simp only [List.set_cons_succ]); (try simp only [List.set_cons_zero])
      refine wpAnyH_ready (rs := [11]) (by kernel_rfl) (by simp) ?_
      refine AllReadyH.cons rfl (fun K hK => ?_) AllReadyH.nil
      refine dr_store rfl rfl (HSR.out _ hS0) ?_
      refine hK.out _ _ (HSW.out _ hS0) (fun hS1 => ?_)
      clear hK K
      (try simp only [Act.put]); (try simp only [List.setIfInBounds_toArray]); (try simp only [List.set_cons_succ]); (try simp only [List.set_cons_zero])
      refine wpAnyH_take (i := 12) (oi := { dst := some 6, op := Op.assign (Operand.tmp 70), type := 4, pos := "commit.go:86", after := #[{ on := 9, ground := Ground.data }, { on := 11, ground := Ground.chain }, { on := 0, ground := Ground.phase }, { on := 1, ground := Ground.phase }, { on := 2, ground := Ground.phase }, { on := 3, ground := Ground.phase }, { on := 4, ground := Ground.phase }, { on := 5, ground := Ground.phase }, { on := 6, ground := Ground.phase }, { on := 7, ground := Ground.phase }, { on := 8, ground := Ground.phase }, { on := 9, ground := Ground.phase }, { on := 10, ground := Ground.phase }, { on := 11, ground := Ground.phase }], guard := none }) (v := (.bool false)) rfl (by kernel_rfl) (by kernel_rfl) (by kernel_rfl) (fun _ _ _ h => h) (Or.inl ⟨by rfl, ?_⟩) hS1 ?_
      · intro wx hSw
        (try dsimp only at hSw)
        first | (go_simp; done) | (go_simp; with_reducible rfl)
      (try simp only [Act.put]); (try simp only [List.setIfInBounds_toArray]); (try simp only [List.set_cons_succ]); (try simp only [List.set_cons_zero])
      refine wpAnyH_done (by kernel_rfl) ?_ _
      try simp only [Exit.then]
      have HV9 := HFE.out _ hS0
      obtain ⟨V9, hV9⟩ : ∃ V, V2.drew.setCells B5 0 CT = V := ⟨_, rfl⟩
      rw [hV9] at HV9 ⊢
      go_wp2_with fail
      refine bodyPost_ret (end3 rfl rfl HV9.2) rfl ?_
      obtain ⟨n1, n2, n3, n4⟩ := HNS.out
      exact ⟨tk, u, some mm, false, rfl, n1, HWX.out.2.2, HV9.1.kp, fun _ t u' ns' hc => n4 trivial u' ns' hc.2.2.1, fun z => (by cases z)⟩
  · refine (committed_no h hd hoff hfr hf hh hin hW).mono ?_
    rintro e w' ⟨rfl, q⟩
    exact ⟨0, u0, none, false, rfl, u0_len, by omega, q, fun _ t u' ns' z => hW z.2.1, fun z => (by cases z)⟩
end Go.Proofs.YtkhpmmmildcceaaGreat
