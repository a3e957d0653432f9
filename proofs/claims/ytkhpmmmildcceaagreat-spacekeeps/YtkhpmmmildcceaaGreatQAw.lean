/- awake. -/
import Derived.Test.YtkhpmmmildcceaaGreatQDq
import Derived.Test.YtkhpmmmildcceaaGreatQSp
namespace Go.Proofs.YtkhpmmmildcceaaGreat
open Go.ChangeShapes Go.WideShapes Go.ChangeAt Go.RowKit
set_option linter.unusedVariables false
set_option maxRecDepth 100000

theorem Ge.name {v : Sv} (g : Ge v) {s : List UInt8} {n : Nat} (h1 : 1 ≤ s.length) (h2 : s.length ≤ 8) (hl : (putN v.nn s n).length ≤ 6) : Ge (nameV v s n) :=
  ⟨g.fr4, g.pg5, g.ins, g.in24, g.ok, fun y hy => by
    rcases mem_putN.1 hy with rfl | ⟨q, _⟩
    · exact ⟨h1, h2⟩
    · exact g.nok y q, hl, g.tn, g.lb⟩
theorem bit_u0 (k : Nat) : bitU u0 k = false := by
  unfold bitU u0
  rw [List.getD_eq_getElem?_getD]
  cases q : (List.replicate 63 (0 : UInt8))[k / 8]? with
  | none => rw [Option.getD_none]; exact Nat.zero_testBit _
  | some x =>
    have := List.mem_of_getElem? q
    rw [List.mem_replicate] at this
    rw [this.2, Option.getD_some]
    exact Nat.zero_testBit _
theorem least_u0 {k : Nat} (h : LeastU u0 u0 k) : k = 0 := by
  rcases Nat.eq_zero_or_pos k with q | q
  · exact q
  · have := h.2.1 0 q
    rw [bit_u0] at this
    cases this
/-- A space that was never committed, as it is opened. -/
def newV (d : Dk) (fr pg : Nat) : Sv := ⟨d, fr, pg, 0, u0, [], u0, []⟩
theorem Ge.new {d : Dk} {fr pg tt : Nat} (ho : OkD d) (h1 : fr + 32 ≤ tt) (h2 : tt ≤ d.n) (h3 : d.n ≤ 4096) (hpg : pg = min ((tt - fr) / 8 - 3) 500) : Ge (newV d fr pg) :=
  ⟨by show fr ≤ 4096; omega, by show pg ≤ 500; omega, fun k hk => by
    have hk2 : k < pg := hk
    show fr + (k + 3) * 8 + 8 ≤ d.n
    omega, by show fr + 24 ≤ d.n; omega, ho, fun y hy => (by cases hy), Nat.zero_le _, Nat.zero_le _, fun k hk => by
    have : bitU u0 k = true := hk
    rw [bit_u0] at this
    cases this⟩
theorem fresh_ok (n : Nat) : OkD (fresh n) := ⟨rfl, rfl⟩
theorem fresh_last (n i : Nat) : (fresh n).last i = List.replicate 32 (0 : UInt8) := rfl
/-- The latest state of a disk that was never written. -/
theorem lat_fresh {n fr pg t : Nat} {u : List UInt8} {ns : List Nam} (h : LatJ (ComD (fresh n) fr pg) 2 t u ns) : t = 0 ∧ u = u0 ∧ ns = [] :=
  lat_none h (fun hf _ t' u' ns' hc => by
    have := hc.1
    rw [fresh_last, tkB_zero] at this
    exact this.symm)
theorem wrP_Q (d : Dk) (a : Nat) (l : List UInt8) (k : Nat) : (wrP d a l k).Q.length ≤ d.Q.length + k := wrP_q d a l k
def rootL : List UInt8 := [114, 111, 111, 116]
def uOne : List UInt8 := flipU u0 0
def nOne : List Nam := [(rootL, 1)]
theorem uOne_is : uOne.length = 63 ∧ hasU uOne 1 = true ∧ soundN uOne nOne = true ∧ cntU uOne = 1 ∧ hasU u0 1 = false := by decide +kernel
theorem nOne_is : putN [] rootL 1 = nOne := rfl
theorem uOne_bit (k : Nat) (hk : 1 ≤ k) : bitU uOne k = false := by
  unfold uOne
  rw [bit_flip u0_len (by omega), bit_u0, decide_eq_false (by omega)]
  rfl
/-- What the disk holds behind the first commit. -/
theorem aw_disk {d dd : Dk} (ho : OkD d) (hl : LayS (wrP (wrP d 24 z256 8) 24 (List.replicate 256 97) 8) 0 1 (mapB uOne nOne) 0 dd) (h0 : d.last 0 = List.replicate 32 (0 : UInt8)) (ks : List Int) : OkD (dd.crash ks) ∧ (dd.crash ks).n = d.n ∧ rdP (dd.crash ks) 24 8 = List.replicate 256 97 ∧ ∀ t u ns, LatJ (ComD (dd.crash ks) 0 5) 2 t u ns → t = 1 ∧ u = uOne ∧ ns = nOne := by
  have o1 := ho.wrP 24 z256 8
  have o2 := o1.wrP 24 (List.replicate 256 97) 8
  obtain ⟨_, p1, p2, p3, p4⟩ := o2.lay hl
  obtain ⟨q1, q2, q3, q4⟩ := p1.crash0 p3 ks
  have hm : (mapB uOne nOne).length = 256 := bytesB_len _ (okC_cells uOne_is.1 (fun x hx => by
    rw [List.mem_singleton.1 hx]
    exact ⟨by decide, by decide⟩) (by decide))
  have e1 : (dd.crash ks).last 1 = headB 1 (mapB uOne nOne) := by rw [q4, p4, if_pos rfl]
  have e2 : rdP (dd.crash ks) 16 8 = mapB uOne nOne := rdP_all hm (fun j hj => by
    rw [q4, p4, if_neg (by omega), if_pos (by omega)]
    congr 1
    omega)
  have e3 : (dd.crash ks).last 0 = List.replicate 32 (0 : UInt8) := by
    rw [q4, p4, if_neg (by omega), if_neg (by omega), o1.last_wrP, if_neg (by omega), ho.last_wrP, if_neg (by omega), h0]
  refine ⟨q1, by rw [q2, p2, wrP_n, wrP_n], rdP_all (by rw [List.length_replicate]) (fun j hj => ?_), fun t u ns h => ?_⟩
  · rw [q4, p4, if_neg (by omega), if_neg (by omega), o1.last_wrP, if_pos (by omega)]
    congr 1
    omega
  · refine lat_of (hf := 1) (by omega) (by omega) ?_ (fun t' u' ns' hc => ?_) h
    · have hwh := whole_head 1 (by omega) (mapB uOne nOne)
      have htk := tkB_head 1 (by omega) (mapB uOne nOne)
      refine ⟨?_, ?_, ?_, ?_⟩
      · show tkB ((dd.crash ks).last (0 + 1)) = 1
        rw [show 0 + 1 = 1 from rfl, e1]
        exact htk
      · show Whole 1 ((dd.crash ks).last (0 + 1)) (rdP (dd.crash ks) (0 + (1 + 1) * 8) 8)
        rw [show 0 + 1 = 1 from rfl, show 0 + (1 + 1) * 8 = 16 from rfl, e1, e2]
        exact hwh
      · show MapS (rdP (dd.crash ks) (0 + (1 + 1) * 8) 8) uOne nOne
        rw [show 0 + (1 + 1) * 8 = 16 from rfl, e2]
        exact mapS_is uOne_is.1 (List.pairwise_singleton _ _) (fun x hx => by
          rw [List.mem_singleton.1 hx]
          exact ⟨⟨by decide, by decide⟩, by decide⟩) (by decide)
      · exact ⟨uOne_is.2.2.1, by decide, fun k h1 h2 => uOne_bit k (by omega)⟩
    · have := hc.1
      have this : tkB ((dd.crash ks).last (0 + (1 - 1))) = t' := this
      rw [show 0 + (1 - 1) = 0 from rfl, e3, tkB_zero] at this
      omega
set_option maxHeartbeats 4000000 in
theorem awake_is (w : World) : Calls Tryz.prog 13 #[] w fun e w' => e = .returned (.bool true) ∧ Kept (fun _ => False) w w' := by
  obtain ⟨B, hB⟩ : ∃ B, w.heap.size = B := ⟨_, rfl⟩
  have HB : Hid (w.heap.size = B) := hB
  have HNW : Hid (Calls Tryz.prog 8 #[.int .i64 64] w fun e w' => ∃ pd, e = .returned (.tuple #[.pointer (some ⟨pd, 0, none⟩), .int .i64 0]) ∧ Hid (DH B w' pd (fresh 64) ∧ Kept (fun i => B ≤ i) w w')) := by
    refine (dh_new 64 (by omega) (by omega) w).mono ?_
    rintro e w' ⟨pd, q1, q2, q3⟩
    rw [hB] at q2
    exact ⟨pd, q1, q2, q3.mono (fun _ z => z.elim)⟩
  have HOP : Hid (∀ V pd, DH B V pd (fresh 64) → Kept (fun i => B ≤ i) w V → Calls Tryz.prog 9 #[.pointer (some ⟨pd, 0, none⟩), .int .i64 0, .int .i64 64] V fun e w' => ∃ p, e = .returned (.tuple #[.pointer (some ⟨p, 0, none⟩), .int .i64 0]) ∧ Hid (SH B w' p pd (newV (fresh 64) 0 5) ∧ Kept (fun i => B ≤ i) w w')) := fun V pd h kV => by
    refine (sh_open h rfl (by rw [← HB.out]; exact kV.size) 0 64 5 (by omega) (by show 64 ≤ 64; omega) (by decide)).mono ?_
    rintro e w' ⟨p, t, u, ns, q1, q2, q3, q4, q5⟩
    obtain ⟨rfl, rfl, rfl⟩ := lat_fresh q3
    exact ⟨p, q1, q2, kV.trans q5 (fun _ z => z.elim)⟩
  have G0 : Ge (newV (fresh 64) 0 5) := Ge.new (tt := 64) (fresh_ok 64) (by omega) (by show 64 ≤ 64; omega) (by show 64 ≤ 4096; omega) (by decide)
  have G1 : Ge (allocV (newV (fresh 64) 0 5) 0) := G0.alloc u0_len (by show 0 < 5; omega)
  obtain ⟨v1, hv1⟩ : ∃ v, allocV (newV (fresh 64) 0 5) 0 = v := ⟨_, rfl⟩
  obtain ⟨v2, hv2⟩ : ∃ v, writeV v1 1 (List.replicate 256 97) = v := ⟨_, rfl⟩
  obtain ⟨v3, hv3⟩ : ∃ v, nameV v2 rootL 1 = v := ⟨_, rfl⟩
  rw [hv1] at G1
  have G2 : Ge v2 := by rw [← hv2]; exact G1.disk _ (wrP_n _ _ _ _) (G1.ok.wrP _ _ _)
  have e1n : v1.nu = uOne := by rw [← hv1]; rfl
  have e1l : v1.lu = u0 := by rw [← hv1]; rfl
  have e1m : v1.nn = [] := by rw [← hv1]; rfl
  have e2n : v2.nu = uOne := by rw [← hv2]; exact e1n
  have e2m : v2.nn = [] := by rw [← hv2]; exact e1m
  have e3n : v3.nu = uOne := by rw [← hv3]; exact e2n
  have e3m : v3.nn = nOne := by rw [← hv3]; show putN v2.nn rootL 1 = nOne; rw [e2m]; rfl
  have e3t : v3.tn = 0 := by rw [← hv3, ← hv2, ← hv1]; rfl
  have e3f : v3.fr = 0 := by rw [← hv3, ← hv2, ← hv1]; rfl
  have e3d : v3.d = wrP (wrP (fresh 64) 24 z256 8) 24 (List.replicate 256 97) 8 := by rw [← hv3, ← hv2, ← hv1]; rfl
  have G3 : Ge v3 := by rw [← hv3]; exact G2.name (by decide) (by decide) (by rw [e2m]; decide)
  have q1 : v1.d.Q.length ≤ 8 := by rw [← hv1]; exact wrP_Q _ _ _ _
  have q3 : v3.d.Q.length ≤ 16 := by
    rw [e3d]
    have := wrP_Q (wrP (fresh 64) 24 z256 8) 24 (List.replicate 256 97) 8
    have := wrP_Q (fresh 64) 24 z256 8
    have : (fresh 64).Q.length = 0 := rfl
    omega
  have HPG : Hid (∀ V p pd, SH B V p pd (newV (fresh 64) 0 5) → Calls Tryz.prog 10 #[.pointer (some ⟨p, 0, none⟩)] V fun e w' => e = .returned (.int .i64 5) ∧ w' = V) := fun V p pd h => sh_pages h
  have HAL : Hid (∀ V p pd, SH B V p pd (newV (fresh 64) 0 5) → Kept (fun i => B ≤ i) w V → Calls Tryz.prog 18 #[.pointer (some ⟨p, 0, none⟩)] V fun e w' => e = .returned (.tuple #[.int .i64 1, .int .i64 0]) ∧ Hid (SH B w' p pd v1 ∧ Kept (fun i => B ≤ i) w w')) := fun V p pd h kV => by
    refine (sh_alloc h G0 (by show 0 + 8 ≤ 1048576; omega) (by rw [← HB.out]; exact kV.size)).mono ?_
    rintro e w' ⟨k, z1, z2⟩
    obtain rfl := least_u0 z1
    rcases z2 with ⟨z, _⟩ | ⟨_, z3, z4, z5⟩
    · exact absurd z (by decide)
    · rw [hv1] at z4
      exact ⟨z3, z4, kV.trans z5 (fun i z => .inl z)⟩
  obtain ⟨SF, hSF⟩ : ∃ S, fill 97 = S := ⟨_, rfl⟩
  have HFL : Hid (∀ V, Calls Tryz.prog 20 #[.int .u8 97] V fun e w' => e = .returned (.string SF) ∧ Hid (Kept (fun _ => False) V w')) := fun V => by
    have := filled_is 97 V
    rw [hSF] at this
    exact this
  have HWR : Hid (∀ V p pd, SH B V p pd v1 → Kept (fun i => B ≤ i) w V → Calls Tryz.prog 19 #[.pointer (some ⟨p, 0, none⟩), .int .i64 1, .string SF] V fun e w' => e = .returned (.int .i64 0) ∧ Hid (SH B w' p pd v2 ∧ Kept (fun i => B ≤ i) w w')) := fun V p pd h kV => by
    refine (sh_write h G1 (by omega) (by rw [← HB.out]; exact kV.size) 1 SF (by rw [← hSF]; exact fill_size 97)).mono ?_
    rintro e w' z
    rw [e1n, e1l, uOne_is.2.1, uOne_is.2.2.2.2] at z
    rcases z with ⟨z, _⟩ | ⟨_, z2, z3, z4⟩
    · cases z
    · rw [← hSF, fill_list, show (1 : Int).toNat = 1 from rfl, hv2] at z3
      exact ⟨z2, z3, kV.trans z4 (fun i z => .inl z)⟩
  have HNA : Hid (∀ V p pd, SH B V p pd v2 → Kept (fun i => B ≤ i) w V → Calls Tryz.prog 21 #[.pointer (some ⟨p, 0, none⟩), .string ⟨#[114, 111, 111, 116]⟩, .int .i64 1] V fun e w' => e = .returned (.int .i64 0) ∧ Hid (SH B w' p pd v3 ∧ Kept (fun i => B ≤ i) w w')) := fun V p pd h kV => by
    refine (sh_name h G2 ⟨#[114, 111, 111, 116]⟩ (by decide) 1).mono ?_
    rintro e w' z
    rw [e2n, uOne_is.2.1, e2m] at z
    rcases z with ⟨z, _⟩ | ⟨_, z, _⟩ | ⟨_, _, _, z, _⟩ | ⟨_, _, _, z2, z3, z4⟩
    · exact absurd (by decide) z
    · cases z
    · cases z
    · rw [show (1 : Int).toNat = 1 from rfl] at z3
      have z5 : SH B w' p pd (nameV v2 rootL 1) := z3
      rw [hv3] at z5
      exact ⟨z2, z5, kV.trans z4 (fun i z => .inl z)⟩
  have HCO : Hid (∀ V p pd, SH B V p pd v3 → Kept (fun i => B ≤ i) w V → Calls Tryz.prog 22 #[.pointer (some ⟨p, 0, none⟩)] V fun e w' => e = .returned (.int .i64 0) ∧ Hid (∃ dd, LayS (wrP (wrP (fresh 64) 24 z256 8) 24 (List.replicate 256 97) 8) 0 1 (mapB uOne nOne) 0 dd ∧ DH B w' pd dd ∧ Kept (fun i => B ≤ i) w w')) := fun V p pd h kV => by
    refine (sh_commit h G3 (by omega) (by rw [← HB.out]; exact kV.size)).mono ?_
    rintro e w' z
    rw [e3n, e3m, e3t, e3f, e3d, uOne_is.2.2.1] at z
    rcases z with ⟨z, _⟩ | ⟨_, z, _⟩ | ⟨_, _, z2, dd, z3, z4, z5⟩
    · cases z
    · exact absurd z (by decide)
    · exact ⟨z2, dd, z3, z4.dh, kV.trans z5 (fun i z => .inl z)⟩
  have HCR : Hid (∀ V pd dd, LayS (wrP (wrP (fresh 64) 24 z256 8) 24 (List.replicate 256 97) 8) 0 1 (mapB uOne nOne) 0 dd → DH B V pd dd → Kept (fun i => B ≤ i) w V → Calls Tryz.prog 24 #[.pointer (some ⟨pd, 0, none⟩), .slice none 0 0] V fun e w' => e = .returned (.int .i64 0) ∧ Hid (DH B w' pd (dd.crash []) ∧ Kept (fun i => B ≤ i) w w')) := fun V pd dd hl h kV => by
    have ho := ((fresh_ok 64).wrP 24 z256 8).wrP 24 (List.replicate 256 97) 8
    have hq := (ho.lay hl).2.2.2.1
    refine (dh_crash h (by rw [hq]; show 0 ≤ _; omega) (.slice none 0 0) [] (.inl ⟨none, 0, rfl, rfl⟩) (fun a n c e => by cases e) (by show 0 ≤ _; omega)).mono ?_
    rintro e w' ⟨z1, z2, z3⟩
    exact ⟨z1, z2, kV.trans z3 (fun i z => .inl z)⟩
  have HO2 : Hid (∀ V pd dd, LayS (wrP (wrP (fresh 64) 24 z256 8) 24 (List.replicate 256 97) 8) 0 1 (mapB uOne nOne) 0 dd → DH B V pd (dd.crash []) → Kept (fun i => B ≤ i) w V → Calls Tryz.prog 9 #[.pointer (some ⟨pd, 0, none⟩), .int .i64 0, .int .i64 64] V fun e w' => ∃ p, e = .returned (.tuple #[.pointer (some ⟨p, 0, none⟩), .int .i64 0]) ∧ Hid (∃ v, Ge v ∧ v.fr = 0 ∧ v.tn = 1 ∧ v.lu = uOne ∧ v.nu = uOne ∧ v.nn = nOne ∧ rdP v.d 24 8 = List.replicate 256 97 ∧ SH B w' p pd v ∧ Kept (fun i => B ≤ i) w w')) := fun V pd dd hl h kV => by
    obtain ⟨r1, r2, r3, r4⟩ := aw_disk (fresh_ok 64) hl (fresh_last 64 0) []
    refine (sh_open h r1.2 (by rw [← HB.out]; exact kV.size) 0 64 5 (by omega) (by rw [r2]; show 64 ≤ 64; omega) (by decide)).mono ?_
    rintro e w' ⟨p, t, u, ns, z1, z2, z3, z4, z5⟩
    obtain ⟨rfl, rfl, rfl⟩ := r4 t u ns z3
    have hn64 : (dd.crash []).n = 64 := r2
    refine ⟨p, z1, _, ⟨by show 0 ≤ 4096; omega, by show 5 ≤ 500; omega, fun k hk => ?_, by show 0 + 24 ≤ (dd.crash []).n; omega, r1, fun y hy => ?_, by show nOne.length ≤ 6; decide, by show 1 ≤ 1048575; omega, fun k hk => ?_⟩, rfl, rfl, rfl, rfl, rfl, r3, z2, kV.trans z5 (fun _ z => z.elim)⟩
    · have hk2 : k < 5 := hk
      show 0 + (k + 3) * 8 + 8 ≤ (dd.crash []).n
      omega
    · rw [List.mem_singleton.1 hy]
      exact ⟨by decide, by decide⟩
    · have hk2 : bitU uOne k = true := hk
      rcases Nat.eq_zero_or_pos k with q | q
      · rw [q]; show 0 < 5; omega
      · rw [uOne_bit k q] at hk2
        cases hk2
  clear G0 G1 G2 G3 hv1 hv2 hv3 e1n e1l e1m e2n e2m e3n e3m e3t e3f e3d q1 q3 hB
  have HSF : Hid (SF = ⟨(List.replicate 256 (97 : UInt8)).toArray⟩) := hSF.symm
  clear hSF
  go_enter Tryz.func13, Tryz.ntmps13
  go_wp2_with fail
  refine Calls.mono HNW.out ?_; rintro e w1 ⟨pd, rfl, H1⟩
  go_wp2_with fail
  refine Calls.mono (HOP.out w1 pd H1.out.1 H1.out.2) ?_; rintro e w2 ⟨p, rfl, H2⟩
  go_wp2_with fail
  refine Calls.mono (HPG.out w2 p pd H2.out.1) ?_; rintro e w3 ⟨rfl, rfl⟩
  go_wp2_with fail
  refine Calls.mono (HAL.out w3 p pd H2.out.1 H2.out.2) ?_; rintro e w4 ⟨rfl, H4⟩
  go_wp2_with fail
  refine Calls.mono (HFL.out w4) ?_; rintro e w5 ⟨rfl, K5⟩
  go_wp2_with fail
  refine Calls.mono (HWR.out w5 p pd (H4.out.1.kept K5.out) (H4.out.2.trans K5.out (fun _ z => z.elim))) ?_; rintro e w6 ⟨rfl, H6⟩
  go_wp2_with fail
  refine Calls.mono (HNA.out w6 p pd H6.out.1 H6.out.2) ?_; rintro e w7 ⟨rfl, H7⟩
  go_wp2_with fail
  refine Calls.mono (HCO.out w7 p pd H7.out.1 H7.out.2) ?_; rintro e w8 ⟨rfl, H8⟩
  obtain ⟨dd, L8, D8, K8⟩ := H8.out
  have HL8 : Hid _ := L8
  have HR8 : Hid _ := HCR.out w8 pd dd L8 D8 K8
  clear L8 D8 K8
  go_wp2_with fail
  refine Calls.mono HR8.out ?_; rintro e w9 ⟨rfl, H9⟩
  go_wp2_with fail
  refine Calls.mono (HO2.out w9 pd dd HL8.out H9.out.1 H9.out.2) ?_; rintro e w10 ⟨p2, rfl, H10⟩
  obtain ⟨v, g1, g2, g3, g4, g5, g6, g7, g8, g9⟩ := H10.out
  have HND : Hid (Calls Tryz.prog 26 #[.pointer (some ⟨p2, 0, none⟩), .string ⟨#[114, 111, 111, 116]⟩] w10 fun e w' => e = .returned (.tuple #[.int .i64 1, .bool true]) ∧ w' = w10) := by
    have := sh_named g8 ⟨#[114, 111, 111, 116]⟩ (by decide)
    rw [g6] at this
    exact this
  have HRD : Hid (Calls Tryz.prog 25 #[.pointer (some ⟨p2, 0, none⟩), .int .i64 1] w10 fun e w' => e = .returned (.tuple #[.string SF, .int .i64 0]) ∧ Hid (SH B w' p2 pd v ∧ Kept (fun i => B ≤ i) w w')) := by
    refine (sh_read g8 g1 1).mono ?_
    rintro e w' z
    rw [g5, uOne_is.2.1, g2, show 0 + ((1 : Int).toNat + 2) * 8 = 24 from rfl, g7, ← HSF.out] at z
    rcases z with ⟨z, _⟩ | ⟨_, z2, z3, z4⟩
    · cases z
    · exact ⟨z2, z3, g9.trans z4 (fun _ z => z.elim)⟩
  have HRS : Hid (∀ V, SH B V p2 pd v → (Calls Tryz.prog 16 #[.pointer (some ⟨p2, 0, none⟩)] V fun e w' => e = .returned (.int .i64 1) ∧ w' = V) ∧ (Calls Tryz.prog 15 #[.pointer (some ⟨p2, 0, none⟩)] V fun e w' => e = .returned (.int .i64 1) ∧ w' = V) ∧ (Calls Tryz.prog 27 #[.pointer (some ⟨p2, 0, none⟩), .int .i64 1] V fun e w' => e = .returned (.bool false) ∧ w' = V)) := fun V h => by
    have a1 := sh_turn h
    have a2 := sh_used h
    have a3 := sh_fresh h 1
    rw [g3] at a1
    rw [g5, uOne_is.2.2.2.1] at a2
    rw [g5, g4, uOne_is.2.1] at a3
    exact ⟨a1, a2, a3⟩
  clear g1 g2 g3 g4 g5 g6 g7 g8 g9
  go_wp2_with fail
  refine Calls.mono HND.out ?_; rintro e w11 ⟨rfl, rfl⟩
  go_wp2_with fail
  refine Calls.mono HRD.out ?_; rintro e w12 ⟨rfl, H12⟩
  go_wp2_with fail
  refine Calls.mono (HFL.out w12) ?_; rintro e w13 ⟨rfl, K13⟩
  obtain ⟨r1, r2, r3⟩ := HRS.out w13 (H12.out.1.kept K13.out)
  have HR1 : Hid _ := r1
  have HR2 : Hid _ := r2
  have HR3 : Hid _ := r3
  clear r1 r2 r3
  go_wp2_with fail
  refine Calls.mono HR1.out ?_; rintro e w14 ⟨rfl, rfl⟩
  go_wp2_with fail
  refine Calls.mono HR2.out ?_; rintro e w15 ⟨rfl, rfl⟩
  go_wp2_with fail
  refine Calls.mono HR3.out ?_; rintro e w16 ⟨rfl, rfl⟩
  go_wp2_with fail
  go_ret
  refine ⟨rfl, ?_⟩
  have kk := H12.out.2.trans K13.out (fun _ z => z.elim)
  exact ⟨kk.os, kk.tape, kk.output, kk.size, fun i hi _ => kk.block i hi (by have := HB.out; omega)⟩
end Go.Proofs.YtkhpmmmildcceaaGreat
