/- As many pages as there may be. -/
import Derived.Test.YtkhpmmmildcceaaGreatQSz
namespace Go.Proofs.YtkhpmmmildcceaaGreat
open Go.ChangeShapes Go.WideShapes Go.ChangeAt Go.RowKit
set_option linter.unusedVariables false
set_option maxRecDepth 100000

theorem and255 (n : Int) : bits .and .i64 n 255 = n % 256 := by
  have h : (BitVec.ofInt 64 255).toNat = 2 ^ 8 - 1 := by decide
  have key : (BitVec.ofInt 64 n &&& BitVec.ofInt 64 255).toNat = (n % ((2 ^ 64 : Nat) : Int)).toNat % 2 ^ 8 := by
    rw [BitVec.toNat_and, BitVec.toNat_ofInt, h, Nat.and_two_pow_sub_one_eq_mod]
  show IntKind.i64.wrap ((BitVec.ofInt 64 n &&& BitVec.ofInt 64 255).toNat : Nat) = n % 256
  rw [key, IntKind.wrap_i64]
  omega
/-- Pages lo to hi are in use; the first L were when it was committed last. -/
structure FS (pg T lo hi L qn : Nat) (v : Sv) : Prop where
  ge : Ge v
  fp : v.pg = pg
  ft : v.tn = T
  nn : v.nn = []
  nuB : ∀ k, bitU v.nu k = decide (lo ≤ k ∧ k < hi)
  luB : ∀ k, bitU v.lu k = decide (k < L)
  q : v.d.Q.length ≤ qn
theorem SH.nl {B : Nat} {w : World} {p pd : Nat} {v : Sv} (h : SH B w p pd v) : v.nu.length = 63 := by
  obtain ⟨F, a, b, hx⟩ := h
  exact hx.sp.ln
theorem FS.least {pg T lo hi L qn : Nat} {v : Sv} (h : FS pg T lo hi L qn v) {k : Nat} (hk : LeastU v.lu v.nu k) {m : Nat} (hm : m < 504) (h1 : ∀ j, j < m → (lo ≤ j ∧ j < hi) ∨ j < L) (h2 : ¬ (lo ≤ m ∧ m < hi) ∧ ¬ m < L) : k = m := by
  rcases Nat.lt_trichotomy k m with q | q | q
  · have := hk.2.2 (by omega)
    rw [h.nuB, h.luB] at this
    simp only [Bool.or_eq_false_iff, decide_eq_false_iff_not] at this
    rcases h1 k q with z | z
    · exact absurd z this.1
    · exact absurd z this.2
  · exact q
  · have := hk.2.1 m q
    rw [h.nuB, h.luB, decide_eq_false h2.1, decide_eq_false h2.2] at this
    cases this
theorem hasU_bit (u : List UInt8) (k : Nat) (hk : k < 504) : hasU u ((k : Int) + 1) = bitU u k := hasU_nat u k hk
theorem byte_zero (x : UInt8) (h : ∀ i, i < 8 → x.toNat.testBit i = false) : x.toNat = 0 := by
  apply Nat.eq_of_testBit_eq
  intro i
  rw [Nat.zero_testBit]
  rcases Nat.lt_or_ge i 8 with q | q
  · exact h i q
  · apply Nat.testBit_lt_two_pow
    have := x.toNat_lt
    have : 2 ^ 8 ≤ 2 ^ i := Nat.pow_le_pow_right (by omega) q
    omega
theorem cnt_zero : ∀ (u : List UInt8), (∀ (i : Nat) (x : UInt8), u[i]? = some x → x.toNat = 0) → cntU u = 0
  | [], _ => rfl
  | x :: r, h => by
    have h0 := h 0 x rfl
    have ih := cnt_zero r (fun i y hy => h (i + 1) y hy)
    unfold cntU at ih ⊢
    rw [List.map_cons, List.sum_cons, ih, h0]
    decide +kernel
theorem cnt_none {u : List UInt8} (hu : u.length = 63) (h : ∀ k, bitU u k = false) : cntU u = 0 := cnt_zero u (fun i x hx => byte_zero x (fun m hm => by
  have := h (8 * i + m)
  unfold bitU at this
  rw [show (8 * i + m) / 8 = i by omega, show (8 * i + m) % 8 = m by omega, List.getD_eq_getElem?_getD, hx] at this
  exact this))
theorem fs_alloc {B : Nat} {w : World} {p pd : Nat} {v : Sv} (h : SH B w p pd v) {pg T j qn : Nat} (f : FS pg T 0 j 0 qn v) (hj : j < pg) (hpg : pg ≤ 100) (hq : qn ≤ 100000) (hB : B ≤ w.heap.size) : Calls Tryz.prog 18 #[.pointer (some ⟨p, 0, none⟩)] w fun e w' => e = .returned (.tuple #[.int .i64 ((j : Int) + 1), .int .i64 0]) ∧ (∃ v', SH B w' p pd v' ∧ FS pg T 0 (j + 1) 0 (qn + 8) v') ∧ Kept (fun i => B ≤ i) w w' := by
  have hq2 := f.q
  refine (sh_alloc h f.ge (by omega) hB).mono ?_
  rintro e w' ⟨k, h1, h2⟩
  obtain rfl := f.least h1 (m := j) (by omega) (fun i hi => .inl ⟨Nat.zero_le _, hi⟩) ⟨by omega, by omega⟩
  rcases h2 with ⟨z, _⟩ | ⟨z1, z2, z3, z4⟩
  · have := f.fp
    omega
  · refine ⟨z2, ⟨_, z3, f.ge.alloc h.nl z1, f.fp, f.ft, f.nn, fun i => ?_, f.luB, ?_⟩, z4⟩
    · show bitU (flipU v.nu k) i = _
      rw [bit_flip h.nl (by omega), f.nuB]
      by_cases c : k = i
      · subst c
        rw [decide_eq_false (by omega), decide_eq_true rfl, decide_eq_true (by omega)]
        rfl
      · rw [decide_eq_false c, Bool.xor_false]
        apply decide_eq_decide.2
        omega
    · have := wrP_Q v.d (v.fr + (k + 3) * 8) z256 8
      show (wrP v.d (v.fr + (k + 3) * 8) z256 8).Q.length ≤ qn + 8
      omega
theorem fs_full {B : Nat} {w : World} {p pd : Nat} {v : Sv} (h : SH B w p pd v) {pg T lo L qn : Nat} (f : FS pg T lo pg L qn v) (hl : (lo = 0 ∧ L = 0) ∨ L = pg) (hpg : pg ≤ 100) (hq : qn ≤ 100000) (hB : B ≤ w.heap.size) : Calls Tryz.prog 18 #[.pointer (some ⟨p, 0, none⟩)] w fun e w' => e = .returned (.tuple #[.int .i64 0, .int .i64 2]) ∧ w' = w := by
  have hq2 := f.q
  refine (sh_alloc h f.ge (by omega) hB).mono ?_
  rintro e w' ⟨k, h1, h2⟩
  obtain rfl := f.least h1 (m := pg) (by omega) (fun i hi => by omega) ⟨by omega, by omega⟩
  rcases h2 with ⟨_, z1, z2⟩ | ⟨z, _⟩
  · exact ⟨z1, z2⟩
  · have := f.fp
    omega
theorem fs_commit {B : Nat} {w : World} {p pd : Nat} {v : Sv} (h : SH B w p pd v) {pg T lo hi L qn : Nat} (f : FS pg T lo hi L qn v) (L' : Nat) (hl : ∀ k, (lo ≤ k ∧ k < hi) ↔ k < L') (hT : T ≤ 1000) (hq : qn ≤ 100000) (hB : B ≤ w.heap.size) : Calls Tryz.prog 22 #[.pointer (some ⟨p, 0, none⟩)] w fun e w' => e = .returned (.int .i64 0) ∧ (∃ v', SH B w' p pd v' ∧ FS pg (T + 1) lo hi L' 0 v') ∧ Kept (fun i => B ≤ i) w w' := by
  have hq2 := f.q
  refine (sh_commit h f.ge (by omega) hB).mono ?_
  rintro e w' z
  have hs : soundN v.nu v.nn = true := by rw [f.nn]; rfl
  have ht := f.ft
  rcases z with ⟨z, _⟩ | ⟨_, z, _⟩ | ⟨_, _, z2, dd, z3, z4, z5⟩
  · rw [hs] at z
    cases z
  · omega
  · obtain ⟨_, r1, r2, r3, _⟩ := f.ge.ok.lay z3
    have g1 := f.ge.disk dd r2 r1
    refine ⟨z2, ⟨_, z4, ⟨g1.fr4, g1.pg5, g1.ins, g1.in24, g1.ok, g1.nok, g1.nl, by show v.tn + 1 ≤ 1048575; omega, g1.lb⟩, f.fp, by show v.tn + 1 = T + 1; omega, f.nn, f.nuB, fun k => ?_, by show dd.Q.length ≤ 0; rw [r3]; exact Nat.le_refl _⟩, z5⟩
    show bitU v.nu k = decide (k < L')
    rw [f.nuB]
    exact decide_eq_decide.2 (hl k)
theorem fs_release {B : Nat} {w : World} {p pd : Nat} {v : Sv} (h : SH B w p pd v) {pg T lo L qn : Nat} (f : FS pg T lo pg L qn v) (hlo : lo < pg) (hpg : pg ≤ 100) : Calls Tryz.prog 23 #[.pointer (some ⟨p, 0, none⟩), .int .i64 ((lo : Int) + 1)] w fun e w' => e = .returned (.int .i64 0) ∧ (∃ v', SH B w' p pd v' ∧ FS pg T (lo + 1) pg L qn v') ∧ Kept (fun i => B ≤ i) w w' := by
  have hb : hasU v.nu ((lo : Int) + 1) = true := by rw [hasU_bit _ _ (by omega), f.nuB, decide_eq_true (by omega)]
  refine (sh_release h ((lo : Int) + 1)).mono ?_
  rintro e w' z
  rw [hb] at z
  rcases z with ⟨z, _⟩ | ⟨_, z2, z3, z4⟩
  · cases z
  · have e1 : ((lo : Int) + 1 - 1).toNat = lo := by omega
    rw [e1] at z3
    have nb : ∀ k, bitU (flipU v.nu lo) k = decide (lo + 1 ≤ k ∧ k < pg) := fun k => by
      rw [bit_flip h.nl (by omega), f.nuB]
      by_cases c : lo = k
      · subst c
        rw [decide_eq_true (show lo ≤ lo ∧ lo < pg by omega), decide_eq_true rfl, decide_eq_false (by omega)]
        rfl
      · rw [decide_eq_false c, Bool.xor_false]
        apply decide_eq_decide.2
        omega
    have g := f.ge
    exact ⟨z2, ⟨_, z3, ⟨g.fr4, g.pg5, g.ins, g.in24, g.ok, g.nok, g.nl, g.tn, fun k hk => by
      have hk2 : bitU (flipU v.nu lo) k = true := hk
      rw [nb] at hk2
      have := of_decide_eq_true hk2
      have := f.fp
      show k < v.pg
      omega⟩, f.fp, f.ft, f.nn, nb, f.luB, f.q⟩, z4⟩
theorem fs_again {B : Nat} {w : World} {p pd : Nat} {v : Sv} (h : SH B w p pd v) {pg T lo L qn : Nat} (f : FS pg T (lo + 1) pg L qn v) (hlo : lo < 500) : Calls Tryz.prog 23 #[.pointer (some ⟨p, 0, none⟩), .int .i64 ((lo : Int) + 1)] w fun e w' => e = .returned (.int .i64 130) ∧ w' = w := by
  have hb : hasU v.nu ((lo : Int) + 1) = false := by rw [hasU_bit _ _ (by omega), f.nuB, decide_eq_false (by omega)]
  refine (sh_release h ((lo : Int) + 1)).mono ?_
  rintro e w' z
  rw [hb] at z
  rcases z with ⟨_, z1, z2⟩ | ⟨z, _⟩
  · exact ⟨z1, z2⟩
  · cases z
theorem fs_used {B : Nat} {w : World} {p pd : Nat} {v : Sv} (h : SH B w p pd v) {pg T L qn : Nat} (f : FS pg T pg pg L qn v) : Calls Tryz.prog 15 #[.pointer (some ⟨p, 0, none⟩)] w fun e w' => e = .returned (.int .i64 0) ∧ w' = w := by
  have := sh_used h
  rw [cnt_none h.nl (fun k => by rw [f.nuB, decide_eq_false (by omega)])] at this
  exact this
theorem FS.again {pg T L qn : Nat} {v : Sv} (f : FS pg T pg pg 0 qn v) : FS pg T 0 0 0 qn v :=
  ⟨f.ge, f.fp, f.ft, f.nn, fun k => by rw [f.nuB]; apply decide_eq_decide.2; omega, f.luB, f.q⟩
set_option maxHeartbeats 4000000 in
theorem full_walk (n : Int) (hn : -9223372036854775808 ≤ n ∧ n ≤ 9223372036854775807) (w : World) : Calls Tryz.prog 6 #[.int .i64 n] w fun e w' => e = .returned (.bool true) ∧ Kept (fun _ => False) w w' := by
  have HAW : Hid (∀ V, Calls Tryz.prog 13 #[] V fun e w' => e = .returned (.bool true) ∧ Hid (Kept (fun _ => False) V w')) := fun V => awake_is V
  obtain ⟨ka, hka⟩ : ∃ k : Nat, bits .and .i64 n 255 = (k : Int) := ⟨(n % 256).toNat, by rw [and255]; omega⟩
  have hka2 : ka ≤ 255 := by have := and255 n; omega
  obtain ⟨km, hkm⟩ : ∃ k : Nat, ka % 97 = k := ⟨_, rfl⟩
  have hmod : ((ka : Int)).tmod 97 = (km : Int) := by rw [Int.tmod_eq_emod_of_nonneg (by omega)]; omega
  have hkm2 : km ≤ 96 := by omega
  obtain ⟨pg, hpg⟩ : ∃ pg, pg = min ((32 + km) / 8 - 3) 500 := ⟨_, rfl⟩
  have hpgb : 1 ≤ pg ∧ pg ≤ 13 := by omega
  obtain ⟨B, hB⟩ : ∃ B, w.heap.size = B := ⟨_, rfl⟩
  have HB : Hid (w.heap.size = B) := hB
  have HNW : Hid (Calls Tryz.prog 8 #[.int .i64 (32 + (km : Int))] w fun e w' => ∃ pd, e = .returned (.tuple #[.pointer (some ⟨pd, 0, none⟩), .int .i64 0]) ∧ Hid (DH B w' pd (fresh (32 + km)) ∧ Kept (fun i => B ≤ i) w w')) := by
    have := dh_new (32 + km) (by omega) (by omega) w
    rw [hB, Int.natCast_add] at this
    refine this.mono ?_
    rintro e w' ⟨pd, q1, q2, q3⟩
    exact ⟨pd, q1, q2, q3.mono (fun _ z => z.elim)⟩
  have HOP : Hid (∀ V pd, DH B V pd (fresh (32 + km)) → Kept (fun i => B ≤ i) w V → Calls Tryz.prog 9 #[.pointer (some ⟨pd, 0, none⟩), .int .i64 0, .int .i64 (32 + (km : Int))] V fun e w' => ∃ p, e = .returned (.tuple #[.pointer (some ⟨p, 0, none⟩), .int .i64 0]) ∧ Hid ((∃ v, SH B w' p pd v ∧ FS pg 0 0 0 0 0 v) ∧ Kept (fun i => B ≤ i) w w')) := fun V pd h kV => by
    have := sh_open h rfl (by rw [← HB.out]; exact kV.size) 0 (32 + km) pg (by omega) (by show 32 + km ≤ 32 + km; omega) hpg
    rw [Int.natCast_add] at this
    refine this.mono ?_
    rintro e w' ⟨p, t, u, ns, q1, q2, q3, q4, q5⟩
    obtain ⟨rfl, rfl, rfl⟩ := lat_fresh q3
    have g := Ge.new (d := fresh (32 + km)) (fr := 0) (pg := pg) (tt := 32 + km) (fresh_ok _) (by omega) (by show 32 + km ≤ 32 + km; omega) (by show 32 + km ≤ 4096; omega) hpg
    exact ⟨p, q1, ⟨_, q2, g, rfl, rfl, rfl, fun k => by show bitU u0 k = _; rw [bit_u0, decide_eq_false (by omega)], fun k => by show bitU u0 k = _; rw [bit_u0, decide_eq_false (by omega)], by show 0 ≤ 0; omega⟩, kV.trans q5 (fun _ z => z.elim)⟩
  have HPG : Hid (∀ V p pd T lo hi L qn, (∃ v, SH B V p pd v ∧ FS pg T lo hi L qn v) → Calls Tryz.prog 10 #[.pointer (some ⟨p, 0, none⟩)] V fun e w' => e = .returned (.int .i64 (pg : Int)) ∧ w' = V) := fun V p pd T lo hi L qn ⟨v, h, f⟩ => by
    have := sh_pages h
    rw [f.fp] at this
    exact this
  have HSZ : Hid (∀ V, Kept (fun i => B ≤ i) w V → B ≤ V.heap.size) := fun V k => by rw [← HB.out]; exact k.size
  have HAL : Hid (∀ V p pd T j, j < pg → (∃ v, SH B V p pd v ∧ FS pg T 0 j 0 (8 * j) v) ∧ Kept (fun i => B ≤ i) w V → Calls Tryz.prog 18 #[.pointer (some ⟨p, 0, none⟩)] V fun e w' => e = .returned (.tuple #[.int .i64 ((j : Int) + 1), .int .i64 0]) ∧ Hid ((∃ v, SH B w' p pd v ∧ FS pg T 0 (j + 1) 0 (8 * (j + 1)) v) ∧ Kept (fun i => B ≤ i) w w')) := fun V p pd T j hj ⟨⟨v, h, f⟩, k⟩ => by
    refine (fs_alloc h f hj (by omega) (by omega) (HSZ.out V k)).mono ?_
    rintro e w' ⟨q1, q2, q3⟩
    exact ⟨q1, q2, k.trans q3 (fun i z => .inl z)⟩
  have HFU : Hid (∀ V p pd T lo L qn, ((lo = 0 ∧ L = 0) ∨ L = pg) → qn ≤ 1000 → (∃ v, SH B V p pd v ∧ FS pg T lo pg L qn v) ∧ Kept (fun i => B ≤ i) w V → Calls Tryz.prog 18 #[.pointer (some ⟨p, 0, none⟩)] V fun e w' => e = .returned (.tuple #[.int .i64 0, .int .i64 2]) ∧ w' = V) := fun V p pd T lo L qn hl hq ⟨⟨v, h, f⟩, k⟩ => fs_full h f hl (by omega) (by omega) (HSZ.out V k)
  have HCO : Hid (∀ V p pd T lo L L' qn, (∀ k, (lo ≤ k ∧ k < pg) ↔ k < L') → T ≤ 1000 → qn ≤ 1000 → (∃ v, SH B V p pd v ∧ FS pg T lo pg L qn v) ∧ Kept (fun i => B ≤ i) w V → Calls Tryz.prog 22 #[.pointer (some ⟨p, 0, none⟩)] V fun e w' => e = .returned (.int .i64 0) ∧ Hid ((∃ v, SH B w' p pd v ∧ FS pg (T + 1) lo pg L' 0 v) ∧ Kept (fun i => B ≤ i) w w')) := fun V p pd T lo L L' qn hl hT hq ⟨⟨v, h, f⟩, k⟩ => by
    refine (fs_commit h f L' hl hT (by omega) (HSZ.out V k)).mono ?_
    rintro e w' ⟨q1, q2, q3⟩
    exact ⟨q1, q2, k.trans q3 (fun i z => .inl z)⟩
  have HRE : Hid (∀ V p pd T lo, lo < pg → (∃ v, SH B V p pd v ∧ FS pg T lo pg pg 0 v) ∧ Kept (fun i => B ≤ i) w V → Calls Tryz.prog 23 #[.pointer (some ⟨p, 0, none⟩), .int .i64 ((lo : Int) + 1)] V fun e w' => e = .returned (.int .i64 0) ∧ Hid ((∃ v, SH B w' p pd v ∧ FS pg T (lo + 1) pg pg 0 v) ∧ Kept (fun i => B ≤ i) w w')) := fun V p pd T lo hlo ⟨⟨v, h, f⟩, k⟩ => by
    refine (fs_release h f hlo (by omega)).mono ?_
    rintro e w' ⟨q1, q2, q3⟩
    exact ⟨q1, q2, k.trans q3 (fun i z => .inl z)⟩
  have HRA : Hid (∀ V p pd T lo, lo < pg → (∃ v, SH B V p pd v ∧ FS pg T (lo + 1) pg pg 0 v) ∧ Kept (fun i => B ≤ i) w V → Calls Tryz.prog 23 #[.pointer (some ⟨p, 0, none⟩), .int .i64 ((lo : Int) + 1)] V fun e w' => e = .returned (.int .i64 130) ∧ w' = V) := fun V p pd T lo hlo ⟨⟨v, h, f⟩, k⟩ => fs_again h f (by omega)
  have HUS : Hid (∀ V p pd T L qn, (∃ v, SH B V p pd v ∧ FS pg T pg pg L qn v) → (Calls Tryz.prog 15 #[.pointer (some ⟨p, 0, none⟩)] V fun e w' => e = .returned (.int .i64 0) ∧ w' = V) ∧ (Calls Tryz.prog 16 #[.pointer (some ⟨p, 0, none⟩)] V fun e w' => e = .returned (.int .i64 (T : Int)) ∧ w' = V)) := fun V p pd T L qn ⟨v, h, f⟩ => by
    have := sh_turn h
    rw [f.ft] at this
    exact ⟨fs_used h f, this⟩
  have HPB : Hid (1 ≤ pg ∧ pg ≤ 13) := hpgb
  have cpg : (pg : Int) ≤ 13 := by omega
  have ckm : (km : Int) ≤ 96 := by omega
  have cka : (ka : Int) ≤ 255 := by omega
  clear hn hka2 hkm hkm2 hpg hpgb hB
  go_enter Tryz.func6, Tryz.ntmps6
  go_wp2_with fail
  refine Calls.mono HNW.out ?_; rintro e w1 ⟨pd, rfl, H1⟩
  go_wp2_with fail
  refine Calls.mono (HOP.out w1 pd H1.out.1 H1.out.2) ?_; rintro e w2 ⟨p, rfl, H2⟩
  clear H1 HNW HOP
  go_wp2_with fail
  go_loopw [8] (fun v8 wr => ∃ t : Nat, t ≤ 3 ∧ v8 = .int .i64 ((t : Int) + 1) ∧ Hid ((∃ v, SH B wr p pd v ∧ FS pg (2 * t) 0 0 0 0 v) ∧ Kept (fun i => B ≤ i) w wr)) (fun v8 _ => 5 - (intOf v8).toNat)
  case atStart => exact ⟨0, by omega, rfl, H2.out⟩
  case round =>
    obtain ⟨t, ht, rfl, HT⟩ := hrel
    by_cases ht3 : t < 3
    · have ct : (t : Int) + 1 ≤ 3 := by omega
      have H3 : Hid ((∃ v, SH B wr p pd v ∧ FS pg (2 * t) 0 0 0 0 v) ∧ Kept (fun i => B ≤ i) w wr) := HT
      clear HT H2
      go_wp2_with fail
      go_loopw [9] (fun v9 wr => ∃ j : Nat, j ≤ pg ∧ v9 = .int .i64 ((j : Int) + 1) ∧ Hid ((∃ v, SH B wr p pd v ∧ FS pg (2 * t) 0 j 0 (8 * j) v) ∧ Kept (fun i => B ≤ i) w wr)) (fun v9 _ => pg + 2 - (intOf v9).toNat)
      case atStart => exact ⟨0, Nat.zero_le _, rfl, H3.out⟩
      case round =>
        obtain ⟨j, hj, rfl, HJ⟩ := hrel
        clear H3
        have HP : Hid _ := HPG.out wr p pd _ _ _ _ _ HJ.out.1
        by_cases hjp : j < pg
        · have cj : (j : Int) + 1 ≤ (pg : Int) := by omega
          go_wp2_with fail
          refine Calls.mono HP.out ?_; rintro e w4 ⟨rfl, rfl⟩
          go_wp2_with fail
          refine Calls.mono (HAL.out w4 p pd _ j hjp HJ.out) ?_; rintro e w5 ⟨rfl, H5⟩
          go_wp2_with fail
          go_roundw
          case rel => exact ⟨j + 1, hjp, by rw [Int.natCast_add]; rfl, H5.out⟩
          case measure => simp only [intOf]; omega
        · obtain rfl : j = pg := by omega
          have cj : ¬ (j : Int) + 1 ≤ (j : Int) := by omega
          have HF : Hid _ := HFU.out wr p pd _ 0 0 _ (.inl ⟨rfl, rfl⟩) (by have := HPB.out.2; omega) HJ.out
          have HC : Hid _ := HCO.out wr p pd _ 0 0 j _ (fun k => by omega) (by omega) (by have := HPB.out.2; omega) HJ.out
          clear HJ
          go_wp2_with fail
          refine Calls.mono HP.out ?_; rintro e w4 ⟨rfl, rfl⟩
          go_wp2_with fail
          refine Calls.mono HF.out ?_; rintro e w5 ⟨rfl, rfl⟩
          go_wp2_with fail
          refine Calls.mono HC.out ?_; rintro e w6 ⟨rfl, H6⟩
          clear HF HC HP
          go_wp2_with fail
          go_loopw [14] (fun v14 wr => ∃ i : Nat, i ≤ j ∧ v14 = .int .i64 ((i : Int) + 1) ∧ Hid ((∃ v, SH B wr p pd v ∧ FS j (2 * t + 1) i j j 0 v) ∧ Kept (fun i => B ≤ i) w wr)) (fun v14 _ => j + 2 - (intOf v14).toNat)
          case atStart => exact ⟨0, Nat.zero_le _, rfl, H6.out⟩
          case round =>
            obtain ⟨i, hi, rfl, HI⟩ := hrel
            clear H6
            have HP : Hid _ := HPG.out wr p pd _ _ _ _ _ HI.out.1
            by_cases hij : i < j
            · have ci : (i : Int) + 1 ≤ (j : Int) := by omega
              go_wp2_with fail
              refine Calls.mono HP.out ?_; rintro e w4 ⟨rfl, rfl⟩
              go_wp2_with fail
              refine Calls.mono (HRE.out w4 p pd _ i hij HI.out) ?_; rintro e w5 ⟨rfl, H5⟩
              have HR5 : Hid _ := HRA.out w5 p pd _ i hij H5.out
              go_wp2_with fail
              refine Calls.mono HR5.out ?_; rintro e w6 ⟨rfl, rfl⟩
              go_wp2_with fail
              go_roundw
              case rel => exact ⟨i + 1, hij, by rw [Int.natCast_add]; rfl, H5.out⟩
              case measure => simp only [intOf]; omega
            · obtain rfl : i = j := by omega
              have ci : ¬ (i : Int) + 1 ≤ (i : Int) := by omega
              have HF : Hid _ := HFU.out wr p pd _ i i 0 (.inr rfl) (by omega) HI.out
              have HC : Hid _ := HCO.out wr p pd _ i i 0 0 (fun k => by omega) (by omega) (by omega) HI.out
              clear HI
              go_wp2_with fail
              refine Calls.mono HP.out ?_; rintro e w4 ⟨rfl, rfl⟩
              go_wp2_with fail
              refine Calls.mono HF.out ?_; rintro e w5 ⟨rfl, rfl⟩
              go_wp2_with fail
              refine Calls.mono HC.out ?_; rintro e w6 ⟨rfl, H6⟩
              obtain ⟨u1, u2⟩ := HUS.out w6 p pd _ _ _ H6.out.1
              have HU1 : Hid _ := u1
              have HU2 : Hid (Calls Tryz.prog 16 #[.pointer (some ⟨p, 0, none⟩)] w6 fun e w' => e = .returned (.int .i64 (2 * ((t : Int) + 1))) ∧ w' = w6) := by
                rw [show ((2 * t + 1 + 1 : Nat) : Int) = 2 * ((t : Int) + 1) by omega] at u2
                exact u2
              clear u1 u2 HF HC HP
              go_wp2_with fail
              refine Calls.mono HU1.out ?_; rintro e w7 ⟨rfl, rfl⟩
              go_wp2_with fail
              refine Calls.mono HU2.out ?_; rintro e w8 ⟨rfl, rfl⟩
              go_wp2_with fail
              go_roundw
              case rel =>
                obtain ⟨⟨v, h, f⟩, k⟩ := H6.out
                exact ⟨t + 1, by omega, by rw [Int.natCast_add]; rfl, ⟨v, h, f.again (L := 0)⟩, k⟩
              case measure => simp only [intOf]; omega
    · obtain rfl : t = 3 := by omega
      have HAW1 : Hid _ := HAW.out wr
      clear H2
      go_wp2_with fail
      refine Calls.mono HAW1.out ?_; rintro e w4 ⟨rfl, HM⟩
      go_wp2_with fail
      go_ret
      refine ⟨rfl, ?_⟩
      have kk := HT.out.2.trans HM.out (fun _ z => z.elim)
      exact ⟨kk.os, kk.tape, kk.output, kk.size, fun i hi _ => kk.block i hi (by have := HB.out; omega)⟩
end Go.Proofs.YtkhpmmmildcceaaGreat
