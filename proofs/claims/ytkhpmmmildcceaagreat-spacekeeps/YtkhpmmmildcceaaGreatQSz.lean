/- Which spaces there are. -/
import Derived.Test.YtkhpmmmildcceaaGreatQSrt
namespace Go.Proofs.YtkhpmmmildcceaaGreat
open Go.ChangeShapes Go.WideShapes Go.ChangeAt Go.RowKit
set_option linter.unusedVariables false
set_option maxRecDepth 100000

theorem and63 (n : Int) : bits .and .i64 n 63 = n % 64 := by
  have h : (BitVec.ofInt 64 63).toNat = 2 ^ 6 - 1 := by decide
  have key : (BitVec.ofInt 64 n &&& BitVec.ofInt 64 63).toNat = (n % ((2 ^ 64 : Nat) : Int)).toNat % 2 ^ 6 := by
    rw [BitVec.toNat_and, BitVec.toNat_ofInt, h, Nat.and_two_pow_sub_one_eq_mod]
  show IntKind.i64.wrap ((BitVec.ofInt 64 n &&& BitVec.ofInt 64 63).toNat : Nat) = n % 64
  rw [key, IntKind.wrap_i64]
  omega
theorem rpages_is (x pg : Nat) (h1 : 32 ≤ x) (h2 : x ≤ 5000) (hpg : pg = min (x / 8 - 3) 500) (w : World) : Calls Tryz.prog 11 #[.int .i64 (x : Int)] w fun e w' => e = .returned (.int .i64 (pg : Int)) ∧ w' = w := by
  obtain ⟨q, hq⟩ : ∃ q, x / 8 = q := ⟨_, rfl⟩
  have hq1 : 4 ≤ q := by omega
  have c6 : (q : Int) ≤ 700 := by omega
  have c5 : (4 : Int) ≤ (q : Int) := by omega
  have hd : (x : Int).tdiv 8 = (q : Int) := by rw [Int.tdiv_eq_ediv_of_nonneg (by omega)]; omega
  have hmin : ∀ V : World, (Builtin.min_ #[3, 3] 3 #[.int .i64 ((q : Int) - 3), .int .i64 500]).run Tryz.prog V = .ok (.int .i64 (pg : Int)) V := fun V => by
    have := min_len (q - 3) 500 V
    rw [show ((q - 3 : Nat) : Int) = (q : Int) - 3 by omega] at this
    rw [hpg, hq]
    exact this
  clear h1 h2 hpg hq hq1
  go_enter Tryz.func11, Tryz.ntmps11
  go_wp2_with fail
  go_ret
  exact ⟨rfl, rfl⟩
set_option maxHeartbeats 4000000 in
theorem sizes_walk (n fr tt : Int) (hn : -9223372036854775808 ≤ n ∧ n ≤ 9223372036854775807) (hf : -9223372036854775808 ≤ fr ∧ fr ≤ 9223372036854775807) (ht : -9223372036854775808 ≤ tt ∧ tt ≤ 9223372036854775807) (w : World) : Calls Tryz.prog 4 #[.int .i64 n, .int .i64 fr, .int .i64 tt] w fun e w' => e = .returned (.bool true) ∧ Kept (fun _ => False) w w' := by
  have HAW : Hid (∀ V, Calls Tryz.prog 13 #[] V fun e w' => e = .returned (.bool true) ∧ Hid (Kept (fun _ => False) V w')) := fun V => awake_is V
  obtain ⟨kn, hkn⟩ : ∃ k : Nat, bits .and .i64 n 63 = (k : Int) := ⟨(n % 64).toNat, by rw [and63]; omega⟩
  have hk : kn ≤ 63 := by have := and63 n; omega
  obtain ⟨B, hB⟩ : ∃ B, w.heap.size = B := ⟨_, rfl⟩
  have HB : Hid (w.heap.size = B) := hB
  have HNW : Hid (Calls Tryz.prog 8 #[.int .i64 (1 + (kn : Int))] w fun e w' => ∃ pd, e = .returned (.tuple #[.pointer (some ⟨pd, 0, none⟩), .int .i64 0]) ∧ Hid (DH B w' pd (fresh (1 + kn)) ∧ Kept (fun _ => False) w w')) := by
    have := dh_new (1 + kn) (by omega) (by omega) w
    rw [hB, Int.natCast_add] at this
    refine this.mono ?_
    rintro e w' ⟨pd, q1, q2, q3⟩
    exact ⟨pd, q1, q2, q3⟩
  have hkc : (kn : Int) ≤ 63 := by omega
  by_cases hv : 0 ≤ fr ∧ tt ≤ 1 + (kn : Int) ∧ fr ≤ tt ∧ 32 ≤ tt - fr
  · obtain ⟨f, rfl⟩ : ∃ f : Nat, fr = (f : Int) := ⟨fr.toNat, by omega⟩
    obtain ⟨t, rfl⟩ : ∃ t : Nat, tt = (t : Int) := ⟨tt.toNat, by omega⟩
    obtain ⟨x, hx⟩ : ∃ x : Nat, (t : Int) - (f : Int) = (x : Int) := ⟨t - f, by omega⟩
    obtain ⟨pg, hpg⟩ : ∃ pg, pg = min ((t - f) / 8 - 3) 500 := ⟨_, rfl⟩
    have hxe : x = t - f := by omega
    have c1 : ¬ (f : Int) < 0 := by omega
    have c2 : ¬ 1 + (kn : Int) < (t : Int) := by omega
    have c3 : ¬ (t : Int) < (f : Int) := by omega
    have c4 : ¬ (x : Int) < 32 := by omega
    have c5 : (t : Int) ≤ 64 := by omega
    have HOP : Hid (∀ V pd, DH B V pd (fresh (1 + kn)) → Kept (fun _ => False) w V → Calls Tryz.prog 9 #[.pointer (some ⟨pd, 0, none⟩), .int .i64 (f : Int), .int .i64 (t : Int)] V fun e w' => ∃ p, e = .returned (.tuple #[.pointer (some ⟨p, 0, none⟩), .int .i64 0]) ∧ Hid (SH B w' p pd (newV (fresh (1 + kn)) f pg) ∧ Kept (fun _ => False) w w')) := fun V pd h kV => by
      refine (sh_open h rfl (by rw [← HB.out]; exact kV.size) f t pg (by omega) (by show t ≤ 1 + kn; omega) hpg).mono ?_
      rintro e w' ⟨p, t', u, ns, q1, q2, q3, q4, q5⟩
      obtain ⟨rfl, rfl, rfl⟩ := lat_fresh q3
      exact ⟨p, q1, q2, kV.trans q5 (fun _ z => z.elim)⟩
    have HRP : Hid (∀ V, Calls Tryz.prog 11 #[.int .i64 (x : Int)] V fun e w' => e = .returned (.int .i64 (pg : Int)) ∧ w' = V) := fun V => rpages_is x pg (by omega) (by omega) (by rw [hpg, hxe]) V
    have HPG : Hid (∀ V p pd, SH B V p pd (newV (fresh (1 + kn)) f pg) → (Calls Tryz.prog 10 #[.pointer (some ⟨p, 0, none⟩)] V fun e w' => e = .returned (.int .i64 (pg : Int)) ∧ w' = V) ∧ (Calls Tryz.prog 15 #[.pointer (some ⟨p, 0, none⟩)] V fun e w' => e = .returned (.int .i64 0) ∧ w' = V) ∧ (Calls Tryz.prog 16 #[.pointer (some ⟨p, 0, none⟩)] V fun e w' => e = .returned (.int .i64 0) ∧ w' = V) ∧ (Calls Tryz.prog 17 #[.pointer (some ⟨p, 0, none⟩)] V fun e w' => e = .returned (.slice none 0 0) ∧ Hid (Kept (fun _ => False) V w'))) := fun V p pd h => by
      have a2 := sh_used h
      have z : cntU u0 = 0 := by decide +kernel
      have a3 : cntU (newV (fresh (1 + kn)) f pg).nu = 0 := z
      rw [a3] at a2
      exact ⟨sh_pages h, a2, sh_turn h, names_none h rfl⟩
    clear hn hf ht hk hv hB hpg hxe
    go_enter Tryz.func4, Tryz.ntmps4
    go_wp2_with fail
    refine Calls.mono HNW.out ?_; rintro e w1 ⟨pd, rfl, H1⟩
    go_wp2_with fail
    refine Calls.mono (HOP.out w1 pd H1.out.1 H1.out.2) ?_; rintro e w2 ⟨p, rfl, H2⟩
    obtain ⟨a1, a2, a3, a4⟩ := HPG.out w2 p pd H2.out.1
    have HA1 : Hid _ := a1
    have HA2 : Hid _ := a2
    have HA3 : Hid _ := a3
    have HA4 : Hid _ := a4
    clear a1 a2 a3 a4
    go_wp2_with fail
    refine Calls.mono HA1.out ?_; rintro e w3 ⟨rfl, rfl⟩
    go_wp2_with fail
    refine Calls.mono (HRP.out _) ?_; rintro e w4 ⟨rfl, rfl⟩
    go_wp2_with fail
    refine Calls.mono HA2.out ?_; rintro e w5 ⟨rfl, rfl⟩
    go_wp2_with fail
    refine Calls.mono HA3.out ?_; rintro e w6 ⟨rfl, rfl⟩
    go_wp2_with fail
    refine Calls.mono HA4.out ?_; rintro e w7 ⟨rfl, HM7⟩
    go_wp2_with fail
    refine Calls.mono (HAW.out _) ?_; rintro e w8 ⟨rfl, HM8⟩
    go_wp2_with fail
    go_ret
    exact ⟨rfl, (H2.out.2.trans HM7.out (fun _ z => z.elim)).trans HM8.out (fun _ z => z.elim)⟩
  · have HON : Hid (∀ V pd, DH B V pd (fresh (1 + kn)) → Calls Tryz.prog 9 #[.pointer (some ⟨pd, 0, none⟩), .int .i64 fr, .int .i64 tt] V fun e w' => e = .returned (.tuple #[.pointer none, .int .i64 1]) ∧ w' = V) := fun V pd ⟨F, hd, _⟩ => open_none hd.szd (by show 1 + kn ≤ 4096; omega) fr tt (fun z => hv ⟨z.1, by have : tt ≤ ((1 + kn : Nat) : Int) := z.2.2.2.1; omega, by omega, z.2.2.2.2⟩)
    by_cases c1 : fr < 0
    · clear hn hf ht hk hv hB
      go_enter Tryz.func4, Tryz.ntmps4
      go_wp2_with fail
      refine Calls.mono HNW.out ?_; rintro e w1 ⟨pd, rfl, H1⟩
      go_wp2_with fail
      refine Calls.mono (HON.out w1 pd H1.out.1) ?_; rintro e w2 ⟨rfl, rfl⟩
      go_wp2_with fail
      refine Calls.mono (HAW.out _) ?_; rintro e w3 ⟨rfl, HM⟩
      go_wp2_with fail
      go_ret
      exact ⟨rfl, H1.out.2.trans HM.out (fun _ z => z.elim)⟩
    · by_cases c2 : 1 + (kn : Int) < tt
      · clear hn hf ht hk hv hB
        go_enter Tryz.func4, Tryz.ntmps4
        go_wp2_with fail
        refine Calls.mono HNW.out ?_; rintro e w1 ⟨pd, rfl, H1⟩
        go_wp2_with fail
        refine Calls.mono (HON.out w1 pd H1.out.1) ?_; rintro e w2 ⟨rfl, rfl⟩
        go_wp2_with fail
        refine Calls.mono (HAW.out _) ?_; rintro e w3 ⟨rfl, HM⟩
        go_wp2_with fail
        go_ret
        exact ⟨rfl, H1.out.2.trans HM.out (fun _ z => z.elim)⟩
      · by_cases c3 : tt < fr
        · clear hn hf ht hk hv hB
          go_enter Tryz.func4, Tryz.ntmps4
          go_wp2_with fail
          refine Calls.mono HNW.out ?_; rintro e w1 ⟨pd, rfl, H1⟩
          go_wp2_with fail
          refine Calls.mono (HON.out w1 pd H1.out.1) ?_; rintro e w2 ⟨rfl, rfl⟩
          go_wp2_with fail
          refine Calls.mono (HAW.out _) ?_; rintro e w3 ⟨rfl, HM⟩
          go_wp2_with fail
          go_ret
          exact ⟨rfl, H1.out.2.trans HM.out (fun _ z => z.elim)⟩
        · obtain ⟨x, hx⟩ : ∃ x, tt - fr = x := ⟨_, rfl⟩
          have c4 : x < 32 := by omega
          have hr1 : (0 : Int) ≤ fr := by omega
          have hr2 : fr ≤ 64 := by omega
          have hr3 : (0 : Int) ≤ tt := by omega
          have hr4 : tt ≤ 64 := by omega
          clear hn hf ht hk hv hB
          go_enter Tryz.func4, Tryz.ntmps4
          go_wp2_with fail
          refine Calls.mono HNW.out ?_; rintro e w1 ⟨pd, rfl, H1⟩
          go_wp2_with fail
          refine Calls.mono (HON.out w1 pd H1.out.1) ?_; rintro e w2 ⟨rfl, rfl⟩
          go_wp2_with fail
          refine Calls.mono (HAW.out _) ?_; rintro e w3 ⟨rfl, HM⟩
          go_wp2_with fail
          go_ret
          exact ⟨rfl, H1.out.2.trans HM.out (fun _ z => z.elim)⟩
end Go.Proofs.YtkhpmmmildcceaaGreat
