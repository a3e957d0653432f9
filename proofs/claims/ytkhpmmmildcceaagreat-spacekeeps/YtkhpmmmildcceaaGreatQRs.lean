/- Read: what is sound. -/
import Derived.Test.YtkhpmmmildcceaaGreatQPr
namespace Go.Proofs.YtkhpmmmildcceaaGreat
open Go.ChangeShapes Go.WideShapes Go.ChangeAt Go.RowKit
set_option linter.unusedVariables false
set_option maxRecDepth 100000
set_option maxRecDepth 100000

set_option maxHeartbeats 1000000 in
theorem noughts_yes {w : World} {p : Nat} {B : List UInt8} (h : Pg w p B) (lo hi L o c : Nat) (h1 : lo + L = hi) (h2 : hi ≤ 256) (ho : offB lo = o) (hz : ∀ i, lo ≤ i → i < hi → byteAt B i = 0) : Calls Tryz.prog 151 #[.slice (some ⟨p, o, none⟩) L c] w fun e w' => e = .returned (.bool true) ∧ ∃ m, w' = w.drewN m := by
  have HC : Hid (∀ i, i < L → w.cell? ⟨p, o + i, none⟩ = some (.int .u8 0)) := fun i hi => by
    have e : o = lo := by rw [← ho]; exact offB_lt (by omega)
    rw [e, h.cell (lo + i) (by omega), hz (lo + i) (by omega) (by omega)]
    rfl
  have hL : L ≤ 256 := by omega
  clear h h1 h2 ho hz
  go_enter Tryz.func151, Tryz.ntmps151
  go_wp2_with fail
  go_loopw [7] (fun v7 wr => ∃ i : Nat, i ≤ L ∧ v7 = .int .i64 i ∧ wr = w) (fun v7 _ => L - (intOf v7).toNat)
  case atStart => exact ⟨0, Nat.zero_le _, rfl, rfl⟩
  case round =>
    obtain ⟨i, hi, rfl, rfl⟩ := hrel
    by_cases hlt : i < L
    · have c1 : (i : Int) < (L : Int) := by omega
      have cc := HC.out i hlt
      have hib : (i : Int) + 1 ≤ 1000 := by omega
      go_wp2_with fail
      go_roundw
      case rel => exact ⟨i + 1, hlt, by rw [Int.natCast_add]; rfl, trivial⟩
      case measure => simp only [intOf]; omega
    · have c1 : ¬ (i : Int) < (L : Int) := by omega
      go_wp2_with fail
      go_ret
      exact ⟨rfl, 0, rfl⟩
theorem nz1 {n T i : Nat} (h : 8 + 2 * n + T ≤ 256) (hi : i < n) : 9 + 2 * i < 256 ∧ 8 + 2 * i < 256 ∧ 6 + 2 * i < 256 := by omega
set_option maxHeartbeats 2000000 in
theorem soundCell_yes {w : World} {p : Nat} {kd : UInt8} {cs : List Cel} (h : Pg w p (lay kd cs)) (hok : okC cs) (hr : ris cs) (k : Nat) (hk : k < cs.length) : Calls Tryz.prog 149 #[.pointer (some ⟨p, 0, none⟩), .int .i64 (k : Int)] w fun e w' => e = .returned (.bool true) ∧ ∃ m, w' = w.drewN m := by
  obtain ⟨a, b, ecs, ha⟩ := cell_split hk
  have hpl := place_at kd a cs[k] b (by rw [← ecs]; exact hok)
  have hel := lay_end kd a (cs[k] :: b) (by rw [← ecs]; exact hok)
  rw [← ecs, ha] at hpl hel
  have nn := nz1 hok.2 hk
  have hc1 := hok.1 cs[k] (List.getElem_mem hk)
  have h2 := hok.2
  have ht : tot cs = tot a + (csz cs[k] + tot b) := by
    have := tot_append a (cs[k] :: b)
    rw [← ecs] at this
    exact this
  obtain ⟨cz, hcz⟩ : ∃ cz, csz cs[k] = cz := ⟨_, rfl⟩
  obtain ⟨kl, hkl⟩ : ∃ kl, cs[k].1.length = kl := ⟨_, rfl⟩
  obtain ⟨ek, hek⟩ : ∃ ek, 256 - tot a = ek := ⟨_, rfl⟩
  obtain ⟨bk, hbk⟩ : ∃ bk, 256 - tot a - csz cs[k] = bk := ⟨_, rfl⟩
  have hkz : kl ≤ cz := by rw [← hcz, ← hkl]; unfold csz; omega
  rw [hek] at hel
  rw [hbk, hkl] at hpl
  rw [hkl, hcz] at hc1
  rw [hcz] at hbk ht
  have s1 : wrap64 ((ek : Int) - (bk : Int)) = (cz : Int) := sub64c ek bk cz (by omega) (by omega)
  have H42 : Hid (∀ n, Calls Tryz.prog 145 #[.pointer (some ⟨p, 0, none⟩), .int .i64 (k : Int)] (w.drewN n) fun e w' => e = .returned (.int .i64 (kl : Int)) ∧ ∃ m, w' = (w.drewN n).drewN m) := fun n => by have := keySize_is (h.dr n) k nn.1; rw [hpl.2] at this; exact this
  have H43 : Hid (∀ n, Calls Tryz.prog 115 #[.pointer (some ⟨p, 0, none⟩), .int .i64 (k : Int)] (w.drewN n) fun e w' => e = .returned (.int .i64 (ek : Int)) ∧ ∃ m, w' = (w.drewN n).drewN m) := fun n => by have := end_is (h.dr n) k nn.2.2; rw [hel] at this; exact this
  have H41 : Hid (∀ n, Calls Tryz.prog 116 #[.pointer (some ⟨p, 0, none⟩), .int .i64 (k : Int)] (w.drewN n) fun e w' => e = .returned (.int .i64 (bk : Int)) ∧ ∃ m, w' = (w.drewN n).drewN m) := fun n => by have := begin_is (h.dr n) k nn.2.1; rw [hpl.1] at this; exact this
  have H49 : Hid (∀ n, Calls Tryz.prog 112 #[.int .i64 (kl : Int), .int .i64 (cz : Int)] (w.drewN n) fun e w' => e = .returned (.bool true) ∧ ∃ m, w' = (w.drewN n).drewN m) := fun n => by have := mayCell_is kl cz (by omega) (by omega) (w.drewN n); rw [decide_eq_true ⟨hc1.1, hc1.2.1, hkz, hc1.2.2⟩] at this; exact this
  obtain ⟨ky1, ky2, ky3⟩ := lay_key kd hok hk
  have HK : Hid (∀ n, Calls Tryz.prog 140 #[.pointer (some ⟨p, 0, none⟩), .int .i64 (k : Int)] (w.drewN n) fun e w' => e = .returned (.string ⟨cs[k].1.toArray⟩) ∧ ∃ m, w' = (w.drewN n).drewN m) := fun n => by have := key_is (h.dr n) k ky3 ky2; rw [ky1] at this; exact this
  cases k with
  | zero =>
    clear h hok hr ecs ha hpl hel nn hc1 h2 ht hcz hkl hek hbk hkz ky1 ky2 ky3 HK
    rw [drewN0 w]
    go_enter Tryz.func149, Tryz.ntmps149
    go_wp2_with fail
    refine Calls.mono (H42.out _) ?_; rintro e w1 ⟨rfl, m1, rfl⟩
    go_wp2_with fail
    refine Calls.mono (H43.out _) ?_; rintro e w1 ⟨rfl, m2, rfl⟩
    go_wp2_with fail
    refine Calls.mono (H41.out _) ?_; rintro e w1 ⟨rfl, m3, rfl⟩
    go_wp2_with fail
    refine Calls.mono (H49.out _) ?_; rintro e w1 ⟨rfl, m4, rfl⟩
    go_wp2_with fail
    go_ret
    exact ⟨rfl, _, rfl⟩
  | succ j =>
    have hj : j < cs.length := by omega
    obtain ⟨kj1, kj2, kj3⟩ := lay_key kd hok hj
    have hless := hr j (j + 1) hj hk (Nat.lt_succ_self j)
    have HJ : Hid (∀ n, Calls Tryz.prog 140 #[.pointer (some ⟨p, 0, none⟩), .int .i64 (j : Int)] (w.drewN n) fun e w' => e = .returned (.string ⟨cs[j].1.toArray⟩) ∧ ∃ m, w' = (w.drewN n).drewN m) := fun n => by have := key_is (h.dr n) j kj3 kj2; rw [kj1] at this; exact this
    obtain ⟨S1, hS1⟩ : ∃ S, (⟨cs[j].1.toArray⟩ : ByteArray) = S := ⟨_, rfl⟩
    obtain ⟨S2, hS2⟩ : ∃ S, (⟨cs[j + 1].1.toArray⟩ : ByteArray) = S := ⟨_, rfl⟩
    have hl2 : Op.bytesLess S1.toList S2.toList = true := by rw [ByteArray.toList_eq, ByteArray.toList_eq, ← hS1, ← hS2]; exact hless
    rw [hS1] at HJ
    rw [hS2] at HK
    obtain ⟨y, hy⟩ : ∃ y, j + 1 = y := ⟨_, rfl⟩
    rw [hy] at H42 H43 H41 HK ⊢
    have c1 : ¬ (y : Int) = 0 := by omega
    have s2 : wrap64 ((y : Int) - 1) = (j : Int) := sub64c y 1 j hy (by omega)
    clear h hok hr ecs ha hpl hel nn hc1 h2 ht hcz hkl hek hbk hkz ky1 ky2 ky3 hj kj1 kj2 kj3 hless hS1 hS2 hy hk
    rw [drewN0 w]
    go_enter Tryz.func149, Tryz.ntmps149
    go_wp2_with fail
    refine Calls.mono (H42.out _) ?_; rintro e w1 ⟨rfl, m1, rfl⟩
    go_wp2_with fail
    refine Calls.mono (H43.out _) ?_; rintro e w1 ⟨rfl, m2, rfl⟩
    go_wp2_with fail
    refine Calls.mono (H41.out _) ?_; rintro e w1 ⟨rfl, m3, rfl⟩
    go_wp2_with fail
    refine Calls.mono (H49.out _) ?_; rintro e w1 ⟨rfl, m4, rfl⟩
    go_wp2_with fail
    refine Calls.mono (HJ.out _) ?_; rintro e w1 ⟨rfl, m5, rfl⟩
    go_wp2_with fail
    refine Calls.mono (HK.out _) ?_; rintro e w1 ⟨rfl, m6, rfl⟩
    go_wp2_with fail
    go_ret
    exact ⟨rfl, _, rfl⟩

theorem lay_used (kd : UInt8) (cs : List Cel) (h : okC cs) : byteAt (lay kd cs) 2 + byteAt (lay kd cs) 3 * 256 = tot cs := by
  show (UInt8.ofNat (tot cs % 256)).toNat + (UInt8.ofNat (tot cs / 256)).toNat * 256 = _
  have := h.2
  rw [ofNat_val _ (by omega), ofNat_val _ (by omega)]
  omega
theorem lay_zero (kd : UInt8) (cs : List Cel) (h : okC cs) (i : Nat) (h1 : 8 + 2 * cs.length ≤ i) (h2 : i < 256 - tot cs) : byteAt (lay kd cs) i = 0 := by
  unfold lay
  rw [← List.append_assoc, byteAt_app _ _ i (i - (8 + 2 * cs.length)) (by rw [List.length_append, pl_len, hd_len]; omega), byteAt_left _ _ _ (by rw [List.length_replicate]; omega)]
  unfold byteAt zs
  rw [List.getElem?_replicate]
  split <;> rfl
set_option maxHeartbeats 2000000 in
theorem sound_yes {w : World} {p : Nat} {kd : UInt8} {cs : List Cel} (h : Pg w p (lay kd cs)) (hok : okC cs) (hr : ris cs) : Calls Tryz.prog 144 #[.pointer (some ⟨p, 0, none⟩)] w fun e w' => e = .returned (.bool true) ∧ ∃ m, w' = w.drewN m := by
  have h2 := hok.2
  have hcnt := lay_count kd cs hok
  have hend := endAll kd cs hok
  have hus := lay_used kd cs hok
  obtain ⟨n, hn⟩ : ∃ n, cs.length = n := ⟨_, rfl⟩
  obtain ⟨en, hen⟩ : ∃ en, 256 - tot cs = en := ⟨_, rfl⟩
  obtain ⟨us, hus2⟩ : ∃ us, tot cs = us := ⟨_, rfl⟩
  obtain ⟨pn, hpn⟩ : ∃ pn, 8 + 2 * n = pn := ⟨_, rfl⟩
  obtain ⟨r, hrr⟩ : ∃ r, en - pn = r := ⟨_, rfl⟩
  have f1 : pn + r = en ∧ en ≤ 256 ∧ pn ≤ 256 ∧ us + en = 256 := by rw [hn] at h2; omega
  have H19 : Hid (∀ n_, Calls Tryz.prog 123 #[.pointer (some ⟨p, 0, none⟩)] (w.drewN n_) fun e w' => e = .returned (.int .i64 (n : Int)) ∧ ∃ m, w' = (w.drewN n_).drewN m) := fun n_ => by have := len_is (h.dr n_); rw [hcnt, hn] at this; exact this
  have H58 : Hid (∀ n_, Calls Tryz.prog 141 #[.int .i64 (n : Int)] (w.drewN n_) fun e w' => e = .returned (.int .i64 (pn : Int)) ∧ ∃ m, w' = (w.drewN n_).drewN m) := fun n_ => by have := placeOf_is n (by omega) (w.drewN n_); rw [hpn] at this; exact this
  have H48 : Hid (∀ n_, Calls Tryz.prog 114 #[.pointer (some ⟨p, 0, none⟩)] (w.drewN n_) fun e w' => e = .returned (.int .i64 (r : Int)) ∧ ∃ m, w' = (w.drewN n_).drewN m) := fun n_ => by have := room_is (h.dr n_) (by rw [hcnt]; omega); rw [hcnt, hend, hen, hn, hpn, (by omega : (en : Int) - (pn : Int) = (r : Int))] at this; exact this
  have H47 : Hid (∀ n_, Calls Tryz.prog 150 #[.pointer (some ⟨p, 0, none⟩)] (w.drewN n_) fun e w' => e = .returned (.int .i64 (us : Int)) ∧ ∃ m, w' = (w.drewN n_).drewN m) := fun n_ => by have := used_is (h.dr n_); rw [hus, hus2] at this; exact this
  have H43 : Hid (∀ n_, Calls Tryz.prog 115 #[.pointer (some ⟨p, 0, none⟩), .int .i64 (n : Int)] (w.drewN n_) fun e w' => e = .returned (.int .i64 (en : Int)) ∧ ∃ m, w' = (w.drewN n_).drewN m) := fun n_ => by have := end_is (h.dr n_) n (by omega); rw [← hn, hend, hen] at this; rw [← hn]; exact this
  obtain ⟨o, ho⟩ : ∃ o, offB pn = o := ⟨_, rfl⟩
  obtain ⟨cp, hcp⟩ : ∃ cp, 256 - pn = cp := ⟨_, rfl⟩
  have H60 : Hid (∀ n_, Calls Tryz.prog 151 #[.slice (some ⟨p, o, none⟩) r cp] (w.drewN n_) fun e w' => e = .returned (.bool true) ∧ ∃ m, w' = (w.drewN n_).drewN m) := fun n_ => noughts_yes (h.dr n_) pn en r o cp f1.1 f1.2.1 ho (fun i h3 h4 => lay_zero kd cs hok i (by rw [hn, hpn]; exact h3) (by rw [hen]; exact h4))
  have HSC : Hid (∀ (m k : Nat), k < n → Calls Tryz.prog 149 #[.pointer (some ⟨p, 0, none⟩), .int .i64 (k : Int)] (w.drewN m) fun e w' => e = .returned (.bool true) ∧ ∃ j, w' = (w.drewN m).drewN j) := fun m k hk => soundCell_yes (h.dr m) hok hr k (by rw [hn]; exact hk)
  have hsl : ∀ W : World, (Instr.sliceAt 156 (.pointer (some ⟨p, 0, none⟩)) (some (.int .i64 (pn : Int))) (some (.int .i64 (en : Int))) none).run Tryz.prog W = .ok (.slice (some ⟨p, o, none⟩) r cp) W := fun W => by
    have := page_lh W p pn en (by omega) f1.2.1
    rw [ho, hcp, hrr] at this
    exact this
  have c1 : ¬ (256 : Int) < (pn : Int) := by omega
  have s1 : IntKind.i64.wrap (256 - (en : Int)) = (us : Int) := subi64 256 en us (by omega) (by omega)
  have hnb : (n : Int) ≤ 1000 := by omega
  clear h hok hr h2 hcnt hend hus hn hen hus2 hpn hrr ho hcp
  obtain ⟨g1, g2, g3, g4⟩ := f1
  have c2 : (0 : Int) ≤ (r : Int) := by omega
  clear g1 g2 g3 g4
  rw [drewN0 w]
  go_enter Tryz.func144, Tryz.ntmps144
  go_wp2_with fail
  refine Calls.mono (H19.out _) ?_; rintro e w1 ⟨rfl, m1, rfl⟩
  go_wp2_with fail
  refine Calls.mono (H58.out _) ?_; rintro e w1 ⟨rfl, m2, rfl⟩
  go_wp2_with fail
  go_loopw [11] (fun v11 wr => ∃ k m : Nat, k ≤ n ∧ v11 = .int .i64 k ∧ wr = w.drewN m) (fun v11 _ => n - (intOf v11).toNat)
  case atStart => exact ⟨0, m1 + m2, Nat.zero_le _, rfl, rfl⟩
  case round =>
    obtain ⟨k, m, hk, rfl, rfl⟩ := hrel
    by_cases hlt : k < n
    · have d1 : (k : Int) < (n : Int) := by omega
      have HC : Hid (Calls Tryz.prog 149 #[.pointer (some ⟨p, 0, none⟩), .int .i64 (k : Int)] (w.drewN m) fun e w' => e = .returned (.bool true) ∧ ∃ j, w' = (w.drewN m).drewN j) := HSC.out m k hlt
      have hkb : (k : Int) + 1 ≤ 1001 := by omega
      go_wp2_with fail
      refine Calls.mono HC.out ?_; rintro e w3 ⟨rfl, m3, rfl⟩
      go_wp2_with fail
      go_roundw
      case rel => exact ⟨k + 1, m + m3, hlt, by rw [Int.natCast_add]; rfl, by first | rfl | rw [World.drewN_drewN]⟩
      case measure => simp only [intOf]; omega
    · have d1 : ¬ (k : Int) < (n : Int) := by omega
      obtain ⟨W, hW⟩ : ∃ W, w.drewN m = W := ⟨_, rfl⟩
      have K48 : Hid (∀ n_, Calls Tryz.prog 114 #[.pointer (some ⟨p, 0, none⟩)] (W.drewN n_) fun e w' => e = .returned (.int .i64 (r : Int)) ∧ ∃ m, w' = (W.drewN n_).drewN m) := fun n_ => by rw [← hW, World.drewN_drewN]; exact H48.out _
      have K47 : Hid (∀ n_, Calls Tryz.prog 150 #[.pointer (some ⟨p, 0, none⟩)] (W.drewN n_) fun e w' => e = .returned (.int .i64 (us : Int)) ∧ ∃ m, w' = (W.drewN n_).drewN m) := fun n_ => by rw [← hW, World.drewN_drewN]; exact H47.out _
      have K43 : Hid (∀ n_, Calls Tryz.prog 115 #[.pointer (some ⟨p, 0, none⟩), .int .i64 (n : Int)] (W.drewN n_) fun e w' => e = .returned (.int .i64 (en : Int)) ∧ ∃ m, w' = (W.drewN n_).drewN m) := fun n_ => by rw [← hW, World.drewN_drewN]; exact H43.out _
      have K58 : Hid (∀ n_, Calls Tryz.prog 141 #[.int .i64 (n : Int)] (W.drewN n_) fun e w' => e = .returned (.int .i64 (pn : Int)) ∧ ∃ m, w' = (W.drewN n_).drewN m) := fun n_ => by rw [← hW, World.drewN_drewN]; exact H58.out _
      have K60 : Hid (∀ n_, Calls Tryz.prog 151 #[.slice (some ⟨p, o, none⟩) r cp] (W.drewN n_) fun e w' => e = .returned (.bool true) ∧ ∃ m, w' = (W.drewN n_).drewN m) := fun n_ => by rw [← hW, World.drewN_drewN]; exact H60.out _
      have HWW : Hid (w.drewN m = W) := hW
      rw [hW]
      clear H19 H58 H48 H47 H43 H60 HSC hW hlt
      go_wp2_with fail
      have c3 : (0 : Int) ≤ (r : Int) := Int.natCast_nonneg r
      go_quiet (first | with_reducible exact Calls.quiet_of (K48.out _) | with_reducible exact Calls.quiet_of (K47.out _) | with_reducible exact Calls.quiet_of (K43.out _) | with_reducible exact Calls.quiet_of (K58.out _) | with_reducible exact Calls.quiet_of (K60.out _))
      go_wp2_with fail
      go_ret
      exact ⟨rfl, m + nq, by rw [← HWW.out, World.drewN_drewN]; rfl⟩
end Go.Proofs.YtkhpmmmildcceaaGreat
