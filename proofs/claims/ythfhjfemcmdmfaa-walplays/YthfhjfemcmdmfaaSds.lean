/- same: a log and the document's. -/
import Derived.Test.YthfhjfemcmdmfaaROp
import Derived.Test.YthfhjfemcmdmfaaAwake
import Derived.Test.YthfhjfemcmdmfaaMe
import Derived.Deep.RegionHeld
import Derived.Deep.CutBlock
namespace Go.Proofs.Ythfhjfemcmdmfaa
open Go.ChangeShapes Go.WideShapes Go.ChangeAt Go.RowKit
set_option linter.unusedVariables false
set_option maxRecDepth 100000

set_option maxHeartbeats 8000000 in
theorem side_same {w : World} {F : Nat → Prop} {N p q a B t us b c n m k rl lc : Nat} {u la : Option Addr} {df : Int} {R : List ByteArray} {v : Value} {d : Dk} {UB : ByteArray} (hN : CellsF w N [.pointer (some ⟨p, 0, none⟩), .pointer (some ⟨q, 0, none⟩), .slice (some ⟨b, 0, none⟩) n c, .slice u m k, .int .i64 df, .bool false, .int .i64 (a : Int), .int .i64 (B : Int), .int .i64 (t : Int), .slice la rl lc, .string UB, .int .i64 (a : Int), .int .i64 (B : Int)]) (hl : LogAt w F q p a B t R us v) (hd : Disk w F p d) (hoff : d.off = false) (hr : Rd w b c u k d) (hQ : d.Q.length ≤ 1000000) (hn : d.n = n) (hm : d.Q.length = m) (hdf : d.fuse = df) (hn2 : n ≤ 256)
    (hrow : w.ownsRow 0 9 1 (.slice la rl lc) rl (sv R)) (hRl : R.length = rl) (hR2 : rl ≤ 100000) (hub : UB.size = us) :
    Calls Try.prog 41 #[.pointer (some ⟨N, 0, none⟩)] w fun e w' => e = .returned (.bool true) ∧ Kept (fun _ => False) w w' := by
  have HN : Hid (CellsF w N [.pointer (some ⟨p, 0, none⟩), .pointer (some ⟨q, 0, none⟩), .slice (some ⟨b, 0, none⟩) n c, .slice u m k, .int .i64 df, .bool false, .int .i64 (a : Int), .int .i64 (B : Int), .int .i64 (t : Int), .slice la rl lc, .string UB, .int .i64 (a : Int), .int .i64 (B : Int)]) := hN
  have HSP : Hid (∀ W, Kept (fun _ => False) w W → (W.cell? ⟨N, 1, none⟩ = some (.pointer (some ⟨q, 0, none⟩)) ∧ W.cell? ⟨N, 9, none⟩ = some (.slice la rl lc) ∧ W.cell? ⟨N, 10, none⟩ = some (.string UB) ∧ Hid (Kept (fun _ => False) w W))) := fun W kk => ⟨(HN.out.step kk).cs 1 _ rfl, (HN.out.step kk).cs 9 _ rfl, (HN.out.step kk).cs 10 _ rfl, kk⟩
  have HS0 : Hid (w.drew.cell? ⟨N, 1, none⟩ = some (.pointer (some ⟨q, 0, none⟩)) ∧ w.drew.cell? ⟨N, 9, none⟩ = some (.slice la rl lc) ∧ w.drew.cell? ⟨N, 10, none⟩ = some (.string UB) ∧ Hid (Kept (fun _ => False) w w.drew)) := HSP.out _ (Kept.refl _ _).drew
  have hS0 := HSP.out w (Kept.refl _ _)
  have HR : Hid (∀ w', (w'.cell? ⟨N, 1, none⟩ = some (.pointer (some ⟨q, 0, none⟩)) ∧ w'.cell? ⟨N, 9, none⟩ = some (.slice la rl lc) ∧ w'.cell? ⟨N, 10, none⟩ = some (.string UB) ∧ Hid (Kept (fun _ => False) w w')) → Calls Try.prog 24 #[.pointer (some ⟨q, 0, none⟩)] w' fun e w'' => ∃ va vc, e = .returned (.slice va rl vc) ∧ Hid (Texts w'' (.slice va rl vc) R) ∧ (w''.cell? ⟨N, 1, none⟩ = some (.pointer (some ⟨q, 0, none⟩)) ∧ w''.cell? ⟨N, 9, none⟩ = some (.slice la rl lc) ∧ w''.cell? ⟨N, 10, none⟩ = some (.string UB) ∧ Hid (Kept (fun _ => False) w w''))) := fun w' h => by
    refine (records_at (hl.step h.2.2.2.out) (by omega)).mono fun e w'' ⟨v', q1, q2, q3⟩ => ?_
    obtain ⟨va, vc, rfl⟩ := own_form q2
    have ht := own_texts q2
    rw [hRl] at q1 ht
    exact ⟨va, vc, q1, ht, HSP.out _ (h.2.2.2.out.trans q3 (fun _ x => x.elim))⟩
  have HM : Hid (∀ w' va vc, Texts w' (.slice va rl vc) R → (w'.cell? ⟨N, 1, none⟩ = some (.pointer (some ⟨q, 0, none⟩)) ∧ w'.cell? ⟨N, 9, none⟩ = some (.slice la rl lc) ∧ w'.cell? ⟨N, 10, none⟩ = some (.string UB) ∧ Hid (Kept (fun _ => False) w w')) → Calls Try.prog 13 #[.slice va rl vc, .slice la rl lc] w' fun e w'' => e = .returned (.bool true) ∧ (w''.cell? ⟨N, 1, none⟩ = some (.pointer (some ⟨q, 0, none⟩)) ∧ w''.cell? ⟨N, 9, none⟩ = some (.slice la rl lc) ∧ w''.cell? ⟨N, 10, none⟩ = some (.string UB) ∧ Hid (Kept (fun _ => False) w w''))) := fun w' va vc h1 h => by
    have h2 : Texts w' (.slice la R.length lc) R := by
      have := own_kept hrow h.2.2.2.out
      rw [← hRl] at this
      exact own_texts this
    rw [← hRl] at h1 ⊢
    have q := same_is va la vc lc R R w' h1 h2 (by omega) (by omega)
    rw [decide_eq_true rfl] at q
    refine q.mono fun e w'' ⟨q1, nn, q2⟩ => ⟨q1, ?_⟩
    rw [hRl] at *
    rw [q2]
    exact HSP.out _ (h.2.2.2.out.trans (kept_drewN w' nn) (fun _ x => x.elim))
  have HU : Hid (∀ w', (w'.cell? ⟨N, 1, none⟩ = some (.pointer (some ⟨q, 0, none⟩)) ∧ w'.cell? ⟨N, 9, none⟩ = some (.slice la rl lc) ∧ w'.cell? ⟨N, 10, none⟩ = some (.string UB) ∧ Hid (Kept (fun _ => False) w w')) → Calls Try.prog 26 #[.pointer (some ⟨q, 0, none⟩)] w' fun e w'' => e = .returned (.int .i64 (us : Int)) ∧ (w''.cell? ⟨N, 1, none⟩ = some (.pointer (some ⟨q, 0, none⟩)) ∧ w''.cell? ⟨N, 9, none⟩ = some (.slice la rl lc) ∧ w''.cell? ⟨N, 10, none⟩ = some (.string UB) ∧ Hid (Kept (fun _ => False) w w''))) := fun w' h => (used_at (hl.step h.2.2.2.out)).mono fun e w'' ⟨q1, q2⟩ => ⟨q1, by rw [q2]; exact h⟩
  have HRP : Hid (∀ w' (x : Nat), Kept (fun _ => False) w w' → x < n → Calls Try.prog 27 #[.pointer (some ⟨p, 0, none⟩), .int .i64 (x : Int)] w' fun e w'' => e = .returned (.tuple #[.string ⟨(d.last x).toArray⟩, .int .i64 0]) ∧ w'' = w') := fun w' x kk hx => by
    have q := read_is (hd.kept kk (fun _ _ z => z)) x (by rw [hn]; exact hx)
    rw [hoff] at q
    exact q
  have HRD : Hid (∀ w' (x : Nat), Kept (fun _ => False) w w' → x < n → Calls Try.prog 60 #[.agg #[.slice (some ⟨b, 0, none⟩) n c, .slice u m k, .int .i64 df, .bool false], .int .i64 (x : Int)] w' fun e w'' => e = .returned (.tuple #[.string ⟨(d.last x).toArray⟩, .int .i64 0]) ∧ Kept (fun _ => False) w' w'') := fun w' x kk hx => by
    have q := ref_readD (hr.step kk) (by omega) hoff x (by rw [hn]; exact hx)
    rw [hn, hm, hdf] at q
    exact q
  have hui : (UB.size : Int) = (us : Int) := by omega
  have hnn : ((us : Int) != (us : Int)) = false := by simp
  clear hl hd hr hrow hN hub hQ hn hm hdf hoff
  go_enter Try.func41, Try.ntmps41
  go_wp2_with fail
  go_region_held (fun (w' : World) => (w'.cell? ⟨N, 1, none⟩ = some (.pointer (some ⟨q, 0, none⟩)) ∧ w'.cell? ⟨N, 9, none⟩ = some (.slice la rl lc) ∧ w'.cell? ⟨N, 10, none⟩ = some (.string UB) ∧ Hid (Kept (fun _ => False) w w'))) (first | (with_reducible assumption) | (with_reducible exact HS0.out))
    (first | ((with_reducible refine Calls.mono (HR.out _ (by first | with_reducible assumption | exact HS0.out)) ?_); rintro e w1 ⟨va, vc, rfl, HT1, hS1⟩) | ((with_reducible refine Calls.mono (HM.out _ _ _ HT1.out (by with_reducible assumption)) ?_); rintro e w2 ⟨rfl, hS2⟩) | ((with_reducible refine Calls.mono (HU.out _ (by with_reducible assumption)) ?_); rintro e w3 ⟨rfl, hS3⟩))
  have HK3 : Hid (Kept (fun _ => False) w w3) := hS3.2.2.2.out
  clear hS0 hS1 hS2 hS3 HT1 HR HM HU HS0 HSP
  try simp only [Exit.then]
  go_wp2_with fail
  go_loopw [3] (fun vi wr => ∃ i : Nat, i ≤ n ∧ vi = .int .i64 i ∧ Hid (Kept (fun _ => False) w wr))
    (fun vi _ => n - (intOf vi).toNat)
  case atStart => exact ⟨0, Nat.zero_le _, rfl, HK3.out⟩
  case round =>
    clear HK3
    obtain ⟨i, hi, rfl, HI⟩ := hrel
    have x0 := (HN.out.step HI.out).cs 0 _ rfl
    have x2 := (HN.out.step HI.out).cs 2 _ rfl
    have x3 := (HN.out.step HI.out).cs 3 _ rfl
    have x4 := (HN.out.step HI.out).cs 4 _ rfl
    have x5 := (HN.out.step HI.out).cs 5 _ rfl
    by_cases hlt : i < n
    · have hlti : (i : Int) < (n : Int) := by omega
      go_wp2_with fail
      refine Calls.mono (HRP.out _ i HI.out hlt) ?_; rintro e w4 ⟨rfl, rfl⟩
      go_wp2_with fail
      refine Calls.mono (HRD.out _ i HI.out hlt) ?_; rintro e w5 ⟨rfl, k5⟩
      have HK5 : Hid (Kept (fun _ => False) w w5) := HI.out.trans k5 (fun _ x => x.elim)
      clear k5 HI x0 x2 x3 x4 x5
      generalize (⟨(d.last i).toArray⟩ : ByteArray) = z at *
      have hzz : (z.toList == z.toList) = true := by simp
      go_wp2_with fail
      go_roundw
      case rel => exact ⟨i + 1, by omega, by go_num, HK5.out⟩
      case measure => simp [intOf]; omega
    · have hlti : ¬ (i : Int) < (n : Int) := by omega
      go_wp2_with fail
      go_ret
      exact ⟨rfl, HI.out⟩
end Go.Proofs.Ythfhjfemcmdmfaa
