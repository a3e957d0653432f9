/- does: a fuse. -/
import Derived.Test.YthfhjfemcmdmfaaDoE
import Derived.Deep.RegionWith
namespace Go.Proofs.Ythfhjfemcmdmfaa
open Go.ChangeShapes Go.WideShapes Go.ChangeAt Go.RowKit
set_option linter.unusedVariables false
set_option maxRecDepth 100000

theorem wp_only {P : Program} {c : Code} {J K : Act → World → Prop} {Q' : Exit → Act → World → Prop} {a : Act} {w : World} (h : c.wp P (Exit.then J (fun _ _ _ => False)) a w) (hJ : ∀ a' w', J a' w' → K a' w') : c.wp P (Exit.then K Q') a w := by
  refine (wpIn_wide (n := 7)).1 (wpIn_mono (wpIn_wide.2 h) ?_)
  intro e a' w' hq
  cases e with
  | normal => exact hJ _ _ hq
  | exit id => exact (show False from hq).elim
  | goto l => exact (show False from hq).elim
  | ret => exact (show False from hq).elim
  | panic ch => exact (show False from hq).elim
  | outgrown => exact (show False from hq).elim
theorem setq_kept (w : World) (N : Nat) (v2 v3 v4 v5 : Value) : Kept (fun i => i = N) w ((((w.setCell ⟨N, 2, none⟩ v2).setCell ⟨N, 3, none⟩ v3).setCell ⟨N, 4, none⟩ v4).setCell ⟨N, 5, none⟩ v5) := by
  have h1 := (Kept.refl (fun i => i = N) w).setCell (p := ⟨N, 2, none⟩) (.inl rfl) v2
  have h2 := h1.setCell (p := ⟨N, 3, none⟩) (.inl rfl) v3
  have h3 := h2.setCell (p := ⟨N, 4, none⟩) (.inl rfl) v4
  exact h3.setCell (p := ⟨N, 5, none⟩) (.inl rfl) v5
set_option maxHeartbeats 4000000 in
theorem does_fuse {w : World} {F : Nat → Prop} {N p b c n m k gl gc kl kc : Nat} {u go ko : Option Addr} {df nn : Int} {of mo : Bool} {d : Dk} {l0 m0 m1 m2 m3 m4 m5 m6 : Value} (hn : -9223372036854775808 ≤ nn ∧ nn ≤ 9223372036854775807) (hN : CellsF w N [.pointer (some ⟨p, 0, none⟩), l0, .slice (some ⟨b, 0, none⟩) n c, .slice u m k, .int .i64 df, .bool of, m0, m1, m2, m3, m4, m5, m6]) (hNF : ¬ F N) (hNO : Other w N) (hd : Disk w F p d) (kd : Int) (hkd : kd = 3) :
    Calls Try.prog 19 #[.pointer (some ⟨N, 0, none⟩), .agg #[.int .i64 kd, .int .i64 nn, .slice go gl gc, .slice ko kl kc, .bool mo]] w fun e w' => e = .returned (.bool true) ∧ CellsF w' N [.pointer (some ⟨p, 0, none⟩), l0, .slice (some ⟨b, 0, none⟩) n c, .slice u m k, .int .i64 (max nn (-1)), .bool of, m0, m1, m2, m3, m4, m5, m6] ∧ Disk w' F p (d.setFuse nn) ∧ Kept (fun i => F i ∨ i = N) w w' ∧ Other w' N := by
  subst hkd
  obtain ⟨W1, hW1⟩ : ∃ W1, w.alloc (.cells #[.int .i64 3, .int .i64 nn, .slice go gl gc, .slice ko kl kc, .bool mo] 53) = W1 := ⟨_, rfl⟩
  have k1 : Kept (fun _ => False) w W1 := hW1 ▸ (Kept.refl _ w).alloc _
  have HBX : Hid (CellsF W1 w.heap.size [.int .i64 3, .int .i64 nn, .slice go gl gc, .slice ko kl kc, .bool mo]) := hW1 ▸ CellsF.new w [.int .i64 3, .int .i64 nn, .slice go gl gc, .slice ko kl kc, .bool mo] 53 (by simp)
  have HN1 : Hid (CellsF W1 N [.pointer (some ⟨p, 0, none⟩), l0, .slice (some ⟨b, 0, none⟩) n c, .slice u m k, .int .i64 df, .bool of, m0, m1, m2, m3, m4, m5, m6]) := hN.step k1
  have HD1 : Hid (Disk W1 F p d ∧ ¬ F N ∧ N < w.heap.size ∧ Kept (fun _ => False) w W1) := ⟨hd.kept k1 (fun _ _ z => z), hNF, hN.lt, k1⟩
  have HKW : Hid (∀ W, Kept (fun _ => False) W1 W → CellsF W w.heap.size [.int .i64 3, .int .i64 nn, .slice go gl gc, .slice ko kl kc, .bool mo] ∧ CellsF W N [.pointer (some ⟨p, 0, none⟩), l0, .slice (some ⟨b, 0, none⟩) n c, .slice u m k, .int .i64 df, .bool of, m0, m1, m2, m3, m4, m5, m6]) := fun W q => ⟨HBX.out.step q, HN1.out.step q⟩
  have HC44 : Hid (Calls Try.prog 44 #[.agg #[.slice (some ⟨b, 0, none⟩) n c, .slice u m k, .int .i64 df, .bool of], .int .i64 nn] W1.drew fun e w' => e = .returned (.agg #[.slice (some ⟨b, 0, none⟩) n c, .slice u m k, .int .i64 (max nn (-1)), .bool of]) ∧ Hid (Kept (fun _ => False) W1 w')) := (ref_fuse (some ⟨b, 0, none⟩) u n c m k df of nn W1.drew).mono fun e w' ⟨q1, q2⟩ => ⟨q1, ((Kept.refl _ _).drew).trans q2 (fun _ x => x.elim)⟩
  have HNO : Hid (Other W1 N) := hNO.kept k1
  have HFB : Hid (¬ F w.heap.size) := fun q => by have := hd.bound _ q; omega
  have HW1 : Hid (w.alloc (.cells #[.int .i64 3, .int .i64 nn, .slice go gl gc, .slice ko kl kc, .bool mo] 53) = W1) := hW1
  have x0 := HBX.out.cs 0 _ rfl
  clear hN hd hW1 k1 hNF hNO
  go_enter Try.func19, Try.ntmps19
  go_upto_region 2 with fail
  rw [HW1.out]
  clear HW1
  go_upto_region 19 with fail
  clear x0
  go_cut [] (fun wx => Hid (CellsF wx N [.pointer (some ⟨p, 0, none⟩), l0, .slice (some ⟨b, 0, none⟩) n c, .slice u m k, .int .i64 (max nn (-1)), .bool of, m0, m1, m2, m3, m4, m5, m6] ∧ Disk wx F p d ∧ Kept (fun i => i = N) W1 wx ∧ Other wx N))
  case first =>
    refine wp_only ?_ (fun _ _ h => h)
    have e0 := HN1.out.cs 2 _ rfl
    have e1 := HN1.out.cs 3 _ rfl
    have e2 := HN1.out.cs 4 _ rfl
    have e3 := HN1.out.cs 5 _ rfl
    have e4 := HBX.out.cs 1 _ rfl
    go_region_with (first | ((with_reducible refine Calls.mono HC44.out ?_); rintro e w7 ⟨rfl, HM7⟩; have f0 := (HKW.out _ HM7.out).2.cs 2 _ rfl; have f1 := (HKW.out _ HM7.out).2.cs 3 _ rfl; have f2 := (HKW.out _ HM7.out).2.cs 4 _ rfl; have f3 := (HKW.out _ HM7.out).2.cs 5 _ rfl; have f4 := (HKW.out _ HM7.out).1.cs 1 _ rfl; have ff := (HKW.out _ HM7.out).2.fz; clear e0 e1 e2 e3 e4))
    all_goals (try simp only [Exit.then])
    all_goals go_wp2_with fail
    all_goals go_meet
    all_goals (have kk := setq_kept w7 N (.slice (some ⟨b, 0, none⟩) n c) (.slice u m k) (.int .i64 (max nn (-1))) (.bool of))
    all_goals exact ⟨((((HKW.out _ HM7.out).2.set 2 _ (by simp)).set 3 _ (by simp)).set 4 _ (by simp)).set 5 _ (by simp), (HD1.out.1.kept HM7.out (fun _ _ z => z)).kept kk (fun i hi e => HD1.out.2.1 (by rw [← e]; exact hi)), (HM7.out.mono (fun _ x => x.elim)).trans kk (fun i hi => .inl hi), ((((HNO.out.kept HM7.out).set 2 _).set 3 _).set 4 _).set 5 _⟩
  rename_i hK0
  refine hK0 _ _ ?_
  have HX : Hid (CellsF wc N [.pointer (some ⟨p, 0, none⟩), l0, .slice (some ⟨b, 0, none⟩) n c, .slice u m k, .int .i64 (max nn (-1)), .bool of, m0, m1, m2, m3, m4, m5, m6] ∧ Disk wc F p d ∧ Kept (fun i => i = N) W1 wc ∧ Other wc N) := hcut
  have HXB : Hid (CellsF wc w.heap.size [.int .i64 3, .int .i64 nn, .slice go gl gc, .slice ko kl kc, .bool mo]) := HBX.out.kept HX.out.2.2.1 (fun e => by have := HD1.out.2.2.1; omega)
  have HC20 : Hid (Calls Try.prog 20 #[.pointer (some ⟨p, 0, none⟩), .int .i64 nn] wc.drew fun e w' => e = .returned (.int .i64 0) ∧ Hid (Disk w' F p (d.setFuse nn) ∧ Kept F wc w') ∧ (w'.cell? ⟨N, 0, none⟩ = some (.pointer (some ⟨p, 0, none⟩)) ∧ w'.cell? ⟨w.heap.size, 1, none⟩ = some (.int .i64 nn))) := (disk_fuse (HX.out.2.1.kept ((Kept.refl (fun _ => False) wc).drew) (fun _ _ z => z)) nn hn.2).mono fun e w' ⟨q1, q2, q3⟩ => by
    have kk : Kept F wc w' := ((Kept.refl F wc).drew).trans q3 (fun i hi => .inl hi)
    exact ⟨q1, ⟨q2, kk⟩, (HX.out.1.kept kk HD1.out.2.1).cs 0 _ rfl, (HXB.out.kept kk HFB.out).cs 1 _ rfl⟩
  have HS0 : Hid (wc.drew.cell? ⟨N, 0, none⟩ = some (.pointer (some ⟨p, 0, none⟩)) ∧ wc.drew.cell? ⟨w.heap.size, 1, none⟩ = some (.int .i64 nn)) := ⟨HX.out.1.cs 0 _ rfl, HXB.out.cs 1 _ rfl⟩
  have hS0 : (wc.cell? ⟨N, 0, none⟩ = some (.pointer (some ⟨p, 0, none⟩)) ∧ wc.cell? ⟨w.heap.size, 1, none⟩ = some (.int .i64 nn)) := HS0.out
  clear hK0 hcut HC44 HKW
  go_wp2_with fail
  go_region_held (fun (w' : World) => (w'.cell? ⟨N, 0, none⟩ = some (.pointer (some ⟨p, 0, none⟩)) ∧ w'.cell? ⟨w.heap.size, 1, none⟩ = some (.int .i64 nn))) (first | (with_reducible assumption) | (with_reducible exact HS0.out))
    (first | ((with_reducible refine Calls.mono HC20.out ?_); rintro e w8 ⟨rfl, HM8, hS8⟩))
  have HE : Hid (CellsF w8 N [.pointer (some ⟨p, 0, none⟩), l0, .slice (some ⟨b, 0, none⟩) n c, .slice u m k, .int .i64 (max nn (-1)), .bool of, m0, m1, m2, m3, m4, m5, m6] ∧ Disk w8 F p (d.setFuse nn) ∧ Kept (fun i => F i ∨ i = N) w w8 ∧ Other w8 N) := ⟨HX.out.1.kept HM8.out.2 HD1.out.2.1, HM8.out.1, ((HD1.out.2.2.2.mono (fun _ x => x.elim)).trans HX.out.2.2.1 (fun i hi => .inl (.inr hi))).trans HM8.out.2 (fun i hi => .inl (.inl hi)), by obtain ⟨cur, tt, fz, e, h1, h2⟩ := HX.out.2.2.2; exact ⟨cur, tt, fz, (HM8.out.2.block N (Array.getElem?_eq_some_iff.1 e).1 HD1.out.2.1).trans e, h1, h2⟩⟩
  clear HX HM8 hS8 hS0 HS0 HC20
  try simp only [Exit.then]
  go_wp2_with fail
  go_ret
  exact ⟨rfl, HE.out⟩
end Go.Proofs.Ythfhjfemcmdmfaa
