/- PageReads, walked. -/
import Derived.Test.YtehaancdadmdkaaRw
import Derived.Test.YtehaancdadmdkaaSm
import Derived.Test.YtehaancdadmdkaaNw
namespace Go.Proofs.Ytehaancdadmdkaa
open Go.ChangeShapes Go.WideShapes Go.ChangeAt Go.RowKit
set_option linter.unusedVariables false
set_option maxRecDepth 100000

theorem lay_inj {kd kd' : UInt8} {cs cs' : List Cel} (h : okC cs) (h' : okC cs') (e : bytesB (lay kd cs) = bytesB (lay kd' cs')) : kd = kd' ∧ cs = cs' := by
  have a := good_head kd cs h
  have a' := good_head kd' cs' h'
  have d := good_dec kd cs h cs.length (Nat.le_refl _)
  have d' := good_dec kd' cs' h' cs'.length (Nat.le_refl _)
  rw [List.take_length] at d d'
  rw [e] at a d
  have e0 : kd.toNat = kd'.toNat := a.1.symm.trans a'.1
  have e1 : cs.length = cs'.length := a.2.symm.trans a'.2
  refine ⟨UInt8.toNat_inj.1 e0, ?_⟩
  rw [e1] at d
  exact d.symm.trans d'
set_option maxHeartbeats 4000000 in
theorem reads_walk (s : ByteArray) (w : World) : Calls Try.prog 4 #[.string s] w fun e w' => e = .returned (.bool true) ∧ Kept (fun _ => False) w w' := by
  have HAW : Hid (∀ V, Calls Try.prog 11 #[] V fun e w' => e = .returned (.bool true) ∧ Hid (Kept (fun _ => False) V w')) := fun V => awake_is V
  by_cases hs : s.size ≤ 300
  · have hs1 : (s.size : Int) ≤ 300 := by omega
    have hs2 : ¬ (300 : Int) < (s.size : Int) := by omega
    by_cases hg : Good s
    · obtain ⟨kd, cs, g1, g2, g3, g4⟩ := hg
      have hg : Good s := ⟨kd, cs, g1, g2, g3, g4⟩
      have HRD : Hid (Calls Try.prog 14 #[.string s] w fun e w' => ∃ q : Nat, e = .returned (.tuple #[.pointer (some ⟨q, 0, none⟩), .int .i64 0]) ∧ Hid (Pg w' q (lay kd cs) ∧ Kept (fun _ => False) w w')) := (read_gen s w).mono fun e w' hx => by
        rcases hx with ⟨q0, _⟩ | ⟨kd', cs', q, r1, r2, r3, r4, r5, r6, r7, _⟩
        · exact absurd hg q0
        · obtain ⟨rfl, rfl⟩ := lay_inj g2 r2 (g4.symm.trans r4)
          exact ⟨q, r5, r6, r7⟩
      have HRR : Hid (∀ V, Calls Try.prog 15 #[.string s] V fun e w' => ∃ (a : Option Addr) (c : Nat), e = .returned (.tuple #[rpg (kd.toNat : Int) (.slice a cs.length c), .int .i64 0]) ∧ Hid (Sl cv 2 w' (.slice a cs.length c) cs ∧ Kept (fun _ => False) V w')) := fun V => (rread_gen s hs V).mono fun e w' hx => by
        rcases hx with ⟨q0, _⟩ | ⟨kd', cs', a, c, r1, r2, r3, r4, r5, r6, r7⟩
        · exact absurd hg q0
        · obtain ⟨rfl, rfl⟩ := lay_inj g2 r2 (g4.symm.trans r4)
          exact ⟨a, c, r5, r6, r7⟩
      have HSM : Hid (∀ (V : World) (q : Nat) (a : Option Addr) (c : Nat), Pg V q (lay kd cs) → Sl cv 2 V (.slice a cs.length c) cs → Calls Try.prog 13 #[.pointer (some ⟨q, 0, none⟩), rpg (kd.toNat : Int) (.slice a cs.length c)] V fun e w' => e = .returned (.bool true) ∧ Hid (Kept (fun _ => False) V w')) := fun V q a c z1 z2 => same_is kd g1 a cs.length c cs rfl z1 z2 g2
      have HBY : Hid (∀ (V : World) (q : Nat), Pg V q (lay kd cs) → Calls Try.prog 16 #[.pointer (some ⟨q, 0, none⟩)] V fun e w' => e = .returned (.string s) ∧ Hid (Kept (fun _ => False) V w')) := fun V q z1 => by
        have := bytesL z1 g1
        rw [← ba_eq g4] at this
        exact this
      obtain ⟨N, hN⟩ : ∃ N, cs.length = N := ⟨_, rfl⟩
      obtain ⟨kn, hkn⟩ : ∃ kn, kd.toNat = kn := ⟨_, rfl⟩
      rw [hN, hkn] at HRR HSM
      clear g1 g2 g3 g4 hg hN hkn
      go_enter Try.func4, Try.ntmps4
      go_wp2_with fail
      refine Calls.mono HRD.out ?_; rintro e w1 ⟨q, rfl, HP1⟩
      clear HRD
      go_wp2_with fail
      refine Calls.mono (HRR.out _) ?_; rintro e w2 ⟨a, c, rfl, HP2⟩
      clear HRR
      obtain ⟨W3, hW3⟩ : ∃ W, w2.alloc (.cells #[.int .i64 (kn : Int), .slice a N c] 29) = W := ⟨_, rfl⟩
      obtain ⟨B5, hB5⟩ : ∃ X, w2.heap.size = X := ⟨_, rfl⟩
      have HW3 : Hid (w2.alloc (.cells #[.int .i64 (kn : Int), .slice a N c] 29) = W3 ∧ w2.heap.size = B5) := ⟨hW3, hB5⟩
      have k3 : Kept (fun _ => False) w2 W3 := hW3 ▸ (Kept.refl _ w2).alloc _
      have b5 : Blk W3 B5 29 [.int .i64 (kn : Int), .slice a N c] := by
        have := Blk.new w2 29 [.int .i64 (kn : Int), .slice a N c]
        rw [hB5] at this
        rw [← hW3]; exact this
      have HP3 : Hid (Pg W3 q (lay kd cs) ∧ Sl cv 2 W3 (.slice a N c) cs ∧ Kept (fun _ => False) w W3) := ⟨(HP1.out.1.step HP2.out.2).step k3, HP2.out.1.step cv_ne k3, (HP1.out.2.trans HP2.out.2 (fun _ z => z.elim)).trans k3 (fun _ z => z.elim)⟩
      have x0 := b5.cell (i := 0) rfl
      have x1 := b5.cell (i := 1) rfl
      clear hW3 hB5 k3 b5 HP1 HP2
      go_upto_region 5 with fail
      rw [HW3.out.1, HW3.out.2]
      clear HW3
      go_wp2_with fail
      refine Calls.mono (HSM.out _ _ _ _ HP3.out.1 HP3.out.2.1) ?_; rintro e w4 ⟨rfl, HK4⟩
      have HP4 : Hid (Pg w4 q (lay kd cs) ∧ Kept (fun _ => False) w w4) := ⟨HP3.out.1.step HK4.out, HP3.out.2.2.trans HK4.out (fun _ z => z.elim)⟩
      clear HP3 HSM HK4 x0 x1
      go_wp2_with fail
      refine Calls.mono (HBY.out _ _ HP4.out.1) ?_; rintro e w5 ⟨rfl, HK5⟩
      have HP5 : Hid (Kept (fun _ => False) w w5) := HP4.out.2.trans HK5.out (fun _ z => z.elim)
      clear HP4 HBY HK5
      go_wp2_with fail
      refine Calls.mono (HAW.out _) ?_; rintro e w9 ⟨rfl, HK9⟩
      have HKE : Hid (Kept (fun _ => False) w w9) := HP5.out.trans HK9.out (fun _ z => z.elim)
      clear HP5 HK9
      go_wp2_with fail
      go_ret
      exact ⟨rfl, HKE.out⟩
    · have HRD : Hid (Calls Try.prog 14 #[.string s] w fun e w' => e = .returned (.tuple #[.pointer none, .int .i64 120]) ∧ Hid (Kept (fun _ => False) w w')) := (read_gen s w).mono fun e w' hx => by
        rcases hx with ⟨q0, q1, q2⟩ | ⟨kd', cs', q, r1, r2, r3, r4, _⟩
        · exact ⟨q1, q2⟩
        · exact absurd ⟨kd', cs', r1, r2, r3, r4⟩ hg
      have HRR : Hid (∀ V, Calls Try.prog 15 #[.string s] V fun e w' => e = .returned (.tuple #[rpg 0 (.slice none 0 0), .int .i64 120]) ∧ Hid (Kept (fun _ => False) V w')) := fun V => (rread_gen s hs V).mono fun e w' hx => by
        rcases hx with ⟨q0, q1, q2⟩ | ⟨kd', cs', a, c, r1, r2, r3, r4, _⟩
        · exact ⟨q1, q2⟩
        · exact absurd ⟨kd', cs', r1, r2, r3, r4⟩ hg
      clear hg
      go_enter Try.func4, Try.ntmps4
      go_wp2_with fail
      refine Calls.mono HRD.out ?_; rintro e w1 ⟨rfl, HP1⟩
      clear HRD
      go_wp2_with fail
      refine Calls.mono (HRR.out _) ?_; rintro e w2 ⟨rfl, HP2⟩
      clear HRR
      obtain ⟨W3, hW3⟩ : ∃ W, w2.alloc (.cells #[.int .i64 0, .slice none 0 0] 29) = W := ⟨_, rfl⟩
      obtain ⟨B5, hB5⟩ : ∃ X, w2.heap.size = X := ⟨_, rfl⟩
      have HW3 : Hid (w2.alloc (.cells #[.int .i64 0, .slice none 0 0] 29) = W3 ∧ w2.heap.size = B5) := ⟨hW3, hB5⟩
      have k3 : Kept (fun _ => False) w2 W3 := hW3 ▸ (Kept.refl _ w2).alloc _
      have HP3 : Hid (Kept (fun _ => False) w W3) := (HP1.out.trans HP2.out (fun _ z => z.elim)).trans k3 (fun _ z => z.elim)
      clear hW3 hB5 k3 HP1 HP2
      go_upto_region 5 with fail
      rw [HW3.out.1, HW3.out.2]
      clear HW3
      go_wp2_with fail
      refine Calls.mono (HAW.out _) ?_; rintro e w9 ⟨rfl, HK9⟩
      have HKE : Hid (Kept (fun _ => False) w w9) := HP3.out.trans HK9.out (fun _ z => z.elim)
      clear HP3 HK9
      go_wp2_with fail
      go_ret
      exact ⟨rfl, HKE.out⟩
  · have hs1 : (300 : Int) < (s.size : Int) := by omega
    go_enter Try.func4, Try.ntmps4
    go_wp2_with fail
    refine Calls.mono (HAW.out _) ?_; rintro e w9 ⟨rfl, HK9⟩
    go_wp2_with fail
    go_ret
    exact ⟨rfl, HK9.out⟩
end Go.Proofs.Ytehaancdadmdkaa
