/- The document's Read. -/
import Derived.Test.YtehaancdadmdkaaRw1
namespace Go.Proofs.Ytehaancdadmdkaa
open Go.ChangeShapes Go.WideShapes Go.ChangeAt Go.RowKit
set_option linter.unusedVariables false
set_option maxRecDepth 100000

def RReadE (s : ByteArray) (w : World) (e : Ending) (w' : World) : Prop := (¬ Good s ∧ e = .returned (.tuple #[rpg 0 (.slice none 0 0), .int .i64 120]) ∧ Kept (fun _ => False) w w') ∨ (∃ (kd : UInt8) (cs : List Cel) (a : Option Addr) (c : Nat), kd.toNat ≠ 0 ∧ okC cs ∧ ris cs ∧ s.data.toList = bytesB (lay kd cs) ∧ e = .returned (.tuple #[rpg (kd.toNat : Int) (.slice a cs.length c), .int .i64 0]) ∧ Sl cv 2 w' (.slice a cs.length c) cs ∧ Kept (fun _ => False) w w')
set_option maxHeartbeats 8000000 in
theorem rread_gen (s : ByteArray) (hs3 : s.size ≤ 300) (w : World) : Calls Try.prog 15 #[.string s] w fun e w' => RReadE s w e w' := by
  obtain ⟨W, hW⟩ : ∃ W, w.alloc (.cells #[.int .i64 0, .slice none 0 0] 29) = W := ⟨_, rfl⟩
  obtain ⟨B2, hB2⟩ : ∃ X, w.heap.size = X := ⟨_, rfl⟩
  have HW : Hid (w.alloc (.cells #[.int .i64 0, .slice none 0 0] 29) = W ∧ w.heap.size = B2) := ⟨hW, hB2⟩
  have k0 : Kept (fun _ => False) w W := hW ▸ (Kept.refl _ w).alloc _
  have b2 : Blk W B2 29 [.int .i64 0, .slice none 0 0] := by
    have := Blk.new w 29 [.int .i64 0, .slice none 0 0]
    rw [hB2] at this
    rw [← hW]; exact this
  have HF := err_fin b2 k0 (by omega)
  have HF2 : Hid _ := HF
  have u0 := b2.cell (i := 0) rfl
  have u1 := b2.cell (i := 1) rfl
  have uf := b2.fz
  by_cases hs : s.size = 256
  · have hs256 : (s.size : Int) = 256 := by omega
    have hx0 : ∀ W : World, (Instr.index 9 (.string s) (.int .i64 0)).run Try.prog W = .ok (.int .u8 (byteAt s.data.toList 0 : Int)) W := fun W => str_index s 0 (by omega) W
    have hx1 : ∀ W : World, (Instr.index 9 (.string s) (.int .i64 1)).run Try.prog W = .ok (.int .u8 (byteAt s.data.toList 1 : Int)) W := fun W => str_index s 1 (by omega) W
    have l0 := byteAt_lt s.data.toList 0
    have l1 := byteAt_lt s.data.toList 1
    obtain ⟨kn, hkn⟩ : ∃ x, byteAt s.data.toList 0 = x := ⟨_, rfl⟩
    obtain ⟨n, hn⟩ : ∃ x, byteAt s.data.toList 1 = x := ⟨_, rfl⟩
    have HKN : Hid (byteAt s.data.toList 0 = kn ∧ byteAt s.data.toList 1 = n) := ⟨hkn, hn⟩
    rw [hkn] at hx0 l0
    rw [hn] at hx1 l1
    by_cases hz : (kn : Int) = 0
    · have HNG : Hid (¬ Good s) := fun hg => (good_end hg).2.1 (by rw [hkn]; omega)
      clear hW hB2 k0 b2 HF hkn hn hs
      go_enter Try.func15, Try.ntmps15
      go_upto_region 1 with fail
      rw [HW.out.1, HW.out.2]
      clear HW
      go_wp2_with fail
      refine bodyPost_ret (end_cell_tmp rfl rfl HF2.out.1) rfl ?_
      exact .inl ⟨HNG.out, rfl, HF2.out.2⟩
    · have hzb : ((kn : Int) == 0) = false := beq_eq_false_iff_ne.2 hz
      obtain ⟨W4, hW4⟩ : ∃ X, W.alloc (.cells #[.int .i64 (kn : Int), .slice none 0 0] 29) = X := ⟨_, rfl⟩
      obtain ⟨B4, hB4⟩ : ∃ X, W.heap.size = X := ⟨_, rfl⟩
      have HW4 : Hid (W.alloc (.cells #[.int .i64 (kn : Int), .slice none 0 0] 29) = W4 ∧ W.heap.size = B4) := ⟨hW4, hB4⟩
      have k4 : Kept (fun _ => False) W W4 := hW4 ▸ (Kept.refl _ W).alloc _
      have b4 : Blk W4 B4 29 [.int .i64 (kn : Int), .slice none 0 0] := by
        have := Blk.new W 29 [.int .i64 (kn : Int), .slice none 0 0]
        rw [hB4] at this
        rw [← hW4]; exact this
      have J0 : Hid (Rst w B2 B4 (kn : Int) s.data.toList 0 none 0 W4) := ⟨b2.step k4, b4, World.ownsRow_nil _ _ _ _, (fun g hg => by cases hg), k0.trans k4 (fun _ z => z.elim), by omega, by have := k0.size; omega, by have := b2.lt; omega⟩
      have HSZ : Hid (s.size = 256 ∧ s.data.toList.length = 256) := ⟨hs, by rw [← hs]; simp⟩
      clear hW hB2 k0 b2 HF hkn hn hs hW4 hB4 k4 b4 HF2 u0 u1 uf
      go_enter Try.func15, Try.ntmps15
      go_upto_region 1 with fail
      rw [HW.out.1, HW.out.2]
      clear HW
      go_upto_region 4 with fail
      rw [HW4.out.1, HW4.out.2]
      clear HW4
      have HKZ : Hid (¬ (kn : Int) = 0) := hz
      go_wp2_with fail
      clear hz hzb
      go_loopw [6, 7] (fun v6 v7 wr => ∃ (k e : Nat), k ≤ n ∧ e ≤ 256 ∧ v6 = .int .i64 e ∧ v7 = .int .i64 k ∧ Hid (endB s.data.toList k = e ∧ 8 + 2 * k ≤ e ∧ (0 < k → 8 + 2 * n ≤ e) ∧ (∀ j, j < k → CK s.data.toList j) ∧ ∃ a2 c2, Rst w B2 B4 (kn : Int) s.data.toList k a2 c2 wr)) (fun _ v7 _ => n - (intOf v7).toNat)
      case atStart => exact ⟨0, 256, Nat.zero_le _, Nat.le_refl _, rfl, rfl, rfl, by omega, fun q => absurd q (by omega), fun j hj => absurd hj (Nat.not_lt_zero _), none, 0, J0.out⟩
      case round =>
        obtain ⟨k, e, hk, he, rfl, rfl, HI⟩ := hrel
        clear J0
        obtain ⟨a2, c2, hR⟩ := HI.out.2.2.2.2
        have HR : Hid (Rst w B2 B4 (kn : Int) s.data.toList k a2 c2 wr) := hR
        clear hR
        by_cases hlt : k < n
        · have c1 : (k : Int) < (n : Int) := by omega
          have HG : Hid (Good s → _) := fun hg => good_checks hg k (by rw [HKN.out.2]; exact hlt)
          by_cases ca : (e : Int) < 8 + 2 * (k : Int) + 2
          · have HNGx : Hid (¬ Good s) := fun hg => by have := (HG.out hg).1; have := HI.out.1; omega
            clear HI HG hx0 hx1
            have HNG : Hid (¬ Good s) := HNGx.out
            have HF := err_fin HR.out.b2 HR.out.kp HR.out.h2
            have HF2 : Hid _ := HF
            have u0 := HR.out.b2.cell (i := 0) rfl
            have u1 := HR.out.b2.cell (i := 1) rfl
            have uf := HR.out.b2.fz
            clear HF HR 
            go_wp2_with fail
            refine bodyPost_ret (end_cell_tmp rfl rfl HF2.out.1) rfl ?_
            exact .inl ⟨HNG.out, rfl, HF2.out.2⟩
          · have hix : ∀ W : World, (Instr.index 9 (.string s) (.int .i64 (8 + 2 * (k : Int)))).run Try.prog W = .ok (.int .u8 (byteAt s.data.toList (8 + 2 * k) : Int)) W := fun W => by have := str_index s (8 + 2 * k) (by have := HSZ.out.1; omega) W; rw [show ((8 + 2 * k : Nat) : Int) = 8 + 2 * (k : Int) by omega] at this; exact this
            have hiy : ∀ W : World, (Instr.index 9 (.string s) (.int .i64 (9 + 2 * (k : Int)))).run Try.prog W = .ok (.int .u8 (byteAt s.data.toList (9 + 2 * k) : Int)) W := fun W => by have := str_index s (9 + 2 * k) (by have := HSZ.out.1; omega) W; rw [show ((9 + 2 * k : Nat) : Int) = 9 + 2 * (k : Int) by omega] at this; exact this
            have lf := byteAt_lt s.data.toList (8 + 2 * k)
            have ly := byteAt_lt s.data.toList (9 + 2 * k)
            obtain ⟨fr, hfr⟩ : ∃ x, byteAt s.data.toList (8 + 2 * k) = x := ⟨_, rfl⟩
            obtain ⟨ks, hks⟩ : ∃ x, byteAt s.data.toList (9 + 2 * k) = x := ⟨_, rfl⟩
            have HFK : Hid (byteAt s.data.toList (8 + 2 * k) = fr ∧ byteAt s.data.toList (9 + 2 * k) = ks ∧ endB s.data.toList k = e) := ⟨hfr, hks, HI.out.1⟩
            rw [hfr] at hix lf
            rw [hks] at hiy ly
            clear hfr hks
            go_upto_region 11 with fail
            go_quiet (fail)
            have HR1 : Hid (Rst w B2 B4 (kn : Int) s.data.toList k a2 c2 (wr.drewN nq)) := HR.out.step ((Kept.refl _ _).drewN nq)
            obtain ⟨wd, hwd⟩ : ∃ wd, wr.drewN nq = wd := ⟨_, rfl⟩
            rw [hwd] at HR1 ⊢
            clear hwd HR hix hiy
            by_cases d1 : (e : Int) ≤ (fr : Int)
            · have HNGx : Hid (¬ Good s) := fun hg => by have := (HG.out hg).2.1; have := HFK.out; omega
              clear HI HG hx0 hx1
              have HNG : Hid (¬ Good s) := HNGx.out
              have HF := err_fin HR1.out.b2 HR1.out.kp HR1.out.h2
              have HF2 : Hid _ := HF
              have u0 := HR1.out.b2.cell (i := 0) rfl
              have u1 := HR1.out.b2.cell (i := 1) rfl
              have uf := HR1.out.b2.fz
              clear HF HR1 
              go_wp2_with fail
              refine bodyPost_ret (end_cell_tmp rfl rfl HF2.out.1) rfl ?_
              exact .inl ⟨HNG.out, rfl, HF2.out.2⟩
            · by_cases d2 : (fr : Int) < 8 + 2 * (n : Int)
              · have HNGx : Hid (¬ Good s) := fun hg => by have := (HG.out hg).2.2.1; have := HFK.out; have := HKN.out; omega
                clear HI HG hx0 hx1
                have HNG : Hid (¬ Good s) := HNGx.out
                have HF := err_fin HR1.out.b2 HR1.out.kp HR1.out.h2
                have HF2 : Hid _ := HF
                have u0 := HR1.out.b2.cell (i := 0) rfl
                have u1 := HR1.out.b2.cell (i := 1) rfl
                have uf := HR1.out.b2.fz
                clear HF HR1 
                go_wp2_with fail
                refine bodyPost_ret (end_cell_tmp rfl rfl HF2.out.1) rfl ?_
                exact .inl ⟨HNG.out, rfl, HF2.out.2⟩
              · by_cases d3 : (e : Int) - (fr : Int) < (ks : Int)
                · have HNGx : Hid (¬ Good s) := fun hg => by have := (HG.out hg).2.2.2.1; have := HFK.out; omega
                  clear HI HG hx0 hx1
                  have HNG : Hid (¬ Good s) := HNGx.out
                  have HF := err_fin HR1.out.b2 HR1.out.kp HR1.out.h2
                  have HF2 : Hid _ := HF
                  have u0 := HR1.out.b2.cell (i := 0) rfl
                  have u1 := HR1.out.b2.cell (i := 1) rfl
                  have uf := HR1.out.b2.fz
                  clear HF HR1 
                  go_wp2_with fail
                  refine bodyPost_ret (end_cell_tmp rfl rfl HF2.out.1) rfl ?_
                  exact .inl ⟨HNG.out, rfl, HF2.out.2⟩
                · have hsl1 : ∀ W : World, (Instr.sliceAt 9 (.string s) (some (.int .i64 (fr : Int))) (some (.int .i64 ((fr : Int) + (ks : Int)))) none).run Try.prog W = .ok (.string (s.extract fr (fr + ks))) W := fun W => by have := str_slice s fr (fr + ks) (by omega) (by have := HSZ.out.1; omega) W; rw [Int.natCast_add] at this; exact this
                  have hsl2 : ∀ W : World, (Instr.sliceAt 9 (.string s) (some (.int .i64 ((fr : Int) + (ks : Int)))) (some (.int .i64 (e : Int))) none).run Try.prog W = .ok (.string (s.extract (fr + ks) e)) W := fun W => by have := str_slice s (fr + ks) e (by omega) (by have := HSZ.out.1; omega) W; rw [Int.natCast_add] at this; exact this
                  obtain ⟨S1, hS1⟩ : ∃ S, s.extract fr (fr + ks) = S := ⟨_, rfl⟩
                  obtain ⟨S2, hS2⟩ : ∃ S, s.extract (fr + ks) e = S := ⟨_, rfl⟩
                  have HSS : Hid (S1.data.toList = keyB s.data.toList k ∧ S2.data.toList = valB s.data.toList k) := by
                    constructor
                    · rw [← hS1, ext_list]; unfold keyB; rw [HFK.out.1, HFK.out.2.1, Nat.add_sub_cancel_left]
                    · rw [← hS2, ext_list]; unfold valB; rw [HFK.out.1, HFK.out.2.1, HFK.out.2.2]
                  have HSI : Hid (S1.size = ks ∧ S2.size = e - (fr + ks)) := by
                    constructor
                    · rw [← hS1, ba_size, ext_list, List.length_take, List.length_drop, HSZ.out.2]; omega
                    · rw [← hS2, ba_size, ext_list, List.length_take, List.length_drop, HSZ.out.2]; omega
                  rw [hS1] at hsl1
                  rw [hS2] at hsl2
                  have HPU : Hid (fr < e ∧ 8 + 2 * n ≤ fr ∧ fr + ks ≤ e) := ⟨by omega, by omega, by omega⟩
                  have HK0 : Hid (Kept (fun _ => False) wd wd.drew) := (Kept.refl _ _).drew
                  have HKA : Hid (∀ (V : World) z, Kept (fun _ => False) wd V → Kept (fun _ => False) wd (V.alloc z)) := fun V z q => q.alloc _
                  have HKD : Hid (∀ (V : World) z, Kept (fun _ => False) wd V → Kept (fun _ => False) wd (V.alloc z).drew) := fun V z q => (q.alloc _).drew
                  have hkk : Kept (fun _ => False) wd wd := Kept.refl _ _
                  clear hS1 hS2
                  have hw1 : IntKind.i64.wrap ((fr : Int) + (ks : Int)) = (fr : Int) + (ks : Int) := wrapi_of _ (by omega)
                  have hb1 : (fr : Int) + (ks : Int) ≤ 256 := by omega
                  have hb2 : (fr : Int) + (ks : Int) ≤ (e : Int) := by omega
                  have hb3 : (e : Int) ≤ 256 := by omega
                  go_upto_region 14 with fail
                  go_cut [10] (fun s10 wx => ∃ B10 : Nat, s10 = .pointer (some ⟨B10, 0, none⟩) ∧ Hid (Rst w B2 B4 (kn : Int) s.data.toList k a2 c2 wx ∧ Blk wx B10 74 [.string S1, .string S2]))
                  case first =>
                    go_region_held (fun (w' : World) => Kept (fun _ => False) wd w') (first | (with_reducible assumption) | (with_reducible exact HK0.out) | (with_reducible exact HKA.out _ _ (by with_reducible assumption)) | (with_reducible exact HKD.out _ _ (by with_reducible assumption))) (fail)
                    all_goals go_wp2_with fail
                    all_goals go_meet
                    all_goals exact ⟨_, rfl, HR1.out.step ⟨rfl, rfl, rfl, by simp, fun i hi _ => Below.heap_alloc wd _ i hi⟩, Blk.new wd 74 [.string S1, .string S2]⟩
                  case rest =>
                    obtain ⟨B10, rfl, HB⟩ := hcut
                    have HS0 : Hid (wc.drew.cell? ⟨B10, 0, none⟩ = some (.string S1) ∧ wc.drew.cell? ⟨B10, 1, none⟩ = some (.string S2)) := ⟨HB.out.2.cell rfl, HB.out.2.cell rfl⟩
                    have HBD : Hid (Rst w B2 B4 (kn : Int) s.data.toList k a2 c2 wc.drew ∧ Blk wc.drew B10 74 [.string S1, .string S2]) := ⟨HB.out.1.step ((Kept.refl _ _).drew), HB.out.2.step ((Kept.refl _ _).drew)⟩
                    clear HR1 HK0 HKA HKD hkk hsl1 hsl2 hw1 hb1 hb2 hb3
                    by_cases hm : mayC S1 S2
                    · have hmm := hm
                      unfold mayC at hmm
                      have hCK : (k = 0 ∨ Op.bytesLess (keyB s.data.toList (k - 1)) (keyB s.data.toList k) = true) → CK s.data.toList k := fun q => ⟨by have := HFK.out; have := HSI.out; omega, by have := HFK.out; have := HSI.out; omega, by have := HFK.out; have := HPU.out; omega, by have := HFK.out; have := HSI.out; omega, q⟩
                      have HCKI : Hid ((k = 0 ∨ Op.bytesLess (keyB s.data.toList (k - 1)) (keyB s.data.toList k) = true) → endB s.data.toList (k + 1) = fr ∧ 8 + 2 * (k + 1) ≤ fr ∧ (0 < k + 1 → 8 + 2 * n ≤ fr) ∧ (∀ j, j < k + 1 → CK s.data.toList j)) := fun q => ⟨by rw [end_succ]; exact HFK.out.1, by have := HPU.out; omega, fun _ => HPU.out.2.1, fun j hj => by
                        rcases Nat.lt_or_eq_of_le (Nat.lt_succ_iff.1 hj) with z | z
                        · exact HI.out.2.2.2.1 j z
                        · subst z; exact hCK q⟩
                      clear hCK hmm
                      rcases Nat.eq_zero_or_pos k with hk0 | hk0
                      · have hk00 : ¬ (0 : Int) < (k : Int) := by omega
                        have HCK2 : Hid (endB s.data.toList (k + 1) = fr ∧ 8 + 2 * (k + 1) ≤ fr ∧ (0 < k + 1 → 8 + 2 * n ≤ fr) ∧ (∀ j, j < k + 1 → CK s.data.toList j)) := HCKI.out (.inl hk0)
                        have HS1 := HS0
                        have HKZ0 : Hid (k = 0) := hk0
                        clear hk0
                        have HMY : Hid (∀ V, V = wc.drew → Calls Try.prog 29 #[.string S1, .string S2] V fun e w' => e = .returned (.bool true) ∧ (w'.cell? ⟨B10, 0, none⟩ = some (.string S1) ∧ w'.cell? ⟨B10, 1, none⟩ = some (.string S2)) ∧ Hid (Rst w B2 B4 (kn : Int) s.data.toList k a2 c2 w' ∧ Blk w' B10 74 [.string S1, .string S2])) := fun V hV => by
                          subst hV
                          have := rmay_is S1 S2 (by have := HSI.out; omega) (by have := HSI.out; omega) wc.drew
                          rw [decide_eq_true hm] at this
                          exact this.mono fun e w' ⟨q1, q2⟩ => ⟨q1, ⟨(HBD.out.2.step q2).cell rfl, (HBD.out.2.step q2).cell rfl⟩, HBD.out.1.step q2, HBD.out.2.step q2⟩
                        clear HCKI hm HB HBD HI HG
                        go_upto_region 15 with fail
                        refine wp_region_held_drew (S := (fun (V : World) => V.cell? ⟨B10, 0, none⟩ = some (.string S1) ∧ V.cell? ⟨B10, 1, none⟩ = some (.string S2))) (by kernel_rfl) HS0.out (fun hH => ?_)
                        refine wpAnyH_take (i := 0) (oi := { dst := some 82, op := Op.fieldAddr 74 (Operand.tmp 10) 0, type := 0, pos := "ref.go:72", after := #[], guard := none }) (v := .pointer (some ⟨B10, 0, none⟩)) rfl (by kernel_rfl) (by kernel_rfl) (by kernel_rfl) (fun _ _ _ h => h) (Or.inl ⟨by rfl, ?_⟩) hH ?_
                        · intro wx hSw
                          obtain ⟨g1, g2⟩ := hSw
                          first | (go_simp; done) | (go_simp; with_reducible rfl)
                        try simp only [Act.put, List.setIfInBounds_toArray, List.set_cons_zero, List.set_cons_succ]
                        refine wpAnyH_take (i := 1) (oi := { dst := some 83, op := Op.load 9 (Operand.tmp 82), type := 9, pos := "ref.go:72", after := #[{ on := 0, ground := Ground.data }], guard := none }) (v := .string S1) rfl (by kernel_rfl) (by kernel_rfl) (by kernel_rfl) (fun _ _ _ h => h) (Or.inl ⟨by rfl, ?_⟩) hH ?_
                        · intro wx hSw
                          obtain ⟨g1, g2⟩ := hSw
                          first | (go_simp; done) | (go_simp; with_reducible rfl)
                        try simp only [Act.put, List.setIfInBounds_toArray, List.set_cons_zero, List.set_cons_succ]
                        refine wpAnyH_take (i := 2) (oi := { dst := some 84, op := Op.fieldAddr 74 (Operand.tmp 10) 1, type := 0, pos := "ref.go:72", after := #[], guard := none }) (v := .pointer (some ⟨B10, 1, none⟩)) rfl (by kernel_rfl) (by kernel_rfl) (by kernel_rfl) (fun _ _ _ h => h) (Or.inl ⟨by rfl, ?_⟩) hH ?_
                        · intro wx hSw
                          obtain ⟨g1, g2⟩ := hSw
                          first | (go_simp; done) | (go_simp; with_reducible rfl)
                        try simp only [Act.put, List.setIfInBounds_toArray, List.set_cons_zero, List.set_cons_succ]
                        refine wpAnyH_take (i := 3) (oi := { dst := some 85, op := Op.load 9 (Operand.tmp 84), type := 9, pos := "ref.go:72", after := #[{ on := 2, ground := Ground.data }], guard := none }) (v := .string S2) rfl (by kernel_rfl) (by kernel_rfl) (by kernel_rfl) (fun _ _ _ h => h) (Or.inl ⟨by rfl, ?_⟩) hH ?_
                        · intro wx hSw
                          obtain ⟨g1, g2⟩ := hSw
                          first | (go_simp; done) | (go_simp; with_reducible rfl)
                        try simp only [Act.put, List.setIfInBounds_toArray, List.set_cons_zero, List.set_cons_succ]
                        refine wpAnyH_ready (rs := [4]) (by kernel_rfl) (by simp) ?_
                        refine AllReadyH.cons rfl (fun K hK => ?_) AllReadyH.nil
                        go_simp
                        refine Calls.mono (HMY.out _ rfl) ?_
                        rintro e w7 ⟨rfl, hS7, HR7⟩
                        refine hK.out _ _ hS7 (fun hH7 => ?_)
                        clear hK K hH
                        try simp only [Act.put, List.setIfInBounds_toArray, List.set_cons_zero, List.set_cons_succ]
                        refine wpAnyH_take (i := 5) (oi := { dst := some 87, op := Op.unOp UnOp.not 4 (Operand.tmp 86), type := 4, pos := "ref.go:72", after := #[{ on := 4, ground := Ground.data }], guard := none }) (v := .bool false) rfl (by kernel_rfl) (by kernel_rfl) (by kernel_rfl) (fun _ _ _ h => h) (Or.inl ⟨by rfl, ?_⟩) hH7 ?_
                        · intro wx hSw
                          obtain ⟨g1, g2⟩ := hSw
                          first | (go_simp; done) | (go_simp; with_reducible rfl)
                        try simp only [Act.put, List.setIfInBounds_toArray, List.set_cons_zero, List.set_cons_succ]
                        refine wpAnyH_take (i := 6) (oi := { dst := some 88, op := Op.move (Operand.tmp 87), type := 4, pos := "ref.go:72", after := #[{ on := 5, ground := Ground.data }, { on := 4, ground := Ground.chain }], guard := none }) (v := .bool false) rfl (by kernel_rfl) (by kernel_rfl) (by kernel_rfl) (fun _ _ _ h => h) (Or.inl ⟨by rfl, ?_⟩) hH7 ?_
                        · intro wx hSw
                          obtain ⟨g1, g2⟩ := hSw
                          first | (go_simp; done) | (go_simp; with_reducible rfl)
                        try simp only [Act.put, List.setIfInBounds_toArray, List.set_cons_zero, List.set_cons_succ]
                        refine wpAnyH_take (i := 7) (oi := { dst := some 89, op := Op.move (Operand.tmp 7), type := 3, pos := "ref.go:72", after := #[{ on := 6, ground := Ground.guard }], guard := some (6, false) }) (v := .int .i64 (k : Int)) rfl (by kernel_rfl) (by kernel_rfl) (by kernel_rfl) (fun _ _ _ h => h) (Or.inl ⟨by rfl, ?_⟩) hH7 ?_
                        · intro wx hSw
                          obtain ⟨g1, g2⟩ := hSw
                          first | (go_simp; done) | (go_simp; with_reducible rfl)
                        try simp only [Act.put, List.setIfInBounds_toArray, List.set_cons_zero, List.set_cons_succ]
                        refine wpAnyH_take (i := 8) (oi := { dst := some 90, op := Op.binOp BinOp.gtr 3 (Operand.tmp 89) (Operand.const (Value.int IntKind.i64 0)) 3, type := 4, pos := "ref.go:72", after := #[{ on := 7, ground := Ground.data }, { on := 6, ground := Ground.guard }], guard := some (6, false) }) (v := .bool false) rfl (by kernel_rfl) (by kernel_rfl) (by kernel_rfl) (fun _ _ _ h => h) (Or.inl ⟨by rfl, ?_⟩) hH7 ?_
                        · intro wx hSw
                          obtain ⟨g1, g2⟩ := hSw
                          (go_simp; exact HKZ0.out)
                        try simp only [Act.put, List.setIfInBounds_toArray, List.set_cons_zero, List.set_cons_succ]
                        refine wpAnyH_take (i := 9) (oi := { dst := some 91, op := Op.move (Operand.tmp 90), type := 4, pos := "ref.go:72", after := #[{ on := 8, ground := Ground.data }, { on := 6, ground := Ground.chain }, { on := 6, ground := Ground.guard }], guard := some (6, false) }) (v := .bool false) rfl (by kernel_rfl) (by kernel_rfl) (by kernel_rfl) (fun _ _ _ h => h) (Or.inl ⟨by rfl, ?_⟩) hH7 ?_
                        · intro wx hSw
                          obtain ⟨g1, g2⟩ := hSw
                          first | (go_simp; done) | (go_simp; with_reducible rfl)
                        try simp only [Act.put, List.setIfInBounds_toArray, List.set_cons_zero, List.set_cons_succ]
                        refine wpAnyH_take (i := 10) (oi := { dst := some 92, op := Op.fieldAddr 29 (Operand.tmp 4) 1, type := 0, pos := "ref.go:72", after := #[{ on := 9, ground := Ground.guard }], guard := some (9, true) }) (v := undef) rfl (by kernel_rfl) (by kernel_rfl) (by kernel_rfl) (fun _ _ _ h => h) (Or.inr ⟨by rfl, rfl⟩) hH7 ?_
                        try simp only [Act.put, List.setIfInBounds_toArray, List.set_cons_zero, List.set_cons_succ]
                        refine wpAnyH_take (i := 11) (oi := { dst := some 93, op := Op.load 27 (Operand.tmp 92), type := 27, pos := "ref.go:72", after := #[{ on := 10, ground := Ground.data }, { on := 9, ground := Ground.guard }], guard := some (9, true) }) (v := undef) rfl (by kernel_rfl) (by kernel_rfl) (by kernel_rfl) (fun _ _ _ h => h) (Or.inr ⟨by rfl, rfl⟩) hH7 ?_
                        try simp only [Act.put, List.setIfInBounds_toArray, List.set_cons_zero, List.set_cons_succ]
                        refine wpAnyH_take (i := 12) (oi := { dst := some 94, op := Op.move (Operand.tmp 7), type := 3, pos := "ref.go:72", after := #[{ on := 9, ground := Ground.guard }], guard := some (9, true) }) (v := undef) rfl (by kernel_rfl) (by kernel_rfl) (by kernel_rfl) (fun _ _ _ h => h) (Or.inr ⟨by rfl, rfl⟩) hH7 ?_
                        try simp only [Act.put, List.setIfInBounds_toArray, List.set_cons_zero, List.set_cons_succ]
                        refine wpAnyH_take (i := 13) (oi := { dst := some 95, op := Op.binOp BinOp.sub 3 (Operand.tmp 94) (Operand.const (Value.int IntKind.i64 1)) 3, type := 3, pos := "ref.go:72", after := #[{ on := 12, ground := Ground.data }, { on := 9, ground := Ground.guard }], guard := some (9, true) }) (v := undef) rfl (by kernel_rfl) (by kernel_rfl) (by kernel_rfl) (fun _ _ _ h => h) (Or.inr ⟨by rfl, rfl⟩) hH7 ?_
                        try simp only [Act.put, List.setIfInBounds_toArray, List.set_cons_zero, List.set_cons_succ]
                        refine wpAnyH_take (i := 14) (oi := { dst := some 96, op := Op.indexAddr 27 (Operand.tmp 93) (Operand.tmp 95), type := 0, pos := "ref.go:72", after := #[{ on := 11, ground := Ground.data }, { on := 13, ground := Ground.data }, { on := 9, ground := Ground.guard }], guard := some (9, true) }) (v := undef) rfl (by kernel_rfl) (by kernel_rfl) (by kernel_rfl) (fun _ _ _ h => h) (Or.inr ⟨by rfl, rfl⟩) hH7 ?_
                        try simp only [Act.put, List.setIfInBounds_toArray, List.set_cons_zero, List.set_cons_succ]
                        refine wpAnyH_take (i := 15) (oi := { dst := some 97, op := Op.fieldAddr 74 (Operand.tmp 96) 0, type := 0, pos := "ref.go:72", after := #[{ on := 14, ground := Ground.data }, { on := 9, ground := Ground.guard }], guard := some (9, true) }) (v := undef) rfl (by kernel_rfl) (by kernel_rfl) (by kernel_rfl) (fun _ _ _ h => h) (Or.inr ⟨by rfl, rfl⟩) hH7 ?_
                        try simp only [Act.put, List.setIfInBounds_toArray, List.set_cons_zero, List.set_cons_succ]
                        refine wpAnyH_take (i := 16) (oi := { dst := some 98, op := Op.load 9 (Operand.tmp 97), type := 9, pos := "ref.go:72", after := #[{ on := 15, ground := Ground.data }, { on := 9, ground := Ground.guard }], guard := some (9, true) }) (v := undef) rfl (by kernel_rfl) (by kernel_rfl) (by kernel_rfl) (fun _ _ _ h => h) (Or.inr ⟨by rfl, rfl⟩) hH7 ?_
                        try simp only [Act.put, List.setIfInBounds_toArray, List.set_cons_zero, List.set_cons_succ]
                        refine wpAnyH_take (i := 17) (oi := { dst := some 99, op := Op.fieldAddr 74 (Operand.tmp 10) 0, type := 0, pos := "ref.go:72", after := #[{ on := 9, ground := Ground.guard }], guard := some (9, true) }) (v := undef) rfl (by kernel_rfl) (by kernel_rfl) (by kernel_rfl) (fun _ _ _ h => h) (Or.inr ⟨by rfl, rfl⟩) hH7 ?_
                        try simp only [Act.put, List.setIfInBounds_toArray, List.set_cons_zero, List.set_cons_succ]
                        refine wpAnyH_take (i := 18) (oi := { dst := some 100, op := Op.load 9 (Operand.tmp 99), type := 9, pos := "ref.go:72", after := #[{ on := 17, ground := Ground.data }, { on := 9, ground := Ground.guard }], guard := some (9, true) }) (v := undef) rfl (by kernel_rfl) (by kernel_rfl) (by kernel_rfl) (fun _ _ _ h => h) (Or.inr ⟨by rfl, rfl⟩) hH7 ?_
                        try simp only [Act.put, List.setIfInBounds_toArray, List.set_cons_zero, List.set_cons_succ]
                        refine wpAnyH_take (i := 19) (oi := { dst := some 101, op := Op.binOp BinOp.geq 9 (Operand.tmp 98) (Operand.tmp 100) 9, type := 4, pos := "ref.go:72", after := #[{ on := 16, ground := Ground.data }, { on := 18, ground := Ground.data }, { on := 9, ground := Ground.guard }], guard := some (9, true) }) (v := undef) rfl (by kernel_rfl) (by kernel_rfl) (by kernel_rfl) (fun _ _ _ h => h) (Or.inr ⟨by rfl, rfl⟩) hH7 ?_
                        try simp only [Act.put, List.setIfInBounds_toArray, List.set_cons_zero, List.set_cons_succ]
                        refine wpAnyH_take (i := 20) (oi := { dst := some 102, op := Op.pick (Operand.tmp 91) (Operand.tmp 101) (Operand.const (Value.bool false)), type := 4, pos := "ref.go:72", after := #[{ on := 9, ground := Ground.data }, { on := 19, ground := Ground.data }, { on := 6, ground := Ground.guard }], guard := some (6, false) }) (v := .bool false) rfl (by kernel_rfl) (by kernel_rfl) (by kernel_rfl) (fun _ _ _ h => h) (Or.inl ⟨by rfl, ?_⟩) hH7 ?_
                        · intro wx hSw
                          obtain ⟨g1, g2⟩ := hSw
                          first | (go_simp; done) | (go_simp; with_reducible rfl)
                        try simp only [Act.put, List.setIfInBounds_toArray, List.set_cons_zero, List.set_cons_succ]
                        refine wpAnyH_take (i := 21) (oi := { dst := some 103, op := Op.pick (Operand.tmp 88) (Operand.const (Value.bool true)) (Operand.tmp 102), type := 4, pos := "ref.go:72", after := #[{ on := 6, ground := Ground.data }, { on := 20, ground := Ground.data }], guard := none }) (v := .bool false) rfl (by kernel_rfl) (by kernel_rfl) (by kernel_rfl) (fun _ _ _ h => h) (Or.inl ⟨by rfl, ?_⟩) hH7 ?_
                        · intro wx hSw
                          obtain ⟨g1, g2⟩ := hSw
                          first | (go_simp; done) | (go_simp; with_reducible rfl)
                        try simp only [Act.put, List.setIfInBounds_toArray, List.set_cons_zero, List.set_cons_succ]
                        refine wpAnyH_done (by kernel_rfl) ?_ _
                        try simp only [Exit.then]
                        have hx := HR7.out
                        obtain ⟨a3, c3, V3, r1, r2, r3⟩ := hx.1.app (by omega) S1 S2 HSS.out.1 HSS.out.2
                        have RA : Hid ((Builtin.append_ #[27, 27] 27 #[.slice a2 k c2, .slice (some ⟨w7.heap.size, 0, none⟩) 1 1]).run Try.prog (w7.alloc (.cells #[.string S1, .string S2] 74)) = .ok (.slice a3 (k + 1) c3) V3) := r1
                        have HN3 : Hid (Rst w B2 B4 (kn : Int) s.data.toList (k + 1) a3 c3 (V3.setCell ⟨B4, 1, none⟩ (.slice a3 (k + 1) c3))) := r3
                        have q1 := hx.1.b4.cell (i := 1) rfl
                        have q2 := hx.2.cell (i := 0) rfl
                        have q3 := hx.2.cell (i := 1) rfl
                        have q4 := r2.cell (i := 1) rfl
                        have q5 := r2.fz
                        clear hx r1 r2 r3 HR7 HMY
                        go_wp2_with ((with_reducible apply st_append (x := .tmp 106)); (case ho => rfl); (case hgd => rfl); (case hr => exact RA.out))
                        go_roundw
                        case rel => exact ⟨k + 1, fr, hlt, by omega, rfl, by rw [Int.natCast_add]; rfl, HCK2.out.1, HCK2.out.2.1, HCK2.out.2.2.1, HCK2.out.2.2.2, a3, c3, HN3.out⟩
                        case measure => simp only [intOf]; omega
                      · obtain ⟨j, hj⟩ : ∃ j, k - 1 = j := ⟨_, rfl⟩
                        have hjk : j + 1 = k := by omega
                        have how := HBD.out.1.ow
                        have hdl := dec_len s.data.toList k
                        have how2 : wc.drew.ownsRow 0 74 2 (.slice a2 k c2) (dec s.data.toList k).length ((dec s.data.toList k).flatMap cv) := by rw [hdl]; exact how
                        obtain ⟨a9, c9, e9, hrw, hl9, hn9⟩ := own_rw cv_len how2
                        have hsl : Sl cv 2 wc.drew (.slice a2 k c2) (dec s.data.toList k) := ⟨a9, c9, e9, hrw, hl9, hn9⟩
                        obtain ⟨rb, ro, c', hv, hc', hb, hcs⟩ := hsl.cells (fun e => by rw [e] at hdl; simp at hdl; omega)
                        rw [hdl] at hv
                        cases hv
                        have y0 := (hcs j (by rw [hdl]; omega)).1
                        obtain ⟨S0, hS0⟩ : ∃ S, (⟨(dec s.data.toList k)[j].1.toArray⟩ : ByteArray) = S := ⟨_, rfl⟩
                        have HS00 : Hid (S0.data.toList = keyB s.data.toList (k - 1)) := by
                          show _ = _
                          rw [← hS0, hj]
                          exact congrArg Prod.fst (dec_get s.data.toList k j (by omega) (by rw [hdl]; omega))
                        rw [hS0] at y0
                        have HSP : Hid (wc.drew.cell? ⟨B10, 0, none⟩ = some (.string S1) ∧ wc.drew.cell? ⟨B10, 1, none⟩ = some (.string S2) ∧ wc.drew.cell? ⟨B4, 1, none⟩ = some (.slice (some ⟨rb, ro, none⟩) k c2) ∧ wc.drew.cell? ⟨rb, ro + j * 2, none⟩ = some (.string S0)) := ⟨HS0.out.1, HS0.out.2, HBD.out.1.b4.cell (i := 1) rfl, y0⟩
                        have HK1 : Hid (0 < k) := hk0
                        have HWK : Hid (IntKind.i64.wrap ((k : Int) - 1) = (k : Int) - 1) := wrapi_of _ (by omega)
                        have hj2 : (k : Int) - 1 < (k : Int) := by omega
                        have hj3 : 0 ≤ (k : Int) - 1 := by omega
                        have hj4 : ((k : Int) - 1).toNat = j := by omega
                        have hk00 : (0 : Int) < (k : Int) := by omega
                        have HSL : Hid (Sl cv 2 wc.drew (.slice (some ⟨rb, ro, none⟩) k c2) (dec s.data.toList k)) := hsl
                        have HMY : Hid (∀ V, V = wc.drew → Calls Try.prog 29 #[.string S1, .string S2] V fun e w' => e = .returned (.bool true) ∧ (w'.cell? ⟨B10, 0, none⟩ = some (.string S1) ∧ w'.cell? ⟨B10, 1, none⟩ = some (.string S2) ∧ w'.cell? ⟨B4, 1, none⟩ = some (.slice (some ⟨rb, ro, none⟩) k c2) ∧ w'.cell? ⟨rb, ro + j * 2, none⟩ = some (.string S0)) ∧ Hid (Rst w B2 B4 (kn : Int) s.data.toList k (some ⟨rb, ro, none⟩) c2 w' ∧ Blk w' B10 74 [.string S1, .string S2])) := fun V hV => by
                          subst hV
                          have := rmay_is S1 S2 (by have := HSI.out; omega) (by have := HSI.out; omega) wc.drew
                          rw [decide_eq_true hm] at this
                          exact this.mono fun e w' ⟨q1, q2⟩ => ⟨q1, ⟨(HBD.out.2.step q2).cell rfl, (HBD.out.2.step q2).cell rfl, (HBD.out.1.step q2).b4.cell (i := 1) rfl, cell_kept HSP.out.2.2.2 q2⟩, HBD.out.1.step q2, HBD.out.2.step q2⟩
                        clear hsl hcs hb how how2 hrw e9 hl9 hn9 y0 hS0 hdl hc' hj hk0
                        by_cases hbl : Op.bytesLess S0.data.toList S1.data.toList = true
                        · have hbt : Op.bytesLess S0.toList S1.toList = true := by rw [ByteArray.toList_eq, ByteArray.toList_eq]; exact hbl
                          have HCK2 : Hid (endB s.data.toList (k + 1) = fr ∧ 8 + 2 * (k + 1) ≤ fr ∧ (0 < k + 1 → 8 + 2 * n ≤ fr) ∧ (∀ j, j < k + 1 → CK s.data.toList j)) := HCKI.out (.inr (by rw [← HS00.out, ← HSS.out.1]; exact hbl))
                          clear HCKI hm HB HBD HI HG HS0
                          go_upto_region 15 with fail
                          refine wp_region_held_drew (S := (fun (V : World) => V.cell? ⟨B10, 0, none⟩ = some (.string S1) ∧ V.cell? ⟨B10, 1, none⟩ = some (.string S2) ∧ V.cell? ⟨B4, 1, none⟩ = some (.slice (some ⟨rb, ro, none⟩) k c2) ∧ V.cell? ⟨rb, ro + j * 2, none⟩ = some (.string S0))) (by kernel_rfl) HSP.out (fun hH => ?_)
                          refine wpAnyH_take (i := 0) (oi := { dst := some 82, op := Op.fieldAddr 74 (Operand.tmp 10) 0, type := 0, pos := "ref.go:72", after := #[], guard := none }) (v := .pointer (some ⟨B10, 0, none⟩)) rfl (by kernel_rfl) (by kernel_rfl) (by kernel_rfl) (fun _ _ _ h => h) (Or.inl ⟨by rfl, ?_⟩) hH ?_
                          · intro wx hSw
                            obtain ⟨g1, g2, g3, g4⟩ := hSw
                            first | (go_simp; done) | (go_simp; with_reducible rfl)
                          try simp only [Act.put, List.setIfInBounds_toArray, List.set_cons_zero, List.set_cons_succ]
                          refine wpAnyH_take (i := 1) (oi := { dst := some 83, op := Op.load 9 (Operand.tmp 82), type := 9, pos := "ref.go:72", after := #[{ on := 0, ground := Ground.data }], guard := none }) (v := .string S1) rfl (by kernel_rfl) (by kernel_rfl) (by kernel_rfl) (fun _ _ _ h => h) (Or.inl ⟨by rfl, ?_⟩) hH ?_
                          · intro wx hSw
                            obtain ⟨g1, g2, g3, g4⟩ := hSw
                            first | (go_simp; done) | (go_simp; with_reducible rfl)
                          try simp only [Act.put, List.setIfInBounds_toArray, List.set_cons_zero, List.set_cons_succ]
                          refine wpAnyH_take (i := 2) (oi := { dst := some 84, op := Op.fieldAddr 74 (Operand.tmp 10) 1, type := 0, pos := "ref.go:72", after := #[], guard := none }) (v := .pointer (some ⟨B10, 1, none⟩)) rfl (by kernel_rfl) (by kernel_rfl) (by kernel_rfl) (fun _ _ _ h => h) (Or.inl ⟨by rfl, ?_⟩) hH ?_
                          · intro wx hSw
                            obtain ⟨g1, g2, g3, g4⟩ := hSw
                            first | (go_simp; done) | (go_simp; with_reducible rfl)
                          try simp only [Act.put, List.setIfInBounds_toArray, List.set_cons_zero, List.set_cons_succ]
                          refine wpAnyH_take (i := 3) (oi := { dst := some 85, op := Op.load 9 (Operand.tmp 84), type := 9, pos := "ref.go:72", after := #[{ on := 2, ground := Ground.data }], guard := none }) (v := .string S2) rfl (by kernel_rfl) (by kernel_rfl) (by kernel_rfl) (fun _ _ _ h => h) (Or.inl ⟨by rfl, ?_⟩) hH ?_
                          · intro wx hSw
                            obtain ⟨g1, g2, g3, g4⟩ := hSw
                            first | (go_simp; done) | (go_simp; with_reducible rfl)
                          try simp only [Act.put, List.setIfInBounds_toArray, List.set_cons_zero, List.set_cons_succ]
                          refine wpAnyH_ready (rs := [4]) (by kernel_rfl) (by simp) ?_
                          refine AllReadyH.cons rfl (fun K hK => ?_) AllReadyH.nil
                          go_simp
                          refine Calls.mono (HMY.out _ rfl) ?_
                          rintro e w7 ⟨rfl, hS7, HR7⟩
                          refine hK.out _ _ hS7 (fun hH7 => ?_)
                          clear hK K hH
                          try simp only [Act.put, List.setIfInBounds_toArray, List.set_cons_zero, List.set_cons_succ]
                          refine wpAnyH_take (i := 5) (oi := { dst := some 87, op := Op.unOp UnOp.not 4 (Operand.tmp 86), type := 4, pos := "ref.go:72", after := #[{ on := 4, ground := Ground.data }], guard := none }) (v := .bool false) rfl (by kernel_rfl) (by kernel_rfl) (by kernel_rfl) (fun _ _ _ h => h) (Or.inl ⟨by rfl, ?_⟩) hH7 ?_
                          · intro wx hSw
                            obtain ⟨g1, g2, g3, g4⟩ := hSw
                            first | (go_simp; done) | (go_simp; with_reducible rfl)
                          try simp only [Act.put, List.setIfInBounds_toArray, List.set_cons_zero, List.set_cons_succ]
                          refine wpAnyH_take (i := 6) (oi := { dst := some 88, op := Op.move (Operand.tmp 87), type := 4, pos := "ref.go:72", after := #[{ on := 5, ground := Ground.data }, { on := 4, ground := Ground.chain }], guard := none }) (v := .bool false) rfl (by kernel_rfl) (by kernel_rfl) (by kernel_rfl) (fun _ _ _ h => h) (Or.inl ⟨by rfl, ?_⟩) hH7 ?_
                          · intro wx hSw
                            obtain ⟨g1, g2, g3, g4⟩ := hSw
                            first | (go_simp; done) | (go_simp; with_reducible rfl)
                          try simp only [Act.put, List.setIfInBounds_toArray, List.set_cons_zero, List.set_cons_succ]
                          refine wpAnyH_take (i := 7) (oi := { dst := some 89, op := Op.move (Operand.tmp 7), type := 3, pos := "ref.go:72", after := #[{ on := 6, ground := Ground.guard }], guard := some (6, false) }) (v := .int .i64 (k : Int)) rfl (by kernel_rfl) (by kernel_rfl) (by kernel_rfl) (fun _ _ _ h => h) (Or.inl ⟨by rfl, ?_⟩) hH7 ?_
                          · intro wx hSw
                            obtain ⟨g1, g2, g3, g4⟩ := hSw
                            first | (go_simp; done) | (go_simp; with_reducible rfl)
                          try simp only [Act.put, List.setIfInBounds_toArray, List.set_cons_zero, List.set_cons_succ]
                          refine wpAnyH_take (i := 8) (oi := { dst := some 90, op := Op.binOp BinOp.gtr 3 (Operand.tmp 89) (Operand.const (Value.int IntKind.i64 0)) 3, type := 4, pos := "ref.go:72", after := #[{ on := 7, ground := Ground.data }, { on := 6, ground := Ground.guard }], guard := some (6, false) }) (v := .bool true) rfl (by kernel_rfl) (by kernel_rfl) (by kernel_rfl) (fun _ _ _ h => h) (Or.inl ⟨by rfl, ?_⟩) hH7 ?_
                          · intro wx hSw
                            obtain ⟨g1, g2, g3, g4⟩ := hSw
                            (go_simp; exact HK1.out)
                          try simp only [Act.put, List.setIfInBounds_toArray, List.set_cons_zero, List.set_cons_succ]
                          refine wpAnyH_take (i := 9) (oi := { dst := some 91, op := Op.move (Operand.tmp 90), type := 4, pos := "ref.go:72", after := #[{ on := 8, ground := Ground.data }, { on := 6, ground := Ground.chain }, { on := 6, ground := Ground.guard }], guard := some (6, false) }) (v := .bool true) rfl (by kernel_rfl) (by kernel_rfl) (by kernel_rfl) (fun _ _ _ h => h) (Or.inl ⟨by rfl, ?_⟩) hH7 ?_
                          · intro wx hSw
                            obtain ⟨g1, g2, g3, g4⟩ := hSw
                            first | (go_simp; done) | (go_simp; with_reducible rfl)
                          try simp only [Act.put, List.setIfInBounds_toArray, List.set_cons_zero, List.set_cons_succ]
                          refine wpAnyH_take (i := 10) (oi := { dst := some 92, op := Op.fieldAddr 29 (Operand.tmp 4) 1, type := 0, pos := "ref.go:72", after := #[{ on := 9, ground := Ground.guard }], guard := some (9, true) }) (v := .pointer (some ⟨B4, 1, none⟩)) rfl (by kernel_rfl) (by kernel_rfl) (by kernel_rfl) (fun _ _ _ h => h) (Or.inl ⟨by rfl, ?_⟩) hH7 ?_
                          · intro wx hSw
                            obtain ⟨g1, g2, g3, g4⟩ := hSw
                            first | (go_simp; done) | (go_simp; with_reducible rfl)
                          try simp only [Act.put, List.setIfInBounds_toArray, List.set_cons_zero, List.set_cons_succ]
                          refine wpAnyH_take (i := 11) (oi := { dst := some 93, op := Op.load 27 (Operand.tmp 92), type := 27, pos := "ref.go:72", after := #[{ on := 10, ground := Ground.data }, { on := 9, ground := Ground.guard }], guard := some (9, true) }) (v := .slice (some ⟨rb, ro, none⟩) k c2) rfl (by kernel_rfl) (by kernel_rfl) (by kernel_rfl) (fun _ _ _ h => h) (Or.inl ⟨by rfl, ?_⟩) hH7 ?_
                          · intro wx hSw
                            obtain ⟨g1, g2, g3, g4⟩ := hSw
                            first | (go_simp; done) | (go_simp; with_reducible rfl)
                          try simp only [Act.put, List.setIfInBounds_toArray, List.set_cons_zero, List.set_cons_succ]
                          refine wpAnyH_take (i := 12) (oi := { dst := some 94, op := Op.move (Operand.tmp 7), type := 3, pos := "ref.go:72", after := #[{ on := 9, ground := Ground.guard }], guard := some (9, true) }) (v := .int .i64 (k : Int)) rfl (by kernel_rfl) (by kernel_rfl) (by kernel_rfl) (fun _ _ _ h => h) (Or.inl ⟨by rfl, ?_⟩) hH7 ?_
                          · intro wx hSw
                            obtain ⟨g1, g2, g3, g4⟩ := hSw
                            first | (go_simp; done) | (go_simp; with_reducible rfl)
                          try simp only [Act.put, List.setIfInBounds_toArray, List.set_cons_zero, List.set_cons_succ]
                          refine wpAnyH_take (i := 13) (oi := { dst := some 95, op := Op.binOp BinOp.sub 3 (Operand.tmp 94) (Operand.const (Value.int IntKind.i64 1)) 3, type := 3, pos := "ref.go:72", after := #[{ on := 12, ground := Ground.data }, { on := 9, ground := Ground.guard }], guard := some (9, true) }) (v := .int .i64 ((k : Int) - 1)) rfl (by kernel_rfl) (by kernel_rfl) (by kernel_rfl) (fun _ _ _ h => h) (Or.inl ⟨by rfl, ?_⟩) hH7 ?_
                          · intro wx hSw
                            obtain ⟨g1, g2, g3, g4⟩ := hSw
                            (go_simp; exact HWK.out)
                          try simp only [Act.put, List.setIfInBounds_toArray, List.set_cons_zero, List.set_cons_succ]
                          refine wpAnyH_take (i := 14) (oi := { dst := some 96, op := Op.indexAddr 27 (Operand.tmp 93) (Operand.tmp 95), type := 0, pos := "ref.go:72", after := #[{ on := 11, ground := Ground.data }, { on := 13, ground := Ground.data }, { on := 9, ground := Ground.guard }], guard := some (9, true) }) (v := .pointer (some ⟨rb, ro + j * 2, none⟩)) rfl (by kernel_rfl) (by kernel_rfl) (by kernel_rfl) (fun _ _ _ h => h) (Or.inl ⟨by rfl, ?_⟩) hH7 ?_
                          · intro wx hSw
                            obtain ⟨g1, g2, g3, g4⟩ := hSw
                            (go_simp; intro zz; have := HK1.out; omega)
                          try simp only [Act.put, List.setIfInBounds_toArray, List.set_cons_zero, List.set_cons_succ]
                          refine wpAnyH_take (i := 15) (oi := { dst := some 97, op := Op.fieldAddr 74 (Operand.tmp 96) 0, type := 0, pos := "ref.go:72", after := #[{ on := 14, ground := Ground.data }, { on := 9, ground := Ground.guard }], guard := some (9, true) }) (v := .pointer (some ⟨rb, ro + j * 2, none⟩)) rfl (by kernel_rfl) (by kernel_rfl) (by kernel_rfl) (fun _ _ _ h => h) (Or.inl ⟨by rfl, ?_⟩) hH7 ?_
                          · intro wx hSw
                            obtain ⟨g1, g2, g3, g4⟩ := hSw
                            first | (go_simp; done) | (go_simp; with_reducible rfl)
                          try simp only [Act.put, List.setIfInBounds_toArray, List.set_cons_zero, List.set_cons_succ]
                          refine wpAnyH_take (i := 16) (oi := { dst := some 98, op := Op.load 9 (Operand.tmp 97), type := 9, pos := "ref.go:72", after := #[{ on := 15, ground := Ground.data }, { on := 9, ground := Ground.guard }], guard := some (9, true) }) (v := .string S0) rfl (by kernel_rfl) (by kernel_rfl) (by kernel_rfl) (fun _ _ _ h => h) (Or.inl ⟨by rfl, ?_⟩) hH7 ?_
                          · intro wx hSw
                            obtain ⟨g1, g2, g3, g4⟩ := hSw
                            first | (go_simp; done) | (go_simp; with_reducible rfl)
                          try simp only [Act.put, List.setIfInBounds_toArray, List.set_cons_zero, List.set_cons_succ]
                          refine wpAnyH_take (i := 17) (oi := { dst := some 99, op := Op.fieldAddr 74 (Operand.tmp 10) 0, type := 0, pos := "ref.go:72", after := #[{ on := 9, ground := Ground.guard }], guard := some (9, true) }) (v := .pointer (some ⟨B10, 0, none⟩)) rfl (by kernel_rfl) (by kernel_rfl) (by kernel_rfl) (fun _ _ _ h => h) (Or.inl ⟨by rfl, ?_⟩) hH7 ?_
                          · intro wx hSw
                            obtain ⟨g1, g2, g3, g4⟩ := hSw
                            first | (go_simp; done) | (go_simp; with_reducible rfl)
                          try simp only [Act.put, List.setIfInBounds_toArray, List.set_cons_zero, List.set_cons_succ]
                          refine wpAnyH_take (i := 18) (oi := { dst := some 100, op := Op.load 9 (Operand.tmp 99), type := 9, pos := "ref.go:72", after := #[{ on := 17, ground := Ground.data }, { on := 9, ground := Ground.guard }], guard := some (9, true) }) (v := .string S1) rfl (by kernel_rfl) (by kernel_rfl) (by kernel_rfl) (fun _ _ _ h => h) (Or.inl ⟨by rfl, ?_⟩) hH7 ?_
                          · intro wx hSw
                            obtain ⟨g1, g2, g3, g4⟩ := hSw
                            first | (go_simp; done) | (go_simp; with_reducible rfl)
                          try simp only [Act.put, List.setIfInBounds_toArray, List.set_cons_zero, List.set_cons_succ]
                          refine wpAnyH_take (i := 19) (oi := { dst := some 101, op := Op.binOp BinOp.geq 9 (Operand.tmp 98) (Operand.tmp 100) 9, type := 4, pos := "ref.go:72", after := #[{ on := 16, ground := Ground.data }, { on := 18, ground := Ground.data }, { on := 9, ground := Ground.guard }], guard := some (9, true) }) (v := .bool false) rfl (by kernel_rfl) (by kernel_rfl) (by kernel_rfl) (fun _ _ _ h => h) (Or.inl ⟨by rfl, ?_⟩) hH7 ?_
                          · intro wx hSw
                            obtain ⟨g1, g2, g3, g4⟩ := hSw
                            first | (go_simp; done) | (go_simp; with_reducible rfl)
                          try simp only [Act.put, List.setIfInBounds_toArray, List.set_cons_zero, List.set_cons_succ]
                          refine wpAnyH_take (i := 20) (oi := { dst := some 102, op := Op.pick (Operand.tmp 91) (Operand.tmp 101) (Operand.const (Value.bool false)), type := 4, pos := "ref.go:72", after := #[{ on := 9, ground := Ground.data }, { on := 19, ground := Ground.data }, { on := 6, ground := Ground.guard }], guard := some (6, false) }) (v := .bool false) rfl (by kernel_rfl) (by kernel_rfl) (by kernel_rfl) (fun _ _ _ h => h) (Or.inl ⟨by rfl, ?_⟩) hH7 ?_
                          · intro wx hSw
                            obtain ⟨g1, g2, g3, g4⟩ := hSw
                            first | (go_simp; done) | (go_simp; with_reducible rfl)
                          try simp only [Act.put, List.setIfInBounds_toArray, List.set_cons_zero, List.set_cons_succ]
                          refine wpAnyH_take (i := 21) (oi := { dst := some 103, op := Op.pick (Operand.tmp 88) (Operand.const (Value.bool true)) (Operand.tmp 102), type := 4, pos := "ref.go:72", after := #[{ on := 6, ground := Ground.data }, { on := 20, ground := Ground.data }], guard := none }) (v := .bool false) rfl (by kernel_rfl) (by kernel_rfl) (by kernel_rfl) (fun _ _ _ h => h) (Or.inl ⟨by rfl, ?_⟩) hH7 ?_
                          · intro wx hSw
                            obtain ⟨g1, g2, g3, g4⟩ := hSw
                            first | (go_simp; done) | (go_simp; with_reducible rfl)
                          try simp only [Act.put, List.setIfInBounds_toArray, List.set_cons_zero, List.set_cons_succ]
                          refine wpAnyH_done (by kernel_rfl) ?_ _
                          try simp only [Exit.then]
                          have hx := HR7.out
                          obtain ⟨a3, c3, V3, r1, r2, r3⟩ := hx.1.app (by omega) S1 S2 HSS.out.1 HSS.out.2
                          have RA : Hid ((Builtin.append_ #[27, 27] 27 #[.slice (some ⟨rb, ro, none⟩) k c2, .slice (some ⟨w7.heap.size, 0, none⟩) 1 1]).run Try.prog (w7.alloc (.cells #[.string S1, .string S2] 74)) = .ok (.slice a3 (k + 1) c3) V3) := r1
                          have HN3 : Hid (Rst w B2 B4 (kn : Int) s.data.toList (k + 1) a3 c3 (V3.setCell ⟨B4, 1, none⟩ (.slice a3 (k + 1) c3))) := r3
                          have q1 := hx.1.b4.cell (i := 1) rfl
                          have q2 := hx.2.cell (i := 0) rfl
                          have q3 := hx.2.cell (i := 1) rfl
                          have q4 := r2.cell (i := 1) rfl
                          have q5 := r2.fz
                          clear hx r1 r2 r3 HR7 HMY
                          go_wp2_with ((with_reducible apply st_append (x := .tmp 106)); (case ho => rfl); (case hgd => rfl); (case hr => exact RA.out))
                          go_roundw
                          case rel => exact ⟨k + 1, fr, hlt, by omega, rfl, by rw [Int.natCast_add]; rfl, HCK2.out.1, HCK2.out.2.1, HCK2.out.2.2.1, HCK2.out.2.2.2, a3, c3, HN3.out⟩
                          case measure => simp only [intOf]; omega
                        · have HNGx : Hid (¬ Good s) := fun hg => by
                            have := (HG.out hg).2.2.2.2.2
                            rw [← HS00.out, ← HSS.out.1] at this
                            rcases this with q | q
                            · omega
                            · exact hbl q
                          have hbt : Op.bytesLess S0.toList S1.toList = false := by rw [ByteArray.toList_eq, ByteArray.toList_eq]; exact Bool.eq_false_iff.2 hbl
                          clear HCKI hm HB HBD HI HG HS0
                          go_upto_region 15 with fail
                          refine wp_region_held_drew (S := (fun (V : World) => V.cell? ⟨B10, 0, none⟩ = some (.string S1) ∧ V.cell? ⟨B10, 1, none⟩ = some (.string S2) ∧ V.cell? ⟨B4, 1, none⟩ = some (.slice (some ⟨rb, ro, none⟩) k c2) ∧ V.cell? ⟨rb, ro + j * 2, none⟩ = some (.string S0))) (by kernel_rfl) HSP.out (fun hH => ?_)
                          refine wpAnyH_take (i := 0) (oi := { dst := some 82, op := Op.fieldAddr 74 (Operand.tmp 10) 0, type := 0, pos := "ref.go:72", after := #[], guard := none }) (v := .pointer (some ⟨B10, 0, none⟩)) rfl (by kernel_rfl) (by kernel_rfl) (by kernel_rfl) (fun _ _ _ h => h) (Or.inl ⟨by rfl, ?_⟩) hH ?_
                          · intro wx hSw
                            obtain ⟨g1, g2, g3, g4⟩ := hSw
                            first | (go_simp; done) | (go_simp; with_reducible rfl)
                          try simp only [Act.put, List.setIfInBounds_toArray, List.set_cons_zero, List.set_cons_succ]
                          refine wpAnyH_take (i := 1) (oi := { dst := some 83, op := Op.load 9 (Operand.tmp 82), type := 9, pos := "ref.go:72", after := #[{ on := 0, ground := Ground.data }], guard := none }) (v := .string S1) rfl (by kernel_rfl) (by kernel_rfl) (by kernel_rfl) (fun _ _ _ h => h) (Or.inl ⟨by rfl, ?_⟩) hH ?_
                          · intro wx hSw
                            obtain ⟨g1, g2, g3, g4⟩ := hSw
                            first | (go_simp; done) | (go_simp; with_reducible rfl)
                          try simp only [Act.put, List.setIfInBounds_toArray, List.set_cons_zero, List.set_cons_succ]
                          refine wpAnyH_take (i := 2) (oi := { dst := some 84, op := Op.fieldAddr 74 (Operand.tmp 10) 1, type := 0, pos := "ref.go:72", after := #[], guard := none }) (v := .pointer (some ⟨B10, 1, none⟩)) rfl (by kernel_rfl) (by kernel_rfl) (by kernel_rfl) (fun _ _ _ h => h) (Or.inl ⟨by rfl, ?_⟩) hH ?_
                          · intro wx hSw
                            obtain ⟨g1, g2, g3, g4⟩ := hSw
                            first | (go_simp; done) | (go_simp; with_reducible rfl)
                          try simp only [Act.put, List.setIfInBounds_toArray, List.set_cons_zero, List.set_cons_succ]
                          refine wpAnyH_take (i := 3) (oi := { dst := some 85, op := Op.load 9 (Operand.tmp 84), type := 9, pos := "ref.go:72", after := #[{ on := 2, ground := Ground.data }], guard := none }) (v := .string S2) rfl (by kernel_rfl) (by kernel_rfl) (by kernel_rfl) (fun _ _ _ h => h) (Or.inl ⟨by rfl, ?_⟩) hH ?_
                          · intro wx hSw
                            obtain ⟨g1, g2, g3, g4⟩ := hSw
                            first | (go_simp; done) | (go_simp; with_reducible rfl)
                          try simp only [Act.put, List.setIfInBounds_toArray, List.set_cons_zero, List.set_cons_succ]
                          refine wpAnyH_ready (rs := [4]) (by kernel_rfl) (by simp) ?_
                          refine AllReadyH.cons rfl (fun K hK => ?_) AllReadyH.nil
                          go_simp
                          refine Calls.mono (HMY.out _ rfl) ?_
                          rintro e w7 ⟨rfl, hS7, HR7⟩
                          refine hK.out _ _ hS7 (fun hH7 => ?_)
                          clear hK K hH
                          try simp only [Act.put, List.setIfInBounds_toArray, List.set_cons_zero, List.set_cons_succ]
                          refine wpAnyH_take (i := 5) (oi := { dst := some 87, op := Op.unOp UnOp.not 4 (Operand.tmp 86), type := 4, pos := "ref.go:72", after := #[{ on := 4, ground := Ground.data }], guard := none }) (v := .bool false) rfl (by kernel_rfl) (by kernel_rfl) (by kernel_rfl) (fun _ _ _ h => h) (Or.inl ⟨by rfl, ?_⟩) hH7 ?_
                          · intro wx hSw
                            obtain ⟨g1, g2, g3, g4⟩ := hSw
                            first | (go_simp; done) | (go_simp; with_reducible rfl)
                          try simp only [Act.put, List.setIfInBounds_toArray, List.set_cons_zero, List.set_cons_succ]
                          refine wpAnyH_take (i := 6) (oi := { dst := some 88, op := Op.move (Operand.tmp 87), type := 4, pos := "ref.go:72", after := #[{ on := 5, ground := Ground.data }, { on := 4, ground := Ground.chain }], guard := none }) (v := .bool false) rfl (by kernel_rfl) (by kernel_rfl) (by kernel_rfl) (fun _ _ _ h => h) (Or.inl ⟨by rfl, ?_⟩) hH7 ?_
                          · intro wx hSw
                            obtain ⟨g1, g2, g3, g4⟩ := hSw
                            first | (go_simp; done) | (go_simp; with_reducible rfl)
                          try simp only [Act.put, List.setIfInBounds_toArray, List.set_cons_zero, List.set_cons_succ]
                          refine wpAnyH_take (i := 7) (oi := { dst := some 89, op := Op.move (Operand.tmp 7), type := 3, pos := "ref.go:72", after := #[{ on := 6, ground := Ground.guard }], guard := some (6, false) }) (v := .int .i64 (k : Int)) rfl (by kernel_rfl) (by kernel_rfl) (by kernel_rfl) (fun _ _ _ h => h) (Or.inl ⟨by rfl, ?_⟩) hH7 ?_
                          · intro wx hSw
                            obtain ⟨g1, g2, g3, g4⟩ := hSw
                            first | (go_simp; done) | (go_simp; with_reducible rfl)
                          try simp only [Act.put, List.setIfInBounds_toArray, List.set_cons_zero, List.set_cons_succ]
                          refine wpAnyH_take (i := 8) (oi := { dst := some 90, op := Op.binOp BinOp.gtr 3 (Operand.tmp 89) (Operand.const (Value.int IntKind.i64 0)) 3, type := 4, pos := "ref.go:72", after := #[{ on := 7, ground := Ground.data }, { on := 6, ground := Ground.guard }], guard := some (6, false) }) (v := .bool true) rfl (by kernel_rfl) (by kernel_rfl) (by kernel_rfl) (fun _ _ _ h => h) (Or.inl ⟨by rfl, ?_⟩) hH7 ?_
                          · intro wx hSw
                            obtain ⟨g1, g2, g3, g4⟩ := hSw
                            (go_simp; exact HK1.out)
                          try simp only [Act.put, List.setIfInBounds_toArray, List.set_cons_zero, List.set_cons_succ]
                          refine wpAnyH_take (i := 9) (oi := { dst := some 91, op := Op.move (Operand.tmp 90), type := 4, pos := "ref.go:72", after := #[{ on := 8, ground := Ground.data }, { on := 6, ground := Ground.chain }, { on := 6, ground := Ground.guard }], guard := some (6, false) }) (v := .bool true) rfl (by kernel_rfl) (by kernel_rfl) (by kernel_rfl) (fun _ _ _ h => h) (Or.inl ⟨by rfl, ?_⟩) hH7 ?_
                          · intro wx hSw
                            obtain ⟨g1, g2, g3, g4⟩ := hSw
                            first | (go_simp; done) | (go_simp; with_reducible rfl)
                          try simp only [Act.put, List.setIfInBounds_toArray, List.set_cons_zero, List.set_cons_succ]
                          refine wpAnyH_take (i := 10) (oi := { dst := some 92, op := Op.fieldAddr 29 (Operand.tmp 4) 1, type := 0, pos := "ref.go:72", after := #[{ on := 9, ground := Ground.guard }], guard := some (9, true) }) (v := .pointer (some ⟨B4, 1, none⟩)) rfl (by kernel_rfl) (by kernel_rfl) (by kernel_rfl) (fun _ _ _ h => h) (Or.inl ⟨by rfl, ?_⟩) hH7 ?_
                          · intro wx hSw
                            obtain ⟨g1, g2, g3, g4⟩ := hSw
                            first | (go_simp; done) | (go_simp; with_reducible rfl)
                          try simp only [Act.put, List.setIfInBounds_toArray, List.set_cons_zero, List.set_cons_succ]
                          refine wpAnyH_take (i := 11) (oi := { dst := some 93, op := Op.load 27 (Operand.tmp 92), type := 27, pos := "ref.go:72", after := #[{ on := 10, ground := Ground.data }, { on := 9, ground := Ground.guard }], guard := some (9, true) }) (v := .slice (some ⟨rb, ro, none⟩) k c2) rfl (by kernel_rfl) (by kernel_rfl) (by kernel_rfl) (fun _ _ _ h => h) (Or.inl ⟨by rfl, ?_⟩) hH7 ?_
                          · intro wx hSw
                            obtain ⟨g1, g2, g3, g4⟩ := hSw
                            first | (go_simp; done) | (go_simp; with_reducible rfl)
                          try simp only [Act.put, List.setIfInBounds_toArray, List.set_cons_zero, List.set_cons_succ]
                          refine wpAnyH_take (i := 12) (oi := { dst := some 94, op := Op.move (Operand.tmp 7), type := 3, pos := "ref.go:72", after := #[{ on := 9, ground := Ground.guard }], guard := some (9, true) }) (v := .int .i64 (k : Int)) rfl (by kernel_rfl) (by kernel_rfl) (by kernel_rfl) (fun _ _ _ h => h) (Or.inl ⟨by rfl, ?_⟩) hH7 ?_
                          · intro wx hSw
                            obtain ⟨g1, g2, g3, g4⟩ := hSw
                            first | (go_simp; done) | (go_simp; with_reducible rfl)
                          try simp only [Act.put, List.setIfInBounds_toArray, List.set_cons_zero, List.set_cons_succ]
                          refine wpAnyH_take (i := 13) (oi := { dst := some 95, op := Op.binOp BinOp.sub 3 (Operand.tmp 94) (Operand.const (Value.int IntKind.i64 1)) 3, type := 3, pos := "ref.go:72", after := #[{ on := 12, ground := Ground.data }, { on := 9, ground := Ground.guard }], guard := some (9, true) }) (v := .int .i64 ((k : Int) - 1)) rfl (by kernel_rfl) (by kernel_rfl) (by kernel_rfl) (fun _ _ _ h => h) (Or.inl ⟨by rfl, ?_⟩) hH7 ?_
                          · intro wx hSw
                            obtain ⟨g1, g2, g3, g4⟩ := hSw
                            (go_simp; exact HWK.out)
                          try simp only [Act.put, List.setIfInBounds_toArray, List.set_cons_zero, List.set_cons_succ]
                          refine wpAnyH_take (i := 14) (oi := { dst := some 96, op := Op.indexAddr 27 (Operand.tmp 93) (Operand.tmp 95), type := 0, pos := "ref.go:72", after := #[{ on := 11, ground := Ground.data }, { on := 13, ground := Ground.data }, { on := 9, ground := Ground.guard }], guard := some (9, true) }) (v := .pointer (some ⟨rb, ro + j * 2, none⟩)) rfl (by kernel_rfl) (by kernel_rfl) (by kernel_rfl) (fun _ _ _ h => h) (Or.inl ⟨by rfl, ?_⟩) hH7 ?_
                          · intro wx hSw
                            obtain ⟨g1, g2, g3, g4⟩ := hSw
                            (go_simp; intro zz; have := HK1.out; omega)
                          try simp only [Act.put, List.setIfInBounds_toArray, List.set_cons_zero, List.set_cons_succ]
                          refine wpAnyH_take (i := 15) (oi := { dst := some 97, op := Op.fieldAddr 74 (Operand.tmp 96) 0, type := 0, pos := "ref.go:72", after := #[{ on := 14, ground := Ground.data }, { on := 9, ground := Ground.guard }], guard := some (9, true) }) (v := .pointer (some ⟨rb, ro + j * 2, none⟩)) rfl (by kernel_rfl) (by kernel_rfl) (by kernel_rfl) (fun _ _ _ h => h) (Or.inl ⟨by rfl, ?_⟩) hH7 ?_
                          · intro wx hSw
                            obtain ⟨g1, g2, g3, g4⟩ := hSw
                            first | (go_simp; done) | (go_simp; with_reducible rfl)
                          try simp only [Act.put, List.setIfInBounds_toArray, List.set_cons_zero, List.set_cons_succ]
                          refine wpAnyH_take (i := 16) (oi := { dst := some 98, op := Op.load 9 (Operand.tmp 97), type := 9, pos := "ref.go:72", after := #[{ on := 15, ground := Ground.data }, { on := 9, ground := Ground.guard }], guard := some (9, true) }) (v := .string S0) rfl (by kernel_rfl) (by kernel_rfl) (by kernel_rfl) (fun _ _ _ h => h) (Or.inl ⟨by rfl, ?_⟩) hH7 ?_
                          · intro wx hSw
                            obtain ⟨g1, g2, g3, g4⟩ := hSw
                            first | (go_simp; done) | (go_simp; with_reducible rfl)
                          try simp only [Act.put, List.setIfInBounds_toArray, List.set_cons_zero, List.set_cons_succ]
                          refine wpAnyH_take (i := 17) (oi := { dst := some 99, op := Op.fieldAddr 74 (Operand.tmp 10) 0, type := 0, pos := "ref.go:72", after := #[{ on := 9, ground := Ground.guard }], guard := some (9, true) }) (v := .pointer (some ⟨B10, 0, none⟩)) rfl (by kernel_rfl) (by kernel_rfl) (by kernel_rfl) (fun _ _ _ h => h) (Or.inl ⟨by rfl, ?_⟩) hH7 ?_
                          · intro wx hSw
                            obtain ⟨g1, g2, g3, g4⟩ := hSw
                            first | (go_simp; done) | (go_simp; with_reducible rfl)
                          try simp only [Act.put, List.setIfInBounds_toArray, List.set_cons_zero, List.set_cons_succ]
                          refine wpAnyH_take (i := 18) (oi := { dst := some 100, op := Op.load 9 (Operand.tmp 99), type := 9, pos := "ref.go:72", after := #[{ on := 17, ground := Ground.data }, { on := 9, ground := Ground.guard }], guard := some (9, true) }) (v := .string S1) rfl (by kernel_rfl) (by kernel_rfl) (by kernel_rfl) (fun _ _ _ h => h) (Or.inl ⟨by rfl, ?_⟩) hH7 ?_
                          · intro wx hSw
                            obtain ⟨g1, g2, g3, g4⟩ := hSw
                            first | (go_simp; done) | (go_simp; with_reducible rfl)
                          try simp only [Act.put, List.setIfInBounds_toArray, List.set_cons_zero, List.set_cons_succ]
                          refine wpAnyH_take (i := 19) (oi := { dst := some 101, op := Op.binOp BinOp.geq 9 (Operand.tmp 98) (Operand.tmp 100) 9, type := 4, pos := "ref.go:72", after := #[{ on := 16, ground := Ground.data }, { on := 18, ground := Ground.data }, { on := 9, ground := Ground.guard }], guard := some (9, true) }) (v := .bool true) rfl (by kernel_rfl) (by kernel_rfl) (by kernel_rfl) (fun _ _ _ h => h) (Or.inl ⟨by rfl, ?_⟩) hH7 ?_
                          · intro wx hSw
                            obtain ⟨g1, g2, g3, g4⟩ := hSw
                            first | (go_simp; done) | (go_simp; with_reducible rfl)
                          try simp only [Act.put, List.setIfInBounds_toArray, List.set_cons_zero, List.set_cons_succ]
                          refine wpAnyH_take (i := 20) (oi := { dst := some 102, op := Op.pick (Operand.tmp 91) (Operand.tmp 101) (Operand.const (Value.bool false)), type := 4, pos := "ref.go:72", after := #[{ on := 9, ground := Ground.data }, { on := 19, ground := Ground.data }, { on := 6, ground := Ground.guard }], guard := some (6, false) }) (v := .bool true) rfl (by kernel_rfl) (by kernel_rfl) (by kernel_rfl) (fun _ _ _ h => h) (Or.inl ⟨by rfl, ?_⟩) hH7 ?_
                          · intro wx hSw
                            obtain ⟨g1, g2, g3, g4⟩ := hSw
                            first | (go_simp; done) | (go_simp; with_reducible rfl)
                          try simp only [Act.put, List.setIfInBounds_toArray, List.set_cons_zero, List.set_cons_succ]
                          refine wpAnyH_take (i := 21) (oi := { dst := some 103, op := Op.pick (Operand.tmp 88) (Operand.const (Value.bool true)) (Operand.tmp 102), type := 4, pos := "ref.go:72", after := #[{ on := 6, ground := Ground.data }, { on := 20, ground := Ground.data }], guard := none }) (v := .bool true) rfl (by kernel_rfl) (by kernel_rfl) (by kernel_rfl) (fun _ _ _ h => h) (Or.inl ⟨by rfl, ?_⟩) hH7 ?_
                          · intro wx hSw
                            obtain ⟨g1, g2, g3, g4⟩ := hSw
                            first | (go_simp; done) | (go_simp; with_reducible rfl)
                          try simp only [Act.put, List.setIfInBounds_toArray, List.set_cons_zero, List.set_cons_succ]
                          refine wpAnyH_done (by kernel_rfl) ?_ _
                          try simp only [Exit.then]
                          have HR8 : Hid (Rst w B2 B4 (kn : Int) s.data.toList k (some ⟨rb, ro, none⟩) c2 w7) := HR7.out.1
                          have HNG : Hid (¬ Good s) := HNGx.out
                          have HF := err_fin HR8.out.b2 HR8.out.kp HR8.out.h2
                          have HF2 : Hid _ := HF
                          have u0 := HR8.out.b2.cell (i := 0) rfl
                          have u1 := HR8.out.b2.cell (i := 1) rfl
                          have uf := HR8.out.b2.fz
                          clear HF HR8 HMY
                          go_wp2_with fail
                          refine bodyPost_ret (end_cell_tmp rfl rfl HF2.out.1) rfl ?_
                          exact .inl ⟨HNG.out, rfl, HF2.out.2⟩
                    · have HNGx : Hid (¬ Good s) := fun hg => by
                        have := (HG.out hg).2.2.2.2.1
                        rw [← HSS.out.1, ← HSS.out.2] at this
                        apply hm
                        unfold mayC
                        rw [ba_size, ba_size]
                        exact this
                      have HMY : Hid (∀ V, V = wc.drew → Calls Try.prog 29 #[.string S1, .string S2] V fun e w' => e = .returned (.bool false) ∧ (w'.cell? ⟨B10, 0, none⟩ = some (.string S1) ∧ w'.cell? ⟨B10, 1, none⟩ = some (.string S2)) ∧ Hid (Rst w B2 B4 (kn : Int) s.data.toList k a2 c2 w' ∧ Blk w' B10 74 [.string S1, .string S2])) := fun V hV => by
                        subst hV
                        have := rmay_is S1 S2 (by have := HSI.out; omega) (by have := HSI.out; omega) wc.drew
                        rw [decide_eq_false hm] at this
                        exact this.mono fun e w' ⟨q1, q2⟩ => ⟨q1, ⟨(HBD.out.2.step q2).cell rfl, (HBD.out.2.step q2).cell rfl⟩, HBD.out.1.step q2, HBD.out.2.step q2⟩
                      clear hm HB HBD HI HG
                      go_upto_region 15 with fail
                      refine wp_region_held_drew (S := (fun (V : World) => V.cell? ⟨B10, 0, none⟩ = some (.string S1) ∧ V.cell? ⟨B10, 1, none⟩ = some (.string S2))) (by kernel_rfl) HS0.out (fun hH => ?_)
                      refine wpAnyH_take (i := 0) (oi := { dst := some 82, op := Op.fieldAddr 74 (Operand.tmp 10) 0, type := 0, pos := "ref.go:72", after := #[], guard := none }) (v := .pointer (some ⟨B10, 0, none⟩)) rfl (by kernel_rfl) (by kernel_rfl) (by kernel_rfl) (fun _ _ _ h => h) (Or.inl ⟨by rfl, ?_⟩) hH ?_
                      · intro wx hSw
                        obtain ⟨g1, g2⟩ := hSw
                        first | (go_simp; done) | (go_simp; with_reducible rfl)
                      try simp only [Act.put, List.setIfInBounds_toArray, List.set_cons_zero, List.set_cons_succ]
                      refine wpAnyH_take (i := 1) (oi := { dst := some 83, op := Op.load 9 (Operand.tmp 82), type := 9, pos := "ref.go:72", after := #[{ on := 0, ground := Ground.data }], guard := none }) (v := .string S1) rfl (by kernel_rfl) (by kernel_rfl) (by kernel_rfl) (fun _ _ _ h => h) (Or.inl ⟨by rfl, ?_⟩) hH ?_
                      · intro wx hSw
                        obtain ⟨g1, g2⟩ := hSw
                        first | (go_simp; done) | (go_simp; with_reducible rfl)
                      try simp only [Act.put, List.setIfInBounds_toArray, List.set_cons_zero, List.set_cons_succ]
                      refine wpAnyH_take (i := 2) (oi := { dst := some 84, op := Op.fieldAddr 74 (Operand.tmp 10) 1, type := 0, pos := "ref.go:72", after := #[], guard := none }) (v := .pointer (some ⟨B10, 1, none⟩)) rfl (by kernel_rfl) (by kernel_rfl) (by kernel_rfl) (fun _ _ _ h => h) (Or.inl ⟨by rfl, ?_⟩) hH ?_
                      · intro wx hSw
                        obtain ⟨g1, g2⟩ := hSw
                        first | (go_simp; done) | (go_simp; with_reducible rfl)
                      try simp only [Act.put, List.setIfInBounds_toArray, List.set_cons_zero, List.set_cons_succ]
                      refine wpAnyH_take (i := 3) (oi := { dst := some 85, op := Op.load 9 (Operand.tmp 84), type := 9, pos := "ref.go:72", after := #[{ on := 2, ground := Ground.data }], guard := none }) (v := .string S2) rfl (by kernel_rfl) (by kernel_rfl) (by kernel_rfl) (fun _ _ _ h => h) (Or.inl ⟨by rfl, ?_⟩) hH ?_
                      · intro wx hSw
                        obtain ⟨g1, g2⟩ := hSw
                        first | (go_simp; done) | (go_simp; with_reducible rfl)
                      try simp only [Act.put, List.setIfInBounds_toArray, List.set_cons_zero, List.set_cons_succ]
                      refine wpAnyH_ready (rs := [4]) (by kernel_rfl) (by simp) ?_
                      refine AllReadyH.cons rfl (fun K hK => ?_) AllReadyH.nil
                      go_simp
                      refine Calls.mono (HMY.out _ rfl) ?_
                      rintro e w7 ⟨rfl, hS7, HR7⟩
                      refine hK.out _ _ hS7 (fun hH7 => ?_)
                      clear hK K hH
                      try simp only [Act.put, List.setIfInBounds_toArray, List.set_cons_zero, List.set_cons_succ]
                      refine wpAnyH_take (i := 5) (oi := { dst := some 87, op := Op.unOp UnOp.not 4 (Operand.tmp 86), type := 4, pos := "ref.go:72", after := #[{ on := 4, ground := Ground.data }], guard := none }) (v := .bool true) rfl (by kernel_rfl) (by kernel_rfl) (by kernel_rfl) (fun _ _ _ h => h) (Or.inl ⟨by rfl, ?_⟩) hH7 ?_
                      · intro wx hSw
                        obtain ⟨g1, g2⟩ := hSw
                        first | (go_simp; done) | (go_simp; with_reducible rfl)
                      try simp only [Act.put, List.setIfInBounds_toArray, List.set_cons_zero, List.set_cons_succ]
                      refine wpAnyH_take (i := 6) (oi := { dst := some 88, op := Op.move (Operand.tmp 87), type := 4, pos := "ref.go:72", after := #[{ on := 5, ground := Ground.data }, { on := 4, ground := Ground.chain }], guard := none }) (v := .bool true) rfl (by kernel_rfl) (by kernel_rfl) (by kernel_rfl) (fun _ _ _ h => h) (Or.inl ⟨by rfl, ?_⟩) hH7 ?_
                      · intro wx hSw
                        obtain ⟨g1, g2⟩ := hSw
                        first | (go_simp; done) | (go_simp; with_reducible rfl)
                      try simp only [Act.put, List.setIfInBounds_toArray, List.set_cons_zero, List.set_cons_succ]
                      refine wpAnyH_take (i := 7) (oi := { dst := some 89, op := Op.move (Operand.tmp 7), type := 3, pos := "ref.go:72", after := #[{ on := 6, ground := Ground.guard }], guard := some (6, false) }) (v := undef) rfl (by kernel_rfl) (by kernel_rfl) (by kernel_rfl) (fun _ _ _ h => h) (Or.inr ⟨by rfl, rfl⟩) hH7 ?_
                      try simp only [Act.put, List.setIfInBounds_toArray, List.set_cons_zero, List.set_cons_succ]
                      refine wpAnyH_take (i := 8) (oi := { dst := some 90, op := Op.binOp BinOp.gtr 3 (Operand.tmp 89) (Operand.const (Value.int IntKind.i64 0)) 3, type := 4, pos := "ref.go:72", after := #[{ on := 7, ground := Ground.data }, { on := 6, ground := Ground.guard }], guard := some (6, false) }) (v := undef) rfl (by kernel_rfl) (by kernel_rfl) (by kernel_rfl) (fun _ _ _ h => h) (Or.inr ⟨by rfl, rfl⟩) hH7 ?_
                      try simp only [Act.put, List.setIfInBounds_toArray, List.set_cons_zero, List.set_cons_succ]
                      refine wpAnyH_take (i := 9) (oi := { dst := some 91, op := Op.move (Operand.tmp 90), type := 4, pos := "ref.go:72", after := #[{ on := 8, ground := Ground.data }, { on := 6, ground := Ground.chain }, { on := 6, ground := Ground.guard }], guard := some (6, false) }) (v := undef) rfl (by kernel_rfl) (by kernel_rfl) (by kernel_rfl) (fun _ _ _ h => h) (Or.inr ⟨by rfl, rfl⟩) hH7 ?_
                      try simp only [Act.put, List.setIfInBounds_toArray, List.set_cons_zero, List.set_cons_succ]
                      refine wpAnyH_take (i := 10) (oi := { dst := some 92, op := Op.fieldAddr 29 (Operand.tmp 4) 1, type := 0, pos := "ref.go:72", after := #[{ on := 9, ground := Ground.guard }], guard := some (9, true) }) (v := undef) rfl (by kernel_rfl) (by kernel_rfl) (by kernel_rfl) (fun _ _ _ h => h) (Or.inr ⟨by rfl, rfl⟩) hH7 ?_
                      try simp only [Act.put, List.setIfInBounds_toArray, List.set_cons_zero, List.set_cons_succ]
                      refine wpAnyH_take (i := 11) (oi := { dst := some 93, op := Op.load 27 (Operand.tmp 92), type := 27, pos := "ref.go:72", after := #[{ on := 10, ground := Ground.data }, { on := 9, ground := Ground.guard }], guard := some (9, true) }) (v := undef) rfl (by kernel_rfl) (by kernel_rfl) (by kernel_rfl) (fun _ _ _ h => h) (Or.inr ⟨by rfl, rfl⟩) hH7 ?_
                      try simp only [Act.put, List.setIfInBounds_toArray, List.set_cons_zero, List.set_cons_succ]
                      refine wpAnyH_take (i := 12) (oi := { dst := some 94, op := Op.move (Operand.tmp 7), type := 3, pos := "ref.go:72", after := #[{ on := 9, ground := Ground.guard }], guard := some (9, true) }) (v := undef) rfl (by kernel_rfl) (by kernel_rfl) (by kernel_rfl) (fun _ _ _ h => h) (Or.inr ⟨by rfl, rfl⟩) hH7 ?_
                      try simp only [Act.put, List.setIfInBounds_toArray, List.set_cons_zero, List.set_cons_succ]
                      refine wpAnyH_take (i := 13) (oi := { dst := some 95, op := Op.binOp BinOp.sub 3 (Operand.tmp 94) (Operand.const (Value.int IntKind.i64 1)) 3, type := 3, pos := "ref.go:72", after := #[{ on := 12, ground := Ground.data }, { on := 9, ground := Ground.guard }], guard := some (9, true) }) (v := undef) rfl (by kernel_rfl) (by kernel_rfl) (by kernel_rfl) (fun _ _ _ h => h) (Or.inr ⟨by rfl, rfl⟩) hH7 ?_
                      try simp only [Act.put, List.setIfInBounds_toArray, List.set_cons_zero, List.set_cons_succ]
                      refine wpAnyH_take (i := 14) (oi := { dst := some 96, op := Op.indexAddr 27 (Operand.tmp 93) (Operand.tmp 95), type := 0, pos := "ref.go:72", after := #[{ on := 11, ground := Ground.data }, { on := 13, ground := Ground.data }, { on := 9, ground := Ground.guard }], guard := some (9, true) }) (v := undef) rfl (by kernel_rfl) (by kernel_rfl) (by kernel_rfl) (fun _ _ _ h => h) (Or.inr ⟨by rfl, rfl⟩) hH7 ?_
                      try simp only [Act.put, List.setIfInBounds_toArray, List.set_cons_zero, List.set_cons_succ]
                      refine wpAnyH_take (i := 15) (oi := { dst := some 97, op := Op.fieldAddr 74 (Operand.tmp 96) 0, type := 0, pos := "ref.go:72", after := #[{ on := 14, ground := Ground.data }, { on := 9, ground := Ground.guard }], guard := some (9, true) }) (v := undef) rfl (by kernel_rfl) (by kernel_rfl) (by kernel_rfl) (fun _ _ _ h => h) (Or.inr ⟨by rfl, rfl⟩) hH7 ?_
                      try simp only [Act.put, List.setIfInBounds_toArray, List.set_cons_zero, List.set_cons_succ]
                      refine wpAnyH_take (i := 16) (oi := { dst := some 98, op := Op.load 9 (Operand.tmp 97), type := 9, pos := "ref.go:72", after := #[{ on := 15, ground := Ground.data }, { on := 9, ground := Ground.guard }], guard := some (9, true) }) (v := undef) rfl (by kernel_rfl) (by kernel_rfl) (by kernel_rfl) (fun _ _ _ h => h) (Or.inr ⟨by rfl, rfl⟩) hH7 ?_
                      try simp only [Act.put, List.setIfInBounds_toArray, List.set_cons_zero, List.set_cons_succ]
                      refine wpAnyH_take (i := 17) (oi := { dst := some 99, op := Op.fieldAddr 74 (Operand.tmp 10) 0, type := 0, pos := "ref.go:72", after := #[{ on := 9, ground := Ground.guard }], guard := some (9, true) }) (v := undef) rfl (by kernel_rfl) (by kernel_rfl) (by kernel_rfl) (fun _ _ _ h => h) (Or.inr ⟨by rfl, rfl⟩) hH7 ?_
                      try simp only [Act.put, List.setIfInBounds_toArray, List.set_cons_zero, List.set_cons_succ]
                      refine wpAnyH_take (i := 18) (oi := { dst := some 100, op := Op.load 9 (Operand.tmp 99), type := 9, pos := "ref.go:72", after := #[{ on := 17, ground := Ground.data }, { on := 9, ground := Ground.guard }], guard := some (9, true) }) (v := undef) rfl (by kernel_rfl) (by kernel_rfl) (by kernel_rfl) (fun _ _ _ h => h) (Or.inr ⟨by rfl, rfl⟩) hH7 ?_
                      try simp only [Act.put, List.setIfInBounds_toArray, List.set_cons_zero, List.set_cons_succ]
                      refine wpAnyH_take (i := 19) (oi := { dst := some 101, op := Op.binOp BinOp.geq 9 (Operand.tmp 98) (Operand.tmp 100) 9, type := 4, pos := "ref.go:72", after := #[{ on := 16, ground := Ground.data }, { on := 18, ground := Ground.data }, { on := 9, ground := Ground.guard }], guard := some (9, true) }) (v := undef) rfl (by kernel_rfl) (by kernel_rfl) (by kernel_rfl) (fun _ _ _ h => h) (Or.inr ⟨by rfl, rfl⟩) hH7 ?_
                      try simp only [Act.put, List.setIfInBounds_toArray, List.set_cons_zero, List.set_cons_succ]
                      refine wpAnyH_take (i := 20) (oi := { dst := some 102, op := Op.pick (Operand.tmp 91) (Operand.tmp 101) (Operand.const (Value.bool false)), type := 4, pos := "ref.go:72", after := #[{ on := 9, ground := Ground.data }, { on := 19, ground := Ground.data }, { on := 6, ground := Ground.guard }], guard := some (6, false) }) (v := undef) rfl (by kernel_rfl) (by kernel_rfl) (by kernel_rfl) (fun _ _ _ h => h) (Or.inr ⟨by rfl, rfl⟩) hH7 ?_
                      try simp only [Act.put, List.setIfInBounds_toArray, List.set_cons_zero, List.set_cons_succ]
                      refine wpAnyH_take (i := 21) (oi := { dst := some 103, op := Op.pick (Operand.tmp 88) (Operand.const (Value.bool true)) (Operand.tmp 102), type := 4, pos := "ref.go:72", after := #[{ on := 6, ground := Ground.data }, { on := 20, ground := Ground.data }], guard := none }) (v := .bool true) rfl (by kernel_rfl) (by kernel_rfl) (by kernel_rfl) (fun _ _ _ h => h) (Or.inl ⟨by rfl, ?_⟩) hH7 ?_
                      · intro wx hSw
                        obtain ⟨g1, g2⟩ := hSw
                        first | (go_simp; done) | (go_simp; with_reducible rfl)
                      try simp only [Act.put, List.setIfInBounds_toArray, List.set_cons_zero, List.set_cons_succ]
                      refine wpAnyH_done (by kernel_rfl) ?_ _
                      try simp only [Exit.then]
                      have HR8 : Hid (Rst w B2 B4 (kn : Int) s.data.toList k a2 c2 w7) := HR7.out.1
                      have HNG : Hid (¬ Good s) := HNGx.out
                      have HF := err_fin HR8.out.b2 HR8.out.kp HR8.out.h2
                      have HF2 : Hid _ := HF
                      have u0 := HR8.out.b2.cell (i := 0) rfl
                      have u1 := HR8.out.b2.cell (i := 1) rfl
                      have uf := HR8.out.b2.fz
                      clear HF HR8 HMY
                      go_wp2_with fail
                      refine bodyPost_ret (end_cell_tmp rfl rfl HF2.out.1) rfl ?_
                      exact .inl ⟨HNG.out, rfl, HF2.out.2⟩
        · obtain rfl : k = n := by omega
          have hc1 : ¬ (k : Int) < (k : Int) := by omega
          have hdl := dec_len s.data.toList k
          have hdi := dec_is s.data.toList HSZ.out.2 k (by have := HI.out; omega) HI.out.2.2.2.1
          have hok : okC (dec s.data.toList k) := ⟨hdi.2.2.2.2.1, by rw [hdl]; have := HI.out; omega⟩
          have hkd : (UInt8.ofNat kn).toNat = kn := by rw [UInt8.toNat_ofNat']; exact Nat.mod_eq_of_lt l0
          have hsl := HR.out.sl
          obtain ⟨T, hT⟩ : ∃ T : ByteArray, (⟨(bytesB (lay (UInt8.ofNat kn) (dec s.data.toList k))).toArray⟩ : ByteArray) = T := ⟨_, rfl⟩
          have HBY : Hid (∀ V, V = wr → Calls Try.prog 36 #[rpg (kn : Int) (.slice a2 k c2)] V fun e w' => e = .returned (.string T) ∧ Hid (Rst w B2 B4 (kn : Int) s.data.toList k a2 c2 w')) := fun V hV => by
            subst hV
            have := rbytes_is (UInt8.ofNat kn) a2 k c2 (dec s.data.toList k) hdl hsl hok
            rw [hkd, hT] at this
            exact this.mono fun e w' ⟨q1, q2⟩ => ⟨q1, HR.out.step q2⟩
          have v0 := HR.out.b4.cell (i := 0) rfl
          have v1 := HR.out.b4.cell (i := 1) rfl
          by_cases hTs : T = s
          · have HOKK : Hid (kn ≠ 0 ∧ okC (dec s.data.toList k) ∧ ris (dec s.data.toList k) ∧ s.data.toList = bytesB (lay (UInt8.ofNat kn) (dec s.data.toList k)) ∧ (UInt8.ofNat kn).toNat = kn ∧ (dec s.data.toList k).length = k) := ⟨fun e => HKZ.out (by omega), hok, hdi.2.2.2.2.2, (congrArg (fun z : ByteArray => z.data.toList) (hT.trans hTs)).symm, hkd, hdl⟩
            clear hT hsl hok hdi hkd HI hdl HR
            go_wp2_with fail
            refine Calls.mono (HBY.out _ rfl) ?_; rintro e w5 ⟨rfl, HR5⟩
            have hF := HR5.out.fin
            have HF : Hid _ := hF
            have u0 := HR5.out.b2.cell (i := 0) rfl
            have u1 := HR5.out.b2.cell (i := 1) rfl
            have uf := HR5.out.b2.fz
            have z0 := HR5.out.b4.cell (i := 0) rfl
            have z1 := HR5.out.b4.cell (i := 1) rfl
            clear hF HR5 HBY v0 v1
            go_wp2_with fail
            refine bodyPost_ret (end_cell_tmp rfl rfl HF.out.1) rfl ?_
            refine .inr ⟨UInt8.ofNat kn, dec s.data.toList k, a2, c2, by rw [HOKK.out.2.2.2.2.1]; exact HOKK.out.1, HOKK.out.2.1, HOKK.out.2.2.1, HOKK.out.2.2.2.1, ?_, ?_, HF.out.2.1⟩
            · rw [HOKK.out.2.2.2.2.1, HOKK.out.2.2.2.2.2]; rfl
            · rw [HOKK.out.2.2.2.2.2]; exact HF.out.2.2
          · have HNGx : Hid (¬ Good s) := fun hg => hTs (by
              have := (good_end hg).1
              rw [HKN.out.1, HKN.out.2] at this
              rw [← hT, this])
            have hTb : (T.toList == s.toList) = false := by rw [beq_eq_false_iff_ne]; exact fun e => hTs (by rw [ByteArray.toList_eq, ByteArray.toList_eq] at e; exact (ba_eq e).trans (ba_eq rfl).symm)
            clear hT hsl hok hdi hkd HI hdl HR
            go_wp2_with fail
            refine Calls.mono (HBY.out _ rfl) ?_; rintro e w5 ⟨rfl, HR5⟩
            have HNG : Hid (¬ Good s) := HNGx.out
            have HF := err_fin HR5.out.b2 HR5.out.kp HR5.out.h2
            have HF2 : Hid _ := HF
            have u0 := HR5.out.b2.cell (i := 0) rfl
            have u1 := HR5.out.b2.cell (i := 1) rfl
            have uf := HR5.out.b2.fz
            clear HF HR5 HBY v0 v1
            go_wp2_with fail
            refine bodyPost_ret (end_cell_tmp rfl rfl HF2.out.1) rfl ?_
            exact .inl ⟨HNG.out, rfl, HF2.out.2⟩
  · have hs2 : ¬ (s.size : Int) = 256 := by omega
    have HNG : Hid (¬ Good s) := fun hg => hs (good_end hg).2.2
    clear hW hB2 k0 b2 HF hs
    go_enter Try.func15, Try.ntmps15
    go_upto_region 1 with fail
    rw [HW.out.1, HW.out.2]
    clear HW
    go_wp2_with fail
    refine bodyPost_ret (end_cell_tmp rfl rfl HF2.out.1) rfl ?_
    exact .inl ⟨HNG.out, rfl, HF2.out.2⟩
end Go.Proofs.Ytehaancdadmdkaa
