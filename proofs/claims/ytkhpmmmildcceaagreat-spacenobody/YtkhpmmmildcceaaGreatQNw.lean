/- What nobody opened answers nothing. -/
import Derived.Test.YtkhpmmmildcceaaGreatQAw
namespace Go.Proofs.YtkhpmmmildcceaaGreat
open Go.ChangeShapes Go.WideShapes Go.ChangeAt Go.RowKit
set_option linter.unusedVariables false
set_option maxRecDepth 100000

def zeroSp : List Value := [Value.pointer none, .int .i64 0, .int .i64 0, .int .i64 0] ++ (bv u0 ++ ([Value.map none] ++ (bv u0 ++ [Value.map none])))
theorem build70_0 (w : World) : (Instr.build 70 #[]).run Tryz.prog w = .ok (.agg zeroSp.toArray) w := by
  apply run_build
  kernel_rfl
set_option maxHeartbeats 4000000 in
theorem nobody_walk (n : Int) (s : ByteArray) (h0 : -9223372036854775808 ≤ n ∧ n ≤ 9223372036854775807) (hs0 : s.size ≤ 9223372036854775807) (w : World) : Calls Tryz.prog 7 #[.int .i64 n, .string s] w fun e w' => e = .returned (.bool true) ∧ Kept (fun _ => False) w w' := by
  have HAW : Hid (∀ V, Calls Tryz.prog 13 #[] V fun e w' => e = .returned (.bool true) ∧ Hid (Kept (fun _ => False) V w')) := fun V => awake_is V
  by_cases hs : s.size ≤ 20
  · have cs : ¬ (20 : Int) < (s.size : Int) := by omega
    have HON : Hid (Calls Tryz.prog 9 #[.pointer none, .int .i64 0, .int .i64 n] w fun e w' => e = .returned (.tuple #[.pointer none, .int .i64 1]) ∧ w' = w) := open_none (.inl ⟨rfl, rfl⟩) (by omega) 0 n (by omega)
    have HAL : Hid (∀ V v, Nobody V v → Calls Tryz.prog 18 #[v] V fun e w' => e = .returned (.tuple #[.int .i64 0, .int .i64 1]) ∧ w' = V) := fun V v h => alloc_no h
    have HRD : Hid (∀ V v, Nobody V v → Calls Tryz.prog 25 #[v, .int .i64 n] V fun e w' => e = .returned (.tuple #[.string ⟨#[]⟩, .int .i64 1]) ∧ w' = V) := fun V v h => sread_no h n
    have HND : Hid (∀ V v, Nobody V v → Calls Tryz.prog 26 #[v, .string s] V fun e w' => e = .returned (.tuple #[.int .i64 0, .bool false]) ∧ w' = V) := fun V v h => named_no h s
    have HPG : Hid (∀ V v, Nobody V v → Calls Tryz.prog 10 #[v] V fun e w' => e = .returned (.int .i64 0) ∧ w' = V) := fun V v h => pages_no h
    have HUS : Hid (∀ V v, Nobody V v → Calls Tryz.prog 15 #[v] V fun e w' => e = .returned (.int .i64 0) ∧ w' = V) := fun V v h => used_no h
    have HRL : Hid (∀ V v, Nobody V v → Calls Tryz.prog 23 #[v, .int .i64 n] V fun e w' => e = .returned (.int .i64 1) ∧ w' = V) := fun V v h => release_no h n
    obtain ⟨SF, hSF⟩ : ∃ S, fill 120 = S := ⟨_, rfl⟩
    have HFX : Hid (∀ V, Calls Tryz.prog 20 #[.int .u8 120] V fun e w' => e = .returned (.string SF) ∧ Hid (Kept (fun _ => False) V w')) := fun V => by
      have := filled_is 120 V
      rw [hSF] at this
      exact this
    have HWR : Hid (∀ V v, Nobody V v → Calls Tryz.prog 19 #[v, .int .i64 n, .string SF] V fun e w' => e = .returned (.int .i64 1) ∧ w' = V) := fun V v h => swrite_no h n SF
    have HFR : Hid (∀ V v, Nobody V v → Calls Tryz.prog 27 #[v, .int .i64 n] V fun e w' => e = .returned (.bool false) ∧ w' = V) := fun V v h => fresh_no h n
    have HNS : Hid (∀ V v, Nobody V v → Calls Tryz.prog 17 #[v] V fun e w' => e = .returned (.slice none 0 0) ∧ w' = V) := fun V v h => names_no h
    have HNA : Hid (∀ V v, Nobody V v → Calls Tryz.prog 21 #[v, .string s, .int .i64 n] V fun e w' => e = .returned (.int .i64 1) ∧ w' = V) := fun V v h => name_no h s n
    have HFG : Hid (∀ V v, Nobody V v → Calls Tryz.prog 28 #[v, .string s] V fun e w' => e = .returned (.int .i64 1) ∧ w' = V) := fun V v h => forget_no h s
    have HCO : Hid (∀ V v, Nobody V v → Calls Tryz.prog 22 #[v] V fun e w' => e = .returned (.int .i64 1) ∧ w' = V) := fun V v h => commit_no h
    have HRB : Hid (∀ V v, Nobody V v → Calls Tryz.prog 29 #[v] V fun e w' => e = .returned (.int .i64 1) ∧ w' = V) := fun V v h => rollback_no h
    have HTU : Hid (∀ V v, Nobody V v → Calls Tryz.prog 16 #[v] V fun e w' => e = .returned (.int .i64 0) ∧ w' = V) := fun V v h => turn_no h
    obtain ⟨Z, hZ⟩ : ∃ Z, zeroSp.toArray = Z := ⟨_, rfl⟩
    obtain ⟨W1, hW1⟩ : ∃ W, w.alloc (.cells zeroSp.toArray 70) = W := ⟨_, rfl⟩
    obtain ⟨p, hp⟩ : ∃ p, w.heap.size = p := ⟨_, rfl⟩
    have HBU : Hid ((Instr.build 70 #[]).run Tryz.prog w = .ok (.agg Z) w) := by rw [← hZ]; exact build70_0 w
    have HBO : Hid ((Instr.box 70 (.agg Z)).run Tryz.prog w = .ok (.pointer (some ⟨p, 0, none⟩)) W1) := by
      have := box70 zeroSp w
      rw [hW1, hp, hZ] at this
      exact this
    have hP0 : W1.cell? ⟨p, 0, none⟩ = some (.pointer none) := by
      have := Blk.new w 70 zeroSp
      rw [hW1, hp] at this
      exact this.cell (i := 0) rfl
    have hK0 : Kept (fun _ => False) w W1 := hW1 ▸ (Kept.refl _ w).alloc _
    obtain ⟨W2, hW2⟩ : ∃ W, W1.alloc (.cells #[.pointer none, .pointer (some ⟨p, 0, none⟩)] 27) = W := ⟨_, rfl⟩
    have hK2 : Kept (fun _ => False) W1 W2 := hW2 ▸ (Kept.refl _ W1).alloc _
    have hc := CellsF.new W1 [.pointer none, .pointer (some ⟨p, 0, none⟩)] 27 (by simp)
    rw [show ([.pointer none, .pointer (some ⟨p, 0, none⟩)] : List Value).toArray = #[.pointer none, .pointer (some ⟨p, 0, none⟩)] from rfl, hW2] at hc
    obtain ⟨B, hB⟩ : ∃ B, W1.heap.size = B := ⟨_, rfl⟩
    have HW2 : Hid (W1.alloc (.cells #[.pointer none, .pointer (some ⟨p, 0, none⟩)] 27) = W2 ∧ W1.heap.size = B) := ⟨hW2, hB⟩
    rw [hB] at hc
    have J : Hid (W2.cell? ⟨p, 0, none⟩ = some (.pointer none) ∧ Kept (fun _ => False) w W2 ∧ W2.cell? ⟨B, 0, none⟩ = some (.pointer none) ∧ W2.cell? ⟨B, 1, none⟩ = some (.pointer (some ⟨p, 0, none⟩))) := ⟨hK2.cell hP0 (fun z => z), hK0.trans hK2 (fun _ z => z.elim), hc.cs 0 _ rfl, hc.cs 1 _ rfl⟩
    clear hP0 hK0 hW1 hp hW2 hK2 hc hB hZ hSF hs
    go_enter Tryz.func7, Tryz.ntmps7
    go_wp2_with fail
    refine Calls.mono HON.out ?_; rintro e w1 ⟨rfl, rfl⟩
    go_upto_region 7 with (first | ((with_reducible apply st_build0); (case ho => rfl); (case hgd => rfl); (case hr => exact HBU.out)) | ((with_reducible apply st_box); (case ho => rfl); (case hgd => rfl); (case hr => exact HBO.out)))
    rw [HW2.out.1, HW2.out.2]
    clear HW2 HBU HBO HON
    go_wp2_with fail
    go_loopw [8] (fun v8 wr => ∃ i : Nat, i ≤ 2 ∧ v8 = .int .i64 i ∧ Hid (wr.cell? ⟨p, 0, none⟩ = some (.pointer none) ∧ Kept (fun _ => False) w1 wr ∧ wr.cell? ⟨B, 0, none⟩ = some (.pointer none) ∧ wr.cell? ⟨B, 1, none⟩ = some (.pointer (some ⟨p, 0, none⟩)))) (fun v8 _ => 2 - (intOf v8).toNat)
    case atStart => exact ⟨0, by omega, rfl, J.out⟩
    case round =>
      obtain ⟨i, hi, rfl, HI⟩ := hrel
      clear J
      rcases (show i = 0 ∨ i = 1 ∨ i = 2 by omega) with rfl | rfl | rfl
      · have b0 := HI.out.2.2.1
        have J0 : Hid (wr.cell? ⟨p, 0, none⟩ = some (.pointer none) ∧ Kept (fun _ => False) w1 wr ∧ wr.cell? ⟨B, 0, none⟩ = some (.pointer none) ∧ wr.cell? ⟨B, 1, none⟩ = some (.pointer (some ⟨p, 0, none⟩))) := HI.out
        clear HI
        go_wp2_with fail
        refine Calls.mono (HAL.out _ _ (.inl rfl)) ?_; rintro e y1 ⟨rfl, rfl⟩
        go_wp2_with fail
        refine Calls.mono (HRD.out _ _ (.inl rfl)) ?_; rintro e y2 ⟨rfl, rfl⟩
        go_wp2_with fail
        refine Calls.mono (HND.out _ _ (.inl rfl)) ?_; rintro e y3 ⟨rfl, rfl⟩
        go_wp2_with fail
        refine Calls.mono (HPG.out _ _ (.inl rfl)) ?_; rintro e y4 ⟨rfl, rfl⟩
        go_wp2_with fail
        refine Calls.mono (HUS.out _ _ (.inl rfl)) ?_; rintro e y5 ⟨rfl, rfl⟩
        go_wp2_with fail
        refine Calls.mono (HRL.out _ _ (.inl rfl)) ?_; rintro e y6 ⟨rfl, rfl⟩
        go_wp2_with fail
        refine Calls.mono (HFX.out _) ?_; rintro e y7 ⟨rfl, HM⟩
        have JF : Hid (y7.cell? ⟨p, 0, none⟩ = some (.pointer none) ∧ Kept (fun _ => False) w1 y7 ∧ y7.cell? ⟨B, 0, none⟩ = some (.pointer none) ∧ y7.cell? ⟨B, 1, none⟩ = some (.pointer (some ⟨p, 0, none⟩))) := ⟨HM.out.cell J0.out.1 (fun z => z), J0.out.2.1.trans HM.out (fun _ z => z.elim), HM.out.cell J0.out.2.2.1 (fun z => z), HM.out.cell J0.out.2.2.2 (fun z => z)⟩
        clear HM
        go_wp2_with fail
        refine Calls.mono (HWR.out _ _ (.inl rfl)) ?_; rintro e y8 ⟨rfl, rfl⟩
        go_wp2_with fail
        refine Calls.mono (HFR.out _ _ (.inl rfl)) ?_; rintro e y9 ⟨rfl, rfl⟩
        go_wp2_with fail
        refine Calls.mono (HNS.out _ _ (.inl rfl)) ?_; rintro e y10 ⟨rfl, rfl⟩
        go_wp2_with fail
        refine Calls.mono (HNA.out _ _ (.inl rfl)) ?_; rintro e y11 ⟨rfl, rfl⟩
        go_wp2_with fail
        refine Calls.mono (HFG.out _ _ (.inl rfl)) ?_; rintro e y12 ⟨rfl, rfl⟩
        go_wp2_with fail
        refine Calls.mono (HCO.out _ _ (.inl rfl)) ?_; rintro e y13 ⟨rfl, rfl⟩
        go_wp2_with fail
        refine Calls.mono (HRB.out _ _ (.inl rfl)) ?_; rintro e y14 ⟨rfl, rfl⟩
        go_wp2_with fail
        refine Calls.mono (HTU.out _ _ (.inl rfl)) ?_; rintro e y15 ⟨rfl, rfl⟩
        go_wp2_with fail
        go_roundw
        case rel => exact ⟨1, by omega, rfl, JF.out⟩
        case measure => simp [intOf]
      · have b1 := HI.out.2.2.2
        have J0 : Hid (wr.cell? ⟨p, 0, none⟩ = some (.pointer none) ∧ Kept (fun _ => False) w1 wr ∧ wr.cell? ⟨B, 0, none⟩ = some (.pointer none) ∧ wr.cell? ⟨B, 1, none⟩ = some (.pointer (some ⟨p, 0, none⟩))) := HI.out
        clear HI
        go_wp2_with fail
        refine Calls.mono (HAL.out _ _ (.inr ⟨p, rfl, J0.out.1⟩)) ?_; rintro e y1 ⟨rfl, rfl⟩
        go_wp2_with fail
        refine Calls.mono (HRD.out _ _ (.inr ⟨p, rfl, J0.out.1⟩)) ?_; rintro e y2 ⟨rfl, rfl⟩
        go_wp2_with fail
        refine Calls.mono (HND.out _ _ (.inr ⟨p, rfl, J0.out.1⟩)) ?_; rintro e y3 ⟨rfl, rfl⟩
        go_wp2_with fail
        refine Calls.mono (HPG.out _ _ (.inr ⟨p, rfl, J0.out.1⟩)) ?_; rintro e y4 ⟨rfl, rfl⟩
        go_wp2_with fail
        refine Calls.mono (HUS.out _ _ (.inr ⟨p, rfl, J0.out.1⟩)) ?_; rintro e y5 ⟨rfl, rfl⟩
        go_wp2_with fail
        refine Calls.mono (HRL.out _ _ (.inr ⟨p, rfl, J0.out.1⟩)) ?_; rintro e y6 ⟨rfl, rfl⟩
        go_wp2_with fail
        refine Calls.mono (HFX.out _) ?_; rintro e y7 ⟨rfl, HM⟩
        have JF : Hid (y7.cell? ⟨p, 0, none⟩ = some (.pointer none) ∧ Kept (fun _ => False) w1 y7 ∧ y7.cell? ⟨B, 0, none⟩ = some (.pointer none) ∧ y7.cell? ⟨B, 1, none⟩ = some (.pointer (some ⟨p, 0, none⟩))) := ⟨HM.out.cell J0.out.1 (fun z => z), J0.out.2.1.trans HM.out (fun _ z => z.elim), HM.out.cell J0.out.2.2.1 (fun z => z), HM.out.cell J0.out.2.2.2 (fun z => z)⟩
        clear HM
        go_wp2_with fail
        refine Calls.mono (HWR.out _ _ (.inr ⟨p, rfl, JF.out.1⟩)) ?_; rintro e y8 ⟨rfl, rfl⟩
        go_wp2_with fail
        refine Calls.mono (HFR.out _ _ (.inr ⟨p, rfl, JF.out.1⟩)) ?_; rintro e y9 ⟨rfl, rfl⟩
        go_wp2_with fail
        refine Calls.mono (HNS.out _ _ (.inr ⟨p, rfl, JF.out.1⟩)) ?_; rintro e y10 ⟨rfl, rfl⟩
        go_wp2_with fail
        refine Calls.mono (HNA.out _ _ (.inr ⟨p, rfl, JF.out.1⟩)) ?_; rintro e y11 ⟨rfl, rfl⟩
        go_wp2_with fail
        refine Calls.mono (HFG.out _ _ (.inr ⟨p, rfl, JF.out.1⟩)) ?_; rintro e y12 ⟨rfl, rfl⟩
        go_wp2_with fail
        refine Calls.mono (HCO.out _ _ (.inr ⟨p, rfl, JF.out.1⟩)) ?_; rintro e y13 ⟨rfl, rfl⟩
        go_wp2_with fail
        refine Calls.mono (HRB.out _ _ (.inr ⟨p, rfl, JF.out.1⟩)) ?_; rintro e y14 ⟨rfl, rfl⟩
        go_wp2_with fail
        refine Calls.mono (HTU.out _ _ (.inr ⟨p, rfl, JF.out.1⟩)) ?_; rintro e y15 ⟨rfl, rfl⟩
        go_wp2_with fail
        go_roundw
        case rel => exact ⟨2, by omega, rfl, JF.out⟩
        case measure => simp [intOf]
      · have JK : Hid (Kept (fun _ => False) w1 wr) := HI.out.2.1
        clear HI
        go_wp2_with fail
        refine Calls.mono (HAW.out _) ?_; rintro e x1 ⟨rfl, HM⟩
        go_wp2_with fail
        go_ret
        exact ⟨rfl, JK.out.trans HM.out (fun _ z => z.elim)⟩
  · have cs : (20 : Int) < (s.size : Int) := by omega
    have HAW0 : Hid _ := HAW.out w
    clear hs
    go_enter Tryz.func7, Tryz.ntmps7
    go_wp2_with fail
    refine Calls.mono HAW0.out ?_; rintro e w1 ⟨rfl, HM⟩
    go_wp2_with fail
    go_ret
    exact ⟨rfl, HM.out⟩
end Go.Proofs.YtkhpmmmildcceaaGreat
