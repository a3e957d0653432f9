/- PageNobody: its walk. -/
import Derived.Test.YtehaancdadmdkaaNb
namespace Go.Proofs.Ytehaancdadmdkaa
open Go.ChangeShapes Go.WideShapes Go.ChangeAt Go.RowKit
set_option linter.unusedVariables false
set_option maxRecDepth 100000

section
variable {P : Program} {ops : Array Oper} {rest : List Oper} {o : Oper} {a : Act} {w w' : World} {Q : Exit → Act → World → Prop} {v : Value}
theorem st_build0 {ty : TypeId} (hgd : o.guard = none) (ho : o.op = .build ty #[]) (hr : (Instr.build ty #[]).run P w = .ok v w') (h : wpList P ops Q rest (a.put o.dst v) w') : wpList P ops Q (o :: rest) a w :=
  wpList_plain hgd fun _ hK => by
    unfold Oper.wp execOp
    simp only [ho, Sem.run_bind, List.map_toArray, List.map_nil, hr, Result.andThen_ok]
    exact hK _ _ h
theorem st_box {ty : TypeId} {x : Operand} (hgd : o.guard = none) (ho : o.op = .box ty x) (hr : (Instr.box ty (a.eval x)).run P w = .ok v w') (h : wpList P ops Q rest (a.put o.dst v) w') : wpList P ops Q (o :: rest) a w :=
  wpList_plain hgd fun _ hK => by
    unfold Oper.wp execOp
    simp only [ho, Sem.run_bind, hr, Result.andThen_ok]
    exact hK _ _ h
end
theorem build58 (w : World) : (Instr.build 58 #[]).run Try.prog w = .ok (.agg (Array.replicate 256 (.int .u8 0))) w := by
  apply run_build
  kernel_rfl
theorem box58 (w : World) : (Instr.box 58 (.agg (Array.replicate 256 (.int .u8 0)))).run Try.prog w = .ok (.pointer (some ⟨w.heap.size, 0, none⟩)) (w.alloc (.cells (bv (zs 256)).toArray 58)) := by
  rw [bv_zs_array]
  simp [Instr.box, newVar, go_sem]
theorem rmay_is (key val : ByteArray) (hk : key.size ≤ 1000) (hv : val.size ≤ 1000) (w : World) : Calls Try.prog 29 #[.string key, .string val] w fun e w' => e = .returned (.bool (decide (mayC key val))) ∧ Kept (fun _ => False) w w' := by
  obtain ⟨ks, hks⟩ : ∃ ks, key.size = ks := ⟨_, rfl⟩
  obtain ⟨vs, hvs⟩ : ∃ vs, val.size = vs := ⟨_, rfl⟩
  have ed : decide (mayC key val) = decide (1 ≤ ks ∧ ks ≤ 80 ∧ ks + vs ≤ 100) := by
    apply decide_eq_decide.2
    unfold mayC
    rw [hks, hvs]
  rw [ed]
  rw [hks] at hk
  rw [hvs] at hv
  by_cases c1 : (1 : Int) ≤ ks
  · by_cases c2 : (ks : Int) ≤ 80
    · by_cases c3 : (vs : Int) ≤ 100 - (ks : Int)
      · rw [decide_eq_true (by omega)]
        go_enter Try.func29, Try.ntmps29
        go_wp2
        go_ret
        exact ⟨rfl, Kept.refl _ _⟩
      · rw [decide_eq_false (by omega)]
        go_enter Try.func29, Try.ntmps29
        go_wp2
        go_ret
        exact ⟨rfl, Kept.refl _ _⟩
    · rw [decide_eq_false (by omega)]
      go_enter Try.func29, Try.ntmps29
      go_wp2
      go_ret
      exact ⟨rfl, Kept.refl _ _⟩
  · rw [decide_eq_false (by omega)]
    go_enter Try.func29, Try.ntmps29
    go_wp2
    go_ret
    exact ⟨rfl, Kept.refl _ _⟩
theorem join_nil {w : World} {p : Nat} {kd : UInt8} {cs : List Cel} (h : Pg w p (lay kd cs)) (hkd : kd.toNat ≠ 0) : Calls Try.prog 22 #[.pointer (some ⟨p, 0, none⟩), .pointer none] w fun e w' => e = .returned (.int .i64 1) ∧ Kept (fun _ => False) w w' := by
  have e0 : (byteAt (lay kd cs) 0 != 0) = true := by simp [lay_kind, hkd]
  have H37 : Hid (Calls Try.prog 37 #[.pointer (some ⟨p, 0, none⟩)] w fun e w' => e = .returned (.bool true) ∧ ∃ m, w' = w.drewN m) := by have := is_is h; rw [e0] at this; exact this
  have H27 : Hid (∀ m, Calls Try.prog 27 #[.pointer (some ⟨p, 0, none⟩)] (w.drewN m) fun e w' => e = .returned (.int .i64 (kd.toNat : Int)) ∧ ∃ j, w' = (w.drewN m).drewN j) := fun m => kind_is (h.dr m)
  have H0 : Hid (∀ V : World, Calls Try.prog 27 #[.pointer none] V fun e w' => e = .returned (.int .i64 0) ∧ ∃ m, w' = V.drewN m) := fun V => kind_nil V
  have c1 : ¬ (kd.toNat : Int) = 0 := by omega
  generalize kd.toNat = kn at *
  clear h hkd e0
  go_enter Try.func22, Try.ntmps22
  go_wp2_with fail
  refine Calls.mono H37.out ?_; rintro e w1 ⟨rfl, m, rfl⟩
  go_wp2_with fail
  refine Calls.mono (H27.out m) ?_; rintro e w1 ⟨rfl, m2, rfl⟩
  go_wp2_with fail
  refine Calls.mono (H0.out _) ?_; rintro e w1 ⟨rfl, m3, rfl⟩
  go_wp2_with fail
  go_ret
  exact ⟨rfl, (Kept.refl _ _).drewN _⟩
set_option maxHeartbeats 4000000 in
theorem nobody_walk (key val : ByteArray) (k : Int) (hkm : key.size ≤ 9223372036854775807) (hvm : val.size ≤ 9223372036854775807) (w : World) : Calls Try.prog 8 #[.string key, .string val, .int .i64 k] w fun e w' => e = .returned (.bool true) ∧ Kept (fun _ => False) w w' := by
  have HAW : Hid (∀ V, Calls Try.prog 11 #[] V fun e w' => e = .returned (.bool true) ∧ Hid (Kept (fun _ => False) V w')) := fun V => awake_is V
  obtain ⟨ks, hks⟩ : ∃ ks, key.size = ks := ⟨_, rfl⟩
  obtain ⟨vs, hvs⟩ : ∃ vs, val.size = vs := ⟨_, rfl⟩
  rw [hks] at hkm
  rw [hvs] at hvm
  by_cases c1 : (80 : Int) < ks
  · go_enter Try.func8, Try.ntmps8
    go_wp2_with fail
    refine Calls.mono (HAW.out _) ?_; rintro e w1 ⟨rfl, HK⟩
    go_wp2_with fail
    go_ret
    exact ⟨rfl, HK.out⟩
  by_cases c2 : (20 : Int) < vs
  · go_enter Try.func8, Try.ntmps8
    go_wp2_with fail
    refine Calls.mono (HAW.out _) ?_; rintro e w1 ⟨rfl, HK⟩
    go_wp2_with fail
    go_ret
    exact ⟨rfl, HK.out⟩
  have hk1 : key.size ≤ 1000 := by omega
  have hv1 : val.size ≤ 1000 := by omega
  have HAT : Hid (∀ V v, None' V v → Calls Try.prog 20 #[v, .int .i64 k] V fun e w' => e = .returned (.tuple #[.string ⟨#[]⟩, .string ⟨#[]⟩]) ∧ Hid (Kept (fun _ => False) V w')) := fun V v hV => (hV.at k).mono fun e w' ⟨q1, m, q2⟩ => ⟨q1, by rw [q2]; exact (Kept.refl _ _).drewN m⟩
  have HFI : Hid (∀ V v, None' V v → Calls Try.prog 26 #[v, .string key] V fun e w' => e = .returned (.tuple #[.int .i64 0, .bool false]) ∧ Hid (Kept (fun _ => False) V w')) := fun V v hV => hV.find key
  have HSP : Hid (∀ V v, None' V v → Calls Try.prog 21 #[v, .int .i64 k] V fun e w' => e = .returned (.tuple #[.pointer none, .int .i64 1]) ∧ Hid (Kept (fun _ => False) V w')) := fun V v hV => (hV.split k).mono fun e w' ⟨q1, m, q2⟩ => ⟨q1, by rw [q2]; exact (Kept.refl _ _).drewN m⟩
  have HBY : Hid (∀ V v, None' V v → Calls Try.prog 16 #[v] V fun e w' => e = .returned (.string ⟨#[]⟩) ∧ Hid (Kept (fun _ => False) V w')) := fun V v hV => (hV.bytes).mono fun e w' ⟨q1, m, q2⟩ => ⟨q1, by rw [q2]; exact (Kept.refl _ _).drewN m⟩
  have HKD : Hid (∀ V v, None' V v → Calls Try.prog 27 #[v] V fun e w' => e = .returned (.int .i64 0) ∧ Hid (Kept (fun _ => False) V w')) := fun V v hV => (hV.kind).mono fun e w' ⟨q1, m, q2⟩ => ⟨q1, by rw [q2]; exact (Kept.refl _ _).drewN m⟩
  have HLN : Hid (∀ V v, None' V v → Calls Try.prog 19 #[v] V fun e w' => e = .returned (.int .i64 0) ∧ Hid (Kept (fun _ => False) V w')) := fun V v hV => (hV.len).mono fun e w' ⟨q1, m, q2⟩ => ⟨q1, by rw [q2]; exact (Kept.refl _ _).drewN m⟩
  have HFR : Hid (∀ V v, None' V v → Calls Try.prog 23 #[v] V fun e w' => e = .returned (.int .i64 0) ∧ Hid (Kept (fun _ => False) V w')) := fun V v hV => (hV.free).mono fun e w' ⟨q1, m, q2⟩ => ⟨q1, by rw [q2]; exact (Kept.refl _ _).drewN m⟩
  have HPU : Hid (∀ V v, None' V v → Calls Try.prog 24 #[v, .string key, .string val] V fun e w' => e = .returned (.int .i64 1) ∧ Hid (Kept (fun _ => False) V w')) := fun V v hV => (hV.put key val hk1 hv1).mono fun e w' ⟨q1, m, q2⟩ => ⟨q1, by rw [q2]; exact (Kept.refl _ _).drewN m⟩
  have HDR : Hid (∀ V v, None' V v → Calls Try.prog 25 #[v, .string key] V fun e w' => e = .returned (.int .i64 1) ∧ Hid (Kept (fun _ => False) V w')) := fun V v hV => (hV.drop key).mono fun e w' ⟨q1, m, q2⟩ => ⟨q1, by rw [q2]; exact (Kept.refl _ _).drewN m⟩
  have HJO : Hid (∀ V v, None' V v → Calls Try.prog 22 #[v, v] V fun e w' => e = .returned (.int .i64 1) ∧ Hid (Kept (fun _ => False) V w')) := fun V v hV => (hV.join v).mono fun e w' ⟨q1, m, q2⟩ => ⟨q1, by rw [q2]; exact (Kept.refl _ _).drewN m⟩
  have HCO : Hid (∀ V v, None' V v → Calls Try.prog 28 #[v] V fun e w' => e = .returned (.pointer none) ∧ Hid (Kept (fun _ => False) V w')) := fun V v hV => (hV.copy).mono fun e w' ⟨q1, m, q2⟩ => ⟨q1, by rw [q2]; exact (Kept.refl _ _).drewN m⟩
  have HMC : Hid (∀ V, Calls Try.prog 29 #[.string key, .string val] V fun e w' => e = .returned (.bool (decide (mayC key val))) ∧ Hid (Kept (fun _ => False) V w')) := fun V => rmay_is key val hk1 hv1 V
  have HNW : Hid (∀ V, Calls Try.prog 9 #[.int .i64 3] V fun e w' => ∃ p, e = .returned (.tuple #[.pointer (some ⟨p, 0, none⟩), .int .i64 0]) ∧ Hid (Pg w' p (lay 3 []) ∧ Kept (fun _ => False) V w' ∧ V.heap.size ≤ p)) := fun V => new_is 3 (by decide) (by decide) V
  have HJN : Hid (∀ V p, Pg V p (lay 3 []) → Calls Try.prog 22 #[.pointer (some ⟨p, 0, none⟩), .pointer none] V fun e w' => e = .returned (.int .i64 1) ∧ Hid (Kept (fun _ => False) V w')) := fun V p hV => join_nil hV (by decide)
  have HCP : Hid (∀ V p, Pg V p (lay 3 []) → Calls Try.prog 28 #[.pointer (some ⟨p, 0, none⟩)] V fun e w' => ∃ q, e = .returned (.pointer (some ⟨q, 0, none⟩)) ∧ Hid (Pg w' q (lay 3 []) ∧ Kept (fun _ => False) V w' ∧ V.heap.size ≤ q)) := fun V p hV => copy_is hV (by rw [lay_kind]; decide)
  have HL0 : Hid (∀ V p, Pg V p (lay 3 []) → Calls Try.prog 19 #[.pointer (some ⟨p, 0, none⟩)] V fun e w' => e = .returned (.int .i64 0) ∧ Hid (Kept (fun _ => False) V w')) := fun V p hV => by
    have := len_is hV
    rw [lay_count 3 _ ok0] at this
    exact this.mono fun e w' ⟨q1, m, q2⟩ => ⟨q1, by rw [q2]; exact (Kept.refl _ _).drewN m⟩
  have HPT : Hid (∀ V p, Pg V p (lay 3 []) → Calls Try.prog 24 #[.pointer (some ⟨p, 0, none⟩), .string key, .string val] V fun e w' => PutE 3 [] key val p V e w') := fun V p hV => pput_is hV ok0 ris0 (by decide) key val (by omega) (by omega)
  have hP0 := pg_new w (zs 256) (by simp)
  have hK0 : Kept (fun _ => False) w (w.alloc (.cells (bv (zs 256)).toArray 58)) := (Kept.refl _ w).alloc _
  have HBU : Hid ((Instr.build 58 #[]).run Try.prog w = .ok (.agg (Array.replicate 256 (.int .u8 0))) w) := build58 w
  have HBO : Hid ((Instr.box 58 (.agg (Array.replicate 256 (.int .u8 0)))).run Try.prog w = .ok (.pointer (some ⟨w.heap.size, 0, none⟩)) (w.alloc (.cells (bv (zs 256)).toArray 58))) := box58 w
  obtain ⟨W1, hW1⟩ : ∃ W, w.alloc (.cells (bv (zs 256)).toArray 58) = W := ⟨_, rfl⟩
  obtain ⟨p, hp⟩ : ∃ p, w.heap.size = p := ⟨_, rfl⟩
  rw [hW1] at hP0 hK0 HBO
  rw [hp] at hP0 HBO
  generalize Array.replicate 256 (Value.int .u8 0) = ZZ at *
  obtain ⟨W2, hW2⟩ : ∃ W, W1.alloc (.cells #[.pointer none, .pointer (some ⟨p, 0, none⟩)] 23) = W := ⟨_, rfl⟩
  have hK2 : Kept (fun _ => False) W1 W2 := hW2 ▸ (Kept.refl _ W1).alloc _
  have hc := CellsF.new W1 [.pointer none, .pointer (some ⟨p, 0, none⟩)] 23 (by simp)
  rw [show ([.pointer none, .pointer (some ⟨p, 0, none⟩)] : List Value).toArray = #[.pointer none, .pointer (some ⟨p, 0, none⟩)] from rfl, hW2] at hc
  obtain ⟨B, hB⟩ : ∃ B, W1.heap.size = B := ⟨_, rfl⟩
  have HW2 : Hid (W1.alloc (.cells #[.pointer none, .pointer (some ⟨p, 0, none⟩)] 23) = W2 ∧ W1.heap.size = B) := ⟨hW2, hB⟩
  rw [hB] at hc
  have J : Hid (Pg W2 p (zs 256) ∧ Kept (fun _ => False) w W2 ∧ W2.cell? ⟨B, 0, none⟩ = some (.pointer none) ∧ W2.cell? ⟨B, 1, none⟩ = some (.pointer (some ⟨p, 0, none⟩))) := ⟨hP0.step hK2, hK0.trans hK2 (fun _ z => z.elim), hc.cs 0 _ rfl, hc.cs 1 _ rfl⟩
  clear hP0 hK0 hW1 hp hW2 hK2 hc hB
  go_enter Try.func8, Try.ntmps8
  go_upto_region 4 with (first | ((with_reducible apply st_build0); (case ho => rfl); (case hgd => rfl); (case hr => exact HBU.out)) | ((with_reducible apply st_box); (case ho => rfl); (case hgd => rfl); (case hr => exact HBO.out)))
  rw [HW2.out.1, HW2.out.2]
  clear HW2 HBU HBO
  go_wp2_with fail
  go_loopw [8] (fun v8 wr => ∃ i : Nat, i ≤ 2 ∧ v8 = .int .i64 i ∧ Hid (Pg wr p (zs 256) ∧ Kept (fun _ => False) w wr ∧ wr.cell? ⟨B, 0, none⟩ = some (.pointer none) ∧ wr.cell? ⟨B, 1, none⟩ = some (.pointer (some ⟨p, 0, none⟩)))) (fun v8 _ => 2 - (intOf v8).toNat)
  case atStart => exact ⟨0, by omega, rfl, J.out⟩
  case round =>
    obtain ⟨i, hi, rfl, HI⟩ := hrel
    clear J
    rcases (show i = 0 ∨ i = 1 ∨ i = 2 by omega) with rfl | rfl | rfl
    · have b0 := HI.out.2.2.1
      have J0 : Hid (None' wr (.pointer none) ∧ Pg wr p (zs 256) ∧ Kept (fun _ => False) w wr ∧ wr.cell? ⟨B, 0, none⟩ = some (.pointer none) ∧ wr.cell? ⟨B, 1, none⟩ = some (.pointer (some ⟨p, 0, none⟩))) := ⟨.inl rfl, HI.out⟩
      clear HI HMC HNW HJN HCP HL0 HPT HAW
      go_wp2_with fail
      refine Calls.mono (HAT.out _ _ J0.out.1) ?_; rintro e y1 ⟨rfl, HM⟩
      have J1 : Hid (None' y1 (.pointer none) ∧ Pg y1 p (zs 256) ∧ Kept (fun _ => False) w y1 ∧ y1.cell? ⟨B, 0, none⟩ = some (.pointer none) ∧ y1.cell? ⟨B, 1, none⟩ = some (.pointer (some ⟨p, 0, none⟩))) := ⟨J0.out.1.step HM.out, J0.out.2.1.step HM.out, J0.out.2.2.1.trans HM.out (fun _ z => z.elim), HM.out.cell J0.out.2.2.2.1 (fun z => z), HM.out.cell J0.out.2.2.2.2 (fun z => z)⟩
      clear HM J0
      go_wp2_with fail
      refine Calls.mono (HFI.out _ _ J1.out.1) ?_; rintro e y2 ⟨rfl, HM⟩
      have J2 : Hid (None' y2 (.pointer none) ∧ Pg y2 p (zs 256) ∧ Kept (fun _ => False) w y2 ∧ y2.cell? ⟨B, 0, none⟩ = some (.pointer none) ∧ y2.cell? ⟨B, 1, none⟩ = some (.pointer (some ⟨p, 0, none⟩))) := ⟨J1.out.1.step HM.out, J1.out.2.1.step HM.out, J1.out.2.2.1.trans HM.out (fun _ z => z.elim), HM.out.cell J1.out.2.2.2.1 (fun z => z), HM.out.cell J1.out.2.2.2.2 (fun z => z)⟩
      clear HM J1
      go_wp2_with fail
      refine Calls.mono (HSP.out _ _ J2.out.1) ?_; rintro e y3 ⟨rfl, HM⟩
      have J3 : Hid (None' y3 (.pointer none) ∧ Pg y3 p (zs 256) ∧ Kept (fun _ => False) w y3 ∧ y3.cell? ⟨B, 0, none⟩ = some (.pointer none) ∧ y3.cell? ⟨B, 1, none⟩ = some (.pointer (some ⟨p, 0, none⟩))) := ⟨J2.out.1.step HM.out, J2.out.2.1.step HM.out, J2.out.2.2.1.trans HM.out (fun _ z => z.elim), HM.out.cell J2.out.2.2.2.1 (fun z => z), HM.out.cell J2.out.2.2.2.2 (fun z => z)⟩
      clear HM J2
      go_wp2_with fail
      refine Calls.mono (HBY.out _ _ J3.out.1) ?_; rintro e y4 ⟨rfl, HM⟩
      have J4 : Hid (None' y4 (.pointer none) ∧ Pg y4 p (zs 256) ∧ Kept (fun _ => False) w y4 ∧ y4.cell? ⟨B, 0, none⟩ = some (.pointer none) ∧ y4.cell? ⟨B, 1, none⟩ = some (.pointer (some ⟨p, 0, none⟩))) := ⟨J3.out.1.step HM.out, J3.out.2.1.step HM.out, J3.out.2.2.1.trans HM.out (fun _ z => z.elim), HM.out.cell J3.out.2.2.2.1 (fun z => z), HM.out.cell J3.out.2.2.2.2 (fun z => z)⟩
      clear HM J3
      go_wp2_with fail
      refine Calls.mono (HKD.out _ _ J4.out.1) ?_; rintro e y5 ⟨rfl, HM⟩
      have J5 : Hid (None' y5 (.pointer none) ∧ Pg y5 p (zs 256) ∧ Kept (fun _ => False) w y5 ∧ y5.cell? ⟨B, 0, none⟩ = some (.pointer none) ∧ y5.cell? ⟨B, 1, none⟩ = some (.pointer (some ⟨p, 0, none⟩))) := ⟨J4.out.1.step HM.out, J4.out.2.1.step HM.out, J4.out.2.2.1.trans HM.out (fun _ z => z.elim), HM.out.cell J4.out.2.2.2.1 (fun z => z), HM.out.cell J4.out.2.2.2.2 (fun z => z)⟩
      clear HM J4
      go_wp2_with fail
      refine Calls.mono (HLN.out _ _ J5.out.1) ?_; rintro e y6 ⟨rfl, HM⟩
      have J6 : Hid (None' y6 (.pointer none) ∧ Pg y6 p (zs 256) ∧ Kept (fun _ => False) w y6 ∧ y6.cell? ⟨B, 0, none⟩ = some (.pointer none) ∧ y6.cell? ⟨B, 1, none⟩ = some (.pointer (some ⟨p, 0, none⟩))) := ⟨J5.out.1.step HM.out, J5.out.2.1.step HM.out, J5.out.2.2.1.trans HM.out (fun _ z => z.elim), HM.out.cell J5.out.2.2.2.1 (fun z => z), HM.out.cell J5.out.2.2.2.2 (fun z => z)⟩
      clear HM J5
      go_wp2_with fail
      refine Calls.mono (HFR.out _ _ J6.out.1) ?_; rintro e y7 ⟨rfl, HM⟩
      have J7 : Hid (None' y7 (.pointer none) ∧ Pg y7 p (zs 256) ∧ Kept (fun _ => False) w y7 ∧ y7.cell? ⟨B, 0, none⟩ = some (.pointer none) ∧ y7.cell? ⟨B, 1, none⟩ = some (.pointer (some ⟨p, 0, none⟩))) := ⟨J6.out.1.step HM.out, J6.out.2.1.step HM.out, J6.out.2.2.1.trans HM.out (fun _ z => z.elim), HM.out.cell J6.out.2.2.2.1 (fun z => z), HM.out.cell J6.out.2.2.2.2 (fun z => z)⟩
      clear HM J6
      go_wp2_with fail
      refine Calls.mono (HPU.out _ _ J7.out.1) ?_; rintro e y8 ⟨rfl, HM⟩
      have J8 : Hid (None' y8 (.pointer none) ∧ Pg y8 p (zs 256) ∧ Kept (fun _ => False) w y8 ∧ y8.cell? ⟨B, 0, none⟩ = some (.pointer none) ∧ y8.cell? ⟨B, 1, none⟩ = some (.pointer (some ⟨p, 0, none⟩))) := ⟨J7.out.1.step HM.out, J7.out.2.1.step HM.out, J7.out.2.2.1.trans HM.out (fun _ z => z.elim), HM.out.cell J7.out.2.2.2.1 (fun z => z), HM.out.cell J7.out.2.2.2.2 (fun z => z)⟩
      clear HM J7
      go_wp2_with fail
      refine Calls.mono (HDR.out _ _ J8.out.1) ?_; rintro e y9 ⟨rfl, HM⟩
      have J9 : Hid (None' y9 (.pointer none) ∧ Pg y9 p (zs 256) ∧ Kept (fun _ => False) w y9 ∧ y9.cell? ⟨B, 0, none⟩ = some (.pointer none) ∧ y9.cell? ⟨B, 1, none⟩ = some (.pointer (some ⟨p, 0, none⟩))) := ⟨J8.out.1.step HM.out, J8.out.2.1.step HM.out, J8.out.2.2.1.trans HM.out (fun _ z => z.elim), HM.out.cell J8.out.2.2.2.1 (fun z => z), HM.out.cell J8.out.2.2.2.2 (fun z => z)⟩
      clear HM J8
      go_wp2_with fail
      refine Calls.mono (HJO.out _ _ J9.out.1) ?_; rintro e y10 ⟨rfl, HM⟩
      have J10 : Hid (None' y10 (.pointer none) ∧ Pg y10 p (zs 256) ∧ Kept (fun _ => False) w y10 ∧ y10.cell? ⟨B, 0, none⟩ = some (.pointer none) ∧ y10.cell? ⟨B, 1, none⟩ = some (.pointer (some ⟨p, 0, none⟩))) := ⟨J9.out.1.step HM.out, J9.out.2.1.step HM.out, J9.out.2.2.1.trans HM.out (fun _ z => z.elim), HM.out.cell J9.out.2.2.2.1 (fun z => z), HM.out.cell J9.out.2.2.2.2 (fun z => z)⟩
      clear HM J9
      go_wp2_with fail
      refine Calls.mono (HCO.out _ _ J10.out.1) ?_; rintro e y11 ⟨rfl, HM⟩
      have J11 : Hid (None' y11 (.pointer none) ∧ Pg y11 p (zs 256) ∧ Kept (fun _ => False) w y11 ∧ y11.cell? ⟨B, 0, none⟩ = some (.pointer none) ∧ y11.cell? ⟨B, 1, none⟩ = some (.pointer (some ⟨p, 0, none⟩))) := ⟨J10.out.1.step HM.out, J10.out.2.1.step HM.out, J10.out.2.2.1.trans HM.out (fun _ z => z.elim), HM.out.cell J10.out.2.2.2.1 (fun z => z), HM.out.cell J10.out.2.2.2.2 (fun z => z)⟩
      clear HM J10
      go_wp2_with fail
      go_roundw
      case rel => exact ⟨1, by omega, rfl, J11.out.2⟩
      case measure => simp [intOf]
    · have b1 := HI.out.2.2.2
      have J0 : Hid (None' wr (.pointer (some ⟨p, 0, none⟩)) ∧ Pg wr p (zs 256) ∧ Kept (fun _ => False) w wr ∧ wr.cell? ⟨B, 0, none⟩ = some (.pointer none) ∧ wr.cell? ⟨B, 1, none⟩ = some (.pointer (some ⟨p, 0, none⟩))) := ⟨.inr ⟨p, rfl, HI.out.1⟩, HI.out⟩
      clear HI HMC HNW HJN HCP HL0 HPT HAW
      go_wp2_with fail
      refine Calls.mono (HAT.out _ _ J0.out.1) ?_; rintro e y1 ⟨rfl, HM⟩
      have J1 : Hid (None' y1 (.pointer (some ⟨p, 0, none⟩)) ∧ Pg y1 p (zs 256) ∧ Kept (fun _ => False) w y1 ∧ y1.cell? ⟨B, 0, none⟩ = some (.pointer none) ∧ y1.cell? ⟨B, 1, none⟩ = some (.pointer (some ⟨p, 0, none⟩))) := ⟨J0.out.1.step HM.out, J0.out.2.1.step HM.out, J0.out.2.2.1.trans HM.out (fun _ z => z.elim), HM.out.cell J0.out.2.2.2.1 (fun z => z), HM.out.cell J0.out.2.2.2.2 (fun z => z)⟩
      clear HM J0
      go_wp2_with fail
      refine Calls.mono (HFI.out _ _ J1.out.1) ?_; rintro e y2 ⟨rfl, HM⟩
      have J2 : Hid (None' y2 (.pointer (some ⟨p, 0, none⟩)) ∧ Pg y2 p (zs 256) ∧ Kept (fun _ => False) w y2 ∧ y2.cell? ⟨B, 0, none⟩ = some (.pointer none) ∧ y2.cell? ⟨B, 1, none⟩ = some (.pointer (some ⟨p, 0, none⟩))) := ⟨J1.out.1.step HM.out, J1.out.2.1.step HM.out, J1.out.2.2.1.trans HM.out (fun _ z => z.elim), HM.out.cell J1.out.2.2.2.1 (fun z => z), HM.out.cell J1.out.2.2.2.2 (fun z => z)⟩
      clear HM J1
      go_wp2_with fail
      refine Calls.mono (HSP.out _ _ J2.out.1) ?_; rintro e y3 ⟨rfl, HM⟩
      have J3 : Hid (None' y3 (.pointer (some ⟨p, 0, none⟩)) ∧ Pg y3 p (zs 256) ∧ Kept (fun _ => False) w y3 ∧ y3.cell? ⟨B, 0, none⟩ = some (.pointer none) ∧ y3.cell? ⟨B, 1, none⟩ = some (.pointer (some ⟨p, 0, none⟩))) := ⟨J2.out.1.step HM.out, J2.out.2.1.step HM.out, J2.out.2.2.1.trans HM.out (fun _ z => z.elim), HM.out.cell J2.out.2.2.2.1 (fun z => z), HM.out.cell J2.out.2.2.2.2 (fun z => z)⟩
      clear HM J2
      go_wp2_with fail
      refine Calls.mono (HBY.out _ _ J3.out.1) ?_; rintro e y4 ⟨rfl, HM⟩
      have J4 : Hid (None' y4 (.pointer (some ⟨p, 0, none⟩)) ∧ Pg y4 p (zs 256) ∧ Kept (fun _ => False) w y4 ∧ y4.cell? ⟨B, 0, none⟩ = some (.pointer none) ∧ y4.cell? ⟨B, 1, none⟩ = some (.pointer (some ⟨p, 0, none⟩))) := ⟨J3.out.1.step HM.out, J3.out.2.1.step HM.out, J3.out.2.2.1.trans HM.out (fun _ z => z.elim), HM.out.cell J3.out.2.2.2.1 (fun z => z), HM.out.cell J3.out.2.2.2.2 (fun z => z)⟩
      clear HM J3
      go_wp2_with fail
      refine Calls.mono (HKD.out _ _ J4.out.1) ?_; rintro e y5 ⟨rfl, HM⟩
      have J5 : Hid (None' y5 (.pointer (some ⟨p, 0, none⟩)) ∧ Pg y5 p (zs 256) ∧ Kept (fun _ => False) w y5 ∧ y5.cell? ⟨B, 0, none⟩ = some (.pointer none) ∧ y5.cell? ⟨B, 1, none⟩ = some (.pointer (some ⟨p, 0, none⟩))) := ⟨J4.out.1.step HM.out, J4.out.2.1.step HM.out, J4.out.2.2.1.trans HM.out (fun _ z => z.elim), HM.out.cell J4.out.2.2.2.1 (fun z => z), HM.out.cell J4.out.2.2.2.2 (fun z => z)⟩
      clear HM J4
      go_wp2_with fail
      refine Calls.mono (HLN.out _ _ J5.out.1) ?_; rintro e y6 ⟨rfl, HM⟩
      have J6 : Hid (None' y6 (.pointer (some ⟨p, 0, none⟩)) ∧ Pg y6 p (zs 256) ∧ Kept (fun _ => False) w y6 ∧ y6.cell? ⟨B, 0, none⟩ = some (.pointer none) ∧ y6.cell? ⟨B, 1, none⟩ = some (.pointer (some ⟨p, 0, none⟩))) := ⟨J5.out.1.step HM.out, J5.out.2.1.step HM.out, J5.out.2.2.1.trans HM.out (fun _ z => z.elim), HM.out.cell J5.out.2.2.2.1 (fun z => z), HM.out.cell J5.out.2.2.2.2 (fun z => z)⟩
      clear HM J5
      go_wp2_with fail
      refine Calls.mono (HFR.out _ _ J6.out.1) ?_; rintro e y7 ⟨rfl, HM⟩
      have J7 : Hid (None' y7 (.pointer (some ⟨p, 0, none⟩)) ∧ Pg y7 p (zs 256) ∧ Kept (fun _ => False) w y7 ∧ y7.cell? ⟨B, 0, none⟩ = some (.pointer none) ∧ y7.cell? ⟨B, 1, none⟩ = some (.pointer (some ⟨p, 0, none⟩))) := ⟨J6.out.1.step HM.out, J6.out.2.1.step HM.out, J6.out.2.2.1.trans HM.out (fun _ z => z.elim), HM.out.cell J6.out.2.2.2.1 (fun z => z), HM.out.cell J6.out.2.2.2.2 (fun z => z)⟩
      clear HM J6
      go_wp2_with fail
      refine Calls.mono (HPU.out _ _ J7.out.1) ?_; rintro e y8 ⟨rfl, HM⟩
      have J8 : Hid (None' y8 (.pointer (some ⟨p, 0, none⟩)) ∧ Pg y8 p (zs 256) ∧ Kept (fun _ => False) w y8 ∧ y8.cell? ⟨B, 0, none⟩ = some (.pointer none) ∧ y8.cell? ⟨B, 1, none⟩ = some (.pointer (some ⟨p, 0, none⟩))) := ⟨J7.out.1.step HM.out, J7.out.2.1.step HM.out, J7.out.2.2.1.trans HM.out (fun _ z => z.elim), HM.out.cell J7.out.2.2.2.1 (fun z => z), HM.out.cell J7.out.2.2.2.2 (fun z => z)⟩
      clear HM J7
      go_wp2_with fail
      refine Calls.mono (HDR.out _ _ J8.out.1) ?_; rintro e y9 ⟨rfl, HM⟩
      have J9 : Hid (None' y9 (.pointer (some ⟨p, 0, none⟩)) ∧ Pg y9 p (zs 256) ∧ Kept (fun _ => False) w y9 ∧ y9.cell? ⟨B, 0, none⟩ = some (.pointer none) ∧ y9.cell? ⟨B, 1, none⟩ = some (.pointer (some ⟨p, 0, none⟩))) := ⟨J8.out.1.step HM.out, J8.out.2.1.step HM.out, J8.out.2.2.1.trans HM.out (fun _ z => z.elim), HM.out.cell J8.out.2.2.2.1 (fun z => z), HM.out.cell J8.out.2.2.2.2 (fun z => z)⟩
      clear HM J8
      go_wp2_with fail
      refine Calls.mono (HJO.out _ _ J9.out.1) ?_; rintro e y10 ⟨rfl, HM⟩
      have J10 : Hid (None' y10 (.pointer (some ⟨p, 0, none⟩)) ∧ Pg y10 p (zs 256) ∧ Kept (fun _ => False) w y10 ∧ y10.cell? ⟨B, 0, none⟩ = some (.pointer none) ∧ y10.cell? ⟨B, 1, none⟩ = some (.pointer (some ⟨p, 0, none⟩))) := ⟨J9.out.1.step HM.out, J9.out.2.1.step HM.out, J9.out.2.2.1.trans HM.out (fun _ z => z.elim), HM.out.cell J9.out.2.2.2.1 (fun z => z), HM.out.cell J9.out.2.2.2.2 (fun z => z)⟩
      clear HM J9
      go_wp2_with fail
      refine Calls.mono (HCO.out _ _ J10.out.1) ?_; rintro e y11 ⟨rfl, HM⟩
      have J11 : Hid (None' y11 (.pointer (some ⟨p, 0, none⟩)) ∧ Pg y11 p (zs 256) ∧ Kept (fun _ => False) w y11 ∧ y11.cell? ⟨B, 0, none⟩ = some (.pointer none) ∧ y11.cell? ⟨B, 1, none⟩ = some (.pointer (some ⟨p, 0, none⟩))) := ⟨J10.out.1.step HM.out, J10.out.2.1.step HM.out, J10.out.2.2.1.trans HM.out (fun _ z => z.elim), HM.out.cell J10.out.2.2.2.1 (fun z => z), HM.out.cell J10.out.2.2.2.2 (fun z => z)⟩
      clear HM J10
      go_wp2_with fail
      go_roundw
      case rel => exact ⟨2, by omega, rfl, J11.out.2⟩
      case measure => simp [intOf]
    · have JK : Hid (Kept (fun _ => False) w wr) := HI.out.2.1
      clear HI HAT HFI HSP HBY HKD HLN HFR HPU HDR HJO HCO
      go_wp2_with fail
      refine Calls.mono (HNW.out _) ?_; rintro e x1 ⟨p2, rfl, HM⟩
      have I1 : Hid (Pg x1 p2 (lay 3 []) ∧ Kept (fun _ => False) w x1 ∧ w.heap.size ≤ p2) := ⟨HM.out.1, JK.out.trans HM.out.2.1 (fun _ z => z.elim), Nat.le_trans JK.out.size HM.out.2.2⟩
      clear HM JK HNW
      go_wp2_with fail
      refine Calls.mono (HJN.out _ _ I1.out.1) ?_; rintro e x2 ⟨rfl, HM⟩
      have I2 : Hid (Pg x2 p2 (lay 3 []) ∧ Kept (fun _ => False) w x2 ∧ w.heap.size ≤ p2) := ⟨I1.out.1.step HM.out, I1.out.2.1.trans HM.out (fun _ z => z.elim), I1.out.2.2⟩
      clear HM I1 HJN
      go_wp2_with fail
      refine Calls.mono (HCP.out _ _ I2.out.1) ?_; rintro e x3 ⟨q, rfl, HM⟩
      have I3 : Hid (Pg x3 p2 (lay 3 []) ∧ Pg x3 q (lay 3 []) ∧ Kept (fun _ => False) w x3 ∧ w.heap.size ≤ p2 ∧ q ≠ p2) := ⟨I2.out.1.step HM.out.2.1, HM.out.1, I2.out.2.1.trans HM.out.2.1 (fun _ z => z.elim), I2.out.2.2, by have := I2.out.1.lt; have := HM.out.2.2; omega⟩
      clear HM I2 HCP
      go_wp2_with fail
      refine Calls.mono (HPT.out _ _ I3.out.1) ?_; intro e x4 hpe
      rcases hpe with ⟨hm, rfl, g1, g2⟩ | ⟨hm, kk, bb, hf, (⟨hbad, _⟩ | ⟨_, rfl, g1, g2⟩)⟩
      · have I4 : Hid (Pg x4 q (lay 3 []) ∧ Kept (fun _ => False) w x4) := ⟨I3.out.2.1.step g2, I3.out.2.2.1.trans g2 (fun _ z => z.elim)⟩
        rw [decide_eq_false hm] at HMC
        clear hm g1 g2 I3 HPT
        go_wp2_with fail
        refine Calls.mono (HMC.out _) ?_; rintro e x5 ⟨rfl, HM⟩
        have I5 : Hid (Pg x5 q (lay 3 []) ∧ Kept (fun _ => False) w x5) := ⟨I4.out.1.step HM.out, I4.out.2.trans HM.out (fun _ z => z.elim)⟩
        clear HM I4 HMC
        go_wp2_with fail
        refine Calls.mono (HL0.out _ _ I5.out.1) ?_; rintro e x6 ⟨rfl, HM⟩
        have I6 : Hid (Kept (fun _ => False) w x6) := I5.out.2.trans HM.out (fun _ z => z.elim)
        clear HM I5 HL0
        go_wp2_with fail
        refine Calls.mono (HAW.out _) ?_; rintro e x7 ⟨rfl, HM⟩
        have I7 : Hid (Kept (fun _ => False) w x7) := I6.out.trans HM.out (fun _ z => z.elim)
        clear HM I6
        go_wp2_with fail
        go_ret
        exact ⟨rfl, I7.out⟩
      · obtain ⟨rfl, rfl⟩ := fnd0 _ hf
        have e1 : (putC [] 0 (if false = true then 0 + 1 else 0) (key.data.toList, val.data.toList)).length = 1 := rfl
        have e2 : tot (putC [] 0 (if false = true then 0 + 1 else 0) (key.data.toList, val.data.toList)) = key.data.toList.length + val.data.toList.length + 0 := rfl
        have lk : key.data.toList.length = key.size := by simp
        have lv : val.data.toList.length = val.size := by simp
        rw [e1, e2, lk, lv] at hbad
        have := hm.2.2
        omega
      · obtain ⟨rfl, rfl⟩ := fnd0 _ hf
        have hLn : byteAt (lay 3 (putC [] 0 (if false = true then 0 + 1 else 0) (key.data.toList, val.data.toList))) 1 = 1 := rfl
        have HL1 : Hid (∀ V, Pg V p2 (lay 3 (putC [] 0 (if false = true then 0 + 1 else 0) (key.data.toList, val.data.toList))) → Calls Try.prog 19 #[.pointer (some ⟨p2, 0, none⟩)] V fun e w' => e = .returned (.int .i64 1) ∧ Hid (Kept (fun _ => False) V w')) := fun V hV => by
          have := len_is hV
          rw [hLn] at this
          exact this.mono fun e w' ⟨q1, m, q2⟩ => ⟨q1, by rw [q2]; exact (Kept.refl _ _).drewN m⟩
        have I4 : Hid (Pg x4 p2 (lay 3 (putC [] 0 (if false = true then 0 + 1 else 0) (key.data.toList, val.data.toList))) ∧ Pg x4 q (lay 3 []) ∧ Kept (fun _ => False) w x4) := ⟨g1, I3.out.2.1.kept g2 I3.out.2.2.2.2, I3.out.2.2.1.trans g2 (fun i hi => .inr (by rw [hi]; exact I3.out.2.2.2.1))⟩
        rw [decide_eq_true hm] at HMC
        clear hm hf g1 g2 I3 HPT hLn
        generalize lay 3 (putC [] 0 (if false = true then 0 + 1 else 0) (key.data.toList, val.data.toList)) = LL at *
        go_wp2_with fail
        refine Calls.mono (HMC.out _) ?_; rintro e x5 ⟨rfl, HM⟩
        have I5 : Hid (Pg x5 p2 LL ∧ Pg x5 q (lay 3 []) ∧ Kept (fun _ => False) w x5) := ⟨I4.out.1.step HM.out, I4.out.2.1.step HM.out, I4.out.2.2.trans HM.out (fun _ z => z.elim)⟩
        clear HM I4 HMC
        go_wp2_with fail
        refine Calls.mono (HL0.out _ _ I5.out.2.1) ?_; rintro e x6 ⟨rfl, HM⟩
        have I6 : Hid (Pg x6 p2 LL ∧ Kept (fun _ => False) w x6) := ⟨I5.out.1.step HM.out, I5.out.2.2.trans HM.out (fun _ z => z.elim)⟩
        clear HM I5 HL0
        go_wp2_with fail
        refine Calls.mono (HL1.out _ I6.out.1) ?_; rintro e x7 ⟨rfl, HM⟩
        have I7 : Hid (Kept (fun _ => False) w x7) := I6.out.2.trans HM.out (fun _ z => z.elim)
        clear HM I6 HL1
        go_wp2_with fail
        refine Calls.mono (HAW.out _) ?_; rintro e x8 ⟨rfl, HM⟩
        have I8 : Hid (Kept (fun _ => False) w x8) := I7.out.trans HM.out (fun _ z => z.elim)
        clear HM I7
        go_wp2_with fail
        go_ret
        exact ⟨rfl, I8.out⟩
end Go.Proofs.Ytehaancdadmdkaa
