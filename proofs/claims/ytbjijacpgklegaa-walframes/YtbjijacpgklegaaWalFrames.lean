/- Proved: for every number turn and all texts s and bytes, quaysidelaw04.WalFrames(turn, s, bytes) returns true and the arguments read as before (no condition). -/
import Derived.Test.YtbjijacpgklegaaRows
import Derived.WalkKit
import Derived.Test.YtbjijacpgklegaaWake
import Derived.Test.YtbjijacpgklegaaRScan
import Derived.ProofKit
import Derived.OpenShut
import Derived.ShutString
namespace Go.Proofs.Ytbjijacpgklegaa.walFrames
open Go.ChangeShapes Go.WideShapes Go.ChangeAt Go.RowKit
open Go.ChangeMaps (open_string shut_string)
set_option linter.unusedVariables false

theorem own : ownKnob Try.prog.godebug = none := by kernel_rfl

theorem ba_list (a b : ByteArray) (h : a.data.toList = b.data.toList) : a = b := ByteArray.ext (Array.toList_inj.1 h)
theorem frame_list (t : Nat) (s : ByteArray) : (frameS t s).data.toList = (putL t ++ (putL s.size).take 2 ++ putL (sumOf (headS t s ++ s).data.toList)) ++ s.data.toList := by
  unfold frameS
  rw [ByteArray.data_append, ByteArray.data_append, Array.toList_append, Array.toList_append]
  congr 2
theorem frame_end (t : Nat) (s : ByteArray) (hs : s.size ≤ 1024) : endOf (frameS t s) = 10 + s.size := by
  unfold endOf
  rw [frame_list]
  have e4 : ((putL t ++ (putL s.size).take 2 ++ putL (sumOf (headS t s ++ s).data.toList)) ++ s.data.toList).getD 4 0 = UInt8.ofNat s.size := rfl
  have e5 : ((putL t ++ (putL s.size).take 2 ++ putL (sumOf (headS t s ++ s).data.toList)) ++ s.data.toList).getD 5 0 = UInt8.ofNat (s.size / 256) := rfl
  rw [e4, e5, UInt8.toNat_ofNat', UInt8.toNat_ofNat']
  omega
theorem frame_rec (t : Int) (s : ByteArray) (h : (1 ≤ t ∧ t ≤ 2147483647) ∧ (s.size ≠ 0 ∧ s.size ≤ 1024)) : recOf t (frameS t.toNat s) = some s := by
  have hz := frameS_size t.toNat s
  have hx : (frameS t.toNat s).extract 10 (10 + s.size) = s := by
    apply ba_list
    rw [ext_list, frame_list, List.drop_left' (by rfl), show 10 + s.size - 10 = s.size by omega, List.take_of_length_le (by simp)]
  have h0 : (frameS t.toNat s).extract 0 (10 + s.size) = frameS t.toNat s := by
    apply ba_list
    rw [ext_list, List.drop_zero, List.take_of_length_le (by rw [show (frameS t.toNat s).data.toList.length = (frameS t.toNat s).size by simp]; omega)]
  rw [rec_by (frame_end t.toNat s h.2.2), hx, h0, if_pos ⟨by omega, by omega, h, rfl⟩]
theorem frame_scan (t : Int) (s : ByteArray) (h : (1 ≤ t ∧ t ≤ 2147483647) ∧ (s.size ≠ 0 ∧ s.size ≤ 1024)) : scanS t (frameS t.toNat s) = ([s], 10 + s.size) := by
  have hz := frameS_size t.toNat s
  have h0 : (frameS t.toNat s).extract 0 (frameS t.toNat s).size = frameS t.toNat s := by
    apply ba_list
    rw [ext_list, List.drop_zero, List.take_of_length_le (by rw [show (frameS t.toNat s).data.toList.length = (frameS t.toNat s).size by simp]; omega)]
  unfold scanS
  rw [scanG, h0, frame_rec t s h]
  have hn : recOf t ((frameS t.toNat s).extract (0 + (10 + s.size)) (frameS t.toNat s).size) = none := rec_none (fun q => by
    have h1 := q.1
    simp at h1
    omega)
  rw [Nat.zero_add] at hn
  simp only [Nat.zero_add, scanG_none _ t _ _ hn]

theorem scan_many (f : Nat) (t : Int) (s : ByteArray) : ∀ u, u ≤ s.size → (scanG f t s u).1.length ≤ s.size - u := by
  induction f with
  | zero => intro u hu; exact Nat.zero_le _
  | succ f ih =>
    intro u hu
    rw [scanG]
    cases hr : recOf t (s.extract u s.size) with
    | none => exact Nat.zero_le _
    | some r =>
      have h1 := rec_fits hr
      have h2 : (s.extract u s.size).size = s.size - u := by simp
      have h3 := ih (u + (10 + r.size)) (by omega)
      simp only [List.length_cons]
      omega

set_option maxRecDepth 100000 in
set_option maxHeartbeats 1000000 in
theorem walk (a0 : Int) (a1 : ByteArray) (a2 : ByteArray) (w0 : (Lit.int .i64 a0).wf = true) (w1 : a1.size ≤ maxLen) (w2 : a2.size ≤ maxLen) (w : World) :
    Calls Try.prog 3 #[.int .i64 a0, .string a1, .string a2] w fun e w' => e = .returned (.bool true) ∧ Below w.heap.size w w' := by
  have HA := (show Hid _ from awake_is)
  unfold maxLen at w1 w2
  by_cases h1 : 2048 < a1.size
  · have h1i : 2048 < (a1.size : Int) := by omega
    clear w0
    go_enter Try.func3, Try.ntmps3
    go_wp2_with fail
    refine Calls.mono (HA.out _) ?_; rintro e w8 ⟨rfl, k8⟩
    have HK8 := (show Hid _ from k8)
    clear k8
    go_wp2_with fail
    go_ret
    exact ⟨rfl, HK8.out⟩
  · have h1i : ¬ 2048 < (a1.size : Int) := by omega
    by_cases h2 : 1024 < a2.size
    · have h2i : 1024 < (a2.size : Int) := by omega
      clear w0
      go_enter Try.func3, Try.ntmps3
      go_wp2_with fail
      refine Calls.mono (HA.out _) ?_; rintro e w8 ⟨rfl, k8⟩
      have HK8 := (show Hid _ from k8)
      clear k8
      go_wp2_with fail
      go_ret
      exact ⟨rfl, HK8.out⟩
    · have h2i : ¬ 1024 < (a2.size : Int) := by omega
      have HS1 := (show Hid _ from scan_is a0 a2 (by omega))
      have HS2 := (show Hid _ from rscan_is a0 a2 (by omega))
      have HSL : Hid ((scanS a0 a2).1.length ≤ 9223372036854775807) := Nat.le_trans (scan_many _ a0 a2 0 (Nat.zero_le _)) (by omega)
      generalize scanS a0 a2 = sc at *
      by_cases hm : (1 ≤ a0 ∧ a0 ≤ 2147483647) ∧ (a1.size ≠ 0 ∧ a1.size ≤ 1024)
      · obtain ⟨m, rfl⟩ : ∃ m : Nat, a0 = (m : Int) := ⟨a0.toNat, by omega⟩
        have HF1 := (show Hid _ from frame_is m a1 (by omega) hm.2)
        have HF2 := (show Hid _ from rframe_is m a1 (by omega) hm.2)
        have hfs := frameS_size m a1
        have hsc := frame_scan (m : Int) a1 hm
        rw [Int.toNat_natCast] at hsc
        have HS3 := (show Hid _ from scan_is (m : Int) (frameS m a1) (by omega))
        rw [hsc] at HS3
        generalize frameS m a1 = fr at *
        have hfsi : (fr.size : Int) = 10 + (a1.size : Int) := by omega
        clear hm hsc w0
        go_enter Try.func3, Try.ntmps3
        go_wp2_with fail
        refine Calls.mono (HF1.out _) ?_; rintro e w1 ⟨rfl, k1⟩
        have HB1 := (show Hid _ from k1)
        clear k1 HF1
        go_wp2_with fail
        refine Calls.mono (HF2.out _) ?_; rintro e w2 ⟨rfl, k2⟩
        have HB : Hid (Kept (fun _ => False) w w2) := HB1.out.trans k2 (fun _ z => .inl z)
        clear k2 HF2 HB1
        go_wp2_with fail
        refine Calls.mono (HS1.out _) ?_; rintro e w3 ⟨v1, rfl, o1, k1⟩
        obtain ⟨va, vc, rfl⟩ := own_form o1
        have HO1 := (show Hid _ from o1)
        have HK1 := (show Hid _ from k1)
        clear o1 k1
        go_wp2_with fail
        refine Calls.mono (HS2.out _) ?_; rintro e w4 ⟨v2, rfl, o2, k2⟩
        obtain ⟨vb, vd, rfl⟩ := own_form o2
        have HT : Hid (Calls Try.prog 13 #[.slice va sc.1.length vc, .slice vb sc.1.length vd] w4 fun e w' => e = .returned (.bool true) ∧ ∃ n, w' = w4.drewN n) := by
          have t1 := (own_texts HO1.out).kept k2 (fun _ _ _ _ z => z)
          have := same_is va vb vc vd sc.1 sc.1 w4 t1 (own_texts o2) HSL.out HSL.out
          rw [decide_eq_true rfl] at this
          exact this
        replace HK1 : Hid (Kept (fun _ => False) w w4) := (HB.out.trans HK1.out (fun _ z => .inl z)).trans k2 (fun _ z => .inl z)
        clear o2 k2 HO1 HS1 HS2 HB
        go_wp2_with fail
        refine Calls.mono HT.out ?_; rintro e w5 ⟨rfl, n5, h5⟩
        have HK5 : Hid (Kept (fun _ => False) w w5) := by
          show Kept (fun _ => False) w w5
          rw [h5]
          exact HK1.out.trans (kept_drewN _ n5) (fun _ z => .inl z)
        clear h5 HT HK1
        go_wp2_with fail
        refine Calls.mono (HS3.out _) ?_; rintro e w6 ⟨v6, rfl, o6, k6⟩
        obtain ⟨ve, vf, rfl⟩ := own_form o6
        have HT2 : Hid (Calls Try.prog 13 #[.slice ve 1 vf, .slice (some ⟨w6.heap.size, 0, none⟩) 1 1] (w6.alloc (.cells #[.string a1] 9)) fun e w' => e = .returned (.bool true) ∧ ∃ n, w' = (w6.alloc (.cells #[.string a1] 9)).drewN n) := by
          have k7 : Kept (fun _ => False) w6 (w6.alloc (.cells #[.string a1] 9)) := (Kept.refl _ w6).alloc _
          have t1 := (own_texts o6).kept k7 (fun _ _ _ _ z => z)
          have t2 : Texts (w6.alloc (.cells #[.string a1] 9)) (.slice (some ⟨w6.heap.size, 0, none⟩) [a1].length 1) [a1] := by
            refine .inr ⟨w6.heap.size, 0, 1, rfl, fun k hk => ?_⟩
            obtain rfl : k = 0 := by have : k < 1 := hk; omega
            simp
          have := same_is ve (some ⟨w6.heap.size, 0, none⟩) vf 1 [a1] [a1] _ t1 t2 (by simp) (by simp)
          rw [decide_eq_true rfl] at this
          exact this
        have HK6 : Hid (Kept (fun _ => False) w (w6.alloc (.cells #[.string a1] 9))) := (HK5.out.trans k6 (fun _ z => .inl z)).alloc _
        clear o6 k6 HS3 HK5
        go_wp2_with fail
        refine Calls.mono HT2.out ?_; rintro e w7 ⟨rfl, n7, h7⟩
        have HKX : Hid (Kept (fun _ => False) w w7) := by
          show Kept (fun _ => False) w w7
          rw [h7]
          exact HK6.out.trans (kept_drewN _ n7) (fun _ z => .inl z)
        clear h7 HT2 HK6
        go_wp2_with fail
        refine Calls.mono (HA.out _) ?_; rintro e w8 ⟨rfl, k8⟩
        have HK8 := (show Hid _ from k8)
        clear k8
        go_wp2_with fail
        go_ret
        have hb := HKX.out.below (Nat.le_refl _) (fun _ z => z.elim)
        exact ⟨rfl, hb.trans (HK8.out.mono hb.size)⟩
      · have HF1 := (show Hid _ from frame_no a0 a1 (by omega) hm)
        have HF2 := (show Hid _ from rframe_no a0 a1 (by omega) hm)
        clear hm w0
        go_enter Try.func3, Try.ntmps3
        go_wp2_with fail
        refine Calls.mono (HF1.out _) ?_; rintro e w1 ⟨rfl, rfl⟩
        go_wp2_with fail
        refine Calls.mono (HF2.out _) ?_; rintro e w2 ⟨rfl, rfl⟩
        have HB : Hid (Kept (fun _ => False) w2 w2) := Kept.refl _ _
        go_wp2_with fail
        refine Calls.mono (HS1.out _) ?_; rintro e w3 ⟨v1, rfl, o1, k1⟩
        obtain ⟨va, vc, rfl⟩ := own_form o1
        have HO1 := (show Hid _ from o1)
        have HK1 := (show Hid _ from k1)
        clear o1 k1
        go_wp2_with fail
        refine Calls.mono (HS2.out _) ?_; rintro e w4 ⟨v2, rfl, o2, k2⟩
        obtain ⟨vb, vd, rfl⟩ := own_form o2
        have HT : Hid (Calls Try.prog 13 #[.slice va sc.1.length vc, .slice vb sc.1.length vd] w4 fun e w' => e = .returned (.bool true) ∧ ∃ n, w' = w4.drewN n) := by
          have t1 := (own_texts HO1.out).kept k2 (fun _ _ _ _ z => z)
          have := same_is va vb vc vd sc.1 sc.1 w4 t1 (own_texts o2) HSL.out HSL.out
          rw [decide_eq_true rfl] at this
          exact this
        replace HK1 : Hid (Kept (fun _ => False) w2 w4) := (HB.out.trans HK1.out (fun _ z => .inl z)).trans k2 (fun _ z => .inl z)
        clear o2 k2 HO1 HS1 HS2 HB
        go_wp2_with fail
        refine Calls.mono HT.out ?_; rintro e w5 ⟨rfl, n5, h5⟩
        have HK5 : Hid (Kept (fun _ => False) w2 w5) := by
          show Kept (fun _ => False) w2 w5
          rw [h5]
          exact HK1.out.trans (kept_drewN _ n5) (fun _ z => .inl z)
        clear h5 HT HK1
        have HKX := HK5
        go_wp2_with fail
        refine Calls.mono (HA.out _) ?_; rintro e w8 ⟨rfl, k8⟩
        have HK8 := (show Hid _ from k8)
        clear k8
        go_wp2_with fail
        go_ret
        have hb := HKX.out.below (Nat.le_refl _) (fun _ z => z.elim)
        exact ⟨rfl, hb.trans (HK8.out.mono hb.size)⟩

/-! ### THE ROW's STEP: WRITTEN OUT: LEAVE IT -/
set_option maxRecDepth 100000 in
theorem lifted (os : Os) (started : os.Started) (H : Type) (enc : TypeId × Value → H) :
    ReturnsInHanded {} Try.checked os 3 .any (Rows.walFramesSpec.pre6 enc Try.prog Try.f3 Rows.walFramesRow.domain false) (Rows.walFramesSpec.post enc Try.prog Try.f3 false true false false) := by
  refine returnsInHanded_of_change (C := Try.checked) own started (by kernel_rfl) Try.func3
    (ChangeSpec.witness6 (enc := enc) (C := Try.checked) false ⟨#[], #[.int .i64 0, .string ByteArray.empty, .string ByteArray.empty], []⟩ 8 (by kernel_rfl) (by kernel_rfl) (by kernel_rfl) (by kernel_rfl)) ?_
  intro W base args ds gs before hval0 hW hcnd _
  have hval : ∀ (j : Nat) t v, Try.f3.params[j]? = some t → args[j]? = some v → Value.okWide Try.prog W .any base t v := hval0
  have hW' := hW
  obtain ⟨p, q, hA0, hV, rfl, hfz, hnd⟩ := hW
  have hA : DataW.TrodAll enc Try.prog W 0 (fun _ => true) true Try.f3.params.toList args.toList ds p := hA0
  rw [Try.params3] at hA hval
  obtain ⟨v0, vs0, d0, ds0, p0, q0, hargs, rfl, rfl, h0, r0⟩ := trodAll_cons hA
  obtain ⟨v1, vs1, d1, ds1, p1, q1, rfl, rfl, rfl, h1, r1⟩ := trodAll_cons r0
  obtain ⟨v2, vs2, d2, ds2, p2, q2, rfl, rfl, rfl, h2, r2⟩ := trodAll_cons r1
  obtain ⟨rfl, rfl, rfl⟩ := trodAll_nil r2
  obtain rfl : args = #[v0, v1, v2] := by cases args; simp_all
  obtain ⟨rfl, rfl⟩ := trodVars_none hV
  obtain ⟨a0, rfl, rfl, rfl, w0⟩ := open_int Try.underlying3 (hval 0 3 v0 rfl rfl) h0
  obtain ⟨a1, rfl, rfl, rfl, w1⟩ := open_string Try.underlying9 (hval 1 9 v1 rfl rfl) h1
  obtain ⟨a2, rfl, rfl, rfl, w2⟩ := open_string Try.underlying9 (hval 2 9 v2 rfl rfl) h2
  clear hA0 hval0
  simp only [List.append_nil] at hW'
  refine (walk a0 a1 a2 w0 w1 w2 W).mono fun e W' ⟨he, hg⟩ => ?_
  subst he
  exact ⟨_, rfl, _, _, _, [], _, [], hW', trodAll_mk1 (shut_bool Try.underlying4 _), (trodAll_cons_mk (shut_int Try.underlying3 w0) (trodAll_cons_mk (shut_string Try.underlying9 w1) (trodAll_cons_mk (shut_string Try.underlying9 w2) trodAll_mk0))), rfl, hg.frame _, fun h => by cases h⟩

theorem over : Rows.walFramesRow.holds Try.pinned (OpenSpec.ofChange Rows.walFramesSpec) :=
  OpenClaim.holds_of_wide 3 Try.f3 rfl rfl rfl rfl rfl rfl rfl ⟨rfl, rfl, rfl, rfl, rfl⟩ rfl rfl rfl rfl rfl (by kernel_rfl) Try.func3 (by kernel_rfl)
    (of_decide_eq_true (by kernel_rfl)) (by unfold Func.isWrapper; first | (rw [if_pos (by decide +kernel)]; kernel_rfl) | (rw [if_neg (by decide +kernel)]; exact ⟨rfl, rfl⟩))
    (fun os started H enc _ => lifted os started H enc)

/-- ████ THE STATEMENT ████ -/
theorem proved : Rows.WalFramesSaid :=
  over
#print axioms proved
end Go.Proofs.Ytbjijacpgklegaa.walFrames
