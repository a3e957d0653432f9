/- Proved: for every number many, every number again and every list keep of numbers, quaysidelaw03.DiskSure(many, again, keep) returns true and the arguments read as before (no condition). -/
import Derived.Test.YtlkkeabenklefaaRows
import Derived.WalkKit
import Derived.Test.YtlkkeabenklefaaLet
import Derived.ProofKit
import Derived.OpenShut
import Derived.ShutString
import Derived.ChangeOld
import Derived.Below
namespace Go.Proofs.Ytlkkeabenklefaa.diskSure
open Go.ChangeShapes Go.WideShapes Go.ChangeAt Go.RowKit
open Go.ChangeMaps (open_string shut_string)
set_option linter.unusedVariables false

theorem own : ownKnob Try.prog.godebug = none := by kernel_rfl
theorem laidOut : laidOutB Try.prog = true := by kernel_rfl

/-- WHAT THE WALK IS TOLD OF A SLICE OF INTEGERS THAT CAME IN: it is nil; or it leads to a row of 'cap' cells, the numbers 'zs' (the first 'len' are its elements, the rest its spare room), each fitting its kind. -/
def IsRow (k : IntKind) (w : World) (a : Option Addr) (len cap : Nat) (zs : List Int) : Prop :=
  (a = none ∧ len = 0 ∧ cap = 0 ∧ zs = []) ∨
  ∃ x, a = some x ∧ len ≤ cap ∧ cap ≤ maxLen ∧ zs.length = cap ∧ (∀ i, i < zs.length → w.cell? (x.add i) = some (.int k (zs.getD i 0))) ∧ ∀ n ∈ zs, (Lit.int k n).wf = true

theorem and_one (n : Int) : bits .and .i64 n 1 = n % 2 := by
  have h : (BitVec.ofInt 64 1).toNat = 2 ^ 1 - 1 := by decide
  have key : (BitVec.ofInt 64 n &&& BitVec.ofInt 64 1).toNat = (n % ((2 ^ 64 : Nat) : Int)).toNat % 2 ^ 1 := by
    rw [BitVec.toNat_and, BitVec.toNat_ofInt, h, Nat.and_two_pow_sub_one_eq_mod]
  show IntKind.i64.wrap ((BitVec.ofInt 64 n &&& BitVec.ofInt 64 1).toNat : Nat) = n % 2
  rw [key, IntKind.wrap_i64]
  omega

set_option maxHeartbeats 2000000 in
set_option maxRecDepth 100000 in
theorem core (a0 a1 : Int) (a2 : Option Addr) (len2 cap2 : Nat) (w : World) (n : Nat) (hn : bits .and .i64 a0 15 = (n : Int)) (hn16 : n < 16) (ks : List Int) (hkl : ks.length = len2) (hkm : len2 ≤ 9223372036854775807) (bt : Nat → Bool)
    (hbt : ∀ k : Nat, k < 16 → bits .and .i64 (a1 / 2 ^ k) 1 = if bt k then 1 else 0)
    (HC : Hid (∀ j, j < len2 → ∃ b o, a2 = some ⟨b, o, none⟩ ∧ w.cell? ⟨b, o + j, none⟩ = some (.int .i64 (ks.getD j 0))))
    (F0 : Hid (∀ w', Calls Try.prog 10 #[.int .u8 0] w' fun e w'' => e = .returned (.string (fill 0)) ∧ Kept (fun _ => False) w' w''))
    (F97 : Hid (∀ k : Nat, k < 16 → ∀ w', Calls Try.prog 10 #[.int .u8 (97 + (k : Int))] w' fun e w'' => e = .returned (.string (lt 97 k)) ∧ Kept (fun _ => False) w' w''))
    (F65 : Hid (∀ k : Nat, k < 16 → ∀ w', Calls Try.prog 10 #[.int .u8 (65 + (k : Int))] w' fun e w'' => e = .returned (.string (lt 65 k)) ∧ Kept (fun _ => False) w' w''))
    (HCR : Hid (∀ w' p, At w w' p (d2 n bt 16) → Calls Try.prog 19 #[.pointer (some ⟨p, 0, none⟩), .slice a2 len2 cap2] w' fun e w'' => e = .returned (.int .i64 0) ∧ At w w'' p (d3 n bt ks))) :
    Calls Try.prog 4 #[.int .i64 a0, .int .i64 a1, .slice a2 len2 cap2] w fun e w' => e = .returned (.bool true) ∧ Below w.heap.size w w' := by
  have HN := (show Hid _ from new_at 16 (by omega) (by omega) w)
  have HAW := (show Hid _ from awake_is)
  go_enter Try.func4, Try.ntmps4
  go_wp2_with fail
  refine Calls.mono HN.out ?_; rintro e w1 ⟨p, rfl, g1⟩
  have H0 : Hid (At w w1 p (d1 0)) := g1
  clear g1 HN
  go_wp2_with fail
  go_loopw [10] (fun i wr => ∃ k : Nat, k ≤ n ∧ i = .int .i64 k ∧ Hid (At w wr p (d1 k)))
    (fun i _ => n - (intOf i).toNat)
  case atStart => exact ⟨0, by omega, rfl, H0.out⟩
  case round =>
    obtain ⟨k, hk, rfl, HR⟩ := hrel
    clear H0
    by_cases hkn : k < n
    · have hkni : (k : Int) < (n : Int) := by omega
      go_wp2_with fail
      refine Calls.mono (F97.out k (by omega) _) ?_; rintro e w2 ⟨rfl, k2⟩
      replace HR : Hid (At w w2 p (d1 k)) := HR.out.step k2
      clear k2
      have HW : Hid (Calls Try.prog 11 #[.pointer (some ⟨p, 0, none⟩), .int .i64 (k : Int), .string (lt 97 k)] w2 fun e w' => e = .returned (.int .i64 0) ∧ At w w' p (d1 (k + 1))) := w_one k HR.out (by omega)
      clear HR
      go_wp2_with fail
      refine Calls.mono HW.out ?_; rintro e w3 ⟨rfl, k3⟩
      replace k3 : Hid (At w w3 p (d1 (k + 1))) := k3
      clear HW
      go_wp2_with fail
      go_roundw
      case rel => exact ⟨k + 1, by omega, by go_num, k3.out⟩
      case measure => simp [intOf]; omega
    · have hkni : ¬ (k : Int) < (n : Int) := by omega
      have ek : k = n := by omega
      subst ek
      have HF : Hid (Calls Try.prog 15 #[.pointer (some ⟨p, 0, none⟩)] wr fun e w' => e = .returned (.int .i64 0) ∧ At w w' p (d2 k bt 0)) := w_flush k bt HR.out (by omega)
      clear HR hkn hk
      go_wp2_with fail
      refine Calls.mono HF.out ?_; rintro e w2 ⟨rfl, k2⟩
      have H1 : Hid (At w w2 p (d2 k bt 0)) := k2
      clear k2 HF
      go_wp2_with fail
      go_loopw [11] (fun i wr => ∃ m : Nat, m ≤ 16 ∧ i = .int .i64 m ∧ Hid (At w wr p (d2 k bt m)))
        (fun i _ => 16 - (intOf i).toNat)
      case atStart => exact ⟨0, by omega, rfl, H1.out⟩
      case round =>
        obtain ⟨m, hm, rfl, HR⟩ := hrel
        clear H1
        by_cases hm16 : m < 16
        · have hmi : (m : Int) < 16 := by omega
          have hb := hbt m hm16
          cases hbm : bt m with
          | true =>
            rw [hbm, if_pos rfl] at hb
            go_wp2_with fail
            refine Calls.mono (F65.out m hm16 _) ?_; rintro e w3 ⟨rfl, k3⟩
            have HW := (show Hid _ from w_two k bt m hbm (HR.out.step k3) hm16)
            clear k3 HR
            go_wp2_with fail
            refine Calls.mono HW.out ?_; rintro e w4 ⟨rfl, k4⟩
            replace k4 : Hid (At w w4 p (d2 k bt (m + 1))) := k4
            clear HW
            go_wp2_with fail
            go_roundw
            case rel => exact ⟨m + 1, by omega, by go_num, k4.out⟩
            case measure => simp [intOf]; omega
          | false =>
            rw [hbm, if_neg (by simp)] at hb
            have HR2 : Hid (At w wr p (d2 k bt (m + 1))) := by rw [← d2_same k bt m hbm]; exact HR
            clear HR
            go_wp2_with fail
            go_roundw
            case rel => exact ⟨m + 1, by omega, by go_num, HR2.out⟩
            case measure => simp [intOf]; omega
        · have hmi : ¬ (m : Int) < 16 := by omega
          have em : m = 16 := by omega
          subst em
          have HX := (show Hid _ from HCR.out wr p HR.out)
          clear HR hm hm16
          go_wp2_with fail
          refine Calls.mono HX.out ?_; rintro e w5 ⟨rfl, k5⟩
          have H2 : Hid (At w w5 p (d3 k bt ks)) := k5
          clear k5 HX HCR
          go_wp2_with fail
          go_loopw [12, 13] (fun at_ i wr => ∃ m : Nat, m ≤ 16 ∧ i = .int .i64 m ∧ at_ = .int .i64 ((wb bt m).length : Nat) ∧ Hid (At w wr p (d3 k bt ks)))
            (fun _ i _ => 16 - (intOf i).toNat)
          case atStart => exact ⟨0, by omega, rfl, rfl, H2.out⟩
          case round =>
            obtain ⟨m, hm, rfl, rfl, HR⟩ := hrel
            clear H2
            by_cases hm16 : m < 16
            · have hmi : (m : Int) < 16 := by omega
              have hb := hbt m hm16
              have hkk : Hid (kk bt ks m ≤ 32) := kk_le bt ks m
              have hc16 : (wb bt m).length ≤ 16 := Nat.le_trans (wb_len bt m) hm
              have hnext : Hid ((wb bt (m + 1)).length = (wb bt m).length + if bt m then 1 else 0) := by rw [wb, List.length_append]; split <;> rfl
              have hsurv : Hid (kk bt ks m = if bt m then surv ks (wb bt m).length else 0) := rfl
              have HRD := (show Hid (∀ w', At w w' p (d3 k bt ks) → _) from fun w' h => w_read k bt ks (by omega) h m hm16)
              have hwas : Hid (was k m = if m < k then lt 97 m else fill 0) := rfl
              obtain ⟨c, hc⟩ : ∃ c, (wb bt m).length = c := ⟨_, rfl⟩
              obtain ⟨c2, hc2⟩ : ∃ c, (wb bt (m + 1)).length = c := ⟨_, rfl⟩
              have HC2 : Hid ((wb bt (m + 1)).length = c2) := hc2
              rw [hc] at hc16 hnext hsurv
              rw [hc2] at hnext
              rw [hc]
              obtain ⟨K, hK⟩ : ∃ K, kk bt ks m = K := ⟨_, rfl⟩
              obtain ⟨ws, hws⟩ : ∃ ws, was k m = ws := ⟨_, rfl⟩
              have hz : Hid (ws.size = 32) := by rw [← hws]; exact was_size k m
              rw [hK] at hkk hsurv HRD
              rw [hws] at HRD hwas
              clear hc hc2 hK hws
              obtain ⟨rd, hrd0⟩ : ∃ rd, rd = (lt 65 m).extract 0 K ++ ws.extract K 32 := ⟨_, rfl⟩
              rw [← hrd0] at HRD
              have hrd := (show Hid _ from hrd0)
              clear hrd0
              go_wp2_with fail
              refine Calls.mono (F0.out _) ?_; rintro e w6 ⟨rfl, k6⟩
              replace HR : Hid (At w w6 p (d3 k bt ks)) := HR.out.step k6
              clear k6
              by_cases hmk : m < k
              · have hmki : (m : Int) < (k : Int) := by omega
                rw [if_pos hmk] at hwas
                go_wp2_with fail
                refine Calls.mono (F97.out m hm16 _) ?_; rintro e w7 ⟨rfl, k7⟩
                replace HR : Hid (At w w7 p (d3 k bt ks)) := HR.out.step k7
                clear k7
                rw [← hwas.out]
                clear hwas
                cases hbm : bt m with
                | true =>
                  rw [hbm, if_pos rfl] at hb hnext hsurv
                  have hcc : Hid (c2 = c + 1) := hnext.out
                  by_cases hcl : c < len2
                  · have hcli : (c : Int) < (len2 : Int) := by omega
                    obtain ⟨b, o, rfl, hcell⟩ := HC.out c hcl
                    have hbw : b < w.heap.size := World.block_lt_of_cell? w _ hcell
                    have ck := (HR.out.below.cell hbw).trans hcell
                    have hKk : kept (ks.getD c 0) = K := by rw [hsurv.out]; unfold surv; rw [List.getElem?_eq_getElem (by omega)]; simp [List.getD, List.getElem?_eq_getElem (show c < ks.length by omega)]
                    have hmin := min_a (ks.getD c 0)
                    have hmax := max_a (ks.getD c 0)
                    rw [hKk] at hmax
                    clear hcell hbw hKk hsurv HC
                    generalize ks.getD c 0 = z at *
                    generalize min z 32 = z32 at *
                    go_wp2_with fail
                    refine Calls.mono (HRD.out _ HR.out) ?_; rintro e w9 ⟨rfl, rfl⟩
                    clear HRD
                    go_wp2_with fail
                    have HR9 : Hid (At w w9.drew p (d3 k bt ks)) := HR.out.drew
                    have F65m := (show Hid _ from F65.out m hm16)
                    have hfz : (lt 65 m).size = 32 := lt_size 65 m
                    obtain ⟨fx, hfx⟩ : ∃ fx, lt 65 m = fx := ⟨_, rfl⟩
                    rw [hfx] at hfz hrd F65m
                    have hwz : ws.size = 32 := hz.out
                    have hK32 : ((K : Nat) : Int) ≤ 32 := by have := hkk.out; omega
                    have hw1 : IntKind.i64.wrap (65 + (m : Int)) = 65 + (m : Int) := by rw [IntKind.wrap_i64]; omega
                    have hw2 : IntKind.u8.wrap (65 + (m : Int)) = 65 + (m : Int) := by simp [IntKind.wrap, IntKind.bits, IntKind.signed]; omega
                    clear hfx hz HR
                    refine wp_region_any (by kernel_rfl) ?_
                    rw [show ({ w9 with drawn := w9.drawn + 1 } : World) = w9.drew from rfl]
                    refine wpAny_take (i := 0) (v := .int .i64 0) rfl (by kernel_rfl) (by kernel_rfl) (by kernel_rfl) (fun _ _ _ h => h) (Or.inl ⟨by rfl, fun w => by go_simp⟩) ?_
                    simp only [Act.put, List.getElem_toArray, List.getElem_cons_zero, List.setIfInBounds_toArray, List.set_cons_succ, List.set_cons_zero]
                    refine wpAny_take (i := 1) (v := .bool false) rfl (by kernel_rfl) (by kernel_rfl) (by kernel_rfl) (fun _ _ _ h => h) (Or.inl ⟨by rfl, fun w => by go_simp⟩) ?_
                    simp only [Act.put, List.getElem_toArray, List.getElem_cons_succ, List.getElem_cons_zero, List.setIfInBounds_toArray, List.set_cons_succ, List.set_cons_zero]
                    refine wpAny_take (i := 2) (v := .bool false) rfl (by kernel_rfl) (by kernel_rfl) (by kernel_rfl) (fun _ _ _ h => h) (Or.inl ⟨by rfl, fun w => by go_simp⟩) ?_
                    simp only [Act.put, List.getElem_toArray, List.getElem_cons_succ, List.getElem_cons_zero, List.setIfInBounds_toArray, List.set_cons_succ, List.set_cons_zero]
                    refine wpAny_take (i := 3) (v := .string rd) rfl (by kernel_rfl) (by kernel_rfl) (by kernel_rfl) (fun _ _ _ h => h) (Or.inl ⟨by rfl, fun w => by go_simp⟩) ?_
                    simp only [Act.put, List.getElem_toArray, List.getElem_cons_succ, List.getElem_cons_zero, List.setIfInBounds_toArray, List.set_cons_succ, List.set_cons_zero]
                    refine wpAny_take (i := 4) (v := .int .i64 (m : Int)) rfl (by kernel_rfl) (by kernel_rfl) (by kernel_rfl) (fun _ _ _ h => h) (Or.inl ⟨by rfl, fun w => by go_simp⟩) ?_
                    simp only [Act.put, List.getElem_toArray, List.getElem_cons_succ, List.getElem_cons_zero, List.setIfInBounds_toArray, List.set_cons_succ, List.set_cons_zero]
                    refine wpAny_take (i := 5) (v := .int .i64 (65 + (m : Int))) rfl (by kernel_rfl) (by kernel_rfl) (by kernel_rfl) (fun _ _ _ h => h) (Or.inl ⟨by rfl, fun w => by go_simp⟩) ?_
                    simp only [Act.put, List.getElem_toArray, List.getElem_cons_succ, List.getElem_cons_zero, List.setIfInBounds_toArray, List.set_cons_succ, List.set_cons_zero]
                    refine wpAny_take (i := 6) (v := .int .u8 (65 + (m : Int))) rfl (by kernel_rfl) (by kernel_rfl) (by kernel_rfl) (fun _ _ _ h => h) (Or.inl ⟨by rfl, fun w => by go_simp⟩) ?_
                    simp only [Act.put, List.getElem_toArray, List.getElem_cons_succ, List.getElem_cons_zero, List.setIfInBounds_toArray, List.set_cons_succ, List.set_cons_zero]
                    refine wpAny_take (i := 8) (v := .int .i64 ((K : Nat) : Int)) rfl (by kernel_rfl) (by kernel_rfl) (by kernel_rfl) (fun _ _ _ h => h) (Or.inl ⟨by rfl, fun w => by go_simp⟩) ?_
                    simp only [Act.put, List.getElem_toArray, List.getElem_cons_succ, List.getElem_cons_zero, List.setIfInBounds_toArray, List.set_cons_succ, List.set_cons_zero]
                    refine wpAny_take (i := 10) (v := .string ws) rfl (by kernel_rfl) (by kernel_rfl) (by kernel_rfl) (fun _ _ _ h => h) (Or.inl ⟨by rfl, fun w => by go_simp⟩) ?_
                    simp only [Act.put, List.getElem_toArray, List.getElem_cons_succ, List.getElem_cons_zero, List.setIfInBounds_toArray, List.set_cons_succ, List.set_cons_zero]
                    refine wpAny_take (i := 11) (v := .int .i64 ((K : Nat) : Int)) rfl (by kernel_rfl) (by kernel_rfl) (by kernel_rfl) (fun _ _ _ h => h) (Or.inl ⟨by rfl, fun w => by go_simp⟩) ?_
                    simp only [Act.put, List.getElem_toArray, List.getElem_cons_succ, List.getElem_cons_zero, List.setIfInBounds_toArray, List.set_cons_succ, List.set_cons_zero]
                    refine wpAny_take (i := 12) (v := .string (ws.extract K 32)) rfl (by kernel_rfl) (by kernel_rfl) (by kernel_rfl) (fun _ _ _ h => h) (Or.inl ⟨by rfl, fun w => by go_simp⟩) ?_
                    simp only [Act.put, List.getElem_toArray, List.getElem_cons_succ, List.getElem_cons_zero, List.setIfInBounds_toArray, List.set_cons_succ, List.set_cons_zero]
                    refine wpAny_ready (rs := [7]) (by kernel_rfl) (by simp) (AllReady.cons rfl (fun K' hK' => ?_) AllReady.nil)
                    go_simp
                    refine Calls.mono (F65m.out _) ?_; rintro e wf ⟨rfl, kf⟩
                    have HRf : Hid (At w wf p (d3 k bt ks)) := HR9.out.step kf
                    clear kf HR9
                    go_simp
                    refine hK' _ _ ?_
                    clear hK' K'
                    refine wpAny_take (i := 9) (v := .string (fx.extract 0 K)) rfl (by kernel_rfl) (by kernel_rfl) (by kernel_rfl) (fun _ _ _ h => h) (Or.inl ⟨by rfl, fun w => by go_simp⟩) ?_
                    simp only [Act.put, List.getElem_toArray, List.getElem_cons_succ, List.getElem_cons_zero, List.setIfInBounds_toArray, List.set_cons_succ, List.set_cons_zero]
                    refine wpAny_take (i := 13) (v := .string (fx.extract 0 K ++ ws.extract K 32)) rfl (by kernel_rfl) (by kernel_rfl) (by kernel_rfl) (fun _ _ _ h => h) (Or.inl ⟨by rfl, fun w => by go_simp; omega⟩) ?_
                    simp only [Act.put, List.getElem_toArray, List.getElem_cons_succ, List.getElem_cons_zero, List.setIfInBounds_toArray, List.set_cons_succ, List.set_cons_zero]
                    refine wpAny_take (i := 14) (v := .bool false) rfl (by kernel_rfl) (by kernel_rfl) (by kernel_rfl) (fun _ _ _ h => h) (Or.inl ⟨by rfl, fun w => by have := hrd.out; subst this; go_simp⟩) ?_
                    simp only [Act.put, List.getElem_toArray, List.getElem_cons_succ, List.getElem_cons_zero, List.setIfInBounds_toArray, List.set_cons_succ, List.set_cons_zero]
                    refine wpAny_take (i := 15) (v := .bool false) rfl (by kernel_rfl) (by kernel_rfl) (by kernel_rfl) (fun _ _ _ h => h) (Or.inl ⟨by rfl, fun w => by go_simp⟩) ?_
                    simp only [Act.put, List.getElem_toArray, List.getElem_cons_succ, List.getElem_cons_zero, List.setIfInBounds_toArray, List.set_cons_succ, List.set_cons_zero]
                    refine wpAny_done (by kernel_rfl) ?_ _
                    go_wp2_with fail
                    go_roundw
                    case rel => exact ⟨m + 1, by omega, by go_num, by rw [HC2.out, hcc.out]; go_num, HRf.out⟩
                    case measure => simp [intOf]; omega

                  · have hcli : ¬ (c : Int) < (len2 : Int) := by omega
                    have hK0 : K = 0 := by rw [hsurv.out]; unfold surv; rw [List.getElem?_eq_none (by omega)]
                    rw [hK0] at hrd hkk
                    clear hK0 hsurv
                    go_wp2_with fail
                    refine Calls.mono (HRD.out _ HR.out) ?_; rintro e w9 ⟨rfl, rfl⟩
                    clear HRD
                    go_wp2_with fail
                    have HR9 : Hid (At w w9.drew p (d3 k bt ks)) := HR.out.drew
                    have F65m := (show Hid _ from F65.out m hm16)
                    have hfz : (lt 65 m).size = 32 := lt_size 65 m
                    obtain ⟨fx, hfx⟩ : ∃ fx, lt 65 m = fx := ⟨_, rfl⟩
                    rw [hfx] at hfz hrd F65m
                    have hwz : ws.size = 32 := hz.out
                    have hK32 : (0 : Int) ≤ 32 := by have := hkk.out; omega
                    have hw1 : IntKind.i64.wrap (65 + (m : Int)) = 65 + (m : Int) := by rw [IntKind.wrap_i64]; omega
                    have hw2 : IntKind.u8.wrap (65 + (m : Int)) = 65 + (m : Int) := by simp [IntKind.wrap, IntKind.bits, IntKind.signed]; omega
                    clear hfx hz HR
                    refine wp_region_any (by kernel_rfl) ?_
                    rw [show ({ w9 with drawn := w9.drawn + 1 } : World) = w9.drew from rfl]
                    refine wpAny_take (i := 0) (v := .int .i64 0) rfl (by kernel_rfl) (by kernel_rfl) (by kernel_rfl) (fun _ _ _ h => h) (Or.inl ⟨by rfl, fun w => by go_simp⟩) ?_
                    simp only [Act.put, List.getElem_toArray, List.getElem_cons_zero, List.setIfInBounds_toArray, List.set_cons_succ, List.set_cons_zero]
                    refine wpAny_take (i := 1) (v := .bool false) rfl (by kernel_rfl) (by kernel_rfl) (by kernel_rfl) (fun _ _ _ h => h) (Or.inl ⟨by rfl, fun w => by go_simp⟩) ?_
                    simp only [Act.put, List.getElem_toArray, List.getElem_cons_succ, List.getElem_cons_zero, List.setIfInBounds_toArray, List.set_cons_succ, List.set_cons_zero]
                    refine wpAny_take (i := 2) (v := .bool false) rfl (by kernel_rfl) (by kernel_rfl) (by kernel_rfl) (fun _ _ _ h => h) (Or.inl ⟨by rfl, fun w => by go_simp⟩) ?_
                    simp only [Act.put, List.getElem_toArray, List.getElem_cons_succ, List.getElem_cons_zero, List.setIfInBounds_toArray, List.set_cons_succ, List.set_cons_zero]
                    refine wpAny_take (i := 3) (v := .string rd) rfl (by kernel_rfl) (by kernel_rfl) (by kernel_rfl) (fun _ _ _ h => h) (Or.inl ⟨by rfl, fun w => by go_simp⟩) ?_
                    simp only [Act.put, List.getElem_toArray, List.getElem_cons_succ, List.getElem_cons_zero, List.setIfInBounds_toArray, List.set_cons_succ, List.set_cons_zero]
                    refine wpAny_take (i := 4) (v := .int .i64 (m : Int)) rfl (by kernel_rfl) (by kernel_rfl) (by kernel_rfl) (fun _ _ _ h => h) (Or.inl ⟨by rfl, fun w => by go_simp⟩) ?_
                    simp only [Act.put, List.getElem_toArray, List.getElem_cons_succ, List.getElem_cons_zero, List.setIfInBounds_toArray, List.set_cons_succ, List.set_cons_zero]
                    refine wpAny_take (i := 5) (v := .int .i64 (65 + (m : Int))) rfl (by kernel_rfl) (by kernel_rfl) (by kernel_rfl) (fun _ _ _ h => h) (Or.inl ⟨by rfl, fun w => by go_simp⟩) ?_
                    simp only [Act.put, List.getElem_toArray, List.getElem_cons_succ, List.getElem_cons_zero, List.setIfInBounds_toArray, List.set_cons_succ, List.set_cons_zero]
                    refine wpAny_take (i := 6) (v := .int .u8 (65 + (m : Int))) rfl (by kernel_rfl) (by kernel_rfl) (by kernel_rfl) (fun _ _ _ h => h) (Or.inl ⟨by rfl, fun w => by go_simp⟩) ?_
                    simp only [Act.put, List.getElem_toArray, List.getElem_cons_succ, List.getElem_cons_zero, List.setIfInBounds_toArray, List.set_cons_succ, List.set_cons_zero]
                    refine wpAny_take (i := 8) (v := .int .i64 (0 : Int)) rfl (by kernel_rfl) (by kernel_rfl) (by kernel_rfl) (fun _ _ _ h => h) (Or.inl ⟨by rfl, fun w => by go_simp⟩) ?_
                    simp only [Act.put, List.getElem_toArray, List.getElem_cons_succ, List.getElem_cons_zero, List.setIfInBounds_toArray, List.set_cons_succ, List.set_cons_zero]
                    refine wpAny_take (i := 10) (v := .string ws) rfl (by kernel_rfl) (by kernel_rfl) (by kernel_rfl) (fun _ _ _ h => h) (Or.inl ⟨by rfl, fun w => by go_simp⟩) ?_
                    simp only [Act.put, List.getElem_toArray, List.getElem_cons_succ, List.getElem_cons_zero, List.setIfInBounds_toArray, List.set_cons_succ, List.set_cons_zero]
                    refine wpAny_take (i := 11) (v := .int .i64 (0 : Int)) rfl (by kernel_rfl) (by kernel_rfl) (by kernel_rfl) (fun _ _ _ h => h) (Or.inl ⟨by rfl, fun w => by go_simp⟩) ?_
                    simp only [Act.put, List.getElem_toArray, List.getElem_cons_succ, List.getElem_cons_zero, List.setIfInBounds_toArray, List.set_cons_succ, List.set_cons_zero]
                    refine wpAny_take (i := 12) (v := .string (ws.extract 0 32)) rfl (by kernel_rfl) (by kernel_rfl) (by kernel_rfl) (fun _ _ _ h => h) (Or.inl ⟨by rfl, fun w => by go_simp⟩) ?_
                    simp only [Act.put, List.getElem_toArray, List.getElem_cons_succ, List.getElem_cons_zero, List.setIfInBounds_toArray, List.set_cons_succ, List.set_cons_zero]
                    refine wpAny_ready (rs := [7]) (by kernel_rfl) (by simp) (AllReady.cons rfl (fun K' hK' => ?_) AllReady.nil)
                    go_simp
                    refine Calls.mono (F65m.out _) ?_; rintro e wf ⟨rfl, kf⟩
                    have HRf : Hid (At w wf p (d3 k bt ks)) := HR9.out.step kf
                    clear kf HR9
                    go_simp
                    refine hK' _ _ ?_
                    clear hK' K'
                    refine wpAny_take (i := 9) (v := .string (fx.extract 0 0)) rfl (by kernel_rfl) (by kernel_rfl) (by kernel_rfl) (fun _ _ _ h => h) (Or.inl ⟨by rfl, fun w => by go_simp⟩) ?_
                    simp only [Act.put, List.getElem_toArray, List.getElem_cons_succ, List.getElem_cons_zero, List.setIfInBounds_toArray, List.set_cons_succ, List.set_cons_zero]
                    refine wpAny_take (i := 13) (v := .string (fx.extract 0 0 ++ ws.extract 0 32)) rfl (by kernel_rfl) (by kernel_rfl) (by kernel_rfl) (fun _ _ _ h => h) (Or.inl ⟨by rfl, fun w => by go_simp⟩) ?_
                    simp only [Act.put, List.getElem_toArray, List.getElem_cons_succ, List.getElem_cons_zero, List.setIfInBounds_toArray, List.set_cons_succ, List.set_cons_zero]
                    refine wpAny_take (i := 14) (v := .bool false) rfl (by kernel_rfl) (by kernel_rfl) (by kernel_rfl) (fun _ _ _ h => h) (Or.inl ⟨by rfl, fun w => by have := hrd.out; subst this; go_simp⟩) ?_
                    simp only [Act.put, List.getElem_toArray, List.getElem_cons_succ, List.getElem_cons_zero, List.setIfInBounds_toArray, List.set_cons_succ, List.set_cons_zero]
                    refine wpAny_take (i := 15) (v := .bool false) rfl (by kernel_rfl) (by kernel_rfl) (by kernel_rfl) (fun _ _ _ h => h) (Or.inl ⟨by rfl, fun w => by go_simp⟩) ?_
                    simp only [Act.put, List.getElem_toArray, List.getElem_cons_succ, List.getElem_cons_zero, List.setIfInBounds_toArray, List.set_cons_succ, List.set_cons_zero]
                    refine wpAny_done (by kernel_rfl) ?_ _
                    go_wp2_with fail
                    go_roundw
                    case rel => exact ⟨m + 1, by omega, by go_num, by rw [HC2.out, hcc.out]; go_num, HRf.out⟩
                    case measure => simp [intOf]; omega
                | false =>
                  rw [hbm, if_neg (by simp)] at hb hnext hsurv
                  have hcc : Hid (c2 = c) := hnext.out
                  have hK0 : K = 0 := hsurv.out
                  rw [hK0] at hrd hkk
                  clear hK0 hsurv

                  go_wp2_with fail
                  refine Calls.mono (HRD.out _ HR.out) ?_; rintro e w9 ⟨rfl, rfl⟩
                  clear HRD
                  go_wp2_with fail
                  have HR9 : Hid (At w w9.drew p (d3 k bt ks)) := HR.out.drew
                  have F65m := (show Hid _ from F65.out m hm16)
                  have hfz : (lt 65 m).size = 32 := lt_size 65 m
                  obtain ⟨fx, hfx⟩ : ∃ fx, lt 65 m = fx := ⟨_, rfl⟩
                  rw [hfx] at hfz hrd F65m
                  have hwz : ws.size = 32 := hz.out
                  have hK32 : (0 : Int) ≤ 32 := by have := hkk.out; omega
                  have hw1 : IntKind.i64.wrap (65 + (m : Int)) = 65 + (m : Int) := by rw [IntKind.wrap_i64]; omega
                  have hw2 : IntKind.u8.wrap (65 + (m : Int)) = 65 + (m : Int) := by simp [IntKind.wrap, IntKind.bits, IntKind.signed]; omega
                  clear hfx hz HR
                  refine wp_region_any (by kernel_rfl) ?_
                  rw [show ({ w9 with drawn := w9.drawn + 1 } : World) = w9.drew from rfl]
                  refine wpAny_take (i := 0) (v := .int .i64 0) rfl (by kernel_rfl) (by kernel_rfl) (by kernel_rfl) (fun _ _ _ h => h) (Or.inl ⟨by rfl, fun w => by go_simp⟩) ?_
                  simp only [Act.put, List.getElem_toArray, List.getElem_cons_zero, List.setIfInBounds_toArray, List.set_cons_succ, List.set_cons_zero]
                  refine wpAny_take (i := 1) (v := .bool false) rfl (by kernel_rfl) (by kernel_rfl) (by kernel_rfl) (fun _ _ _ h => h) (Or.inl ⟨by rfl, fun w => by go_simp⟩) ?_
                  simp only [Act.put, List.getElem_toArray, List.getElem_cons_succ, List.getElem_cons_zero, List.setIfInBounds_toArray, List.set_cons_succ, List.set_cons_zero]
                  refine wpAny_take (i := 2) (v := .bool false) rfl (by kernel_rfl) (by kernel_rfl) (by kernel_rfl) (fun _ _ _ h => h) (Or.inl ⟨by rfl, fun w => by go_simp⟩) ?_
                  simp only [Act.put, List.getElem_toArray, List.getElem_cons_succ, List.getElem_cons_zero, List.setIfInBounds_toArray, List.set_cons_succ, List.set_cons_zero]
                  refine wpAny_take (i := 3) (v := .string rd) rfl (by kernel_rfl) (by kernel_rfl) (by kernel_rfl) (fun _ _ _ h => h) (Or.inl ⟨by rfl, fun w => by go_simp⟩) ?_
                  simp only [Act.put, List.getElem_toArray, List.getElem_cons_succ, List.getElem_cons_zero, List.setIfInBounds_toArray, List.set_cons_succ, List.set_cons_zero]
                  refine wpAny_take (i := 4) (v := .int .i64 (m : Int)) rfl (by kernel_rfl) (by kernel_rfl) (by kernel_rfl) (fun _ _ _ h => h) (Or.inl ⟨by rfl, fun w => by go_simp⟩) ?_
                  simp only [Act.put, List.getElem_toArray, List.getElem_cons_succ, List.getElem_cons_zero, List.setIfInBounds_toArray, List.set_cons_succ, List.set_cons_zero]
                  refine wpAny_take (i := 5) (v := .int .i64 (65 + (m : Int))) rfl (by kernel_rfl) (by kernel_rfl) (by kernel_rfl) (fun _ _ _ h => h) (Or.inl ⟨by rfl, fun w => by go_simp⟩) ?_
                  simp only [Act.put, List.getElem_toArray, List.getElem_cons_succ, List.getElem_cons_zero, List.setIfInBounds_toArray, List.set_cons_succ, List.set_cons_zero]
                  refine wpAny_take (i := 6) (v := .int .u8 (65 + (m : Int))) rfl (by kernel_rfl) (by kernel_rfl) (by kernel_rfl) (fun _ _ _ h => h) (Or.inl ⟨by rfl, fun w => by go_simp⟩) ?_
                  simp only [Act.put, List.getElem_toArray, List.getElem_cons_succ, List.getElem_cons_zero, List.setIfInBounds_toArray, List.set_cons_succ, List.set_cons_zero]
                  refine wpAny_take (i := 8) (v := .int .i64 (0 : Int)) rfl (by kernel_rfl) (by kernel_rfl) (by kernel_rfl) (fun _ _ _ h => h) (Or.inl ⟨by rfl, fun w => by go_simp⟩) ?_
                  simp only [Act.put, List.getElem_toArray, List.getElem_cons_succ, List.getElem_cons_zero, List.setIfInBounds_toArray, List.set_cons_succ, List.set_cons_zero]
                  refine wpAny_take (i := 10) (v := .string ws) rfl (by kernel_rfl) (by kernel_rfl) (by kernel_rfl) (fun _ _ _ h => h) (Or.inl ⟨by rfl, fun w => by go_simp⟩) ?_
                  simp only [Act.put, List.getElem_toArray, List.getElem_cons_succ, List.getElem_cons_zero, List.setIfInBounds_toArray, List.set_cons_succ, List.set_cons_zero]
                  refine wpAny_take (i := 11) (v := .int .i64 (0 : Int)) rfl (by kernel_rfl) (by kernel_rfl) (by kernel_rfl) (fun _ _ _ h => h) (Or.inl ⟨by rfl, fun w => by go_simp⟩) ?_
                  simp only [Act.put, List.getElem_toArray, List.getElem_cons_succ, List.getElem_cons_zero, List.setIfInBounds_toArray, List.set_cons_succ, List.set_cons_zero]
                  refine wpAny_take (i := 12) (v := .string (ws.extract 0 32)) rfl (by kernel_rfl) (by kernel_rfl) (by kernel_rfl) (fun _ _ _ h => h) (Or.inl ⟨by rfl, fun w => by go_simp⟩) ?_
                  simp only [Act.put, List.getElem_toArray, List.getElem_cons_succ, List.getElem_cons_zero, List.setIfInBounds_toArray, List.set_cons_succ, List.set_cons_zero]
                  refine wpAny_ready (rs := [7]) (by kernel_rfl) (by simp) (AllReady.cons rfl (fun K' hK' => ?_) AllReady.nil)
                  go_simp
                  refine Calls.mono (F65m.out _) ?_; rintro e wf ⟨rfl, kf⟩
                  have HRf : Hid (At w wf p (d3 k bt ks)) := HR9.out.step kf
                  clear kf HR9
                  go_simp
                  refine hK' _ _ ?_
                  clear hK' K'
                  refine wpAny_take (i := 9) (v := .string (fx.extract 0 0)) rfl (by kernel_rfl) (by kernel_rfl) (by kernel_rfl) (fun _ _ _ h => h) (Or.inl ⟨by rfl, fun w => by go_simp⟩) ?_
                  simp only [Act.put, List.getElem_toArray, List.getElem_cons_succ, List.getElem_cons_zero, List.setIfInBounds_toArray, List.set_cons_succ, List.set_cons_zero]
                  refine wpAny_take (i := 13) (v := .string (fx.extract 0 0 ++ ws.extract 0 32)) rfl (by kernel_rfl) (by kernel_rfl) (by kernel_rfl) (fun _ _ _ h => h) (Or.inl ⟨by rfl, fun w => by go_simp⟩) ?_
                  simp only [Act.put, List.getElem_toArray, List.getElem_cons_succ, List.getElem_cons_zero, List.setIfInBounds_toArray, List.set_cons_succ, List.set_cons_zero]
                  refine wpAny_take (i := 14) (v := .bool false) rfl (by kernel_rfl) (by kernel_rfl) (by kernel_rfl) (fun _ _ _ h => h) (Or.inl ⟨by rfl, fun w => by have := hrd.out; subst this; go_simp⟩) ?_
                  simp only [Act.put, List.getElem_toArray, List.getElem_cons_succ, List.getElem_cons_zero, List.setIfInBounds_toArray, List.set_cons_succ, List.set_cons_zero]
                  refine wpAny_take (i := 15) (v := .bool false) rfl (by kernel_rfl) (by kernel_rfl) (by kernel_rfl) (fun _ _ _ h => h) (Or.inl ⟨by rfl, fun w => by go_simp⟩) ?_
                  simp only [Act.put, List.getElem_toArray, List.getElem_cons_succ, List.getElem_cons_zero, List.setIfInBounds_toArray, List.set_cons_succ, List.set_cons_zero]
                  refine wpAny_done (by kernel_rfl) ?_ _
                  go_wp2_with fail
                  go_roundw
                  case rel => exact ⟨m + 1, by omega, by go_num, by rw [HC2.out, hcc.out], HRf.out⟩
                  case measure => simp [intOf]; omega
              · have hmki : ¬ (m : Int) < (k : Int) := by omega
                rw [if_neg hmk] at hwas
                rw [← hwas.out]
                clear hwas
                cases hbm : bt m with
                | true =>
                  rw [hbm, if_pos rfl] at hb hnext hsurv
                  have hcc : Hid (c2 = c + 1) := hnext.out
                  by_cases hcl : c < len2
                  · have hcli : (c : Int) < (len2 : Int) := by omega
                    obtain ⟨b, o, rfl, hcell⟩ := HC.out c hcl
                    have hbw : b < w.heap.size := World.block_lt_of_cell? w _ hcell
                    have ck := (HR.out.below.cell hbw).trans hcell
                    have hKk : kept (ks.getD c 0) = K := by rw [hsurv.out]; unfold surv; rw [List.getElem?_eq_getElem (by omega)]; simp [List.getD, List.getElem?_eq_getElem (show c < ks.length by omega)]
                    have hmin := min_a (ks.getD c 0)
                    have hmax := max_a (ks.getD c 0)
                    rw [hKk] at hmax
                    clear hcell hbw hKk hsurv HC
                    generalize ks.getD c 0 = z at *
                    generalize min z 32 = z32 at *
                    go_wp2_with fail
                    refine Calls.mono (HRD.out _ HR.out) ?_; rintro e w9 ⟨rfl, rfl⟩
                    clear HRD
                    go_wp2_with fail
                    have HR9 : Hid (At w w9.drew p (d3 k bt ks)) := HR.out.drew
                    have F65m := (show Hid _ from F65.out m hm16)
                    have hfz : (lt 65 m).size = 32 := lt_size 65 m
                    obtain ⟨fx, hfx⟩ : ∃ fx, lt 65 m = fx := ⟨_, rfl⟩
                    rw [hfx] at hfz hrd F65m
                    have hwz : ws.size = 32 := hz.out
                    have hK32 : ((K : Nat) : Int) ≤ 32 := by have := hkk.out; omega
                    have hw1 : IntKind.i64.wrap (65 + (m : Int)) = 65 + (m : Int) := by rw [IntKind.wrap_i64]; omega
                    have hw2 : IntKind.u8.wrap (65 + (m : Int)) = 65 + (m : Int) := by simp [IntKind.wrap, IntKind.bits, IntKind.signed]; omega
                    clear hfx hz HR
                    refine wp_region_any (by kernel_rfl) ?_
                    rw [show ({ w9 with drawn := w9.drawn + 1 } : World) = w9.drew from rfl]
                    refine wpAny_take (i := 0) (v := .int .i64 0) rfl (by kernel_rfl) (by kernel_rfl) (by kernel_rfl) (fun _ _ _ h => h) (Or.inl ⟨by rfl, fun w => by go_simp⟩) ?_
                    simp only [Act.put, List.getElem_toArray, List.getElem_cons_zero, List.setIfInBounds_toArray, List.set_cons_succ, List.set_cons_zero]
                    refine wpAny_take (i := 1) (v := .bool false) rfl (by kernel_rfl) (by kernel_rfl) (by kernel_rfl) (fun _ _ _ h => h) (Or.inl ⟨by rfl, fun w => by go_simp⟩) ?_
                    simp only [Act.put, List.getElem_toArray, List.getElem_cons_succ, List.getElem_cons_zero, List.setIfInBounds_toArray, List.set_cons_succ, List.set_cons_zero]
                    refine wpAny_take (i := 2) (v := .bool false) rfl (by kernel_rfl) (by kernel_rfl) (by kernel_rfl) (fun _ _ _ h => h) (Or.inl ⟨by rfl, fun w => by go_simp⟩) ?_
                    simp only [Act.put, List.getElem_toArray, List.getElem_cons_succ, List.getElem_cons_zero, List.setIfInBounds_toArray, List.set_cons_succ, List.set_cons_zero]
                    refine wpAny_take (i := 3) (v := .string rd) rfl (by kernel_rfl) (by kernel_rfl) (by kernel_rfl) (fun _ _ _ h => h) (Or.inl ⟨by rfl, fun w => by go_simp⟩) ?_
                    simp only [Act.put, List.getElem_toArray, List.getElem_cons_succ, List.getElem_cons_zero, List.setIfInBounds_toArray, List.set_cons_succ, List.set_cons_zero]
                    refine wpAny_take (i := 4) (v := .int .i64 (m : Int)) rfl (by kernel_rfl) (by kernel_rfl) (by kernel_rfl) (fun _ _ _ h => h) (Or.inl ⟨by rfl, fun w => by go_simp⟩) ?_
                    simp only [Act.put, List.getElem_toArray, List.getElem_cons_succ, List.getElem_cons_zero, List.setIfInBounds_toArray, List.set_cons_succ, List.set_cons_zero]
                    refine wpAny_take (i := 5) (v := .int .i64 (65 + (m : Int))) rfl (by kernel_rfl) (by kernel_rfl) (by kernel_rfl) (fun _ _ _ h => h) (Or.inl ⟨by rfl, fun w => by go_simp⟩) ?_
                    simp only [Act.put, List.getElem_toArray, List.getElem_cons_succ, List.getElem_cons_zero, List.setIfInBounds_toArray, List.set_cons_succ, List.set_cons_zero]
                    refine wpAny_take (i := 6) (v := .int .u8 (65 + (m : Int))) rfl (by kernel_rfl) (by kernel_rfl) (by kernel_rfl) (fun _ _ _ h => h) (Or.inl ⟨by rfl, fun w => by go_simp⟩) ?_
                    simp only [Act.put, List.getElem_toArray, List.getElem_cons_succ, List.getElem_cons_zero, List.setIfInBounds_toArray, List.set_cons_succ, List.set_cons_zero]
                    refine wpAny_take (i := 8) (v := .int .i64 ((K : Nat) : Int)) rfl (by kernel_rfl) (by kernel_rfl) (by kernel_rfl) (fun _ _ _ h => h) (Or.inl ⟨by rfl, fun w => by go_simp⟩) ?_
                    simp only [Act.put, List.getElem_toArray, List.getElem_cons_succ, List.getElem_cons_zero, List.setIfInBounds_toArray, List.set_cons_succ, List.set_cons_zero]
                    refine wpAny_take (i := 10) (v := .string ws) rfl (by kernel_rfl) (by kernel_rfl) (by kernel_rfl) (fun _ _ _ h => h) (Or.inl ⟨by rfl, fun w => by go_simp⟩) ?_
                    simp only [Act.put, List.getElem_toArray, List.getElem_cons_succ, List.getElem_cons_zero, List.setIfInBounds_toArray, List.set_cons_succ, List.set_cons_zero]
                    refine wpAny_take (i := 11) (v := .int .i64 ((K : Nat) : Int)) rfl (by kernel_rfl) (by kernel_rfl) (by kernel_rfl) (fun _ _ _ h => h) (Or.inl ⟨by rfl, fun w => by go_simp⟩) ?_
                    simp only [Act.put, List.getElem_toArray, List.getElem_cons_succ, List.getElem_cons_zero, List.setIfInBounds_toArray, List.set_cons_succ, List.set_cons_zero]
                    refine wpAny_take (i := 12) (v := .string (ws.extract K 32)) rfl (by kernel_rfl) (by kernel_rfl) (by kernel_rfl) (fun _ _ _ h => h) (Or.inl ⟨by rfl, fun w => by go_simp⟩) ?_
                    simp only [Act.put, List.getElem_toArray, List.getElem_cons_succ, List.getElem_cons_zero, List.setIfInBounds_toArray, List.set_cons_succ, List.set_cons_zero]
                    refine wpAny_ready (rs := [7]) (by kernel_rfl) (by simp) (AllReady.cons rfl (fun K' hK' => ?_) AllReady.nil)
                    go_simp
                    refine Calls.mono (F65m.out _) ?_; rintro e wf ⟨rfl, kf⟩
                    have HRf : Hid (At w wf p (d3 k bt ks)) := HR9.out.step kf
                    clear kf HR9
                    go_simp
                    refine hK' _ _ ?_
                    clear hK' K'
                    refine wpAny_take (i := 9) (v := .string (fx.extract 0 K)) rfl (by kernel_rfl) (by kernel_rfl) (by kernel_rfl) (fun _ _ _ h => h) (Or.inl ⟨by rfl, fun w => by go_simp⟩) ?_
                    simp only [Act.put, List.getElem_toArray, List.getElem_cons_succ, List.getElem_cons_zero, List.setIfInBounds_toArray, List.set_cons_succ, List.set_cons_zero]
                    refine wpAny_take (i := 13) (v := .string (fx.extract 0 K ++ ws.extract K 32)) rfl (by kernel_rfl) (by kernel_rfl) (by kernel_rfl) (fun _ _ _ h => h) (Or.inl ⟨by rfl, fun w => by go_simp; omega⟩) ?_
                    simp only [Act.put, List.getElem_toArray, List.getElem_cons_succ, List.getElem_cons_zero, List.setIfInBounds_toArray, List.set_cons_succ, List.set_cons_zero]
                    refine wpAny_take (i := 14) (v := .bool false) rfl (by kernel_rfl) (by kernel_rfl) (by kernel_rfl) (fun _ _ _ h => h) (Or.inl ⟨by rfl, fun w => by have := hrd.out; subst this; go_simp⟩) ?_
                    simp only [Act.put, List.getElem_toArray, List.getElem_cons_succ, List.getElem_cons_zero, List.setIfInBounds_toArray, List.set_cons_succ, List.set_cons_zero]
                    refine wpAny_take (i := 15) (v := .bool false) rfl (by kernel_rfl) (by kernel_rfl) (by kernel_rfl) (fun _ _ _ h => h) (Or.inl ⟨by rfl, fun w => by go_simp⟩) ?_
                    simp only [Act.put, List.getElem_toArray, List.getElem_cons_succ, List.getElem_cons_zero, List.setIfInBounds_toArray, List.set_cons_succ, List.set_cons_zero]
                    refine wpAny_done (by kernel_rfl) ?_ _
                    go_wp2_with fail
                    go_roundw
                    case rel => exact ⟨m + 1, by omega, by go_num, by rw [HC2.out, hcc.out]; go_num, HRf.out⟩
                    case measure => simp [intOf]; omega

                  · have hcli : ¬ (c : Int) < (len2 : Int) := by omega
                    have hK0 : K = 0 := by rw [hsurv.out]; unfold surv; rw [List.getElem?_eq_none (by omega)]
                    rw [hK0] at hrd hkk
                    clear hK0 hsurv
                    go_wp2_with fail
                    refine Calls.mono (HRD.out _ HR.out) ?_; rintro e w9 ⟨rfl, rfl⟩
                    clear HRD
                    go_wp2_with fail
                    have HR9 : Hid (At w w9.drew p (d3 k bt ks)) := HR.out.drew
                    have F65m := (show Hid _ from F65.out m hm16)
                    have hfz : (lt 65 m).size = 32 := lt_size 65 m
                    obtain ⟨fx, hfx⟩ : ∃ fx, lt 65 m = fx := ⟨_, rfl⟩
                    rw [hfx] at hfz hrd F65m
                    have hwz : ws.size = 32 := hz.out
                    have hK32 : (0 : Int) ≤ 32 := by have := hkk.out; omega
                    have hw1 : IntKind.i64.wrap (65 + (m : Int)) = 65 + (m : Int) := by rw [IntKind.wrap_i64]; omega
                    have hw2 : IntKind.u8.wrap (65 + (m : Int)) = 65 + (m : Int) := by simp [IntKind.wrap, IntKind.bits, IntKind.signed]; omega
                    clear hfx hz HR
                    refine wp_region_any (by kernel_rfl) ?_
                    rw [show ({ w9 with drawn := w9.drawn + 1 } : World) = w9.drew from rfl]
                    refine wpAny_take (i := 0) (v := .int .i64 0) rfl (by kernel_rfl) (by kernel_rfl) (by kernel_rfl) (fun _ _ _ h => h) (Or.inl ⟨by rfl, fun w => by go_simp⟩) ?_
                    simp only [Act.put, List.getElem_toArray, List.getElem_cons_zero, List.setIfInBounds_toArray, List.set_cons_succ, List.set_cons_zero]
                    refine wpAny_take (i := 1) (v := .bool false) rfl (by kernel_rfl) (by kernel_rfl) (by kernel_rfl) (fun _ _ _ h => h) (Or.inl ⟨by rfl, fun w => by go_simp⟩) ?_
                    simp only [Act.put, List.getElem_toArray, List.getElem_cons_succ, List.getElem_cons_zero, List.setIfInBounds_toArray, List.set_cons_succ, List.set_cons_zero]
                    refine wpAny_take (i := 2) (v := .bool false) rfl (by kernel_rfl) (by kernel_rfl) (by kernel_rfl) (fun _ _ _ h => h) (Or.inl ⟨by rfl, fun w => by go_simp⟩) ?_
                    simp only [Act.put, List.getElem_toArray, List.getElem_cons_succ, List.getElem_cons_zero, List.setIfInBounds_toArray, List.set_cons_succ, List.set_cons_zero]
                    refine wpAny_take (i := 3) (v := .string rd) rfl (by kernel_rfl) (by kernel_rfl) (by kernel_rfl) (fun _ _ _ h => h) (Or.inl ⟨by rfl, fun w => by go_simp⟩) ?_
                    simp only [Act.put, List.getElem_toArray, List.getElem_cons_succ, List.getElem_cons_zero, List.setIfInBounds_toArray, List.set_cons_succ, List.set_cons_zero]
                    refine wpAny_take (i := 4) (v := .int .i64 (m : Int)) rfl (by kernel_rfl) (by kernel_rfl) (by kernel_rfl) (fun _ _ _ h => h) (Or.inl ⟨by rfl, fun w => by go_simp⟩) ?_
                    simp only [Act.put, List.getElem_toArray, List.getElem_cons_succ, List.getElem_cons_zero, List.setIfInBounds_toArray, List.set_cons_succ, List.set_cons_zero]
                    refine wpAny_take (i := 5) (v := .int .i64 (65 + (m : Int))) rfl (by kernel_rfl) (by kernel_rfl) (by kernel_rfl) (fun _ _ _ h => h) (Or.inl ⟨by rfl, fun w => by go_simp⟩) ?_
                    simp only [Act.put, List.getElem_toArray, List.getElem_cons_succ, List.getElem_cons_zero, List.setIfInBounds_toArray, List.set_cons_succ, List.set_cons_zero]
                    refine wpAny_take (i := 6) (v := .int .u8 (65 + (m : Int))) rfl (by kernel_rfl) (by kernel_rfl) (by kernel_rfl) (fun _ _ _ h => h) (Or.inl ⟨by rfl, fun w => by go_simp⟩) ?_
                    simp only [Act.put, List.getElem_toArray, List.getElem_cons_succ, List.getElem_cons_zero, List.setIfInBounds_toArray, List.set_cons_succ, List.set_cons_zero]
                    refine wpAny_take (i := 8) (v := .int .i64 (0 : Int)) rfl (by kernel_rfl) (by kernel_rfl) (by kernel_rfl) (fun _ _ _ h => h) (Or.inl ⟨by rfl, fun w => by go_simp⟩) ?_
                    simp only [Act.put, List.getElem_toArray, List.getElem_cons_succ, List.getElem_cons_zero, List.setIfInBounds_toArray, List.set_cons_succ, List.set_cons_zero]
                    refine wpAny_take (i := 10) (v := .string ws) rfl (by kernel_rfl) (by kernel_rfl) (by kernel_rfl) (fun _ _ _ h => h) (Or.inl ⟨by rfl, fun w => by go_simp⟩) ?_
                    simp only [Act.put, List.getElem_toArray, List.getElem_cons_succ, List.getElem_cons_zero, List.setIfInBounds_toArray, List.set_cons_succ, List.set_cons_zero]
                    refine wpAny_take (i := 11) (v := .int .i64 (0 : Int)) rfl (by kernel_rfl) (by kernel_rfl) (by kernel_rfl) (fun _ _ _ h => h) (Or.inl ⟨by rfl, fun w => by go_simp⟩) ?_
                    simp only [Act.put, List.getElem_toArray, List.getElem_cons_succ, List.getElem_cons_zero, List.setIfInBounds_toArray, List.set_cons_succ, List.set_cons_zero]
                    refine wpAny_take (i := 12) (v := .string (ws.extract 0 32)) rfl (by kernel_rfl) (by kernel_rfl) (by kernel_rfl) (fun _ _ _ h => h) (Or.inl ⟨by rfl, fun w => by go_simp⟩) ?_
                    simp only [Act.put, List.getElem_toArray, List.getElem_cons_succ, List.getElem_cons_zero, List.setIfInBounds_toArray, List.set_cons_succ, List.set_cons_zero]
                    refine wpAny_ready (rs := [7]) (by kernel_rfl) (by simp) (AllReady.cons rfl (fun K' hK' => ?_) AllReady.nil)
                    go_simp
                    refine Calls.mono (F65m.out _) ?_; rintro e wf ⟨rfl, kf⟩
                    have HRf : Hid (At w wf p (d3 k bt ks)) := HR9.out.step kf
                    clear kf HR9
                    go_simp
                    refine hK' _ _ ?_
                    clear hK' K'
                    refine wpAny_take (i := 9) (v := .string (fx.extract 0 0)) rfl (by kernel_rfl) (by kernel_rfl) (by kernel_rfl) (fun _ _ _ h => h) (Or.inl ⟨by rfl, fun w => by go_simp⟩) ?_
                    simp only [Act.put, List.getElem_toArray, List.getElem_cons_succ, List.getElem_cons_zero, List.setIfInBounds_toArray, List.set_cons_succ, List.set_cons_zero]
                    refine wpAny_take (i := 13) (v := .string (fx.extract 0 0 ++ ws.extract 0 32)) rfl (by kernel_rfl) (by kernel_rfl) (by kernel_rfl) (fun _ _ _ h => h) (Or.inl ⟨by rfl, fun w => by go_simp⟩) ?_
                    simp only [Act.put, List.getElem_toArray, List.getElem_cons_succ, List.getElem_cons_zero, List.setIfInBounds_toArray, List.set_cons_succ, List.set_cons_zero]
                    refine wpAny_take (i := 14) (v := .bool false) rfl (by kernel_rfl) (by kernel_rfl) (by kernel_rfl) (fun _ _ _ h => h) (Or.inl ⟨by rfl, fun w => by have := hrd.out; subst this; go_simp⟩) ?_
                    simp only [Act.put, List.getElem_toArray, List.getElem_cons_succ, List.getElem_cons_zero, List.setIfInBounds_toArray, List.set_cons_succ, List.set_cons_zero]
                    refine wpAny_take (i := 15) (v := .bool false) rfl (by kernel_rfl) (by kernel_rfl) (by kernel_rfl) (fun _ _ _ h => h) (Or.inl ⟨by rfl, fun w => by go_simp⟩) ?_
                    simp only [Act.put, List.getElem_toArray, List.getElem_cons_succ, List.getElem_cons_zero, List.setIfInBounds_toArray, List.set_cons_succ, List.set_cons_zero]
                    refine wpAny_done (by kernel_rfl) ?_ _
                    go_wp2_with fail
                    go_roundw
                    case rel => exact ⟨m + 1, by omega, by go_num, by rw [HC2.out, hcc.out]; go_num, HRf.out⟩
                    case measure => simp [intOf]; omega
                | false =>
                  rw [hbm, if_neg (by simp)] at hb hnext hsurv
                  have hcc : Hid (c2 = c) := hnext.out
                  have hK0 : K = 0 := hsurv.out
                  rw [hK0] at hrd hkk
                  clear hK0 hsurv

                  go_wp2_with fail
                  refine Calls.mono (HRD.out _ HR.out) ?_; rintro e w9 ⟨rfl, rfl⟩
                  clear HRD
                  go_wp2_with fail
                  have HR9 : Hid (At w w9.drew p (d3 k bt ks)) := HR.out.drew
                  have F65m := (show Hid _ from F65.out m hm16)
                  have hfz : (lt 65 m).size = 32 := lt_size 65 m
                  obtain ⟨fx, hfx⟩ : ∃ fx, lt 65 m = fx := ⟨_, rfl⟩
                  rw [hfx] at hfz hrd F65m
                  have hwz : ws.size = 32 := hz.out
                  have hK32 : (0 : Int) ≤ 32 := by have := hkk.out; omega
                  have hw1 : IntKind.i64.wrap (65 + (m : Int)) = 65 + (m : Int) := by rw [IntKind.wrap_i64]; omega
                  have hw2 : IntKind.u8.wrap (65 + (m : Int)) = 65 + (m : Int) := by simp [IntKind.wrap, IntKind.bits, IntKind.signed]; omega
                  clear hfx hz HR
                  refine wp_region_any (by kernel_rfl) ?_
                  rw [show ({ w9 with drawn := w9.drawn + 1 } : World) = w9.drew from rfl]
                  refine wpAny_take (i := 0) (v := .int .i64 0) rfl (by kernel_rfl) (by kernel_rfl) (by kernel_rfl) (fun _ _ _ h => h) (Or.inl ⟨by rfl, fun w => by go_simp⟩) ?_
                  simp only [Act.put, List.getElem_toArray, List.getElem_cons_zero, List.setIfInBounds_toArray, List.set_cons_succ, List.set_cons_zero]
                  refine wpAny_take (i := 1) (v := .bool false) rfl (by kernel_rfl) (by kernel_rfl) (by kernel_rfl) (fun _ _ _ h => h) (Or.inl ⟨by rfl, fun w => by go_simp⟩) ?_
                  simp only [Act.put, List.getElem_toArray, List.getElem_cons_succ, List.getElem_cons_zero, List.setIfInBounds_toArray, List.set_cons_succ, List.set_cons_zero]
                  refine wpAny_take (i := 2) (v := .bool false) rfl (by kernel_rfl) (by kernel_rfl) (by kernel_rfl) (fun _ _ _ h => h) (Or.inl ⟨by rfl, fun w => by go_simp⟩) ?_
                  simp only [Act.put, List.getElem_toArray, List.getElem_cons_succ, List.getElem_cons_zero, List.setIfInBounds_toArray, List.set_cons_succ, List.set_cons_zero]
                  refine wpAny_take (i := 3) (v := .string rd) rfl (by kernel_rfl) (by kernel_rfl) (by kernel_rfl) (fun _ _ _ h => h) (Or.inl ⟨by rfl, fun w => by go_simp⟩) ?_
                  simp only [Act.put, List.getElem_toArray, List.getElem_cons_succ, List.getElem_cons_zero, List.setIfInBounds_toArray, List.set_cons_succ, List.set_cons_zero]
                  refine wpAny_take (i := 4) (v := .int .i64 (m : Int)) rfl (by kernel_rfl) (by kernel_rfl) (by kernel_rfl) (fun _ _ _ h => h) (Or.inl ⟨by rfl, fun w => by go_simp⟩) ?_
                  simp only [Act.put, List.getElem_toArray, List.getElem_cons_succ, List.getElem_cons_zero, List.setIfInBounds_toArray, List.set_cons_succ, List.set_cons_zero]
                  refine wpAny_take (i := 5) (v := .int .i64 (65 + (m : Int))) rfl (by kernel_rfl) (by kernel_rfl) (by kernel_rfl) (fun _ _ _ h => h) (Or.inl ⟨by rfl, fun w => by go_simp⟩) ?_
                  simp only [Act.put, List.getElem_toArray, List.getElem_cons_succ, List.getElem_cons_zero, List.setIfInBounds_toArray, List.set_cons_succ, List.set_cons_zero]
                  refine wpAny_take (i := 6) (v := .int .u8 (65 + (m : Int))) rfl (by kernel_rfl) (by kernel_rfl) (by kernel_rfl) (fun _ _ _ h => h) (Or.inl ⟨by rfl, fun w => by go_simp⟩) ?_
                  simp only [Act.put, List.getElem_toArray, List.getElem_cons_succ, List.getElem_cons_zero, List.setIfInBounds_toArray, List.set_cons_succ, List.set_cons_zero]
                  refine wpAny_take (i := 8) (v := .int .i64 (0 : Int)) rfl (by kernel_rfl) (by kernel_rfl) (by kernel_rfl) (fun _ _ _ h => h) (Or.inl ⟨by rfl, fun w => by go_simp⟩) ?_
                  simp only [Act.put, List.getElem_toArray, List.getElem_cons_succ, List.getElem_cons_zero, List.setIfInBounds_toArray, List.set_cons_succ, List.set_cons_zero]
                  refine wpAny_take (i := 10) (v := .string ws) rfl (by kernel_rfl) (by kernel_rfl) (by kernel_rfl) (fun _ _ _ h => h) (Or.inl ⟨by rfl, fun w => by go_simp⟩) ?_
                  simp only [Act.put, List.getElem_toArray, List.getElem_cons_succ, List.getElem_cons_zero, List.setIfInBounds_toArray, List.set_cons_succ, List.set_cons_zero]
                  refine wpAny_take (i := 11) (v := .int .i64 (0 : Int)) rfl (by kernel_rfl) (by kernel_rfl) (by kernel_rfl) (fun _ _ _ h => h) (Or.inl ⟨by rfl, fun w => by go_simp⟩) ?_
                  simp only [Act.put, List.getElem_toArray, List.getElem_cons_succ, List.getElem_cons_zero, List.setIfInBounds_toArray, List.set_cons_succ, List.set_cons_zero]
                  refine wpAny_take (i := 12) (v := .string (ws.extract 0 32)) rfl (by kernel_rfl) (by kernel_rfl) (by kernel_rfl) (fun _ _ _ h => h) (Or.inl ⟨by rfl, fun w => by go_simp⟩) ?_
                  simp only [Act.put, List.getElem_toArray, List.getElem_cons_succ, List.getElem_cons_zero, List.setIfInBounds_toArray, List.set_cons_succ, List.set_cons_zero]
                  refine wpAny_ready (rs := [7]) (by kernel_rfl) (by simp) (AllReady.cons rfl (fun K' hK' => ?_) AllReady.nil)
                  go_simp
                  refine Calls.mono (F65m.out _) ?_; rintro e wf ⟨rfl, kf⟩
                  have HRf : Hid (At w wf p (d3 k bt ks)) := HR9.out.step kf
                  clear kf HR9
                  go_simp
                  refine hK' _ _ ?_
                  clear hK' K'
                  refine wpAny_take (i := 9) (v := .string (fx.extract 0 0)) rfl (by kernel_rfl) (by kernel_rfl) (by kernel_rfl) (fun _ _ _ h => h) (Or.inl ⟨by rfl, fun w => by go_simp⟩) ?_
                  simp only [Act.put, List.getElem_toArray, List.getElem_cons_succ, List.getElem_cons_zero, List.setIfInBounds_toArray, List.set_cons_succ, List.set_cons_zero]
                  refine wpAny_take (i := 13) (v := .string (fx.extract 0 0 ++ ws.extract 0 32)) rfl (by kernel_rfl) (by kernel_rfl) (by kernel_rfl) (fun _ _ _ h => h) (Or.inl ⟨by rfl, fun w => by go_simp⟩) ?_
                  simp only [Act.put, List.getElem_toArray, List.getElem_cons_succ, List.getElem_cons_zero, List.setIfInBounds_toArray, List.set_cons_succ, List.set_cons_zero]
                  refine wpAny_take (i := 14) (v := .bool false) rfl (by kernel_rfl) (by kernel_rfl) (by kernel_rfl) (fun _ _ _ h => h) (Or.inl ⟨by rfl, fun w => by have := hrd.out; subst this; go_simp⟩) ?_
                  simp only [Act.put, List.getElem_toArray, List.getElem_cons_succ, List.getElem_cons_zero, List.setIfInBounds_toArray, List.set_cons_succ, List.set_cons_zero]
                  refine wpAny_take (i := 15) (v := .bool false) rfl (by kernel_rfl) (by kernel_rfl) (by kernel_rfl) (fun _ _ _ h => h) (Or.inl ⟨by rfl, fun w => by go_simp⟩) ?_
                  simp only [Act.put, List.getElem_toArray, List.getElem_cons_succ, List.getElem_cons_zero, List.setIfInBounds_toArray, List.set_cons_succ, List.set_cons_zero]
                  refine wpAny_done (by kernel_rfl) ?_ _
                  go_wp2_with fail
                  go_roundw
                  case rel => exact ⟨m + 1, by omega, by go_num, by rw [HC2.out, hcc.out], HRf.out⟩
                  case measure => simp [intOf]; omega
            · have hmi : ¬ (m : Int) < 16 := by omega
              go_wp2_with fail
              refine Calls.mono (HAW.out _) ?_; rintro e w8 ⟨rfl, k8⟩
              have HK8 := (show Hid _ from k8)
              have HB6 := (show Hid _ from HR.out.below)
              clear k8
              go_wp2_with fail
              go_ret
              exact ⟨rfl, HB6.out.trans (HK8.out.mono HB6.out.size)⟩

theorem walk (a0 : Int) (a1 : Int) (a2 : Option Addr) (len2 cap2 : Nat) (z2 : List Int) (w : World) (w0 : (Lit.int .i64 a0).wf = true) (w1 : (Lit.int .i64 a1).wf = true) (w2 : IsRow .i64 w a2 len2 cap2 z2) :
    Calls Try.prog 4 #[.int .i64 a0, .int .i64 a1, .slice a2 len2 cap2] w fun e w' => e = .returned (.bool true) ∧ Below w.heap.size w w' := by
  obtain ⟨ks, hkl, hkm, hu, hc⟩ : ∃ ks : List Int, ks.length = len2 ∧ len2 ≤ maxLen ∧ Ints w (.slice a2 len2 cap2) ks ∧ ∀ j, j < len2 → ∃ b o, a2 = some ⟨b, o, none⟩ ∧ w.cell? ⟨b, o + j, none⟩ = some (.int .i64 (ks.getD j 0)) := by
    rcases w2 with ⟨rfl, rfl, rfl, rfl⟩ | ⟨x, rfl, h1, h2, h3, h4, h5⟩
    · exact ⟨[], rfl, Nat.zero_le _, .inl ⟨_, _, rfl, rfl⟩, fun j hj => absurd hj (Nat.not_lt_zero j)⟩
    · by_cases hz : len2 = 0
      · subst hz
        exact ⟨[], rfl, Nat.zero_le _, .inl ⟨_, _, rfl, rfl⟩, fun j hj => absurd hj (Nat.not_lt_zero j)⟩
      · obtain ⟨b, off, rfl, hb⟩ := ints_at h4 (by omega)
        refine ⟨z2.take len2, by rw [List.length_take]; omega, by omega, .inr ⟨b, off, cap2, by rw [List.length_take, Nat.min_eq_left (by omega)], fun k hk => ?_⟩, fun j hj => ⟨b, off, rfl, ?_⟩⟩
        · rw [List.length_take] at hk
          rw [hb k (by omega), List.getElem_take]
          simp [List.getD, List.getElem?_eq_getElem (show k < z2.length by omega)]
        · rw [hb j (by omega)]
          simp [List.getD, hj]
  unfold maxLen at hkm
  refine core a0 a1 a2 len2 cap2 w (a0 % 16).toNat (by rw [and_fif]; omega) (by omega) ks hkl (by omega) (fun k => decide ((a1 / 2 ^ k) % 2 = 1)) (fun k hk => ?_) hc (filled_is 0) (fun k hk => filled_at 97 k (by omega)) (fun k hk => filled_at 65 k (by omega))
    (fun w' p h => w_crash _ _ ks h _ hu (by omega))
  rw [and_one]
  by_cases e : a1 / 2 ^ k % 2 = 1
  · rw [e]; simp
  · rw [show a1 / 2 ^ k % 2 = 0 by omega]; simp

/-! ### THE ROW's STEP: WRITTEN OUT: LEAVE IT -/
set_option maxRecDepth 100000 in
theorem lifted (os : Os) (started : os.Started) (H : Type) (enc : TypeId × Value → H) :
    ReturnsInHanded {} Try.checked os 4 .any (Rows.diskSureSpec.pre6 enc Try.prog Try.f4 Rows.diskSureRow.domain false) (Rows.diskSureSpec.post enc Try.prog Try.f4 false true false false) := by
  refine returnsInHanded_of_change (C := Try.checked) own started (by kernel_rfl) Try.func4
    (ChangeSpec.witness6 (enc := enc) (C := Try.checked) false ⟨#[], #[.int .i64 0, .int .i64 0, .slice none 0 0], []⟩ 8 (by kernel_rfl) (by kernel_rfl) (by kernel_rfl) (by kernel_rfl)) ?_
  intro W base args ds gs before hval0 hW hcnd _
  have hval : ∀ (j : Nat) t v, Try.f4.params[j]? = some t → args[j]? = some v → Value.okWide Try.prog W .any base t v := hval0
  have hW' := hW
  obtain ⟨p, q, hA0, hV, rfl, hfz, hnd⟩ := hW
  have hA : DataW.TrodAll enc Try.prog W 0 (fun _ => true) true Try.f4.params.toList args.toList ds p := hA0
  rw [Try.params4] at hA hval
  obtain ⟨v0, vs0, d0, ds0, p0, q0, hargs, rfl, rfl, h0, r0⟩ := trodAll_cons hA
  obtain ⟨v1, vs1, d1, ds1, p1, q1, rfl, rfl, rfl, h1, r1⟩ := trodAll_cons r0
  obtain ⟨v2, vs2, d2, ds2, p2, q2, rfl, rfl, rfl, h2, r2⟩ := trodAll_cons r1
  obtain ⟨rfl, rfl, rfl⟩ := trodAll_nil r2
  obtain rfl : args = #[v0, v1, v2] := by cases args; simp_all
  obtain ⟨rfl, rfl⟩ := trodVars_none hV
  obtain ⟨a0, rfl, rfl, rfl, w0⟩ := open_int Try.underlying3 (hval 0 3 v0 rfl rfl) h0
  obtain ⟨a1, rfl, rfl, rfl, w1⟩ := open_int Try.underlying3 (hval 1 3 v1 rfl rfl) h1
  obtain ⟨a2, len2, cap2, rfl⟩ := okWide_slice Try.underlying34 (hval 2 34 v2 rfl rfl)
  have k2 := h2
  have lt2 : ∀ x ∈ p2, x.block < W.heap.size := by obtain ⟨m, hm⟩ := k2; exact DataW.trod_lt m _ _ _ hm
  obtain ⟨z2, w2⟩ : ∃ zs, IsRow .i64 W a2 len2 cap2 zs := by
    obtain ⟨fuel, hf⟩ := h2
    rcases open_ints Try.underlying34 Try.underlying3 (by kernel_rfl) hf with ⟨hcs, _⟩ | ⟨x, l, c, zs, hcs, _, hl, hm, hz, _, hcell, hwz⟩
    · simp [Value.cells] at hcs
      obtain ⟨rfl, rfl, rfl⟩ := hcs
      exact ⟨[], .inl ⟨rfl, rfl, rfl, rfl⟩⟩
    · simp [Value.cells] at hcs
      obtain ⟨rfl, rfl, rfl⟩ := hcs
      exact ⟨zs, .inr ⟨_, rfl, hl, hm, by simpa using hz, hcell, hwz⟩⟩
  clear hA0 hval0
  refine (walk a0 a1 a2 len2 cap2 z2 W w0 w1 w2).mono fun e W' ⟨he, bel⟩ => ?_
  subst he
  exact ⟨_, rfl, _, _, _, [], _, [], hW', trodAll_mk1 (shut_bool Try.underlying4 _), (trodAll_cons_mk (shut_int Try.underlying3 w0) (trodAll_cons_mk (shut_int Try.underlying3 w1) (trodAll_cons_mk (Below.trod laidOut (by kernel_rfl) (of_decide_eq_true (by kernel_rfl)) k2 bel lt2) trodAll_mk0))), rfl, bel.frame _, fun h => by cases h⟩

theorem over : Rows.diskSureRow.holds Try.pinned (OpenSpec.ofChange Rows.diskSureSpec) :=
  OpenClaim.holds_of_wide 4 Try.f4 rfl rfl rfl rfl rfl rfl rfl ⟨rfl, rfl, rfl, rfl, rfl⟩ rfl rfl rfl rfl rfl (by kernel_rfl) Try.func4 (by kernel_rfl)
    (of_decide_eq_true (by kernel_rfl)) (by unfold Func.isWrapper; first | (rw [if_pos (by decide +kernel)]; kernel_rfl) | (rw [if_neg (by decide +kernel)]; exact ⟨rfl, rfl⟩))
    (fun os started H enc _ => lifted os started H enc)

/-- ████ THE STATEMENT ████ -/
theorem proved : Rows.DiskSureSaid := over
#print axioms proved
end Go.Proofs.Ytlkkeabenklefaa.diskSure
