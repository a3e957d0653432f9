/- At, Free, sum, Bytes. -/
import Derived.Test.YtkhpmmmildcceaaGreatQPm
import Derived.Deep.RegionHeld
namespace Go.Proofs.YtkhpmmmildcceaaGreat
open Go.ChangeShapes Go.WideShapes Go.ChangeAt Go.RowKit
set_option linter.unusedVariables false
set_option maxRecDepth 100000
set_option maxRecDepth 100000

theorem convert_off {w : World} {p : Nat} {B : List UInt8} (h : Pg w p B) (lo hi c : Nat) (h1 : lo ≤ hi) (h2 : hi ≤ 256) : (convert 98 9 (.slice (some ⟨p, offB lo, none⟩) (hi - lo) c)).run Tryz.prog w = .ok (.string ⟨((B.drop lo).take (hi - lo)).toArray⟩) w := by
  by_cases e : lo = 256
  · have e2 : hi = 256 := by omega
    subst e
    subst e2
    have := convert_page h 0 0 c (by omega)
    simpa [offB] using this
  · rw [offB_lt (by omega)]
    exact convert_page h lo (hi - lo) c (by omega)
/-- A cell's value. -/
def valB (B : List UInt8) (k : Nat) : List UInt8 := (B.drop (byteAt B (8 + 2 * k) + byteAt B (9 + 2 * k))).take (endB B k - (byteAt B (8 + 2 * k) + byteAt B (9 + 2 * k)))
set_option maxHeartbeats 2000000 in
theorem at_is {w : World} {p : Nat} {B : List UInt8} (h : Pg w p B) (k : Nat) (hk : 9 + 2 * k < 256) (hkn : k < byteAt B 1) (hs : byteAt B (8 + 2 * k) + byteAt B (9 + 2 * k) ≤ endB B k) : Calls Tryz.prog 124 #[.pointer (some ⟨p, 0, none⟩), .int .i64 (k : Int)] w fun e w' => e = .returned (.tuple #[.string ⟨(keyB B k).toArray⟩, .string ⟨(valB B k).toArray⟩]) ∧ ∃ m, w' = w.drewN m := by
  have he := endB_le B k
  have H19 : Hid (∀ n, Calls Tryz.prog 123 #[.pointer (some ⟨p, 0, none⟩)] (w.drewN n) fun e w' => e = .returned (.int .i64 (byteAt B 1 : Int)) ∧ ∃ m, w' = (w.drewN n).drewN m) := fun n => len_is (h.dr n)
  have H40 : Hid (∀ n, Calls Tryz.prog 140 #[.pointer (some ⟨p, 0, none⟩), .int .i64 (k : Int)] (w.drewN n) fun e w' => e = .returned (.string ⟨(keyB B k).toArray⟩) ∧ ∃ m, w' = (w.drewN n).drewN m) := fun n => key_is (h.dr n) k hk (by omega)
  have H41 : Hid (∀ n, Calls Tryz.prog 116 #[.pointer (some ⟨p, 0, none⟩), .int .i64 (k : Int)] (w.drewN n) fun e w' => e = .returned (.int .i64 (byteAt B (8 + 2 * k) : Int)) ∧ ∃ m, w' = (w.drewN n).drewN m) := fun n => begin_is (h.dr n) k (by omega)
  have H42 : Hid (∀ n, Calls Tryz.prog 145 #[.pointer (some ⟨p, 0, none⟩), .int .i64 (k : Int)] (w.drewN n) fun e w' => e = .returned (.int .i64 (byteAt B (9 + 2 * k) : Int)) ∧ ∃ m, w' = (w.drewN n).drewN m) := fun n => keySize_is (h.dr n) k hk
  have H43 : Hid (∀ n, Calls Tryz.prog 115 #[.pointer (some ⟨p, 0, none⟩), .int .i64 (k : Int)] (w.drewN n) fun e w' => e = .returned (.int .i64 (endB B k : Int)) ∧ ∃ m, w' = (w.drewN n).drewN m) := fun n => end_is (h.dr n) k (by omega)
  have hcv : ∀ n, (convert 98 9 (.slice (some ⟨p, offB (byteAt B (8 + 2 * k) + byteAt B (9 + 2 * k)), none⟩) (endB B k - (byteAt B (8 + 2 * k) + byteAt B (9 + 2 * k))) (256 - (byteAt B (8 + 2 * k) + byteAt B (9 + 2 * k))))).run Tryz.prog (w.drewN n) = .ok (.string ⟨(valB B k).toArray⟩) (w.drewN n) := fun n => convert_off (h.dr n) _ _ _ hs he
  have hsl : ∀ n, (Instr.sliceAt 156 (.pointer (some ⟨p, 0, none⟩)) (some (.int .i64 ((byteAt B (8 + 2 * k) + byteAt B (9 + 2 * k) : Nat) : Int))) (some (.int .i64 (endB B k : Int))) none).run Tryz.prog (w.drewN n) = .ok (.slice (some ⟨p, offB (byteAt B (8 + 2 * k) + byteAt B (9 + 2 * k)), none⟩) (endB B k - (byteAt B (8 + 2 * k) + byteAt B (9 + 2 * k))) (256 - (byteAt B (8 + 2 * k) + byteAt B (9 + 2 * k)))) (w.drewN n) := fun n => page_lh _ _ _ _ hs he
  have hb := byteAt_lt B (8 + 2 * k)
  have hb2 := byteAt_lt B (9 + 2 * k)
  generalize byteAt B (8 + 2 * k) = x at *
  generalize byteAt B (9 + 2 * k) = y at *
  generalize (ByteArray.mk (keyB B k).toArray) = SK at *
  generalize (ByteArray.mk (valB B k).toArray) = SV at *
  generalize byteAt B 1 = nn at *
  generalize endB B k = ee at *
  obtain ⟨xy, hxy⟩ : ∃ xy, x + y = xy := ⟨_, rfl⟩
  rw [hxy] at hcv hsl
  have e1 : wrap64 ((x : Int) + (y : Int)) = (xy : Int) := by unfold wrap64; omega
  have e2 : IntKind.i64.wrap ((x : Int) + (y : Int)) = (xy : Int) := by rw [IntKind.wrap_i64]; omega
  generalize offB xy = of at *
  generalize ee - xy = l1 at *
  generalize 256 - xy = l2 at *
  have c1 : ¬ (k : Int) < 0 := by omega
  have c2 : ¬ (nn : Int) ≤ (k : Int) := by omega
  clear h hs hxy hkn he hb hb2 hk
  rw [drewN0 w]
  go_enter Tryz.func124, Tryz.ntmps124
  go_wp2_with fail
  refine Calls.mono (H19.out _) ?_; rintro e w1 ⟨rfl, m1, hw1⟩
  rw [World.drewN_drewN] at hw1
  have G40 : Hid (∀ n, Calls Tryz.prog 140 #[.pointer (some ⟨p, 0, none⟩), .int .i64 (k : Int)] (w1.drewN n) fun e w' => e = .returned (.string SK) ∧ ∃ m, w' = (w1.drewN n).drewN m) := fun n => by rw [hw1, World.drewN_drewN]; exact H40.out _
  have G41 : Hid (∀ n, Calls Tryz.prog 116 #[.pointer (some ⟨p, 0, none⟩), .int .i64 (k : Int)] (w1.drewN n) fun e w' => e = .returned (.int .i64 (x : Int)) ∧ ∃ m, w' = (w1.drewN n).drewN m) := fun n => by rw [hw1, World.drewN_drewN]; exact H41.out _
  have G42 : Hid (∀ n, Calls Tryz.prog 145 #[.pointer (some ⟨p, 0, none⟩), .int .i64 (k : Int)] (w1.drewN n) fun e w' => e = .returned (.int .i64 (y : Int)) ∧ ∃ m, w' = (w1.drewN n).drewN m) := fun n => by rw [hw1, World.drewN_drewN]; exact H42.out _
  have G43 : Hid (∀ n, Calls Tryz.prog 115 #[.pointer (some ⟨p, 0, none⟩), .int .i64 (k : Int)] (w1.drewN n) fun e w' => e = .returned (.int .i64 (ee : Int)) ∧ ∃ m, w' = (w1.drewN n).drewN m) := fun n => by rw [hw1, World.drewN_drewN]; exact H43.out _
  have gcv : ∀ n, (convert 98 9 (.slice (some ⟨p, of, none⟩) l1 l2)).run Tryz.prog (w1.drewN n) = .ok (.string SV) (w1.drewN n) := fun n => by rw [hw1, World.drewN_drewN]; exact hcv _
  have gsl : ∀ n, (Instr.sliceAt 156 (.pointer (some ⟨p, 0, none⟩)) (some (.int .i64 (xy : Int))) (some (.int .i64 (ee : Int))) none).run Tryz.prog (w1.drewN n) = .ok (.slice (some ⟨p, of, none⟩) l1 l2) (w1.drewN n) := fun n => by rw [hw1, World.drewN_drewN]; exact hsl _
  have HW1 : Hid (w1 = w.drewN (0 + m1)) := hw1
  clear H19 H40 H41 H42 H43 hcv hsl hw1
  go_wp2_with fail
  go_quiet (first | with_reducible exact Calls.quiet_of (G40.out _) | with_reducible exact Calls.quiet_of (G41.out _) | with_reducible exact Calls.quiet_of (G42.out _) | with_reducible exact Calls.quiet_of (G43.out _))
  go_wp2_with fail
  go_ret2
  exact ⟨rfl, 0 + m1 + nq, by rw [HW1.out, World.drewN_drewN]; rfl⟩
theorem at_no {w : World} {p : Nat} {B : List UInt8} (h : Pg w p B) (k : Int) (hk : k < 0 ∨ (byteAt B 1 : Int) ≤ k) : Calls Tryz.prog 124 #[.pointer (some ⟨p, 0, none⟩), .int .i64 k] w fun e w' => e = .returned (.tuple #[.string ⟨#[]⟩, .string ⟨#[]⟩]) ∧ ∃ m, w' = w.drewN m := by
  have H19 : Hid (∀ n, Calls Tryz.prog 123 #[.pointer (some ⟨p, 0, none⟩)] (w.drewN n) fun e w' => e = .returned (.int .i64 (byteAt B 1 : Int)) ∧ ∃ m, w' = (w.drewN n).drewN m) := fun n => len_is (h.dr n)
  generalize byteAt B 1 = nn at *
  clear h
  rw [drewN0 w]
  by_cases c1 : k < 0
  · go_enter Tryz.func124, Tryz.ntmps124
    go_wp2_with fail
    go_ret2
    exact ⟨rfl, 0, rfl⟩
  · have c2 : (nn : Int) ≤ k := by omega
    clear hk
    go_enter Tryz.func124, Tryz.ntmps124
    go_wp2_with fail
    refine Calls.mono (H19.out _) ?_; rintro e w1 ⟨rfl, m1, rfl⟩
    go_wp2_with fail
    go_ret2
    exact ⟨rfl, _, rfl⟩
theorem at_nil (k : Int) (w : World) : Calls Tryz.prog 124 #[.pointer none, .int .i64 k] w fun e w' => e = .returned (.tuple #[.string ⟨#[]⟩, .string ⟨#[]⟩]) ∧ ∃ m, w' = w.drewN m := by
  have H19 : Hid (∀ n, Calls Tryz.prog 123 #[.pointer none] (w.drewN n) fun e w' => e = .returned (.int .i64 0) ∧ ∃ m, w' = (w.drewN n).drewN m) := fun n => len_nil _
  rw [drewN0 w]
  by_cases c1 : k < 0
  · go_enter Tryz.func124, Tryz.ntmps124
    go_wp2_with fail
    go_ret2
    exact ⟨rfl, 0, rfl⟩
  · have c2 : (0 : Int) ≤ k := by omega
    go_enter Tryz.func124, Tryz.ntmps124
    go_wp2_with fail
    refine Calls.mono (H19.out _) ?_; rintro e w1 ⟨rfl, m1, rfl⟩
    go_wp2_with fail
    go_ret2
    exact ⟨rfl, _, rfl⟩
/-- The four bytes of a page's sum. -/
def sumP (B : List UInt8) : List UInt8 := putL (sumOf B)
theorem page_all (w : World) (p : Nat) : (Instr.sliceAt 156 (.pointer (some ⟨p, 0, none⟩)) none none none).run Tryz.prog w = .ok (.slice (some ⟨p, 0, none⟩) 256 256) w := by
  have e : Tryz.prog.arrayLen 156 = 256 := by kernel_rfl
  have e5 : Tryz.prog.elem 156 = 5 := by kernel_rfl
  rw [run_sliceAt_array_all w 156 ⟨p, 0, none⟩ (by kernel_rfl), e, e5, size5]
  simp [slicedAt, Addr.add]
theorem psum_is {w : World} {p : Nat} {B : List UInt8} (h : Pg w p B) : Calls Tryz.prog 120 #[.pointer (some ⟨p, 0, none⟩)] w fun e w' => e = .returned (.string ⟨(sumP B).toArray⟩) ∧ Kept (fun _ => False) w w' := by
  have hcv : (convert 98 9 (.slice (some ⟨p, 0, none⟩) 256 256)).run Tryz.prog w = .ok (.string ⟨B.toArray⟩) w := by
    have := convert_page h 0 256 256 (by omega)
    rwa [List.drop_zero, List.take_of_length_le (by rw [h.len]; exact Nat.le_refl _)] at this
  have hsl := page_all w p
  have hsz : (⟨B.toArray⟩ : ByteArray).size = 256 := by show B.toArray.size = 256; rw [List.size_toArray, h.len]
  have HS := (show Hid _ from sum_is ⟨B.toArray⟩ (by rw [hsz]; decide) w)
  have HP := (show Hid _ from fun w => put_is (sumOf B : Int) w)
  have hlow : low (sumOf B : Int) = sumOf B := low_nat (sumOf_lt B)
  have HS : Hid (Calls Tryz.prog 109 #[.string ⟨B.toArray⟩] w fun e w' => e = .returned (.int .i64 (sumOf B : Nat)) ∧ w' = w) := by
    have := sum_is ⟨B.toArray⟩ (by rw [hsz]; decide) w
    have e : (⟨B.toArray⟩ : ByteArray).data.toList = B := by simp
    rw [e] at this
    exact this
  have HP : Hid (∀ W, Calls Tryz.prog 81 #[.int .i64 (sumOf B : Nat)] W fun e w' => e = .returned (.string ⟨(sumP B).toArray⟩) ∧ Kept (fun _ => False) W w') := fun W => by
    have := put_is (sumOf B : Int) W
    rw [hlow] at this
    exact this.mono fun e w' ⟨q1, q2⟩ => ⟨q1, q2.os, q2.tape, q2.output, q2.size, fun k hk _ => q2.block k hk⟩
  generalize (ByteArray.mk (sumP B).toArray) = S at *
  generalize (ByteArray.mk B.toArray) = T at *
  generalize sumOf B = q at *
  clear h hsz hlow
  go_enter Tryz.func120, Tryz.ntmps120
  go_wp2_with fail
  refine Calls.mono HS.out ?_; rintro e w1 ⟨rfl, rfl⟩
  go_wp2_with fail
  refine Calls.mono (HP.out _) ?_; rintro e w2 ⟨rfl, hk⟩
  have HK : Hid (Kept (fun _ => False) w1 w2) := hk
  clear hk
  go_wp2_with fail
  go_ret
  exact ⟨rfl, HK.out⟩
theorem page_h4 (w : World) (p : Nat) : (Instr.sliceAt 156 (.pointer (some ⟨p, 0, none⟩)) none (some (.int .i64 4)) none).run Tryz.prog w = .ok (.slice (some ⟨p, 0, none⟩) 4 256) w := by
  have e : Tryz.prog.arrayLen 156 = 256 := by kernel_rfl
  have e5 : Tryz.prog.elem 156 = 5 := by kernel_rfl
  rw [run_sliceAt_array_h w 156 ⟨p, 0, none⟩ (by kernel_rfl) .i64 4 (by omega) (by rw [e]; omega), e, e5, size5]
  simp [slicedAt, Addr.add]
/-- A page's bytes, as they are told. -/
def bytesB (B : List UInt8) : List UInt8 := B.take 4 ++ sumP B ++ B.drop 8
set_option maxHeartbeats 2000000 in
theorem bytes_is {w : World} {p : Nat} {B : List UInt8} (h : Pg w p B) (h0 : byteAt B 0 ≠ 0) : Calls Tryz.prog 82 #[.pointer (some ⟨p, 0, none⟩)] w fun e w' => e = .returned (.string ⟨(bytesB B).toArray⟩) ∧ Kept (fun _ => False) w w' := by
  have e0 : (byteAt B 0 != 0) = true := by simp [h0]
  have H37 : Hid (Calls Tryz.prog 111 #[.pointer (some ⟨p, 0, none⟩)] w fun e w' => e = .returned (.bool true) ∧ ∃ m, w' = w.drewN m) := by have := is_is h; rw [e0] at this; exact this
  obtain ⟨A1, hA1⟩ : ∃ A1, (⟨(B.take 4).toArray⟩ : ByteArray) = A1 := ⟨_, rfl⟩
  obtain ⟨A2, hA2⟩ : ∃ A2, (⟨(B.drop 8).toArray⟩ : ByteArray) = A2 := ⟨_, rfl⟩
  obtain ⟨A3, hA3⟩ : ∃ A3, (⟨(sumP B).toArray⟩ : ByteArray) = A3 := ⟨_, rfl⟩
  have HR : Hid ((⟨(bytesB B).toArray⟩ : ByteArray) = A1 ++ A3 ++ A2) := by
    rw [← hA1, ← hA2, ← hA3]
    apply ByteArray.ext
    simp [bytesB]
  have HSW : Hid (∀ W, Kept (fun _ => False) w W → ((convert 98 9 (.slice (some ⟨p, 0, none⟩) 4 256)).run Tryz.prog W = .ok (.string A1) W ∧ (convert 98 9 (.slice (some ⟨p, 8, none⟩) 248 248)).run Tryz.prog W = .ok (.string A2) W ∧ Hid (Kept (fun _ => False) w W))) := fun W kk => by
    have h1 := convert_page (h.step kk) 0 4 256 (by omega)
    have h2 := convert_page (h.step kk) 8 248 248 (by omega)
    rw [List.drop_zero, hA1] at h1
    rw [List.take_of_length_le (by rw [List.length_drop, h.len]; omega), hA2] at h2
    exact ⟨h1, h2, kk⟩
  have H38 : Hid (∀ W, Kept (fun _ => False) w W → Calls Tryz.prog 120 #[.pointer (some ⟨p, 0, none⟩)] W fun e w' => e = .returned (.string A3) ∧ ((convert 98 9 (.slice (some ⟨p, 0, none⟩) 4 256)).run Tryz.prog w' = .ok (.string A1) w' ∧ (convert 98 9 (.slice (some ⟨p, 8, none⟩) 248 248)).run Tryz.prog w' = .ok (.string A2) w' ∧ Hid (Kept (fun _ => False) w w'))) := fun W kk => by
    have := psum_is (h.step kk)
    rw [hA3] at this
    exact this.mono fun e w' ⟨q1, q2⟩ => ⟨q1, HSW.out _ (kk.trans q2 (fun _ z => z.elim))⟩
  have hl1 : A1.size = 4 := by rw [← hA1]; show (B.take 4).toArray.size = 4; rw [List.size_toArray, List.length_take, h.len]; rfl
  have hl2 : A2.size = 248 := by rw [← hA2]; show (B.drop 8).toArray.size = 248; rw [List.size_toArray, List.length_drop, h.len]
  have hl3 : A3.size = 4 := by rw [← hA3]; show (sumP B).toArray.size = 4; rw [List.size_toArray]; rfl
  have hs1 : ∀ W : World, (Instr.sliceAt 156 (.pointer (some ⟨p, 0, none⟩)) none (some (.int .i64 4)) none).run Tryz.prog W = .ok (.slice (some ⟨p, 0, none⟩) 4 256) W := fun W => page_h4 W p
  have hs2 : ∀ W : World, (Instr.sliceAt 156 (.pointer (some ⟨p, 0, none⟩)) (some (.int .i64 8)) none none).run Tryz.prog W = .ok (.slice (some ⟨p, 8, none⟩) 248 248) W := fun W => page_l W p 8 (by omega)
  rw [HR.out]
  clear h h0 e0 hA1 hA2 hA3 HR
  go_enter Tryz.func82, Tryz.ntmps82
  go_wp2_with fail
  refine Calls.mono H37.out ?_; rintro e w1 ⟨rfl, m1, hw1⟩
  have HK1 : Hid (Kept (fun _ => False) w w1) := by rw [hw1]; exact (Kept.refl _ _).drewN m1
  have HS0 : Hid ((convert 98 9 (.slice (some ⟨p, 0, none⟩) 4 256)).run Tryz.prog w1.drew = .ok (.string A1) w1.drew ∧ (convert 98 9 (.slice (some ⟨p, 8, none⟩) 248 248)).run Tryz.prog w1.drew = .ok (.string A2) w1.drew ∧ Hid (Kept (fun _ => False) w w1.drew)) := HSW.out _ HK1.out.drew
  have hS0 := HSW.out _ HK1.out
  clear hw1 H37
  go_wp2_with fail
  go_region_held (fun (w' : World) => ((convert 98 9 (.slice (some ⟨p, 0, none⟩) 4 256)).run Tryz.prog w' = .ok (.string A1) w' ∧ (convert 98 9 (.slice (some ⟨p, 8, none⟩) 248 248)).run Tryz.prog w' = .ok (.string A2) w' ∧ Hid (Kept (fun _ => False) w w'))) (first | (with_reducible assumption) | (with_reducible exact HS0.out))
    (first | ((with_reducible refine Calls.mono (H38.out _ (by first | exact HK1.out.drew | exact HK1.out)) ?_); rintro e w3 ⟨rfl, hS3⟩))
  all_goals (try simp only [Exit.then])
  all_goals go_wp2_with fail
  all_goals go_ret
  all_goals exact ⟨rfl, hS3.2.2.out⟩
theorem bytes_no {w : World} {p : Nat} {B : List UInt8} (h : Pg w p B) (h0 : byteAt B 0 = 0) : Calls Tryz.prog 82 #[.pointer (some ⟨p, 0, none⟩)] w fun e w' => e = .returned (.string ⟨#[]⟩) ∧ ∃ m, w' = w.drewN m := by
  have e0 : (byteAt B 0 != 0) = false := by simp [h0]
  have H37 : Hid (Calls Tryz.prog 111 #[.pointer (some ⟨p, 0, none⟩)] w fun e w' => e = .returned (.bool false) ∧ ∃ m, w' = w.drewN m) := by have := is_is h; rw [e0] at this; exact this
  clear h
  go_enter Tryz.func82, Tryz.ntmps82
  go_wp2_with fail
  refine Calls.mono H37.out ?_; rintro e w1 ⟨rfl, m1, rfl⟩
  go_wp2_with fail
  go_ret
  exact ⟨rfl, _, rfl⟩
end Go.Proofs.YtkhpmmmildcceaaGreat
