/- No page. -/
import Derived.Test.YtehaancdadmdkaaAw
import Derived.Deep.Cut
namespace Go.Proofs.Ytehaancdadmdkaa
open Go.ChangeShapes Go.WideShapes Go.ChangeAt Go.RowKit
set_option linter.unusedVariables false
set_option maxRecDepth 100000

/-- No page: nil, or one that nobody made. -/
def None' (w : World) (v : Value) : Prop := v = .pointer none ∨ ∃ p, v = .pointer (some ⟨p, 0, none⟩) ∧ Pg w p (zs 256)
theorem None'.dr {w : World} {v : Value} (h : None' w v) (m : Nat) : None' (w.drewN m) v := h.imp id (fun ⟨p, e, q⟩ => ⟨p, e, q.dr m⟩)
theorem None'.step {w w' : World} {v : Value} (h : None' w v) (k : Kept (fun _ => False) w w') : None' w' v := h.imp id (fun ⟨p, e, q⟩ => ⟨p, e, q.step k⟩)
theorem zs_at (i : Nat) (h : i < 256) : byteAt (zs 256) i = 0 := by
  unfold byteAt zs
  rw [List.getElem?_replicate, if_pos h]
  rfl
theorem None'.is {w : World} {v : Value} (h : None' w v) : Calls Try.prog 37 #[v] w fun e w' => e = .returned (.bool false) ∧ ∃ m, w' = w.drewN m := by
  rcases h with rfl | ⟨p, rfl, hp⟩
  · exact is_nil w
  · have := is_is hp
    rw [zs_at 0 (by decide)] at this
    exact this
theorem None'.len {w : World} {v : Value} (h : None' w v) : Calls Try.prog 19 #[v] w fun e w' => e = .returned (.int .i64 0) ∧ ∃ m, w' = w.drewN m := by
  rcases h with rfl | ⟨p, rfl, hp⟩
  · exact len_nil w
  · have := len_is hp
    rw [zs_at 1 (by decide)] at this
    exact this
theorem None'.kind {w : World} {v : Value} (h : None' w v) : Calls Try.prog 27 #[v] w fun e w' => e = .returned (.int .i64 0) ∧ ∃ m, w' = w.drewN m := by
  rcases h with rfl | ⟨p, rfl, hp⟩
  · exact kind_nil w
  · have := kind_is hp
    rw [zs_at 0 (by decide)] at this
    exact this
theorem None'.at {w : World} {v : Value} (h : None' w v) (k : Int) : Calls Try.prog 20 #[v, .int .i64 k] w fun e w' => e = .returned (.tuple #[.string ⟨#[]⟩, .string ⟨#[]⟩]) ∧ ∃ m, w' = w.drewN m := by
  rcases h with rfl | ⟨p, rfl, hp⟩
  · exact at_nil k w
  · exact at_no hp k (by rw [zs_at 1 (by decide)]; omega)
theorem None'.copy {w : World} {v : Value} (h : None' w v) : Calls Try.prog 28 #[v] w fun e w' => e = .returned (.pointer none) ∧ ∃ m, w' = w.drewN m := copy_no h.is

theorem None'.bytes {w : World} {v : Value} (h : None' w v) : Calls Try.prog 16 #[v] w fun e w' => e = .returned (.string ⟨#[]⟩) ∧ ∃ m, w' = w.drewN m := by
  have H : Hid (Calls Try.prog 37 #[v] w fun e w' => e = .returned (.bool false) ∧ ∃ m, w' = w.drewN m) := h.is
  clear h
  go_enter Try.func16, Try.ntmps16
  go_wp2_with fail
  refine Calls.mono H.out ?_; rintro e w1 ⟨rfl, m, rfl⟩
  go_wp2_with fail
  go_ret
  exact ⟨rfl, m, rfl⟩

theorem None'.free {w : World} {v : Value} (h : None' w v) : Calls Try.prog 23 #[v] w fun e w' => e = .returned (.int .i64 0) ∧ ∃ m, w' = w.drewN m := by
  have H : Hid (Calls Try.prog 37 #[v] w fun e w' => e = .returned (.bool false) ∧ ∃ m, w' = w.drewN m) := h.is
  clear h
  go_enter Try.func23, Try.ntmps23
  go_wp2_with fail
  refine Calls.mono H.out ?_; rintro e w1 ⟨rfl, m, rfl⟩
  go_wp2_with fail
  go_ret
  exact ⟨rfl, m, rfl⟩

theorem None'.drop {w : World} {v : Value} (h : None' w v) (key : ByteArray) : Calls Try.prog 25 #[v, .string key] w fun e w' => e = .returned (.int .i64 1) ∧ ∃ m, w' = w.drewN m := by
  have H : Hid (Calls Try.prog 37 #[v] w fun e w' => e = .returned (.bool false) ∧ ∃ m, w' = w.drewN m) := h.is
  clear h
  go_enter Try.func25, Try.ntmps25
  go_wp2_with fail
  refine Calls.mono H.out ?_; rintro e w1 ⟨rfl, m, rfl⟩
  go_wp2_with fail
  go_ret
  exact ⟨rfl, m, rfl⟩

theorem None'.split {w : World} {v : Value} (h : None' w v) (k : Int) : Calls Try.prog 21 #[v, .int .i64 k] w fun e w' => e = .returned (.tuple #[.pointer none, .int .i64 1]) ∧ ∃ m, w' = w.drewN m := by
  have H : Hid (Calls Try.prog 37 #[v] w fun e w' => e = .returned (.bool false) ∧ ∃ m, w' = w.drewN m) := h.is
  clear h
  go_enter Try.func21, Try.ntmps21
  go_wp2_with fail
  refine Calls.mono H.out ?_; rintro e w1 ⟨rfl, m, rfl⟩
  go_wp2_with fail
  go_ret2
  exact ⟨rfl, m, rfl⟩

theorem None'.join {w : World} {v : Value} (h : None' w v) (u : Value) : Calls Try.prog 22 #[v, u] w fun e w' => e = .returned (.int .i64 1) ∧ ∃ m, w' = w.drewN m := by
  have H : Hid (Calls Try.prog 37 #[v] w fun e w' => e = .returned (.bool false) ∧ ∃ m, w' = w.drewN m) := h.is
  clear h
  go_enter Try.func22, Try.ntmps22
  go_wp2_with fail
  refine Calls.mono H.out ?_; rintro e w1 ⟨rfl, m, rfl⟩
  go_wp2_with fail
  go_ret
  exact ⟨rfl, m, rfl⟩

theorem None'.put {w : World} {v : Value} (h : None' w v) (key val : ByteArray) (hk : key.size ≤ 1000) (hv : val.size ≤ 1000) : Calls Try.prog 24 #[v, .string key, .string val] w fun e w' => e = .returned (.int .i64 1) ∧ ∃ m, w' = w.drewN m := by
  obtain ⟨ks, hks⟩ : ∃ ks, key.size = ks := ⟨_, rfl⟩
  obtain ⟨vs, hvs⟩ : ∃ vs, val.size = vs := ⟨_, rfl⟩
  rw [hks] at hk
  rw [hvs] at hv
  have H : Hid (Calls Try.prog 37 #[v] w fun e w' => e = .returned (.bool false) ∧ ∃ m, w' = w.drewN m) := h.is
  clear h
  go_enter Try.func24, Try.ntmps24
  go_wp2_with fail
  refine Calls.mono H.out ?_; rintro e w1 ⟨rfl, m, rfl⟩
  go_wp2_with fail
  go_ret
  exact ⟨rfl, m, rfl⟩

set_option maxHeartbeats 1000000 in
theorem None'.find {w : World} {v : Value} (h : None' w v) (key : ByteArray) : Calls Try.prog 26 #[v, .string key] w fun e w' => e = .returned (.tuple #[.int .i64 0, .bool false]) ∧ Kept (fun _ => False) w w' := by
  obtain ⟨W, hW⟩ : ∃ W, (w.alloc (.cells #[v] 23)).alloc (.cells #[.string key] 9) = W := ⟨_, rfl⟩
  have hK : Kept (fun _ => False) w W := hW ▸ ((Kept.refl _ w).alloc _).alloc _
  have hv : v.oneCell' = true := by rcases h with rfl | ⟨p, rfl, _⟩ <;> rfl
  have c1 : W.cell? ⟨w.heap.size, 0, none⟩ = some v := by rw [← hW]; simp [go_sem]
  have HL : Hid (∀ V, None' V v → ∀ m, Calls Try.prog 19 #[v] (V.drewN m) fun e w' => e = .returned (.int .i64 0) ∧ ∃ j, w' = (V.drewN m).drewN j) := fun V hV m => (hV.dr m).len
  have HSR : Hid (∀ V c, Calls Try.prog 51 #[.int .i64 0, .func (.func 52) #[] c] V fun e w' => e = .returned (.int .i64 0) ∧ ∃ m, w' = V.drewN m) := fun V c => (search_is 0 (by omega) (fun _ => true) c V (fun m x hx => absurd hx (Nat.not_lt_zero _)) (fun x y _ hy => absurd hy (Nat.not_lt_zero _))).mono fun e w' ⟨i, q1, q2, _, _, q3⟩ => by
    obtain rfl : i = 0 := by omega
    exact ⟨q1, q3⟩
  have HNW : Hid (None' W v ∧ Kept (fun _ => False) w W ∧ W.cell? ⟨w.heap.size, 0, none⟩ = some v) := ⟨h.step hK, hK, c1⟩
  have HW : Hid ((w.alloc (.cells #[v] 23)).alloc (.cells #[.string key] 9) = W) := hW
  clear h hW hK
  rcases (show v = .pointer none ∨ ∃ p, v = .pointer (some ⟨p, 0, none⟩) from HNW.out.1.imp id (fun ⟨p, e, _⟩ => ⟨p, e⟩)) with rfl | ⟨p, rfl⟩
  · skip
    go_enter Try.func26, Try.ntmps26
    go_upto_region 1 with fail
    rw [HW.out]
    clear HW
    go_wp2_with fail
    refine Calls.mono (HL.out W HNW.out.1 0) ?_; rintro e w1 ⟨rfl, m1, hw1⟩
    have HN1 : Hid (None' w1 (.pointer none) ∧ Kept (fun _ => False) w w1 ∧ w1.cell? ⟨w.heap.size, 0, none⟩ = some (.pointer none)) := by rw [hw1]; exact ⟨(HNW.out.1.dr 0).dr m1, (HNW.out.2.1.drewN 0).drewN m1, HNW.out.2.2⟩
    clear hw1 HNW c1
    go_wp2_with fail
    refine Calls.mono (HSR.out w1 _) ?_; rintro e w2 ⟨rfl, m2, hw2⟩
    have HN2 : Hid (None' w2 (.pointer none) ∧ Kept (fun _ => False) w w2 ∧ w2.cell? ⟨w.heap.size, 0, none⟩ = some (.pointer none)) := by rw [hw2]; exact ⟨HN1.out.1.dr m2, HN1.out.2.1.drewN m2, HN1.out.2.2⟩
    have d1 := HN2.out.2.2
    have HL2 := (show Hid _ from HL.out w2 HN2.out.1)
    clear hw2 HN1 HSR HL
    go_wp2_with fail
    go_quiet (with_reducible exact Calls.quiet_of (HL2.out _))
    go_wp2_with fail
    go_ret2
    exact ⟨rfl, HN2.out.2.1.drewN _⟩
  · skip
    go_enter Try.func26, Try.ntmps26
    go_upto_region 1 with fail
    rw [HW.out]
    clear HW
    go_wp2_with fail
    refine Calls.mono (HL.out W HNW.out.1 0) ?_; rintro e w1 ⟨rfl, m1, hw1⟩
    have HN1 : Hid (None' w1 (.pointer (some ⟨p, 0, none⟩)) ∧ Kept (fun _ => False) w w1 ∧ w1.cell? ⟨w.heap.size, 0, none⟩ = some (.pointer (some ⟨p, 0, none⟩))) := by rw [hw1]; exact ⟨(HNW.out.1.dr 0).dr m1, (HNW.out.2.1.drewN 0).drewN m1, HNW.out.2.2⟩
    clear hw1 HNW c1
    go_wp2_with fail
    refine Calls.mono (HSR.out w1 _) ?_; rintro e w2 ⟨rfl, m2, hw2⟩
    have HN2 : Hid (None' w2 (.pointer (some ⟨p, 0, none⟩)) ∧ Kept (fun _ => False) w w2 ∧ w2.cell? ⟨w.heap.size, 0, none⟩ = some (.pointer (some ⟨p, 0, none⟩))) := by rw [hw2]; exact ⟨HN1.out.1.dr m2, HN1.out.2.1.drewN m2, HN1.out.2.2⟩
    have d1 := HN2.out.2.2
    have HL2 := (show Hid _ from HL.out w2 HN2.out.1)
    clear hw2 HN1 HSR HL
    go_wp2_with fail
    go_quiet (with_reducible exact Calls.quiet_of (HL2.out _))
    go_wp2_with fail
    go_ret2
    exact ⟨rfl, HN2.out.2.1.drewN _⟩
end Go.Proofs.Ytehaancdadmdkaa
