/- Split and Join. -/
import Derived.Test.YtehaancdadmdkaaNx
namespace Go.Proofs.Ytehaancdadmdkaa
open Go.ChangeShapes Go.WideShapes Go.ChangeAt Go.RowKit
set_option linter.unusedVariables false
set_option maxRecDepth 100000

theorem okC_right {a b : List Cel} (h : okC (a ++ b)) : okC b := by
  refine ⟨fun c hc => h.1 c (by simp [hc]), ?_⟩
  have := h.2
  rw [tot_append, List.length_append] at this
  omega
theorem okC_td {cs : List Cel} (h : okC cs) (k : Nat) : okC (cs.take k) ∧ okC (cs.drop k) := by
  have h' : okC (cs.take k ++ cs.drop k) := by rw [List.take_append_drop]; exact h
  exact ⟨okC_left h', okC_right h'⟩
theorem ris_td {cs : List Cel} (h : ris cs) (k : Nat) : ris (cs.take k) ∧ ris (cs.drop k) := by
  rw [ris_pw] at h
  exact ⟨(ris_pw _).2 (h.sublist (List.take_sublist _ _)), (ris_pw _).2 (h.sublist (List.drop_sublist _ _))⟩
theorem lenL {w : World} {p : Nat} {kd : UInt8} {cs : List Cel} (h : Pg w p (lay kd cs)) (hok : okC cs) : Calls Try.prog 19 #[.pointer (some ⟨p, 0, none⟩)] w fun e w' => e = .returned (.int .i64 (cs.length : Int)) ∧ Kept (fun _ => False) w w' := by
  have := len_is h
  rw [lay_count kd cs hok] at this
  exact this.mono fun e w1 ⟨q1, m, q2⟩ => ⟨q1, by rw [q2]; exact (Kept.refl _ _).drewN m⟩
theorem lenD {w : World} {p : Nat} {kd : UInt8} {cs : List Cel} (h : Pg w p (lay kd cs)) (hok : okC cs) : Calls Try.prog 19 #[.pointer (some ⟨p, 0, none⟩)] w fun e w' => e = .returned (.int .i64 (cs.length : Int)) ∧ ∃ m, w' = w.drewN m := by
  have := len_is h
  rw [lay_count kd cs hok] at this
  exact this
theorem kindL {w : World} {p : Nat} {kd : UInt8} {cs : List Cel} (h : Pg w p (lay kd cs)) : Calls Try.prog 27 #[.pointer (some ⟨p, 0, none⟩)] w fun e w' => e = .returned (.int .i64 (kd.toNat : Int)) ∧ Kept (fun _ => False) w w' := (kind_is h).mono fun e w1 ⟨q1, m, q2⟩ => ⟨q1, by rw [q2]; exact (Kept.refl _ _).drewN m⟩
theorem atL {w : World} {p : Nat} {kd : UInt8} {cs : List Cel} (h : Pg w p (lay kd cs)) (hok : okC cs) (k : Nat) (hk : k < cs.length) : Calls Try.prog 20 #[.pointer (some ⟨p, 0, none⟩), .int .i64 (k : Int)] w fun e w' => e = .returned (.tuple #[.string ⟨cs[k].1.toArray⟩, .string ⟨cs[k].2.toArray⟩]) ∧ Kept (fun _ => False) w w' := by
  obtain ⟨a, b, e, hl⟩ := cell_split hk
  have hh := lay_cell kd a cs[k] b (by rw [← e]; exact hok)
  rw [← e, hl] at hh
  have := at_is h k hh.2.2.2.1 hh.2.2.2.2 hh.2.2.1
  rw [hh.1, hh.2.1] at this
  exact this.mono fun e w1 ⟨q1, m, q2⟩ => ⟨q1, by rw [q2]; exact (Kept.refl _ _).drewN m⟩
theorem atN {w : World} {p : Nat} {kd : UInt8} {cs : List Cel} (h : Pg w p (lay kd cs)) (hok : okC cs) (k : Int) (hk : k < 0 ∨ (cs.length : Int) ≤ k) : Calls Try.prog 20 #[.pointer (some ⟨p, 0, none⟩), .int .i64 k] w fun e w' => e = .returned (.tuple #[.string ⟨#[]⟩, .string ⟨#[]⟩]) ∧ Kept (fun _ => False) w w' := (at_no h k (by rw [lay_count kd cs hok]; exact hk)).mono fun e w1 ⟨q1, m, q2⟩ => ⟨q1, by rw [q2]; exact (Kept.refl _ _).drewN m⟩
theorem bytesL {w : World} {p : Nat} {kd : UInt8} {cs : List Cel} (h : Pg w p (lay kd cs)) (hkd : kd.toNat ≠ 0) : Calls Try.prog 16 #[.pointer (some ⟨p, 0, none⟩)] w fun e w' => e = .returned (.string ⟨(bytesB (lay kd cs)).toArray⟩) ∧ Kept (fun _ => False) w w' := bytes_is h (by rw [lay_kind]; exact hkd)
theorem isL {w : World} {p : Nat} {kd : UInt8} {cs : List Cel} (h : Pg w p (lay kd cs)) (hkd : kd.toNat ≠ 0) : Calls Try.prog 37 #[.pointer (some ⟨p, 0, none⟩)] w fun e w' => e = .returned (.bool true) ∧ Kept (fun _ => False) w w' := by
  have e0 : (byteAt (lay kd cs) 0 != 0) = true := by simp [lay_kind, hkd]
  have := is_is h
  rw [e0] at this
  exact this.mono fun e w1 ⟨q1, m, q2⟩ => ⟨q1, by rw [q2]; exact (Kept.refl _ _).drewN m⟩
set_option maxHeartbeats 2000000 in
/-- Split. -/
theorem split_is {w : World} {p : Nat} {kd : UInt8} {cs : List Cel} (h : Pg w p (lay kd cs)) (hok : okC cs) (hkd : kd.toNat ≠ 0) (k : Nat) (hk : k ≤ cs.length) : Calls Try.prog 21 #[.pointer (some ⟨p, 0, none⟩), .int .i64 (k : Int)] w fun e w' => ∃ q, e = .returned (.tuple #[.pointer (some ⟨q, 0, none⟩), .int .i64 0]) ∧ Pg w' p (lay kd (cs.take k)) ∧ Pg w' q (lay kd (cs.drop k)) ∧ Kept (fun i => i = p) w w' ∧ w.heap.size ≤ q := by
  have hcs : cs.take k ++ cs.drop k = cs := List.take_append_drop k cs
  have hlt : (cs.take k).length = k := by rw [List.length_take]; omega
  have HIS : Hid (Calls Try.prog 37 #[.pointer (some ⟨p, 0, none⟩)] w fun e w' => e = .returned (.bool true) ∧ Hid (Kept (fun _ => False) w w')) := isL h hkd
  have HLN : Hid (∀ V, Kept (fun _ => False) w V → Calls Try.prog 19 #[.pointer (some ⟨p, 0, none⟩)] V fun e w' => e = .returned (.int .i64 (cs.length : Int)) ∧ Hid (Kept (fun _ => False) w w')) := fun V kV => (lenL (h.step kV) hok).mono fun e w' ⟨q1, q2⟩ => ⟨q1, kV.trans q2 (fun _ z => z.elim)⟩
  have HEM : Hid (∀ V, Kept (fun _ => False) w V → Calls Try.prog 30 #[.int .u8 (kd.toNat : Int)] V fun e w' => ∃ q, e = .returned (.pointer (some ⟨q, 0, none⟩)) ∧ Hid (Pg w' q (lay kd []) ∧ Kept (fun _ => False) w w' ∧ w.heap.size ≤ q)) := fun V kV => (empty_is kd V).mono fun e w' ⟨q, q1, q2, q3, q4⟩ => ⟨q, q1, q2, kV.trans q3 (fun _ z => z.elim), by have := kV.size; omega⟩
  have HTK : Hid (∀ V q, Pg V q (lay kd []) → Kept (fun _ => False) w V → w.heap.size ≤ q → Calls Try.prog 44 #[.pointer (some ⟨q, 0, none⟩), .pointer (some ⟨p, 0, none⟩), .int .i64 (k : Int)] V fun e w' => e = .returned (.tuple #[]) ∧ Hid (Pg w' q (lay kd (cs.drop k)) ∧ Pg w' p (lay kd cs) ∧ Kept (fun _ => False) w w')) := fun V q hq kV hwq => by
    have hp := h.step kV
    have hne : q ≠ p := by have := h.lt; omega
    have := takeL (p := q) (q := p) (kd := kd) (kd' := kd) [] (cs.take k) (cs.drop k) hq (by rw [hcs]; exact hp) hne (by rw [List.nil_append]; exact (okC_td hok k).2) (by rw [hcs]; exact hok)
    rw [hlt, List.nil_append] at this
    exact this.mono fun e w' ⟨q1, q2, q3⟩ => ⟨q1, q2, hp.kept q3 (fun e => hne e.symm), kV.trans q3 (fun i e => .inr (by rw [e]; exact hwq))⟩
  have HCT : Hid (∀ V, Pg V p (lay kd cs) → Calls Try.prog 45 #[.pointer (some ⟨p, 0, none⟩), .int .i64 (k : Int)] V fun e w' => e = .returned (.tuple #[]) ∧ Hid (Pg w' p (lay kd (cs.take k)) ∧ Kept (fun i => i = p) V w')) := fun V hV => by
    have := cutL (p := p) (kd := kd) (cs.take k) (cs.drop k) (by rw [hcs]; exact hV) (by rw [hcs]; exact hok)
    rw [hlt] at this
    exact this
  have HC : Hid (∀ V, Kept (fun _ => False) w V → V.cell? ⟨p, 0, none⟩ = some (.int .u8 (kd.toNat : Int))) := fun V kV => by
    have := (h.step kV).cell 0 (by decide)
    rw [lay_kind] at this
    exact this
  have HP : Hid (p < w.heap.size) := h.lt
  have c1 : ¬ (k : Int) < 0 := by omega
  have c2 : ¬ (cs.length : Int) < (k : Int) := by omega
  generalize cs.length = n at *
  clear h hok hkd hk hcs hlt
  go_enter Try.func21, Try.ntmps21
  go_wp2_with fail
  refine Calls.mono HIS.out ?_; rintro e w1 ⟨rfl, k1⟩
  clear HIS
  go_wp2_with fail
  refine Calls.mono (HLN.out _ k1.out) ?_; rintro e w2 ⟨rfl, k2⟩
  have cc := HC.out _ k2.out
  clear HLN k1
  go_wp2_with fail
  refine Calls.mono (HEM.out _ k2.out) ?_; rintro e w3 ⟨q, rfl, k3⟩
  clear HEM cc HC k2
  go_wp2_with fail
  refine Calls.mono (HTK.out _ q k3.out.1 k3.out.2.1 k3.out.2.2) ?_; rintro e w4 ⟨rfl, k4⟩
  clear HTK
  go_wp2_with fail
  refine Calls.mono (HCT.out _ k4.out.2.1) ?_; rintro e w5 ⟨rfl, k5⟩
  have HE : Hid (Pg w5 p (lay kd (cs.take k)) ∧ Pg w5 q (lay kd (cs.drop k)) ∧ Kept (fun i => i = p) w w5 ∧ w.heap.size ≤ q) := ⟨k5.out.1, k4.out.1.kept k5.out.2 (by have := HP.out; have := k3.out.2.2; omega), (k4.out.2.2.mono (fun _ z => z.elim)).trans k5.out.2 (fun i e => .inl e), k3.out.2.2⟩
  clear HCT k3 k4 k5
  go_wp2_with fail
  go_ret2
  exact ⟨q, rfl, HE.out⟩
theorem split_no {w : World} {p : Nat} {kd : UInt8} {cs : List Cel} (h : Pg w p (lay kd cs)) (hok : okC cs) (hkd : kd.toNat ≠ 0) (k : Int) (hk : k < 0 ∨ (cs.length : Int) < k) : Calls Try.prog 21 #[.pointer (some ⟨p, 0, none⟩), .int .i64 k] w fun e w' => e = .returned (.tuple #[.pointer none, .int .i64 1]) ∧ Kept (fun _ => False) w w' := by
  have HIS : Hid (Calls Try.prog 37 #[.pointer (some ⟨p, 0, none⟩)] w fun e w' => e = .returned (.bool true) ∧ Hid (Kept (fun _ => False) w w')) := isL h hkd
  have HLN : Hid (∀ V, Kept (fun _ => False) w V → Calls Try.prog 19 #[.pointer (some ⟨p, 0, none⟩)] V fun e w' => e = .returned (.int .i64 (cs.length : Int)) ∧ Hid (Kept (fun _ => False) w w')) := fun V kV => (lenL (h.step kV) hok).mono fun e w' ⟨q1, q2⟩ => ⟨q1, kV.trans q2 (fun _ z => z.elim)⟩
  generalize cs.length = n at *
  clear h hok hkd
  by_cases c1 : k < 0
  · clear HLN
    go_enter Try.func21, Try.ntmps21
    go_wp2_with fail
    refine Calls.mono HIS.out ?_; rintro e w1 ⟨rfl, k1⟩
    go_wp2_with fail
    go_ret2
    exact ⟨rfl, k1.out⟩
  · have c2 : (n : Int) < k := by omega
    clear hk
    go_enter Try.func21, Try.ntmps21
    go_wp2_with fail
    refine Calls.mono HIS.out ?_; rintro e w1 ⟨rfl, k1⟩
    go_wp2_with fail
    refine Calls.mono (HLN.out _ k1.out) ?_; rintro e w2 ⟨rfl, k2⟩
    go_wp2_with fail
    go_ret2
    exact ⟨rfl, k2.out⟩
/-- Do all keys of the one stand ahead of the other's? -/
def ahd : List Cel → List Cel → Bool
  | [], _ => true
  | _, [] => true
  | a, y :: _ => Op.bytesLess (a.getLastD ([], [])).1 y.1
set_option maxHeartbeats 2000000 in
theorem ahead_is {w : World} {p q : Nat} {kd kd' : UInt8} {a b : List Cel} (h : Pg w p (lay kd a)) (g : Pg w q (lay kd' b)) (hok : okC a) (gok : okC b) : Calls Try.prog 46 #[.pointer (some ⟨p, 0, none⟩), .pointer (some ⟨q, 0, none⟩)] w fun e w' => e = .returned (.bool (ahd a b)) ∧ Kept (fun _ => False) w w' := by
  have HLP : Hid (∀ V, Kept (fun _ => False) w V → Calls Try.prog 19 #[.pointer (some ⟨p, 0, none⟩)] V fun e w' => e = .returned (.int .i64 (a.length : Int)) ∧ Hid (Kept (fun _ => False) w w')) := fun V kV => (lenL (h.step kV) hok).mono fun e w' ⟨q1, q2⟩ => ⟨q1, kV.trans q2 (fun _ z => z.elim)⟩
  have HLQ : Hid (∀ V, Kept (fun _ => False) w V → Calls Try.prog 19 #[.pointer (some ⟨q, 0, none⟩)] V fun e w' => e = .returned (.int .i64 (b.length : Int)) ∧ Hid (Kept (fun _ => False) w w')) := fun V kV => (lenL (g.step kV) gok).mono fun e w' ⟨q1, q2⟩ => ⟨q1, kV.trans q2 (fun _ z => z.elim)⟩
  by_cases ha : a = []
  · subst ha
    have e : ahd [] b = true := by cases b <;> rfl
    rw [e]
    simp only [List.length_nil] at HLP
    clear h g hok gok e HLQ
    go_enter Try.func46, Try.ntmps46
    go_wp2_with fail
    refine Calls.mono (HLP.out _ (Kept.refl _ _)) ?_; rintro e w1 ⟨rfl, k1⟩
    go_wp2_with fail
    go_ret
    exact ⟨rfl, k1.out⟩
  · by_cases hb : b = []
    · subst hb
      have e : ahd a [] = true := by cases a <;> rfl
      rw [e]
      simp only [List.length_nil] at HLQ
      have c1 : ¬ (a.length : Int) = 0 := by have := List.length_pos_iff.2 ha; omega
      clear h g hok gok e ha
      generalize a.length = n at *
      go_enter Try.func46, Try.ntmps46
      go_wp2_with fail
      refine Calls.mono (HLP.out _ (Kept.refl _ _)) ?_; rintro e w1 ⟨rfl, k1⟩
      go_wp2_with fail
      refine Calls.mono (HLQ.out _ k1.out) ?_; rintro e w2 ⟨rfl, k2⟩
      go_wp2_with fail
      go_ret
      exact ⟨rfl, k2.out⟩
    · obtain ⟨r, x, rfl⟩ := snoc_of a ha
      obtain ⟨y, b, rfl⟩ := List.exists_cons_of_ne_nil hb
      have e : ahd (r ++ [x]) (y :: b) = Op.bytesLess x.1 y.1 := by
        cases r with
        | nil => rfl
        | cons z r => show Op.bytesLess (((z :: r) ++ [x]).getLastD ([], [])).1 y.1 = _; rw [List.getLastD_eq_getLast?, List.getLast?_append]; rfl
      rw [e]
      have hl : (r ++ [x]).length = r.length + 1 := by simp
      obtain ⟨kp1, kp2, kp3⟩ := lay_key kd hok (i := r.length) (by omega)
      obtain ⟨kq1, kq2, kq3⟩ := lay_key kd' gok (i := 0) (by simp)
      have ex : (r ++ [x])[r.length]'(by omega) = x := by simp
      have ey : (y :: b)[0]'(by simp) = y := rfl
      rw [ex] at kp1
      rw [ey] at kq1
      have HKP : Hid (∀ V, Kept (fun _ => False) w V → Calls Try.prog 40 #[.pointer (some ⟨p, 0, none⟩), .int .i64 (r.length : Int)] V fun e w' => e = .returned (.string ⟨x.1.toArray⟩) ∧ Hid (Kept (fun _ => False) w w')) := fun V kV => by
        have := key_is (h.step kV) r.length kp3 kp2
        rw [kp1] at this
        exact this.mono fun e w1 ⟨q1, m, q2⟩ => ⟨q1, by rw [q2]; exact kV.drewN m⟩
      have HKQ : Hid (∀ V, Kept (fun _ => False) w V → Calls Try.prog 40 #[.pointer (some ⟨q, 0, none⟩), .int .i64 0] V fun e w' => e = .returned (.string ⟨y.1.toArray⟩) ∧ Hid (Kept (fun _ => False) w w')) := fun V kV => by
        have := key_is (g.step kV) 0 kq3 kq2
        rw [kq1] at this
        exact this.mono fun e w1 ⟨q1, m, q2⟩ => ⟨q1, by rw [q2]; exact kV.drewN m⟩
      rw [hl] at HLP
      have hl2 : (y :: b).length = b.length + 1 := rfl
      rw [hl2] at HLQ
      have hbr : r.length ≤ 200 := by have := hok.2; omega
      have hbb : b.length ≤ 200 := by have := gok.2; rw [hl2] at this; omega
      obtain ⟨n, hn⟩ : ∃ n, r.length = n := ⟨_, rfl⟩
      obtain ⟨m, hm⟩ : ∃ m, b.length = m := ⟨_, rfl⟩
      rw [hn] at HLP HKP hbr
      rw [hm] at HLQ hbb
      obtain ⟨X, hX⟩ : ∃ X, (⟨x.1.toArray⟩ : ByteArray) = X := ⟨_, rfl⟩
      obtain ⟨Y, hY⟩ : ∃ Y, (⟨y.1.toArray⟩ : ByteArray) = Y := ⟨_, rfl⟩
      have hlx : Op.bytesLess x.1 y.1 = Op.bytesLess X.toList Y.toList := by rw [← hX, ← hY, ByteArray.toList_eq, ByteArray.toList_eq]
      rw [hlx]
      rw [hX] at HKP
      rw [hY] at HKQ
      obtain ⟨n1, hn1⟩ : ∃ n1, n + 1 = n1 := ⟨_, rfl⟩
      obtain ⟨m1, hm1⟩ : ∃ m1, m + 1 = m1 := ⟨_, rfl⟩
      rw [hn1] at HLP
      rw [hm1] at HLQ
      have c1 : ¬ (n1 : Int) = 0 := by omega
      have c2 : ¬ (m1 : Int) = 0 := by omega
      have s1 : wrap64 ((n1 : Int) - 1) = (n : Int) := sub64c n1 1 n hn1 (by omega)
      clear h g hok gok ha hb e hl kp1 kp2 kp3 kq1 kq2 kq3 ex ey hl2 hn hm hX hY hlx hn1 hm1 hbr hbb
      go_enter Try.func46, Try.ntmps46
      go_wp2_with fail
      refine Calls.mono (HLP.out _ (Kept.refl _ _)) ?_; rintro e w1 ⟨rfl, k1⟩
      go_wp2_with fail
      refine Calls.mono (HLQ.out _ k1.out) ?_; rintro e w2 ⟨rfl, k2⟩
      go_wp2_with fail
      refine Calls.mono (HLP.out _ k2.out) ?_; rintro e w3 ⟨rfl, k3⟩
      go_wp2_with fail
      refine Calls.mono (HKP.out _ k3.out) ?_; rintro e w4 ⟨rfl, k4⟩
      go_wp2_with fail
      refine Calls.mono (HKQ.out _ k4.out) ?_; rintro e w5 ⟨rfl, k5⟩
      have HD : Hid ((((n1 : Int) == 0) = false) ∧ (((m1 : Int) == 0) = false)) := ⟨by simpa using c1, by simpa using c2⟩
      go_wp2_with fail
      go_ret
      refine ⟨?_, k5.out⟩
      show Ending.returned (.bool ((n1 : Int) == 0 || (m1 : Int) == 0 || Op.bytesLess X.toList Y.toList)) = _
      rw [HD.out.1, HD.out.2]
      rfl
theorem join_behind {w : World} {p q : Nat} {kd : UInt8} {a b : List Cel} (h : Pg w p (lay kd a)) (g : Pg w q (lay kd b)) (hok : okC a) (gok : okC b) (hkd : kd.toNat ≠ 0) (hah : ahd a b = false) : Calls Try.prog 22 #[.pointer (some ⟨p, 0, none⟩), .pointer (some ⟨q, 0, none⟩)] w fun e w' => e = .returned (.int .i64 1) ∧ Kept (fun _ => False) w w' := by
  have HIS : Hid (Calls Try.prog 37 #[.pointer (some ⟨p, 0, none⟩)] w fun e w' => e = .returned (.bool true) ∧ Hid (Kept (fun _ => False) w w')) := isL h hkd
  have HKP : Hid (∀ V, Kept (fun _ => False) w V → Calls Try.prog 27 #[.pointer (some ⟨p, 0, none⟩)] V fun e w' => e = .returned (.int .i64 (kd.toNat : Int)) ∧ Hid (Kept (fun _ => False) w w')) := fun V kV => (kindL (h.step kV)).mono fun e w' ⟨q1, q2⟩ => ⟨q1, kV.trans q2 (fun _ z => z.elim)⟩
  have HKQ : Hid (∀ V, Kept (fun _ => False) w V → Calls Try.prog 27 #[.pointer (some ⟨q, 0, none⟩)] V fun e w' => e = .returned (.int .i64 (kd.toNat : Int)) ∧ Hid (Kept (fun _ => False) w w')) := fun V kV => (kindL (g.step kV)).mono fun e w' ⟨q1, q2⟩ => ⟨q1, kV.trans q2 (fun _ z => z.elim)⟩
  have HAH : Hid (∀ V, Kept (fun _ => False) w V → Calls Try.prog 46 #[.pointer (some ⟨p, 0, none⟩), .pointer (some ⟨q, 0, none⟩)] V fun e w' => e = .returned (.bool false) ∧ Hid (Kept (fun _ => False) w w')) := fun V kV => by
    have := ahead_is (h.step kV) (g.step kV) hok gok
    rw [hah] at this
    exact this.mono fun e w' ⟨q1, q2⟩ => ⟨q1, kV.trans q2 (fun _ z => z.elim)⟩
  generalize kd.toNat = kn at *
  clear h g hok gok hkd hah
  go_enter Try.func22, Try.ntmps22
  go_wp2_with fail
  refine Calls.mono HIS.out ?_; rintro e w1 ⟨rfl, k1⟩
  go_wp2_with fail
  refine Calls.mono (HKP.out _ k1.out) ?_; rintro e w2 ⟨rfl, k2⟩
  go_wp2_with fail
  refine Calls.mono (HKQ.out _ k2.out) ?_; rintro e w3 ⟨rfl, k3⟩
  go_wp2_with fail
  refine Calls.mono (HAH.out _ k3.out) ?_; rintro e w4 ⟨rfl, k4⟩
  go_wp2_with fail
  go_ret
  exact ⟨rfl, k4.out⟩
set_option maxHeartbeats 2000000 in
theorem join_is {w : World} {p q : Nat} {kd : UInt8} {a b : List Cel} (h : Pg w p (lay kd a)) (g : Pg w q (lay kd b)) (hpq : p ≠ q) (hab : okC (a ++ b)) (hkd : kd.toNat ≠ 0) (hah : ahd a b = true) : Calls Try.prog 22 #[.pointer (some ⟨p, 0, none⟩), .pointer (some ⟨q, 0, none⟩)] w fun e w' => e = .returned (.int .i64 0) ∧ Pg w' p (lay kd (a ++ b)) ∧ Kept (fun i => i = p) w w' := by
  have hok := okC_left hab
  have gok := okC_right hab
  have h2 := hab.2
  rw [List.length_append, tot_append] at h2
  have HIS : Hid (Calls Try.prog 37 #[.pointer (some ⟨p, 0, none⟩)] w fun e w' => e = .returned (.bool true) ∧ Hid (Kept (fun _ => False) w w')) := isL h hkd
  have HKP : Hid (∀ V, Kept (fun _ => False) w V → Calls Try.prog 27 #[.pointer (some ⟨p, 0, none⟩)] V fun e w' => e = .returned (.int .i64 (kd.toNat : Int)) ∧ Hid (Kept (fun _ => False) w w')) := fun V kV => (kindL (h.step kV)).mono fun e w' ⟨q1, q2⟩ => ⟨q1, kV.trans q2 (fun _ z => z.elim)⟩
  have HKQ : Hid (∀ V, Kept (fun _ => False) w V → Calls Try.prog 27 #[.pointer (some ⟨q, 0, none⟩)] V fun e w' => e = .returned (.int .i64 (kd.toNat : Int)) ∧ Hid (Kept (fun _ => False) w w')) := fun V kV => (kindL (g.step kV)).mono fun e w' ⟨q1, q2⟩ => ⟨q1, kV.trans q2 (fun _ z => z.elim)⟩
  have HAH : Hid (∀ V, Kept (fun _ => False) w V → Calls Try.prog 46 #[.pointer (some ⟨p, 0, none⟩), .pointer (some ⟨q, 0, none⟩)] V fun e w' => e = .returned (.bool true) ∧ Hid (Kept (fun _ => False) w w')) := fun V kV => by
    have := ahead_is (h.step kV) (g.step kV) hok gok
    rw [hah] at this
    exact this.mono fun e w' ⟨q1, q2⟩ => ⟨q1, kV.trans q2 (fun _ z => z.elim)⟩
  have HLQ : Hid (∀ V, Kept (fun _ => False) w V → Calls Try.prog 19 #[.pointer (some ⟨q, 0, none⟩)] V fun e w' => e = .returned (.int .i64 (b.length : Int)) ∧ Hid (Kept (fun _ => False) w w')) := fun V kV => (lenL (g.step kV) gok).mono fun e w' ⟨q1, q2⟩ => ⟨q1, kV.trans q2 (fun _ z => z.elim)⟩
  have HUQ : Hid (∀ V, Kept (fun _ => False) w V → Calls Try.prog 47 #[.pointer (some ⟨q, 0, none⟩)] V fun e w' => e = .returned (.int .i64 (tot b : Int)) ∧ Hid (Kept (fun _ => False) w w')) := fun V kV => by
    have := used_is (g.step kV)
    rw [lay_used kd b gok] at this
    exact this.mono fun e w1 ⟨q1, m, q2⟩ => ⟨q1, by rw [q2]; exact kV.drewN m⟩
  obtain ⟨R, hR⟩ : ∃ R : Nat, R = 248 - 2 * a.length - tot a := ⟨_, rfl⟩
  have HRP : Hid (∀ V, Kept (fun _ => False) w V → Calls Try.prog 48 #[.pointer (some ⟨p, 0, none⟩)] V fun e w' => e = .returned (.int .i64 (R : Int)) ∧ Hid (Kept (fun _ => False) w w')) := fun V kV => by
    have := room_is (h.step kV) (by rw [lay_count kd a hok]; omega)
    rw [lay_count kd a hok, endAll kd a hok, (by omega : ((256 - tot a : Nat) : Int) - ((8 + 2 * a.length : Nat) : Int) = (R : Int))] at this
    exact this.mono fun e w1 ⟨q1, m, q2⟩ => ⟨q1, by rw [q2]; exact kV.drewN m⟩
  have HTK : Hid (∀ V, Kept (fun _ => False) w V → Calls Try.prog 44 #[.pointer (some ⟨p, 0, none⟩), .pointer (some ⟨q, 0, none⟩), .int .i64 0] V fun e w' => e = .returned (.tuple #[]) ∧ Hid (Pg w' p (lay kd (a ++ b)) ∧ Kept (fun i => i = p) w w')) := fun V kV => by
    have := takeL (p := p) (q := q) (kd := kd) (kd' := kd) a [] b (h.step kV) (g.step kV) hpq hab gok
    exact this.mono fun e w' ⟨q1, q2, q3⟩ => ⟨q1, q2, (kV.mono (fun _ z => z.elim)).trans q3 (fun i e => .inl e)⟩
  have c1 : ¬ (R : Int) < 2 * (b.length : Int) + (tot b : Int) := by omega
  have hb1 : b.length ≤ 200 := by omega
  have hb2 : tot b ≤ 300 := by omega
  generalize kd.toNat = kn at *
  generalize b.length = n at *
  generalize tot b = t at *
  clear h g hok gok hkd hah hab h2 hR hpq
  go_enter Try.func22, Try.ntmps22
  go_wp2_with fail
  refine Calls.mono HIS.out ?_; rintro e w1 ⟨rfl, k1⟩
  go_wp2_with fail
  refine Calls.mono (HKP.out _ k1.out) ?_; rintro e w2 ⟨rfl, k2⟩
  go_wp2_with fail
  refine Calls.mono (HKQ.out _ k2.out) ?_; rintro e w3 ⟨rfl, k3⟩
  go_wp2_with fail
  refine Calls.mono (HAH.out _ k3.out) ?_; rintro e w4 ⟨rfl, k4⟩
  go_wp2_with fail
  refine Calls.mono (HLQ.out _ k4.out) ?_; rintro e w5 ⟨rfl, k5⟩
  go_wp2_with fail
  refine Calls.mono (HUQ.out _ k5.out) ?_; rintro e w6 ⟨rfl, k6⟩
  go_wp2_with fail
  refine Calls.mono (HRP.out _ k6.out) ?_; rintro e w7 ⟨rfl, k7⟩
  go_wp2_with fail
  refine Calls.mono (HTK.out _ k7.out) ?_; rintro e w8 ⟨rfl, k8⟩
  go_wp2_with fail
  go_ret
  exact ⟨rfl, k8.out⟩
end Go.Proofs.Ytehaancdadmdkaa
