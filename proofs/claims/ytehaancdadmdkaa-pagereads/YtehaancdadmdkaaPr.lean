/- Drop. -/
import Derived.Test.YtehaancdadmdkaaPp
namespace Go.Proofs.Ytehaancdadmdkaa
open Go.ChangeShapes Go.WideShapes Go.ChangeAt Go.RowKit
set_option linter.unusedVariables false
set_option maxRecDepth 100000

/-- What Drop answers. -/
def DropE (kd : UInt8) (cs : List Cel) (key : List UInt8) (p : Nat) (w : World) (e : Ending) (w' : World) : Prop :=
  ∃ k b, FindO cs key k b ∧ ((b = false ∧ e = .returned (.int .i64 3) ∧ Pg w' p (lay kd cs) ∧ Kept (fun _ => False) w w') ∨ (b = true ∧ e = .returned (.int .i64 0) ∧ Pg w' p (lay kd (cs.take k ++ cs.drop (k + 1))) ∧ okC (cs.take k ++ cs.drop (k + 1)) ∧ Kept (fun i => i = p) w w'))
theorem drop_ok (cs : List Cel) (k : Nat) (h : okC cs) : okC (cs.take k ++ cs.drop (k + 1)) := by
  refine ⟨fun c hc => ?_, ?_⟩
  · rcases List.mem_append.1 hc with hc | hc
    · exact h.1 c (List.mem_of_mem_take hc)
    · exact h.1 c (List.mem_of_mem_drop hc)
  · have h2 := h.2
    have e : tot cs = tot (cs.take k) + tot (cs.drop k) := by rw [← tot_append, List.take_append_drop]
    have e2 : tot (cs.drop (k + 1)) ≤ tot (cs.drop k) := by
      by_cases hk : k < cs.length
      · rw [List.drop_eq_getElem_cons hk]
        show _ ≤ csz cs[k] + tot (cs.drop (k + 1))
        omega
      · rw [List.drop_eq_nil_of_le (by omega), List.drop_eq_nil_of_le (by omega)]
        exact Nat.le_refl _
    rw [tot_append, List.length_append, List.length_take, List.length_drop]
    omega
set_option maxHeartbeats 4000000 in
theorem pdrop_is {w : World} {p : Nat} {kd : UInt8} {cs : List Cel} (h : Pg w p (lay kd cs)) (hok : okC cs) (hr : ris cs) (hkd : kd.toNat ≠ 0) (key : ByteArray) : Calls Try.prog 25 #[.pointer (some ⟨p, 0, none⟩), .string key] w fun e w' => DropE kd cs key.data.toList p w e w' := by
  have e0 : (byteAt (lay kd cs) 0 != 0) = true := by simp [lay_kind, hkd]
  have H37 : Hid (∀ V, Pg V p (lay kd cs) → Calls Try.prog 37 #[.pointer (some ⟨p, 0, none⟩)] V fun e w' => e = .returned (.bool true) ∧ Hid (Pg w' p (lay kd cs) ∧ Kept (fun _ => False) V w')) := fun V hV => (by have := is_is hV; rw [e0] at this; exact this.mono fun e w1 ⟨q1, m, q2⟩ => ⟨q1, by rw [q2]; exact ⟨hV.dr m, (Kept.refl _ _).drewN m⟩⟩)
  have HFI : Hid (∀ V, Pg V p (lay kd cs) → Calls Try.prog 26 #[.pointer (some ⟨p, 0, none⟩), .string key] V fun e w' => FindE cs key.data.toList V e w') := fun V hV => find_is hV hok hr key
  have HOKC : Hid (okC cs ∧ cs.length ≤ 200) := ⟨hok, by have := hok.2; omega⟩
  have HP0 : Hid (Pg w p (lay kd cs) ∧ Kept (fun _ => False) w w) := ⟨h, Kept.refl _ _⟩
  clear h hok hr hkd e0
  go_enter Try.func25, Try.ntmps25
  go_wp2_with fail
  refine Calls.mono (H37.out _ HP0.out.1) ?_; rintro e x1 ⟨rfl, HM⟩
  have HP1 : Hid (Pg x1 p (lay kd cs) ∧ Kept (fun _ => False) w x1) := ⟨HM.out.1, HP0.out.2.trans HM.out.2 (fun _ z => z.elim)⟩
  clear HM HP0
  clear H37
  go_wp2_with fail
  refine Calls.mono (HFI.out _ HP1.out.1) ?_; intro e x2 hfe
  obtain ⟨k, b, rfl, hfo, hk3⟩ := hfe
  have HP2 : Hid (Pg x2 p (lay kd cs) ∧ Kept (fun _ => False) w x2) := ⟨HP1.out.1.step hk3, HP1.out.2.trans hk3 (fun _ z => z.elim)⟩
  have HFO : Hid (FindO cs key.data.toList k b) := hfo
  have HCUT : Hid (∀ V, Pg V p (lay kd cs) → Calls Try.prog 45 #[.pointer (some ⟨p, 0, none⟩), .int .i64 (k : Int)] V fun e w' => e = .returned (.tuple #[]) ∧ Pg w' p (lay kd (cs.take k)) ∧ Kept (fun i => i = p) V w') := fun V hV => by
    have := cutL (w := V) (p := p) (kd := kd) (cs.take k) (cs.drop k) (by rw [List.take_append_drop]; exact hV) (by rw [List.take_append_drop]; exact HOKC.out.1)
    rw [List.length_take, Nat.min_eq_left hfo.1] at this
    exact this
  clear hfo hk3 HP1 HFI
  cases b with
  | false =>
    go_wp2_with fail
    go_ret
    exact ⟨k, false, HFO.out, .inl ⟨rfl, rfl, HP2.out⟩⟩
  | true =>
    have hkl : k < cs.length := (HFO.out.2.2.2.1 rfl).1
    obtain ⟨k1, hk1⟩ : ∃ k1, k + 1 = k1 := ⟨_, rfl⟩
    have s5 : wrap64 ((k : Int) + 1) = (k1 : Int) := add64b k 1 k1 hk1 (by have := HOKC.out.2; omega)
    have HK1 : Hid (k + 1 = k1 ∧ k1 ≤ cs.length) := ⟨hk1, by rw [← hk1]; exact hkl⟩
    have HL : Hid ((Instr.loadAt 58 (.pointer (some ⟨p, 0, none⟩))).run Try.prog x2 = .ok (.agg (bv (lay kd cs)).toArray) x2) := load58 HP2.out.1
    have HA : Hid ((Instr.alloc 58 true (.tuple #[])).run Try.prog x2 = .ok (.pointer (some ⟨x2.heap.size, 0, none⟩)) (x2.alloc (.cells (bv (zs 256)).toArray 58))) := alloc58 x2
    have HS : Hid ((Instr.storeAt 58 (.pointer (some ⟨x2.heap.size, 0, none⟩)) (.agg (bv (lay kd cs)).toArray)).run Try.prog (x2.alloc (.cells (bv (zs 256)).toArray 58)) = .ok () (x2.alloc (.cells (bv (lay kd cs)).toArray 58))) := store58 x2 _ HP2.out.1.len _ (by simp [bv_len])
    have hk8 : Kept (fun _ => False) x2 (x2.alloc (.cells (bv (lay kd cs)).toArray 58)) := (Kept.refl _ _).alloc _
    have hq8 := pg_new x2 (lay kd cs) HP2.out.1.len
    obtain ⟨W8, hW8⟩ : ∃ W, x2.alloc (.cells (bv (lay kd cs)).toArray 58) = W := ⟨_, rfl⟩
    obtain ⟨q, hq⟩ : ∃ q, x2.heap.size = q := ⟨_, rfl⟩
    rw [hW8] at hk8 hq8 HS
    rw [hq] at hq8 HS HA
    have HP8 : Hid (Pg W8 p (lay kd cs) ∧ Pg W8 q (lay kd cs) ∧ Kept (fun i => i = p) w W8 ∧ p ≠ q) := ⟨HP2.out.1.step hk8, hq8, (HP2.out.2.trans hk8 (fun _ z => z.elim)).mono (fun _ z => z.elim), by have := HP2.out.1.lt; omega⟩
    have HTAKE : Hid (∀ V, Pg V p (lay kd (cs.take k)) → Pg V q (lay kd cs) → Calls Try.prog 44 #[.pointer (some ⟨p, 0, none⟩), .pointer (some ⟨q, 0, none⟩), .int .i64 (k1 : Int)] V fun e w' => e = .returned (.tuple #[]) ∧ Pg w' p (lay kd (cs.take k ++ cs.drop k1)) ∧ Kept (fun i => i = p) V w') := fun V hV hV2 => by
      have := takeL (w := V) (p := p) (q := q) (kd := kd) (kd' := kd) (cs.take k) (cs.take k1) (cs.drop k1) hV (by rw [List.take_append_drop]; exact hV2) HP8.out.2.2.2 (by rw [← HK1.out.1]; exact drop_ok cs k HOKC.out.1) (by rw [List.take_append_drop]; exact HOKC.out.1)
      rw [List.length_take, Nat.min_eq_left HK1.out.2] at this
      exact this
    clear HP2 hk8 hq8 hW8 hq hkl hk1
    generalize (bv (lay kd cs)).toArray = CC at *
    generalize (bv (zs 256)).toArray = ZZ at *
    go_wp2_with (first | ((with_reducible apply st_load); (case ho => rfl); (case hgd => rfl); (case hr => exact HL.out)) | ((with_reducible apply st_alloc); (case ho => rfl); (case hgd => rfl); (case hr => exact HA.out)) | ((with_reducible apply st_store); (case ho => rfl); (case hgd => rfl); (case hr => exact HS.out)))
    refine Calls.mono (HCUT.out _ HP8.out.1) ?_; rintro e x9 ⟨rfl, g1, g2⟩
    have HP9 : Hid (Pg x9 p (lay kd (cs.take k)) ∧ Pg x9 q (lay kd cs) ∧ Kept (fun i => i = p) w x9) := ⟨g1, HP8.out.2.1.kept g2 (fun e => HP8.out.2.2.2 e.symm), HP8.out.2.2.1.trans g2 (fun _ z => .inl z)⟩
    clear g1 g2 HP8 HL HA HS
    go_wp2_with fail
    refine Calls.mono (HTAKE.out _ HP9.out.1 HP9.out.2.1) ?_; rintro e x11 ⟨rfl, g1, g2⟩
    have HP11 : Hid (Pg x11 p (lay kd (cs.take k ++ cs.drop k1)) ∧ Kept (fun i => i = p) w x11) := ⟨g1, HP9.out.2.2.trans g2 (fun _ z => .inl z)⟩
    clear g1 g2 HP9
    go_wp2_with fail
    go_ret
    obtain rfl := HK1.out.1
    exact ⟨k, true, HFO.out, .inr ⟨rfl, rfl, HP11.out.1, drop_ok cs k HOKC.out.1, HP11.out.2⟩⟩
end Go.Proofs.Ytehaancdadmdkaa
