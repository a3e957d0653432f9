/- Put. -/
import Derived.Test.YtkhpmmmildcceaaGreatQMn
namespace Go.Proofs.YtkhpmmmildcceaaGreat
open Go.ChangeShapes Go.WideShapes Go.ChangeAt Go.RowKit
set_option linter.unusedVariables false
set_option maxRecDepth 100000
set_option maxRecDepth 100000

instance (key val : ByteArray) : Decidable (mayC key val) := by unfold mayC; infer_instance
theorem add64b (a b c : Nat) (hc : a + b = c) (ha : c ≤ 9223372036854775806) : wrap64 ((a : Int) + (b : Int)) = (c : Int) := by unfold wrap64; omega
theorem add64t (a c : Nat) (hc : a + 2 = c) (ha : c ≤ 1000) : wrap64 (2 + (a : Int)) = (c : Int) := by unfold wrap64; omega
theorem sub64c (a b c : Nat) (h : c + b = a) (ha : a ≤ 1000) : wrap64 ((a : Int) - (b : Int)) = (c : Int) := by unfold wrap64; omega
theorem put_over {t rm sz : Nat} (h : t + rm = 258 + sz) (k : (rm : Int) < 2 + (sz : Int)) : 256 < t := by omega
theorem put_under {t rm sz : Nat} (h : t + rm = 258 + sz) (k : ¬ (rm : Int) < 2 + (sz : Int)) : t ≤ 256 := by omega
theorem put_numsT {n T r0 ta cc tb ek bk rm e2 c2 k k1 : Nat} (h0 : 248 - 2 * n - T = r0) (h1 : 8 + 2 * n + T ≤ 256) (ht0 : T = ta + (cc + tb)) (hek : 256 - ta = ek) (hbk : 256 - ta - cc = bk) (hrm : r0 + 2 + cc = rm) (he2 : ek + 2 = e2) (hc2 : cc + 2 = c2) (hk : k < n) (hk1 : k + 1 = k1) : e2 ≤ 1000 ∧ c2 + bk = e2 ∧ r0 + c2 = rm ∧ rm ≤ 1000 ∧ k1 ≤ 1000 ∧ 6 + 2 * k < 256 ∧ 8 + 2 * k < 256 := by omega
theorem put_numsR {n T r0 L T' cc sz rm t k k1 z : Nat} (h0 : 248 - 2 * n - T = r0) (h1 : 8 + 2 * n + T ≤ 256) (hp1 : L + (k1 - k) = n + 1) (hp2 : T' + z = T + sz) (hz : z = cc) (hk1 : k + 1 = k1) (hrm : r0 + 2 + cc = rm) (ht : t = 8 + 2 * L + T') : t + rm = 258 + sz := by omega
theorem put_numsF {n T r0 L T' sz rm t k z : Nat} (h0 : 248 - 2 * n - T = r0) (h1 : 8 + 2 * n + T ≤ 256) (hp1 : L + (k - k) = n + 1) (hp2 : T' + z = T + sz) (hz : z = 0) (hrm : r0 = rm) (ht : t = 8 + 2 * L + T') : t + rm = 258 + sz := by omega
theorem put_small {n T r0 rm : Nat} (h0 : 248 - 2 * n - T = r0) (hrm : r0 = rm) : (rm : Int) ≤ 1000 := by omega
theorem putC_nums (cs : List Cel) (k r : Nat) (c : Cel) (hk : k ≤ cs.length) (hr : r ≤ cs.length) (hkr : k ≤ r) : (putC cs k r c).length + (r - k) = cs.length + 1 ∧ tot (putC cs k r c) + tot ((cs.take r).drop k) = tot cs + csz c := by
  unfold putC
  have e : tot cs = tot (cs.take r) + tot (cs.drop r) := by rw [← tot_append, List.take_append_drop]
  have e2 : tot (cs.take r) = tot (cs.take k) + tot ((cs.take r).drop k) := by
    have := tot_append ((cs.take r).take k) ((cs.take r).drop k)
    rw [List.take_append_drop, List.take_take, Nat.min_eq_left hkr] at this
    exact this
  have e3 : tot ([c] ++ cs.drop r) = csz c + tot (cs.drop r) := rfl
  rw [List.length_append, List.length_append, List.length_take, List.length_drop, tot_append, e3]
  constructor
  · show min k cs.length + (1 + (cs.length - r)) + (r - k) = _
    omega
  · omega
theorem putC_ok (cs : List Cel) (k r : Nat) (key val : ByteArray) (hok : okC cs) (hm : mayC key val) (hf : 8 + 2 * (putC cs k r (key.data.toList, val.data.toList)).length + tot (putC cs k r (key.data.toList, val.data.toList)) ≤ 256) : okC (putC cs k r (key.data.toList, val.data.toList)) := by
  refine ⟨fun c hc => ?_, hf⟩
  unfold putC at hc
  rcases List.mem_append.1 hc with hc | hc
  · exact hok.1 c (List.mem_of_mem_take hc)
  · rcases List.mem_cons.1 hc with rfl | hc
    · have lk : key.data.toList.length = key.size := by simp
      have lv : val.data.toList.length = val.size := by simp
      show 1 ≤ key.data.toList.length ∧ key.data.toList.length ≤ 80 ∧ key.data.toList.length + val.data.toList.length ≤ 100
      rw [lk, lv]
      exact hm
    · exact hok.1 c (List.mem_of_mem_drop hc)
set_option maxHeartbeats 4000000 in
theorem pput_is {w : World} {p : Nat} {kd : UInt8} {cs : List Cel} (h : Pg w p (lay kd cs)) (hok : okC cs) (hr : ris cs) (hkd : kd.toNat ≠ 0) (key val : ByteArray) (hks : key.size ≤ 4611686018427387903) (hvs : val.size ≤ 4611686018427387903) : Calls Tryz.prog 80 #[.pointer (some ⟨p, 0, none⟩), .string key, .string val] w fun e w' => PutE kd cs key val p w e w' := by
  have hn2 := hok.2
  obtain ⟨n, hn⟩ : ∃ n, cs.length = n := ⟨_, rfl⟩
  obtain ⟨ks, hks0⟩ : ∃ ks, key.size = ks := ⟨_, rfl⟩
  obtain ⟨vs, hvs0⟩ : ∃ vs, val.size = vs := ⟨_, rfl⟩
  obtain ⟨sz, hsz⟩ : ∃ sz, ks + vs = sz := ⟨_, rfl⟩
  have e0 : (byteAt (lay kd cs) 0 != 0) = true := by simp [lay_kind, hkd]
  have H37 : Hid (∀ V, Pg V p (lay kd cs) → Calls Tryz.prog 111 #[.pointer (some ⟨p, 0, none⟩)] V fun e w' => e = .returned (.bool true) ∧ Hid (Pg w' p (lay kd cs) ∧ Kept (fun _ => False) V w')) := fun V hV => (by have := is_is hV; rw [e0] at this; exact this.mono fun e w1 ⟨q1, m, q2⟩ => ⟨q1, by rw [q2]; exact ⟨hV.dr m, (Kept.refl _ _).drewN m⟩⟩)
  have HMC : Hid (∀ V, Pg V p (lay kd cs) → Calls Tryz.prog 112 #[.int .i64 (ks : Int), .int .i64 (sz : Int)] V fun e w' => e = .returned (.bool (decide (mayC key val))) ∧ Hid (Pg w' p (lay kd cs) ∧ Kept (fun _ => False) V w')) := fun V hV => by
    have := mayCell_is ks sz (by omega) (by omega) V
    have ed : decide (1 ≤ ks ∧ ks ≤ 80 ∧ ks ≤ sz ∧ sz ≤ 100) = decide (mayC key val) := by
      apply decide_eq_decide.2
      unfold mayC
      rw [hks0, hvs0]
      omega
    rw [ed] at this
    exact this.mono fun e w1 ⟨q1, m, q2⟩ => ⟨q1, by rw [q2]; exact ⟨hV.dr m, (Kept.refl _ _).drewN m⟩⟩
  have HFI : Hid (∀ V, Pg V p (lay kd cs) → Calls Tryz.prog 113 #[.pointer (some ⟨p, 0, none⟩), .string key] V fun e w' => FindE cs key.data.toList V e w') := fun V hV => find_is hV hok hr key
  have hcnt := lay_count kd cs hok
  obtain ⟨r0, hr0⟩ : ∃ r0, 248 - 2 * n - tot cs = r0 := ⟨_, rfl⟩
  have HRO : Hid (∀ V, Pg V p (lay kd cs) → Calls Tryz.prog 114 #[.pointer (some ⟨p, 0, none⟩)] V fun e w' => e = .returned (.int .i64 (r0 : Int)) ∧ Hid (Pg w' p (lay kd cs) ∧ Kept (fun _ => False) V w')) := fun V hV => by
    have := room_is hV (by rw [hcnt]; omega)
    have er : (endB (lay kd cs) (byteAt (lay kd cs) 1) : Int) - ((8 + 2 * byteAt (lay kd cs) 1 : Nat) : Int) = (r0 : Int) := by rw [hcnt, endAll kd cs hok]; omega
    rw [er] at this
    exact this.mono fun e w1 ⟨q1, m, q2⟩ => ⟨q1, by rw [q2]; exact ⟨hV.dr m, (Kept.refl _ _).drewN m⟩⟩
  have HR0 : Hid (248 - 2 * n - tot cs = r0 ∧ 8 + 2 * n + tot cs ≤ 256 ∧ cs.length = n ∧ ks + vs = sz ∧ csz (key.data.toList, val.data.toList) = sz) := ⟨hr0, by omega, hn, hsz, by unfold csz; rw [show key.data.toList.length = ks by rw [← hks0]; simp, show val.data.toList.length = vs by rw [← hvs0]; simp]; exact hsz⟩
  have HOKC : Hid (okC cs) := hok
  have hszb : sz ≤ 9223372036854775806 := by omega
  have s1 : wrap64 ((ks : Int) + (vs : Int)) = (sz : Int) := add64b ks vs sz hsz hszb
  have HP0 : Hid (Pg w p (lay kd cs) ∧ Kept (fun _ => False) w w) := ⟨h, Kept.refl _ _⟩
  clear h hok hr hkd hn2 hn hsz e0 hcnt hr0 hks hvs hszb
  by_cases hmay : mayC key val
  · rw [decide_eq_true hmay] at HMC
    have HMAY : Hid (mayC key val) := hmay
    have hs100 : (sz : Int) ≤ 100 := by have := HR0.out; unfold mayC at hmay; rw [hks0, hvs0] at hmay; omega
    clear hmay
    go_enter Tryz.func80, Tryz.ntmps80
    go_wp2_with fail
    refine Calls.mono (H37.out _ HP0.out.1) ?_; rintro e x1 ⟨rfl, HM⟩
    have HP1 : Hid (Pg x1 p (lay kd cs) ∧ Kept (fun _ => False) w x1) := ⟨HM.out.1, HP0.out.2.trans HM.out.2 (fun _ z => z.elim)⟩
    clear HM HP0
    go_wp2_with fail
    refine Calls.mono (HMC.out _ HP1.out.1) ?_; rintro e x2 ⟨rfl, HM⟩
    have HP2 : Hid (Pg x2 p (lay kd cs) ∧ Kept (fun _ => False) w x2) := ⟨HM.out.1, HP1.out.2.trans HM.out.2 (fun _ z => z.elim)⟩
    clear HM HP1
    clear H37 HMC
    go_wp2_with fail
    refine Calls.mono (HFI.out _ HP2.out.1) ?_; intro e x3 hfe
    obtain ⟨k, b, rfl, hfo, hk3⟩ := hfe
    have HP3 : Hid (Pg x3 p (lay kd cs) ∧ Kept (fun _ => False) w x3) := ⟨HP2.out.1.step hk3, HP2.out.2.trans hk3 (fun _ z => z.elim)⟩
    have HFO : Hid (FindO cs key.data.toList k b) := hfo
    have HCUT : Hid (∀ V, Pg V p (lay kd cs) → Calls Tryz.prog 117 #[.pointer (some ⟨p, 0, none⟩), .int .i64 (k : Int)] V fun e w' => e = .returned (.tuple #[]) ∧ Pg w' p (lay kd (cs.take k)) ∧ Kept (fun i => i = p) V w') := fun V hV => by
      have := cutL (w := V) (p := p) (kd := kd) (cs.take k) (cs.drop k) (by rw [List.take_append_drop]; exact hV) (by rw [List.take_append_drop]; exact HOKC.out)
      rw [List.length_take, Nat.min_eq_left hfo.1] at this
      exact this
    clear hfo hk3 HP2 HFI
    cases b with
    | false =>
      go_wp2_with fail
      refine Calls.mono (HRO.out _ HP3.out.1) ?_; rintro e x4 ⟨rfl, HM⟩
      have HP4 : Hid (Pg x4 p (lay kd cs) ∧ Kept (fun _ => False) w x4) := ⟨HM.out.1, HP3.out.2.trans HM.out.2 (fun _ z => z.elim)⟩
      clear HM HP3
      have HRL : Hid (k ≤ cs.length) := HFO.out.1
      obtain ⟨rm, hrm⟩ : ∃ rm, r0 = rm := ⟨_, rfl⟩
      rw [hrm]
      have HRM : Hid (∀ t : Nat, t = 8 + 2 * (putC cs k k (key.data.toList, val.data.toList)).length + tot (putC cs k k (key.data.toList, val.data.toList)) → t + rm = 258 + sz) := fun t ht => by
        have hp := putC_nums cs k k (key.data.toList, val.data.toList) HFO.out.1 HFO.out.1 (Nat.le_refl _)
        rw [HR0.out.2.2.1, HR0.out.2.2.2.2] at hp
        have ez : tot ((cs.take k).drop k) = 0 := by rw [List.drop_eq_nil_of_le (by rw [List.length_take]; exact Nat.min_le_left _ _)]; rfl
        exact put_numsF HR0.out.1 HR0.out.2.1 hp.1 hp.2 ez hrm ht
      have hrmb : (rm : Int) ≤ 1000 := put_small HR0.out.1 hrm
      clear HRO hrm
      by_cases hfull : (rm : Int) < 2 + (sz : Int)
      · have HF : Hid (256 < 8 + 2 * (putC cs k k (key.data.toList, val.data.toList)).length + tot (putC cs k k (key.data.toList, val.data.toList))) := put_over (HRM.out _ rfl) hfull
        go_wp2_with fail
        go_ret
        exact .inr ⟨HMAY.out, k, false, HFO.out, .inl ⟨HF.out, rfl, HP4.out⟩⟩
      · have HF : Hid (8 + 2 * (putC cs k k (key.data.toList, val.data.toList)).length + tot (putC cs k k (key.data.toList, val.data.toList)) ≤ 256) := put_under (HRM.out _ rfl) hfull
        have HL : Hid ((Instr.loadAt 158 (.pointer (some ⟨p, 0, none⟩))).run Tryz.prog x4 = .ok (.agg (bv (lay kd cs)).toArray) x4) := load58 HP4.out.1
        have HA : Hid ((Instr.alloc 158 true (.tuple #[])).run Tryz.prog x4 = .ok (.pointer (some ⟨x4.heap.size, 0, none⟩)) (x4.alloc (.cells (bv (zs 256)).toArray 158))) := alloc58 x4
        have HS : Hid ((Instr.storeAt 158 (.pointer (some ⟨x4.heap.size, 0, none⟩)) (.agg (bv (lay kd cs)).toArray)).run Tryz.prog (x4.alloc (.cells (bv (zs 256)).toArray 158)) = .ok () (x4.alloc (.cells (bv (lay kd cs)).toArray 158))) := store58 x4 _ HP4.out.1.len _ (by simp [bv_len])
        have hk8 : Kept (fun _ => False) x4 (x4.alloc (.cells (bv (lay kd cs)).toArray 158)) := (Kept.refl _ _).alloc _
        have hq8 := pg_new x4 (lay kd cs) HP4.out.1.len
        obtain ⟨W8, hW8⟩ : ∃ W, x4.alloc (.cells (bv (lay kd cs)).toArray 158) = W := ⟨_, rfl⟩
        obtain ⟨q, hq⟩ : ∃ q, x4.heap.size = q := ⟨_, rfl⟩
        rw [hW8] at hk8 hq8 HS
        rw [hq] at hq8 HS HA
        have HP8 : Hid (Pg W8 p (lay kd cs) ∧ Pg W8 q (lay kd cs) ∧ Kept (fun i => i = p) w W8 ∧ p ≠ q ∧ w.heap.size ≤ q) := ⟨HP4.out.1.step hk8, hq8, (HP4.out.2.trans hk8 (fun _ z => z.elim)).mono (fun _ z => z.elim), by have := HP4.out.1.lt; omega, by have := HP4.out.2.size; omega⟩
        have HOK := putC_ok cs k k key val HOKC.out HMAY.out HF.out
        have HADD : Hid _ := fun V hV => addL (w := V) (p := p) (kd := kd) (cs.take k) key val hV (okC_left (b := cs.drop k) (by rw [List.append_assoc]; exact HOK))
        have HTAKE : Hid (∀ V, Pg V p (lay kd (cs.take k ++ [(key.data.toList, val.data.toList)])) → Pg V q (lay kd cs) → Calls Tryz.prog 119 #[.pointer (some ⟨p, 0, none⟩), .pointer (some ⟨q, 0, none⟩), .int .i64 (k : Int)] V fun e w' => e = .returned (.tuple #[]) ∧ Pg w' p (lay kd (putC cs k k (key.data.toList, val.data.toList))) ∧ Kept (fun i => i = p) V w') := fun V hV hV2 => by
          have := takeL (w := V) (p := p) (q := q) (kd := kd) (kd' := kd) (cs.take k ++ [(key.data.toList, val.data.toList)]) (cs.take k) (cs.drop k) hV (by rw [List.take_append_drop]; exact hV2) HP8.out.2.2.2.1 (by rw [List.append_assoc]; exact HOK) (by rw [List.take_append_drop]; exact HOKC.out)
          rw [List.length_take, Nat.min_eq_left HRL.out, List.append_assoc] at this
          exact this
        clear HP4 hk8 hq8 hW8 hq HOK
        generalize (bv (lay kd cs)).toArray = CC at *
        generalize (bv (zs 256)).toArray = ZZ at *
        go_wp2_with (first | ((with_reducible apply st_load); (case ho => rfl); (case hgd => rfl); (case hr => exact HL.out)) | ((with_reducible apply st_alloc); (case ho => rfl); (case hgd => rfl); (case hr => exact HA.out)) | ((with_reducible apply st_store); (case ho => rfl); (case hgd => rfl); (case hr => exact HS.out)))
        refine Calls.mono (HCUT.out _ HP8.out.1) ?_; rintro e x9 ⟨rfl, g1, g2⟩
        have HP9 : Hid (Pg x9 p (lay kd (cs.take k)) ∧ Pg x9 q (lay kd cs) ∧ Kept (fun i => i = p) w x9) := ⟨g1, HP8.out.2.1.kept g2 (fun e => HP8.out.2.2.2.1 e.symm), HP8.out.2.2.1.trans g2 (fun _ z => .inl z)⟩
        have HNE : Hid (p ≠ q) := HP8.out.2.2.2.1
        clear g1 g2 HP8 HL HA HS
        go_wp2_with fail
        refine Calls.mono (HADD.out _ HP9.out.1) ?_; rintro e x10 ⟨rfl, g1, g2⟩
        have HP10 : Hid (Pg x10 p (lay kd (cs.take k ++ [(key.data.toList, val.data.toList)])) ∧ Pg x10 q (lay kd cs) ∧ Kept (fun i => i = p) w x10) := ⟨g1, HP9.out.2.1.kept g2 (fun e => HNE.out e.symm), HP9.out.2.2.trans g2 (fun _ z => .inl z)⟩
        clear g1 g2 HP9
        go_wp2_with fail
        refine Calls.mono (HTAKE.out _ HP10.out.1 HP10.out.2.1) ?_; rintro e x11 ⟨rfl, g1, g2⟩
        have HP11 : Hid (Pg x11 p (lay kd (putC cs k k (key.data.toList, val.data.toList))) ∧ Kept (fun i => i = p) w x11) := ⟨g1, HP10.out.2.2.trans g2 (fun _ z => .inl z)⟩
        clear g1 g2 HP10
        go_wp2_with fail
        go_ret
        exact .inr ⟨HMAY.out, k, false, HFO.out, .inr ⟨HF.out, rfl, HP11.out⟩⟩
    | true =>
      have hkl : k < cs.length := (HFO.out.2.2.2.1 rfl).1
      obtain ⟨a0, b0, ecs, ha0⟩ := cell_split hkl
      obtain ⟨cc, hcc⟩ : ∃ cc, csz cs[k] = cc := ⟨_, rfl⟩
      have hpl := place_at kd a0 cs[k] b0 (by rw [← ecs]; exact HOKC.out)
      have hel := lay_end kd a0 (cs[k] :: b0) (by rw [← ecs]; exact HOKC.out)
      rw [← ecs, ha0] at hpl hel
      obtain ⟨ek, hek⟩ : ∃ ek, 256 - tot a0 = ek := ⟨_, rfl⟩
      obtain ⟨bk, hbk⟩ : ∃ bk, 256 - tot a0 - csz cs[k] = bk := ⟨_, rfl⟩
      rw [hek] at hel
      rw [hbk] at hpl
      rw [hcc] at hbk
      have ht0 : tot cs = tot a0 + (cc + tot b0) := by
        have := tot_append a0 (cs[k] :: b0)
        rw [← ecs] at this
        rw [this, ← hcc]
        rfl
      have hnk : k < n := by rw [← HR0.out.2.2.1]; exact hkl
      obtain ⟨rm, hrm⟩ : ∃ rm, r0 + 2 + cc = rm := ⟨_, rfl⟩
      obtain ⟨k1, hk1⟩ : ∃ k1, k + 1 = k1 := ⟨_, rfl⟩
      obtain ⟨e2, he2⟩ : ∃ e2, ek + 2 = e2 := ⟨_, rfl⟩
      obtain ⟨c2, hc2⟩ : ∃ c2, cc + 2 = c2 := ⟨_, rfl⟩
      have NN := put_numsT HR0.out.1 HR0.out.2.1 ht0 hek hbk hrm he2 hc2 hnk hk1
      have HEK : Hid (∀ V, Pg V p (lay kd cs) → Calls Tryz.prog 115 #[.pointer (some ⟨p, 0, none⟩), .int .i64 (k : Int)] V fun e w' => e = .returned (.int .i64 (ek : Int)) ∧ Hid (Pg w' p (lay kd cs) ∧ Kept (fun _ => False) V w')) := fun V hV => by
        have := end_is hV k NN.2.2.2.2.2.1
        rw [hel] at this
        exact this.mono fun e w1 ⟨q1, m, q2⟩ => ⟨q1, by rw [q2]; exact ⟨hV.dr m, (Kept.refl _ _).drewN m⟩⟩
      have HBK : Hid (∀ V, Pg V p (lay kd cs) → Calls Tryz.prog 116 #[.pointer (some ⟨p, 0, none⟩), .int .i64 (k : Int)] V fun e w' => e = .returned (.int .i64 (bk : Int)) ∧ Hid (Pg w' p (lay kd cs) ∧ Kept (fun _ => False) V w')) := fun V hV => by
        have := begin_is hV k NN.2.2.2.2.2.2
        rw [hpl.1] at this
        exact this.mono fun e w1 ⟨q1, m, q2⟩ => ⟨q1, by rw [q2]; exact ⟨hV.dr m, (Kept.refl _ _).drewN m⟩⟩
      have HK1 : Hid (k + 1 = k1) := hk1
      have HRL : Hid (k1 ≤ cs.length) := by rw [← hk1]; exact hkl
      have HRM : Hid (∀ t : Nat, t = 8 + 2 * (putC cs k k1 (key.data.toList, val.data.toList)).length + tot (putC cs k k1 (key.data.toList, val.data.toList)) → t + rm = 258 + sz) := fun t ht => by
        have hp := putC_nums cs k k1 (key.data.toList, val.data.toList) HFO.out.1 HRL.out (by rw [← hk1]; exact Nat.le_succ k)
        rw [HR0.out.2.2.1, HR0.out.2.2.2.2] at hp
        have ez : tot ((cs.take k1).drop k) = cc := by
          have e1 : (cs.take k1).drop k = [cs[k]] := by
            rw [← hk1, List.take_succ_eq_append_getElem hkl, List.drop_left' (by rw [List.length_take]; exact Nat.min_eq_left (Nat.le_of_lt hkl))]
          rw [e1, ← hcc]
          rfl
        exact put_numsR HR0.out.1 HR0.out.2.1 hp.1 hp.2 ez hk1 hrm ht
      have s2 : wrap64 (2 + (ek : Int)) = (e2 : Int) := add64t ek e2 he2 NN.1
      have s3 : wrap64 ((e2 : Int) - (bk : Int)) = (c2 : Int) := sub64c e2 bk c2 NN.2.1 NN.1
      have s4 : wrap64 ((r0 : Int) + (c2 : Int)) = (rm : Int) := add64b r0 c2 rm NN.2.2.1 (Nat.le_trans NN.2.2.2.1 (by decide))
      have s5 : wrap64 ((k : Int) + 1) = (k1 : Int) := add64b k 1 k1 hk1 (Nat.le_trans NN.2.2.2.2.1 (by decide))
      have hrmb : (rm : Int) ≤ 1000 := Int.ofNat_le.2 NN.2.2.2.1
      clear hkl ecs ha0 hcc hpl hel hek hbk ht0 hnk hrm hk1 he2 hc2 NN
      go_wp2_with fail
      refine Calls.mono (HRO.out _ HP3.out.1) ?_; rintro e x4 ⟨rfl, HM⟩
      have HP4 : Hid (Pg x4 p (lay kd cs) ∧ Kept (fun _ => False) w x4) := ⟨HM.out.1, HP3.out.2.trans HM.out.2 (fun _ z => z.elim)⟩
      clear HM HP3
      go_wp2_with fail
      refine Calls.mono (HEK.out _ HP4.out.1) ?_; rintro e x5 ⟨rfl, HM⟩
      have HP5 : Hid (Pg x5 p (lay kd cs) ∧ Kept (fun _ => False) w x5) := ⟨HM.out.1, HP4.out.2.trans HM.out.2 (fun _ z => z.elim)⟩
      clear HM HP4
      go_wp2_with fail
      refine Calls.mono (HBK.out _ HP5.out.1) ?_; rintro e x6 ⟨rfl, HM⟩
      have HP6 : Hid (Pg x6 p (lay kd cs) ∧ Kept (fun _ => False) w x6) := ⟨HM.out.1, HP5.out.2.trans HM.out.2 (fun _ z => z.elim)⟩
      clear HM HP5
      clear HRO HEK HBK
      by_cases hfull : (rm : Int) < 2 + (sz : Int)
      · have HF : Hid (256 < 8 + 2 * (putC cs k k1 (key.data.toList, val.data.toList)).length + tot (putC cs k k1 (key.data.toList, val.data.toList))) := put_over (HRM.out _ rfl) hfull
        go_wp2_with fail
        go_ret
        obtain rfl := HK1.out; exact .inr ⟨HMAY.out, k, true, HFO.out, .inl ⟨HF.out, rfl, HP6.out⟩⟩
      · have HF : Hid (8 + 2 * (putC cs k k1 (key.data.toList, val.data.toList)).length + tot (putC cs k k1 (key.data.toList, val.data.toList)) ≤ 256) := put_under (HRM.out _ rfl) hfull
        have HL : Hid ((Instr.loadAt 158 (.pointer (some ⟨p, 0, none⟩))).run Tryz.prog x6 = .ok (.agg (bv (lay kd cs)).toArray) x6) := load58 HP6.out.1
        have HA : Hid ((Instr.alloc 158 true (.tuple #[])).run Tryz.prog x6 = .ok (.pointer (some ⟨x6.heap.size, 0, none⟩)) (x6.alloc (.cells (bv (zs 256)).toArray 158))) := alloc58 x6
        have HS : Hid ((Instr.storeAt 158 (.pointer (some ⟨x6.heap.size, 0, none⟩)) (.agg (bv (lay kd cs)).toArray)).run Tryz.prog (x6.alloc (.cells (bv (zs 256)).toArray 158)) = .ok () (x6.alloc (.cells (bv (lay kd cs)).toArray 158))) := store58 x6 _ HP6.out.1.len _ (by simp [bv_len])
        have hk8 : Kept (fun _ => False) x6 (x6.alloc (.cells (bv (lay kd cs)).toArray 158)) := (Kept.refl _ _).alloc _
        have hq8 := pg_new x6 (lay kd cs) HP6.out.1.len
        obtain ⟨W8, hW8⟩ : ∃ W, x6.alloc (.cells (bv (lay kd cs)).toArray 158) = W := ⟨_, rfl⟩
        obtain ⟨q, hq⟩ : ∃ q, x6.heap.size = q := ⟨_, rfl⟩
        rw [hW8] at hk8 hq8 HS
        rw [hq] at hq8 HS HA
        have HP8 : Hid (Pg W8 p (lay kd cs) ∧ Pg W8 q (lay kd cs) ∧ Kept (fun i => i = p) w W8 ∧ p ≠ q ∧ w.heap.size ≤ q) := ⟨HP6.out.1.step hk8, hq8, (HP6.out.2.trans hk8 (fun _ z => z.elim)).mono (fun _ z => z.elim), by have := HP6.out.1.lt; omega, by have := HP6.out.2.size; omega⟩
        have HOK := putC_ok cs k k1 key val HOKC.out HMAY.out HF.out
        have HADD : Hid _ := fun V hV => addL (w := V) (p := p) (kd := kd) (cs.take k) key val hV (okC_left (b := cs.drop k1) (by rw [List.append_assoc]; exact HOK))
        have HTAKE : Hid (∀ V, Pg V p (lay kd (cs.take k ++ [(key.data.toList, val.data.toList)])) → Pg V q (lay kd cs) → Calls Tryz.prog 119 #[.pointer (some ⟨p, 0, none⟩), .pointer (some ⟨q, 0, none⟩), .int .i64 (k1 : Int)] V fun e w' => e = .returned (.tuple #[]) ∧ Pg w' p (lay kd (putC cs k k1 (key.data.toList, val.data.toList))) ∧ Kept (fun i => i = p) V w') := fun V hV hV2 => by
          have := takeL (w := V) (p := p) (q := q) (kd := kd) (kd' := kd) (cs.take k ++ [(key.data.toList, val.data.toList)]) (cs.take k1) (cs.drop k1) hV (by rw [List.take_append_drop]; exact hV2) HP8.out.2.2.2.1 (by rw [List.append_assoc]; exact HOK) (by rw [List.take_append_drop]; exact HOKC.out)
          rw [List.length_take, Nat.min_eq_left HRL.out, List.append_assoc] at this
          exact this
        clear HP6 hk8 hq8 hW8 hq HOK
        generalize (bv (lay kd cs)).toArray = CC at *
        generalize (bv (zs 256)).toArray = ZZ at *
        go_wp2_with (first | ((with_reducible apply st_load); (case ho => rfl); (case hgd => rfl); (case hr => exact HL.out)) | ((with_reducible apply st_alloc); (case ho => rfl); (case hgd => rfl); (case hr => exact HA.out)) | ((with_reducible apply st_store); (case ho => rfl); (case hgd => rfl); (case hr => exact HS.out)))
        refine Calls.mono (HCUT.out _ HP8.out.1) ?_; rintro e x9 ⟨rfl, g1, g2⟩
        have HP9 : Hid (Pg x9 p (lay kd (cs.take k)) ∧ Pg x9 q (lay kd cs) ∧ Kept (fun i => i = p) w x9) := ⟨g1, HP8.out.2.1.kept g2 (fun e => HP8.out.2.2.2.1 e.symm), HP8.out.2.2.1.trans g2 (fun _ z => .inl z)⟩
        have HNE : Hid (p ≠ q) := HP8.out.2.2.2.1
        clear g1 g2 HP8 HL HA HS
        go_wp2_with fail
        refine Calls.mono (HADD.out _ HP9.out.1) ?_; rintro e x10 ⟨rfl, g1, g2⟩
        have HP10 : Hid (Pg x10 p (lay kd (cs.take k ++ [(key.data.toList, val.data.toList)])) ∧ Pg x10 q (lay kd cs) ∧ Kept (fun i => i = p) w x10) := ⟨g1, HP9.out.2.1.kept g2 (fun e => HNE.out e.symm), HP9.out.2.2.trans g2 (fun _ z => .inl z)⟩
        clear g1 g2 HP9
        go_wp2_with fail
        refine Calls.mono (HTAKE.out _ HP10.out.1 HP10.out.2.1) ?_; rintro e x11 ⟨rfl, g1, g2⟩
        have HP11 : Hid (Pg x11 p (lay kd (putC cs k k1 (key.data.toList, val.data.toList))) ∧ Kept (fun i => i = p) w x11) := ⟨g1, HP10.out.2.2.trans g2 (fun _ z => .inl z)⟩
        clear g1 g2 HP10
        go_wp2_with fail
        go_ret
        obtain rfl := HK1.out; exact .inr ⟨HMAY.out, k, true, HFO.out, .inr ⟨HF.out, rfl, HP11.out⟩⟩
  · rw [decide_eq_false hmay] at HMC
    have HMAY : Hid (¬ mayC key val) := hmay
    clear hmay
    go_enter Tryz.func80, Tryz.ntmps80
    go_wp2_with fail
    refine Calls.mono (H37.out _ HP0.out.1) ?_; rintro e x1 ⟨rfl, HM⟩
    have HP1 : Hid (Pg x1 p (lay kd cs) ∧ Kept (fun _ => False) w x1) := ⟨HM.out.1, HP0.out.2.trans HM.out.2 (fun _ z => z.elim)⟩
    clear HM HP0
    go_wp2_with fail
    refine Calls.mono (HMC.out _ HP1.out.1) ?_; rintro e x2 ⟨rfl, HM⟩
    have HP2 : Hid (Pg x2 p (lay kd cs) ∧ Kept (fun _ => False) w x2) := ⟨HM.out.1, HP1.out.2.trans HM.out.2 (fun _ z => z.elim)⟩
    clear HM HP1
    go_wp2_with fail
    go_ret
    exact .inl ⟨HMAY.out, rfl, HP2.out⟩
end Go.Proofs.YtkhpmmmildcceaaGreat
