/- PageTells: its walk. -/
import Derived.Test.YtncpohimjmakpaaMd
import Derived.Test.YtncpohimjmakpaaTl
namespace Go.Proofs.Ytncpohimjmakpaa
open Go.ChangeShapes Go.WideShapes Go.ChangeAt Go.RowKit
set_option linter.unusedVariables false
set_option maxRecDepth 100000

/-- The state at the head of a round: the page, and its bytes, of which some are turned. -/
structure Ts (w : World) (p Bk : Nat) (cs : List Cel) (k : Nat) (n : Int) (j : Nat) (V : World) : Prop where
  pg : Pg V p (lay 7 cs)
  row : Row V Bk (tn (bytesB (lay 7 cs)) k n j)
  len : (bytesB (lay 7 cs)).length = 256
  kp : Kept (fun _ => False) w V
  hB : w.heap.size ≤ Bk
  ne : p ≠ Bk
theorem Ts.step {w : World} {p Bk : Nat} {cs : List Cel} {k : Nat} {n : Int} {j : Nat} {V V' : World} (h : Ts w p Bk cs k n j V) (q : Kept (fun _ => False) V V') : Ts w p Bk cs k n j V' :=
  ⟨h.pg.step q, h.row.step (fun e => by have := tn_len (bytesB (lay 7 cs)) k n j; rw [e, h.len] at this; cases this) q, h.len, h.kp.trans q (fun _ z => z.elim), h.hB, h.ne⟩
theorem Ts.dr {w : World} {p Bk : Nat} {cs : List Cel} {k : Nat} {n : Int} {j : Nat} {V : World} (h : Ts w p Bk cs k n j V) (m : Nat) : Ts w p Bk cs k n j (V.drewN m) := h.step ((Kept.refl _ _).drewN m)
theorem Ts.put {w : World} {p Bk : Nat} {cs : List Cel} {k : Nat} {n : Int} {j : Nat} {V : World} (h : Ts w p Bk cs k n j V) (hk : k + j < 4 ∨ 8 ≤ k + j) (hl : k + j < 256) : Ts w p Bk cs k n (j + 1) (V.setCell ⟨Bk, k + j, none⟩ (.int .u8 (((tn (bytesB (lay 7 cs)) k n j)[k + j]?.getD 0 ^^^ yb n j).toNat : Int))) := by
  have hlt : k + j < (tn (bytesB (lay 7 cs)) k n j).length := by rw [tn_len, h.len]; exact hl
  refine ⟨h.pg.kept (F := fun i => i = Bk) (Kept.setCell (F := fun i => i = Bk) (p := ⟨Bk, k + j, none⟩) (Kept.refl _ V) (.inl rfl) _) h.ne, ?_, h.len, h.kp.setCell (p := ⟨Bk, k + j, none⟩) (.inr h.hB) _, h.hB, h.ne⟩
  have := h.row.put (k + j) hlt ((tn (bytesB (lay 7 cs)) k n j)[k + j]?.getD 0 ^^^ yb n j)
  have e : tn (bytesB (lay 7 cs)) k n (j + 1) = (tn (bytesB (lay 7 cs)) k n j).set (k + j) ((tn (bytesB (lay 7 cs)) k n j)[k + j]?.getD 0 ^^^ yb n j) := by
    show (if k + j < 4 ∨ 8 ≤ k + j then _ else _) = _
    rw [if_pos hk]
  rw [e]
  exact this
theorem Ts.skip {w : World} {p Bk : Nat} {cs : List Cel} {k : Nat} {n : Int} {j : Nat} {V : World} (h : Ts w p Bk cs k n j V) (hk : ¬ (k + j < 4 ∨ 8 ≤ k + j)) : Ts w p Bk cs k n (j + 1) V := by
  have e : tn (bytesB (lay 7 cs)) k n (j + 1) = tn (bytesB (lay 7 cs)) k n j := by
    show (if k + j < 4 ∨ 8 ≤ k + j then _ else _) = _
    rw [if_neg hk]
  exact ⟨h.pg, by rw [e]; exact h.row, h.len, h.kp, h.hB, h.ne⟩
theorem Ts.conv {w : World} {p Bk : Nat} {cs : List Cel} {k : Nat} {n : Int} {V : World} (C : Nat) (h : Ts w p Bk cs k n 4 V) : (convert 46 9 (.slice (some ⟨Bk, 0, none⟩) 256 C)).run Try.prog V = .ok (.string ⟨(tn (bytesB (lay 7 cs)) k n 4).toArray⟩) V :=
  row_text h.row 256 C (by rw [tn_len, h.len])
theorem and_sum (k j : Nat) (h : k + j < 256) : bits .and .i64 ((k : Int) + (j : Int)) 255 = ((k + j : Nat) : Int) := by
  rw [and_byte]; omega
theorem and_yb (n : Int) (j : Nat) : bits .and .i64 (n / 2 ^ (8 * j)) 255 = ((yb n j).toNat : Int) := by
  rw [and_byte, yb_is]
set_option maxHeartbeats 8000000 in
theorem tells_walk {w : World} (a : Option Addr) (N c : Nat) (l : List Cel) (hN : l.length = N) (h : Sl cv 2 w (.slice a N c) l) (at_ n m0 : Int) (r k : Nat) (hr : r < 249) (hk : k = if 1 ≤ r then r + 4 else 0) (h0 : bits .and .i64 at_ 255 = m0) (hm : m0.tmod 249 = (r : Int)) : Calls Try.prog 5 #[.slice a N c, .int .i64 at_, .int .i64 n] w fun e w' => e = .returned (.bool true) ∧ Kept (fun _ => False) w w' := by
  have HAW : Hid (∀ V, Calls Try.prog 11 #[] V fun e w' => e = .returned (.bool true) ∧ Hid (Kept (fun _ => False) V w')) := fun V => awake_is V
  have HFW : Hid (Calls Try.prog 17 #[.slice a N c] w fun e w' => FewE l w e w') := few_is a N c l hN h
  have HMD : Hid (fewC l → Calls Try.prog 18 #[.slice a N c] w fun e w' => MadeE w e w') := fun hf => made_is a N c l hN h hf
  clear hN h
  go_enter Try.func5, Try.ntmps5
  go_wp2_with fail
  refine Calls.mono HFW.out ?_; rintro e x1 ⟨b, rfl, hb, rfl⟩
  clear HFW
  cases b with
  | false =>
    clear HMD hb
    go_wp2_with fail
    refine Calls.mono (HAW.out _) ?_; rintro e x2 ⟨rfl, HK⟩
    go_wp2_with fail
    go_ret
    exact ⟨rfl, HK.out⟩
  | true =>
    have HM2 : Hid (Calls Try.prog 18 #[.slice a N c] x1 fun e w' => MadeE x1 e w') := HMD.out (hb rfl)
    clear HMD hb
    go_wp2_with fail
    refine Calls.mono HM2.out ?_; rintro e x2 ⟨p, a2, N2, c2, cs, rfl, g1, g2, g3, g4, g5⟩
    obtain ⟨w, hw⟩ : ∃ w, x1 = w := ⟨_, rfl⟩
    subst hw
    have hkp : Kept (fun _ => False) x2 (x2.alloc (.cells #[.int .i64 7, .slice a2 N2 c2] 29)) := (Kept.refl _ _).alloc _
    obtain ⟨x3, hx3⟩ : ∃ x, x2.alloc (.cells #[.int .i64 7, .slice a2 N2 c2] 29) = x := ⟨_, rfl⟩
    rw [hx3] at hkp
    have HX3 : Hid (x2.alloc (.cells #[.int .i64 7, .slice a2 N2 c2] 29) = x3) := hx3
    have HP3 : Hid (Pg x3 p (lay 7 cs) ∧ Kept (fun _ => False) x1 x3) := ⟨g1.step hkp, g4.trans hkp (fun _ z => z.elim)⟩
    have HOK : Hid (okC cs ∧ ris cs) := ⟨g2, g3⟩
    obtain ⟨s, hs⟩ : ∃ s, (⟨(bytesB (lay 7 cs)).toArray⟩ : ByteArray) = s := ⟨_, rfl⟩
    have HSB : Hid (s.data.toList = bytesB (lay 7 cs)) := by show _ = _; rw [← hs]
    have hsz : s.size = 256 := by rw [← hs, mk_size]; exact bytes_len 7 cs g2
    have HBY0 : Hid (∀ V, Pg V p (lay 7 cs) → Calls Try.prog 16 #[.pointer (some ⟨p, 0, none⟩)] V fun e w' => e = .returned (.string s) ∧ Hid (Kept (fun _ => False) V w')) := fun V hV => by
      have := bytes_is hV (by rw [lay_kind]; decide)
      rw [hs] at this
      exact this
    clear HM2 g1 g2 g3 g4 g5 hkp hx3 hs
    go_wp2_with fail
    rw [HX3.out]
    clear HX3
    go_wp2_with fail
    refine Calls.mono (HBY0.out _ HP3.out.1) ?_; rintro e x4 ⟨rfl, HK4⟩
    obtain ⟨C, x5, t1, t2, t3⟩ := text_row s x4
    rw [hsz] at t1
    obtain ⟨Bk, hBk⟩ : ∃ B, x4.heap.size = B := ⟨_, rfl⟩
    rw [hBk] at t1 t2
    have HT0 : Hid (Ts x1 p Bk cs k n 0 x5) := ⟨(HP3.out.1.step HK4.out).step t3, by rw [HSB.out] at t2; exact t2, bytes_len 7 cs HOK.out.1, (HP3.out.2.trans HK4.out (fun _ z => z.elim)).trans t3 (fun _ z => z.elim), by rw [← hBk]; have := HP3.out.2.size; have := HK4.out.size; omega, by have := (HP3.out.1.step HK4.out).lt; omega⟩
    have hk2 : k ≤ 252 := by rw [hk]; split <;> omega
    have hk3 : k + 4 ≤ 256 := by omega
    have HKK : Hid (k = if 1 ≤ r then r + 4 else 0) := hk
    clear hk
    obtain ⟨X, hX⟩ : ∃ X, (⟨(tn (bytesB (lay 7 cs)) k n 4).toArray⟩ : ByteArray) = X := ⟨_, rfl⟩
    have HCV : Hid (∀ V, Ts x1 p Bk cs k n 4 V → (convert 46 9 (.slice (some ⟨Bk, 0, none⟩) 256 C)).run Try.prog V = .ok (.string X) V) := fun V hV => by
      have := hV.conv C
      rw [hX] at this
      exact this
    have HBY : Hid (∀ V, Ts x1 p Bk cs k n 4 V → Calls Try.prog 16 #[.pointer (some ⟨p, 0, none⟩)] V fun e w' => e = .returned (.string s) ∧ ((convert 46 9 (.slice (some ⟨Bk, 0, none⟩) 256 C)).run Try.prog w' = .ok (.string X) w') ∧ Hid (Kept (fun _ => False) x1 w')) := fun V hV => (HBY0.out V hV.pg).mono fun e w' ⟨q1, q2⟩ => ⟨q1, HCV.out w' (hV.step q2.out), hV.kp.trans q2.out (fun _ z => z.elim)⟩
    have HRS : Hid ((tn (bytesB (lay 7 cs)) k n 4 = bytesB (lay 7 cs) ∧ X.toList = s.toList ∧ ∀ V, Calls Try.prog 14 #[.string X] V fun e w' => ∃ q, e = .returned (.tuple #[.pointer (some ⟨q, 0, none⟩), .int .i64 0]) ∧ Hid (Kept (fun _ => False) V w')) ∨ ((¬ X.toList = s.toList) ∧ ∀ V, Calls Try.prog 14 #[.string X] V fun e w' => e = .returned (.tuple #[.pointer none, .int .i64 120]) ∧ Hid (Kept (fun _ => False) V w'))) := by
      have hXL : X.data.toList = tn (bytesB (lay 7 cs)) k n 4 := by rw [← hX]
      by_cases hT : tn (bytesB (lay 7 cs)) k n 4 = bytesB (lay 7 cs)
      · refine .inl ⟨hT, by rw [ByteArray.toList_eq, ByteArray.toList_eq, hXL, HSB.out, hT], fun V => ?_⟩
        exact (read_yes X 7 cs (by rw [hXL, hT]) HOK.out.1 HOK.out.2 (by decide) V).mono fun e w' ⟨q, q1, _, q3, _⟩ => ⟨q, q1, q3⟩
      · have hl4 : X.data.toList.length = 256 := by rw [hXL, tn_len]; exact bytes_len 7 cs HOK.out.1
        have hs4 : X.size = 256 := by rw [← hl4]; simp
        refine .inr ⟨by rw [ByteArray.toList_eq, ByteArray.toList_eq, hXL, HSB.out]; exact hT, fun V => ?_⟩
        have htold := told (X := X.data.toList) (L := bytesB (lay 7 cs)) (B := lay 7 cs) rfl (lay_len 7 cs HOK.out.1.2) (lay_mid 7 cs) hl4 k hk2 (fun i hi => by rw [hXL]; exact tn_other _ k n i 4 (Nat.le_refl _) hi) (by rw [hXL]; exact hT)
        by_cases hz : byteAt (wr X.data.toList 4 (zs 4)) 0 = 0
        · exact read_kind X hs4 hz V
        · exact read_sum X hs4 hz htold V
    clear t2 t3 hBk hX HSB HOK HBY0 HP3 HK4 hsz
    go_upto_if 37 with fail
    go_cut [11] (fun s11 wx => s11 = .int .i64 (k : Int) ∧ x5 = wx)
    case first =>
      by_cases hr1 : (1 : Int) ≤ (r : Int)
      · have HEK : Hid ((r : Int) + 4 = (k : Int)) := by have := HKK.out; rw [if_pos (by omega)] at this; show _ = _; omega
        go_wp2_with fail
        go_meet
        exact ⟨congrArg (Value.int .i64) HEK.out, rfl⟩
      · have HEK : Hid ((r : Int) = (k : Int)) := by have := HKK.out; rw [if_neg (by omega)] at this; show _ = _; omega
        go_wp2_with fail
        go_meet
        exact ⟨congrArg (Value.int .i64) HEK.out, rfl⟩
    case rest =>
      obtain ⟨rfl, rfl⟩ := hcut
      go_wp2_with fail
      go_loopw [12] (fun v12 wr => ∃ j : Nat, j ≤ 4 ∧ v12 = .int .i64 j ∧ Hid (Ts x1 p Bk cs k n j wr)) (fun v12 _ => 4 - (intOf v12).toNat)
      case atStart => exact ⟨0, Nat.zero_le _, rfl, HT0.out⟩
      case round =>
        obtain ⟨j, hj, rfl, HT⟩ := hrel
        clear HT0 t1
        by_cases hj4 : j < 4
        · have cj : (j : Int) < 4 := by omega
          have hkj : k + j < 256 := by omega
          have hlt : k + j < (tn (bytesB (lay 7 cs)) k n j).length := by rw [tn_len, HT.out.len]; exact hkj
          have hc := HT.out.row.cells (k + j) hlt
          have hf := HT.out.row.free (k + j) hlt
          rw [get_is hlt] at hc
          obtain ⟨x, hx0⟩ : ∃ x, (tn (bytesB (lay 7 cs)) k n j)[k + j]?.getD 0 = x := ⟨_, rfl⟩
          rw [hx0] at hc
          have hxl := byte_lt x
          have hyl := byte_lt (yb n j)
          have x8 : bits .xor .u8 (x.toNat : Int) ((yb n j).toNat : Int) = ((x ^^^ yb n j).toNat : Int) := by rw [u8_xor_nat _ _ hxl hyl, UInt8.toNat_xor]
          have a1 : bits .and .i64 ((k : Int) + (j : Int)) 255 = ((k + j : Nat) : Int) := and_sum k j hkj
          have a2 := and_yb n j
          have HHx : Hid ((tn (bytesB (lay 7 cs)) k n j)[k + j]?.getD 0 = x) := hx0
          clear hlt HRS HBY HCV HAW
          by_cases k1 : (k : Int) + (j : Int) < 4
          · have hjj : k + j < 4 ∨ 8 ≤ k + j := by omega
            have HT2 : Hid (Ts x1 p Bk cs k n (j + 1) (wr.setCell ⟨Bk, k + j, none⟩ (.int .u8 ((x ^^^ yb n j).toNat : Int)))) := by have := HT.out.put hjj hkj; rw [hx0] at this; exact this
            clear HT hx0
            go_wp2_with fail
            go_region
            go_wp2_with fail
            go_roundw
            case rel => exact ⟨j + 1, by omega, by go_num, HT2.out.dr _⟩
            case measure => simp only [intOf]; omega
            
          · by_cases k2 : 8 ≤ (k : Int) + (j : Int)
            · have hjj : k + j < 4 ∨ 8 ≤ k + j := by omega
              have HT2 : Hid (Ts x1 p Bk cs k n (j + 1) (wr.setCell ⟨Bk, k + j, none⟩ (.int .u8 ((x ^^^ yb n j).toNat : Int)))) := by have := HT.out.put hjj hkj; rw [hx0] at this; exact this
              clear HT hx0
              go_wp2_with fail
              go_region
              go_wp2_with fail
              go_roundw
              case rel => exact ⟨j + 1, by omega, by go_num, HT2.out.dr _⟩
              case measure => simp only [intOf]; omega
              
            · have HT2 : Hid (Ts x1 p Bk cs k n (j + 1) wr) := HT.out.skip (by omega)
              clear HT hc hf
              go_wp2_with fail
              go_roundw
              case rel => exact ⟨j + 1, by omega, by go_num, HT2.out⟩
              case measure => simp only [intOf]; omega
        · obtain rfl : j = 4 := by omega
          have HT5 : Hid (Ts x1 p Bk cs k n 4 wr) := HT.out
          have hcv := HCV.out _ HT5.out
          clear HT hj4 hj
          rcases HRS.out with ⟨_, hE, hR⟩ | ⟨hE, hR⟩
          · have HRD : Hid (∀ V, Calls Try.prog 14 #[.string X] V fun e w' => ∃ q, e = .returned (.tuple #[.pointer (some ⟨q, 0, none⟩), .int .i64 0]) ∧ Hid (Kept (fun _ => False) V w')) := hR
            clear hR HRS
            go_wp2_with fail
            refine Calls.mono (HRD.out _) ?_; rintro e w6 ⟨q, rfl, HK6⟩
            have HT6 : Hid (Ts x1 p Bk cs k n 4 w6) := HT5.out.step HK6.out
            have HCD : Hid ((convert 46 9 (.slice (some ⟨Bk, 0, none⟩) 256 C)).run Try.prog w6.drew = .ok (.string X) w6.drew) := HCV.out _ (HT6.out.step ((Kept.refl _ _).drew))
            have HCP : Hid (Ts x1 p Bk cs k n 4 w6.drew) := HT6.out.step ((Kept.refl _ _).drew)
            clear HRD HT5 HK6
            go_upto_region 18 with fail
            refine wp_region_held_drew (S := (fun (V : World) => (convert 46 9 (.slice (some ⟨Bk, 0, none⟩) 256 C)).run Try.prog V = .ok (.string X) V)) (by kernel_rfl) HCD.out (fun _ => ?_)
            refine wpAnyH_take (i := 0) (oi := { dst := some 80, op := Op.move (Operand.tmp 10), type := 46, pos := "law.go:157", after := #[], guard := none }) (v := .slice (some ⟨Bk, 0, none⟩) 256 C) rfl (by kernel_rfl) (by kernel_rfl) (by kernel_rfl) (fun _ _ _ h => h) (Or.inl ⟨by rfl, ?_⟩) (by with_reducible assumption) ?_
            · intro wx hSw
              first | (go_simp; done) | (go_simp; with_reducible rfl)
            try simp only [Act.put, List.setIfInBounds_toArray, List.set_cons_zero, List.set_cons_succ]
            refine wpAnyH_take (i := 1) (oi := { dst := some 81, op := Op.convert 46 9 (Operand.tmp 80), type := 9, pos := "law.go:157", after := #[{ on := 0, ground := Ground.data }], guard := none }) (v := .string X) rfl (by kernel_rfl) (by kernel_rfl) (by kernel_rfl) (fun _ _ _ h => h) (Or.inl ⟨by rfl, ?_⟩) (by with_reducible assumption) ?_
            · intro wx hSw
              first | (go_simp; done) | (go_simp; with_reducible rfl)
            try simp only [Act.put, List.setIfInBounds_toArray, List.set_cons_zero, List.set_cons_succ]
            refine wpAnyH_take (i := 2) (oi := { dst := some 82, op := Op.move (Operand.tmp 7), type := 23, pos := "law.go:157", after := #[], guard := none }) (v := .pointer (some ⟨p, 0, none⟩)) rfl (by kernel_rfl) (by kernel_rfl) (by kernel_rfl) (fun _ _ _ h => h) (Or.inl ⟨by rfl, ?_⟩) (by with_reducible assumption) ?_
            · intro wx hSw
              first | (go_simp; done) | (go_simp; with_reducible rfl)
            try simp only [Act.put, List.setIfInBounds_toArray, List.set_cons_zero, List.set_cons_succ]
            refine wpAnyH_ready (rs := [3]) (by kernel_rfl) (by simp) ?_
            refine AllReadyH.cons rfl (fun K hK => ?_) AllReadyH.nil
            go_simp
            refine Calls.mono (HBY.out _ HCP.out) ?_
            rintro e w7 ⟨rfl, hC7, HK7⟩
            refine hK.out _ _ hC7 (fun _ => ?_)
            clear hK K
            try simp only [Act.put, List.setIfInBounds_toArray, List.set_cons_zero, List.set_cons_succ]
            refine wpAnyH_take (i := 4) (oi := { dst := some 84, op := Op.binOp BinOp.eql 9 (Operand.tmp 81) (Operand.tmp 83) 9, type := 4, pos := "law.go:157", after := #[{ on := 1, ground := Ground.data }, { on := 3, ground := Ground.data }], guard := none }) (v := .bool true) rfl (by kernel_rfl) (by kernel_rfl) (by kernel_rfl) (fun _ _ _ h => h) (Or.inl ⟨by rfl, ?_⟩) (by with_reducible assumption) ?_
            · intro wx hSw
              first | (go_simp; done) | (go_simp; with_reducible rfl)
            try simp only [Act.put, List.setIfInBounds_toArray, List.set_cons_zero, List.set_cons_succ]
            refine wpAnyH_done (by kernel_rfl) ?_ _
            try simp only [Exit.then]
            go_wp2_with fail
            refine Calls.mono (HAW.out _) ?_; rintro e w8 ⟨rfl, HK8⟩
            have HKE : Hid (Kept (fun _ => False) x1 w8) := HK7.out.trans HK8.out (fun _ z => z.elim)
            clear HK7 HK8
            go_wp2_with fail
            go_ret
            exact ⟨rfl, HKE.out⟩
            
          · have HRD : Hid (∀ V, Calls Try.prog 14 #[.string X] V fun e w' => e = .returned (.tuple #[.pointer none, .int .i64 120]) ∧ Hid (Kept (fun _ => False) V w')) := hR
            clear hR HRS
            go_wp2_with fail
            refine Calls.mono (HRD.out _) ?_; rintro e w6 ⟨rfl, HK6⟩
            have HT6 : Hid (Ts x1 p Bk cs k n 4 w6) := HT5.out.step HK6.out
            have HCD : Hid ((convert 46 9 (.slice (some ⟨Bk, 0, none⟩) 256 C)).run Try.prog w6.drew = .ok (.string X) w6.drew) := HCV.out _ (HT6.out.step ((Kept.refl _ _).drew))
            have HCP : Hid (Ts x1 p Bk cs k n 4 w6.drew) := HT6.out.step ((Kept.refl _ _).drew)
            clear HRD HT5 HK6
            go_upto_region 18 with fail
            refine wp_region_held_drew (S := (fun (V : World) => (convert 46 9 (.slice (some ⟨Bk, 0, none⟩) 256 C)).run Try.prog V = .ok (.string X) V)) (by kernel_rfl) HCD.out (fun _ => ?_)
            refine wpAnyH_take (i := 0) (oi := { dst := some 80, op := Op.move (Operand.tmp 10), type := 46, pos := "law.go:157", after := #[], guard := none }) (v := .slice (some ⟨Bk, 0, none⟩) 256 C) rfl (by kernel_rfl) (by kernel_rfl) (by kernel_rfl) (fun _ _ _ h => h) (Or.inl ⟨by rfl, ?_⟩) (by with_reducible assumption) ?_
            · intro wx hSw
              first | (go_simp; done) | (go_simp; with_reducible rfl)
            try simp only [Act.put, List.setIfInBounds_toArray, List.set_cons_zero, List.set_cons_succ]
            refine wpAnyH_take (i := 1) (oi := { dst := some 81, op := Op.convert 46 9 (Operand.tmp 80), type := 9, pos := "law.go:157", after := #[{ on := 0, ground := Ground.data }], guard := none }) (v := .string X) rfl (by kernel_rfl) (by kernel_rfl) (by kernel_rfl) (fun _ _ _ h => h) (Or.inl ⟨by rfl, ?_⟩) (by with_reducible assumption) ?_
            · intro wx hSw
              first | (go_simp; done) | (go_simp; with_reducible rfl)
            try simp only [Act.put, List.setIfInBounds_toArray, List.set_cons_zero, List.set_cons_succ]
            refine wpAnyH_take (i := 2) (oi := { dst := some 82, op := Op.move (Operand.tmp 7), type := 23, pos := "law.go:157", after := #[], guard := none }) (v := .pointer (some ⟨p, 0, none⟩)) rfl (by kernel_rfl) (by kernel_rfl) (by kernel_rfl) (fun _ _ _ h => h) (Or.inl ⟨by rfl, ?_⟩) (by with_reducible assumption) ?_
            · intro wx hSw
              first | (go_simp; done) | (go_simp; with_reducible rfl)
            try simp only [Act.put, List.setIfInBounds_toArray, List.set_cons_zero, List.set_cons_succ]
            refine wpAnyH_ready (rs := [3]) (by kernel_rfl) (by simp) ?_
            refine AllReadyH.cons rfl (fun K hK => ?_) AllReadyH.nil
            go_simp
            refine Calls.mono (HBY.out _ HCP.out) ?_
            rintro e w7 ⟨rfl, hC7, HK7⟩
            refine hK.out _ _ hC7 (fun _ => ?_)
            clear hK K
            try simp only [Act.put, List.setIfInBounds_toArray, List.set_cons_zero, List.set_cons_succ]
            refine wpAnyH_take (i := 4) (oi := { dst := some 84, op := Op.binOp BinOp.eql 9 (Operand.tmp 81) (Operand.tmp 83) 9, type := 4, pos := "law.go:157", after := #[{ on := 1, ground := Ground.data }, { on := 3, ground := Ground.data }], guard := none }) (v := .bool false) rfl (by kernel_rfl) (by kernel_rfl) (by kernel_rfl) (fun _ _ _ h => h) (Or.inl ⟨by rfl, ?_⟩) (by with_reducible assumption) ?_
            · intro wx hSw
              first | (go_simp; done) | (go_simp; with_reducible rfl)
            try simp only [Act.put, List.setIfInBounds_toArray, List.set_cons_zero, List.set_cons_succ]
            refine wpAnyH_done (by kernel_rfl) ?_ _
            try simp only [Exit.then]
            go_wp2_with fail
            refine Calls.mono (HAW.out _) ?_; rintro e w8 ⟨rfl, HK8⟩
            have HKE : Hid (Kept (fun _ => False) x1 w8) := HK7.out.trans HK8.out (fun _ z => z.elim)
            clear HK7 HK8
            go_wp2_with fail
            go_ret
            exact ⟨rfl, HKE.out⟩
            
end Go.Proofs.Ytncpohimjmakpaa
