/- The document's Bytes. -/
import Derived.Test.YtehaancdadmdkaaNx
namespace Go.Proofs.Ytehaancdadmdkaa
open Go.ChangeShapes Go.WideShapes Go.ChangeAt Go.RowKit
set_option linter.unusedVariables false
set_option maxRecDepth 100000

theorem ba_append (A B : ByteArray) : (A ++ B).data.toList = A.data.toList ++ B.data.toList := by
  rw [ByteArray.data_append, Array.toList_append]
theorem ba_size (A : ByteArray) : A.size = A.data.toList.length := by simp
theorem ba_eq {A : ByteArray} {L : List UInt8} (h : A.data.toList = L) : A = ⟨L.toArray⟩ := by
  apply ByteArray.ext
  apply Array.ext'
  exact h
theorem pl_take (e : Nat) (cs : List Cel) (i : Nat) (hi : i < cs.length) : pl e (cs.take (i + 1)) = pl e (cs.take i) ++ [UInt8.ofNat (e - tot (cs.take i) - csz cs[i]), UInt8.ofNat cs[i].1.length] := by
  rw [List.take_add_one, List.getElem?_eq_getElem hi, pl_append]
  rfl
theorem bod_take (cs : List Cel) (i : Nat) (hi : i < cs.length) : bod (cs.take (i + 1)) = (cs[i].1 ++ cs[i].2) ++ bod (cs.take i) := by
  rw [List.take_add_one, List.getElem?_eq_getElem hi, bod_append]
  rfl
theorem bytes_lay (kd : UInt8) (cs : List Cel) (hok : okC cs) : bytesB (lay kd cs) = [kd, UInt8.ofNat cs.length, UInt8.ofNat (tot cs % 256), UInt8.ofNat (tot cs / 256)] ++ putL (sumOf ([kd, UInt8.ofNat cs.length, UInt8.ofNat (tot cs % 256), UInt8.ofNat (tot cs / 256)] ++ [0, 0, 0, 0] ++ ((pl 256 cs ++ zs (248 - 2 * cs.length - tot cs)) ++ bod cs))) ++ ((pl 256 cs ++ zs (248 - 2 * cs.length - tot cs)) ++ bod cs) := by
  have e : lay kd cs = [kd, UInt8.ofNat cs.length, UInt8.ofNat (tot cs % 256), UInt8.ofNat (tot cs / 256)] ++ [0, 0, 0, 0] ++ ((pl 256 cs ++ zs (248 - 2 * cs.length - tot cs)) ++ bod cs) := by
    unfold lay hd
    simp only [List.append_assoc]
    rfl
  unfold bytesB sumP
  rw [e]
  rfl
theorem convA (w : World) (L : List UInt8) (c : Nat) : (convert 46 9 (.slice (some ⟨w.heap.size, 0, none⟩) L.length c)).run Try.prog (w.alloc (.cells (L.map (fun b => Value.int .u8 b.toNat)).toArray 5)) = .ok (.string ⟨L.toArray⟩) (w.alloc (.cells (L.map (fun b => Value.int .u8 b.toNat)).toArray 5)) :=
  run_convert_bytes_back (P := Try.prog) _ 46 9 5 ⟨w.heap.size, 0, none⟩ c L Try.underlying46 Try.underlying5 Try.underlying9 (fun j hj => by
    rw [Go.WideShapes.add_plain, Nat.zero_add]
    exact (Blk.new w 5 (L.map (fun b => Value.int .u8 b.toNat))).cell (i := j) (u := .int .u8 ((L[j]).toNat : Int)) (by simp [hj]))
theorem Below.kept {w w' : World} (b : Below w.heap.size w w') : Kept (fun _ => False) w w' := ⟨b.os, b.tape, b.output, b.size, fun k hk _ => b.block k hk⟩
def Bst (w : World) (B1 : Nat) (kd : Int) (a : Option Addr) (N c : Nat) (cs : List Cel) (V : World) : Prop := Blk V B1 29 [.int .i64 kd, .slice a N c] ∧ Sl cv 2 V (.slice a N c) cs ∧ Kept (fun _ => False) w V
theorem Bst.step {w : World} {B1 : Nat} {kd : Int} {a : Option Addr} {N c : Nat} {cs : List Cel} {V V' : World} (h : Bst w B1 kd a N c cs V) (k : Kept (fun _ => False) V V') : Bst w B1 kd a N c cs V' := ⟨h.1.step k, h.2.1.step cv_ne k, h.2.2.trans k (fun _ z => z.elim)⟩
set_option maxHeartbeats 4000000 in
theorem rbytes_is {w : World} (kd : UInt8) (a : Option Addr) (N c : Nat) (cs : List Cel) (hN : cs.length = N) (h : Sl cv 2 w (.slice a N c) cs) (hok : okC cs) : Calls Try.prog 36 #[rpg (kd.toNat : Int) (.slice a N c)] w fun e w' => e = .returned (.string ⟨(bytesB (lay kd cs)).toArray⟩) ∧ Kept (fun _ => False) w w' := by
  have hfit := okC_fit hok
  have hkd8 := kd.toNat_lt
  have HOK : Hid (okC cs ∧ cs.length = N ∧ tot cs ≤ 248 ∧ 8 + 2 * N + tot cs ≤ 256) := ⟨hok, hN, hfit.2, by have := hok.2; omega⟩
  have hN1 : N ≤ 124 := by omega
  have HKD : Hid ((UInt8.ofNat kd.toNat) = kd) := by show _ = _; simp
  obtain ⟨kn, hkn⟩ : ∃ kn, kd.toNat = kn := ⟨_, rfl⟩
  rw [hkn] at hkd8 HKD ⊢
  obtain ⟨W, hW⟩ : ∃ W, w.alloc (.cells #[.int .i64 (kn : Int), .slice a N c] 29) = W := ⟨_, rfl⟩
  obtain ⟨B1, hB1⟩ : ∃ B, w.heap.size = B := ⟨_, rfl⟩
  have HW : Hid (w.alloc (.cells #[.int .i64 (kn : Int), .slice a N c] 29) = W ∧ w.heap.size = B1) := ⟨hW, hB1⟩
  have hk0 : Kept (fun _ => False) w W := hW ▸ (Kept.refl _ w).alloc _
  have hb : Blk W B1 29 [.int .i64 (kn : Int), .slice a N c] := by
    have := Blk.new w 29 [.int .i64 (kn : Int), .slice a N c]
    rw [hB1] at this
    rw [← hW]; exact this
  have S0 : Hid (Bst w B1 (kn : Int) a N c cs W) := ⟨hb, h.step cv_ne hk0, hk0⟩
  clear h hok hN hfit hW hB1 hk0 hb hkn
  go_enter Try.func36, Try.ntmps36
  go_wp2_with fail
  rw [HW.out.1, HW.out.2]
  clear HW
  go_wp2_with fail
  go_loopw [3, 4, 5, 6] (fun v3 v4 v5 v6 wr => ∃ (i t : Nat) (D E : ByteArray), i ≤ N ∧ t ≤ 256 ∧ D.size = 2 * i ∧ E.size ≤ 248 ∧ v3 = .string D ∧ v4 = .string E ∧ v5 = .int .i64 t ∧ v6 = .int .i64 i ∧ Hid (D.data.toList = pl 256 (cs.take i) ∧ E.data.toList = bod (cs.take i) ∧ t = 256 - tot (cs.take i)) ∧ Hid (Bst w B1 (kn : Int) a N c cs wr)) (fun _ _ _ v6 _ => N - (intOf v6).toNat)
  case atStart => exact ⟨0, 256, _, _, Nat.zero_le _, Nat.le_refl _, rfl, by decide, rfl, rfl, rfl, rfl, ⟨rfl, rfl, rfl⟩, S0.out⟩
  case round =>
    obtain ⟨i, t, D, E, hi, ht, hDs, hEs, rfl, rfl, rfl, rfl, HI, HS⟩ := hrel
    clear S0
    have b1 := HS.out.1.cell (i := 1) rfl
    have b0 := HS.out.1.cell (i := 0) rfl
    by_cases hlt : i < N
    · have c1 : (i : Int) < (N : Int) := by omega
      have hl : i < cs.length := by rw [HOK.out.2.1]; exact hlt
      obtain ⟨b, o, c', hv, hc', hb, hcs⟩ := HS.out.2.1.cells (fun e => by rw [e] at hl; exact absurd hl (Nat.not_lt_zero _))
      rw [HOK.out.2.1] at hv
      cases hv
      obtain ⟨y0, y1⟩ := hcs i hl
      obtain ⟨S1, hS1⟩ : ∃ S, (⟨cs[i].1.toArray⟩ : ByteArray) = S := ⟨_, rfl⟩
      obtain ⟨S2, hS2⟩ : ∃ S, (⟨cs[i].2.toArray⟩ : ByteArray) = S := ⟨_, rfl⟩
      have e1 : S1.size = cs[i].1.length := by rw [← hS1]; exact mk_size _
      have e2 : S2.size = cs[i].2.length := by rw [← hS2]; exact mk_size _
      have HL : Hid (S1.data.toList = cs[i].1 ∧ S2.data.toList = cs[i].2) := ⟨by rw [← hS1], by rw [← hS2]⟩
      rw [hS1] at y0
      rw [hS2] at y1
      obtain ⟨k1, hk1⟩ : ∃ k, S1.size = k := ⟨_, rfl⟩
      obtain ⟨k2, hk2⟩ : ∃ k, S2.size = k := ⟨_, rfl⟩
      have ec : csz cs[i] = k1 + k2 := by unfold csz; omega
      have hoi := HOK.out.1.1 cs[i] (List.getElem_mem hl)
      have htt := tot_take cs i hl
      have htl := tot_take_le cs (i + 1)
      have hsum := HOK.out.2.2.2
      have ht0 := HI.out.2.2
      have hk80 : k1 ≤ 80 ∧ 1 ≤ k1 := by omega
      have hkt : k1 + k2 ≤ t := by omega
      obtain ⟨t2, ht2⟩ : ∃ t2, t - (k1 + k2) = t2 := ⟨_, rfl⟩
      have ht8 : t2 < 256 := by omega
      have hab : bits .and .i64 ((t : Int) - (k1 : Int) - (k2 : Int)) 255 = (t2 : Int) := by rw [and_byte]; omega
      have hEs2 : k1 + k2 + E.size ≤ 248 := by
        have := congrArg List.length HI.out.2.1
        rw [← ba_size, bod_len] at this
        omega
      obtain ⟨Wa, hWa⟩ : ∃ X, wr.alloc (.cells #[.string S1, .string S2] 74) = X := ⟨_, rfl⟩
      obtain ⟨Ba, hBa⟩ : ∃ X, wr.heap.size = X := ⟨_, rfl⟩
      have HWa : Hid (wr.alloc (.cells #[.string S1, .string S2] 74) = Wa ∧ wr.heap.size = Ba) := ⟨hWa, hBa⟩
      have hka : Kept (fun _ => False) wr Wa := hWa ▸ (Kept.refl _ wr).alloc _
      have hba : Blk Wa Ba 74 [.string S1, .string S2] := by
        have := Blk.new wr 74 [.string S1, .string S2]
        rw [hBa] at this
        rw [← hWa]; exact this
      obtain ⟨Wb, hWb⟩ : ∃ X, Wa.alloc (.cells #[.int .u8 (t2 : Int), .int .u8 (k1 : Int)] 5) = X := ⟨_, rfl⟩
      obtain ⟨Bb, hBb⟩ : ∃ X, Wa.heap.size = X := ⟨_, rfl⟩
      have HB : Hid ((Instr.buildSlice 46 2 #[(0, .int .u8 (t2 : Int)), (1, .int .u8 (k1 : Int))]).run Try.prog Wa = .ok (.slice (some ⟨Bb, 0, none⟩) 2 2) Wb) := by have := bs2 (t2 : Int) (k1 : Int) Wa; rw [hWb, hBb] at this; exact this
      have hcv : (convert 46 9 (.slice (some ⟨Bb, 0, none⟩) 2 2)).run Try.prog Wb = .ok (.string ⟨#[UInt8.ofNat t2, UInt8.ofNat k1]⟩) Wb := by
        have := convB Wa [UInt8.ofNat t2, UInt8.ofNat k1] (by simp) 2
        have e : ([UInt8.ofNat t2, UInt8.ofNat k1].map (fun b => Value.int .u8 b.toNat)).toArray = #[.int .u8 (t2 : Int), .int .u8 (k1 : Int)] := by simp [UInt8.toNat_ofNat', Nat.mod_eq_of_lt ht8, Nat.mod_eq_of_lt (show k1 < 256 by omega)]
        rw [e, hWb, hBb] at this
        exact this
      have hkb : Kept (fun _ => False) Wa Wb := hWb ▸ (Kept.refl _ Wa).alloc _
      have hbb := hba.step hkb
      have a0 := hba.cell (i := 0) rfl
      have a1 := hba.cell (i := 1) rfl
      have a2 := hbb.cell (i := 0) rfl
      have a3 := hbb.cell (i := 1) rfl
      obtain ⟨G, hG⟩ : ∃ G, (⟨#[UInt8.ofNat t2, UInt8.ofNat k1]⟩ : ByteArray) = G := ⟨_, rfl⟩
      have HE : Hid ((D ++ G).data.toList = pl 256 (cs.take (i + 1)) ∧ (S1 ++ S2 ++ E).data.toList = bod (cs.take (i + 1)) ∧ t2 = 256 - tot (cs.take (i + 1))) := by
        refine ⟨?_, ?_, by omega⟩
        · rw [ba_append, HI.out.1, ← hG, pl_take 256 cs i hl, ec, ← ht0, ht2, ← e1, hk1]
        · rw [ba_append, ba_append, HL.out.1, HL.out.2, HI.out.2.1, bod_take cs i hl]
      have HZ : Hid ((D ++ G).size = 2 * (i + 1) ∧ (S1 ++ S2 ++ E).size ≤ 248) := by
        constructor
        · rw [ByteArray.size_append, hDs, ← hG]; show 2 * i + 2 = _; omega
        · rw [ByteArray.size_append, ByteArray.size_append, hk1, hk2]; exact hEs2
      rw [hG] at hcv
      have hGs : G.size = 2 := by rw [← hG]; rfl
      have HSN : Hid (Bst w B1 (kn : Int) (some ⟨b, o, none⟩) N c cs Wb) := (HS.out.step hka).step hkb
      have HT2 : Hid ((t : Int) - (k1 : Int) - (k2 : Int) = (t2 : Int)) := by show _ = _; omega
      clear hcs hb hS1 hS2 e1 e2 HL ec hoi htt htl hsum ht0 hl HI HS hWa hBa hka hba hWb hBb hkb hbb hG hEs2 ht2 hc'
      go_upto_region 7 with fail
      rw [HWa.out.1, HWa.out.2]
      clear HWa b0 b1 y0 y1
      go_wp2_with ((with_reducible apply st_bslice); (case ho => rfl); (case hgd => rfl); (case hr => exact HB.out))
      go_roundw
      case rel => exact ⟨i + 1, t2, _, _, hlt, by omega, HZ.out.1, HZ.out.2, rfl, rfl, congrArg (Value.int .i64) HT2.out, by rw [Int.natCast_add]; rfl, HE.out, HSN.out⟩
      case measure => simp only [intOf]; omega
    · have c1 : ¬ (i : Int) < (N : Int) := by omega
      obtain rfl : i = N := by omega
      have hDE : D.data.toList = pl 256 cs ∧ E.data.toList = bod cs := by
        have := HI.out
        rw [List.take_of_length_le (by have := HOK.out.2.1; omega)] at this
        exact ⟨this.1, this.2.1⟩
      obtain ⟨T, hT⟩ : ∃ T, E.size = T := ⟨_, rfl⟩
      obtain ⟨d, hd⟩ : ∃ d, D.size = d := ⟨_, rfl⟩
      have hTt : T = tot cs := by rw [← hT, ba_size, hDE.2, bod_len]
      have hTb : T ≤ 248 := by rw [← hT]; exact hEs
      have hdb : d ≤ 248 := by omega
      have hsum := HOK.out.2.2.2
      have hab : bits .and .i64 (T : Int) 255 = (T : Int) := by rw [and_byte]; omega
      have hsh : (T : Int) / 256 = 0 := by omega
      obtain ⟨r, hr⟩ : ∃ r, 248 - 2 * i - T = r := ⟨_, rfl⟩
      obtain ⟨Hh, hH⟩ : ∃ Hh, (⟨#[UInt8.ofNat kn, UInt8.ofNat i, UInt8.ofNat T, 0]⟩ : ByteArray) = Hh := ⟨_, rfl⟩
      have hcv := four_text wr (UInt8.ofNat kn) (UInt8.ofNat i) (UInt8.ofNat T) 0 (kn : Int) (i : Int) (T : Int) 0 5 (by rw [ofNat_toNat]; omega) (by rw [ofNat_toNat]; omega) (by rw [ofNat_toNat]; omega) rfl
      rw [hH] at hcv
      have hHs : Hh.size = 4 := by rw [← hH]; rfl
      obtain ⟨W1, hW1⟩ : ∃ X, wr.alloc (.cells #[.int .u8 (kn : Int), .int .u8 (i : Int), .int .u8 (T : Int), .int .u8 0] 5) = X := ⟨_, rfl⟩
      have HW1 : Hid (wr.alloc (.cells #[.int .u8 (kn : Int), .int .u8 (i : Int), .int .u8 (T : Int), .int .u8 0] 5) = W1) := hW1
      have hk1 : Kept (fun _ => False) wr W1 := hW1 ▸ (Kept.refl _ wr).alloc _
      obtain ⟨W2, hW2⟩ : ∃ X, W1.alloc (.cells (List.replicate r (.int .u8 0)).toArray 5) = X := ⟨_, rfl⟩
      obtain ⟨C2, hC2⟩ : ∃ X, W1.heap.size = X := ⟨_, rfl⟩
      have er : ((r : Nat) : Int) = 248 - (d : Int) - (T : Int) := by omega
      have HMK : Hid ((Instr.makeSlice 46 (.int .i64 (248 - (d : Int) - (T : Int))) (.int .i64 (248 - (d : Int) - (T : Int)))).run Try.prog W1 = .ok (.slice (some ⟨C2, 0, none⟩) r r) W2) := by have := mkB r (by omega) W1; rw [hW2, hC2, er] at this; exact this
      obtain ⟨Z, hZ⟩ : ∃ Z, (⟨(List.replicate r (0 : UInt8)).toArray⟩ : ByteArray) = Z := ⟨_, rfl⟩
      have hcz : (convert 46 9 (.slice (some ⟨C2, 0, none⟩) r r)).run Try.prog W2 = .ok (.string Z) W2 := by
        have := convA W1 (List.replicate r 0) r
        have e : ((List.replicate r (0 : UInt8)).map (fun b => Value.int .u8 b.toNat)).toArray = (List.replicate r (Value.int .u8 0)).toArray := by rw [List.map_replicate]; rfl
        rw [e, hW2, hC2, List.length_replicate, hZ] at this
        exact this
      have hZs : Z.size = r := by rw [← hZ, mk_size, List.length_replicate]
      have hrb : r ≤ 248 := by omega
      have hk2 : Kept (fun _ => False) W1 W2 := hW2 ▸ (Kept.refl _ W1).alloc _
      have HK2 : Hid (Kept (fun _ => False) w W2) := (HS.out.2.2.trans hk1 (fun _ z => z.elim)).trans hk2 (fun _ z => z.elim)
      obtain ⟨M, hM⟩ : ∃ M, Hh ++ (⟨#[0, 0, 0, 0]⟩ : ByteArray) ++ (D ++ Z ++ E) = M := ⟨_, rfl⟩
      have hMs : M.size ≤ 140737488351232 := by
        rw [← hM, ByteArray.size_append, ByteArray.size_append, ByteArray.size_append, ByteArray.size_append, hHs, hd, hT, hZs]
        show 4 + 4 + _ ≤ _
        omega
      obtain ⟨sm, hsm⟩ : ∃ sm, sumOf M.data.toList = sm := ⟨_, rfl⟩
      have HSM : Hid (∀ V, Calls Try.prog 55 #[.string M] V fun e w' => e = .returned (.int .i64 (sm : Int)) ∧ w' = V) := fun V => by have := refSum_is M hMs V; rw [hsm] at this; exact this
      obtain ⟨PT, hPT⟩ : ∃ PT, (⟨(putL sm).toArray⟩ : ByteArray) = PT := ⟨_, rfl⟩
      have HPU : Hid (∀ V, Kept (fun _ => False) w V → Calls Try.prog 54 #[.int .i64 (sm : Int)] V fun e w' => e = .returned (.string PT) ∧ Hid (Kept (fun _ => False) w w')) := fun V kV => by
        have := refPut_is (sm : Int) V
        rw [low_nat (by rw [← hsm]; exact sumOf_lt _), hPT] at this
        exact this.mono fun e w' ⟨q1, q2⟩ => ⟨q1, kV.trans (Below.kept q2) (fun _ z => z.elim)⟩
      have hPs : PT.size = 4 := by rw [← hPT]; rfl
      have HR : Hid (Hh ++ PT ++ (D ++ Z ++ E) = ⟨(bytesB (lay kd cs)).toArray⟩) := by
        apply ba_eq
        have eT1 : tot cs % 256 = T := by omega
        have eT2 : tot cs / 256 = 0 := by omega
        have eH : Hh.data.toList = [kd, UInt8.ofNat cs.length, UInt8.ofNat (tot cs % 256), UInt8.ofNat (tot cs / 256)] := by
          rw [← hH, HOK.out.2.1, eT1, eT2, HKD.out]; rfl
        have eZ : Z.data.toList = zs (248 - 2 * cs.length - tot cs) := by
          rw [← hZ, HOK.out.2.1, ← hTt, hr]
        rw [bytes_lay kd cs HOK.out.1, ba_append, ba_append, ba_append, ba_append, ← hPT, ← hsm, ← hM, ba_append, ba_append, ba_append, ba_append, eH, eZ, hDE.1, hDE.2]
      have HM : Hid (Hh ++ (⟨#[0, 0, 0, 0]⟩ : ByteArray) ++ (D ++ Z ++ E) = M) := hM
      clear hDE hTt hsum hr hH hW1 hk1 hW2 hC2 er hZ hk2 hM hMs hsm hPT HI HS HKD hDs hEs
      go_upto_region 11 with fail
      rw [HW1.out]
      clear HW1 hcv b0 b1 hab hsh
      go_upto_region 12 with ((with_reducible apply st_make); (case ho => rfl); (case hgd => rfl); (case hr => exact HMK.out))
      clear HMK hcz
      go_wp2_with fail
      rw [HM.out]
      refine Calls.mono (HSM.out _) ?_; rintro e w3 ⟨rfl, rfl⟩
      go_wp2_with fail
      refine Calls.mono (HPU.out _ HK2.out) ?_; rintro e w4 ⟨rfl, HK4⟩
      go_wp2_with fail
      go_ret
      exact ⟨congrArg (fun x => Ending.returned (.string x)) HR.out, HK4.out⟩
end Go.Proofs.Ytehaancdadmdkaa
