/- same. -/
import Derived.Test.YtehaancdadmdkaaRsp
import Derived.Test.YtehaancdadmdkaaSj
namespace Go.Proofs.Ytehaancdadmdkaa
open Go.ChangeShapes Go.WideShapes Go.ChangeAt Go.RowKit
set_option linter.unusedVariables false
set_option maxRecDepth 100000

/-- The page, and the document's. -/
def Sst (w : World) (p B3 : Nat) (kd : UInt8) (a : Option Addr) (N c : Nat) (cs : List Cel) (V : World) : Prop := Pg V p (lay kd cs) ∧ Sl cv 2 V (.slice a N c) cs ∧ Blk V B3 29 [.int .i64 (kd.toNat : Int), .slice a N c] ∧ Kept (fun _ => False) w V
theorem Sst.step {w : World} {p B3 : Nat} {kd : UInt8} {a : Option Addr} {N c : Nat} {cs : List Cel} {V V' : World} (h : Sst w p B3 kd a N c cs V) (k : Kept (fun _ => False) V V') : Sst w p B3 kd a N c cs V' := ⟨h.1.step k, h.2.1.step cv_ne k, h.2.2.1.step k, h.2.2.2.trans k (fun _ z => z.elim)⟩
theorem freeL {w : World} {p : Nat} {kd : UInt8} {cs : List Cel} (h : Pg w p (lay kd cs)) (hok : okC cs) (hkd : kd.toNat ≠ 0) : Calls Try.prog 23 #[.pointer (some ⟨p, 0, none⟩)] w fun e w' => e = .returned (.int .i64 (max 0 (246 - ((2 * cs.length + tot cs : Nat) : Int)))) ∧ Kept (fun _ => False) w w' := by
  have hf := hok.2
  have := free_is h (by rw [lay_kind]; exact hkd) (by rw [lay_count kd cs hok]; omega)
  rw [lay_count kd cs hok, endAll kd cs hok, Int.max_comm] at this
  have en : ((256 - tot cs : Nat) : Int) - ((8 + 2 * cs.length : Nat) : Int) - 2 = 246 - ((2 * cs.length + tot cs : Nat) : Int) := by omega
  rw [en] at this
  exact this.mono fun e w' ⟨q1, m, q2⟩ => ⟨q1, by rw [q2]; exact (Kept.refl _ _).drewN m⟩
set_option maxHeartbeats 8000000 in
theorem same_is {w : World} {p : Nat} (kd : UInt8) (hkd : kd.toNat ≠ 0) (a : Option Addr) (N c : Nat) (cs : List Cel) (hN : cs.length = N) (g : Pg w p (lay kd cs)) (h : Sl cv 2 w (.slice a N c) cs) (hok : okC cs) : Calls Try.prog 13 #[.pointer (some ⟨p, 0, none⟩), rpg (kd.toNat : Int) (.slice a N c)] w fun e w' => e = .returned (.bool true) ∧ Kept (fun _ => False) w w' := by
  have hN1 : N ≤ 124 := by rw [← hN]; exact (okC_fit hok).1
  have HN : Hid (cs.length = N) := hN
  obtain ⟨W, hW⟩ : ∃ W, w.alloc (.cells #[.int .i64 (kd.toNat : Int), .slice a N c] 29) = W := ⟨_, rfl⟩
  obtain ⟨B3, hB3⟩ : ∃ B, w.heap.size = B := ⟨_, rfl⟩
  have HW : Hid (w.alloc (.cells #[.int .i64 (kd.toNat : Int), .slice a N c] 29) = W ∧ w.heap.size = B3) := ⟨hW, hB3⟩
  have hk0 : Kept (fun _ => False) w W := hW ▸ (Kept.refl _ w).alloc _
  have hb : Blk W B3 29 [.int .i64 (kd.toNat : Int), .slice a N c] := by
    have := Blk.new w 29 [.int .i64 (kd.toNat : Int), .slice a N c]
    rw [hB3] at this
    rw [← hW]; exact this
  obtain ⟨kn, hkn⟩ : ∃ kn, kd.toNat = kn := ⟨_, rfl⟩
  have HST : Hid (∀ V, Sst w p B3 kd a N c cs V → Hid (Sst w p B3 kd a N c cs V) ∧ V.cell? ⟨B3, 0, none⟩ = some (.int .i64 (kn : Int)) ∧ V.cell? ⟨B3, 1, none⟩ = some (.slice a N c)) := fun V hV => ⟨hV, by rw [← hkn]; exact hV.2.2.1.cell rfl, hV.2.2.1.cell rfl⟩
  have hS0 : Hid (Sst w p B3 kd a N c cs W) ∧ W.cell? ⟨B3, 0, none⟩ = some (.int .i64 (kn : Int)) ∧ W.cell? ⟨B3, 1, none⟩ = some (.slice a N c) := HST.out W ⟨g.step hk0, h.step cv_ne hk0, hb, hk0⟩
  have HSD : Hid (∀ V : World, (Hid (Sst w p B3 kd a N c cs V) ∧ V.cell? ⟨B3, 0, none⟩ = some (.int .i64 (kn : Int)) ∧ V.cell? ⟨B3, 1, none⟩ = some (.slice a N c)) → Hid (Sst w p B3 kd a N c cs V.drew) ∧ V.drew.cell? ⟨B3, 0, none⟩ = some (.int .i64 (kn : Int)) ∧ V.drew.cell? ⟨B3, 1, none⟩ = some (.slice a N c)) := fun V q => HST.out _ (q.1.out.step ((Kept.refl _ _).drew))
  obtain ⟨FR, hFR⟩ : ∃ FR : Int, max 0 (246 - ((2 * N + tot cs : Nat) : Int)) = FR := ⟨_, rfl⟩
  obtain ⟨BY, hBY⟩ : ∃ BY, (⟨(bytesB (lay kd cs)).toArray⟩ : ByteArray) = BY := ⟨_, rfl⟩
  have H27 : Hid (∀ V, (Hid (Sst w p B3 kd a N c cs V) ∧ V.cell? ⟨B3, 0, none⟩ = some (.int .i64 (kn : Int)) ∧ V.cell? ⟨B3, 1, none⟩ = some (.slice a N c)) → Calls Try.prog 27 #[.pointer (some ⟨p, 0, none⟩)] V fun e w' => e = .returned (.int .i64 (kn : Int)) ∧ (Hid (Sst w p B3 kd a N c cs w') ∧ w'.cell? ⟨B3, 0, none⟩ = some (.int .i64 (kn : Int)) ∧ w'.cell? ⟨B3, 1, none⟩ = some (.slice a N c))) := fun V q => (kindL q.1.out.1).mono fun e w' ⟨q1, q2⟩ => ⟨by rw [← hkn]; exact q1, HST.out _ (q.1.out.step q2)⟩
  have H19 : Hid (∀ V, (Hid (Sst w p B3 kd a N c cs V) ∧ V.cell? ⟨B3, 0, none⟩ = some (.int .i64 (kn : Int)) ∧ V.cell? ⟨B3, 1, none⟩ = some (.slice a N c)) → Calls Try.prog 19 #[.pointer (some ⟨p, 0, none⟩)] V fun e w' => e = .returned (.int .i64 (N : Int)) ∧ (Hid (Sst w p B3 kd a N c cs w') ∧ w'.cell? ⟨B3, 0, none⟩ = some (.int .i64 (kn : Int)) ∧ w'.cell? ⟨B3, 1, none⟩ = some (.slice a N c))) := fun V q => (lenL q.1.out.1 hok).mono fun e w' ⟨q1, q2⟩ => ⟨by rw [← hN]; exact q1, HST.out _ (q.1.out.step q2)⟩
  have H23 : Hid (∀ V, (Hid (Sst w p B3 kd a N c cs V) ∧ V.cell? ⟨B3, 0, none⟩ = some (.int .i64 (kn : Int)) ∧ V.cell? ⟨B3, 1, none⟩ = some (.slice a N c)) → Calls Try.prog 23 #[.pointer (some ⟨p, 0, none⟩)] V fun e w' => e = .returned (.int .i64 FR) ∧ (Hid (Sst w p B3 kd a N c cs w') ∧ w'.cell? ⟨B3, 0, none⟩ = some (.int .i64 (kn : Int)) ∧ w'.cell? ⟨B3, 1, none⟩ = some (.slice a N c))) := fun V q => (freeL q.1.out.1 hok hkd).mono fun e w' ⟨q1, q2⟩ => ⟨by rw [← hFR, ← hN]; exact q1, HST.out _ (q.1.out.step q2)⟩
  have H35 : Hid (∀ V, (Hid (Sst w p B3 kd a N c cs V) ∧ V.cell? ⟨B3, 0, none⟩ = some (.int .i64 (kn : Int)) ∧ V.cell? ⟨B3, 1, none⟩ = some (.slice a N c)) → Calls Try.prog 35 #[.agg #[.int .i64 (kn : Int), .slice a N c]] V fun e w' => e = .returned (.int .i64 FR) ∧ (Hid (Sst w p B3 kd a N c cs w') ∧ w'.cell? ⟨B3, 0, none⟩ = some (.int .i64 (kn : Int)) ∧ w'.cell? ⟨B3, 1, none⟩ = some (.slice a N c))) := fun V q => (rfree_is (kn : Int) a N c cs hN q.1.out.2.1 hok).mono fun e w' ⟨q1, q2⟩ => ⟨by rw [← hFR]; exact q1, HST.out _ (q.1.out.step q2)⟩
  have H16 : Hid (∀ V, (Hid (Sst w p B3 kd a N c cs V) ∧ V.cell? ⟨B3, 0, none⟩ = some (.int .i64 (kn : Int)) ∧ V.cell? ⟨B3, 1, none⟩ = some (.slice a N c)) → Calls Try.prog 16 #[.pointer (some ⟨p, 0, none⟩)] V fun e w' => e = .returned (.string BY) ∧ (Hid (Sst w p B3 kd a N c cs w') ∧ w'.cell? ⟨B3, 0, none⟩ = some (.int .i64 (kn : Int)) ∧ w'.cell? ⟨B3, 1, none⟩ = some (.slice a N c))) := fun V q => (bytesL q.1.out.1 hkd).mono fun e w' ⟨q1, q2⟩ => ⟨by rw [← hBY]; exact q1, HST.out _ (q.1.out.step q2)⟩
  have H36 : Hid (∀ V, (Hid (Sst w p B3 kd a N c cs V) ∧ V.cell? ⟨B3, 0, none⟩ = some (.int .i64 (kn : Int)) ∧ V.cell? ⟨B3, 1, none⟩ = some (.slice a N c)) → Calls Try.prog 36 #[.agg #[.int .i64 (kn : Int), .slice a N c]] V fun e w' => e = .returned (.string BY) ∧ (Hid (Sst w p B3 kd a N c cs w') ∧ w'.cell? ⟨B3, 0, none⟩ = some (.int .i64 (kn : Int)) ∧ w'.cell? ⟨B3, 1, none⟩ = some (.slice a N c))) := fun V q => by
    have := rbytes_is kd a N c cs hN q.1.out.2.1 hok
    rw [hkn] at this
    exact this.mono fun e w' ⟨q1, q2⟩ => ⟨by rw [← hBY]; exact q1, HST.out _ (q.1.out.step q2)⟩
  have HAT : Hid (∀ V (i : Nat) (hi : i < cs.length), Sst w p B3 kd a N c cs V → Calls Try.prog 20 #[.pointer (some ⟨p, 0, none⟩), .int .i64 (i : Int)] V fun e w' => e = .returned (.tuple #[.string ⟨cs[i].1.toArray⟩, .string ⟨cs[i].2.toArray⟩]) ∧ Hid (Sst w p B3 kd a N c cs w')) := fun V i hi q => (atL q.1 hok i hi).mono fun e w' ⟨q1, q2⟩ => ⟨q1, q.step q2⟩
  rw [hkn] at HW ⊢
  clear g h hok hN hW hB3 hk0 hb hkn hFR hBY
  go_enter Try.func13, Try.ntmps13
  go_upto_region 1 with fail
  rw [HW.out.1, HW.out.2]
  clear HW
  go_cut [38] (fun s38 wx => s38 = .bool false ∧ Hid (Sst w p B3 kd a N c cs wx))
  case first =>
    clear HAT
    go_region_held (fun (w' : World) => Hid (Sst w p B3 kd a N c cs w') ∧ w'.cell? ⟨B3, 0, none⟩ = some (.int .i64 (kn : Int)) ∧ w'.cell? ⟨B3, 1, none⟩ = some (.slice a N c)) (first | (with_reducible assumption) | (with_reducible exact HSD.out _ (by with_reducible assumption)))
      (first | ((with_reducible refine Calls.mono (H27.out _ (by with_reducible assumption)) ?_); rintro e wq1 ⟨rfl, hq1⟩) | ((with_reducible refine Calls.mono (H19.out _ (by with_reducible assumption)) ?_); rintro e wq2 ⟨rfl, hq2⟩) | ((with_reducible refine Calls.mono (H23.out _ (by with_reducible assumption)) ?_); rintro e wq3 ⟨rfl, hq3⟩) | ((with_reducible refine Calls.mono (H35.out _ (by with_reducible assumption)) ?_); rintro e wq4 ⟨rfl, hq4⟩) | ((with_reducible refine Calls.mono (H16.out _ (by with_reducible assumption)) ?_); rintro e wq5 ⟨rfl, hq5⟩) | ((with_reducible refine Calls.mono (H36.out _ (by with_reducible assumption)) ?_); rintro e wq6 ⟨rfl, hq6⟩))
    all_goals go_wp2_with fail
    all_goals go_meet
    all_goals first | exact ⟨rfl, hq6.1.out⟩ | exact ⟨rfl, hq5.1.out⟩
  case rest =>
    obtain ⟨rfl, HS1⟩ := hcut
    clear H27 H19 H23 H35 H16 H36 HSD hS0
    go_wp2_with fail
    go_loopw [5] (fun v5 wr => ∃ i : Nat, i ≤ N ∧ v5 = .int .i64 i ∧ Hid (Sst w p B3 kd a N c cs wr)) (fun v5 _ => N - (intOf v5).toNat)
    case atStart => exact ⟨0, Nat.zero_le _, rfl, HS1.out⟩
    case round =>
      obtain ⟨i, hi, rfl, HI⟩ := hrel
      clear HS1
      have b1 := (HST.out _ HI.out).2.2
      by_cases hlt : i < N
      · have c1 : (i : Int) < (N : Int) := by omega
        have hl : i < cs.length := by rw [HN.out]; exact hlt
        have HA : Hid (Calls Try.prog 20 #[.pointer (some ⟨p, 0, none⟩), .int .i64 (i : Int)] wr fun e w' => e = .returned (.tuple #[.string ⟨cs[i].1.toArray⟩, .string ⟨cs[i].2.toArray⟩]) ∧ Hid (Sst w p B3 kd a N c cs w')) := HAT.out wr i hl HI.out
        obtain ⟨S1, hS1⟩ : ∃ S, (⟨cs[i].1.toArray⟩ : ByteArray) = S := ⟨_, rfl⟩
        obtain ⟨S2, hS2⟩ : ∃ S, (⟨cs[i].2.toArray⟩ : ByteArray) = S := ⟨_, rfl⟩
        have HCC : Hid (∀ V, Sst w p B3 kd a N c cs V → ∃ b o, a = some ⟨b, o, none⟩ ∧ V.cell? ⟨b, o + i * 2, none⟩ = some (.string S1) ∧ V.cell? ⟨b, o + i * 2 + 1, none⟩ = some (.string S2)) := fun V q => by
          obtain ⟨b, o, c', hv, hc', hb, hcs⟩ := q.2.1.cells (fun e => by rw [e] at hl; exact absurd hl (Nat.not_lt_zero _))
          obtain ⟨z0, z1⟩ := hcs i hl
          exact ⟨b, o, (Value.slice.inj hv).1, by rw [← hS1]; exact z0, by rw [← hS2]; exact z1⟩
        rw [hS1, hS2] at HA
        clear hS1 hS2 hl HAT
        go_wp2_with fail
        refine Calls.mono HA.out ?_; rintro e w3 ⟨rfl, HS3⟩
        obtain ⟨b, o, rfl, y0, y1⟩ := HCC.out _ HS3.out
        have b3 := (HST.out _ HS3.out).2.2
        clear HA HCC HI b1
        go_wp2_with fail
        go_roundw
        case rel => exact ⟨i + 1, hlt, by rw [Int.natCast_add]; rfl, HS3.out⟩
        case measure => simp only [intOf]; omega
      · have c1 : ¬ (i : Int) < (N : Int) := by omega
        clear HAT
        go_wp2_with fail
        go_ret
        exact ⟨rfl, HI.out.2.2.2⟩
end Go.Proofs.Ytehaancdadmdkaa
