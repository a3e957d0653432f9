/- wal: sectors told to a closure. -/
import Derived.Test.YthfhjfemcmdmfaaScan
namespace Go.Proofs.Ythfhjfemcmdmfaa
open Go.ChangeShapes Go.WideShapes Go.ChangeAt Go.RowKit
set_option linter.unusedVariables false
set_option maxRecDepth 100000

/-- Sectors are told one behind the other, to the first error: to the closure that reads. -/
theorem each_open (a b : Nat) (hab : a ≤ b) (hb : b ≤ 4096) (x y : Value) (Inv Out : Nat → World → Prop) (w : World) (h0 : Inv a w)
    (hc : ∀ i wr, a ≤ i → i < b → Inv i wr → Calls Try.prog 37 #[.int .i64 (i : Int), x, y] wr fun e w' => ∃ c : Nat, c ≤ 30 ∧ e = .returned (.int .i64 (c : Int)) ∧ (c = 0 → Inv (i + 1) w') ∧ (c ≠ 0 → Out c w')) :
    Calls Try.prog 36 #[.int .i64 (a : Int), .int .i64 (b : Int), .func (.func 37) #[] #[x, y]] w fun e w' => ∃ c : Nat, e = .returned (.int .i64 (c : Int)) ∧ (c = 0 → Inv b w') ∧ (c ≠ 0 → Out c w') := by
  have HC := (show Hid _ from hc)
  have H0 := (show Hid _ from h0)
  clear hc h0
  go_enter Try.func36, Try.ntmps36
  go_wp2_with fail
  go_loopw [7] (fun i wr => ∃ k : Nat, a ≤ k ∧ k ≤ b ∧ i = .int .i64 k ∧ Hid (Inv k wr))
    (fun i _ => b - (intOf i).toNat)
  case atStart => exact ⟨a, Nat.le_refl _, hab, rfl, H0.out⟩
  case round =>
    obtain ⟨k, hk1, hk2, rfl, HI⟩ := hrel
    by_cases hlt : k < b
    · have hlti : (k : Int) < (b : Int) := by omega
      have HX := (show Hid _ from HC.out k wr hk1 hlt HI.out)
      go_wp2_with fail
      refine Calls.mono HX.out ?_; rintro e w1 ⟨c, hc30, rfl, h1, h2⟩
      by_cases hz : c = 0
      · subst hz
        have H1 := (show Hid _ from h1 rfl)
        clear h1 h2 HX
        go_wp2_with fail
        go_roundw
        case rel => exact ⟨k + 1, by omega, by omega, by go_num, H1.out⟩
        case measure => simp [intOf]; omega
      · have hzi : ((c : Int) == 0) = false := by simp; omega
        have H2 := (show Hid _ from h2 hz)
        clear h1 h2 HX
        go_wp2_with fail
        go_ret
        exact ⟨c, rfl, fun e => absurd e hz, fun _ => H2.out⟩
    · have hlti : ¬ (k : Int) < (b : Int) := by omega
      have ek : k = b := by omega
      subst ek
      go_wp2_with fail
      go_ret
      exact ⟨0, rfl, fun _ => HI.out, fun h => absurd rfl h⟩

/-- Sectors are told one behind the other, to the first error: to the closure that writes. -/
theorem each_lay (a b : Nat) (hab : a ≤ b) (hb : b ≤ 4096) (x y : Value) (Inv Out : Nat → World → Prop) (w : World) (h0 : Inv a w)
    (hc : ∀ i wr, a ≤ i → i < b → Inv i wr → Calls Try.prog 66 #[.int .i64 (i : Int), x, y] wr fun e w' => ∃ c : Nat, c ≤ 30 ∧ e = .returned (.int .i64 (c : Int)) ∧ (c = 0 → Inv (i + 1) w') ∧ (c ≠ 0 → Out c w')) :
    Calls Try.prog 36 #[.int .i64 (a : Int), .int .i64 (b : Int), .func (.func 66) #[] #[x, y]] w fun e w' => ∃ c : Nat, e = .returned (.int .i64 (c : Int)) ∧ (c = 0 → Inv b w') ∧ (c ≠ 0 → Out c w') := by
  have HC := (show Hid _ from hc)
  have H0 := (show Hid _ from h0)
  clear hc h0
  go_enter Try.func36, Try.ntmps36
  go_wp2_with fail
  go_loopw [7] (fun i wr => ∃ k : Nat, a ≤ k ∧ k ≤ b ∧ i = .int .i64 k ∧ Hid (Inv k wr))
    (fun i _ => b - (intOf i).toNat)
  case atStart => exact ⟨a, Nat.le_refl _, hab, rfl, H0.out⟩
  case round =>
    obtain ⟨k, hk1, hk2, rfl, HI⟩ := hrel
    by_cases hlt : k < b
    · have hlti : (k : Int) < (b : Int) := by omega
      have HX := (show Hid _ from HC.out k wr hk1 hlt HI.out)
      go_wp2_with fail
      refine Calls.mono HX.out ?_; rintro e w1 ⟨c, hc30, rfl, h1, h2⟩
      by_cases hz : c = 0
      · subst hz
        have H1 := (show Hid _ from h1 rfl)
        clear h1 h2 HX
        go_wp2_with fail
        go_roundw
        case rel => exact ⟨k + 1, by omega, by omega, by go_num, H1.out⟩
        case measure => simp [intOf]; omega
      · have hzi : ((c : Int) == 0) = false := by simp; omega
        have H2 := (show Hid _ from h2 hz)
        clear h1 h2 HX
        go_wp2_with fail
        go_ret
        exact ⟨c, rfl, fun e => absurd e hz, fun _ => H2.out⟩
    · have hlti : ¬ (k : Int) < (b : Int) := by omega
      have ek : k = b := by omega
      subst ek
      go_wp2_with fail
      go_ret
      exact ⟨0, rfl, fun _ => HI.out, fun h => absurd rfl h⟩

/-- The bytes of sectors one behind the other. -/
def cat (d : Dk) (a : Nat) : Nat → List UInt8
  | 0 => []
  | k + 1 => cat d a k ++ d.last (a + k)
theorem Lies.lastLen {w : World} {F : Nat → Prop} {p bs bl : Nat} {v : Value} {d : Dk} {L : Nat → List UInt8} (h : Lies w F p bs bl v d L) : ∀ i, i < d.n → (L i).length = 32 := h.last.len
theorem Disk.lastLen {w : World} {F : Nat → Prop} {p : Nat} {d : Dk} (h : Disk w F p d) (i : Nat) (hi : i < d.n) : (d.last i).length = 32 := by
  obtain ⟨bs, bl, v, h⟩ := h
  exact h.last.len i hi
theorem cat_len {w : World} {F : Nat → Prop} {p : Nat} {d : Dk} (h : Disk w F p d) (a k : Nat) (hk : a + k ≤ d.n) : (cat d a k).length = 32 * k := by
  induction k with
  | zero => rfl
  | succ k ih => rw [cat, List.length_append, ih (by omega), h.lastLen (a + k) (by omega)]; omega

/-- One sector is read, and put behind the others. -/
theorem tell_read {w : World} {F : Nat → Prop} {p : Nat} {d : Dk} (hd : Disk w F p d) (N : Nat) (hN : w.cell? ⟨N, 0, none⟩ = some (.pointer (some ⟨p, 0, none⟩))) (hF : ∀ k, F k → k < N + 1) (hoff : d.off = false) (a k : Nat) (hk : a + k < d.n)
    (hb : Lib.IsBuilder 83 5 (N + 1) (N + 1) (Lib.byteCells (cat d a k)) w) :
    Calls Try.prog 37 #[.int .i64 ((a + k : Nat) : Int), .pointer (some ⟨N, 0, none⟩), .pointer (some ⟨N + 1, 0, none⟩)] w fun e w' => e = .returned (.int .i64 0) ∧ Lib.IsBuilder 83 5 (N + 1) (N + 1) (Lib.byteCells (cat d a (k + 1))) w' ∧ Below (N + 1) w w' := by
  have HR := (show Hid _ from read_is hd (a + k) hk)
  have hl := hd.lastLen (a + k) hk
  have hc := cat_len hd a k (by omega)
  have hn := hd.sized.2
  have hlt : N + 1 < w.heap.size := by
    rcases hb with h | h
    · exact h.lt
    · exact h.lt
  have HW : Hid (Calls Try.prog 38 #[.pointer (some ⟨N + 1, 0, none⟩), .string ⟨(d.last (a + k)).toArray⟩] w fun e w' => e = .returned (.tuple #[.int .i64 (⟨(d.last (a + k)).toArray⟩ : ByteArray).size, .nilIface]) ∧ Lib.BuilderAt 83 5 (N + 1) (N + 1) (.pointer (some ⟨N + 1, 0, none⟩)) (Lib.byteCells (cat d a k) ++ Lib.strCells ⟨(d.last (a + k)).toArray⟩) w' ∧ Below (N + 1) w w') :=
    build_write hb ⟨(d.last (a + k)).toArray⟩ (by rw [Lib.byteCells_length, hc, show (⟨(d.last (a + k)).toArray⟩ : ByteArray).size = (d.last (a + k)).length from rfl, hl]; omega) (by omega)
  have HE : Hid (Lib.byteCells (cat d a k) ++ Lib.strCells ⟨(d.last (a + k)).toArray⟩ = Lib.byteCells (cat d a (k + 1))) := by
    show _ = Lib.byteCells (cat d a k ++ d.last (a + k))
    rw [Lib.strCells_eq]
    simp [Lib.byteCells]
  rw [hoff, if_neg (by simp)] at HR
  generalize (⟨(d.last (a + k)).toArray⟩ : ByteArray) = x at *
  generalize a + k = m at *
  clear hb hd hc hl
  go_enter Try.func37, Try.ntmps37
  go_wp2_with fail
  refine Calls.mono HR.out ?_; rintro e w1 ⟨rfl, rfl⟩
  go_wp2_with fail
  refine Calls.mono HW.out ?_; rintro e w2 ⟨rfl, h1, h2⟩
  have H2 : Hid (Lib.IsBuilder 83 5 (N + 1) (N + 1) (Lib.byteCells (cat d a (k + 1))) w2 ∧ Below (N + 1) w1 w2) := ⟨.inr (by rw [← HE.out]; exact h1), h2⟩
  clear h1 h2 HW HE
  go_wp2_with fail
  go_ret
  exact ⟨rfl, H2.out⟩

/-- While the power is off no sector is read. -/
theorem tell_off {w : World} {F : Nat → Prop} {p : Nat} {d : Dk} (hd : Disk w F p d) (N : Nat) (hN : w.cell? ⟨N, 0, none⟩ = some (.pointer (some ⟨p, 0, none⟩))) (hoff : d.off = true) (m : Nat) (hm : m < d.n) (B : Nat) (bs : List Value) (hB : B ≤ w.heap.size) (hlen : bs.length ≤ 1048576)
    (hb : Lib.IsBuilder 83 5 B (N + 1) bs w) :
    Calls Try.prog 37 #[.int .i64 (m : Int), .pointer (some ⟨N, 0, none⟩), .pointer (some ⟨N + 1, 0, none⟩)] w fun e w' => e = .returned (.int .i64 30) ∧ Below B w w' := by
  have HR := (show Hid _ from read_is hd m hm)
  rw [hoff, if_pos rfl] at HR
  have HW := (show Hid _ from build_write hb ⟨#[]⟩ (by show bs.length + 0 ≤ 1048576; omega) hB)
  clear hb hd
  go_enter Try.func37, Try.ntmps37
  go_wp2_with fail
  refine Calls.mono HR.out ?_; rintro e w1 ⟨rfl, rfl⟩
  go_wp2_with fail
  refine Calls.mono HW.out ?_; rintro e w2 ⟨rfl, h1, h2⟩
  have H2 := (show Hid _ from h2)
  clear h1 h2 HW
  go_wp2_with fail
  go_ret
  exact ⟨rfl, H2.out⟩
end Go.Proofs.Ythfhjfemcmdmfaa
