/- Pages in use: has, flip. Pages in use: flip, count; small functions. The sectors of a page, told one behind the other. A page is written. A page is written. -/
import Derived.Test.YtkhpmmmildcceaaGreatQRest
import Derived.Test.YtkhpmmmildcceaaGreatQBk
import Derived.Test.YtkhpmmmildcceaaGreatQShelf
import Derived.Laws.DeepStrings4
import Derived.Deep.RegionHeld
namespace Go.Proofs.YtkhpmmmildcceaaGreat
open Go.ChangeShapes Go.WideShapes Go.ChangeAt Go.RowKit
set_option linter.unusedVariables false
set_option maxRecDepth 100000

/-- The bytes of pages in use. -/
def Us (w : World) (b o : Nat) (u : List UInt8) : Prop := u.length = 63 ∧ ∀ i (x : UInt8), u[i]? = some x → w.cell? ⟨b, o + i, none⟩ = some (.int .u8 (x.toNat : Int))
def bitU (u : List UInt8) (k : Nat) : Bool := (u.getD (k / 8) 0).toNat.testBit (k % 8)
def hasU (u : List UInt8) (n : Int) : Bool := decide (1 ≤ n ∧ n ≤ 504) && bitU u (n - 1).toNat
def flipU (u : List UInt8) (k : Nat) : List UInt8 := u.set (k / 8) (u.getD (k / 8) 0 ^^^ UInt8.ofNat (2 ^ (k % 8)))
theorem Us.at {w : World} {b o : Nat} {u : List UInt8} (h : Us w b o u) (i : Nat) (hi : i < 63) : ∃ x : UInt8, u[i]? = some x ∧ w.cell? ⟨b, o + i, none⟩ = some (.int .u8 (x.toNat : Int)) := by
  have hl : i < u.length := by rw [h.1]; exact hi
  exact ⟨u[i], List.getElem?_eq_getElem hl, h.2 i _ (List.getElem?_eq_getElem hl)⟩
theorem bit_allF : ∀ (x : Fin 256) (j : Fin 8), (bits .and .u8 ((x.val : Int) / 2 ^ j.val) 1 == 1) = x.val.testBit j.val := by decide +kernel
theorem bit_all (x : UInt8) (j : Fin 8) : (bits .and .u8 ((x.toNat : Int) / 2 ^ j.val) 1 == 1) = x.toNat.testBit j.val := bit_allF ⟨x.toNat, x.toNat_lt⟩ j
theorem has_no {w : World} {v : Value} (n : Int) (h : ¬ (1 ≤ n ∧ n ≤ 504)) : Calls Tryz.prog 54 #[v, .int .i64 n] w fun e w' => e = .returned (.bool false) ∧ w' = w := by
  by_cases h1 : 1 ≤ n
  · have h2 : ¬ n ≤ 504 := fun q => h ⟨h1, q⟩
    go_enter Tryz.func54, Tryz.ntmps54
    go_wp2_with fail
    go_ret
    exact ⟨rfl, rfl⟩
  · go_enter Tryz.func54, Tryz.ntmps54
    go_wp2_with fail
    go_ret
    exact ⟨rfl, rfl⟩
theorem has_yes {w : World} {b o : Nat} {u : List UInt8} (h : Us w b o u) (k : Nat) (hk : k < 504) : Calls Tryz.prog 54 #[.pointer (some ⟨b, o, none⟩), .int .i64 (k + 1 : Int)] w fun e w' => e = .returned (.bool (bitU u k)) ∧ w' = w := by
  obtain ⟨x, hx, hc⟩ := h.at (k / 8) (by omega)
  have h1 : (1 : Int) ≤ (k : Int) + 1 := by omega
  have h2 : (k : Int) + 1 ≤ 504 := by omega
  have HB : Hid ((bits .and .u8 ((x.toNat : Int) / 2 ^ (k % 8)) 1 == 1) = bitU u k) := by
    have := bit_all x ⟨k % 8, Nat.mod_lt _ (by decide)⟩
    show _ = _
    rw [this]
    unfold bitU
    rw [List.getD_eq_getElem?_getD, hx]
    rfl
  have hq : k / 8 < 63 := by omega
  have hr : k % 8 < 8 := Nat.mod_lt _ (by decide)
  have hx8 := x.toNat_lt
  clear hx h
  go_enter Tryz.func54, Tryz.ntmps54
  go_wp2_with fail

  go_ret
  exact ⟨congrArg (fun z => Ending.returned (Value.bool z)) HB.out, rfl⟩
end Go.Proofs.YtkhpmmmildcceaaGreat

namespace Go.Proofs.YtkhpmmmildcceaaGreat
open Go.ChangeShapes Go.WideShapes Go.ChangeAt Go.RowKit
set_option linter.unusedVariables false
set_option maxRecDepth 100000

theorem flip_all : ∀ (x : Fin 256) (j : Fin 8), bits .xor .u8 (x.val : Int) ((2 : Int) ^ j.val % 256) = ((UInt8.ofNat x.val ^^^ UInt8.ofNat (2 ^ j.val)).toNat : Int) := by decide +kernel
set_option maxHeartbeats 1000000 in
theorem flip_is {w : World} {b o : Nat} {t : TypeId} {C : List Value} (h : Blk w b t C) (u : List UInt8) (hu : u.length = 63) (hc : ∀ i, i < 63 → C[o + i]? = (bv u)[i]?) (k : Nat) (hk : k < 504) : Calls Tryz.prog 52 #[.pointer (some ⟨b, o, none⟩), .int .i64 (k + 1 : Int)] w fun e w' => e = .returned (.tuple #[]) ∧ Blk w' b t (C.set (o + k / 8) (.int .u8 ((u.getD (k / 8) 0 ^^^ UInt8.ofNat (2 ^ (k % 8))).toNat : Int))) ∧ Kept (fun i => i = b) w w' := by
  have hl : k / 8 < u.length := by rw [hu]; omega
  obtain ⟨x, hx⟩ : ∃ x, u[k / 8]? = some x := ⟨u[k / 8], List.getElem?_eq_getElem hl⟩
  have hcell : w.cell? ⟨b, o + k / 8, none⟩ = some (.int .u8 (x.toNat : Int)) := h.cell (by rw [hc (k / 8) (by omega)]; unfold bv; rw [List.getElem?_map, hx]; rfl)
  have hfz := h.fz (o + k / 8)
  have hx8 := x.toNat_lt
  have hr : k % 8 < 8 := Nat.mod_lt _ (by decide)
  have hgd : u.getD (k / 8) 0 = x := by rw [List.getD_eq_getElem?_getD, hx]; rfl
  rw [hgd]
  have hfx := flip_all ⟨x.toNat, x.toNat_lt⟩ ⟨k % 8, hr⟩
  have hofx : UInt8.ofNat x.toNat = x := by simp
  have h0 : (0 : Int) ≤ (k : Int) := by omega
  have h5 : (k : Int) ≤ 503 := by omega
  simp only [hofx] at hfx
  have HFX : Hid _ := hfx
  clear hfx
  have HP : Hid (∀ (n : Nat), Blk ((w.setCell ⟨b, o + k / 8, none⟩ (.int .u8 ((x ^^^ UInt8.ofNat (2 ^ (k % 8))).toNat : Int))).drewN n) b t (C.set (o + k / 8) (.int .u8 ((x ^^^ UInt8.ofNat (2 ^ (k % 8))).toNat : Int))) ∧ Kept (fun i => i = b) w ((w.setCell ⟨b, o + k / 8, none⟩ (.int .u8 ((x ^^^ UInt8.ofNat (2 ^ (k % 8))).toNat : Int))).drewN n)) := fun n => ⟨h.set _ _, (Kept.setCell (F := fun i => i = b) (p := ⟨b, o + k / 8, none⟩) (Kept.refl _ w) (.inl rfl) _).trans ((Kept.refl _ _).drewN n) (fun _ z => z)⟩
  clear hx hc hl hgd h
  go_enter Tryz.func52, Tryz.ntmps52
  go_region
  rw [HFX.out]
  go_end0
  exact ⟨rfl, (HP.out 1).1, (HP.out 1).2⟩

def cntU (u : List UInt8) : Nat := (u.map (fun x => Lib.onesCount x.toNat)).sum
theorem ones_le (x : Fin 256) : Lib.onesCount x.val ≤ 8 := by revert x; decide +kernel
theorem cnt_le : ∀ u : List UInt8, cntU u ≤ 8 * u.length
  | [] => Nat.le_refl _
  | x :: u => by
    have h := cnt_le u
    have h8 : Lib.onesCount x.toNat ≤ 8 := ones_le ⟨x.toNat, x.toNat_lt⟩
    show Lib.onesCount x.toNat + cntU u ≤ 8 * (u.length + 1)
    omega
set_option maxHeartbeats 1000000 in
theorem count_is {w : World} {b o : Nat} {u : List UInt8} (h : Us w b o u) : Calls Tryz.prog 46 #[.pointer (some ⟨b, o, none⟩)] w fun e w' => e = .returned (.int .i64 (cntU u : Int)) ∧ w' = w := by
  have HU : Hid (Us w b o u) := h
  have HO : Hid (∀ (x : UInt8), Calls Tryz.prog 67 #[.int .u8 (x.toNat : Int)] w fun e w' => e = .returned (.int .i64 (Lib.onesCount x.toNat : Int)) ∧ w' = w) := fun x => by
    have := Tryz.bits_OnesCount8 (x.toNat : Int) w (by omega) (by have := x.toNat_lt; omega)
    exact this
  clear h
  go_enter Tryz.func46, Tryz.ntmps46
  go_wp2_with fail
  go_loopw [3, 5, 7] (fun v3 v5 v7 wr => ∃ i : Nat, i ≤ 63 ∧ v7 = .int .i64 i ∧ v3 = .int .i64 (cntU (u.take i) : Int) ∧ wr = w) (fun _ _ v7 _ => 63 - (intOf v7).toNat)
  case atStart => exact ⟨0, Nat.zero_le _, rfl, rfl, rfl⟩
  case round =>
    obtain ⟨i, hi, rfl, rfl, rfl⟩ := hrel
    by_cases hlt : i < 63
    · have c1 : (i : Int) < 63 := by omega
      obtain ⟨x, hx, hc⟩ := HU.out.at i hlt
      have hs : cntU (u.take (i + 1)) = cntU (u.take i) + Lib.onesCount x.toNat := by
        unfold cntU
        rw [List.take_add_one, hx]
        simp
      have hb : cntU (u.take i) ≤ 8 * 63 := Nat.le_trans (cnt_le _) (by rw [List.length_take]; omega)
      have hb8 := ones_le ⟨x.toNat, x.toNat_lt⟩
      have HO1 := HO.out x
      obtain ⟨n1, hn1⟩ : ∃ n, Lib.onesCount x.toNat = n := ⟨_, rfl⟩
      obtain ⟨n0, hn0⟩ : ∃ n, cntU (u.take i) = n := ⟨_, rfl⟩
      have HN : Hid (cntU (u.take (i + 1)) = n0 + n1) := by rw [hn1, hn0] at hs; exact hs
      rw [hn1] at HO1
      have hb9 : n1 ≤ 8 := by rw [← hn1]; exact hb8
      have hb0 : n0 ≤ 504 := by rw [← hn0]; omega
      rw [hn0]
      have HO2 : Hid _ := HO1
      clear HO1 hn1 hn0 hs hb hb8 HO hx
      go_wp2_with fail
      refine Calls.mono HO2.out ?_; rintro e w5 ⟨rfl, rfl⟩
      go_wp2_with fail
      go_roundw
      case rel => exact ⟨i + 1, hlt, by rw [Int.natCast_add]; rfl, by rw [HN.out, Int.natCast_add], by trivial⟩
      case measure => simp only [intOf]; omega
    · have c1 : ¬ (i : Int) < 63 := by omega
      obtain rfl : i = 63 := by omega
      have he : u.take 63 = u := List.take_of_length_le (by rw [HU.out.1]; exact Nat.le_refl _)
      rw [he]
      clear HO
      go_wp2_with fail
      go_ret
      exact ⟨rfl, rfl⟩
end Go.Proofs.YtkhpmmmildcceaaGreat

namespace Go.Proofs.YtkhpmmmildcceaaGreat
open Go.ChangeShapes Go.WideShapes Go.ChangeAt Go.RowKit
set_option linter.unusedVariables false
set_option maxRecDepth 100000

theorem sector_is {p : Nat} (fr pl : Nat) (hfr : fr ≤ 4096) (hpl : pl ≤ 1000) (w : World) (h : w.cell? ⟨p, 1, none⟩ = some (.int .i64 (fr : Int))) : Calls Tryz.prog 87 #[.pointer (some ⟨p, 0, none⟩), .int .i64 (pl : Int)] w fun e w' => e = .returned (.int .i64 ((fr : Int) + (pl : Int) * 8)) ∧ w' = w := by
  go_enter Tryz.func87, Tryz.ntmps87
  go_wp2_with fail
  go_ret
  exact ⟨rfl, rfl⟩

set_option maxHeartbeats 2000000 in
theorem each71 {p fr pl : Nat} (hfr : fr ≤ 4096) (hpl : pl ≤ 1000) (c1 c2 : Value) (I : Nat → World → Prop) (E : World → Prop) (hI : ∀ k V, I k V → V.cell? ⟨p, 1, none⟩ = some (.int .i64 (fr : Int))) (hC : ∀ k V, k < 8 → I k V → Calls Tryz.prog 71 #[.int .i64 ((fr : Int) + (pl : Int) * 8 + (k : Int)), .int .i64 ((k : Int) * 32), c1, c2] V fun e w' => (e = .returned (.int .i64 0) ∧ I (k + 1) w') ∨ (e = .returned (.int .i64 30) ∧ E w')) {w : World} (h0 : I 0 w) : Calls Tryz.prog 70 #[.pointer (some ⟨p, 0, none⟩), .int .i64 (pl : Int), .func (.func 71) #[] #[c1, c2]] w fun e w' => (e = .returned (.int .i64 0) ∧ I 8 w') ∨ (e = .returned (.int .i64 30) ∧ E w') := by
  have HI : Hid _ := hI
  have HC : Hid _ := hC
  have H0 : Hid (I 0 w) := h0
  have HS : Hid (∀ k V, I k V → Calls Tryz.prog 87 #[.pointer (some ⟨p, 0, none⟩), .int .i64 (pl : Int)] V fun e w' => e = .returned (.int .i64 ((fr : Int) + (pl : Int) * 8)) ∧ w' = V) := fun k V hV => sector_is fr pl hfr hpl V (hI k V hV)
  clear hI hC h0
  go_enter Tryz.func70, Tryz.ntmps70
  go_wp2_with fail
  go_loopw [7, 8, 9] (fun v7 v8 v9 wr => ∃ k : Nat, k ≤ 8 ∧ v9 = .int .i64 k ∧ Hid (I k wr)) (fun _ _ v9 _ => 8 - (intOf v9).toNat)
  case atStart => exact ⟨0, Nat.zero_le _, rfl, H0.out⟩
  case round =>
    obtain ⟨k, hk, rfl, HK⟩ := hrel
    clear H0
    by_cases hlt : k < 8
    · have q1 : (k : Int) < 8 := by omega
      go_wp2_with fail
      refine Calls.mono (HS.out k _ HK.out) ?_; rintro e w5 ⟨rfl, rfl⟩
      go_wp2_with fail
      refine Calls.mono (HC.out k _ hlt HK.out) ?_; rintro e w6 hor
      rcases hor with ⟨rfl, hr⟩ | ⟨rfl, hr⟩
      · have HR : Hid (I (k + 1) w6) := hr
        clear hr HK
        go_wp2_with fail
        go_roundw
        case rel => exact ⟨k + 1, hlt, by rw [Int.natCast_add]; rfl, HR.out⟩
        case measure => simp only [intOf]; omega
      · have HR : Hid (E w6) := hr
        clear hr HK
        go_wp2_with fail
        go_ret
        exact .inr ⟨rfl, HR.out⟩
    · have q1 : ¬ (k : Int) < 8 := by omega
      obtain rfl : k = 8 := by omega
      clear HS HC HI
      go_wp2_with fail
      go_ret
      exact .inl ⟨rfl, HK.out⟩

set_option maxHeartbeats 2000000 in
theorem each83 {p fr pl : Nat} (hfr : fr ≤ 4096) (hpl : pl ≤ 1000) (c1 c2 : Value) (I : Nat → World → Prop) (E : World → Prop) (hI : ∀ k V, I k V → V.cell? ⟨p, 1, none⟩ = some (.int .i64 (fr : Int))) (hC : ∀ k V, k < 8 → I k V → Calls Tryz.prog 83 #[.int .i64 ((fr : Int) + (pl : Int) * 8 + (k : Int)), .int .i64 ((k : Int) * 32), c1, c2] V fun e w' => (e = .returned (.int .i64 0) ∧ I (k + 1) w') ∨ (e = .returned (.int .i64 30) ∧ E w')) {w : World} (h0 : I 0 w) : Calls Tryz.prog 70 #[.pointer (some ⟨p, 0, none⟩), .int .i64 (pl : Int), .func (.func 83) #[] #[c1, c2]] w fun e w' => (e = .returned (.int .i64 0) ∧ I 8 w') ∨ (e = .returned (.int .i64 30) ∧ E w') := by
  have HI : Hid _ := hI
  have HC : Hid _ := hC
  have H0 : Hid (I 0 w) := h0
  have HS : Hid (∀ k V, I k V → Calls Tryz.prog 87 #[.pointer (some ⟨p, 0, none⟩), .int .i64 (pl : Int)] V fun e w' => e = .returned (.int .i64 ((fr : Int) + (pl : Int) * 8)) ∧ w' = V) := fun k V hV => sector_is fr pl hfr hpl V (hI k V hV)
  clear hI hC h0
  go_enter Tryz.func70, Tryz.ntmps70
  go_wp2_with fail
  go_loopw [7, 8, 9] (fun v7 v8 v9 wr => ∃ k : Nat, k ≤ 8 ∧ v9 = .int .i64 k ∧ Hid (I k wr)) (fun _ _ v9 _ => 8 - (intOf v9).toNat)
  case atStart => exact ⟨0, Nat.zero_le _, rfl, H0.out⟩
  case round =>
    obtain ⟨k, hk, rfl, HK⟩ := hrel
    clear H0
    by_cases hlt : k < 8
    · have q1 : (k : Int) < 8 := by omega
      go_wp2_with fail
      refine Calls.mono (HS.out k _ HK.out) ?_; rintro e w5 ⟨rfl, rfl⟩
      go_wp2_with fail
      refine Calls.mono (HC.out k _ hlt HK.out) ?_; rintro e w6 hor
      rcases hor with ⟨rfl, hr⟩ | ⟨rfl, hr⟩
      · have HR : Hid (I (k + 1) w6) := hr
        clear hr HK
        go_wp2_with fail
        go_roundw
        case rel => exact ⟨k + 1, hlt, by rw [Int.natCast_add]; rfl, HR.out⟩
        case measure => simp only [intOf]; omega
      · have HR : Hid (E w6) := hr
        clear hr HK
        go_wp2_with fail
        go_ret
        exact .inr ⟨rfl, HR.out⟩
    · have q1 : ¬ (k : Int) < 8 := by omega
      obtain rfl : k = 8 := by omega
      clear HS HC HI
      go_wp2_with fail
      go_ret
      exact .inl ⟨rfl, HK.out⟩
end Go.Proofs.YtkhpmmmildcceaaGreat

namespace Go.Proofs.YtkhpmmmildcceaaGreat
open Go.ChangeShapes Go.WideShapes Go.ChangeAt Go.RowKit
set_option linter.unusedVariables false
set_option maxRecDepth 100000

theorem str_slice (s : ByteArray) (lo hi : Nat) (h1 : lo ≤ hi) (h2 : hi ≤ s.size) (W : World) : (Instr.sliceAt 9 (.string s) (some (.int .i64 (lo : Int))) (some (.int .i64 (hi : Int))) none).run Tryz.prog W = .ok (.string (s.extract lo hi)) W := by
  rw [run_sliceAt_string W 9 _ _ _ _ Tryz.underlying9]
  have := run_slice_string_if (P := Tryz.prog) (w := W) 9 s .i64 .i64 (lo : Int) (hi : Int) Tryz.underlying9
  rw [this, if_pos (by omega), if_pos (by omega)]
  simp
theorem ext_list (s : ByteArray) (lo hi : Nat) : (s.extract lo hi).data.toList = (s.data.toList.drop lo).take (hi - lo) := by
  rw [ByteArray.data_extract, Array.toList_extract, List.extract_eq_take_drop]
theorem wrapk (y : Int) (h : -1000000 ≤ y ∧ y ≤ 1000000) : IntKind.i64.wrap y = y := by rw [IntKind.wrap_i64]; omega
theorem cell_lt {w : World} {q : Addr} {u : Value} (h : w.cell? q = some u) : q.block < w.heap.size := by
  unfold World.cell? at h
  cases hh : w.heap[q.block]? with
  | none => simp [hh] at h
  | some b => exact (Array.getElem?_eq_some_iff.1 hh).1
theorem cell_keptF {F : Nat → Prop} {w w' : World} {q : Addr} {u : Value} (h : w.cell? q = some u) (k : Kept F w w') (hn : ¬ F q.block) : w'.cell? q = some u := by
  have := k.block q.block (cell_lt h) hn
  unfold World.cell? at h ⊢
  rw [this]; exact h
def sec (l : List UInt8) (k : Nat) : List UInt8 := (l.drop (k * 32)).take 32
def wrP (d : Dk) (a : Nat) (l : List UInt8) : Nat → Dk
  | 0 => d
  | k + 1 => (wrP d a l k).write (a + k) (sec l k)
theorem Dk.write_n (d : Dk) (a : Nat) (t : List UInt8) : (d.write a t).n = d.n := by unfold Dk.write Dk.burnt; split <;> rfl
theorem Dk.write_q (d : Dk) (a : Nat) (t : List UInt8) : (d.write a t).Q.length ≤ d.Q.length + 1 := by
  unfold Dk.write Dk.burnt
  split
  · simp
  · exact Nat.le_succ _
theorem wrP_n (d : Dk) (a : Nat) (l : List UInt8) : ∀ k, (wrP d a l k).n = d.n
  | 0 => rfl
  | k + 1 => (Dk.write_n _ _ _).trans (wrP_n d a l k)
theorem wrP_q (d : Dk) (a : Nat) (l : List UInt8) : ∀ k, (wrP d a l k).Q.length ≤ d.Q.length + k
  | 0 => Nat.le_refl _
  | k + 1 => Nat.le_trans (Dk.write_q _ _ _) (Nat.succ_le_succ (wrP_q d a l k))
set_option maxHeartbeats 1000000 in
theorem clos71 {w : World} {F : Nat → Prop} {p pd b2 b3 : Nat} {d : Dk} {b : ByteArray} (hb2 : w.cell? ⟨b2, 0, none⟩ = some (.pointer (some ⟨p, 0, none⟩))) (hp0 : w.cell? ⟨p, 0, none⟩ = some (.pointer (some ⟨pd, 0, none⟩))) (hb3 : w.cell? ⟨b3, 0, none⟩ = some (.string b)) (hd : Disk w F pd d) (n2 : ¬ F b2) (np : ¬ F p) (n3 : ¬ F b3) (a : Nat) (ha : a < d.n) (k : Nat) (hk : k * 32 + 32 ≤ b.size) (hb : b.size ≤ 1000) (hn : d.Q.length < 1048576) : Calls Tryz.prog 71 #[.int .i64 (a : Int), .int .i64 ((k : Int) * 32), .pointer (some ⟨b2, 0, none⟩), .pointer (some ⟨b3, 0, none⟩)] w fun e w' => e = .returned (.int .i64 (if d.on then 0 else 30)) ∧ ∃ F', Disk w' F' pd (d.write a (sec b.data.toList k)) ∧ Kept F w w' ∧ Grew F F' w := by
  have hsl : ∀ W : World, (Instr.sliceAt 9 (.string b) (some (.int .i64 ((k : Int) * 32))) (some (.int .i64 ((k : Int) * 32 + 32))) none).run Tryz.prog W = .ok (.string (b.extract (k * 32) (k * 32 + 32))) W := fun W => by
    have := str_slice b (k * 32) (k * 32 + 32) (by omega) (by omega) W
    rw [show ((k * 32 + 32 : Nat) : Int) = (k : Int) * 32 + 32 by omega, show ((k * 32 : Nat) : Int) = (k : Int) * 32 by omega] at this
    exact this
  obtain ⟨t, ht⟩ : ∃ t, b.extract (k * 32) (k * 32 + 32) = t := ⟨_, rfl⟩
  have htl : t.data.toList = sec b.data.toList k := by rw [← ht, ext_list, Nat.add_sub_cancel_left]; rfl
  have hts : t.size = 32 := by rw [← ht, ByteArray.size_extract]; omega
  rw [ht] at hsl
  obtain ⟨er, her⟩ : ∃ er : Int, (if d.on then (0 : Int) else 30) = er := ⟨_, rfl⟩
  have HWR : Hid (∀ V, V = w.drew → Calls Tryz.prog 72 #[.pointer (some ⟨pd, 0, none⟩), .int .i64 (a : Int), .string t] V fun e w' => e = .returned (.int .i64 er) ∧ (w'.cell? ⟨b2, 0, none⟩ = some (.pointer (some ⟨p, 0, none⟩)) ∧ w'.cell? ⟨p, 0, none⟩ = some (.pointer (some ⟨pd, 0, none⟩)) ∧ w'.cell? ⟨b3, 0, none⟩ = some (.string b)) ∧ Hid (∃ F', Disk w' F' pd (d.write a (sec b.data.toList k)) ∧ Kept F w w' ∧ Grew F F' w)) := fun V hV => by
    subst hV
    have k0 : Kept (fun _ => False) w w.drew := (Kept.refl _ w).drew
    have hd' : Disk w.drew F pd d := hd.kept k0 (fun _ _ z => z)
    have := disk_write hd' a ha t hts hn
    rw [her, htl] at this
    refine this.mono fun e w' ⟨q1, F', q2, q3, q4⟩ => ⟨q1, ?_, F', q2, (k0.mono (fun _ z => z.elim)).trans q3 (fun _ z => .inl z), q4⟩
    exact ⟨cell_keptF (cell_keptF hb2 k0 (fun z => z)) q3 n2, cell_keptF (cell_keptF hp0 k0 (fun z => z)) q3 np, cell_keptF (cell_keptF hb3 k0 (fun z => z)) q3 n3⟩
  rw [her]
  have HSD : Hid (∀ w' : World, (w'.cell? ⟨b2, 0, none⟩ = some (.pointer (some ⟨p, 0, none⟩)) ∧ w'.cell? ⟨p, 0, none⟩ = some (.pointer (some ⟨pd, 0, none⟩)) ∧ w'.cell? ⟨b3, 0, none⟩ = some (.string b)) → (w'.drew.cell? ⟨b2, 0, none⟩ = some (.pointer (some ⟨p, 0, none⟩)) ∧ w'.drew.cell? ⟨p, 0, none⟩ = some (.pointer (some ⟨pd, 0, none⟩)) ∧ w'.drew.cell? ⟨b3, 0, none⟩ = some (.string b))) := fun w' z => z
  have hS0 : (w.cell? ⟨b2, 0, none⟩ = some (.pointer (some ⟨p, 0, none⟩)) ∧ w.cell? ⟨p, 0, none⟩ = some (.pointer (some ⟨pd, 0, none⟩)) ∧ w.cell? ⟨b3, 0, none⟩ = some (.string b)) := ⟨hb2, hp0, hb3⟩
  have hk0 : (0 : Int) ≤ (k : Int) * 32 := by omega
  have hk1 : (k : Int) * 32 + 32 ≤ 1000 := by omega
  have hw1 : IntKind.i64.wrap ((k : Int) * 32 + 32) = (k : Int) * 32 + 32 := wrapk _ (by omega)
  clear hd n2 np n3 ha hk hb hn ht htl hts her hb2 hp0 hb3
  go_enter Tryz.func71, Tryz.ntmps71
  go_upto_region 1 with fail
  go_region_held (fun (w' : World) => (w'.cell? ⟨b2, 0, none⟩ = some (.pointer (some ⟨p, 0, none⟩)) ∧ w'.cell? ⟨p, 0, none⟩ = some (.pointer (some ⟨pd, 0, none⟩)) ∧ w'.cell? ⟨b3, 0, none⟩ = some (.string b))) (first | (with_reducible assumption) | (with_reducible exact HSD.out _ (by with_reducible assumption))) (first | ((with_reducible refine Calls.mono (HWR.out _ rfl) ?_); rintro e w6 ⟨rfl, hS6, HR6⟩))
  all_goals go_wp2_with fail
  all_goals go_ret
  all_goals exact ⟨rfl, HR6.out⟩
end Go.Proofs.YtkhpmmmildcceaaGreat

namespace Go.Proofs.YtkhpmmmildcceaaGreat
open Go.ChangeShapes Go.WideShapes Go.ChangeAt Go.RowKit
set_option linter.unusedVariables false
set_option maxRecDepth 100000

def Out (F : Nat → Prop) (w w' : World) (pd : Nat) (dd : Dk) : Prop := ∃ F', Disk w' F' pd dd ∧ Kept F w w' ∧ Grew F F' w
theorem out_step {F F' F'' : Nat → Prop} {w V w' : World} (k1 : Kept F w V) (g1 : Grew F F' w) (k2 : Kept F' V w') (g2 : Grew F' F'' V) : Kept F w w' ∧ Grew F F'' w :=
  ⟨k1.trans k2 g1, fun i hi => by
    rcases g2 i hi with z | z
    · exact g1 i z
    · exact .inr (Nat.le_trans k1.size z)⟩
def onP (d : Dk) (a : Nat) (l : List UInt8) (k : Nat) : Prop := ∀ j, j < k → (wrP d a l j).on = true
theorem onP_succ {d : Dk} {a : Nat} {l : List UInt8} {k : Nat} (h : onP d a l k) (hk : (wrP d a l k).on = true) : onP d a l (k + 1) := fun j hj => by
  rcases Nat.lt_or_eq_of_le (Nat.lt_succ_iff.1 hj) with z | z
  · exact h j z
  · rw [z]; exact hk
/-- What writePlace answers. -/
def WrE (F : Nat → Prop) (w : World) (pd : Nat) (d : Dk) (a : Nat) (l : List UInt8) (e : Ending) (w' : World) : Prop := (e = .returned (.int .i64 0) ∧ onP d a l 8 ∧ Out F w w' pd (wrP d a l 8)) ∨ (e = .returned (.int .i64 30) ∧ ∃ k, k < 8 ∧ onP d a l k ∧ (wrP d a l k).on = false ∧ Out F w w' pd (wrP d a l (k + 1)))
set_option maxHeartbeats 1000000 in
theorem place_write {w : World} {F : Nat → Prop} {p pd : Nat} {d : Dk} (fr pl : Nat) (hp0 : w.cell? ⟨p, 0, none⟩ = some (.pointer (some ⟨pd, 0, none⟩))) (hp1 : w.cell? ⟨p, 1, none⟩ = some (.int .i64 (fr : Int))) (hd : Disk w F pd d) (np : ¬ F p) (hfr : fr ≤ 4096) (hpl : pl ≤ 1000) (hin : (fr + pl * 8) + 8 ≤ d.n) (b : ByteArray) (hb : b.size = 256) (hn : d.Q.length + 8 ≤ 1048576) : Calls Tryz.prog 49 #[.pointer (some ⟨p, 0, none⟩), .int .i64 (pl : Int), .string b] w fun e w' => WrE F w pd d (fr + pl * 8) b.data.toList e w' := by
  obtain ⟨W, hW⟩ : ∃ W, (w.alloc (.cells #[.pointer (some ⟨p, 0, none⟩)] 27)).alloc (.cells #[.string b] 9) = W := ⟨_, rfl⟩
  have k0 : Kept (fun _ => False) w W := hW ▸ ((Kept.refl _ w).alloc _).alloc _
  have hsz : W.heap.size = w.heap.size + 2 := by rw [← hW]; simp
  have c2 : W.cell? ⟨w.heap.size, 0, none⟩ = some (.pointer (some ⟨p, 0, none⟩)) := by
    rw [← hW]
    exact cell_keptF ((Blk.new w 27 [.pointer (some ⟨p, 0, none⟩)]).cell (i := 0) rfl) ((Kept.refl (fun _ => False) _).alloc _) (fun z => z)
  have c3 : W.cell? ⟨w.heap.size + 1, 0, none⟩ = some (.string b) := by
    rw [← hW]
    simp
  have p0 := cell_keptF hp0 k0 (fun z => z)
  have p1 := cell_keptF hp1 k0 (fun z => z)
  have hdW : Disk W F pd d := hd.kept k0 (fun _ _ z => z)
  have hbd := hd.bound
  have hpw := cell_lt hp0
  have n2 : ∀ F', Grew F F' W → ¬ F' w.heap.size := fun F' g z => by
    rcases g _ z with q | q
    · exact absurd (hbd _ q) (Nat.lt_irrefl _)
    · omega
  have n3 : ∀ F', Grew F F' W → ¬ F' (w.heap.size + 1) := fun F' g z => by
    rcases g _ z with q | q
    · have := hbd _ q; omega
    · omega
  have npp : ∀ F', Grew F F' W → ¬ F' p := fun F' g z => by
    rcases g _ z with q | q
    · exact np q
    · have hpw' : p < w.heap.size := hpw; omega
  have m2 : ¬ F w.heap.size := fun q => absurd (hbd _ q) (Nat.lt_irrefl _)
  have m3 : ¬ F (w.heap.size + 1) := fun q => by have := hbd _ q; omega
  have HE : Hid (∀ V, V = W → Calls Tryz.prog 70 #[.pointer (some ⟨p, 0, none⟩), .int .i64 (pl : Int), .func (.func 71) #[] #[.pointer (some ⟨w.heap.size, 0, none⟩), .pointer (some ⟨(w.heap.size + 1), 0, none⟩)]] V fun e w' => WrE F w pd d (fr + pl * 8) b.data.toList e w') := fun V hV => by
    rw [hV]
    refine (each71 hfr hpl (.pointer (some ⟨w.heap.size, 0, none⟩)) (.pointer (some ⟨(w.heap.size + 1), 0, none⟩)) (fun k U => onP d (fr + pl * 8) b.data.toList k ∧ Out F W U pd (wrP d (fr + pl * 8) b.data.toList k)) (fun U => ∃ k, k < 8 ∧ onP d (fr + pl * 8) b.data.toList k ∧ (wrP d (fr + pl * 8) b.data.toList k).on = false ∧ Out F W U pd (wrP d (fr + pl * 8) b.data.toList (k + 1))) ?_ ?_ ⟨fun j hj => absurd hj (Nat.not_lt_zero _), F, hdW, Kept.refl _ _, fun i hi => .inl hi⟩).mono ?_
    · intro k U ⟨_, F', g1, g2, g3⟩
      exact cell_keptF p1 g2 np
    · intro k U hk ⟨g0, F', g1, g2, g3⟩
      have hq := wrP_q d (fr + pl * 8) b.data.toList k
      have hnn := wrP_n d (fr + pl * 8) b.data.toList k
      have ea : ((fr : Int) + (pl : Int) * 8 + (k : Int)) = (((fr + pl * 8) + k : Nat) : Int) := by omega
      rw [ea]
      refine (clos71 (cell_keptF c2 g2 m2) (cell_keptF p0 g2 np) (cell_keptF c3 g2 m3) g1 (n2 F' g3) (npp F' g3) (n3 F' g3) ((fr + pl * 8) + k) (by rw [hnn]; omega) k (by omega) (by omega) (by omega)).mono ?_
      rintro e w' ⟨q1, F'', q2, q3, q4⟩
      have hs := out_step g2 g3 q3 q4
      have hO : Out F W w' pd (wrP d (fr + pl * 8) b.data.toList (k + 1)) := ⟨F'', q2, hs.1, hs.2⟩
      by_cases hon : (wrP d (fr + pl * 8) b.data.toList k).on = true
      · rw [if_pos hon] at q1
        exact .inl ⟨q1, onP_succ g0 hon, hO⟩
      · rw [if_neg hon] at q1
        exact .inr ⟨q1, k, hk, g0, Bool.eq_false_iff.2 hon, hO⟩
    · have hto : ∀ (U : World) (dd : Dk), Out F W U pd dd → Out F w U pd dd := fun U dd ⟨F', g1, g2, g3⟩ => ⟨F', g1, (k0.mono (fun _ z => z.elim)).trans g2 (fun i z => .inl z), fun i hi => by
        rcases g3 i hi with z | z
        · exact .inl z
        · exact .inr (by omega)⟩
      rintro e w' (⟨q1, q2, q3⟩ | ⟨q1, k, q2, q3, q4, q5⟩)
      · exact .inl ⟨q1, q2, hto _ _ q3⟩
      · exact .inr ⟨q1, k, q2, q3, q4, hto _ _ q5⟩
  have HW : Hid ((w.alloc (.cells #[.pointer (some ⟨p, 0, none⟩)] 27)).alloc (.cells #[.string b] 9) = W) := hW
  clear hW k0 hsz c2 c3 p0 p1 hdW hbd hpw n2 n3 npp m2 m3 hp0 hp1 hd np hin hb hn
  go_enter Tryz.func49, Tryz.ntmps49
  go_wp2_with fail
  refine Calls.mono (HE.out _ HW.out) ?_
  rintro e w5 hor
  rcases hor with ⟨rfl, q⟩ | ⟨rfl, q⟩
  · have HQ : Hid _ := q
    clear q
    go_wp2_with fail
    go_ret
    exact .inl ⟨rfl, HQ.out⟩
  · have HQ : Hid _ := q
    clear q
    go_wp2_with fail
    go_ret
    exact .inr ⟨rfl, HQ.out⟩
end Go.Proofs.YtkhpmmmildcceaaGreat
