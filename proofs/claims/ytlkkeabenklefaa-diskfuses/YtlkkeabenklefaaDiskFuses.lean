/- Proved: for every list at of numbers and every number fuse, quaysidelaw03.DiskFuses(at, fuse) returns true and both arguments read as before (no condition). -/
import Derived.Test.YtlkkeabenklefaaRows
import Derived.WalkKit
import Derived.Test.YtlkkeabenklefaaAwake
import Derived.ProofKit
import Derived.OpenShut
import Derived.ShutString
import Derived.ChangeOld
import Derived.Below
namespace Go.Proofs.Ytlkkeabenklefaa.diskFuses
open Go.ChangeShapes Go.WideShapes Go.ChangeAt Go.RowKit
open Go.ChangeMaps (open_string shut_string)
set_option linter.unusedVariables false

theorem own : ownKnob Try.prog.godebug = none := by kernel_rfl
theorem laidOut : laidOutB Try.prog = true := by kernel_rfl

/-- WHAT THE WALK IS TOLD OF A SLICE OF INTEGERS THAT CAME IN: it is nil; or it leads to a row of 'cap' cells, the numbers 'zs' (the first 'len' are its elements, the rest its spare room), each fitting its kind. -/
def IsRow (k : IntKind) (w : World) (a : Option Addr) (len cap : Nat) (zs : List Int) : Prop :=
  (a = none ∧ len = 0 ∧ cap = 0 ∧ zs = []) ∨
  ∃ x, a = some x ∧ len ≤ cap ∧ cap ≤ maxLen ∧ zs.length = cap ∧ (∀ i, i < zs.length → w.cell? (x.add i) = some (.int k (zs.getD i 0))) ∧ ∀ n ∈ zs, (Lit.int k n).wf = true

theorem and_byte (n : Int) : bits .and .i64 n 255 = n % 256 := by
  have h : (BitVec.ofInt 64 255).toNat = 2 ^ 8 - 1 := by decide
  have key : (BitVec.ofInt 64 n &&& BitVec.ofInt 64 255).toNat = (n % ((2 ^ 64 : Nat) : Int)).toNat % 2 ^ 8 := by
    rw [BitVec.toNat_and, BitVec.toNat_ofInt, h, Nat.and_two_pow_sub_one_eq_mod]
  show IntKind.i64.wrap ((BitVec.ofInt 64 n &&& BitVec.ofInt 64 255).toNat : Nat) = n % 256
  rw [key, IntKind.wrap_i64]
  omega
theorem and_seven (n : Int) : bits .and .i64 n 7 = n % 8 := by
  have h : (BitVec.ofInt 64 7).toNat = 2 ^ 3 - 1 := by decide
  have key : (BitVec.ofInt 64 n &&& BitVec.ofInt 64 7).toNat = (n % ((2 ^ 64 : Nat) : Int)).toNat % 2 ^ 3 := by
    rw [BitVec.toNat_and, BitVec.toNat_ofInt, h, Nat.and_two_pow_sub_one_eq_mod]
  show IntKind.i64.wrap ((BitVec.ofInt 64 n &&& BitVec.ofInt 64 7).toNat : Nat) = n % 8
  rw [key, IntKind.wrap_i64]
  omega

/-- What is left of a fuse, and the disk. -/
def Fz (left : Nat) (d : Dk) : Prop := d.n = 8 ∧ (left = 0 → d.fuse = 0 ∨ d.off = true) ∧ (0 < left → d.off = false ∧ d.fuse = (left : Int))
theorem fz_on {l : Nat} {d : Dk} (h : Fz l d) : d.on = decide (0 < l) := by
  obtain ⟨_, h0, h1⟩ := h
  unfold Dk.on burn
  by_cases e : 0 < l
  · obtain ⟨a, b⟩ := h1 e
    rw [a, b, if_neg (by omega), if_neg (by simp), decide_eq_true e]
  · rw [decide_eq_false e]
    rcases h0 (by omega) with a | a
    · rw [if_pos a]
    · split
      · rfl
      · rfl
theorem fz_burnt {l : Nat} {d : Dk} (h : Fz l d) : d.burnt.n = 8 ∧ d.burnt.off = decide (l = 0) ∧ (0 < l → d.burnt.fuse = ((l - 1 : Nat) : Int)) := by
  obtain ⟨hn, h0, h1⟩ := h
  refine ⟨hn, ?_, fun e => ?_⟩
  · show (burn d.fuse d.off).2.1 = _
    unfold burn
    by_cases e : 0 < l
    · obtain ⟨a, b⟩ := h1 e
      rw [a, b, if_neg (by omega), if_neg (by simp), decide_eq_false (by omega)]
    · rw [decide_eq_true (by omega)]
      rcases h0 (by omega) with a | a
      · rw [if_pos a]
      · split
        · rfl
        · rfl
  · show (burn d.fuse d.off).1 = _
    obtain ⟨a, b⟩ := h1 e
    unfold burn
    rw [a, b, if_neg (by omega), if_neg (by simp)]
    show (if (0 : Int) < (l : Int) then (l : Int) - 1 else (l : Int)) = _
    rw [if_pos (by omega)]
    omega
theorem fz_next {l : Nat} {d d' : Dk} (h : Fz l d) (e1 : d'.n = d.burnt.n) (e2 : d'.off = d.burnt.off) (e3 : d'.fuse = d.burnt.fuse) : Fz (l - 1) d' ∧ d'.off = decide (l = 0) := by
  obtain ⟨a, b, c⟩ := fz_burnt h
  refine ⟨⟨e1.trans a, fun e => ?_, fun e => ?_⟩, e2.trans b⟩
  · by_cases h0 : l = 0
    · exact .inr (by rw [e2, b, decide_eq_true h0])
    · exact .inl (by rw [e3, c (by omega)]; omega)
  · exact ⟨by rw [e2, b, decide_eq_false (by omega)], by rw [e3, c (by omega)]⟩
theorem fz_write {l : Nat} {d : Dk} (h : Fz l d) (a : Nat) (t : List UInt8) : (Fz (l - 1) (d.write a t) ∧ (d.write a t).off = decide (l = 0)) ∧ (d.write a t).Q.length ≤ d.Q.length + 1 := by
  unfold Dk.write
  split
  · exact ⟨fz_next h rfl rfl rfl, by simp⟩
  · exact ⟨fz_next h rfl rfl rfl, Nat.le_succ _⟩
theorem fz_flush {l : Nat} {d : Dk} (h : Fz l d) : (Fz (l - 1) d.flush ∧ d.flush.off = decide (l = 0)) ∧ d.flush.Q.length ≤ d.Q.length + 1 := by
  unfold Dk.flush
  split
  · exact ⟨fz_next h rfl rfl rfl, by simp⟩
  · exact ⟨fz_next h rfl rfl rfl, Nat.le_succ _⟩

/-- What a round asks of the disk: one write or flush, and what is told. -/
theorem round_write {w0 w : World} {p l : Nat} {d : Dk} (h : At w0 w p d) (hf : Fz l d) (hq : d.Q.length ≤ 100) (a : Nat) (ha : a < 8) :
    Calls Try.prog 11 #[.pointer (some ⟨p, 0, none⟩), .int .i64 (a : Int), .string (fill 120)] w fun e w' => e = .returned (.int .i64 (if l = 0 then 30 else 0)) ∧ ∃ d', At w0 w' p d' ∧ Fz (l - 1) d' ∧ d'.off = decide (l = 0) ∧ d'.Q.length ≤ d.Q.length + 1 := by
  refine (h.write a (by rw [hf.1]; exact ha) (fill 120) (fill_size 120) (by omega)).mono ?_
  rintro e w' ⟨rfl, k⟩
  rw [fz_on hf]
  refine ⟨?_, _, k, (fz_write hf a _).1.1, (fz_write hf a _).1.2, (fz_write hf a _).2⟩
  by_cases e : l = 0
  · simp [e]
  · simp [e]
theorem round_flush {w0 w : World} {p l : Nat} {d : Dk} (h : At w0 w p d) (hf : Fz l d) (hq : d.Q.length ≤ 100) :
    Calls Try.prog 15 #[.pointer (some ⟨p, 0, none⟩)] w fun e w' => e = .returned (.int .i64 (if l = 0 then 30 else 0)) ∧ ∃ d', At w0 w' p d' ∧ Fz (l - 1) d' ∧ d'.off = decide (l = 0) ∧ d'.Q.length ≤ d.Q.length + 1 := by
  refine (h.flush (by omega)).mono ?_
  rintro e w' ⟨rfl, k⟩
  rw [fz_on hf]
  refine ⟨?_, _, k, (fz_flush hf).1.1, (fz_flush hf).1.2, (fz_flush hf).2⟩
  by_cases e : l = 0
  · simp [e]
  · simp [e]

set_option maxRecDepth 100000 in
set_option maxHeartbeats 4000000 in
theorem walk (a0 : Option Addr) (len0 cap0 : Nat) (z0 : List Int) (a1 : Int) (w : World) (w0 : IsRow .i64 w a0 len0 cap0 z0) (w1 : (Lit.int .i64 a1).wf = true) :
    Calls Try.prog 5 #[.slice a0 len0 cap0, .int .i64 a1] w fun e w' => e = .returned (.bool true) ∧ Below w.heap.size w w' := by
  obtain ⟨x, hx, hx1⟩ : ∃ x : Nat, bits .and .i64 a1 255 = (x : Int) ∧ x ≤ 255 := ⟨(a1 % 256).toNat, by rw [and_byte]; omega, by omega⟩
  have hr : (x : Int).tmod 40 = ((x % 40 : Nat) : Int) := (Int.ofNat_tmod x 40).symm
  obtain ⟨y, hy⟩ : ∃ y, x % 40 = y := ⟨_, rfl⟩
  have hy1 : y ≤ 39 := by omega
  rw [hy] at hr
  clear hy
  have hlm : len0 ≤ 9223372036854775807 := by
    rcases w0 with ⟨_, h, _⟩ | ⟨x, _, h1, h2, _⟩
    · omega
    · unfold maxLen at h2; omega
  have HC0 : Hid (∀ k, k < len0 → ∃ b o, a0 = some ⟨b, o, none⟩ ∧ ∀ j, j < len0 → w.cell? ⟨b, o + j, none⟩ = some (.int .i64 (z0.getD j 0))) := by
    intro k hk
    rcases w0 with ⟨_, h, _⟩ | ⟨x, rfl, hlc, hm, hzl, hcell, hwz⟩
    · omega
    · obtain ⟨b, off, rfl, hc⟩ := ints_at hcell (by omega)
      exact ⟨b, off, rfl, fun j hj => hc j (by omega)⟩
  have HN := (show Hid _ from new_at 8 (by omega) (by omega) w)
  have HX : Hid (∀ w', Calls Try.prog 10 #[.int .u8 120] w' fun e w'' => e = .returned (.string (fill 120)) ∧ Kept (fun _ => False) w' w'') := filled_is 120
  have HAW := (show Hid _ from awake_is)
  clear w0 w1
  go_enter Try.func5, Try.ntmps5
  go_wp2_with fail
  refine Calls.mono HN.out ?_; rintro e w1 ⟨p, rfl, g1⟩
  have HF1 := (show Hid _ from g1.fuse (y : Int) (by omega))
  clear g1 HN
  go_wp2_with fail
  refine Calls.mono HF1.out ?_; rintro e w2 ⟨rfl, g2⟩
  have H0 : Hid (∃ d, At w w2 p d ∧ Fz y d ∧ d.Q.length ≤ 0) := ⟨_, g2, ⟨rfl, fun e => .inl (by show max (y : Int) (-1) = 0; omega), fun e => ⟨rfl, by show max (y : Int) (-1) = _; omega⟩⟩, Nat.le_refl _⟩
  clear g2 HF1
  go_wp2_with fail
  go_loopw [7, 8] (fun l i wr => ∃ k lf : Nat, k ≤ 30 ∧ i = .int .i64 k ∧ l = .int .i64 lf ∧ lf ≤ 39 ∧ Hid (∃ d, At w wr p d ∧ Fz lf d ∧ d.Q.length ≤ k))
    (fun _ i _ => 30 - (intOf i).toNat)
  case atStart => exact ⟨0, y, by omega, rfl, rfl, hy1, H0.out⟩
  case round =>
    obtain ⟨k, lf, hk, rfl, rfl, hlf, HR⟩ := hrel
    obtain ⟨d, gd, gf, gq⟩ := HR.out
    have HD : Hid (At w wr p d) := gd
    have HF : Hid (Fz lf d) := gf
    have HQ : Hid (d.Q.length ≤ 100) := Nat.le_trans gq (by omega)
    have HQK : Hid (d.Q.length ≤ k) := gq
    clear HR gd gf gq H0
    by_cases hkl : k < len0
    · by_cases hk30 : k < 30
      · obtain ⟨b, o, rfl, hcell⟩ := HC0.out k hkl
        have hbw : b < w.heap.size := World.block_lt_of_cell? w _ (hcell k hkl)
        have ck : wr.drew.cell? ⟨b, o + k, none⟩ = some (.int .i64 (z0.getD k 0)) := (HD.out.drew.below.cell hbw).trans (hcell k hkl)
        generalize z0.getD k 0 = z at *
        obtain ⟨c, hz, hc⟩ : ∃ c : Nat, bits .and .i64 z 7 = (c : Int) ∧ c < 8 := ⟨(z % 8).toNat, by rw [and_seven]; omega, by omega⟩
        have hk6 : (k : Int).tmod 6 = ((k % 6 : Nat) : Int) := (Int.ofNat_tmod k 6).symm
        have hkli : (k : Int) < (len0 : Int) := by omega
        have hk30i : (k : Int) < 30 := by omega
        clear HC0 hcell hbw
        have ck' : wr.cell? ⟨b, o + k, none⟩ = some (.int .i64 z) := ck
        by_cases hl : lf = 0
        · have hli : ((lf : Int) == 0) = true := by simp; omega
          have hlp : ¬ (0 : Int) < (lf : Int) := by omega
          by_cases h6 : k % 6 = 5
          · have g6 : ((k % 6 : Nat) : Int) = 5 := by omega
            go_wp2_with fail
            refine Calls.mono (round_flush HD.out HF.out HQ.out) ?_; rintro e w4 ⟨rfl, d1, g1, g2, g3, g4⟩
            have HD2 : Hid (At w w4 p d1) := g1
            have HF2 : Hid (Fz (lf - 1) d1 ∧ d1.off = decide (lf = 0) ∧ d1.Q.length ≤ d.Q.length + 1) := ⟨g2, g3, g4⟩
            clear g1 g2 g3 g4
            rw [if_pos hl]
            go_wp2_with fail
            refine Calls.mono HD2.out.off ?_; rintro e w5 ⟨rfl, rfl⟩
            rw [HF2.out.2.1, decide_eq_true hl]
            go_wp2_with fail
            go_roundw
            case rel => exact ⟨k + 1, lf - 1, by omega, by go_num, by (have e : lf - 1 = 0 := by omega); rw [e]; subst hl; rfl, by omega, d1, HD2.out, HF2.out.1, by have := HF2.out.2.2; have := HQK.out; omega⟩
            case measure => simp [intOf]; omega
          · have g6 : (((k % 6 : Nat) : Int) == 5) = false := by simp; omega
            go_wp2_with fail
            refine wp_region_any (by kernel_rfl) ?_
            rw [show ({ wr with drawn := wr.drawn + 1 } : World) = wr.drew from rfl]
            refine wpAny_take (i := 0) (v := .pointer (some ⟨p, 0, none⟩)) rfl (by kernel_rfl) (by kernel_rfl) (by kernel_rfl) (fun _ _ _ h => h) (Or.inl ⟨by rfl, fun w => by go_simp⟩) ?_
            simp only [Act.put, List.getElem_toArray, List.getElem_cons_zero, List.setIfInBounds_toArray, List.set_cons_succ, List.set_cons_zero]
            refine wpAny_take (i := 1) (v := .slice (some ⟨b, o, none⟩) len0 cap0) rfl (by kernel_rfl) (by kernel_rfl) (by kernel_rfl) (fun _ _ _ h => h) (Or.inl ⟨by rfl, fun w => by go_simp⟩) ?_
            simp only [Act.put, List.getElem_toArray, List.getElem_cons_succ, List.getElem_cons_zero, List.setIfInBounds_toArray, List.set_cons_succ, List.set_cons_zero]
            refine wpAny_take (i := 2) (v := .int .i64 (k : Int)) rfl (by kernel_rfl) (by kernel_rfl) (by kernel_rfl) (fun _ _ _ h => h) (Or.inl ⟨by rfl, fun w => by go_simp⟩) ?_
            simp only [Act.put, List.getElem_toArray, List.getElem_cons_succ, List.getElem_cons_zero, List.setIfInBounds_toArray, List.set_cons_succ, List.set_cons_zero]
            refine wpAny_take (i := 3) (v := .pointer (some ⟨b, o + k, none⟩)) rfl (by kernel_rfl) (by kernel_rfl) (by kernel_rfl) (fun _ _ _ h => h) (Or.inl ⟨by rfl, fun w => by go_simp⟩) ?_
            simp only [Act.put, List.getElem_toArray, List.getElem_cons_succ, List.getElem_cons_zero, List.setIfInBounds_toArray, List.set_cons_succ, List.set_cons_zero]
            refine wpAny_ready (rs := [4, 6]) (by kernel_rfl) (by simp) (AllReady.cons rfl (fun K hK => ?_) (AllReady.cons rfl (fun K hK => ?_) AllReady.nil))
            · go_simp
              refine hK _ _ ?_
              clear hK K
              refine wpAny_take (i := 5) (v := .int .i64 (c : Int)) rfl (by kernel_rfl) (by kernel_rfl) (by kernel_rfl) (fun _ _ _ h => h) (Or.inl ⟨by rfl, fun w => by go_simp⟩) ?_
              simp only [Act.put, List.getElem_toArray, List.getElem_cons_succ, List.getElem_cons_zero, List.setIfInBounds_toArray, List.set_cons_succ, List.set_cons_zero]
              refine wpAny_ready (rs := [6]) (by kernel_rfl) (by simp) (AllReady.cons rfl (fun K hK => ?_) AllReady.nil)
              go_simp
              refine Calls.mono (HX.out _) ?_; rintro e w3 ⟨rfl, kf⟩
              go_simp
              refine hK _ _ ?_
              clear hK K
              have HD1 : Hid (At w w3 p d) := HD.out.drew.step kf
              have ck1 : w3.cell? ⟨b, o + k, none⟩ = some (.int .i64 z) := kf.cell ck (fun q => q)
              clear kf
              refine wpAny_ready (rs := [7]) (by kernel_rfl) (by simp) (AllReady.cons rfl (fun K hK => ?_) AllReady.nil)
              go_simp
              refine Calls.mono (round_write HD1.out HF.out HQ.out c hc) ?_; rintro e w4 ⟨rfl, d1, g1, g2, g3, g4⟩
              have HD2 : Hid (At w w4 p d1) := g1
              have HF2 : Hid (Fz (lf - 1) d1 ∧ d1.off = decide (lf = 0) ∧ d1.Q.length ≤ d.Q.length + 1) := ⟨g2, g3, g4⟩
              clear g1 g2 g3 g4
              rw [if_pos hl]
              go_simp
              refine hK _ _ ?_
              clear hK K
              refine wpAny_take (i := 8) (v := .int .i64 30) rfl (by kernel_rfl) (by kernel_rfl) (by kernel_rfl) (fun _ _ _ h => h) (Or.inl ⟨by rfl, fun w => by go_simp⟩) ?_
              simp only [Act.put, List.getElem_toArray, List.getElem_cons_succ, List.getElem_cons_zero, List.setIfInBounds_toArray, List.set_cons_succ, List.set_cons_zero]
              refine wpAny_done (by kernel_rfl) ?_ _
              go_wp2_with fail
              refine Calls.mono HD2.out.off ?_; rintro e w5 ⟨rfl, rfl⟩
              rw [HF2.out.2.1, decide_eq_true hl]
              go_wp2_with fail
              go_roundw
              case rel => exact ⟨k + 1, lf - 1, by omega, by go_num, by (have e : lf - 1 = 0 := by omega); rw [e]; subst hl; rfl, by omega, d1, HD2.out, HF2.out.1, by have := HF2.out.2.2; have := HQK.out; omega⟩
              case measure => simp [intOf]; omega
            · go_simp
              refine Calls.mono (HX.out _) ?_; rintro e w3 ⟨rfl, kf⟩
              go_simp
              refine hK _ _ ?_
              clear hK K
              have HD1 : Hid (At w w3 p d) := HD.out.drew.step kf
              have ck1 : w3.cell? ⟨b, o + k, none⟩ = some (.int .i64 z) := kf.cell ck (fun q => q)
              clear kf
              refine wpAny_ready (rs := [4]) (by kernel_rfl) (by simp) (AllReady.cons rfl (fun K hK => ?_) AllReady.nil)
              go_simp
              refine hK _ _ ?_
              clear hK K
              refine wpAny_take (i := 5) (v := .int .i64 (c : Int)) rfl (by kernel_rfl) (by kernel_rfl) (by kernel_rfl) (fun _ _ _ h => h) (Or.inl ⟨by rfl, fun w => by go_simp⟩) ?_
              simp only [Act.put, List.getElem_toArray, List.getElem_cons_succ, List.getElem_cons_zero, List.setIfInBounds_toArray, List.set_cons_succ, List.set_cons_zero]
              refine wpAny_ready (rs := [7]) (by kernel_rfl) (by simp) (AllReady.cons rfl (fun K hK => ?_) AllReady.nil)
              go_simp
              refine Calls.mono (round_write HD1.out HF.out HQ.out c hc) ?_; rintro e w4 ⟨rfl, d1, g1, g2, g3, g4⟩
              have HD2 : Hid (At w w4 p d1) := g1
              have HF2 : Hid (Fz (lf - 1) d1 ∧ d1.off = decide (lf = 0) ∧ d1.Q.length ≤ d.Q.length + 1) := ⟨g2, g3, g4⟩
              clear g1 g2 g3 g4
              rw [if_pos hl]
              go_simp
              refine hK _ _ ?_
              clear hK K
              refine wpAny_take (i := 8) (v := .int .i64 30) rfl (by kernel_rfl) (by kernel_rfl) (by kernel_rfl) (fun _ _ _ h => h) (Or.inl ⟨by rfl, fun w => by go_simp⟩) ?_
              simp only [Act.put, List.getElem_toArray, List.getElem_cons_succ, List.getElem_cons_zero, List.setIfInBounds_toArray, List.set_cons_succ, List.set_cons_zero]
              refine wpAny_done (by kernel_rfl) ?_ _
              go_wp2_with fail
              refine Calls.mono HD2.out.off ?_; rintro e w5 ⟨rfl, rfl⟩
              rw [HF2.out.2.1, decide_eq_true hl]
              go_wp2_with fail
              go_roundw
              case rel => exact ⟨k + 1, lf - 1, by omega, by go_num, by (have e : lf - 1 = 0 := by omega); rw [e]; subst hl; rfl, by omega, d1, HD2.out, HF2.out.1, by have := HF2.out.2.2; have := HQK.out; omega⟩
              case measure => simp [intOf]; omega
        · have hli : ((lf : Int) == 0) = false := by simp; omega
          have hlp : (0 : Int) < (lf : Int) := by omega
          by_cases h6 : k % 6 = 5
          · have g6 : ((k % 6 : Nat) : Int) = 5 := by omega
            go_wp2_with fail
            refine Calls.mono (round_flush HD.out HF.out HQ.out) ?_; rintro e w4 ⟨rfl, d1, g1, g2, g3, g4⟩
            have HD2 : Hid (At w w4 p d1) := g1
            have HF2 : Hid (Fz (lf - 1) d1 ∧ d1.off = decide (lf = 0) ∧ d1.Q.length ≤ d.Q.length + 1) := ⟨g2, g3, g4⟩
            clear g1 g2 g3 g4
            rw [if_neg hl]
            go_wp2_with fail
            refine Calls.mono HD2.out.off ?_; rintro e w5 ⟨rfl, rfl⟩
            rw [HF2.out.2.1, decide_eq_false hl]
            go_wp2_with fail
            go_roundw
            case rel => exact ⟨k + 1, lf - 1, by omega, by go_num, by go_num, by omega, d1, HD2.out, HF2.out.1, by have := HF2.out.2.2; have := HQK.out; omega⟩
            case measure => simp [intOf]; omega
          · have g6 : (((k % 6 : Nat) : Int) == 5) = false := by simp; omega
            go_wp2_with fail
            refine wp_region_any (by kernel_rfl) ?_
            rw [show ({ wr with drawn := wr.drawn + 1 } : World) = wr.drew from rfl]
            refine wpAny_take (i := 0) (v := .pointer (some ⟨p, 0, none⟩)) rfl (by kernel_rfl) (by kernel_rfl) (by kernel_rfl) (fun _ _ _ h => h) (Or.inl ⟨by rfl, fun w => by go_simp⟩) ?_
            simp only [Act.put, List.getElem_toArray, List.getElem_cons_zero, List.setIfInBounds_toArray, List.set_cons_succ, List.set_cons_zero]
            refine wpAny_take (i := 1) (v := .slice (some ⟨b, o, none⟩) len0 cap0) rfl (by kernel_rfl) (by kernel_rfl) (by kernel_rfl) (fun _ _ _ h => h) (Or.inl ⟨by rfl, fun w => by go_simp⟩) ?_
            simp only [Act.put, List.getElem_toArray, List.getElem_cons_succ, List.getElem_cons_zero, List.setIfInBounds_toArray, List.set_cons_succ, List.set_cons_zero]
            refine wpAny_take (i := 2) (v := .int .i64 (k : Int)) rfl (by kernel_rfl) (by kernel_rfl) (by kernel_rfl) (fun _ _ _ h => h) (Or.inl ⟨by rfl, fun w => by go_simp⟩) ?_
            simp only [Act.put, List.getElem_toArray, List.getElem_cons_succ, List.getElem_cons_zero, List.setIfInBounds_toArray, List.set_cons_succ, List.set_cons_zero]
            refine wpAny_take (i := 3) (v := .pointer (some ⟨b, o + k, none⟩)) rfl (by kernel_rfl) (by kernel_rfl) (by kernel_rfl) (fun _ _ _ h => h) (Or.inl ⟨by rfl, fun w => by go_simp⟩) ?_
            simp only [Act.put, List.getElem_toArray, List.getElem_cons_succ, List.getElem_cons_zero, List.setIfInBounds_toArray, List.set_cons_succ, List.set_cons_zero]
            refine wpAny_ready (rs := [4, 6]) (by kernel_rfl) (by simp) (AllReady.cons rfl (fun K hK => ?_) (AllReady.cons rfl (fun K hK => ?_) AllReady.nil))
            · go_simp
              refine hK _ _ ?_
              clear hK K
              refine wpAny_take (i := 5) (v := .int .i64 (c : Int)) rfl (by kernel_rfl) (by kernel_rfl) (by kernel_rfl) (fun _ _ _ h => h) (Or.inl ⟨by rfl, fun w => by go_simp⟩) ?_
              simp only [Act.put, List.getElem_toArray, List.getElem_cons_succ, List.getElem_cons_zero, List.setIfInBounds_toArray, List.set_cons_succ, List.set_cons_zero]
              refine wpAny_ready (rs := [6]) (by kernel_rfl) (by simp) (AllReady.cons rfl (fun K hK => ?_) AllReady.nil)
              go_simp
              refine Calls.mono (HX.out _) ?_; rintro e w3 ⟨rfl, kf⟩
              go_simp
              refine hK _ _ ?_
              clear hK K
              have HD1 : Hid (At w w3 p d) := HD.out.drew.step kf
              have ck1 : w3.cell? ⟨b, o + k, none⟩ = some (.int .i64 z) := kf.cell ck (fun q => q)
              clear kf
              refine wpAny_ready (rs := [7]) (by kernel_rfl) (by simp) (AllReady.cons rfl (fun K hK => ?_) AllReady.nil)
              go_simp
              refine Calls.mono (round_write HD1.out HF.out HQ.out c hc) ?_; rintro e w4 ⟨rfl, d1, g1, g2, g3, g4⟩
              have HD2 : Hid (At w w4 p d1) := g1
              have HF2 : Hid (Fz (lf - 1) d1 ∧ d1.off = decide (lf = 0) ∧ d1.Q.length ≤ d.Q.length + 1) := ⟨g2, g3, g4⟩
              clear g1 g2 g3 g4
              rw [if_neg hl]
              go_simp
              refine hK _ _ ?_
              clear hK K
              refine wpAny_take (i := 8) (v := .int .i64 0) rfl (by kernel_rfl) (by kernel_rfl) (by kernel_rfl) (fun _ _ _ h => h) (Or.inl ⟨by rfl, fun w => by go_simp⟩) ?_
              simp only [Act.put, List.getElem_toArray, List.getElem_cons_succ, List.getElem_cons_zero, List.setIfInBounds_toArray, List.set_cons_succ, List.set_cons_zero]
              refine wpAny_done (by kernel_rfl) ?_ _
              go_wp2_with fail
              refine Calls.mono HD2.out.off ?_; rintro e w5 ⟨rfl, rfl⟩
              rw [HF2.out.2.1, decide_eq_false hl]
              go_wp2_with fail
              go_roundw
              case rel => exact ⟨k + 1, lf - 1, by omega, by go_num, by go_num, by omega, d1, HD2.out, HF2.out.1, by have := HF2.out.2.2; have := HQK.out; omega⟩
              case measure => simp [intOf]; omega
            · go_simp
              refine Calls.mono (HX.out _) ?_; rintro e w3 ⟨rfl, kf⟩
              go_simp
              refine hK _ _ ?_
              clear hK K
              have HD1 : Hid (At w w3 p d) := HD.out.drew.step kf
              have ck1 : w3.cell? ⟨b, o + k, none⟩ = some (.int .i64 z) := kf.cell ck (fun q => q)
              clear kf
              refine wpAny_ready (rs := [4]) (by kernel_rfl) (by simp) (AllReady.cons rfl (fun K hK => ?_) AllReady.nil)
              go_simp
              refine hK _ _ ?_
              clear hK K
              refine wpAny_take (i := 5) (v := .int .i64 (c : Int)) rfl (by kernel_rfl) (by kernel_rfl) (by kernel_rfl) (fun _ _ _ h => h) (Or.inl ⟨by rfl, fun w => by go_simp⟩) ?_
              simp only [Act.put, List.getElem_toArray, List.getElem_cons_succ, List.getElem_cons_zero, List.setIfInBounds_toArray, List.set_cons_succ, List.set_cons_zero]
              refine wpAny_ready (rs := [7]) (by kernel_rfl) (by simp) (AllReady.cons rfl (fun K hK => ?_) AllReady.nil)
              go_simp
              refine Calls.mono (round_write HD1.out HF.out HQ.out c hc) ?_; rintro e w4 ⟨rfl, d1, g1, g2, g3, g4⟩
              have HD2 : Hid (At w w4 p d1) := g1
              have HF2 : Hid (Fz (lf - 1) d1 ∧ d1.off = decide (lf = 0) ∧ d1.Q.length ≤ d.Q.length + 1) := ⟨g2, g3, g4⟩
              clear g1 g2 g3 g4
              rw [if_neg hl]
              go_simp
              refine hK _ _ ?_
              clear hK K
              refine wpAny_take (i := 8) (v := .int .i64 0) rfl (by kernel_rfl) (by kernel_rfl) (by kernel_rfl) (fun _ _ _ h => h) (Or.inl ⟨by rfl, fun w => by go_simp⟩) ?_
              simp only [Act.put, List.getElem_toArray, List.getElem_cons_succ, List.getElem_cons_zero, List.setIfInBounds_toArray, List.set_cons_succ, List.set_cons_zero]
              refine wpAny_done (by kernel_rfl) ?_ _
              go_wp2_with fail
              refine Calls.mono HD2.out.off ?_; rintro e w5 ⟨rfl, rfl⟩
              rw [HF2.out.2.1, decide_eq_false hl]
              go_wp2_with fail
              go_roundw
              case rel => exact ⟨k + 1, lf - 1, by omega, by go_num, by go_num, by omega, d1, HD2.out, HF2.out.1, by have := HF2.out.2.2; have := HQK.out; omega⟩
              case measure => simp [intOf]; omega
      · have hg : ¬ (k : Int) < 30 := by omega
        have hkli : (k : Int) < (len0 : Int) := by omega
        go_wp2_with fail
        refine Calls.mono (HD.out.read 0 (by rw [HF.out.1]; omega)) ?_; rintro e w4 ⟨rfl, rfl⟩
        have HC := (show Hid _ from HD.out.crash (by have := HQ.out; omega) (.slice none 0 0) [] (.inl ⟨rfl, rfl⟩) (by simp))
        have HO := (show Hid _ from HD.out.off)
        cases ho : d.off with
        | true =>
          rw [ho] at HO
          rw [if_pos rfl]
          go_wp2_with fail
          refine Calls.mono HO.out ?_; rintro e w5 ⟨rfl, rfl⟩
          go_wp2_with fail
          refine Calls.mono HC.out ?_; rintro e w6 ⟨rfl, a6⟩
          have HO6 : Hid (Calls Try.prog 21 #[.pointer (some ⟨p, 0, none⟩)] w6 fun e w' => e = .returned (.bool false) ∧ w' = w6) := a6.off
          have HB6 := (show Hid _ from a6.below)
          clear a6
          go_wp2_with fail
          refine Calls.mono HO6.out ?_; rintro e w7 ⟨rfl, rfl⟩
          go_wp2_with fail
          refine Calls.mono (HAW.out _) ?_; rintro e w8 ⟨rfl, k8⟩
          have HK8 := (show Hid _ from k8)
          clear k8
          go_wp2_with fail
          go_ret
          exact ⟨rfl, HB6.out.trans (HK8.out.mono HB6.out.size)⟩
        | false =>
          rw [ho] at HO
          rw [if_neg (by simp)]
          generalize (⟨(d.last 0).toArray⟩ : ByteArray) = tx at *
          go_wp2_with fail
          refine Calls.mono HO.out ?_; rintro e w5 ⟨rfl, rfl⟩
          go_wp2_with fail
          refine Calls.mono HC.out ?_; rintro e w6 ⟨rfl, a6⟩
          have HO6 : Hid (Calls Try.prog 21 #[.pointer (some ⟨p, 0, none⟩)] w6 fun e w' => e = .returned (.bool false) ∧ w' = w6) := a6.off
          have HB6 := (show Hid _ from a6.below)
          clear a6
          go_wp2_with fail
          refine Calls.mono HO6.out ?_; rintro e w7 ⟨rfl, rfl⟩
          go_wp2_with fail
          refine Calls.mono (HAW.out _) ?_; rintro e w8 ⟨rfl, k8⟩
          have HK8 := (show Hid _ from k8)
          clear k8
          go_wp2_with fail
          go_ret
          exact ⟨rfl, HB6.out.trans (HK8.out.mono HB6.out.size)⟩
    · have hg : ¬ (k : Int) < (len0 : Int) := by omega
      go_wp2_with fail
      refine Calls.mono (HD.out.read 0 (by rw [HF.out.1]; omega)) ?_; rintro e w4 ⟨rfl, rfl⟩
      have HC := (show Hid _ from HD.out.crash (by have := HQ.out; omega) (.slice none 0 0) [] (.inl ⟨rfl, rfl⟩) (by simp))
      have HO := (show Hid _ from HD.out.off)
      cases ho : d.off with
      | true =>
        rw [ho] at HO
        rw [if_pos rfl]
        go_wp2_with fail
        refine Calls.mono HO.out ?_; rintro e w5 ⟨rfl, rfl⟩
        go_wp2_with fail
        refine Calls.mono HC.out ?_; rintro e w6 ⟨rfl, a6⟩
        have HO6 : Hid (Calls Try.prog 21 #[.pointer (some ⟨p, 0, none⟩)] w6 fun e w' => e = .returned (.bool false) ∧ w' = w6) := a6.off
        have HB6 := (show Hid _ from a6.below)
        clear a6
        go_wp2_with fail
        refine Calls.mono HO6.out ?_; rintro e w7 ⟨rfl, rfl⟩
        go_wp2_with fail
        refine Calls.mono (HAW.out _) ?_; rintro e w8 ⟨rfl, k8⟩
        have HK8 := (show Hid _ from k8)
        clear k8
        go_wp2_with fail
        go_ret
        exact ⟨rfl, HB6.out.trans (HK8.out.mono HB6.out.size)⟩
      | false =>
        rw [ho] at HO
        rw [if_neg (by simp)]
        generalize (⟨(d.last 0).toArray⟩ : ByteArray) = tx at *
        go_wp2_with fail
        refine Calls.mono HO.out ?_; rintro e w5 ⟨rfl, rfl⟩
        go_wp2_with fail
        refine Calls.mono HC.out ?_; rintro e w6 ⟨rfl, a6⟩
        have HO6 : Hid (Calls Try.prog 21 #[.pointer (some ⟨p, 0, none⟩)] w6 fun e w' => e = .returned (.bool false) ∧ w' = w6) := a6.off
        have HB6 := (show Hid _ from a6.below)
        clear a6
        go_wp2_with fail
        refine Calls.mono HO6.out ?_; rintro e w7 ⟨rfl, rfl⟩
        go_wp2_with fail
        refine Calls.mono (HAW.out _) ?_; rintro e w8 ⟨rfl, k8⟩
        have HK8 := (show Hid _ from k8)
        clear k8
        go_wp2_with fail
        go_ret
        exact ⟨rfl, HB6.out.trans (HK8.out.mono HB6.out.size)⟩

/-! ### THE ROW's STEP: WRITTEN OUT: LEAVE IT -/
set_option maxRecDepth 100000 in
theorem lifted (os : Os) (started : os.Started) (H : Type) (enc : TypeId × Value → H) :
    ReturnsInHanded {} Try.checked os 5 .any (Rows.diskFusesSpec.pre6 enc Try.prog Try.f5 Rows.diskFusesRow.domain false) (Rows.diskFusesSpec.post enc Try.prog Try.f5 false true false false) := by
  refine returnsInHanded_of_change (C := Try.checked) own started (by kernel_rfl) Try.func5
    (ChangeSpec.witness6 (enc := enc) (C := Try.checked) false ⟨#[], #[.slice none 0 0, .int .i64 0], []⟩ 8 (by kernel_rfl) (by kernel_rfl) (by kernel_rfl) (by kernel_rfl)) ?_
  intro W base args ds gs before hval0 hW hcnd _
  have hval : ∀ (j : Nat) t v, Try.f5.params[j]? = some t → args[j]? = some v → Value.okWide Try.prog W .any base t v := hval0
  have hW' := hW
  obtain ⟨p, q, hA0, hV, rfl, hfz, hnd⟩ := hW
  have hA : DataW.TrodAll enc Try.prog W 0 (fun _ => true) true Try.f5.params.toList args.toList ds p := hA0
  rw [Try.params5] at hA hval
  obtain ⟨v0, vs0, d0, ds0, p0, q0, hargs, rfl, rfl, h0, r0⟩ := trodAll_cons hA
  obtain ⟨v1, vs1, d1, ds1, p1, q1, rfl, rfl, rfl, h1, r1⟩ := trodAll_cons r0
  obtain ⟨rfl, rfl, rfl⟩ := trodAll_nil r1
  obtain rfl : args = #[v0, v1] := by cases args; simp_all
  obtain ⟨rfl, rfl⟩ := trodVars_none hV
  obtain ⟨a0, len0, cap0, rfl⟩ := okWide_slice Try.underlying34 (hval 0 34 v0 rfl rfl)
  have k0 := h0
  have lt0 : ∀ x ∈ p0, x.block < W.heap.size := by obtain ⟨m, hm⟩ := k0; exact DataW.trod_lt m _ _ _ hm
  obtain ⟨z0, w0⟩ : ∃ zs, IsRow .i64 W a0 len0 cap0 zs := by
    obtain ⟨fuel, hf⟩ := h0
    rcases open_ints Try.underlying34 Try.underlying3 (by kernel_rfl) hf with ⟨hcs, _⟩ | ⟨x, l, c, zs, hcs, _, hl, hm, hz, _, hcell, hwz⟩
    · simp [Value.cells] at hcs
      obtain ⟨rfl, rfl, rfl⟩ := hcs
      exact ⟨[], .inl ⟨rfl, rfl, rfl, rfl⟩⟩
    · simp [Value.cells] at hcs
      obtain ⟨rfl, rfl, rfl⟩ := hcs
      exact ⟨zs, .inr ⟨_, rfl, hl, hm, by simpa using hz, hcell, hwz⟩⟩
  obtain ⟨a1, rfl, rfl, rfl, w1⟩ := open_int Try.underlying3 (hval 1 3 v1 rfl rfl) h1
  clear hA0 hval0
  refine (walk a0 len0 cap0 z0 a1 W w0 w1).mono fun e W' ⟨he, bel⟩ => ?_
  subst he
  exact ⟨_, rfl, _, _, _, [], _, [], hW', trodAll_mk1 (shut_bool Try.underlying4 _), (trodAll_cons_mk (Below.trod laidOut (by kernel_rfl) (of_decide_eq_true (by kernel_rfl)) k0 bel lt0) (trodAll_cons_mk (shut_int Try.underlying3 w1) trodAll_mk0)), rfl, bel.frame _, fun h => by cases h⟩

theorem over : Rows.diskFusesRow.holds Try.pinned (OpenSpec.ofChange Rows.diskFusesSpec) :=
  OpenClaim.holds_of_wide 5 Try.f5 rfl rfl rfl rfl rfl rfl rfl ⟨rfl, rfl, rfl, rfl, rfl⟩ rfl rfl rfl rfl rfl (by kernel_rfl) Try.func5 (by kernel_rfl)
    (of_decide_eq_true (by kernel_rfl)) (by unfold Func.isWrapper; first | (rw [if_pos (by decide +kernel)]; kernel_rfl) | (rw [if_neg (by decide +kernel)]; exact ⟨rfl, rfl⟩))
    (fun os started H enc _ => lifted os started H enc)

/-- ████ THE STATEMENT ████ -/
theorem proved : Rows.DiskFusesSaid := over
#print axioms proved
end Go.Proofs.Ytlkkeabenklefaa.diskFuses
