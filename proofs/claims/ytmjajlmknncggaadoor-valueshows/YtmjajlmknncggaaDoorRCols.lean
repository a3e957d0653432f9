/- The document's rows held against each other. -/
import Derived.Test.YtmjajlmknncggaaDoorCols
namespace Go.Proofs.YtmjajlmknncggaaDoor
open Go.ChangeShapes Go.WideShapes Go.RowKit
set_option linter.unusedVariables false
set_option maxRecDepth 100000

set_option maxHeartbeats 1000000 in
theorem refCompareRows_is (a b g : Option Addr) (ca cb cg na nb ng : Nat) (ra rb : List V) (l : List (Int × Bool)) (hna : ra.length = na) (hnb : rb.length = nb) (hng : l.length = ng) (hla : na ≤ 1000000) (hlb : nb ≤ 1000000) (hlg : ng ≤ 1000000) (w : World)
    (ha : Row w (.slice a ra.length ca) ra) (hb : Row w (.slice b rb.length cb) rb) (hg : Keys w (.slice g l.length cg) l) :
    Calls Tryd.prog 15 #[.slice a na ca, .slice b nb cb, .slice g ng cg] w fun e w' => e = .returned (.int .i64 (cmpR ra rb l)) ∧ Below w.heap.size w w' := by
  have HA : Hid (Row w (.slice a ra.length ca) ra) := ha
  have HB : Hid (Row w (.slice b rb.length cb) rb) := hb
  have HG : Hid (Keys w (.slice g l.length cg) l) := hg
  have HNG : Hid _ := hng
  have HNA : Hid _ := hna
  have HNB : Hid _ := hnb
  obtain ⟨res, hres⟩ : ∃ res, cmpR ra rb l = res := ⟨_, rfl⟩
  rw [hres]
  have HR : Hid (cmpR ra rb (l.drop 0) = res) := hres
  clear ha hb hg hng hna hnb hres
  have wz0 : IntKind.i64.wrap 0 = 0 := by decide
  have wz1 : IntKind.i64.wrap 1 = 1 := by decide
  have wz2 : IntKind.i64.wrap (-1) = -1 := by decide
  go_enter Tryd.func15, Tryd.ntmps15
  go_wp2_with fail
  go_loopw [7] (fun i wr => ∃ k : Nat, k ≤ ng ∧ i = .int .i64 k ∧ Hid (Below w.heap.size w wr ∧ cmpR ra rb (l.drop k) = res))
    (fun i _ => ng - (intOf i).toNat)
  case atStart => exact ⟨0, Nat.zero_le _, rfl, Below.refl _ _, HR.out⟩
  case round =>
    obtain ⟨k, hk, rfl, HI⟩ := hrel
    by_cases hlt : k < ng
    · have hlti : (k : Int) < (ng : Int) := by omega
      have hkl : k < l.length := by have := HNG.out; omega
      obtain ⟨gb, go, rfl, k0, k1⟩ := HG.out.at k hkl
      have d0 : wr.cell? ⟨gb, go + k * 2, none⟩ = some (.int .i64 l[k].1) := (HI.out.1.cell (p := ⟨gb, go + k * 2, none⟩) (World.block_lt_of_cell? w _ k0)).trans k0
      have d1 : wr.cell? ⟨gb, go + k * 2 + 1, none⟩ = some (.bool l[k].2) := (HI.out.1.cell (p := ⟨gb, go + k * 2 + 1, none⟩) (World.block_lt_of_cell? w _ k1)).trans k1
      have HD : Hid _ := cmpR_drop ra rb l k hkl
      generalize l[k] = key at *
      obtain ⟨col, down⟩ := key
      have hBW : Below w.heap.size w wr := HI.out.1
      have hS0 : Below wr.heap.size wr wr ∧ wr.cell? ⟨gb, go + k * 2, none⟩ = some (.int .i64 col) ∧ wr.cell? ⟨gb, go + k * 2 + 1, none⟩ = some (.bool down) := ⟨Below.refl _ _, d0, d1⟩
      have hN : ∀ w' w'', (Below wr.heap.size wr w' ∧ w'.cell? ⟨gb, go + k * 2, none⟩ = some (.int .i64 col) ∧ w'.cell? ⟨gb, go + k * 2 + 1, none⟩ = some (.bool down)) → Below w'.heap.size w' w'' → (Below wr.heap.size wr w'' ∧ w''.cell? ⟨gb, go + k * 2, none⟩ = some (.int .i64 col) ∧ w''.cell? ⟨gb, go + k * 2 + 1, none⟩ = some (.bool down)) := by
        rintro w' w'' ⟨p0, p1, p2⟩ q
        exact ⟨Below.next p0 q, (q.cell (World.block_lt_of_cell? w' _ p1)).trans p1, (q.cell (World.block_lt_of_cell? w' _ p2)).trans p2⟩
      have HSD : Hid (∀ w', (Below wr.heap.size wr w' ∧ w'.cell? ⟨gb, go + k * 2, none⟩ = some (.int .i64 col) ∧ w'.cell? ⟨gb, go + k * 2 + 1, none⟩ = some (.bool down)) → (Below wr.heap.size wr w'.drew ∧ w'.drew.cell? ⟨gb, go + k * 2, none⟩ = some (.int .i64 col) ∧ w'.drew.cell? ⟨gb, go + k * 2 + 1, none⟩ = some (.bool down))) := fun w' hS => ⟨hS.1.drew, hS.2⟩
      have hx := fun w' (hS : Below wr.heap.size wr w' ∧ w'.cell? ⟨gb, go + k * 2, none⟩ = some (.int .i64 col) ∧ w'.cell? ⟨gb, go + k * 2 + 1, none⟩ = some (.bool down)) => refAt_is a ca na ra HNA.out hla w' (HA.out.next (Below.less hBW hS.1 hBW.size)) col
      have hy := fun w' (hS : Below wr.heap.size wr w' ∧ w'.cell? ⟨gb, go + k * 2, none⟩ = some (.int .i64 col) ∧ w'.cell? ⟨gb, go + k * 2 + 1, none⟩ = some (.bool down)) => refAt_is b cb nb rb HNB.out hlb w' (HB.out.next (Below.less hBW hS.1 hBW.size)) col
      simp only at HD
      generalize atV ra col = x at *
      generalize atV rb col = y at *
      obtain ⟨xk, xn, xs⟩ := x
      obtain ⟨yk, yn, ys⟩ := y
      obtain ⟨c, hc⟩ : ∃ c, cmpV xk xn xs yk yn ys = c := ⟨_, rfl⟩
      have hr := cmpV_range xk xn xs yk yn ys
      have H1 : Hid (∀ w', (Below wr.heap.size wr w' ∧ w'.cell? ⟨gb, go + k * 2, none⟩ = some (.int .i64 col) ∧ w'.cell? ⟨gb, go + k * 2 + 1, none⟩ = some (.bool down)) → Calls Tryd.prog 31 #[.slice a na ca, .int .i64 col] w' fun e w'' => e = .returned (.agg #[.int .i64 xk, .int .i64 xn, .string xs]) ∧ Below wr.heap.size wr w'' ∧ w''.cell? ⟨gb, go + k * 2, none⟩ = some (.int .i64 col) ∧ w''.cell? ⟨gb, go + k * 2 + 1, none⟩ = some (.bool down)) := fun w' hS => (hx w' hS).mono (by rintro e w'' ⟨rfl, q⟩; exact ⟨rfl, hN _ _ hS q⟩)
      have H2 : Hid (∀ w', (Below wr.heap.size wr w' ∧ w'.cell? ⟨gb, go + k * 2, none⟩ = some (.int .i64 col) ∧ w'.cell? ⟨gb, go + k * 2 + 1, none⟩ = some (.bool down)) → Calls Tryd.prog 31 #[.slice b nb cb, .int .i64 col] w' fun e w'' => e = .returned (.agg #[.int .i64 yk, .int .i64 yn, .string ys]) ∧ Below wr.heap.size wr w'' ∧ w''.cell? ⟨gb, go + k * 2, none⟩ = some (.int .i64 col) ∧ w''.cell? ⟨gb, go + k * 2 + 1, none⟩ = some (.bool down)) := fun w' hS => (hy w' hS).mono (by rintro e w'' ⟨rfl, q⟩; exact ⟨rfl, hN _ _ hS q⟩)
      have H3 : Hid (∀ w', (Below wr.heap.size wr w' ∧ w'.cell? ⟨gb, go + k * 2, none⟩ = some (.int .i64 col) ∧ w'.cell? ⟨gb, go + k * 2 + 1, none⟩ = some (.bool down)) → Calls Tryd.prog 9 #[.agg #[.int .i64 xk, .int .i64 xn, .string xs], .agg #[.int .i64 yk, .int .i64 yn, .string ys]] w' fun e w'' => e = .returned (.int .i64 c) ∧ Below wr.heap.size wr w'' ∧ w''.cell? ⟨gb, go + k * 2, none⟩ = some (.int .i64 col) ∧ w''.cell? ⟨gb, go + k * 2 + 1, none⟩ = some (.bool down)) := fun w' hS => (refCompare_is xk xn yk yn xs ys w').mono (by rintro e w'' ⟨rfl, q⟩; exact ⟨by rw [hc], hN _ _ hS q⟩)
      have HD' : Hid (res = if c = 0 then cmpR ra rb (l.drop (k + 1)) else if down = true then - c else c) := by
        show res = _
        rw [← HI.out.2, HD.out]
        have e : cmpX ⟨xk, xn, xs⟩ ⟨yk, yn, ys⟩ = c := hc
        rw [e]
      have HBW : Hid (Below w.heap.size w wr) := hBW
      rw [hc] at hr
      clear hc hx hy hN hBW HD k0 k1
      go_wp2_with fail
      go_region_held (fun (w' : World) => Below wr.heap.size wr w' ∧ w'.cell? ⟨gb, go + k * 2, none⟩ = some (.int .i64 col) ∧ w'.cell? ⟨gb, go + k * 2 + 1, none⟩ = some (.bool down)) (first | (with_reducible assumption) | (with_reducible exact HSD.out _ (by with_reducible assumption)))
        (first
        | ((with_reducible refine Calls.mono (H1.out _ (by with_reducible assumption)) ?_); rintro e w3 ⟨rfl, hS3⟩)
        | ((with_reducible refine Calls.mono (H2.out _ (by with_reducible assumption)) ?_); rintro e w3 ⟨rfl, hS3⟩)
        | ((with_reducible refine Calls.mono (H3.out _ (by with_reducible assumption)) ?_); rintro e w3 ⟨rfl, hS3⟩))
      have HK : Hid (Below w.heap.size w w3) := Below.less HBW.out hS3.1 HBW.out.size
      obtain ⟨_, p1, p2⟩ := hS3
      rcases hr with rfl | rfl | rfl
      · cases down with
        | true =>
          have HV : Hid (res = 1) := HD'.out
          go_wp2_with fail
          go_ret
          exact ⟨by rw [HV.out]; rfl, HK.out⟩
        | false =>
          have HV : Hid (res = -1) := HD'.out
          go_wp2_with fail
          go_ret
          exact ⟨by rw [HV.out]; rfl, HK.out⟩
      · have HV : Hid (res = cmpR ra rb (l.drop (k + 1))) := HD'.out
        cases down with
        | true =>
          go_wp2_with fail
          go_roundw
          case rel => exact ⟨k + 1, by omega, by go_num, HK.out, HV.out.symm⟩
          case measure => simp [intOf]; omega
        | false =>
          go_wp2_with fail
          go_roundw
          case rel => exact ⟨k + 1, by omega, by go_num, HK.out, HV.out.symm⟩
          case measure => simp [intOf]; omega
      · cases down with
        | true =>
          have HV : Hid (res = -1) := HD'.out
          go_wp2_with fail
          go_ret
          exact ⟨by rw [HV.out]; rfl, HK.out⟩
        | false =>
          have HV : Hid (res = 1) := HD'.out
          go_wp2_with fail
          go_ret
          exact ⟨by rw [HV.out]; rfl, HK.out⟩
    · have hlti : ¬ (k : Int) < (ng : Int) := by omega
      have HV : Hid (res = 0) := by
        have := HI.out.2
        rw [List.drop_of_length_le (by have := HNG.out; omega)] at this
        exact this.symm
      go_wp2_with fail
      go_ret
      exact ⟨by rw [HV.out]; rfl, HI.out.1⟩

/-- Columns, each the other way round. -/
def turnK (l : List (Int × Bool)) : List (Int × Bool) := l.map fun x => (x.1, !x.2)
theorem cmpR_turned (a b : List V) (l : List (Int × Bool)) : cmpR a b (turnK l) = - cmpR a b l := by
  induction l with
  | nil => rfl
  | cons x r ih =>
    obtain ⟨col, down⟩ := x
    show cmpR a b ((col, !down) :: turnK r) = _
    rw [cmpR, cmpR, ih]
    by_cases h : cmpX (atV a col) (atV b col) = 0
    · rw [if_pos h, if_pos h]
    · rw [if_neg h, if_neg h]
      cases down <;> simp
theorem cmpR_swap (a b : List V) (l : List (Int × Bool)) : cmpR b a l = - cmpR a b l := by
  induction l with
  | nil => rfl
  | cons x r ih =>
    obtain ⟨col, down⟩ := x
    have e : cmpX (atV b col) (atV a col) = - cmpX (atV a col) (atV b col) := cmpV_turn _ _ _ _ _ _
    rw [cmpR, cmpR, ih, e]
    by_cases h : cmpX (atV a col) (atV b col) = 0
    · rw [if_pos h, if_pos (by omega)]
    · rw [if_neg h, if_neg (by omega)]
      cases down <;> simp
end Go.Proofs.YtmjajlmknncggaaDoor
