/- value: rows held against each other, column by column. -/
import Derived.Test.YtmjajlmknncggaaDoorPut
import Derived.Deep.RegionHeld
import Derived.BigRegion
namespace Go.Proofs.YtmjajlmknncggaaDoor
open Go.ChangeShapes Go.WideShapes Go.RowKit
set_option linter.unusedVariables false
set_option maxRecDepth 100000

/-- A row's value in a column. -/
def atV (r : List V) (col : Int) : V := if 0 ≤ col then (r[col.toNat]?).getD ⟨0, 0, ⟨#[]⟩⟩ else ⟨0, 0, ⟨#[]⟩⟩

set_option maxHeartbeats 1000000 in
theorem valueAt_is (a : Option Addr) (c n : Nat) (r : List V) (hn : r.length = n) (hl : n ≤ 1000000) (w : World) (h : Row w (.slice a r.length c) r) (col : Int) :
    Calls Tryd.prog 30 #[.slice a n c, .int .i64 col] w fun e w' => e = .returned (atV r col).val ∧ Below w.heap.size w w' := by
  by_cases h0 : col < 0
  · have HV : Hid (atV r col = ⟨0, 0, ⟨#[]⟩⟩) := by show atV r col = _; unfold atV; rw [if_neg (by omega)]
    rw [HV.out]
    go_enter Tryd.func30, Tryd.ntmps30
    go_wp2_with fail
    try simp only [Exit.inBlock, Exit.then]
    refine bodyPost_ret (end_cell rfl rfl (load23 (by simp [go_sem]; rfl) (by simp [go_sem]; rfl) (by simp [go_sem]; rfl))) rfl ?_
    exact ⟨rfl, below1 _ _⟩
  · obtain ⟨k, rfl⟩ : ∃ k : Nat, col = (k : Int) := ⟨col.toNat, by omega⟩
    by_cases h1 : k < n
    · have hkl : k < r.length := by omega
      have h1i : ¬ (n : Int) ≤ (k : Int) := by omega
      have h1j : (k : Int) < (n : Int) := by omega
      obtain ⟨b, o, rfl, A0⟩ := h.at k hkl
      have HV : Hid (atV r k = r[k]) := by show atV r k = _; unfold atV; rw [if_pos (by omega), Int.toNat_natCast, List.getElem?_eq_getElem hkl]; rfl
      rw [HV.out]
      have A1 := A0.next (below1 w (.cells #[.int .i64 0, .int .i64 0, .string ⟨#[]⟩] 23))
      generalize r[k] = x at *
      obtain ⟨xk, xn, xs⟩ := x
      obtain ⟨c0, c1, c2⟩ := A0
      obtain ⟨d0, d1, d2⟩ := A1
      clear h HV
      go_enter Tryd.func30, Tryd.ntmps30
      go_wp2_with fail
      try simp only [Exit.inBlock, Exit.then]
      refine bodyPost_ret (end_cell rfl rfl (load23 (At.new w xk xn xs).c0 (At.new w xk xn xs).c1 (At.new w xk xn xs).c2)) rfl ?_
      exact ⟨rfl, below1 _ _⟩
    · have h1i : (n : Int) ≤ (k : Int) := by omega
      have HV : Hid (atV r k = ⟨0, 0, ⟨#[]⟩⟩) := by show atV r k = _; unfold atV; rw [if_pos (by omega), Int.toNat_natCast, List.getElem?_eq_none (by omega)]; rfl
      rw [HV.out]
      go_enter Tryd.func30, Tryd.ntmps30
      go_wp2_with fail
      try simp only [Exit.inBlock, Exit.then]
      refine bodyPost_ret (end_cell rfl rfl (load23 (by simp [go_sem]; rfl) (by simp [go_sem]; rfl) (by simp [go_sem]; rfl))) rfl ?_
      exact ⟨rfl, below1 _ _⟩
set_option maxHeartbeats 1000000 in
theorem refAt_is (a : Option Addr) (c n : Nat) (r : List V) (hn : r.length = n) (hl : n ≤ 1000000) (w : World) (h : Row w (.slice a r.length c) r) (col : Int) :
    Calls Tryd.prog 31 #[.slice a n c, .int .i64 col] w fun e w' => e = .returned (atV r col).val ∧ Below w.heap.size w w' := by
  by_cases h0 : col < 0
  · have HV : Hid (atV r col = ⟨0, 0, ⟨#[]⟩⟩) := by show atV r col = _; unfold atV; rw [if_neg (by omega)]
    rw [HV.out]
    go_enter Tryd.func31, Tryd.ntmps31
    go_wp2_with fail
    try simp only [Exit.inBlock, Exit.then]
    refine bodyPost_ret (end_cell rfl rfl (load23 (by simp [go_sem]; rfl) (by simp [go_sem]; rfl) (by simp [go_sem]; rfl))) rfl ?_
    exact ⟨rfl, below1 _ _⟩
  · obtain ⟨k, rfl⟩ : ∃ k : Nat, col = (k : Int) := ⟨col.toNat, by omega⟩
    by_cases h1 : k < n
    · have hkl : k < r.length := by omega
      have h1i : ¬ (n : Int) ≤ (k : Int) := by omega
      have h1j : (k : Int) < (n : Int) := by omega
      obtain ⟨b, o, rfl, A0⟩ := h.at k hkl
      have HV : Hid (atV r k = r[k]) := by show atV r k = _; unfold atV; rw [if_pos (by omega), Int.toNat_natCast, List.getElem?_eq_getElem hkl]; rfl
      rw [HV.out]
      have A1 := A0.next (below1 w (.cells #[.int .i64 0, .int .i64 0, .string ⟨#[]⟩] 23))
      generalize r[k] = x at *
      obtain ⟨xk, xn, xs⟩ := x
      obtain ⟨c0, c1, c2⟩ := A0
      obtain ⟨d0, d1, d2⟩ := A1
      clear h HV
      go_enter Tryd.func31, Tryd.ntmps31
      go_wp2_with fail
      try simp only [Exit.inBlock, Exit.then]
      refine bodyPost_ret (end_cell rfl rfl (load23 (At.new w xk xn xs).c0 (At.new w xk xn xs).c1 (At.new w xk xn xs).c2)) rfl ?_
      exact ⟨rfl, below1 _ _⟩
    · have h1i : (n : Int) ≤ (k : Int) := by omega
      have HV : Hid (atV r k = ⟨0, 0, ⟨#[]⟩⟩) := by show atV r k = _; unfold atV; rw [if_pos (by omega), Int.toNat_natCast, List.getElem?_eq_none (by omega)]; rfl
      rw [HV.out]
      go_enter Tryd.func31, Tryd.ntmps31
      go_wp2_with fail
      try simp only [Exit.inBlock, Exit.then]
      refine bodyPost_ret (end_cell rfl rfl (load23 (by simp [go_sem]; rfl) (by simp [go_sem]; rfl) (by simp [go_sem]; rfl))) rfl ?_
      exact ⟨rfl, below1 _ _⟩

/-- Which of two rows stands first, by some columns. -/
def cmpX (x y : V) : Int := cmpV x.k x.n x.s y.k y.n y.s
def cmpR (a b : List V) : List (Int × Bool) → Int
  | [] => 0
  | (col, down) :: r => if cmpX (atV a col) (atV b col) = 0 then cmpR a b r else if down = true then - cmpX (atV a col) (atV b col) else cmpX (atV a col) (atV b col)
/-- Columns in memory. -/
def Keys (w : World) (v : Value) (l : List (Int × Bool)) : Prop := (∃ a c, v = .slice a 0 c ∧ l = []) ∨ ∃ b o c, v = .slice (some ⟨b, o, none⟩) l.length c ∧ ∀ i (hi : i < l.length), w.cell? ⟨b, o + i * 2, none⟩ = some (.int .i64 l[i].1) ∧ w.cell? ⟨b, o + i * 2 + 1, none⟩ = some (.bool l[i].2)
theorem Keys.at {w : World} {a : Option Addr} {c : Nat} {l : List (Int × Bool)} (h : Keys w (.slice a l.length c) l) (i : Nat) (hi : i < l.length) : ∃ b o, a = some ⟨b, o, none⟩ ∧ w.cell? ⟨b, o + i * 2, none⟩ = some (.int .i64 l[i].1) ∧ w.cell? ⟨b, o + i * 2 + 1, none⟩ = some (.bool l[i].2) := by
  rcases h with ⟨_, _, _, rfl⟩ | ⟨b, o, _, e, h⟩
  · exact absurd hi (Nat.not_lt_zero i)
  · cases e; exact ⟨b, o, rfl, h i hi⟩
theorem cmpR_drop (a b : List V) (l : List (Int × Bool)) (i : Nat) (hi : i < l.length) : cmpR a b (l.drop i) = if cmpX (atV a l[i].1) (atV b l[i].1) = 0 then cmpR a b (l.drop (i + 1)) else if l[i].2 = true then - cmpX (atV a l[i].1) (atV b l[i].1) else cmpX (atV a l[i].1) (atV b l[i].1) := by
  rw [List.drop_eq_getElem_cons hi, cmpR]

set_option maxHeartbeats 1000000 in
theorem compareRows_is (a b g : Option Addr) (ca cb cg na nb ng : Nat) (ra rb : List V) (l : List (Int × Bool)) (hna : ra.length = na) (hnb : rb.length = nb) (hng : l.length = ng) (hla : na ≤ 1000000) (hlb : nb ≤ 1000000) (hlg : ng ≤ 1000000) (w : World)
    (ha : Row w (.slice a ra.length ca) ra) (hb : Row w (.slice b rb.length cb) rb) (hg : Keys w (.slice g l.length cg) l) :
    Calls Tryd.prog 14 #[.slice a na ca, .slice b nb cb, .slice g ng cg] w fun e w' => e = .returned (.int .i64 (cmpR ra rb l)) ∧ Below w.heap.size w w' := by
  have HA : Hid (Row w (.slice a ra.length ca) ra) := ha
  have HB : Hid (Row w (.slice b rb.length cb) rb) := hb
  have HG : Hid (Keys w (.slice g l.length cg) l) := hg
  have HNG : Hid _ := hng
  have HNA : Hid _ := hna
  have HNB : Hid _ := hnb
  obtain ⟨res, hres⟩ : ∃ res, cmpR ra rb l = res := ⟨_, rfl⟩
  rw [hres]
  have HR : Hid (cmpR ra rb (l.drop 0) = res) := hres
  clear ha hb hg hng hna hnb hres
  have wz1 : IntKind.i64.wrap 1 = 1 := by decide
  have wz2 : IntKind.i64.wrap (-1) = -1 := by decide
  go_enter Tryd.func14, Tryd.ntmps14
  go_wp2_with fail
  go_loopw [12] (fun i wr => ∃ k : Nat, k ≤ ng ∧ i = .int .i64 k ∧ Hid (Below w.heap.size w wr ∧ cmpR ra rb (l.drop k) = res))
    (fun i _ => ng - (intOf i).toNat)
  case atStart => exact ⟨0, Nat.zero_le _, rfl, Below.refl _ _, HR.out⟩
  case round =>
    obtain ⟨k, hk, rfl, HI⟩ := hrel
    by_cases hlt : k < ng
    · have hlti : (k : Int) < (ng : Int) := by omega
      have hkl : k < l.length := by have := HNG.out; omega
      obtain ⟨gb, go, rfl, k0, k1⟩ := HG.out.at k hkl
      have d0 : wr.cell? ⟨gb, go + k * 2, none⟩ = some (.int .i64 l[k].1) := (HI.out.1.cell (p := ⟨gb, go + k * 2, none⟩) (World.block_lt_of_cell? w _ k0)).trans k0
      have d1 : wr.cell? ⟨gb, go + k * 2 + 1, none⟩ = some (.bool l[k].2) := (HI.out.1.cell (p := ⟨gb, go + k * 2 + 1, none⟩) (World.block_lt_of_cell? w _ k1)).trans k1
      have HD : Hid _ := cmpR_drop ra rb l k hkl
      generalize l[k] = key at *
      obtain ⟨col, down⟩ := key
      obtain ⟨W, hW⟩ : ∃ W, wr.alloc (.cells #[.int .i64 col, .bool down] 34) = W := ⟨_, rfl⟩
      have hB : Below wr.heap.size wr W := hW ▸ below1 _ _
      have hBW : Below w.heap.size w W := Below.less HI.out.1 hB HI.out.1.size
      have hS0 : Below W.heap.size W W ∧ W.cell? ⟨wr.heap.size, 0, none⟩ = some (.int .i64 col) ∧ W.cell? ⟨wr.heap.size, 1, none⟩ = some (.bool down) := ⟨Below.refl _ _, by rw [← hW]; simp, by rw [← hW]; simp⟩
      have hN : ∀ w' w'', (Below W.heap.size W w' ∧ w'.cell? ⟨wr.heap.size, 0, none⟩ = some (.int .i64 col) ∧ w'.cell? ⟨wr.heap.size, 1, none⟩ = some (.bool down)) → Below w'.heap.size w' w'' → (Below W.heap.size W w'' ∧ w''.cell? ⟨wr.heap.size, 0, none⟩ = some (.int .i64 col) ∧ w''.cell? ⟨wr.heap.size, 1, none⟩ = some (.bool down)) := by
        rintro w' w'' ⟨p0, p1, p2⟩ q
        exact ⟨Below.next p0 q, (q.cell (World.block_lt_of_cell? w' _ p1)).trans p1, (q.cell (World.block_lt_of_cell? w' _ p2)).trans p2⟩
      have HSD : Hid (∀ w', (Below W.heap.size W w' ∧ w'.cell? ⟨wr.heap.size, 0, none⟩ = some (.int .i64 col) ∧ w'.cell? ⟨wr.heap.size, 1, none⟩ = some (.bool down)) → (Below W.heap.size W w'.drew ∧ w'.drew.cell? ⟨wr.heap.size, 0, none⟩ = some (.int .i64 col) ∧ w'.drew.cell? ⟨wr.heap.size, 1, none⟩ = some (.bool down))) := fun w' hS => ⟨hS.1.drew, hS.2⟩
      have hx := fun w' (hS : Below W.heap.size W w' ∧ w'.cell? ⟨wr.heap.size, 0, none⟩ = some (.int .i64 col) ∧ w'.cell? ⟨wr.heap.size, 1, none⟩ = some (.bool down)) => valueAt_is a ca na ra HNA.out hla w' (HA.out.next (Below.less hBW hS.1 hBW.size)) col
      have hy := fun w' (hS : Below W.heap.size W w' ∧ w'.cell? ⟨wr.heap.size, 0, none⟩ = some (.int .i64 col) ∧ w'.cell? ⟨wr.heap.size, 1, none⟩ = some (.bool down)) => valueAt_is b cb nb rb HNB.out hlb w' (HB.out.next (Below.less hBW hS.1 hBW.size)) col
      simp only at HD
      generalize atV ra col = x at *
      generalize atV rb col = y at *
      obtain ⟨xk, xn, xs⟩ := x
      obtain ⟨yk, yn, ys⟩ := y
      obtain ⟨c, hc⟩ : ∃ c, cmpV xk xn xs yk yn ys = c := ⟨_, rfl⟩
      have hr := cmpV_range xk xn xs yk yn ys
      have H1 : Hid (∀ w', (Below W.heap.size W w' ∧ w'.cell? ⟨wr.heap.size, 0, none⟩ = some (.int .i64 col) ∧ w'.cell? ⟨wr.heap.size, 1, none⟩ = some (.bool down)) → Calls Tryd.prog 30 #[.slice a na ca, .int .i64 col] w' fun e w'' => e = .returned (.agg #[.int .i64 xk, .int .i64 xn, .string xs]) ∧ Below W.heap.size W w'' ∧ w''.cell? ⟨wr.heap.size, 0, none⟩ = some (.int .i64 col) ∧ w''.cell? ⟨wr.heap.size, 1, none⟩ = some (.bool down)) := fun w' hS => (hx w' hS).mono (by rintro e w'' ⟨rfl, q⟩; exact ⟨rfl, hN _ _ hS q⟩)
      have H2 : Hid (∀ w', (Below W.heap.size W w' ∧ w'.cell? ⟨wr.heap.size, 0, none⟩ = some (.int .i64 col) ∧ w'.cell? ⟨wr.heap.size, 1, none⟩ = some (.bool down)) → Calls Tryd.prog 30 #[.slice b nb cb, .int .i64 col] w' fun e w'' => e = .returned (.agg #[.int .i64 yk, .int .i64 yn, .string ys]) ∧ Below W.heap.size W w'' ∧ w''.cell? ⟨wr.heap.size, 0, none⟩ = some (.int .i64 col) ∧ w''.cell? ⟨wr.heap.size, 1, none⟩ = some (.bool down)) := fun w' hS => (hy w' hS).mono (by rintro e w'' ⟨rfl, q⟩; exact ⟨rfl, hN _ _ hS q⟩)
      have H3 : Hid (∀ w', (Below W.heap.size W w' ∧ w'.cell? ⟨wr.heap.size, 0, none⟩ = some (.int .i64 col) ∧ w'.cell? ⟨wr.heap.size, 1, none⟩ = some (.bool down)) → Calls Tryd.prog 8 #[.agg #[.int .i64 xk, .int .i64 xn, .string xs], .agg #[.int .i64 yk, .int .i64 yn, .string ys]] w' fun e w'' => e = .returned (.int .i64 c) ∧ Below W.heap.size W w'' ∧ w''.cell? ⟨wr.heap.size, 0, none⟩ = some (.int .i64 col) ∧ w''.cell? ⟨wr.heap.size, 1, none⟩ = some (.bool down)) := fun w' hS => (compare_is xk xn yk yn xs ys w').mono (by rintro e w'' ⟨rfl, q⟩; exact ⟨by rw [hc], hN _ _ hS q⟩)
      have HD' : Hid (res = if c = 0 then cmpR ra rb (l.drop (k + 1)) else if down = true then - c else c) := by
        show res = _
        rw [← HI.out.2, HD.out]
        have e : cmpX ⟨xk, xn, xs⟩ ⟨yk, yn, ys⟩ = c := hc
        rw [e]
      have HBW : Hid (Below w.heap.size w W) := hBW
      rw [hc] at hr
      clear hc hx hy hN hB hBW HD k0 k1
      go_wp2_with fail
      try rw [hW]
      clear hW
      go_region_held (fun (w' : World) => Below W.heap.size W w' ∧ w'.cell? ⟨wr.heap.size, 0, none⟩ = some (.int .i64 col) ∧ w'.cell? ⟨wr.heap.size, 1, none⟩ = some (.bool down)) (first | (with_reducible assumption) | (with_reducible exact HSD.out _ (by with_reducible assumption)))
        (first
        | ((with_reducible refine Calls.mono (H1.out _ (by with_reducible assumption)) ?_); rintro e w3 ⟨rfl, hS3⟩)
        | ((with_reducible refine Calls.mono (H2.out _ (by with_reducible assumption)) ?_); rintro e w3 ⟨rfl, hS3⟩)
        | ((with_reducible refine Calls.mono (H3.out _ (by with_reducible assumption)) ?_); rintro e w3 ⟨rfl, hS3⟩))
      have HK : Hid (Below w.heap.size w w3) := Below.less HBW.out hS3.1 HBW.out.size
      obtain ⟨_, p1, p2⟩ := hS3
      rcases hr with rfl | rfl | rfl
      · cases down with
        | true =>
          have HV : Hid (res = 1) := HD'.out
          go_wp2_with fail
          go_ret
          exact ⟨by rw [HV.out]; rfl, HK.out⟩
        | false =>
          have HV : Hid (res = -1) := HD'.out
          go_wp2_with fail
          go_ret
          exact ⟨by rw [HV.out]; rfl, HK.out⟩
      · have HV : Hid (res = cmpR ra rb (l.drop (k + 1))) := HD'.out
        go_wp2_with fail
        go_roundw
        case rel => exact ⟨k + 1, by omega, by go_num, HK.out, HV.out.symm⟩
        case measure => simp [intOf]; omega
      · cases down with
        | true =>
          have HV : Hid (res = -1) := HD'.out
          go_wp2_with fail
          go_ret
          exact ⟨by rw [HV.out]; rfl, HK.out⟩
        | false =>
          have HV : Hid (res = 1) := HD'.out
          go_wp2_with fail
          go_ret
          exact ⟨by rw [HV.out]; rfl, HK.out⟩
    · have hlti : ¬ (k : Int) < (ng : Int) := by omega
      have HV : Hid (res = 0) := by
        have := HI.out.2
        rw [List.drop_of_length_le (by have := HNG.out; omega)] at this
        exact this.symm
      go_wp2_with fail
      go_ret
      exact ⟨by rw [HV.out]; rfl, HI.out.1⟩
end Go.Proofs.YtmjajlmknncggaaDoor
