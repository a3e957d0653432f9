/- A space in memory. Spaces that nobody opened; small calls. Pages read and written. A page is taken. filled: a page of one byte. The greatest page in use. States in memory. -/
import Derived.Test.YtkhpmmmildcceaaGreatQRpl
namespace Go.Proofs.YtkhpmmmildcceaaGreat
open Go.ChangeShapes Go.WideShapes Go.ChangeAt Go.RowKit
set_option linter.unusedVariables false
set_option maxRecDepth 100000

theorem hasU_is {w : World} {b o : Nat} {u : List UInt8} (h : Us w b o u) (n : Int) : Calls Tryz.prog 54 #[.pointer (some ⟨b, o, none⟩), .int .i64 n] w fun e w' => e = .returned (.bool (hasU u n)) ∧ w' = w := by
  by_cases hn : 1 ≤ n ∧ n ≤ 504
  · have := has_yes h (n - 1).toNat (by omega)
    have e : (((n - 1).toNat : Nat) : Int) + 1 = n := by omega
    rw [e] at this
    have e2 : hasU u n = bitU u (n - 1).toNat := by unfold hasU; rw [decide_eq_true hn]; rfl
    rw [e2]
    exact this
  · have e2 : hasU u n = false := by unfold hasU; rw [decide_eq_false hn]; rfl
    rw [e2]
    exact has_no n hn
/-- A space in memory. -/
structure Sp where
  pd : Nat
  fr : Nat
  pg : Nat
  tn : Nat
  ul : List UInt8
  ml : Option Nat
  un : List UInt8
  mn : Option Nat
def Sp.C (x : Sp) : List Value := [.pointer (some ⟨x.pd, 0, none⟩), .int .i64 (x.fr : Int), .int .i64 (x.pg : Int), .int .i64 (x.tn : Int)] ++ (bv x.ul ++ ([.map x.ml] ++ (bv x.un ++ [.map x.mn])))
structure SpAt (w : World) (p : Nat) (x : Sp) : Prop where
  blk : Blk w p 70 x.C
  ll : x.ul.length = 63
  ln : x.un.length = 63
theorem bv_length (u : List UInt8) : (bv u).length = u.length := by unfold bv; rw [List.length_map]
theorem SpAt.c0 {w : World} {p : Nat} {x : Sp} (h : SpAt w p x) : w.cell? ⟨p, 0, none⟩ = some (.pointer (some ⟨x.pd, 0, none⟩)) := h.blk.cell (i := 0) rfl
theorem SpAt.c1 {w : World} {p : Nat} {x : Sp} (h : SpAt w p x) : w.cell? ⟨p, 1, none⟩ = some (.int .i64 (x.fr : Int)) := h.blk.cell (i := 1) rfl
theorem SpAt.c2 {w : World} {p : Nat} {x : Sp} (h : SpAt w p x) : w.cell? ⟨p, 2, none⟩ = some (.int .i64 (x.pg : Int)) := h.blk.cell (i := 2) rfl
theorem SpAt.c3 {w : World} {p : Nat} {x : Sp} (h : SpAt w p x) : w.cell? ⟨p, 3, none⟩ = some (.int .i64 (x.tn : Int)) := h.blk.cell (i := 3) rfl
theorem Sp.C_last (x : Sp) (hl : x.ul.length = 63) (i : Nat) (hi : i < 63) : x.C[4 + i]? = (bv x.ul)[i]? := by
  unfold Sp.C
  rw [List.getElem?_append_right (by show 4 ≤ _; omega), show 4 + i - ([.pointer (some ⟨x.pd, 0, none⟩), .int .i64 (x.fr : Int), .int .i64 (x.pg : Int), .int .i64 (x.tn : Int)] : List Value).length = i by show 4 + i - 4 = i; omega, List.getElem?_append_left (by rw [bv_length]; omega)]
theorem Sp.C_now (x : Sp) (hl : x.ul.length = 63) (hn : x.un.length = 63) (i : Nat) (hi : i < 63) : x.C[68 + i]? = (bv x.un)[i]? := by
  unfold Sp.C
  rw [List.getElem?_append_right (by show 4 ≤ _; omega), show 68 + i - ([.pointer (some ⟨x.pd, 0, none⟩), .int .i64 (x.fr : Int), .int .i64 (x.pg : Int), .int .i64 (x.tn : Int)] : List Value).length = 64 + i by show 68 + i - 4 = _; omega, List.getElem?_append_right (by rw [bv_length]; omega), bv_length, hl, List.getElem?_append_right (by show 1 ≤ _; omega), List.getElem?_append_left (by rw [bv_length]; show 64 + i - 63 - 1 < _; omega)]
  congr 1
  show 64 + i - 63 - 1 = i
  omega
theorem us_of {w : World} {p o : Nat} {C : List Value} {u : List UInt8} {t : TypeId} (h : Blk w p t C) (hu : u.length = 63) (hc : ∀ i, i < 63 → C[o + i]? = (bv u)[i]?) : Us w p o u := ⟨hu, fun i x hx => h.cell (by
  have hi : i < 63 := by rw [← hu]; exact (List.getElem?_eq_some_iff.1 hx).1
  rw [hc i hi]
  unfold bv
  rw [List.getElem?_map, hx]
  rfl)⟩
theorem SpAt.last {w : World} {p : Nat} {x : Sp} (h : SpAt w p x) : Us w p 4 x.ul := us_of h.blk h.ll (x.C_last h.ll)
theorem SpAt.now {w : World} {p : Nat} {x : Sp} (h : SpAt w p x) : Us w p 68 x.un := us_of h.blk h.ln (x.C_now h.ll h.ln)
theorem flipU_len (u : List UInt8) (k : Nat) : (flipU u k).length = u.length := by unfold flipU; rw [List.length_set]
theorem bvs_set (u : List UInt8) (i : Nat) (y : UInt8) : (bv u).set i (.int .u8 (y.toNat : Int)) = bv (u.set i y) := by unfold bv; rw [List.map_set]
theorem Sp.C_flip (x : Sp) (hl : x.ul.length = 63) (hn : x.un.length = 63) (k : Nat) (hk : k < 504) : x.C.set (68 + k / 8) (.int .u8 ((x.un.getD (k / 8) 0 ^^^ UInt8.ofNat (2 ^ (k % 8))).toNat : Int)) = Sp.C { x with un := flipU x.un k } := by
  unfold Sp.C flipU
  have hq : k / 8 < 63 := by omega
  rw [List.set_append, if_neg (by show ¬ _ < 4; omega)]
  congr 1
  have e1 : 68 + k / 8 - ([.pointer (some ⟨x.pd, 0, none⟩), .int .i64 (x.fr : Int), .int .i64 (x.pg : Int), .int .i64 (x.tn : Int)] : List Value).length = 64 + k / 8 := by show 68 + k / 8 - 4 = _; omega
  rw [e1, List.set_append, if_neg (by rw [bv_length]; omega), bv_length, hl]
  congr 1
  rw [List.set_append, if_neg (by show ¬ _ < 1; omega)]
  congr 1
  rw [List.set_append, if_pos (by rw [bv_length]; show 64 + k / 8 - 63 - 1 < _; omega)]
  congr 1
  have e : 64 + k / 8 - 63 - ([.map x.ml] : List Value).length = k / 8 := by show 64 + k / 8 - 63 - 1 = _; omega
  rw [e, bvs_set]
theorem SpAt.kept {F : Nat → Prop} {w w' : World} {p : Nat} {x : Sp} (h : SpAt w p x) (k : Kept F w w') (hn : ¬ F p) : SpAt w' p x := ⟨h.blk.kept k hn, h.ll, h.ln⟩
theorem flipNow {w : World} {p : Nat} {x : Sp} (h : SpAt w p x) (k : Nat) (hk : k < 504) : Calls Tryz.prog 52 #[.pointer (some ⟨p, 68, none⟩), .int .i64 (k + 1 : Int)] w fun e w' => e = .returned (.tuple #[]) ∧ SpAt w' p { x with un := flipU x.un k } ∧ Kept (fun i => i = p) w w' :=
  (flip_is h.blk x.un h.ln (x.C_now h.ll h.ln) k hk).mono fun e w' ⟨q1, q2, q3⟩ => ⟨q1, ⟨by rw [x.C_flip h.ll h.ln k hk] at q2; exact q2, h.ll, by show (flipU x.un k).length = 63; rw [flipU_len]; exact h.ln⟩, q3⟩
theorem open_yes {w : World} {p : Nat} {x : Sp} (h : SpAt w p x) : Calls Tryz.prog 35 #[.pointer (some ⟨p, 0, none⟩)] w fun e w' => e = .returned (.bool true) ∧ w' = w := by
  have c := h.c0
  clear h
  go_enter Tryz.func35, Tryz.ntmps35
  go_wp2_with fail
  go_ret
  exact ⟨rfl, rfl⟩
/-- One that Open did not give. -/
def Nobody (w : World) (v : Value) : Prop := v = .pointer none ∨ ∃ q, v = .pointer (some ⟨q, 0, none⟩) ∧ w.cell? ⟨q, 0, none⟩ = some (.pointer none)
theorem open_no {w : World} {v : Value} (h : Nobody w v) : Calls Tryz.prog 35 #[v] w fun e w' => e = .returned (.bool false) ∧ w' = w := by
  rcases h with rfl | ⟨q, rfl, c⟩
  · go_enter Tryz.func35, Tryz.ntmps35
    go_wp2_with fail
    go_ret
    exact ⟨rfl, rfl⟩
  · go_enter Tryz.func35, Tryz.ntmps35
    go_wp2_with fail
    go_ret
    exact ⟨rfl, rfl⟩
end Go.Proofs.YtkhpmmmildcceaaGreat

namespace Go.Proofs.YtkhpmmmildcceaaGreat
open Go.ChangeShapes Go.WideShapes Go.ChangeAt Go.RowKit
set_option linter.unusedVariables false
set_option maxRecDepth 100000

theorem pages_no {w : World} {v : Value} (h : Nobody w v)  : Calls Tryz.prog 10 #[v] w fun e w' => e = .returned (.int .i64 0) ∧ w' = w := by
  have HO : Hid _ := open_no h
  clear h
  go_enter Tryz.func10, Tryz.ntmps10
  go_wp2_with fail
  refine Calls.mono HO.out ?_; rintro e w1 ⟨rfl, rfl⟩
  go_wp2_with fail
  go_ret
  exact ⟨rfl, rfl⟩

theorem used_no {w : World} {v : Value} (h : Nobody w v)  : Calls Tryz.prog 15 #[v] w fun e w' => e = .returned (.int .i64 0) ∧ w' = w := by
  have HO : Hid _ := open_no h
  clear h
  go_enter Tryz.func15, Tryz.ntmps15
  go_wp2_with fail
  refine Calls.mono HO.out ?_; rintro e w1 ⟨rfl, rfl⟩
  go_wp2_with fail
  go_ret
  exact ⟨rfl, rfl⟩

theorem turn_no {w : World} {v : Value} (h : Nobody w v)  : Calls Tryz.prog 16 #[v] w fun e w' => e = .returned (.int .i64 0) ∧ w' = w := by
  have HO : Hid _ := open_no h
  clear h
  go_enter Tryz.func16, Tryz.ntmps16
  go_wp2_with fail
  refine Calls.mono HO.out ?_; rintro e w1 ⟨rfl, rfl⟩
  go_wp2_with fail
  go_ret
  exact ⟨rfl, rfl⟩

theorem alloc_no {w : World} {v : Value} (h : Nobody w v)  : Calls Tryz.prog 18 #[v] w fun e w' => e = .returned (.tuple #[.int .i64 0, .int .i64 1]) ∧ w' = w := by
  have HO : Hid _ := open_no h
  clear h
  go_enter Tryz.func18, Tryz.ntmps18
  go_wp2_with fail
  refine Calls.mono HO.out ?_; rintro e w1 ⟨rfl, rfl⟩
  go_wp2_with fail
  go_ret2
  exact ⟨rfl, rfl⟩

theorem sread_no {w : World} {v : Value} (h : Nobody w v) (n : Int) : Calls Tryz.prog 25 #[v, .int .i64 n] w fun e w' => e = .returned (.tuple #[.string ⟨#[]⟩, .int .i64 1]) ∧ w' = w := by
  have HO : Hid _ := open_no h
  clear h
  go_enter Tryz.func25, Tryz.ntmps25
  go_wp2_with fail
  refine Calls.mono HO.out ?_; rintro e w1 ⟨rfl, rfl⟩
  go_wp2_with fail
  go_ret2
  exact ⟨rfl, rfl⟩

theorem named_no {w : World} {v : Value} (h : Nobody w v) (s : ByteArray) : Calls Tryz.prog 26 #[v, .string s] w fun e w' => e = .returned (.tuple #[.int .i64 0, .bool false]) ∧ w' = w := by
  have HO : Hid _ := open_no h
  clear h
  go_enter Tryz.func26, Tryz.ntmps26
  go_wp2_with fail
  refine Calls.mono HO.out ?_; rintro e w1 ⟨rfl, rfl⟩
  go_wp2_with fail
  go_ret2
  exact ⟨rfl, rfl⟩

theorem release_no {w : World} {v : Value} (h : Nobody w v) (n : Int) : Calls Tryz.prog 23 #[v, .int .i64 n] w fun e w' => e = .returned (.int .i64 1) ∧ w' = w := by
  have HO : Hid _ := open_no h
  clear h
  go_enter Tryz.func23, Tryz.ntmps23
  go_wp2_with fail
  refine Calls.mono HO.out ?_; rintro e w1 ⟨rfl, rfl⟩
  go_wp2_with fail
  go_ret
  exact ⟨rfl, rfl⟩

theorem swrite_no {w : World} {v : Value} (h : Nobody w v) (n : Int) (s : ByteArray) : Calls Tryz.prog 19 #[v, .int .i64 n, .string s] w fun e w' => e = .returned (.int .i64 1) ∧ w' = w := by
  have HO : Hid _ := open_no h
  clear h
  go_enter Tryz.func19, Tryz.ntmps19
  go_wp2_with fail
  refine Calls.mono HO.out ?_; rintro e w1 ⟨rfl, rfl⟩
  go_wp2_with fail
  go_ret
  exact ⟨rfl, rfl⟩

theorem fresh_no {w : World} {v : Value} (h : Nobody w v) (n : Int) : Calls Tryz.prog 27 #[v, .int .i64 n] w fun e w' => e = .returned (.bool false) ∧ w' = w := by
  have HO : Hid _ := open_no h
  clear h
  go_enter Tryz.func27, Tryz.ntmps27
  go_wp2_with fail
  refine Calls.mono HO.out ?_; rintro e w1 ⟨rfl, rfl⟩
  go_wp2_with fail
  go_ret
  exact ⟨rfl, rfl⟩

theorem names_no {w : World} {v : Value} (h : Nobody w v)  : Calls Tryz.prog 17 #[v] w fun e w' => e = .returned (.slice none 0 0) ∧ w' = w := by
  have HO : Hid _ := open_no h
  clear h
  go_enter Tryz.func17, Tryz.ntmps17
  go_wp2_with fail
  refine Calls.mono HO.out ?_; rintro e w1 ⟨rfl, rfl⟩
  go_wp2_with fail
  go_ret
  exact ⟨rfl, rfl⟩

theorem name_no {w : World} {v : Value} (h : Nobody w v) (s : ByteArray) (n : Int) : Calls Tryz.prog 21 #[v, .string s, .int .i64 n] w fun e w' => e = .returned (.int .i64 1) ∧ w' = w := by
  have HO : Hid _ := open_no h
  clear h
  go_enter Tryz.func21, Tryz.ntmps21
  go_wp2_with fail
  refine Calls.mono HO.out ?_; rintro e w1 ⟨rfl, rfl⟩
  go_wp2_with fail
  go_ret
  exact ⟨rfl, rfl⟩

theorem forget_no {w : World} {v : Value} (h : Nobody w v) (s : ByteArray) : Calls Tryz.prog 28 #[v, .string s] w fun e w' => e = .returned (.int .i64 1) ∧ w' = w := by
  have HO : Hid _ := open_no h
  clear h
  go_enter Tryz.func28, Tryz.ntmps28
  go_wp2_with fail
  refine Calls.mono HO.out ?_; rintro e w1 ⟨rfl, rfl⟩
  go_wp2_with fail
  go_ret
  exact ⟨rfl, rfl⟩

theorem commit_no {w : World} {v : Value} (h : Nobody w v)  : Calls Tryz.prog 22 #[v] w fun e w' => e = .returned (.int .i64 1) ∧ w' = w := by
  have HO : Hid _ := open_no h
  clear h
  go_enter Tryz.func22, Tryz.ntmps22
  go_wp2_with fail
  refine Calls.mono HO.out ?_; rintro e w1 ⟨rfl, rfl⟩
  go_wp2_with fail
  go_ret
  exact ⟨rfl, rfl⟩

theorem rollback_no {w : World} {v : Value} (h : Nobody w v)  : Calls Tryz.prog 29 #[v] w fun e w' => e = .returned (.int .i64 1) ∧ w' = w := by
  have HO : Hid _ := open_no h
  clear h
  go_enter Tryz.func29, Tryz.ntmps29
  go_wp2_with fail
  refine Calls.mono HO.out ?_; rintro e w1 ⟨rfl, rfl⟩
  go_wp2_with fail
  go_ret
  exact ⟨rfl, rfl⟩

theorem pages_is {w : World} {p : Nat} {x : Sp} (h : SpAt w p x) : Calls Tryz.prog 10 #[.pointer (some ⟨p, 0, none⟩)] w fun e w' => e = .returned (.int .i64 (x.pg : Int)) ∧ w' = w := by
  have HO : Hid _ := open_yes h
  have c := h.c2
  clear h
  go_enter Tryz.func10, Tryz.ntmps10
  go_wp2_with fail
  refine Calls.mono HO.out ?_; rintro e w1 ⟨rfl, rfl⟩
  go_wp2_with fail
  go_ret
  exact ⟨rfl, rfl⟩
theorem turn_is {w : World} {p : Nat} {x : Sp} (h : SpAt w p x) : Calls Tryz.prog 16 #[.pointer (some ⟨p, 0, none⟩)] w fun e w' => e = .returned (.int .i64 (x.tn : Int)) ∧ w' = w := by
  have HO : Hid _ := open_yes h
  have c := h.c3
  clear h
  go_enter Tryz.func16, Tryz.ntmps16
  go_wp2_with fail
  refine Calls.mono HO.out ?_; rintro e w1 ⟨rfl, rfl⟩
  go_wp2_with fail
  go_ret
  exact ⟨rfl, rfl⟩
theorem sused_is {w : World} {p : Nat} {x : Sp} (h : SpAt w p x) : Calls Tryz.prog 15 #[.pointer (some ⟨p, 0, none⟩)] w fun e w' => e = .returned (.int .i64 (cntU x.un : Int)) ∧ w' = w := by
  have HO : Hid _ := open_yes h
  have HC : Hid _ := count_is h.now
  clear h
  go_enter Tryz.func15, Tryz.ntmps15
  go_wp2_with fail
  refine Calls.mono HO.out ?_; rintro e w1 ⟨rfl, rfl⟩
  go_wp2_with fail
  refine Calls.mono HC.out ?_; rintro e w2 ⟨rfl, rfl⟩
  go_wp2_with fail
  go_ret
  exact ⟨rfl, rfl⟩
theorem fresh_is {w : World} {p : Nat} {x : Sp} (h : SpAt w p x) (n : Int) : Calls Tryz.prog 27 #[.pointer (some ⟨p, 0, none⟩), .int .i64 n] w fun e w' => e = .returned (.bool (hasU x.un n && !hasU x.ul n)) ∧ w' = w := by
  have HO : Hid _ := open_yes h
  have HN := (show Hid _ from hasU_is h.now n)
  have HL := (show Hid _ from hasU_is h.last n)
  clear h
  cases hh : hasU x.un n with
  | false =>
    rw [hh] at HN
    go_enter Tryz.func27, Tryz.ntmps27
    go_wp2_with fail
    refine Calls.mono HO.out ?_; rintro e w1 ⟨rfl, rfl⟩
    go_wp2_with fail
    refine Calls.mono HN.out ?_; rintro e w2 ⟨rfl, rfl⟩
    go_wp2_with fail
    go_ret
    exact ⟨rfl, rfl⟩
  | true =>
    rw [hh] at HN
    cases hk : hasU x.ul n with
    | false =>
      rw [hk] at HL
      go_enter Tryz.func27, Tryz.ntmps27
      go_wp2_with fail
      refine Calls.mono HO.out ?_; rintro e w1 ⟨rfl, rfl⟩
      go_wp2_with fail
      refine Calls.mono HN.out ?_; rintro e w2 ⟨rfl, rfl⟩
      go_wp2_with fail
      refine Calls.mono HL.out ?_; rintro e w3 ⟨rfl, rfl⟩
      go_wp2_with fail
      go_ret
      exact ⟨rfl, rfl⟩
    | true =>
      rw [hk] at HL
      go_enter Tryz.func27, Tryz.ntmps27
      go_wp2_with fail
      refine Calls.mono HO.out ?_; rintro e w1 ⟨rfl, rfl⟩
      go_wp2_with fail
      refine Calls.mono HN.out ?_; rintro e w2 ⟨rfl, rfl⟩
      go_wp2_with fail
      refine Calls.mono HL.out ?_; rintro e w3 ⟨rfl, rfl⟩
      go_wp2_with fail
      go_ret
      exact ⟨rfl, rfl⟩
theorem release_is {w : World} {p : Nat} {x : Sp} (h : SpAt w p x) (n : Int) : Calls Tryz.prog 23 #[.pointer (some ⟨p, 0, none⟩), .int .i64 n] w fun e w' => (hasU x.un n = false ∧ e = .returned (.int .i64 130) ∧ w' = w) ∨ (hasU x.un n = true ∧ e = .returned (.int .i64 0) ∧ SpAt w' p { x with un := flipU x.un (n - 1).toNat } ∧ Kept (fun i => i = p) w w') := by
  have HO : Hid _ := open_yes h
  have HN := (show Hid _ from hasU_is h.now n)
  cases hh : hasU x.un n with
  | false =>
    rw [hh] at HN
    clear h
    go_enter Tryz.func23, Tryz.ntmps23
    go_wp2_with fail
    refine Calls.mono HO.out ?_; rintro e w1 ⟨rfl, rfl⟩
    go_wp2_with fail
    refine Calls.mono HN.out ?_; rintro e w2 ⟨rfl, rfl⟩
    go_wp2_with fail
    go_ret
    exact .inl ⟨by first | trivial | rfl, rfl, rfl⟩
  | true =>
    rw [hh] at HN
    have hb : 1 ≤ n ∧ n ≤ 504 := by
      unfold hasU at hh
      rw [Bool.and_eq_true] at hh
      exact of_decide_eq_true hh.1
    have HF : Hid (Calls Tryz.prog 52 #[.pointer (some ⟨p, 68, none⟩), .int .i64 n] w fun e w' => e = .returned (.tuple #[]) ∧ Hid (SpAt w' p { x with un := flipU x.un (n - 1).toNat } ∧ Kept (fun i => i = p) w w')) := by
      have := flipNow h (n - 1).toNat (by omega)
      have e : (((n - 1).toNat : Nat) : Int) + 1 = n := by omega
      rw [e] at this
      exact this
    clear h hb
    go_enter Tryz.func23, Tryz.ntmps23
    go_wp2_with fail
    refine Calls.mono HO.out ?_; rintro e w1 ⟨rfl, rfl⟩
    go_wp2_with fail
    refine Calls.mono HN.out ?_; rintro e w2 ⟨rfl, rfl⟩
    go_wp2_with fail
    refine Calls.mono HF.out ?_; rintro e w3 ⟨rfl, HR⟩
    go_wp2_with fail
    go_ret
    exact .inr ⟨by first | trivial | rfl, rfl, HR.out.1, HR.out.2⟩
end Go.Proofs.YtkhpmmmildcceaaGreat

namespace Go.Proofs.YtkhpmmmildcceaaGreat
open Go.ChangeShapes Go.WideShapes Go.ChangeAt Go.RowKit
set_option linter.unusedVariables false
set_option maxRecDepth 100000

theorem place_is (n : Nat) (hn : n ≤ 600) (w : World) : Calls Tryz.prog 50 #[.int .i64 (n : Int)] w fun e w' => e = .returned (.int .i64 ((n + 2 : Nat) : Int)) ∧ w' = w := by
  have e : (3 : Int) + (n : Int) - 1 = ((n + 2 : Nat) : Int) := by omega
  have HE : Hid _ := e
  clear e
  go_enter Tryz.func50, Tryz.ntmps50
  go_wp2_with fail
  go_ret
  exact ⟨congrArg (fun z => Ending.returned (.int .i64 z)) HE.out, rfl⟩
theorem hasU_range {u : List UInt8} {n : Int} (h : hasU u n = true) : 1 ≤ n ∧ n ≤ 504 := by
  unfold hasU at h
  rw [Bool.and_eq_true] at h
  exact of_decide_eq_true h.1
set_option maxHeartbeats 1000000 in
theorem sread_is {w : World} {F : Nat → Prop} {p : Nat} {x : Sp} {d : Dk} (h : SpAt w p x) (hd : Disk w F x.pd d) (hfr : x.fr ≤ 4096) (n : Int) (hin : hasU x.un n = true → (x.fr + (n.toNat + 2) * 8) + 8 ≤ d.n) : Calls Tryz.prog 25 #[.pointer (some ⟨p, 0, none⟩), .int .i64 n] w fun e w' => (hasU x.un n = false ∧ e = .returned (.tuple #[.string ⟨#[]⟩, .int .i64 130]) ∧ w' = w) ∨ (hasU x.un n = true ∧ e = .returned (if d.off then .tuple #[.string ⟨#[]⟩, .int .i64 30] else .tuple #[.string ⟨(rdP d (x.fr + (n.toNat + 2) * 8) 8).toArray⟩, .int .i64 0]) ∧ Kept (fun _ => False) w w') := by
  have HO : Hid _ := open_yes h
  have HN := (show Hid _ from hasU_is h.now n)
  obtain ⟨R, hR⟩ : ∃ R : Value, (if d.off then .tuple #[.string ⟨#[]⟩, .int .i64 30] else .tuple #[.string ⟨(rdP d (x.fr + (n.toNat + 2) * 8) 8).toArray⟩, .int .i64 0]) = R := ⟨_, rfl⟩
  rw [hR]
  obtain ⟨r0, r1, hr⟩ : ∃ r0 r1, R = .tuple #[r0, r1] := by
    rw [← hR]
    split
    · exact ⟨_, _, rfl⟩
    · exact ⟨_, _, rfl⟩
  cases hh : hasU x.un n with
  | false =>
    rw [hh] at HN
    clear h hd hin hR hr
    go_enter Tryz.func25, Tryz.ntmps25
    go_wp2_with fail
    refine Calls.mono HO.out ?_; rintro e w1 ⟨rfl, rfl⟩
    go_wp2_with fail
    refine Calls.mono HN.out ?_; rintro e w2 ⟨rfl, rfl⟩
    go_wp2_with fail
    go_ret2
    exact .inl ⟨by first | trivial | rfl, rfl, rfl⟩
  | true =>
    rw [hh] at HN
    have hb := hasU_range hh
    obtain ⟨m, hm⟩ : ∃ m : Nat, n = (m : Int) := ⟨n.toNat, by omega⟩
    subst hm
    have hm2 : m ≤ 504 := by omega
    have HPL := (show Hid _ from place_is m (by omega) w)
    have hi := hin hh
    rw [Int.toNat_natCast] at hi hR
    have HRD : Hid (Calls Tryz.prog 60 #[.pointer (some ⟨p, 0, none⟩), .int .i64 ((m + 2 : Nat) : Int)] w fun e w' => e = .returned (.tuple #[r0, r1]) ∧ Hid (Kept (fun _ => False) w w')) := by
      have := place_read x.fr (m + 2) h.c0 h.c1 hd hfr (by omega) hi
      rw [hR, hr] at this
      exact this
    rw [hr]
    clear h hd hin hi hR hr hb
    go_enter Tryz.func25, Tryz.ntmps25
    go_wp2_with fail
    refine Calls.mono HO.out ?_; rintro e w1 ⟨rfl, rfl⟩
    go_wp2_with fail
    refine Calls.mono HN.out ?_; rintro e w2 ⟨rfl, rfl⟩
    go_wp2_with fail
    refine Calls.mono HPL.out ?_; rintro e w3 ⟨rfl, rfl⟩
    go_wp2_with fail
    refine Calls.mono HRD.out ?_; rintro e w4 ⟨rfl, HK⟩
    go_wp2_with fail
    go_ret2
    exact .inr ⟨by first | trivial | rfl, rfl, HK.out⟩
set_option maxHeartbeats 1000000 in
theorem swrite_is {w : World} {F : Nat → Prop} {p : Nat} {x : Sp} {d : Dk} (h : SpAt w p x) (hd : Disk w F x.pd d) (np : ¬ F p) (hfr : x.fr ≤ 4096) (n : Int) (hin : hasU x.un n = true → (x.fr + (n.toNat + 2) * 8) + 8 ≤ d.n) (b : ByteArray) (hb : b.size = 256) (hq : d.Q.length + 8 ≤ 1048576) : Calls Tryz.prog 19 #[.pointer (some ⟨p, 0, none⟩), .int .i64 n, .string b] w fun e w' => ((hasU x.un n && !hasU x.ul n) = false ∧ e = .returned (.int .i64 130) ∧ w' = w) ∨ ((hasU x.un n && !hasU x.ul n) = true ∧ WrE F w x.pd d (x.fr + (n.toNat + 2) * 8) b.data.toList e w') := by
  have HO : Hid _ := open_yes h
  have HN := (show Hid _ from fresh_is h n)
  have hbi : (b.size : Int) = 256 := by omega
  cases hh : (hasU x.un n && !hasU x.ul n) with
  | false =>
    rw [hh] at HN
    clear h hd hin np hq
    go_enter Tryz.func19, Tryz.ntmps19
    go_wp2_with fail
    refine Calls.mono HO.out ?_; rintro e w1 ⟨rfl, rfl⟩
    go_wp2_with fail
    refine Calls.mono HN.out ?_; rintro e w2 ⟨rfl, rfl⟩
    go_wp2_with fail
    go_ret
    exact .inl ⟨by first | trivial | rfl, rfl, rfl⟩
  | true =>
    rw [hh] at HN
    have hu : hasU x.un n = true := by
      rw [Bool.and_eq_true] at hh
      exact hh.1
    have hbr := hasU_range hu
    obtain ⟨m, hm⟩ : ∃ m : Nat, n = (m : Int) := ⟨n.toNat, by omega⟩
    subst hm
    have hm2 : m ≤ 504 := by omega
    have HPL := (show Hid _ from place_is m (by omega) w)
    have hi := hin hu
    rw [Int.toNat_natCast] at hi ⊢
    have HWR : Hid (Calls Tryz.prog 49 #[.pointer (some ⟨p, 0, none⟩), .int .i64 ((m + 2 : Nat) : Int), .string b] w fun e w' => WrE F w x.pd d (x.fr + (m + 2) * 8) b.data.toList e w') := place_write x.fr (m + 2) h.c0 h.c1 hd np hfr (by omega) hi b hb hq
    clear h hd hin hi hbr hu hb np hq
    go_enter Tryz.func19, Tryz.ntmps19
    go_wp2_with fail
    refine Calls.mono HO.out ?_; rintro e w1 ⟨rfl, rfl⟩
    go_wp2_with fail
    refine Calls.mono HN.out ?_; rintro e w2 ⟨rfl, rfl⟩
    go_wp2_with fail
    refine Calls.mono HPL.out ?_; rintro e w3 ⟨rfl, rfl⟩
    go_wp2_with fail
    refine Calls.mono HWR.out ?_; rintro e w4 hor
    rcases hor with ⟨rfl, q⟩ | ⟨rfl, q⟩
    · have HQ : Hid _ := q
      clear q
      go_wp2_with fail
      go_ret
      exact .inr ⟨by first | trivial | rfl, .inl ⟨rfl, HQ.out⟩⟩
    · have HQ : Hid _ := q
      clear q
      go_wp2_with fail
      go_ret
      exact .inr ⟨by first | trivial | rfl, .inr ⟨rfl, HQ.out⟩⟩
/-- The least page that may be taken. -/
def LeastU (ul un : List UInt8) (k : Nat) : Prop := k ≤ 504 ∧ (∀ j, j < k → (bitU un j || bitU ul j) = true) ∧ (k < 504 → (bitU un k || bitU ul k) = false)
theorem hasU_nat (u : List UInt8) (k : Nat) (hk : k < 504) : hasU u ((k : Int) + 1) = bitU u k := by
  unfold hasU
  rw [decide_eq_true (by omega), Int.add_sub_cancel, Int.toNat_natCast]
  rfl
theorem hasU_top (u : List UInt8) : hasU u (((504 : Nat) : Int) + 1) = false := by
  unfold hasU
  rw [decide_eq_false (by show ¬ (1 ≤ (504 : Int) + 1 ∧ (504 : Int) + 1 ≤ 504); omega)]
  rfl
set_option maxHeartbeats 1000000 in
theorem least_is {w : World} {p : Nat} {x : Sp} (h : SpAt w p x) : Calls Tryz.prog 48 #[.pointer (some ⟨p, 0, none⟩)] w fun e w' => ∃ k : Nat, LeastU x.ul x.un k ∧ e = .returned (.int .i64 ((k : Int) + 1)) ∧ w' = w := by
  have HN : Hid (∀ n : Int, Calls Tryz.prog 54 #[.pointer (some ⟨p, 68, none⟩), .int .i64 n] w fun e w' => e = .returned (.bool (hasU x.un n)) ∧ w' = w) := hasU_is h.now
  have HL : Hid (∀ n : Int, Calls Tryz.prog 54 #[.pointer (some ⟨p, 4, none⟩), .int .i64 n] w fun e w' => e = .returned (.bool (hasU x.ul n)) ∧ w' = w) := hasU_is h.last
  clear h
  go_enter Tryz.func48, Tryz.ntmps48
  go_wp2_with fail
  go_loopw [3] (fun v3 wr => ∃ k : Nat, k ≤ 504 ∧ v3 = .int .i64 ((k : Int) + 1) ∧ wr = w ∧ Hid (∀ j, j < k → (bitU x.un j || bitU x.ul j) = true)) (fun v3 _ => 505 - (intOf v3).toNat)
  case atStart => exact ⟨0, Nat.zero_le _, rfl, rfl, fun j hj => absurd hj (Nat.not_lt_zero _)⟩
  case round =>
    obtain ⟨k, hk, rfl, rfl, HJ⟩ := hrel
    have HN1 := HN.out ((k : Int) + 1)
    have HL1 := HL.out ((k : Int) + 1)
    by_cases hlt : k < 504
    · rw [hasU_nat _ _ hlt] at HN1 HL1
      cases h1 : bitU x.un k with
      | true =>
        rw [h1] at HN1
        have HN2 : Hid _ := HN1
        have HJ2 : Hid (∀ j, j < k + 1 → (bitU x.un j || bitU x.ul j) = true) := fun j hj => by
          rcases Nat.lt_or_eq_of_le (Nat.lt_succ_iff.1 hj) with z | z
          · exact HJ.out j z
          · rw [z, h1]; rfl
        clear HN1 HL1 h1 HJ HN HL
        go_wp2_with fail
        refine Calls.mono HN2.out ?_; rintro e w5 ⟨rfl, rfl⟩
        go_wp2_with fail
        go_roundw
        case rel => exact ⟨k + 1, hlt, by rw [Int.natCast_add]; rfl, by trivial, HJ2.out⟩
        case measure => simp only [intOf]; omega
      | false =>
        rw [h1] at HN1
        have HN2 : Hid _ := HN1
        cases h2 : bitU x.ul k with
        | true =>
          rw [h2] at HL1
          have HL2 : Hid _ := HL1
          have HJ2 : Hid (∀ j, j < k + 1 → (bitU x.un j || bitU x.ul j) = true) := fun j hj => by
            rcases Nat.lt_or_eq_of_le (Nat.lt_succ_iff.1 hj) with z | z
            · exact HJ.out j z
            · rw [z, h1, h2]; rfl
          clear HN1 HL1 h1 h2 HJ HN HL
          go_wp2_with fail
          refine Calls.mono HN2.out ?_; rintro e w5 ⟨rfl, rfl⟩
          go_wp2_with fail
          refine Calls.mono HL2.out ?_; rintro e w6 ⟨rfl, rfl⟩
          go_wp2_with fail
          go_roundw
          case rel => exact ⟨k + 1, hlt, by rw [Int.natCast_add]; rfl, by trivial, HJ2.out⟩
          case measure => simp only [intOf]; omega
        | false =>
          rw [h2] at HL1
          have HL2 : Hid _ := HL1
          have HE : Hid (LeastU x.ul x.un k) := ⟨hk, HJ.out, fun _ => by rw [h1, h2]; rfl⟩
          clear HN1 HL1 h1 h2 HJ HN HL
          go_wp2_with fail
          refine Calls.mono HN2.out ?_; rintro e w5 ⟨rfl, rfl⟩
          go_wp2_with fail
          refine Calls.mono HL2.out ?_; rintro e w6 ⟨rfl, rfl⟩
          go_wp2_with fail
          go_ret
          exact ⟨k, HE.out, rfl, rfl⟩
    · obtain rfl : k = 504 := by omega
      have t1 : hasU x.un (((504 : Nat) : Int) + 1) = false := hasU_top x.un
      have t2 : hasU x.ul (((504 : Nat) : Int) + 1) = false := hasU_top x.ul
      rw [t1] at HN1
      rw [t2] at HL1
      have HN2 : Hid _ := HN1
      have HL2 : Hid _ := HL1
      have HE : Hid (LeastU x.ul x.un 504) := ⟨hk, HJ.out, fun z => absurd z (Nat.lt_irrefl _)⟩
      clear HN1 HL1 t1 t2 HJ HN HL
      go_wp2_with fail
      refine Calls.mono HN2.out ?_; rintro e w5 ⟨rfl, rfl⟩
      go_wp2_with fail
      refine Calls.mono HL2.out ?_; rintro e w6 ⟨rfl, rfl⟩
      go_wp2_with fail
      go_ret
      exact ⟨504, HE.out, rfl, rfl⟩
end Go.Proofs.YtkhpmmmildcceaaGreat

namespace Go.Proofs.YtkhpmmmildcceaaGreat
open Go.ChangeShapes Go.WideShapes Go.ChangeAt Go.RowKit
set_option linter.unusedVariables false
set_option maxRecDepth 100000

@[irreducible] def z256 : List UInt8 := List.replicate 256 0
theorem z256_is : z256 = List.replicate 256 0 := by unfold z256; rfl
theorem z256_len : z256.length = 256 := by rw [z256_is]; exact List.length_replicate
/-- What a call on a space leaves: the disk, and its own block. -/
def Ou (F : Nat → Prop) (p : Nat) (w w' : World) (pd : Nat) (dd : Dk) : Prop := ∃ F', Disk w' F' pd dd ∧ Kept (fun i => F i ∨ i = p) w w' ∧ Grew F F' w
theorem Out.ou {F : Nat → Prop} {p : Nat} {w w' : World} {pd : Nat} {dd : Dk} (h : Out F w w' pd dd) : Ou F p w w' pd dd := by
  obtain ⟨F', h1, h2, h3⟩ := h
  exact ⟨F', h1, h2.mono (fun _ z => .inl z), h3⟩
theorem Out.put {F : Nat → Prop} {p : Nat} {w V w' : World} {pd : Nat} {dd : Dk} (h : Out F w V pd dd) (hp : p < w.heap.size) (np : ¬ F p) (k : Kept (fun i => i = p) V w') : Ou F p w w' pd dd := by
  obtain ⟨F', h1, h2, h3⟩ := h
  refine ⟨F', h1.kept k (fun i hi e => ?_), (h2.mono (fun _ z => .inl z)).trans k (fun i e => .inl (.inr e)), h3⟩
  subst e
  rcases h3 _ hi with q | q
  · exact np q
  · omega
def AllocE (F : Nat → Prop) (w : World) (p : Nat) (x : Sp) (d : Dk) (e : Ending) (w' : World) : Prop := ∃ k : Nat, LeastU x.ul x.un k ∧ ((x.pg ≤ k ∧ e = .returned (.tuple #[.int .i64 0, .int .i64 2]) ∧ w' = w) ∨ (k < x.pg ∧ e = .returned (.tuple #[.int .i64 0, .int .i64 30]) ∧ ∃ j, j < 8 ∧ onP d (x.fr + (k + 3) * 8) z256 j ∧ (wrP d (x.fr + (k + 3) * 8) z256 j).on = false ∧ Out F w w' x.pd (wrP d (x.fr + (k + 3) * 8) z256 (j + 1))) ∨ (k < x.pg ∧ e = .returned (.tuple #[.int .i64 ((k : Int) + 1), .int .i64 0]) ∧ onP d (x.fr + (k + 3) * 8) z256 8 ∧ SpAt w' p { x with un := flipU x.un k } ∧ Ou F p w w' x.pd (wrP d (x.fr + (k + 3) * 8) z256 8)))
set_option maxHeartbeats 1000000 in
theorem alloc_is {w : World} {F : Nat → Prop} {p : Nat} {x : Sp} {d : Dk} (h : SpAt w p x) (hd : Disk w F x.pd d) (np : ¬ F p) (hfr : x.fr ≤ 4096) (hpg : x.pg ≤ 500) (hin : ∀ k, k < x.pg → (x.fr + (k + 3) * 8) + 8 ≤ d.n) (hq : d.Q.length + 8 ≤ 1048576) : Calls Tryz.prog 18 #[.pointer (some ⟨p, 0, none⟩)] w fun e w' => AllocE F w p x d e w' := by
  have HO : Hid _ := open_yes h
  have HL : Hid _ := least_is h
  have c2 := h.c2
  have hpw : p < w.heap.size := cell_lt h.c0
  have HX : Hid (SpAt w p x) := h
  obtain ⟨zz, hzz⟩ : ∃ z : ByteArray, (⟨z256.toArray⟩ : ByteArray) = z := ⟨_, rfl⟩
  have hzs : zz.size = 256 := by rw [← hzz]; show z256.toArray.size = 256; rw [List.size_toArray]; exact z256_len
  have hzl : zz.data.toList = z256 := by rw [← hzz]
  have HZ : Hid (Calls Tryz.prog 51 #[.int .i64 256] w fun e w' => e = .returned (.string zz) ∧ Hid (Kept (fun _ => False) w w')) := by
    have := noughts_is 256 (by decide) w
    rw [← z256_is, hzz] at this
    exact this
  have HWP : Hid (∀ k, k < x.pg → ∀ V, Kept (fun _ => False) w V → Calls Tryz.prog 49 #[.pointer (some ⟨p, 0, none⟩), .int .i64 ((k + 1 + 2 : Nat) : Int), .string zz] V fun e w' => (e = .returned (.int .i64 0) ∧ Hid (onP d (x.fr + (k + 3) * 8) z256 8 ∧ Out F w w' x.pd (wrP d (x.fr + (k + 3) * 8) z256 8))) ∨ (e = .returned (.int .i64 30) ∧ Hid (∃ j, j < 8 ∧ onP d (x.fr + (k + 3) * 8) z256 j ∧ (wrP d (x.fr + (k + 3) * 8) z256 j).on = false ∧ Out F w w' x.pd (wrP d (x.fr + (k + 3) * 8) z256 (j + 1))))) := fun k hk V kV => by
    have o0 : Out F w V x.pd d := Out.keep ⟨F, hd, Kept.refl _ _, fun i hi => .inl hi⟩ kV
    obtain ⟨F', h1, h2, h3, h4⟩ := o0.next hpw np
    have := place_write x.fr (k + 1 + 2) (h4 0 _ h.c0) (h4 1 _ h.c1) h1 h2 hfr (by omega) (hin k hk) zz hzs hq
    rw [hzl] at this
    refine this.mono fun e w' hx => ?_
    rcases hx with ⟨q1, q2, q3⟩ | ⟨q1, j, q2, q3, q4, q5⟩
    · exact .inl ⟨q1, q2, h3 _ _ q3⟩
    · exact .inr ⟨q1, j, q2, q3, q4, h3 _ _ q5⟩
  have HFL : Hid (∀ k : Nat, k < 504 → ∀ V, SpAt V p x → Calls Tryz.prog 52 #[.pointer (some ⟨p, 68, none⟩), .int .i64 ((k : Int) + 1)] V fun e w' => e = .returned (.tuple #[]) ∧ Hid (SpAt w' p { x with un := flipU x.un k } ∧ Kept (fun i => i = p) V w')) := fun k hk V hV => flipNow hV k hk
  have HNP : Hid (¬ F p ∧ p < w.heap.size) := ⟨np, hpw⟩
  obtain ⟨pg, hpp⟩ : ∃ pg, x.pg = pg := ⟨_, rfl⟩
  have HPP : Hid (x.pg = pg) := hpp
  rw [hpp] at c2 HWP hpg
  clear h hd np hfr hin hq hpw hzz hzs hzl hpp
  go_enter Tryz.func18, Tryz.ntmps18
  go_wp2_with fail
  refine Calls.mono HO.out ?_; rintro e w1 ⟨rfl, rfl⟩
  go_wp2_with fail
  refine Calls.mono HL.out ?_; rintro e w2 ⟨k, hk, rfl, rfl⟩
  have HK : Hid _ := hk
  have hk504 := hk.1
  clear hk HO HL
  by_cases hlt : k < pg
  · have q1 : ¬ (pg : Int) < (k : Int) + 1 := by omega
    have HPL := (show Hid _ from place_is (k + 1) (by omega) w2)
    rw [Int.natCast_add] at HPL
    go_wp2_with fail
    refine Calls.mono HPL.out ?_; rintro e w3 ⟨rfl, rfl⟩
    go_wp2_with fail
    refine Calls.mono HZ.out ?_; rintro e w4 ⟨rfl, HK4⟩
    go_wp2_with fail
    refine Calls.mono (HWP.out k hlt _ HK4.out) ?_; rintro e w5 hor
    clear HWP HZ HPL HK4
    rcases hor with ⟨rfl, HQ⟩ | ⟨rfl, HQ⟩
    · have HX5 : Hid (SpAt w5 p x) := by
        obtain ⟨F', g1, g2, g3⟩ := HQ.out.2
        exact HX.out.kept g2 HNP.out.1
      go_wp2_with fail
      refine Calls.mono (HFL.out k (by omega) _ HX5.out) ?_; rintro e w6 ⟨rfl, HR⟩
      go_wp2_with fail
      go_ret2
      exact ⟨k, HK.out, .inr (.inr ⟨by rw [HPP.out]; exact hlt, rfl, HQ.out.1, HR.out.1, HQ.out.2.put HNP.out.2 HNP.out.1 HR.out.2⟩)⟩
    · go_wp2_with fail
      go_ret2
      exact ⟨k, HK.out, .inr (.inl ⟨by rw [HPP.out]; exact hlt, rfl, HQ.out⟩)⟩
  · have q1 : (pg : Int) < (k : Int) + 1 := by omega
    clear HWP HFL HZ
    go_wp2_with fail
    go_ret2
    exact ⟨k, HK.out, .inl ⟨by rw [HPP.out]; omega, rfl, rfl⟩⟩
end Go.Proofs.YtkhpmmmildcceaaGreat

namespace Go.Proofs.YtkhpmmmildcceaaGreat
open Go.ChangeShapes Go.WideShapes Go.ChangeAt Go.RowKit
set_option linter.unusedVariables false
set_option maxRecDepth 100000

structure Row (w : World) (B : Nat) (L : List UInt8) : Prop where
  cells : ∀ k (hk : k < L.length), w.cell? ⟨B, k, none⟩ = some (.int .u8 (L[k].toNat : Int))
  free : ∀ k, k < L.length → w.frozen? ⟨B, k, none⟩ = false

theorem Row.put {w : World} {B : Nat} {L : List UInt8} (h : Row w B L) (k : Nat) (hk : k < L.length) (v : UInt8) :
    Row (w.setCell ⟨B, k, none⟩ (.int .u8 (v.toNat : Int))) B (L.set k v) := by
  have hv := h.cells k hk
  refine ⟨fun j hj => ?_, fun j hj => ?_⟩
  · rw [List.length_set] at hj
    by_cases e : j = k
    · subst e
      simp [go_sem, hv]
    · have := h.cells j hj
      have e' : ¬ k = j := fun h => e h.symm
      simp [go_sem, this, e']
  · rw [List.length_set] at hj
    have := h.free j hj
    simp [go_sem, this]

theorem row_text {W : World} {B : Nat} {L : List UInt8} (h : Row W B L) (n C : Nat) (hn : n = L.length) :
    (convert 98 9 (.slice (some ⟨B, 0, none⟩) n C)).run Tryz.prog W = .ok (.string ⟨L.toArray⟩) W := by
  subst hn
  exact run_convert_bytes_back (P := Tryz.prog) W 98 9 5 ⟨B, 0, none⟩ C L Tryz.underlying98 Tryz.underlying5 Tryz.underlying9 (fun j hj => by rw [Go.WideShapes.add_plain, Nat.zero_add]; exact h.cells j hj)

theorem info5f : (Tryz.prog.info? 5).map (fun i => (i.zero, i.size, i.bytes)) = some (some (.int .u8 0), 1, 1) := by kernel_rfl

theorem make_row (n : Nat) (hn : n ≤ 256) (w : World) : ∃ W : World, (Instr.makeSlice 98 (.int .i64 n) (.int .i64 n)).run Tryz.prog w = .ok (.slice (some ⟨w.heap.size, 0, none⟩) n n) W ∧ Row W w.heap.size (List.replicate n 0) ∧ Kept (fun _ => False) w W ∧ W.heap.size = w.heap.size + 1 := by
  obtain ⟨i, hi, hz, h1, h2⟩ := info_of info5f
  have hr := run_make (P := Tryz.prog) w 98 5 i (.int .u8 0) Tryz.underlying98 hi hz .i64 .i64 n n (by omega) (Int.le_refl _) (by rw [h2]; omega) (by omega)
  rw [Int.toNat_natCast, h1] at hr
  refine ⟨_, hr, ⟨fun k hk => ?_, fun k hk => ?_⟩, (Kept.refl _ _).alloc _, by simp⟩
  · have hk' : k < n := by simpa using hk
    simp [go_sem, madeCells, Value.cells, hk']
    rw [Nat.mod_one]
    rfl
  · simp [go_sem]

/-- A page of one byte. -/
def fill (c : UInt8) : ByteArray := ⟨(List.replicate 256 c).toArray⟩
theorem fill_size (c : UInt8) : (fill c).size = 256 := by simp [fill, ByteArray.size]
theorem fill_list (c : UInt8) : (fill c).data.toList = List.replicate 256 c := rfl
/-- The first i bytes are there. -/
def part (c : UInt8) (i : Nat) : List UInt8 := List.replicate i c ++ List.replicate (256 - i) 0
theorem part_len (c : UInt8) (i : Nat) (h : i ≤ 256) : (part c i).length = 256 := by unfold part; simp; omega
theorem part_step (c : UInt8) (i : Nat) (h : i < 256) : (part c i).set i c = part c (i + 1) := by
  unfold part
  rw [List.set_append_right _ _ (by simp), List.length_replicate, Nat.sub_self, show 256 - i = (256 - (i + 1)) + 1 by omega, List.replicate_succ, List.set_cons_zero, List.replicate_succ', List.append_assoc]
  rfl

theorem filled_is (c : UInt8) (w : World) : Calls Tryz.prog 20 #[.int .u8 (c.toNat : Int)] w fun e w' => e = .returned (.string (fill c)) ∧ Kept (fun _ => False) w w' := by
  obtain ⟨W, hmk, hrow, hk, hsz⟩ := make_row 256 (by omega) w
  replace hmk : (Instr.makeSlice 98 (.int .i64 256) (.int .i64 256)).run Tryz.prog w = .ok (.slice (some ⟨w.heap.size, 0, none⟩) 256 256) W := hmk
  have HR := (show Hid _ from hrow)
  have HK := (show Hid _ from hk)
  obtain ⟨B, hB⟩ : ∃ B, w.heap.size = B := ⟨_, rfl⟩
  have HB := (show Hid _ from hB)
  rw [hB] at hmk HR
  clear hrow hk hsz hB
  obtain ⟨fc, hfc⟩ : ∃ fc, fc = fill c := ⟨_, rfl⟩
  have HFC := (show Hid _ from hfc)
  rw [← hfc]
  clear hfc
  obtain ⟨x, hx⟩ : ∃ x, x = c.toNat := ⟨_, rfl⟩
  have HX := (show Hid _ from hx)
  rw [← hx]
  clear hx
  go_enter Tryz.func20, Tryz.ntmps20
  go_wp2_with fail
  go_loopw [4] (fun i wr => ∃ j : Nat, j ≤ 256 ∧ i = .int .i64 j ∧ Hid (Row wr B (part c j)) ∧ Kept (fun _ => False) w wr)
    (fun i _ => 256 - (intOf i).toNat)
  case atStart => exact ⟨0, Nat.zero_le _, rfl, HR.out, HK.out⟩
  case round =>
    obtain ⟨j, hj, rfl, HW, KB⟩ := hrel
    have HKB := (show Hid _ from KB)
    clear KB
    by_cases d : j < 256
    · have hlt : j < (part c j).length := by rw [part_len c j hj]; omega
      have HP := (show Hid _ from HW.out.put j hlt c)
      rw [part_step c j d, ← HX.out] at HP
      have hcell := HW.out.cells j hlt
      have hf := HW.out.free j hlt
      generalize ((part c j)[j]'hlt).toNat = v at *
      have HKP := (show Hid (Kept (fun _ => False) w (wr.setCell ⟨B, j, none⟩ (.int .u8 (x : Int)))) from HKB.out.setCell (p := ⟨B, j, none⟩) (.inr (by have := HB.out; simp; omega)) _)
      clear hlt
      go_wp2_with fail
      go_roundw
      case rel => exact ⟨j + 1, by omega, by go_num, HP.out, HKP.out⟩
      case measure => simp [intOf]; omega
    · have ej : j = 256 := by omega
      subst ej
      have ht := row_text HW.out 256 256 (by rw [part_len c 256 hj])
      have e1 : (⟨(part c 256).toArray⟩ : ByteArray) = fc := by rw [HFC.out]; unfold part fill; simp
      rw [e1] at ht
      clear e1
      go_wp2_with fail
      go_ret
      exact ⟨rfl, HKB.out⟩
end Go.Proofs.YtkhpmmmildcceaaGreat

namespace Go.Proofs.YtkhpmmmildcceaaGreat
open Go.ChangeShapes Go.WideShapes Go.ChangeAt Go.RowKit
set_option linter.unusedVariables false
set_option maxRecDepth 100000

def MostU (u : List UInt8) (m : Nat) : Prop := m ≤ 504 ∧ (∀ k, m ≤ k → k < 504 → bitU u k = false) ∧ (0 < m → bitU u (m - 1) = true)
set_option maxHeartbeats 1000000 in
theorem most_is {w : World} {b o : Nat} {u : List UInt8} (h : Us w b o u) : Calls Tryz.prog 125 #[.pointer (some ⟨b, o, none⟩)] w fun e w' => ∃ m : Nat, MostU u m ∧ e = .returned (.int .i64 (m : Int)) ∧ w' = w := by
  have HN : Hid (∀ n : Int, Calls Tryz.prog 54 #[.pointer (some ⟨b, o, none⟩), .int .i64 n] w fun e w' => e = .returned (.bool (hasU u n)) ∧ w' = w) := hasU_is h
  clear h
  go_enter Tryz.func125, Tryz.ntmps125
  go_wp2_with fail
  go_loopw [3] (fun v3 wr => ∃ m : Nat, m ≤ 504 ∧ v3 = .int .i64 (m : Int) ∧ wr = w ∧ Hid (∀ k, m ≤ k → k < 504 → bitU u k = false)) (fun v3 _ => (intOf v3).toNat)
  case atStart => exact ⟨504, Nat.le_refl _, rfl, rfl, fun k h1 h2 => absurd h2 (Nat.not_lt_of_le h1)⟩
  case round =>
    obtain ⟨m, hm, rfl, rfl, HJ⟩ := hrel
    by_cases h0 : 0 < m
    · have c0 : (0 : Int) < (m : Int) := by omega
      have HN1 := HN.out (m : Int)
      have e : hasU u (m : Int) = bitU u (m - 1) := by
        have := hasU_nat u (m - 1) (by omega)
        rw [show (((m - 1 : Nat) : Int) + 1) = (m : Int) by omega] at this
        exact this
      rw [e] at HN1
      cases h1 : bitU u (m - 1) with
      | true =>
        rw [h1] at HN1
        have HN2 : Hid _ := HN1
        have HE : Hid (MostU u m) := ⟨hm, HJ.out, fun _ => h1⟩
        clear HN1 e h1 HN HJ
        go_wp2_with fail
        refine Calls.mono HN2.out ?_; rintro e w5 ⟨rfl, rfl⟩
        go_wp2_with fail
        go_ret
        exact ⟨m, HE.out, rfl, rfl⟩
      | false =>
        rw [h1] at HN1
        have HN2 : Hid _ := HN1
        have HJ2 : Hid (∀ k, m - 1 ≤ k → k < 504 → bitU u k = false) := fun k q1 q2 => by
          rcases Nat.lt_or_ge k m with z | z
          · obtain rfl : k = m - 1 := by omega
            exact h1
          · exact HJ.out k z q2
        have HM : Hid (((m - 1 : Nat) : Int) = (m : Int) - 1) := by show _ = _; omega
        clear HN1 e h1 HN HJ
        go_wp2_with fail
        refine Calls.mono HN2.out ?_; rintro e w5 ⟨rfl, rfl⟩
        go_wp2_with fail
        go_roundw
        case rel => exact ⟨m - 1, by omega, by rw [HM.out], by trivial, HJ2.out⟩
        case measure => simp only [intOf]; omega
    · obtain rfl : m = 0 := by omega
      have HE : Hid (MostU u 0) := ⟨hm, HJ.out, fun z => absurd z (Nat.lt_irrefl _)⟩
      clear HN HJ
      go_wp2_with fail
      go_ret
      exact ⟨0, HE.out, rfl, rfl⟩
end Go.Proofs.YtkhpmmmildcceaaGreat

namespace Go.Proofs.YtkhpmmmildcceaaGreat
open Go.ChangeShapes Go.WideShapes Go.ChangeAt Go.RowKit
set_option linter.unusedVariables false
set_option maxRecDepth 100000

theorem load68 {w : World} {b o : Nat} (cs : List Value) (hn : cs.length = 64) (h : ∀ j x, cs[j]? = some x → w.cell? ⟨b, o + j, none⟩ = some x) : (Instr.loadAt 68 (.pointer (some ⟨b, o, none⟩))).run Tryz.prog w = .ok (.agg cs.toArray) w := by
  have hl := loads cs hn h
  simp [Instr.loadAt, Instr.sureAddr, loadVar, Sem.run_bind, loadCells, hl]
theorem loadV68 {w : World} {b o : Nat} (cs : List Value) (hn : cs.length = 64) (h : ∀ j x, cs[j]? = some x → w.cell? ⟨b, o + j, none⟩ = some x) : (loadVar 68 ⟨b, o, none⟩).run Tryz.prog w = .ok (.agg cs.toArray) w := by
  have hl := loads cs hn h
  simp [loadVar, Sem.run_bind, loadCells, hl]
theorem load65 {w : World} {b o : Nat} (cs : List Value) (hn : cs.length = 63) (h : ∀ j x, cs[j]? = some x → w.cell? ⟨b, o + j, none⟩ = some x) : (Instr.loadAt 65 (.pointer (some ⟨b, o, none⟩))).run Tryz.prog w = .ok (.agg cs.toArray) w := by
  have hl := loads cs hn h
  simp [Instr.loadAt, Instr.sureAddr, loadVar, Sem.run_bind, loadCells, hl]
theorem store68 {w : World} {b o : Nat} (cs : List Value) (hl : cs.length = 64) (hc : ∀ j, j < 64 → (w.cell? ⟨b, o + j, none⟩).isSome = true) (hf : ∀ j, j < 64 → w.frozen? ⟨b, o + j, none⟩ = false) (h1 : ∀ v ∈ cs, v.oneCell' = true) :
    (Instr.storeAt 68 (.pointer (some ⟨b, o, none⟩)) (.agg cs.toArray)).run Tryz.prog w = .ok () (w.setCells b o cs) := by
  have hs := stores (w := w) (b := b) (o := o) cs (by rw [hl]; exact hc) (by rw [hl]; exact hf) h1
  simp [Instr.storeAt, Instr.sureAddr, storeVar, Sem.run_bind, Value.cells, hl, hs]
/-- The cells of a state. -/
def stC (u : List UInt8) (m : Option Nat) : List Value := bv u ++ [.map m]
def u0 : List UInt8 := List.replicate 63 0
theorem stC_len (u : List UInt8) (m : Option Nat) (hu : u.length = 63) : (stC u m).length = 64 := by unfold stC; rw [List.length_append, bv_length, hu]; rfl
theorem stC_one (u : List UInt8) (m : Option Nat) : ∀ v ∈ stC u m, v.oneCell' = true := by
  intro v hv
  unfold stC bv at hv
  rw [List.mem_append, List.mem_map] at hv
  rcases hv with ⟨x, _, rfl⟩ | hv
  · rfl
  · rw [List.mem_singleton] at hv; subst hv; rfl
theorem alloc68 (w : World) : (Instr.alloc 68 true (.tuple #[])).run Tryz.prog w = .ok (.pointer (some ⟨w.heap.size, 0, none⟩)) (w.alloc (.cells (stC u0 none).toArray 68)) := by
  simp [Instr.alloc, newVar, go_sem]
  rfl
theorem build68_0 (w : World) : (Instr.build 68 #[]).run Tryz.prog w = .ok (.agg (stC u0 none).toArray) w := by
  apply run_build
  kernel_rfl
theorem build68_m (w : World) (m : Option Nat) : (Instr.build 68 #[(1, .map m)]).run Tryz.prog w = .ok (.agg (stC u0 m).toArray) w := by
  apply run_build
  kernel_rfl
theorem Blk.cells {w : World} {b : Nat} {t : TypeId} {C : List Value} (h : Blk w b t C) (o : Nat) (cs : List Value) (hc : ∀ j, j < cs.length → C[o + j]? = cs[j]?) : ∀ j x, cs[j]? = some x → w.cell? ⟨b, o + j, none⟩ = some x := fun j x hx => h.cell (by
  rw [hc j (List.getElem?_eq_some_iff.1 hx).1]
  exact hx)
def setL (C : List Value) : Nat → List Value → List Value
  | _, [] => C
  | o, v :: r => setL (C.set o v) (o + 1) r
theorem Blk.setCells {b : Nat} {t : TypeId} : ∀ (cs : List Value) {w : World} {C : List Value} (h : Blk w b t C) (o : Nat), Blk (w.setCells b o cs) b t (setL C o cs)
  | [], w, C, h, o => h
  | v :: r, w, C, h, o => Blk.setCells r (h.set o v) (o + 1)
theorem setL_is : ∀ (cs C : List Value) (o : Nat), o + cs.length ≤ C.length → setL C o cs = C.take o ++ (cs ++ C.drop (o + cs.length))
  | [], C, o, h => by show C = _; simp
  | v :: r, C, o, h => by
    have h' : o + (r.length + 1) ≤ C.length := h
    show setL (C.set o v) (o + 1) r = _
    rw [setL_is r (C.set o v) (o + 1) (by rw [List.length_set]; omega)]
    have e1 : (C.set o v).take (o + 1) = C.take o ++ [v] := by
      rw [List.take_add_one, List.getElem?_set_self (by omega)]
      rw [List.take_set_of_le (Nat.le_refl _)]
      rfl
    have e2 : (C.set o v).drop (o + 1 + r.length) = C.drop (o + (v :: r).length) := by
      rw [List.drop_set_of_lt (by omega)]
      congr 1
      show o + 1 + r.length = o + (r.length + 1)
      omega
    rw [e1, e2]
    simp
/-- A state in a block of its own. -/
def StAt (w : World) (b : Nat) (u : List UInt8) (m : Option Nat) : Prop := Blk w b 68 (stC u m) ∧ u.length = 63
theorem StAt.new (w : World) (u : List UInt8) (m : Option Nat) (hu : u.length = 63) : StAt (w.alloc (.cells (stC u m).toArray 68)) w.heap.size u m := ⟨Blk.new w 68 (stC u m), hu⟩
theorem u0_len : u0.length = 63 := by unfold u0; exact List.length_replicate
theorem StAt.load {w : World} {b : Nat} {u : List UInt8} {m : Option Nat} (h : StAt w b u m) : (Instr.loadAt 68 (.pointer (some ⟨b, 0, none⟩))).run Tryz.prog w = .ok (.agg (stC u m).toArray) w :=
  load68 (stC u m) (stC_len u m h.2) (h.1.cells 0 _ (fun j _ => by rw [Nat.zero_add]))
theorem StAt.loadV {w : World} {b : Nat} {u : List UInt8} {m : Option Nat} (h : StAt w b u m) : (loadVar 68 ⟨b, 0, none⟩).run Tryz.prog w = .ok (.agg (stC u m).toArray) w :=
  loadV68 (stC u m) (stC_len u m h.2) (h.1.cells 0 _ (fun j _ => by rw [Nat.zero_add]))
theorem StAt.store {w : World} {b : Nat} {u : List UInt8} {m : Option Nat} (h : StAt w b u m) (u' : List UInt8) (m' : Option Nat) (hu : u'.length = 63) : (Instr.storeAt 68 (.pointer (some ⟨b, 0, none⟩)) (.agg (stC u' m').toArray)).run Tryz.prog w = .ok () (w.setCells b 0 (stC u' m')) ∧ StAt (w.setCells b 0 (stC u' m')) b u' m' := by
  have hl := stC_len u' m' hu
  have hl0 := stC_len u m h.2
  refine ⟨store68 _ hl (fun j hj => ?_) (fun j _ => h.1.fz _) (stC_one u' m'), ?_, hu⟩
  · have hj' : j < (stC u m).length := by rw [hl0]; exact hj
    rw [Nat.zero_add, h.1.cell (List.getElem?_eq_getElem hj')]
    rfl
  · have := h.1.setCells (stC u' m') 0
    rw [setL_is _ _ _ (by rw [hl, hl0]; omega)] at this
    have e : (stC u m).take 0 ++ (stC u' m' ++ (stC u m).drop (0 + (stC u' m').length)) = stC u' m' := by
      rw [Nat.zero_add, hl, List.drop_eq_nil_of_le (by rw [hl0]; exact Nat.le_refl _)]
      simp
    rw [e] at this
    exact this
theorem StAt.kept {F : Nat → Prop} {w w' : World} {b : Nat} {u : List UInt8} {m : Option Nat} (h : StAt w b u m) (k : Kept F w w') (hn : ¬ F b) : StAt w' b u m := ⟨h.1.kept k hn, h.2⟩
theorem StAt.us {w : World} {b : Nat} {u : List UInt8} {m : Option Nat} (h : StAt w b u m) : Us w b 0 u := us_of h.1 h.2 (fun i hi => by
  unfold stC
  rw [Nat.zero_add, List.getElem?_append_left (by rw [bv_length, h.2]; exact hi)])
theorem StAt.m {w : World} {b : Nat} {u : List UInt8} {m : Option Nat} (h : StAt w b u m) : w.cell? ⟨b, 63, none⟩ = some (.map m) := h.1.cell (by
  unfold stC
  rw [List.getElem?_append_right (by rw [bv_length, h.2]; exact Nat.le_refl _), bv_length, h.2]
  rfl)
end Go.Proofs.YtkhpmmmildcceaaGreat
