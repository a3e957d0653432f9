/- PagePlays: its walk. -/
import Derived.Test.YtncpohimjmakpaaDs
import Derived.Test.YtncpohimjmakpaaOa
namespace Go.Proofs.Ytncpohimjmakpaa
open Go.ChangeShapes Go.WideShapes Go.ChangeAt Go.RowKit
set_option linter.unusedVariables false
set_option maxRecDepth 100000

theorem does_is {w : World} {p : Nat} (kd : UInt8) (hkd : kd.toNat ≠ 0) (a : Option Addr) (N c : Nat) (cs : List Cel) (hN : cs.length = N) (g : Pg w p (lay kd cs)) (h : Sl cv 2 w (.slice a N c) cs) (hok : okC cs) (hr : ris cs) (k n : Int) (key val : ByteArray) (hks : key.size ≤ 1000) (hvs : val.size ≤ 1000) : Calls Try.prog 12 #[.pointer (some ⟨p, 0, none⟩), rpg (kd.toNat : Int) (.slice a N c), .agg #[.int .i64 k, .int .i64 n, .string key, .string val]] w fun e w' => DoesE kd p w e w' := by
  by_cases k1 : k = 1
  · subst k1; exact does_drop kd hkd a N c cs hN g h hok hr n key val hks hvs
  by_cases k2 : k = 2
  · subst k2
    by_cases hn : n < 0 ∨ (N : Int) < n
    · exact does_nosplit kd hkd a N c cs hN g h hok hr n hn key val
    · exact does_split kd hkd a N c cs hN g h hok hr n.toNat (by omega) n (by omega) key val
  by_cases k3 : k = 3
  · subst k3; exact does_find kd a N c cs hN g h hok hr n key val
  exact does_put kd hkd a N c cs hN g h hok hr k k1 k2 k3 n key val hks hvs
structure Pst (w : World) (p B7 : Nat) (kd : UInt8) (a2 : Option Addr) (N2 c2 : Nat) (cs : List Cel) (V : World) : Prop where
  pg : Pg V p (lay kd cs)
  ok : okC cs
  ri : ris cs
  b7 : Blk V B7 29 [.int .i64 (kd.toNat : Int), .slice a2 N2 c2]
  sl : Sl cv 2 V (.slice a2 N2 c2) cs
  ln : cs.length = N2
  kp : Kept (fun _ => False) w V
  hp : w.heap.size ≤ p
  h7 : w.heap.size ≤ B7
  n7 : p ≠ B7
def Put10 (p : Nat) (kd : UInt8) (wr wx : World) (B10 N3 : Nat) (a3 : Option Addr) (c3 : Nat) : Prop := ∃ cs3, Pg wx p (lay kd cs3) ∧ Blk wx B10 29 [.int .i64 (kd.toNat : Int), .slice a3 N3 c3] ∧ Sl cv 2 wx (.slice a3 N3 c3) cs3 ∧ cs3.length = N3 ∧ okC cs3 ∧ ris cs3 ∧ Kept (fun i => i = p) wr wx ∧ wr.heap.size ≤ B10
def Got (p : Nat) (kd : UInt8) (w' : World) (N3 : Nat) (a3 : Option Addr) (c3 : Nat) : Prop := ∃ cs3, Pg w' p (lay kd cs3) ∧ Sl cv 2 w' (.slice a3 N3 c3) cs3 ∧ cs3.length = N3 ∧ okC cs3 ∧ ris cs3
theorem fin10a {wr w3 : World} {p : Nat} {kd : UInt8} {kn : Int} (hkn : (kd.toNat : Int) = kn) {N3 : Nat} {a3 : Option Addr} {c3 : Nat} (k : Kept (fun i => i = p) wr w3) (h : Got p kd w3 N3 a3 c3) : Put10 p kd wr (w3.alloc (.cells #[.int .i64 kn, .slice a3 N3 c3] 29)) w3.heap.size N3 a3 c3 := by
  obtain ⟨cs3, h1, h2, h3, h4, h5⟩ := h
  have ka : Kept (fun _ => False) w3 (w3.alloc (.cells #[.int .i64 kn, .slice a3 N3 c3] 29)) := (Kept.refl _ _).alloc _
  exact ⟨cs3, h1.step ka, by rw [hkn]; exact Blk.new w3 29 [.int .i64 kn, .slice a3 N3 c3], h2.step cv_ne ka, h3, h4, h5, k.alloc _, k.size⟩
theorem fin10b {wr w3 : World} {p : Nat} {kd : UInt8} {kn : Int} (hkn : (kd.toNat : Int) = kn) {N3 : Nat} {a3 : Option Addr} {c3 : Nat} (hp : p < wr.heap.size) (k : Kept (fun i => i = p) wr w3) (hz : Blk w3 wr.heap.size 29 [.int .i64 0, .slice none 0 0]) (h : Got p kd w3 N3 a3 c3) : Put10 p kd wr ((w3.setCell ⟨wr.heap.size, 0, none⟩ (.int .i64 kn)).setCell ⟨wr.heap.size, 1, none⟩ (.slice a3 N3 c3)) wr.heap.size N3 a3 c3 := by
  obtain ⟨cs3, h1, h2, h3, h4, h5⟩ := h
  have kk := Kept.two w3 wr.heap.size (.int .i64 kn) (.slice a3 N3 c3)
  exact ⟨cs3, h1.kept kk (by omega), by rw [hkn]; exact hz.two _ _, h2.box hz kk, h3, h4, h5, k.trans kk (fun i e => .inr (by rw [e]; exact Nat.le_refl _)), Nat.le_refl _⟩
theorem Pst.next {w : World} {p B7 : Nat} {kd : UInt8} {a2 a3 : Option Addr} {N2 c2 N3 c3 : Nat} {cs cs3 : List Cel} {V V' : World} {kn : Int} (hkn : (kd.toNat : Int) = kn) (h : Pst w p B7 kd a2 N2 c2 cs V) (k : Kept (fun i => i = p) V V') (g : Pg V' p (lay kd cs3)) (hs : Sl cv 2 V' (.slice a3 N3 c3) cs3) (hl : cs3.length = N3) (hok : okC cs3) (hr : ris cs3) : Pst w p B7 kd a3 N3 c3 cs3 ((V'.setCell ⟨B7, 0, none⟩ (.int .i64 kn)).setCell ⟨B7, 1, none⟩ (.slice a3 N3 c3)) := by
  subst hkn
  have g2 := h.b7.kept k (fun e => h.n7 e.symm)
  have kk := Kept.two V' B7 (.int .i64 (kd.toNat : Int)) (.slice a3 N3 c3)
  exact ⟨g.kept kk h.n7, hok, hr, g2.two _ _, hs.box g2 kk, hl, (h.kp.trans k (fun i e => .inr (by rw [e]; exact h.hp))).put2 h.h7 _ _, h.hp, h.h7, h.n7⟩
set_option maxHeartbeats 4000000 in
theorem plays_no {w : World} (a : Option Addr) (N c : Nat) (k : Int) (hk : k < 1 ∨ 255 < k) : Calls Try.prog 3 #[.int .i64 k, .slice a N c] w fun e w' => e = .returned (.bool true) ∧ Kept (fun _ => False) w w' := by
  have HAW : Hid (∀ V, Calls Try.prog 11 #[] V fun e w' => e = .returned (.bool true) ∧ Hid (Kept (fun _ => False) V w')) := fun V => awake_is V
  have HNW : Hid (∀ V, Calls Try.prog 9 #[.int .i64 k] V fun e w' => e = .returned (.tuple #[.pointer none, .int .i64 1]) ∧ w' = V) := fun V => new_no k hk V
  have HRN : Hid (∀ V, Calls Try.prog 10 #[.int .i64 k] V fun e w' => e = .returned (.tuple #[rpg 0 (.slice none 0 0), .int .i64 1]) ∧ Hid (Kept (fun _ => False) V w')) := fun V => rnew_no k hk V
  clear hk
  go_enter Try.func3, Try.ntmps3
  go_wp2_with fail
  refine Calls.mono (HNW.out _) ?_; rintro e x1 ⟨rfl, rfl⟩
  go_wp2_with fail
  refine Calls.mono (HRN.out _) ?_; rintro e x2 ⟨rfl, K2⟩
  have K3 : Hid (Kept (fun _ => False) x1 (x2.alloc (.cells #[.int .i64 0, .slice none 0 0] 29))) := K2.out.alloc _
  clear K2 HNW HRN
  obtain ⟨X, hX⟩ : ∃ X, x2.alloc (.cells #[.int .i64 0, .slice none 0 0] 29) = X := ⟨_, rfl⟩
  have HX : Hid (x2.alloc (.cells #[.int .i64 0, .slice none 0 0] 29) = X) := hX
  rw [hX] at K3
  clear hX
  go_upto_region 3 with fail
  rw [HX.out]
  clear HX
  go_wp2_with fail
  go_loopw [9] (fun v9 wr => v9 = .int .i64 0 ∧ wr = X) (fun v9 _ => 1)
  case atStart => exact ⟨rfl, rfl⟩
  case round =>
    obtain ⟨rfl, rfl⟩ := hrel
    by_cases c1 : (0 : Int) < (N : Int)
    · go_wp2_with fail
      refine Calls.mono (HAW.out _) ?_; rintro e x3 ⟨rfl, K4⟩
      have K5 : Hid (Kept (fun _ => False) x1 x3) := K3.out.trans K4.out (fun _ z => z.elim)
      clear K3 K4
      go_wp2_with fail
      go_ret
      exact ⟨rfl, K5.out⟩
    · go_wp2_with fail
      refine Calls.mono (HAW.out _) ?_; rintro e x3 ⟨rfl, K4⟩
      have K5 : Hid (Kept (fun _ => False) x1 x3) := K3.out.trans K4.out (fun _ z => z.elim)
      clear K3 K4
      go_wp2_with fail
      go_ret
      exact ⟨rfl, K5.out⟩
set_option maxHeartbeats 8000000 in
theorem plays_is {w : World} (a : Option Addr) (N c : Nat) (l : List A4) (hN : l.length = N) (h : Sl av 4 w (.slice a N c) l) (kd : UInt8) (kn : Int) (hkn : (kd.toNat : Int) = kn) (h1 : 1 ≤ kn) (h2 : kn ≤ 255) : Calls Try.prog 3 #[.int .i64 kn, .slice a N c] w fun e w' => e = .returned (.bool true) ∧ Kept (fun _ => False) w w' := by
  have hkd : kd.toNat ≠ 0 := by omega
  have HAW : Hid (∀ V, Calls Try.prog 11 #[] V fun e w' => e = .returned (.bool true) ∧ Hid (Kept (fun _ => False) V w')) := fun V => awake_is V
  have HNW : Hid (∀ V, Calls Try.prog 9 #[.int .i64 kn] V fun e w' => ∃ p, e = .returned (.tuple #[.pointer (some ⟨p, 0, none⟩), .int .i64 0]) ∧ Hid (Pg w' p (lay kd []) ∧ Kept (fun _ => False) V w' ∧ V.heap.size ≤ p)) := fun V => by
    have := new_is kd.toNat (by omega) (by omega) V
    rw [hkn, show UInt8.ofNat kd.toNat = kd by simp] at this
    exact this
  have HRN : Hid (∀ V, Calls Try.prog 10 #[.int .i64 kn] V fun e w' => e = .returned (.tuple #[rpg kn (.slice none 0 0), .int .i64 0]) ∧ Hid (Kept (fun _ => False) V w')) := fun V => by
    have := rnew_is kd.toNat (by omega) (by omega) V
    rw [hkn] at this
    exact this
  have HS : Hid (Sl av 4 w (.slice a N c) l ∧ l.length = N) := ⟨h, hN⟩
  have HKN : Hid ((kd.toNat : Int) = kn ∧ kd.toNat ≠ 0) := ⟨hkn, hkd⟩
  clear h hN hkn hkd
  go_enter Try.func3, Try.ntmps3
  go_wp2_with fail
  refine Calls.mono (HNW.out _) ?_; rintro e x1 ⟨p, rfl, HM⟩
  go_wp2_with fail
  refine Calls.mono (HRN.out _) ?_; rintro e x2 ⟨rfl, K2⟩
  obtain ⟨Y, hY⟩ : ∃ Y, x2.alloc (.cells #[.int .i64 kn, .slice none 0 0] 29) = Y := ⟨_, rfl⟩
  obtain ⟨B7, hB7⟩ : ∃ B, x2.heap.size = B := ⟨_, rfl⟩
  have HY : Hid (x2.alloc (.cells #[.int .i64 kn, .slice none 0 0] 29) = Y ∧ x2.heap.size = B7) := ⟨hY, hB7⟩
  have hk : Kept (fun _ => False) x2 Y := hY ▸ (Kept.refl _ x2).alloc _
  have hb7 : Blk Y B7 29 [.int .i64 (kd.toNat : Int), .slice none 0 0] := by
    have := Blk.new x2 29 [.int .i64 kn, .slice none 0 0]
    rw [hB7] at this
    rw [← hY, HKN.out.1]; exact this
  have k12 := K2.out
  have p2 := HM.out.1.step k12
  have J3 : Hid (Pst w p B7 kd none 0 0 [] Y) := ⟨p2.step hk, ok0, ris0, hb7, Sl.nil _ _ _, rfl, (HM.out.2.1.trans k12 (fun _ z => z.elim)).trans hk (fun _ z => z.elim), HM.out.2.2, by have := HM.out.2.1.size; have := k12.size; omega, by have := p2.lt; omega⟩
  clear hY hB7 hk hb7 k12 p2 K2 HM HNW HRN
  go_upto_region 3 with fail
  rw [HY.out.1, HY.out.2]
  clear HY
  go_wp2_with fail
  go_loopw [9] (fun v9 wr => ∃ i : Nat, i ≤ N ∧ i ≤ 60 ∧ v9 = .int .i64 i ∧ Hid (∃ a2 N2 c2 cs, Pst w p B7 kd a2 N2 c2 cs wr)) (fun v9 _ => 60 - (intOf v9).toNat)
  case atStart => exact ⟨0, Nat.zero_le _, by omega, rfl, _, _, _, _, J3.out⟩
  case round =>
    obtain ⟨i, hi, hi6, rfl, HI⟩ := hrel
    clear J3
    obtain ⟨a2, N2, c2, cs, hM⟩ := HI.out
    have HM : Hid (Pst w p B7 kd a2 N2 c2 cs wr) := hM
    clear HI hM
    have fin : ∀ (z : True), True := fun z => z
    clear fin
    by_cases hlt : i < N
    · have c1 : (i : Int) < (N : Int) := by omega
      by_cases hl6 : i < 60
      · have c2' : (i : Int) < 60 := by omega
        have hl : i < l.length := by rw [HS.out.2]; exact hlt
        obtain ⟨b, o, c', hv, hb, hcs⟩ := HS.out.1.acts (fun e => by rw [e] at hl; exact absurd hl (Nat.not_lt_zero _))
        rw [HS.out.2] at hv
        cases hv
        obtain ⟨y0, y1, y2, y3⟩ := hcs i hl
        obtain ⟨xk, hxk⟩ : ∃ z, l[i].k = z := ⟨_, rfl⟩
        obtain ⟨xn, hxn⟩ : ∃ z, l[i].n = z := ⟨_, rfl⟩
        obtain ⟨xs, hxs⟩ : ∃ z, l[i].key = z := ⟨_, rfl⟩
        obtain ⟨xv, hxv⟩ : ∃ z, l[i].val = z := ⟨_, rfl⟩
        rw [hxk] at y0
        rw [hxn] at y1
        rw [hxs] at y2
        rw [hxv] at y3
        have kw := HM.out.kp
        have q0 := kw.cell y0 (fun z => z)
        have q1 := kw.cell y1 (fun z => z)
        have q2 := kw.cell y2 (fun z => z)
        have q3 := kw.cell y3 (fun z => z)
        have hbp : b ≠ p := by have := HM.out.hp; omega
        clear y0 y1 y2 y3 hxk hxn hxs hxv hcs hl kw hb
        by_cases d1 : (200 : Int) < (xs.size : Int)
        · have KW : Hid (Kept (fun _ => False) w wr) := HM.out.kp
          clear HM
          go_wp2_with fail
          refine Calls.mono (HAW.out _) ?_; rintro e x3 ⟨rfl, K4⟩
          have K5 : Hid (Kept (fun _ => False) w x3) := KW.out.trans K4.out (fun _ z => z.elim)
          go_wp2_with fail
          go_ret
          exact ⟨rfl, K5.out⟩
        · by_cases d2 : (200 : Int) < (xv.size : Int)
          · have KW : Hid (Kept (fun _ => False) w wr) := HM.out.kp
            clear HM
            go_wp2_with fail
            refine Calls.mono (HAW.out _) ?_; rintro e x3 ⟨rfl, K4⟩
            have K5 : Hid (Kept (fun _ => False) w x3) := KW.out.trans K4.out (fun _ z => z.elim)
            go_wp2_with fail
            go_ret
            exact ⟨rfl, K5.out⟩
          · have HSB : Hid (∀ V : World, Kept (fun i => i = p) wr V → Kept (fun i => i = p) wr V ∧ V.cell? ⟨B7, 0, none⟩ = some (.int .i64 kn) ∧ V.cell? ⟨B7, 1, none⟩ = some (.slice a2 N2 c2) ∧ V.cell? ⟨b, o + i * 4, none⟩ = some (.int .i64 xk) ∧ V.cell? ⟨b, o + i * 4 + 1, none⟩ = some (.int .i64 xn) ∧ V.cell? ⟨b, o + i * 4 + 2, none⟩ = some (.string xs) ∧ V.cell? ⟨b, o + i * 4 + 3, none⟩ = some (.string xv)) := fun V k => ⟨k, by rw [← HKN.out.1]; exact (HM.out.b7.kept k (fun e => HM.out.n7 e.symm)).cell rfl, (HM.out.b7.kept k (fun e => HM.out.n7 e.symm)).cell rfl, k.cell q0 hbp, k.cell q1 hbp, k.cell q2 hbp, k.cell q3 hbp⟩
            have hS0 : Kept (fun i => i = p) wr wr ∧ wr.cell? ⟨B7, 0, none⟩ = some (.int .i64 kn) ∧ wr.cell? ⟨B7, 1, none⟩ = some (.slice a2 N2 c2) ∧ wr.cell? ⟨b, o + i * 4, none⟩ = some (.int .i64 xk) ∧ wr.cell? ⟨b, o + i * 4 + 1, none⟩ = some (.int .i64 xn) ∧ wr.cell? ⟨b, o + i * 4 + 2, none⟩ = some (.string xs) ∧ wr.cell? ⟨b, o + i * 4 + 3, none⟩ = some (.string xv) := HSB.out wr (Kept.refl _ _)
            have HSD : Hid (∀ V : World, (Kept (fun i => i = p) wr V ∧ V.cell? ⟨B7, 0, none⟩ = some (.int .i64 kn) ∧ V.cell? ⟨B7, 1, none⟩ = some (.slice a2 N2 c2) ∧ V.cell? ⟨b, o + i * 4, none⟩ = some (.int .i64 xk) ∧ V.cell? ⟨b, o + i * 4 + 1, none⟩ = some (.int .i64 xn) ∧ V.cell? ⟨b, o + i * 4 + 2, none⟩ = some (.string xs) ∧ V.cell? ⟨b, o + i * 4 + 3, none⟩ = some (.string xv)) → Kept (fun i => i = p) wr V.drew ∧ V.drew.cell? ⟨B7, 0, none⟩ = some (.int .i64 kn) ∧ V.drew.cell? ⟨B7, 1, none⟩ = some (.slice a2 N2 c2) ∧ V.drew.cell? ⟨b, o + i * 4, none⟩ = some (.int .i64 xk) ∧ V.drew.cell? ⟨b, o + i * 4 + 1, none⟩ = some (.int .i64 xn) ∧ V.drew.cell? ⟨b, o + i * 4 + 2, none⟩ = some (.string xs) ∧ V.drew.cell? ⟨b, o + i * 4 + 3, none⟩ = some (.string xv)) := fun V h => HSB.out _ h.1.drew
            have HSA : Hid (∀ (V : World) z, (Kept (fun i => i = p) wr V ∧ V.cell? ⟨B7, 0, none⟩ = some (.int .i64 kn) ∧ V.cell? ⟨B7, 1, none⟩ = some (.slice a2 N2 c2) ∧ V.cell? ⟨b, o + i * 4, none⟩ = some (.int .i64 xk) ∧ V.cell? ⟨b, o + i * 4 + 1, none⟩ = some (.int .i64 xn) ∧ V.cell? ⟨b, o + i * 4 + 2, none⟩ = some (.string xs) ∧ V.cell? ⟨b, o + i * 4 + 3, none⟩ = some (.string xv)) → Kept (fun i => i = p) wr (V.alloc z) ∧ (V.alloc z).cell? ⟨B7, 0, none⟩ = some (.int .i64 kn) ∧ (V.alloc z).cell? ⟨B7, 1, none⟩ = some (.slice a2 N2 c2) ∧ (V.alloc z).cell? ⟨b, o + i * 4, none⟩ = some (.int .i64 xk) ∧ (V.alloc z).cell? ⟨b, o + i * 4 + 1, none⟩ = some (.int .i64 xn) ∧ (V.alloc z).cell? ⟨b, o + i * 4 + 2, none⟩ = some (.string xs) ∧ (V.alloc z).cell? ⟨b, o + i * 4 + 3, none⟩ = some (.string xv)) := fun V z h => HSB.out _ (h.1.alloc _)
            have HSAD : Hid (∀ (V : World) z, (Kept (fun i => i = p) wr V ∧ V.cell? ⟨B7, 0, none⟩ = some (.int .i64 kn) ∧ V.cell? ⟨B7, 1, none⟩ = some (.slice a2 N2 c2) ∧ V.cell? ⟨b, o + i * 4, none⟩ = some (.int .i64 xk) ∧ V.cell? ⟨b, o + i * 4 + 1, none⟩ = some (.int .i64 xn) ∧ V.cell? ⟨b, o + i * 4 + 2, none⟩ = some (.string xs) ∧ V.cell? ⟨b, o + i * 4 + 3, none⟩ = some (.string xv)) → Kept (fun i => i = p) wr (V.alloc z).drew ∧ (V.alloc z).drew.cell? ⟨B7, 0, none⟩ = some (.int .i64 kn) ∧ (V.alloc z).drew.cell? ⟨B7, 1, none⟩ = some (.slice a2 N2 c2) ∧ (V.alloc z).drew.cell? ⟨b, o + i * 4, none⟩ = some (.int .i64 xk) ∧ (V.alloc z).drew.cell? ⟨b, o + i * 4 + 1, none⟩ = some (.int .i64 xn) ∧ (V.alloc z).drew.cell? ⟨b, o + i * 4 + 2, none⟩ = some (.string xs) ∧ (V.alloc z).drew.cell? ⟨b, o + i * 4 + 3, none⟩ = some (.string xv)) := fun V z h => HSB.out _ (h.1.alloc _).drew
            have HSS : Hid (∀ (V : World) (B : Nat) (u v : Value), wr.heap.size ≤ B → (Kept (fun i => i = p) wr V ∧ V.cell? ⟨B7, 0, none⟩ = some (.int .i64 kn) ∧ V.cell? ⟨B7, 1, none⟩ = some (.slice a2 N2 c2) ∧ V.cell? ⟨b, o + i * 4, none⟩ = some (.int .i64 xk) ∧ V.cell? ⟨b, o + i * 4 + 1, none⟩ = some (.int .i64 xn) ∧ V.cell? ⟨b, o + i * 4 + 2, none⟩ = some (.string xs) ∧ V.cell? ⟨b, o + i * 4 + 3, none⟩ = some (.string xv)) → Kept (fun i => i = p) wr ((V.setCell ⟨B, 0, none⟩ u).setCell ⟨B, 1, none⟩ v) ∧ ((V.setCell ⟨B, 0, none⟩ u).setCell ⟨B, 1, none⟩ v).cell? ⟨B7, 0, none⟩ = some (.int .i64 kn) ∧ ((V.setCell ⟨B, 0, none⟩ u).setCell ⟨B, 1, none⟩ v).cell? ⟨B7, 1, none⟩ = some (.slice a2 N2 c2) ∧ ((V.setCell ⟨B, 0, none⟩ u).setCell ⟨B, 1, none⟩ v).cell? ⟨b, o + i * 4, none⟩ = some (.int .i64 xk) ∧ ((V.setCell ⟨B, 0, none⟩ u).setCell ⟨B, 1, none⟩ v).cell? ⟨b, o + i * 4 + 1, none⟩ = some (.int .i64 xn) ∧ ((V.setCell ⟨B, 0, none⟩ u).setCell ⟨B, 1, none⟩ v).cell? ⟨b, o + i * 4 + 2, none⟩ = some (.string xs) ∧ ((V.setCell ⟨B, 0, none⟩ u).setCell ⟨B, 1, none⟩ v).cell? ⟨b, o + i * 4 + 3, none⟩ = some (.string xv)) := fun V B u v hB h => HSB.out _ (h.1.put2 hB u v)
            have HZ0 : Hid (Blk (wr.alloc (.cells #[.int .i64 0, .slice none 0 0] 29)).drew wr.heap.size 29 [.int .i64 0, .slice none 0 0]) := Blk.new wr 29 [.int .i64 0, .slice none 0 0]
            have HPL : Hid (p < wr.heap.size) := HM.out.pg.lt
            have HDO : Hid (∀ V : World, (Kept (fun i => i = p) wr V ∧ V.cell? ⟨B7, 0, none⟩ = some (.int .i64 kn) ∧ V.cell? ⟨B7, 1, none⟩ = some (.slice a2 N2 c2) ∧ V.cell? ⟨b, o + i * 4, none⟩ = some (.int .i64 xk) ∧ V.cell? ⟨b, o + i * 4 + 1, none⟩ = some (.int .i64 xn) ∧ V.cell? ⟨b, o + i * 4 + 2, none⟩ = some (.string xs) ∧ V.cell? ⟨b, o + i * 4 + 3, none⟩ = some (.string xv)) ∧ Kept (fun _ => False) wr V → Calls Try.prog 12 #[.pointer (some ⟨p, 0, none⟩), .agg #[.int .i64 kn, .slice a2 N2 c2], .agg #[.int .i64 xk, .int .i64 xn, .string xs, .string xv]] V fun e w' => ∃ (N3 : Nat) (a3 : Option Addr) (c3 : Nat), e = .returned (.tuple #[.agg #[.int .i64 kn, .slice a3 N3 c3], .bool true]) ∧ (Kept (fun i => i = p) wr w' ∧ w'.cell? ⟨B7, 0, none⟩ = some (.int .i64 kn) ∧ w'.cell? ⟨B7, 1, none⟩ = some (.slice a2 N2 c2) ∧ w'.cell? ⟨b, o + i * 4, none⟩ = some (.int .i64 xk) ∧ w'.cell? ⟨b, o + i * 4 + 1, none⟩ = some (.int .i64 xn) ∧ w'.cell? ⟨b, o + i * 4 + 2, none⟩ = some (.string xs) ∧ w'.cell? ⟨b, o + i * 4 + 3, none⟩ = some (.string xv)) ∧ Hid (Kept (fun i => i = p) V w' ∧ Got p kd w' N3 a3 c3)) := fun V h => by
              have := does_is kd HKN.out.2 a2 N2 c2 cs HM.out.ln (HM.out.pg.step h.2) (HM.out.sl.step cv_ne h.2) HM.out.ok HM.out.ri xk xn xs xv (by omega) (by omega)
              rw [HKN.out.1] at this
              refine this.mono fun e w' ⟨a3, N3, c3, cs3, r1, r2, r3, r4, r5, r6, r7⟩ => ?_
              rw [HKN.out.1] at r1
              exact ⟨N3, a3, c3, r1, HSB.out _ (h.1.1.trans r7 (fun i e => .inl e)), r7, cs3, r2, r3, r4, r5, r6⟩
            have HK1 : Hid (Kept (fun _ => False) wr wr.drew) := (Kept.refl _ _).drew
            have HK2 : Hid (∀ z, Kept (fun _ => False) wr (wr.alloc z).drew) := fun z => ((Kept.refl _ _).alloc _).drew
            clear q0 q1 q2 q3
            go_upto_region 10 with fail
            go_cut [10, 11] (fun s10 s11 wx => ∃ (B10 N3 : Nat) (a3 : Option Addr) (c3 : Nat), s10 = .pointer (some ⟨B10, 0, none⟩) ∧ s11 = .bool true ∧ Hid (Put10 p kd wr wx B10 N3 a3 c3))
            case first =>
              go_region_held (fun (w' : World) => Kept (fun i => i = p) wr w' ∧ w'.cell? ⟨B7, 0, none⟩ = some (.int .i64 kn) ∧ w'.cell? ⟨B7, 1, none⟩ = some (.slice a2 N2 c2) ∧ w'.cell? ⟨b, o + i * 4, none⟩ = some (.int .i64 xk) ∧ w'.cell? ⟨b, o + i * 4 + 1, none⟩ = some (.int .i64 xn) ∧ w'.cell? ⟨b, o + i * 4 + 2, none⟩ = some (.string xs) ∧ w'.cell? ⟨b, o + i * 4 + 3, none⟩ = some (.string xv)) (first | (with_reducible assumption) | (with_reducible exact HSD.out _ (by with_reducible assumption)) | (with_reducible exact HSA.out _ _ (by with_reducible assumption)) | (with_reducible exact HSAD.out _ _ (by with_reducible assumption)) | (with_reducible exact HSS.out _ _ _ _ (Nat.le_refl _) (by with_reducible assumption)) | (with_reducible exact HSS.out _ _ _ _ HLE.out (by with_reducible assumption))) (first | ((first | (with_reducible refine Calls.mono (HDO.out _ ⟨by with_reducible assumption, HK1.out⟩) ?_) | (with_reducible refine Calls.mono (HDO.out _ ⟨by with_reducible assumption, HK2.out _⟩) ?_)); rintro e w3 ⟨N3, a3, c3, rfl, hS3, HR3⟩; have HLE : Hid (wr.heap.size ≤ w3.heap.size) := hS3.1.size; first | (have hz := HZ0.out.kept HR3.out.1 (by have := HPL.out; omega); have z0 := hz.cell (i := 0) rfl; have z1 := hz.cell (i := 1) rfl; have zf := hz.fz; have HZ3 : Hid _ := hz; clear hz) | skip))
              all_goals go_wp2_with fail
              all_goals go_meet
              all_goals first | exact ⟨_, _, _, _, rfl, rfl, fin10a HKN.out.1 hS3.1 HR3.out.2⟩ | exact ⟨_, _, _, _, rfl, rfl, fin10b HKN.out.1 HPL.out hS3.1 HZ3.out HR3.out.2⟩
            case rest =>
              obtain ⟨B10, N3, a3, c3, rfl, rfl, HP7⟩ := hcut
              obtain ⟨cs3, p1, p2, p3, p4, p5, p6, p7, p8⟩ := HP7.out
              have HSM : Hid (Calls Try.prog 13 #[.pointer (some ⟨p, 0, none⟩), .agg #[.int .i64 kn, .slice a3 N3 c3]] wc fun e w' => e = .returned (.bool true) ∧ Hid (Kept (fun _ => False) wc w')) := by
                have := same_is kd HKN.out.2 a3 N3 c3 cs3 p4 p1 p3 p5
                rw [HKN.out.1] at this
                exact this
              have u0 := p2.cell (i := 0) rfl
              rw [HKN.out.1] at u0
              have u1 := p2.cell (i := 1) rfl
              have HNX : Hid (∀ V, Kept (fun _ => False) wc V → Pst w p B7 kd a3 N3 c3 cs3 ((V.setCell ⟨B7, 0, none⟩ (.int .i64 kn)).setCell ⟨B7, 1, none⟩ (.slice a3 N3 c3)) ∧ V.cell? ⟨B10, 0, none⟩ = some (.int .i64 kn) ∧ V.cell? ⟨B10, 1, none⟩ = some (.slice a3 N3 c3) ∧ Blk V B7 29 [.int .i64 (kd.toNat : Int), .slice a2 N2 c2]) := fun V kV => ⟨HM.out.next HKN.out.1 (p7.trans kV (fun _ z => z.elim)) (p1.step kV) (p3.step cv_ne kV) p4 p5 p6, kV.cell u0 (fun z => z), kV.cell u1 (fun z => z), (HM.out.b7.kept p7 (fun e => HM.out.n7 e.symm)).step kV⟩
              clear HP7 p1 p2 p3 p4 p5 p6 p7 p8 HSB HSD HSA HSAD HSS HZ0 HPL HDO HK1 HK2 hS0 HM
              go_wp2_with fail
              refine Calls.mono HSM.out ?_; rintro e w6 ⟨rfl, HK6⟩
              obtain ⟨n1, n2, n3, n4⟩ := HNX.out _ HK6.out
              have HN1 : Hid (Pst w p B7 kd a3 N3 c3 cs3 ((w6.setCell ⟨B7, 0, none⟩ (.int .i64 kn)).setCell ⟨B7, 1, none⟩ (.slice a3 N3 c3))) := n1
              have e0 := n4.cell (i := 0) rfl
              have e1 := n4.cell (i := 1) rfl
              have ef := n4.fz
              clear HNX HSM HK6 u0 u1 n1 n4
              go_wp2_with fail
              go_roundw
              case rel => exact ⟨i + 1, hlt, hl6, by rw [Int.natCast_add]; rfl, _, _, _, _, HN1.out⟩
              case measure => simp only [intOf]; omega
      · have c2' : ¬ (i : Int) < 60 := by omega
        have KW : Hid (Kept (fun _ => False) w wr) := HM.out.kp
        clear HM
        go_wp2_with fail
        refine Calls.mono (HAW.out _) ?_; rintro e x3 ⟨rfl, K4⟩
        have K5 : Hid (Kept (fun _ => False) w x3) := KW.out.trans K4.out (fun _ z => z.elim)
        go_wp2_with fail
        go_ret
        exact ⟨rfl, K5.out⟩
    · have c1 : ¬ (i : Int) < (N : Int) := by omega
      have KW : Hid (Kept (fun _ => False) w wr) := HM.out.kp
      clear HM
      go_wp2_with fail
      refine Calls.mono (HAW.out _) ?_; rintro e x3 ⟨rfl, K4⟩
      have K5 : Hid (Kept (fun _ => False) w x3) := KW.out.trans K4.out (fun _ z => z.elim)
      go_wp2_with fail
      go_ret
      exact ⟨rfl, K5.out⟩
end Go.Proofs.Ytncpohimjmakpaa
