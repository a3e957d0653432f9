/- made. -/
import Derived.Test.YtehaancdadmdkaaFw
import Derived.Deep.DeepCutAuto
namespace Go.Proofs.Ytehaancdadmdkaa
open Go.ChangeShapes Go.WideShapes Go.ChangeAt Go.RowKit
set_option linter.unusedVariables false
set_option maxRecDepth 100000

structure Mst (w : World) (p B3 B7 : Nat) (a2 : Option Addr) (N2 c2 : Nat) (cs : List Cel) (V : World) : Prop where
  pg : Pg V p (lay 7 cs)
  ok : okC cs
  ri : ris cs
  b7 : Blk V B7 29 [.int .i64 7, .slice a2 N2 c2]
  b3 : Blk V B3 29 [.int .i64 0, .slice none 0 0]
  sl : Sl cv 2 V (.slice a2 N2 c2) cs
  ln : cs.length = N2
  kp : Kept (fun _ => False) w V
  hp : w.heap.size ≤ p
  h3 : w.heap.size ≤ B3
  h7 : w.heap.size ≤ B7
  n7 : p ≠ B7
  n3 : p ≠ B3
  n37 : B3 ≠ B7
theorem Mst.step {w : World} {p B3 B7 : Nat} {a2 : Option Addr} {N2 c2 : Nat} {cs : List Cel} {V V' : World} (h : Mst w p B3 B7 a2 N2 c2 cs V) (k : Kept (fun _ => False) V V') : Mst w p B3 B7 a2 N2 c2 cs V' :=
  ⟨h.pg.step k, h.ok, h.ri, h.b7.step k, h.b3.step k, h.sl.step cv_ne k, h.ln, h.kp.trans k (fun _ z => z.elim), h.hp, h.h3, h.h7, h.n7, h.n3, h.n37⟩
theorem Mst.put {w : World} {p B3 B7 : Nat} {a2 : Option Addr} {N2 c2 : Nat} {cs cs2 : List Cel} {V V' : World} (h : Mst w p B3 B7 a2 N2 c2 cs V) (k : Kept (fun i => i = p) V V') (g : Pg V' p (lay 7 cs2)) : Pg V' p (lay 7 cs2) ∧ Blk V' B7 29 [.int .i64 7, .slice a2 N2 c2] ∧ Blk V' B3 29 [.int .i64 0, .slice none 0 0] ∧ Sl cv 2 V' (.slice a2 N2 c2) cs ∧ Kept (fun _ => False) w V' :=
  ⟨g, h.b7.kept k (fun e => h.n7 e.symm), h.b3.kept k (fun e => h.n3 e.symm), h.sl.page h.pg k, h.kp.trans k (fun i e => .inr (by rw [e]; exact h.hp))⟩
theorem end_mid {fn : Func} {p u x : Tmp} {ty : TypeId} {b : Addr} {v : Value} {tmps : Array Value} {w : World} (h : fn.results = #[.tmp u, .cell p ty, .tmp x]) (hp : tmps.getD p undef = .pointer (some b)) (hl : (loadVar ty b).run Try.prog w = .ok v w) :
    (results fn tmps).run Try.prog w = .ok (.tuple #[tmps.getD u undef, v, tmps.getD x undef]) w := by
  have hp' : tmps[p]?.getD undef = .pointer (some b) := by rw [← Array.getD_eq_getD_getElem?]; exact hp
  simp only [results, h]
  simp [hp', asAddr, hl]
def Put7 (wr wx : World) (cs : List Cel) (S1 S2 : ByteArray) (B11 g N3 : Nat) (a3 : Option Addr) (c3 : Nat) : Prop := ∃ cs3, Kept (fun _ => False) wr wx ∧ Blk wx B11 29 [.int .i64 7, .slice a3 N3 c3] ∧ NX cs S1 S2 g cs3 ∧ cs3.length = N3 ∧ Sl cv 2 wx (.slice a3 N3 c3) cs3 ∧ wr.heap.size ≤ B11
theorem fin7a {wr V w3 : World} {cs : List Cel} {S1 S2 : ByteArray} {g N3 : Nat} {a3 : Option Addr} {c3 : Nat} (k : Kept (fun _ => False) wr w3) (h : g ≤ 2 ∧ Kept (fun _ => False) V w3 ∧ ∃ cs3, NX cs S1 S2 g cs3 ∧ cs3.length = N3 ∧ Sl cv 2 w3 (.slice a3 N3 c3) cs3) : Put7 wr (w3.alloc (.cells #[.int .i64 7, .slice a3 N3 c3] 29)) cs S1 S2 w3.heap.size g N3 a3 c3 := by
  obtain ⟨_, _, cs3, h1, h2, h3⟩ := h
  exact ⟨cs3, k.alloc _, Blk.new w3 29 [.int .i64 7, .slice a3 N3 c3], h1, h2, h3.step cv_ne ((Kept.refl _ _).alloc _), k.size⟩
theorem Kept.two (w : World) (B : Nat) (u v : Value) : Kept (fun i => i = B) w ((w.setCell ⟨B, 0, none⟩ u).setCell ⟨B, 1, none⟩ v) := Kept.setCell (F := fun i => i = B) (p := ⟨B, 1, none⟩) (Kept.setCell (F := fun i => i = B) (p := ⟨B, 0, none⟩) (Kept.refl _ w) (.inl rfl) u) (.inl rfl) v
theorem Blk.two {w : World} {B : Nat} {t : TypeId} {x y : Value} (h : Blk w B t [x, y]) (u v : Value) : Blk ((w.setCell ⟨B, 0, none⟩ u).setCell ⟨B, 1, none⟩ v) B t [u, v] := (h.set 0 u).set 1 v
theorem fin7b {wr V w3 : World} {cs : List Cel} {S1 S2 : ByteArray} {g N3 : Nat} {a3 : Option Addr} {c3 : Nat} (k : Kept (fun _ => False) wr w3) (hz : Blk w3 wr.heap.size 29 [.int .i64 0, .slice none 0 0]) (h : g ≤ 2 ∧ Kept (fun _ => False) V w3 ∧ ∃ cs3, NX cs S1 S2 g cs3 ∧ cs3.length = N3 ∧ Sl cv 2 w3 (.slice a3 N3 c3) cs3) : Put7 wr ((w3.setCell ⟨wr.heap.size, 0, none⟩ (.int .i64 7)).setCell ⟨wr.heap.size, 1, none⟩ (.slice a3 N3 c3)) cs S1 S2 wr.heap.size g N3 a3 c3 := by
  obtain ⟨_, _, cs3, h1, h2, h3⟩ := h
  exact ⟨cs3, k.put2 (Nat.le_refl _) _ _, hz.two _ _, h1, h2, h3.box hz (Kept.two _ _ _ _), Nat.le_refl _⟩
theorem Mst.next {w : World} {p B3 B7 : Nat} {a2 a3 : Option Addr} {N2 c2 N3 c3 : Nat} {cs cs3 : List Cel} {V V' : World} (h : Mst w p B3 B7 a2 N2 c2 cs V) (k : Kept (fun i => i = p) V V') (g : Pg V' p (lay 7 cs3)) (hs : Sl cv 2 V (.slice a3 N3 c3) cs3) (hl : cs3.length = N3) (hok : okC cs3) (hr : ris cs3) : Mst w p B3 B7 a3 N3 c3 cs3 ((V'.setCell ⟨B7, 0, none⟩ (.int .i64 7)).setCell ⟨B7, 1, none⟩ (.slice a3 N3 c3)) := by
  obtain ⟨g1, g2, g3, g4, g5⟩ := h.put k g
  have kk := Kept.two V' B7 (.int .i64 7) (.slice a3 N3 c3)
  exact ⟨g1.kept kk h.n7, hok, hr, g2.two _ _, g3.kept kk h.n37, (hs.page h.pg k).box g2 kk, hl, g5.put2 h.h7 _ _, h.hp, h.h3, h.h7, h.n7, h.n3, h.n37⟩
/-- What made gives. -/
def MadeE (w : World) (e : Ending) (w' : World) : Prop := ∃ (p : Nat) (a2 : Option Addr) (N2 c2 : Nat) (cs : List Cel), e = .returned (.tuple #[.pointer (some ⟨p, 0, none⟩), rpg 7 (.slice a2 N2 c2), .bool true]) ∧ Pg w' p (lay 7 cs) ∧ okC cs ∧ ris cs ∧ Kept (fun _ => False) w w' ∧ w.heap.size ≤ p
set_option maxHeartbeats 4000000 in
theorem made_is {w : World} (a : Option Addr) (N c : Nat) (l : List Cel) (hN : l.length = N) (h : Sl cv 2 w (.slice a N c) l) (hf : fewC l) : Calls Try.prog 18 #[.slice a N c] w fun e w' => MadeE w e w' := by
  have HS : Hid (Sl cv 2 w (.slice a N c) l ∧ l.length = N ∧ fewC l) := ⟨h, hN, hf⟩
  have hN4 : N ≤ 40 := by rw [← hN]; exact hf.1
  have HNW : Hid (∀ V, Calls Try.prog 9 #[.int .i64 7] V fun e w' => ∃ p, e = .returned (.tuple #[.pointer (some ⟨p, 0, none⟩), .int .i64 0]) ∧ Hid (Pg w' p (lay 7 []) ∧ Kept (fun _ => False) V w' ∧ V.heap.size ≤ p)) := fun V => new_is 7 (by decide) (by decide) V
  have HRN : Hid (∀ V, Calls Try.prog 10 #[.int .i64 7] V fun e w' => e = .returned (.tuple #[rpg 7 (.slice none 0 0), .int .i64 0]) ∧ Hid (Kept (fun _ => False) V w')) := fun V => rnew_is 7 (by decide) (by decide) V
  have hb3 := Blk.new w 29 [.int .i64 0, .slice none 0 0]
  have hk3 : Kept (fun _ => False) w (w.alloc (.cells #[.int .i64 0, .slice none 0 0] 29)) := (Kept.refl _ w).alloc _
  rw [show ([.int .i64 0, .slice none 0 0] : List Value).toArray = #[.int .i64 0, .slice none 0 0] from rfl] at hb3
  obtain ⟨W, hW⟩ : ∃ W, w.alloc (.cells #[.int .i64 0, .slice none 0 0] 29) = W := ⟨_, rfl⟩
  obtain ⟨B3, hB3⟩ : ∃ B, w.heap.size = B := ⟨_, rfl⟩
  have HW : Hid (w.alloc (.cells #[.int .i64 0, .slice none 0 0] 29) = W ∧ w.heap.size = B3) := ⟨hW, hB3⟩
  rw [hW] at hb3 hk3
  rw [hB3] at hb3
  have J0 : Hid (Blk W B3 29 [.int .i64 0, .slice none 0 0] ∧ Kept (fun _ => False) w W ∧ w.heap.size ≤ B3) := ⟨hb3, hk3, by omega⟩
  clear h hN hf hb3 hk3 hW hB3
  go_enter Try.func18, Try.ntmps18
  go_wp2_with fail
  rw [HW.out.1, HW.out.2]
  clear HW
  refine Calls.mono (HNW.out _) ?_; rintro e x1 ⟨p, rfl, HM⟩
  have J1 : Hid (Pg x1 p (lay 7 []) ∧ Blk x1 B3 29 [.int .i64 0, .slice none 0 0] ∧ Kept (fun _ => False) w x1 ∧ w.heap.size ≤ B3 ∧ w.heap.size ≤ p ∧ p ≠ B3) := ⟨HM.out.1, J0.out.1.step HM.out.2.1, J0.out.2.1.trans HM.out.2.1 (fun _ z => z.elim), J0.out.2.2, by have := HM.out.2.2; have := J0.out.2.1.size; omega, by have := HM.out.2.2; have := J0.out.1.lt; omega⟩
  clear HM J0 HNW
  go_wp2_with fail
  refine Calls.mono (HRN.out _) ?_; rintro e x2 ⟨rfl, HM⟩
  have J2 : Hid (Pg x2 p (lay 7 []) ∧ Blk x2 B3 29 [.int .i64 0, .slice none 0 0] ∧ Kept (fun _ => False) w x2 ∧ w.heap.size ≤ B3 ∧ w.heap.size ≤ p ∧ p ≠ B3) := ⟨J1.out.1.step HM.out, J1.out.2.1.step HM.out, J1.out.2.2.1.trans HM.out (fun _ z => z.elim), J1.out.2.2.2⟩
  clear HM J1 HRN
  obtain ⟨X, hX⟩ : ∃ X, x2.alloc (.cells #[.int .i64 7, .slice none 0 0] 29) = X := ⟨_, rfl⟩
  obtain ⟨B7, hB7⟩ : ∃ B, x2.heap.size = B := ⟨_, rfl⟩
  have HX : Hid (x2.alloc (.cells #[.int .i64 7, .slice none 0 0] 29) = X ∧ x2.heap.size = B7) := ⟨hX, hB7⟩
  have hk : Kept (fun _ => False) x2 X := hX ▸ (Kept.refl _ x2).alloc _
  have hb7 : Blk X B7 29 [.int .i64 7, .slice none 0 0] := by
    have := Blk.new x2 29 [.int .i64 7, .slice none 0 0]
    rw [hB7] at this
    rw [← hX]; exact this
  have J3 : Hid (Mst w p B3 B7 none 0 0 [] X) := ⟨J2.out.1.step hk, ok0, ris0, hb7, J2.out.2.1.step hk, Sl.nil _ _ _, rfl, J2.out.2.2.1.trans hk (fun _ z => z.elim), J2.out.2.2.2.2.1, J2.out.2.2.2.1, by have := J2.out.2.2.1.size; omega, by have := J2.out.1.lt; omega, J2.out.2.2.2.2.2, by have := J2.out.2.1.lt; omega⟩
  clear hX hB7 hk hb7 J2
  go_wp2_with fail
  rw [HX.out.1, HX.out.2]
  clear HX
  go_wp2_with fail
  go_loopw [9, 10] (fun v9 v10 wr => ∃ i : Nat, i ≤ N ∧ v9 = .bool true ∧ v10 = .int .i64 i ∧ Hid (∃ a2 N2 c2 cs, Mst w p B3 B7 a2 N2 c2 cs wr)) (fun _ v10 _ => N - (intOf v10).toNat)
  case atStart => exact ⟨0, Nat.zero_le _, rfl, rfl, _, _, _, _, J3.out⟩
  case round =>
    obtain ⟨i, hi, rfl, rfl, HI⟩ := hrel
    clear J3
    obtain ⟨a2, N2, c2, cs, hM⟩ := HI.out
    have HM : Hid (Mst w p B3 B7 a2 N2 c2 cs wr) := hM
    clear HI hM
    by_cases hlt : i < N
    · have c1 : (i : Int) < (N : Int) := by omega
      have c2' : (i : Int) < 40 := by omega
      have hl : i < l.length := by rw [HS.out.2.1]; exact hlt
      obtain ⟨b, o, c', hv, hc', hb, hcs⟩ := (HS.out.1.step cv_ne HM.out.kp).cells (fun e => by rw [e] at hl; exact absurd hl (Nat.not_lt_zero _))
      rw [HS.out.2.1] at hv
      cases hv
      obtain ⟨y0, y1⟩ := hcs i hl
      obtain ⟨S1, hS1⟩ : ∃ S, (⟨l[i].1.toArray⟩ : ByteArray) = S := ⟨_, rfl⟩
      obtain ⟨S2, hS2⟩ : ∃ S, (⟨l[i].2.toArray⟩ : ByteArray) = S := ⟨_, rfl⟩
      have e1 : S1.size ≤ 1000 := by rw [← hS1, mk_size]; have := (HS.out.2.2.2 _ (List.getElem_mem hl)).1; omega
      have e2 : S2.size ≤ 1000 := by rw [← hS2, mk_size]; have := (HS.out.2.2.2 _ (List.getElem_mem hl)).2; omega
      rw [hS1] at y0
      rw [hS2] at y1
      have hS0 : Kept (fun _ => False) wr wr ∧ wr.cell? ⟨B7, 0, none⟩ = some (.int .i64 7) ∧ wr.cell? ⟨B7, 1, none⟩ = some (.slice a2 N2 c2) ∧ wr.cell? ⟨b, o + i * 2, none⟩ = some (.string S1) ∧ wr.cell? ⟨b, o + i * 2 + 1, none⟩ = some (.string S2) := ⟨Kept.refl _ _, HM.out.b7.cell rfl, HM.out.b7.cell rfl, y0, y1⟩
      have HSK : Hid (∀ V V', Kept (fun _ => False) V V' → (Kept (fun _ => False) wr V ∧ V.cell? ⟨B7, 0, none⟩ = some (.int .i64 7) ∧ V.cell? ⟨B7, 1, none⟩ = some (.slice a2 N2 c2) ∧ V.cell? ⟨b, o + i * 2, none⟩ = some (.string S1) ∧ V.cell? ⟨b, o + i * 2 + 1, none⟩ = some (.string S2)) → Kept (fun _ => False) wr V' ∧ V'.cell? ⟨B7, 0, none⟩ = some (.int .i64 7) ∧ V'.cell? ⟨B7, 1, none⟩ = some (.slice a2 N2 c2) ∧ V'.cell? ⟨b, o + i * 2, none⟩ = some (.string S1) ∧ V'.cell? ⟨b, o + i * 2 + 1, none⟩ = some (.string S2)) := fun V V' k h => ⟨h.1.trans k (fun _ z => z.elim), k.cell h.2.1 (fun z => z), k.cell h.2.2.1 (fun z => z), k.cell h.2.2.2.1 (fun z => z), k.cell h.2.2.2.2 (fun z => z)⟩
      have HSB : Hid (∀ V : World, Kept (fun _ => False) wr V → Kept (fun _ => False) wr V ∧ V.cell? ⟨B7, 0, none⟩ = some (.int .i64 7) ∧ V.cell? ⟨B7, 1, none⟩ = some (.slice a2 N2 c2) ∧ V.cell? ⟨b, o + i * 2, none⟩ = some (.string S1) ∧ V.cell? ⟨b, o + i * 2 + 1, none⟩ = some (.string S2)) := fun V k => HSK.out wr V k hS0
      have HSD : Hid (∀ V : World, (Kept (fun _ => False) wr V ∧ V.cell? ⟨B7, 0, none⟩ = some (.int .i64 7) ∧ V.cell? ⟨B7, 1, none⟩ = some (.slice a2 N2 c2) ∧ V.cell? ⟨b, o + i * 2, none⟩ = some (.string S1) ∧ V.cell? ⟨b, o + i * 2 + 1, none⟩ = some (.string S2)) → Kept (fun _ => False) wr V.drew ∧ V.drew.cell? ⟨B7, 0, none⟩ = some (.int .i64 7) ∧ V.drew.cell? ⟨B7, 1, none⟩ = some (.slice a2 N2 c2) ∧ V.drew.cell? ⟨b, o + i * 2, none⟩ = some (.string S1) ∧ V.drew.cell? ⟨b, o + i * 2 + 1, none⟩ = some (.string S2)) := fun V h => HSB.out _ h.1.drew
      have HSA : Hid (∀ (V : World) z, (Kept (fun _ => False) wr V ∧ V.cell? ⟨B7, 0, none⟩ = some (.int .i64 7) ∧ V.cell? ⟨B7, 1, none⟩ = some (.slice a2 N2 c2) ∧ V.cell? ⟨b, o + i * 2, none⟩ = some (.string S1) ∧ V.cell? ⟨b, o + i * 2 + 1, none⟩ = some (.string S2)) → Kept (fun _ => False) wr (V.alloc z) ∧ (V.alloc z).cell? ⟨B7, 0, none⟩ = some (.int .i64 7) ∧ (V.alloc z).cell? ⟨B7, 1, none⟩ = some (.slice a2 N2 c2) ∧ (V.alloc z).cell? ⟨b, o + i * 2, none⟩ = some (.string S1) ∧ (V.alloc z).cell? ⟨b, o + i * 2 + 1, none⟩ = some (.string S2)) := fun V z h => HSB.out _ (h.1.alloc _)
      have HSS : Hid (∀ (V : World) (B : Nat) (u v : Value), wr.heap.size ≤ B → (Kept (fun _ => False) wr V ∧ V.cell? ⟨B7, 0, none⟩ = some (.int .i64 7) ∧ V.cell? ⟨B7, 1, none⟩ = some (.slice a2 N2 c2) ∧ V.cell? ⟨b, o + i * 2, none⟩ = some (.string S1) ∧ V.cell? ⟨b, o + i * 2 + 1, none⟩ = some (.string S2)) → Kept (fun _ => False) wr ((V.setCell ⟨B, 0, none⟩ u).setCell ⟨B, 1, none⟩ v) ∧ ((V.setCell ⟨B, 0, none⟩ u).setCell ⟨B, 1, none⟩ v).cell? ⟨B7, 0, none⟩ = some (.int .i64 7) ∧ ((V.setCell ⟨B, 0, none⟩ u).setCell ⟨B, 1, none⟩ v).cell? ⟨B7, 1, none⟩ = some (.slice a2 N2 c2) ∧ ((V.setCell ⟨B, 0, none⟩ u).setCell ⟨B, 1, none⟩ v).cell? ⟨b, o + i * 2, none⟩ = some (.string S1) ∧ ((V.setCell ⟨B, 0, none⟩ u).setCell ⟨B, 1, none⟩ v).cell? ⟨b, o + i * 2 + 1, none⟩ = some (.string S2)) := fun V B u v hB h => HSB.out _ (h.1.put2 hB u v)
      have HZ0 : Hid (Blk (wr.alloc (.cells #[.int .i64 0, .slice none 0 0] 29)).drew wr.heap.size 29 [.int .i64 0, .slice none 0 0]) := Blk.new wr 29 [.int .i64 0, .slice none 0 0]
      have HSAD : Hid (∀ (V : World) z, (Kept (fun _ => False) wr V ∧ V.cell? ⟨B7, 0, none⟩ = some (.int .i64 7) ∧ V.cell? ⟨B7, 1, none⟩ = some (.slice a2 N2 c2) ∧ V.cell? ⟨b, o + i * 2, none⟩ = some (.string S1) ∧ V.cell? ⟨b, o + i * 2 + 1, none⟩ = some (.string S2)) → Kept (fun _ => False) wr (V.alloc z).drew ∧ (V.alloc z).drew.cell? ⟨B7, 0, none⟩ = some (.int .i64 7) ∧ (V.alloc z).drew.cell? ⟨B7, 1, none⟩ = some (.slice a2 N2 c2) ∧ (V.alloc z).drew.cell? ⟨b, o + i * 2, none⟩ = some (.string S1) ∧ (V.alloc z).drew.cell? ⟨b, o + i * 2 + 1, none⟩ = some (.string S2)) := fun V z h => HSB.out _ (h.1.alloc _).drew
      have HRP : Hid (∀ V : World, (Kept (fun _ => False) wr V ∧ V.cell? ⟨B7, 0, none⟩ = some (.int .i64 7) ∧ V.cell? ⟨B7, 1, none⟩ = some (.slice a2 N2 c2) ∧ V.cell? ⟨b, o + i * 2, none⟩ = some (.string S1) ∧ V.cell? ⟨b, o + i * 2 + 1, none⟩ = some (.string S2)) → Calls Try.prog 34 #[.agg #[.int .i64 7, .slice a2 N2 c2], .string S1, .string S2] V fun e w' => ∃ (g N3 : Nat) (a3 : Option Addr) (c3 : Nat), e = .returned (.tuple #[.agg #[.int .i64 7, .slice a3 N3 c3], .int .i64 (g : Int)]) ∧ (Kept (fun _ => False) wr w' ∧ w'.cell? ⟨B7, 0, none⟩ = some (.int .i64 7) ∧ w'.cell? ⟨B7, 1, none⟩ = some (.slice a2 N2 c2) ∧ w'.cell? ⟨b, o + i * 2, none⟩ = some (.string S1) ∧ w'.cell? ⟨b, o + i * 2 + 1, none⟩ = some (.string S2)) ∧ Hid (g ≤ 2 ∧ Kept (fun _ => False) V w' ∧ ∃ cs3, NX cs S1 S2 g cs3 ∧ cs3.length = N3 ∧ Sl cv 2 w' (.slice a3 N3 c3) cs3)) := fun V h =>
        (rputN_is 7 a2 N2 c2 cs HM.out.ln (HM.out.sl.step cv_ne h.1) HM.out.ok HM.out.ri S1 S2 e1 e2).mono fun e w' ⟨g, cs3, a3, c3, q1, q2, q3, q4⟩ => ⟨g, cs3.length, a3, c3, q1, HSK.out V w' q4 h, q2.le, q4, cs3, q2, rfl, q3⟩
      have HPP : Hid (∀ V : World, Pg V p (lay 7 cs) → Calls Try.prog 24 #[.pointer (some ⟨p, 0, none⟩), .string S1, .string S2] V fun e w' => ∃ g : Nat, e = .returned (.int .i64 (g : Int)) ∧ Hid (∃ cs3, NX cs S1 S2 g cs3 ∧ Pg w' p (lay 7 cs3) ∧ Kept (fun i => i = p) V w')) := fun V h => (pputN_is h HM.out.ok HM.out.ri (by decide) S1 S2 e1 e2).mono fun e w' ⟨g, cs3, q1, q2, q3, q4⟩ => ⟨g, q1, cs3, q2, q3, q4⟩
      clear hcs hb hS1 hS2 hl y0 y1 hc' e1 e2
      go_upto_region 7 with fail
      go_cut [11, 12] (fun s11 s12 wx => ∃ (B11 g N3 : Nat) (a3 : Option Addr) (c3 : Nat), s11 = .pointer (some ⟨B11, 0, none⟩) ∧ s12 = .int .i64 (g : Int) ∧ g ≤ 2 ∧ Hid (Put7 wr wx cs S1 S2 B11 g N3 a3 c3))
      case first =>
        go_region_held (fun (w' : World) => Kept (fun _ => False) wr w' ∧ w'.cell? ⟨B7, 0, none⟩ = some (.int .i64 7) ∧ w'.cell? ⟨B7, 1, none⟩ = some (.slice a2 N2 c2) ∧ w'.cell? ⟨b, o + i * 2, none⟩ = some (.string S1) ∧ w'.cell? ⟨b, o + i * 2 + 1, none⟩ = some (.string S2)) (first | (with_reducible assumption) | (with_reducible exact HSD.out _ (by with_reducible assumption)) | (with_reducible exact HSA.out _ _ (by with_reducible assumption)) | (with_reducible exact HSAD.out _ _ (by with_reducible assumption)) | (with_reducible exact HSS.out _ _ _ _ (Nat.le_refl _) (by with_reducible assumption)) | (with_reducible exact HSS.out _ _ _ _ HLE.out (by with_reducible assumption))) (first | ((with_reducible refine Calls.mono (HRP.out _ (by with_reducible assumption)) ?_); rintro e w3 ⟨g, N3, a3, c3, rfl, hS3, HR3⟩; have HLE : Hid (wr.heap.size ≤ w3.heap.size) := hS3.1.size; first | (have hz := HZ0.out.step HR3.out.2.1; have z0 := hz.cell (i := 0) rfl; have z1 := hz.cell (i := 1) rfl; have zf := hz.fz; have HZ3 : Hid _ := hz; clear hz) | skip))
        all_goals go_wp2_with fail
        all_goals go_meet
        all_goals first | exact ⟨_, _, _, _, _, rfl, rfl, HR3.out.1, fin7a hS3.1 HR3.out⟩ | exact ⟨_, _, _, _, _, rfl, rfl, HR3.out.1, fin7b hS3.1 HZ3.out HR3.out⟩
      case rest =>
        obtain ⟨B11, g, N3, a3, c3, rfl, rfl, hg2, HP7⟩ := hcut
        obtain ⟨cs3, p1, p2, p3, p4, p5, p6⟩ := HP7.out
        obtain ⟨_, _, _, y0, y1⟩ := HSB.out _ p1
        have hbp : b ≠ p := fun e => HM.out.pg.nostr (o + i * 2) S1 (by rw [← e]; exact hS0.2.2.2.1)
        have HQ : Hid (∀ V : World, Pg V p (lay 7 cs) → Kept (fun _ => False) wc V → Calls Try.prog 24 #[.pointer (some ⟨p, 0, none⟩), .string S1, .string S2] V fun e w' => e = .returned (.int .i64 (g : Int)) ∧ (w'.cell? ⟨b, o + i * 2, none⟩ = some (.string S1) ∧ w'.cell? ⟨b, o + i * 2 + 1, none⟩ = some (.string S2)) ∧ Hid (Pg w' p (lay 7 cs3) ∧ Kept (fun i => i = p) wc w')) := fun V h k => (HPP.out V h).mono fun e w' ⟨f, q1, q2⟩ => by
          obtain ⟨cs4, r1, r2, r3⟩ := q2.out
          obtain ⟨rfl, rfl⟩ := p3.uniq r1
          have k2 : Kept (fun i => i = p) wc w' := (k.mono (fun _ z => z.elim)).trans r3 (fun i e => .inl e)
          exact ⟨q1, ⟨k2.cell y0 hbp, k2.cell y1 hbp⟩, r2, k2⟩
        have hM2 : Mst w p B3 B7 a2 N2 c2 cs wc := HM.out.step p1
        have HM2 : Hid (Mst w p B3 B7 a2 N2 c2 cs wc) := hM2
        have HOK : Hid (okC cs3 ∧ ris cs3) := p3.ok HM.out.ok HM.out.ri
        have HSM : Hid (g ≠ 0 → cs3 = cs) := fun q => p3.same q
        have HB11 : Hid (Blk wc B11 29 [.int .i64 7, .slice a3 N3 c3] ∧ B11 ≠ p ∧ Sl cv 2 wc (.slice a3 N3 c3) cs3 ∧ cs3.length = N3) := ⟨p2, by have := HM.out.pg.lt; omega, p5, p4⟩
        have HPC : Hid (Pg wc.drew p (lay 7 cs) ∧ Kept (fun _ => False) wc wc.drew) := ⟨hM2.pg.step ((Kept.refl _ _).drew), (Kept.refl _ _).drew⟩
        have hS8 : wc.drew.cell? ⟨b, o + i * 2, none⟩ = some (.string S1) ∧ wc.drew.cell? ⟨b, o + i * 2 + 1, none⟩ = some (.string S2) := ⟨y0, y1⟩
        clear HP7 p1 p2 p3 p4 p5 p6 hM2 HSK HSB HSD HSA HSS HZ0 HSAD HRP HPP hS0 HM y0 y1
        go_upto_region 8 with fail
        go_region_held (fun (w' : World) => w'.cell? ⟨b, o + i * 2, none⟩ = some (.string S1) ∧ w'.cell? ⟨b, o + i * 2 + 1, none⟩ = some (.string S2)) (with_reducible assumption) (first | ((with_reducible refine Calls.mono (HQ.out _ HPC.out.1 HPC.out.2) ?_); rintro e w6 ⟨rfl, hS6, HW6⟩))
        clear HQ HPC hS8
        have b7 := HM2.out.put HW6.out.2 HW6.out.1
        have e0 := b7.2.1.cell (i := 0) rfl
        have e1 := b7.2.1.cell (i := 1) rfl
        have ef := b7.2.1.fz
        have b11 := HB11.out.1.kept HW6.out.2 HB11.out.2.1
        have f0 := b11.cell (i := 0) rfl
        have f1 := b11.cell (i := 1) rfl
        clear b7 b11
        by_cases hg : g = 0
        · subst hg
          have HN2 : Hid (Mst w p B3 B7 a3 N3 c3 cs3 ((w6.setCell ⟨B7, 0, none⟩ (.int .i64 7)).setCell ⟨B7, 1, none⟩ (.slice a3 N3 c3))) := HM2.out.next HW6.out.2 HW6.out.1 HB11.out.2.2.1 HB11.out.2.2.2 HOK.out.1 HOK.out.2
          clear HM2 HW6 HB11 HOK HSM
          go_wp2_with fail
          go_roundw
          case rel => exact ⟨i + 1, hlt, rfl, by rw [Int.natCast_add]; rfl, _, _, _, _, HN2.out⟩
          case measure => simp only [intOf]; omega
        · have hg1 : ¬ (g : Int) = 0 := by omega
          have HN2 : Hid (Mst w p B3 B7 a2 N2 c2 cs w6) := by
            have e := HSM.out hg
            have h := HM2.out
            obtain ⟨g1, g2, g3, g4, g5⟩ := h.put HW6.out.2 HW6.out.1
            exact ⟨by rw [← e]; exact g1, h.ok, h.ri, g2, g3, g4, h.ln, g5, h.hp, h.h3, h.h7, h.n7, h.n3, h.n37⟩
          clear HM2 HW6 HB11 HOK HSM
          go_wp2_with fail
          go_roundw
          case rel => exact ⟨i + 1, hlt, rfl, by rw [Int.natCast_add]; rfl, _, _, _, _, HN2.out⟩
          case measure => simp only [intOf]; omega
    · have c1 : ¬ (i : Int) < (N : Int) := by omega
      have kk := Kept.two wr B3 (.int .i64 7) (.slice a2 N2 c2)
      have b9 := HM.out.b3.two (.int .i64 7) (.slice a2 N2 c2)
      have HE : Hid (Pg ((wr.setCell ⟨B3, 0, none⟩ (.int .i64 7)).setCell ⟨B3, 1, none⟩ (.slice a2 N2 c2)) p (lay 7 cs) ∧ okC cs ∧ ris cs ∧ Kept (fun _ => False) w ((wr.setCell ⟨B3, 0, none⟩ (.int .i64 7)).setCell ⟨B3, 1, none⟩ (.slice a2 N2 c2)) ∧ w.heap.size ≤ p) := ⟨HM.out.pg.kept kk HM.out.n3, HM.out.ok, HM.out.ri, HM.out.kp.put2 HM.out.h3 _ _, HM.out.hp⟩
      have HL : Hid ((((wr.setCell ⟨B3, 0, none⟩ (.int .i64 7)).setCell ⟨B3, 1, none⟩ (.slice a2 N2 c2)).cell? ⟨B3, 0, none⟩ = some (.int .i64 7)) ∧ (((wr.setCell ⟨B3, 0, none⟩ (.int .i64 7)).setCell ⟨B3, 1, none⟩ (.slice a2 N2 c2)).cell? ⟨B3, 1, none⟩ = some (.slice a2 N2 c2))) := ⟨b9.cell rfl, b9.cell rfl⟩
      have HB7 : Hid (Blk ((wr.setCell ⟨B3, 0, none⟩ (.int .i64 7)).setCell ⟨B3, 1, none⟩ (.slice a2 N2 c2)) B7 29 [.int .i64 7, .slice a2 N2 c2]) := HM.out.b7.kept kk (fun e => HM.out.n37 e.symm)
      have d0 : wr.drew.cell? ⟨B7, 0, none⟩ = some (.int .i64 7) := HM.out.b7.cell rfl
      have d1 : wr.drew.cell? ⟨B7, 1, none⟩ = some (.slice a2 N2 c2) := HM.out.b7.cell rfl
      have g0 : wr.cell? ⟨B3, 0, none⟩ = some (.int .i64 0) := HM.out.b3.cell rfl
      have g1 : wr.cell? ⟨B3, 1, none⟩ = some (.slice none 0 0) := HM.out.b3.cell rfl
      have gf : ∀ j, wr.frozen? ⟨B3, j, none⟩ = false := HM.out.b3.fz
      have hS : wr.drew.cell? ⟨B7, 0, none⟩ = some (.int .i64 7) ∧ wr.drew.cell? ⟨B7, 1, none⟩ = some (.slice a2 N2 c2) := ⟨d0, d1⟩
      have HS2 : Hid (((wr.setCell ⟨B3, 0, none⟩ (.int .i64 7)).setCell ⟨B3, 1, none⟩ (.slice a2 N2 c2)).drew.cell? ⟨B7, 0, none⟩ = some (.int .i64 7) ∧ ((wr.setCell ⟨B3, 0, none⟩ (.int .i64 7)).setCell ⟨B3, 1, none⟩ (.slice a2 N2 c2)).drew.cell? ⟨B7, 1, none⟩ = some (.slice a2 N2 c2)) := ⟨HB7.out.cell rfl, HB7.out.cell rfl⟩
      have HEE : Hid (∀ V, Kept (fun _ => False) ((wr.setCell ⟨B3, 0, none⟩ (.int .i64 7)).setCell ⟨B3, 1, none⟩ (.slice a2 N2 c2)) V → ((loadVar 29 ⟨B3, 0, none⟩).run Try.prog V = .ok (rpg 7 (.slice a2 N2 c2)) V) ∧ ∃ cs, Pg V p (lay 7 cs) ∧ okC cs ∧ ris cs ∧ Kept (fun _ => False) w V ∧ w.heap.size ≤ p) := fun V k => ⟨load29 ((b9.step k).cell rfl) ((b9.step k).cell rfl), cs, HE.out.1.step k, HE.out.2.1, HE.out.2.2.1, HE.out.2.2.2.1.trans k (fun _ z => z.elim), HE.out.2.2.2.2⟩
      clear kk b9 HE HL HB7 HM
      go_upto_region 11 with fail
      go_region_held (fun (w' : World) => w'.cell? ⟨B7, 0, none⟩ = some (.int .i64 7) ∧ w'.cell? ⟨B7, 1, none⟩ = some (.slice a2 N2 c2)) (first | (with_reducible assumption) | (with_reducible exact HS2.out)) (fail)
      go_wp2_with fail
      have hF := HEE.out ((wr.setCell ⟨B3, 0, none⟩ (.int .i64 7)).setCell ⟨B3, 1, none⟩ (.slice a2 N2 c2)).drew ⟨rfl, rfl, rfl, by simp, fun _ _ _ => rfl⟩
      obtain ⟨hF1, cs9, hF2⟩ := hF
      refine bodyPost_ret (end_mid rfl rfl hF1) rfl ?_
      exact ⟨p, _, _, _, cs9, rfl, hF2⟩
end Go.Proofs.Ytehaancdadmdkaa
