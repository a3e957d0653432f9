/- Calls as they came in. -/
import Derived.Test.YtncpohimjmakpaaOp
namespace Go.Proofs.Ytncpohimjmakpaa
open Go.ChangeShapes Go.WideShapes Go.ChangeAt Go.RowKit
set_option linter.unusedVariables false
set_option maxRecDepth 100000

/-- A call, as it lies. -/
structure A4 where
  k : Int
  n : Int
  key : ByteArray
  val : ByteArray
def av (x : A4) : List Value := [.int .i64 x.k, .int .i64 x.n, .string x.key, .string x.val]
theorem av_ne (x : A4) : av x ≠ [] := by simp [av]
theorem av_len (x : A4) : (av x).length = 4 := rfl
theorem cells33 : Try.prog.cellsOf 33 = 4 := by kernel_rfl
theorem cells3 : Try.prog.cellsOf 3 = 1 := by kernel_rfl
theorem fields33 : ∃ f0 f1 f2 f3 : Field, Try.prog.underlying 33 = some (.struct #[f0, f1, f2, f3]) ∧ (f0.type = 3 ∧ f0.offset = 0) ∧ (f1.type = 3 ∧ f1.offset = 1) ∧ (f2.type = 9 ∧ f2.offset = 2) ∧ (f3.type = 9 ∧ f3.offset = 3) :=
  ⟨_, _, _, _, Try.underlying33, ⟨rfl, rfl⟩, ⟨rfl, rfl⟩, ⟨rfl, rfl⟩, ⟨rfl, rfl⟩⟩
theorem open_act {H : Type} {enc : TypeId × Value → H} {W : World} {fuel : Nat} {b o i : Nat} {cs : List Value} {x : DataW H × List MemPlace} (hlen : cs.length = 4) (hcell : ∀ j, j < 4 → W.cell? ((Addr.mk b o none).add (i * 4 + j)) = cs[j]?) (h2 : DataW.trod enc Try.prog W 0 (fun _ => true) true fuel 33 cs = some x) : ∃ y : A4, W.cell? ⟨b, o + i * 4, none⟩ = some (.int .i64 y.k) ∧ W.cell? ⟨b, o + i * 4 + 1, none⟩ = some (.int .i64 y.n) ∧ W.cell? ⟨b, o + i * 4 + 2, none⟩ = some (.string y.key) ∧ W.cell? ⟨b, o + i * 4 + 3, none⟩ = some (.string y.val) := by
  obtain ⟨f0, f1, f2, f3, hu, ⟨t0, o0⟩, ⟨t1, o1⟩, ⟨t2, o2⟩, ⟨t3, o3⟩⟩ := fields33
  obtain ⟨xs, k, _, _, _, hxl, hfs⟩ := DataW.trod_struct hu h2
  match xs, hxl, cs, hlen with
  | [y0, y1, y2, y3], _, [v0, v1, v2, v3], _ =>
    have g0 := hfs 0 f0 rfl
    have g1 := hfs 1 f1 rfl
    have g2 := hfs 2 f2 rfl
    have g3 := hfs 3 f3 rfl
    simp [t0, o0, cells3] at g0
    simp [t1, o1, cells3] at g1
    simp [t2, o2, cells9] at g2
    simp [t3, o3, cells9] at g3
    obtain ⟨z0, e0, _, w0⟩ := DataW.trod_int Try.underlying3 g0
    obtain ⟨z1, e1, _, w1⟩ := DataW.trod_int Try.underlying3 g1
    obtain ⟨z2, e2, _, w2⟩ := DataW.trod_string Try.underlying9 g2
    obtain ⟨z3, e3, _, w3⟩ := DataW.trod_string Try.underlying9 g3
    cases e0; cases e1; cases e2; cases e3
    have hc0 := hcell 0 (by omega)
    have hc1 := hcell 1 (by omega)
    have hc2 := hcell 2 (by omega)
    have hc3 := hcell 3 (by omega)
    rw [Go.WideShapes.add_plain] at hc0 hc1 hc2 hc3
    exact ⟨⟨z0, z1, z2, z3⟩, hc0, by rw [Nat.add_assoc]; exact hc1, by rw [Nat.add_assoc]; exact hc2, by rw [Nat.add_assoc]; exact hc3⟩
theorem open_acts {H : Type} {enc : TypeId × Value → H} {W : World} {a1 : Option Addr} {len1 cap1 : Nat} {d : DataW H} {ps : List MemPlace} (h : DataW.Trod enc Try.prog W 0 (fun _ => true) true 22 (.slice a1 len1 cap1) d ps) :
    ∃ l : List A4, l.length = len1 ∧ Sl av 4 W (.slice a1 len1 cap1) l := by
  obtain ⟨fuel, hf⟩ := h
  rcases Deep.open_slice Try.underlying22 hf with ⟨hcs, _⟩ | ⟨a, len, cap, m, n, D, Pl, hcs, _, hl, hm, hmm, _, hx⟩
  · simp [Value.cells] at hcs
    obtain ⟨rfl, rfl, rfl⟩ := hcs
    exact ⟨[], rfl, Sl.nil _ _ _⟩
  · simp [Value.cells] at hcs
    obtain ⟨rfl, rfl, rfl⟩ := hcs
    simp only [if_true] at hmm
    have hA : ∀ i, i < len1 → ∃ x : A4, ∃ b o, a = ⟨b, o, none⟩ ∧ W.cell? ⟨b, o + i * 4, none⟩ = some (.int .i64 x.k) ∧ W.cell? ⟨b, o + i * 4 + 1, none⟩ = some (.int .i64 x.n) ∧ W.cell? ⟨b, o + i * 4 + 2, none⟩ = some (.string x.key) ∧ W.cell? ⟨b, o + i * 4 + 3, none⟩ = some (.string x.val) := fun i hi => by
      have hspot : a.spot = none := by
        obtain ⟨cs, h1, _⟩ := hx 0 (by omega)
        rw [cells33] at h1
        obtain ⟨_, hlen, hcell⟩ := World.cells?_some h1
        have h0 := hcell 0 (by omega)
        rw [List.getElem?_eq_getElem (by omega)] at h0
        simpa [Addr.add] using World.cell?_spot h0
      obtain ⟨cs, h1, h2⟩ := hx i (by omega)
      rw [cells33] at h1
      obtain ⟨_, hlen, hcell⟩ := World.cells?_some h1
      obtain ⟨b, o, spot⟩ := a
      have hs : spot = none := hspot
      subst hs
      obtain ⟨y, hat⟩ := open_act (b := b) (o := o) (i := i) hlen (fun j hj => by have := hcell j hj; rw [Deep.add_add] at this; exact this) h2
      exact ⟨y, b, o, rfl, hat⟩
    obtain ⟨l, hl1, hl2⟩ := gather len1 hA
    refine ⟨l, hl1, some a, cap1, by rw [hl1], fun hne => ?_, by omega, fun e => by cases e⟩
    have h0 : 0 < l.length := List.length_pos_iff.2 hne
    obtain ⟨b, o, rfl, _⟩ := hl2 0 h0
    refine ⟨b, o, rfl, fun i x hx j u hu => ?_⟩
    obtain ⟨hi, rfl⟩ := List.getElem?_eq_some_iff.1 hx
    obtain ⟨b', o', e, c0, c1, c2, c3⟩ := hl2 i hi
    cases e
    match j, hu with
    | 0, hu => cases hu; exact c0
    | 1, hu => cases hu; exact c1
    | 2, hu => cases hu; exact c2
    | 3, hu => cases hu; exact c3
theorem Sl.acts {w : World} {v : Value} {l : List A4} (h : Sl av 4 w v l) (hne : l ≠ []) : ∃ b o c, v = .slice (some ⟨b, o, none⟩) l.length c ∧ b < w.heap.size ∧ ∀ i (hi : i < l.length), w.cell? ⟨b, o + i * 4, none⟩ = some (.int .i64 l[i].k) ∧ w.cell? ⟨b, o + i * 4 + 1, none⟩ = some (.int .i64 l[i].n) ∧ w.cell? ⟨b, o + i * 4 + 2, none⟩ = some (.string l[i].key) ∧ w.cell? ⟨b, o + i * 4 + 3, none⟩ = some (.string l[i].val) := by
  obtain ⟨a, c, h1, h2, h3, h4⟩ := h
  obtain ⟨b, o, e, hc⟩ := h2 hne
  exact ⟨b, o, c, by rw [h1, e], h2.lt av_ne e hne, fun i hi => ⟨hc i _ (List.getElem?_eq_getElem hi) 0 _ rfl, hc i _ (List.getElem?_eq_getElem hi) 1 _ rfl, hc i _ (List.getElem?_eq_getElem hi) 2 _ rfl, hc i _ (List.getElem?_eq_getElem hi) 3 _ rfl⟩⟩
end Go.Proofs.Ytncpohimjmakpaa
