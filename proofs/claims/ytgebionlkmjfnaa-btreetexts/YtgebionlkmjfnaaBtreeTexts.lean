/- Proved: for every list of texts and any text, quaysidelaw09.BtreeTexts(keys, out) returns true and the arguments read as before (no condition). -/
import Derived.Test.YtgebionlkmjfnaaRows
import Derived.WalkKit
import Derived.Test.YtgebionlkmjfnaaSTw2
import Derived.ProofKit
import Derived.OpenShut
import Derived.ShutString
import Derived.ChangeOld
import Derived.Below
namespace Go.Proofs.Ytgebionlkmjfnaa.btreeTexts
open Go.ChangeShapes Go.WideShapes Go.ChangeAt Go.RowKit
open Go.ChangeMaps (open_string shut_string)
set_option linter.unusedVariables false

theorem own : ownKnob Try.prog.godebug = none := by kernel_rfl
theorem laidOut : laidOutB Try.prog = true := by kernel_rfl

theorem cells9 : Try.prog.cellsOf 9 = 1 := by kernel_rfl
theorem open_texts {H : Type} {enc : TypeId × Value → H} {W : World} {a1 : Option Addr} {len1 cap1 : Nat} {d : DataW H} {ps : List MemPlace} (h : DataW.Trod enc Try.prog W 0 (fun _ => true) true 50 (.slice a1 len1 cap1) d ps) :
    ∃ l : List ByteArray, l.length = len1 ∧ Sx.Rw Sx.strv 1 W a1 l := by
  obtain ⟨fuel, hf⟩ := h
  rcases Deep.open_slice1 Try.underlying50 cells9 hf with ⟨hcs, _⟩ | ⟨a, len, cap, m, n, V, D, Pl, hcs, _, hl, hm, hmm, _, hx⟩
  · simp [Value.cells] at hcs
    obtain ⟨rfl, rfl, rfl⟩ := hcs
    exact ⟨[], rfl, Sx.Rw.nil _ _ _ _⟩
  · simp [Value.cells] at hcs
    obtain ⟨rfl, rfl, rfl⟩ := hcs
    simp only [if_true] at hmm
    subst hmm
    have hv : ∀ i, i < m → ∃ s : ByteArray, V i = .string s ∧ s.size ≤ maxLen := fun i hi => by
      obtain ⟨s, e, _, w⟩ := DataW.trod_string Try.underlying9 (hx i hi).2
      exact ⟨s, by simpa using e, w⟩
    have hlen : ((List.range len1).map fun i => match V i with | .string s => s | _ => (⟨#[]⟩ : ByteArray)).length = len1 := by simp
    refine ⟨(List.range len1).map fun i => match V i with | .string s => s | _ => ⟨#[]⟩, hlen, fun hne => ?_⟩
    have h0 : 0 < len1 := by
      have := List.length_pos_iff.2 hne
      rw [hlen] at this
      exact this
    have h1 := World.cell?_spot (hx 0 (by omega)).1
    obtain ⟨b, o, spot⟩ := a
    have : spot = none := by simpa [Addr.add] using h1
    subst this
    refine ⟨b, o, rfl, fun i x hi j u hu => ?_⟩
    obtain ⟨hi1, hi2⟩ := List.getElem?_eq_some_iff.1 hi
    have hil : i < len1 := by rw [hlen] at hi1; exact hi1
    obtain ⟨s, hs, _⟩ := hv i (by omega)
    have hxx : x = s := by rw [← hi2]; simp [hs]
    subst hxx
    match j, hu with
    | 0, hu =>
      cases hu
      have h2 := (hx i (by omega)).1
      rw [Go.WideShapes.add_plain, hs] at h2
      rw [Nat.mul_one, Nat.add_zero]
      exact h2

set_option maxRecDepth 100000 in
theorem lifted (os : Os) (started : os.Started) (H : Type) (enc : TypeId × Value → H) :
    ReturnsInHanded {} Try.checked os 6 .any (Rows.btreeTextsSpec.pre6 enc Try.prog Try.f6 Rows.btreeTextsRow.domain false) (Rows.btreeTextsSpec.post enc Try.prog Try.f6 false true false false) := by
  refine returnsInHanded_of_change (C := Try.checked) own started (by kernel_rfl) Try.func6
    (ChangeSpec.witness6 (enc := enc) (C := Try.checked) false ⟨#[], #[.slice none 0 0, .string ⟨#[]⟩], []⟩ 8 (by kernel_rfl) (by kernel_rfl) (by kernel_rfl) (by kernel_rfl)) ?_
  intro W base args ds gs before hval0 hW hcnd _
  have hval : ∀ (j : Nat) t v, Try.f6.params[j]? = some t → args[j]? = some v → Value.okWide Try.prog W .any base t v := hval0
  have hW' := hW
  obtain ⟨p, q, hA0, hV, rfl, hfz, hnd⟩ := hW
  have hA : DataW.TrodAll enc Try.prog W 0 (fun _ => true) true Try.f6.params.toList args.toList ds p := hA0
  rw [Try.params6] at hA hval
  obtain ⟨v1, vs1, d1, ds1, p1, q1, hargs, rfl, rfl, h1, r1⟩ := trodAll_cons hA
  obtain ⟨v2, vs2, d2, ds2, p2, q2, hargs2, rfl, rfl, h2, r2⟩ := trodAll_cons r1
  obtain ⟨rfl, rfl, rfl⟩ := trodAll_nil r2
  subst hargs2
  obtain rfl : args = #[v1, v2] := by cases args; simp_all
  obtain ⟨rfl, rfl⟩ := trodVars_none hV
  obtain ⟨a1, len1, cap1, rfl⟩ := okWide_slice Try.underlying50 (hval 0 50 v1 rfl rfl)
  obtain ⟨s2, rfl⟩ := okWide_string Try.underlying9 (hval 1 9 v2 rfl rfl)
  have k1 := h1
  have k2 := h2
  have lt1 : ∀ x ∈ p1, x.block < W.heap.size := by obtain ⟨m, hm⟩ := k1; exact DataW.trod_lt m _ _ _ hm
  have lt2 : ∀ x ∈ p2, x.block < W.heap.size := by obtain ⟨m, hm⟩ := k2; exact DataW.trod_lt m _ _ _ hm
  obtain ⟨M, hM1, hM2⟩ := open_texts h1
  clear hA0 hval0
  refine (Sx.texts_law a1 len1 cap1 M hM1 s2 W hM2).mono fun e W' ⟨he, bel⟩ => ?_
  subst he
  exact ⟨_, rfl, _, _, _, [], _, [], hW', trodAll_mk1 (shut_bool Try.underlying4 _), (trodAll_cons_mk (Below.trod laidOut (by kernel_rfl) (of_decide_eq_true (by kernel_rfl)) k1 bel lt1) (trodAll_cons_mk (Below.trod laidOut (by kernel_rfl) (of_decide_eq_true (by kernel_rfl)) k2 bel lt2) trodAll_mk0)), rfl, bel.frame _, fun h => by cases h⟩

theorem over : Rows.btreeTextsRow.holds Try.pinned (OpenSpec.ofChange Rows.btreeTextsSpec) :=
  OpenClaim.holds_of_wide 6 Try.f6 rfl rfl rfl rfl rfl rfl rfl ⟨rfl, rfl, rfl, rfl, rfl⟩ rfl rfl rfl rfl rfl (by kernel_rfl) Try.func6 (by kernel_rfl)
    (of_decide_eq_true (by kernel_rfl)) (by unfold Func.isWrapper; first | (rw [if_pos (by decide +kernel)]; kernel_rfl) | (rw [if_neg (by decide +kernel)]; exact ⟨rfl, rfl⟩))
    (fun os started H enc _ => lifted os started H enc)

/-- ████ THE STATEMENT ████ -/
theorem proved : Rows.BtreeTextsSaid := over
#print axioms proved
end Go.Proofs.Ytgebionlkmjfnaa.btreeTexts
