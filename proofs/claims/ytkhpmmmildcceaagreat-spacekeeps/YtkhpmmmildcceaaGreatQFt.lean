/- Whether a state may be. -/
import Derived.Test.YtkhpmmmildcceaaGreatQSof
namespace Go.Proofs.YtkhpmmmildcceaaGreat
open Go.ChangeShapes Go.WideShapes Go.ChangeAt Go.RowKit
set_option linter.unusedVariables false
set_option maxRecDepth 100000

/-- May a state be that of so many pages? -/
def FitS (u : List UInt8) (ns : List Nam) (pg : Nat) : Prop := soundN u ns = true ∧ ns.length ≤ 6 ∧ ∀ k, pg ≤ k → k < 504 → bitU u k = false
theorem most_fit {u : List UInt8} {mu pg : Nat} (h : MostU u mu) : mu ≤ pg ↔ ∀ k, pg ≤ k → k < 504 → bitU u k = false := by
  constructor
  · intro hle k h1 h2
    exact h.2.1 k (by omega) h2
  · intro ha
    rcases Nat.lt_or_ge pg mu with q | q
    · have h1 := h.2.2 (by omega)
      have := ha (mu - 1) (by omega) (by have := h.1; omega)
      rw [this] at h1
      cases h1
    · exact q
def FitE (u : List UInt8) (ns : List Nam) (pg : Nat) (w : World) (e : Ending) (w' : World) : Prop := ∃ z, e = .returned (.bool z) ∧ (z = true ↔ FitS u ns pg) ∧ Kept (fun _ => False) w w'
set_option maxHeartbeats 1000000 in
theorem fits_is {w : World} {b o m pg : Nat} {u : List UInt8} {ns : List Nam} (h : Us w b o u) (hm : w.cell? ⟨b, o + 63, none⟩ = some (.map (some m))) (hn : NmAt w m ns) : Calls Tryz.prog 90 #[.pointer (some ⟨b, o, none⟩), .int .i64 (pg : Int)] w fun e w' => FitE u ns pg w e w' := by
  obtain ⟨sd, hsd⟩ : ∃ z, soundN u ns = z := ⟨_, rfl⟩
  have HSO : Hid (Calls Tryz.prog 56 #[.pointer (some ⟨b, o, none⟩)] w fun e w' => e = .returned (.bool sd) ∧ Hid (Kept (fun _ => False) w w')) := by
    have := sound_is h hm hn
    rw [hsd] at this
    exact this
  have HFA : Hid (∀ V, Kept (fun _ => False) w V → V.cell? ⟨b, o + 63, none⟩ = some (.map (some m)) ∧ (∀ ty, (Builtin.len_ #[66] ty #[.map (some m)]).run Tryz.prog V = .ok (.int .i64 (ns.length : Int)) V)) := fun V k => ⟨k.cell hm (fun z => z), fun ty => (hn.kept k (fun z => z)).len ty⟩
  have HMO : Hid (∀ V, Kept (fun _ => False) w V → Calls Tryz.prog 125 #[.pointer (some ⟨b, o, none⟩)] V fun e w' => ∃ m : Nat, Hid (MostU u m) ∧ e = .returned (.int .i64 (m : Int)) ∧ w' = V) := fun V k => most_is (h.kept k (fun z => z))
  have HSD : Hid (soundN u ns = sd) := hsd
  clear h hm hn hsd
  cases sd with
  | false =>
    go_enter Tryz.func90, Tryz.ntmps90
    go_wp2_with fail
    refine Calls.mono HSO.out ?_; rintro e w1 ⟨rfl, HK1⟩
    go_wp2_with fail
    go_ret
    exact ⟨false, rfl, ⟨fun z => (by cases z), fun z => absurd (HSD.out.symm.trans z.1) (by decide)⟩, HK1.out⟩
  | true =>
    by_cases hl : ns.length ≤ 6
    · have c1 : (ns.length : Int) ≤ 6 := by omega
      have HL : Hid (ns.length ≤ 6) := hl
      clear hl
      go_enter Tryz.func90, Tryz.ntmps90
      go_wp2_with fail
      refine Calls.mono HSO.out ?_; rintro e w1 ⟨rfl, HK1⟩
      obtain ⟨hc1, hl1⟩ := HFA.out w1 HK1.out
      go_wp2_with fail
      refine Calls.mono (HMO.out w1 HK1.out) ?_; rintro e w2 ⟨mu, HMU, rfl, rfl⟩
      by_cases hq : mu ≤ pg
      · have c2 : (mu : Int) ≤ (pg : Int) := by omega
        go_wp2_with fail
        go_ret
        exact ⟨true, rfl, ⟨fun _ => ⟨HSD.out, HL.out, (most_fit HMU.out).1 hq⟩, fun _ => rfl⟩, HK1.out⟩
      · have c2 : ¬ (mu : Int) ≤ (pg : Int) := by omega
        go_wp2_with fail
        go_ret
        exact ⟨false, rfl, ⟨fun z => (by cases z), fun z => absurd ((most_fit HMU.out).2 z.2.2) hq⟩, HK1.out⟩
    · have c1 : ¬ (ns.length : Int) ≤ 6 := by omega
      have HL : Hid (¬ ns.length ≤ 6) := hl
      clear hl
      go_enter Tryz.func90, Tryz.ntmps90
      go_wp2_with fail
      refine Calls.mono HSO.out ?_; rintro e w1 ⟨rfl, HK1⟩
      obtain ⟨hc1, hl1⟩ := HFA.out w1 HK1.out
      go_wp2_with fail
      go_ret
      exact ⟨false, rfl, ⟨fun z => (by cases z), fun z => absurd z.2.1 HL.out⟩, HK1.out⟩
end Go.Proofs.YtkhpmmmildcceaaGreat
