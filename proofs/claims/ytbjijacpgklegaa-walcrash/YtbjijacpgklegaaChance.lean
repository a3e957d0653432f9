/- The statement's own part: chance. -/
import Derived.Test.YtbjijacpgklegaaAfter
namespace Go.Proofs.Ytbjijacpgklegaa
open Go.ChangeShapes Go.WideShapes Go.ChangeAt Go.RowKit
set_option linter.unusedVariables false
set_option maxRecDepth 100000

theorem chance_is (a b : Option Addr) (c e : Nat) (l z : List ByteArray) (k : Nat) (w : World) (hl : Texts w (.slice a l.length c) l) (hz : Texts w (.slice b z.length e) z) (hk : k < z.length) (hkz : z.length ≤ 4096) (hll : l.length ≤ 4096) (hmz : mayG z) (hml : mayG l) (hne : ∀ h : k < l.length, z[k] ≠ l[k]) :
    Calls Try.prog 25 #[.slice a l.length c, .slice b z.length e, .int .i64 (k : Int)] w fun en w' => en = .returned (.bool true) ∧ Kept (fun _ => False) w w' := by
  have hki : (k : Int) < (z.length : Int) := by omega
  obtain ⟨b1, o1, rfl, c1⟩ := hz.cell k hk
  have hs := hmz z[k] (List.getElem_mem hk)
  have HF1 := (show Hid _ from fun w => frame_is 1 z[k] (by omega) hs w)
  by_cases hkl : k < l.length
  · have hkli : (k : Int) < (l.length : Int) := by omega
    obtain ⟨b2, o2, rfl, c2⟩ := hl.cell k hkl
    have hs2 := hml l[k] (List.getElem_mem hkl)
    have HF2 := (show Hid _ from fun w => frame_is 1 l[k] (by omega) hs2 w)
    have HNE : ¬ frameS 1 z[k] = frameS 1 l[k] := fun h => hne hkl (frame_inj _ _ hs hs2 h)
    have hb : ((frameS 1 z[k]).toList == (frameS 1 l[k]).toList) = false := by rw [beq_bytes, decide_eq_false HNE]
    clear hl hz hne hmz hml hs hs2
    generalize frameS 1 z[k] = f1 at *
    generalize frameS 1 l[k] = f2 at *
    generalize z[k] = s1 at *
    generalize l[k] = s2 at *
    go_enter Try.func25, Try.ntmps25
    go_wp2_with fail
    refine Calls.mono (HF1.out _) ?_; rintro en w1 ⟨rfl, k1⟩
    have c2' := k1.cell c2 (fun z => z)
    have HK1 := (show Hid _ from k1)
    clear k1
    go_wp2_with fail
    refine Calls.mono (HF2.out _) ?_; rintro en w2 ⟨rfl, k2⟩
    have HK2 : Hid (Kept (fun _ => False) w w2) := HK1.out.trans k2 (fun _ z => .inl z)
    clear k2
    go_wp2_with fail
    go_ret
    exact ⟨rfl, HK2.out⟩
  · have hkli : ¬ (k : Int) < (l.length : Int) := by omega
    have hkli2 : (l.length : Int) ≤ (k : Int) := by omega
    clear hl hz hne hmz hml hs
    generalize frameS 1 z[k] = f1 at *
    generalize z[k] = s1 at *
    go_enter Try.func25, Try.ntmps25
    go_wp2_with fail
    refine Calls.mono (HF1.out _) ?_; rintro en w1 ⟨rfl, k1⟩
    have HK1 := (show Hid _ from k1)
    clear k1
    go_wp2_with fail
    go_ret
    exact ⟨rfl, HK1.out⟩
end Go.Proofs.Ytbjijacpgklegaa
