/- How many bytes a sign has, by the program. -/
import Derived.Test.YtgokilochbnbaaaDoorSg
namespace Go.Proofs.YtgokilochbnbaaaDoor
open Go.ChangeShapes Go.WideShapes Go.ChangeAt Go.RowKit
set_option linter.unusedVariables false
set_option maxRecDepth 100000

theorem sign_size (s X : ByteArray) (hE : s.extract 0 (min 2 (s.size : Int)).toNat = X) (h1 : 1 ≤ s.size) (hs : s.size ≤ 100000) (c : UInt8) (hc : s.extract 0 1 = ⟨#[c]⟩) (w : World) :
    Calls Tryd.prog 65 #[.string s] w fun e w' => e = .returned (.int .i64 (if X.toList = [60, 62] ∨ X.toList = [60, 61] ∨ X.toList = [62, 61] ∨ X.toList = [33, 61] ∨ X.toList = [124, 124] then 2
  else if X.toList = [47, 42] then 0 else if shortL.contains c then 1 else 0)) ∧ w' = w := by
  obtain ⟨n, hn⟩ : ∃ n, n = (if X.toList = [60, 62] ∨ X.toList = [60, 61] ∨ X.toList = [62, 61] ∨ X.toList = [33, 61] ∨ X.toList = [124, 124] then (2 : Int)
  else if X.toList = [47, 42] then 0 else if shortL.contains c then 1 else 0) := ⟨_, rfl⟩
  rw [← hn]
  have HN : Hid (n = (if X.toList = [60, 62] ∨ X.toList = [60, 61] ∨ X.toList = [62, 61] ∨ X.toList = [33, 61] ∨ X.toList = [124, 124] then (2 : Int)
  else if X.toList = [47, 42] then 0 else if shortL.contains c then 1 else 0)) := hn
  clear hn
  have HC : Hid (∀ w, Calls Tryd.prog 81 #[.string ⟨#[40, 41, 44, 46, 42, 43, 45, 47, 37, 61, 60, 62]⟩, .string ⟨#[c]⟩] w fun e w' => e = .returned (.bool (shortL.contains c)) ∧ w' = w) := fun w => by
    rw [← index_mem]
    exact Tryd.strings_Contains_one ⟨#[40, 41, 44, 46, 42, 43, 45, 47, 37, 61, 60, 62]⟩ c w
  have hSL1 : ∀ W, (Instr.sliceAt 9 (.string s) none (some (.int .i64 1)) none).run Tryd.prog W = .ok (.string ⟨#[c]⟩) W := fun W => by rw [← hc]; exact str_head s 1 (by omega) W
  clear hc
  obtain ⟨kb, hkb⟩ : ∃ kb, shortL.contains c = kb := ⟨_, rfl⟩
  rw [hkb] at HC HN
  clear hkb
  have h6 : (0 : Int) ≤ min 2 (s.size : Int) ∧ min 2 (s.size : Int) ≤ (s.size : Int) := by omega
  have h7 : (0 : Int) ≤ 1 ∧ (1 : Int) ≤ (s.size : Int) := by omega
  cases kb
  all_goals go_enter Tryd.func65, Tryd.ntmps65
  all_goals go_wp2_with (refine (HC.out _).mono ?_; rintro e w1 ⟨rfl, rfl⟩)
  all_goals go_ret
  all_goals refine ⟨ret_int ?_, rfl⟩
  all_goals rw [HN.out]
  all_goals clear HN
  all_goals (first | (simp only [beq_iff_eq, beq_eq_false_iff_ne, ne_eq] at *; simp [*]; done) | (simp [*]; done) | (exfalso; simp_all; done))
end Go.Proofs.YtgokilochbnbaaaDoor
