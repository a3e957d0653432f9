/- The tokens of a text, by the document. -/
import Derived.Test.YtgokilochbnbaaaDoorRo
import Derived.Test.YtgokilochbnbaaaDoorRw
namespace Go.Proofs.YtgokilochbnbaaaDoor
open Go.ChangeShapes Go.WideShapes Go.ChangeAt Go.RowKit
set_option linter.unusedVariables false
set_option maxRecDepth 100000

/-- The state at the head of a round of the document's Tokens. -/
structure DS (w wr : World) (s : ByteArray) (T : List (TK × Nat) × Option Nat) (v : Value) (a : Nat) : Prop where
  lo : Below w.heap.size w wr
  hi : a ≤ s.size
  ac : ∃ acc, OwnT wr w.heap.size v acc ∧ acc.length ≤ a ∧ T = (acc ++ (LX (s.data.toList.drop a) a).1, (LX (s.data.toList.drop a) a).2)
theorem rtokens_full (s : ByteArray) (hs : 4096 < s.size) (w : World) : Calls Tryd.prog 10 #[.string s] w fun e w' => TokR w w' s.data.toList e := by
  have HT : Hid (tokV s.data.toList = ([], 0, 2)) := by show _ = _; unfold tokV; rw [if_pos (by rw [len_of]; exact hs)]
  have h1 : (4096 : Int) < (s.size : Int) := by omega
  go_enter Tryd.func10, Tryd.ntmps10
  go_wp2_with fail
  go_ret3
  refine ⟨.slice none 0 0, by rw [HT.out]; rfl, by rw [HT.out]; exact OwnT.nil _ _, Below.refl _ _⟩
def OneC (s : ByteArray) : Prop := ∀ (j : Nat) (w : World), j < s.size → Lib.hasPrefix (s.data.toList.drop j) [47, 42] = false → Calls Tryd.prog 22 #[.string s, .int .i64 (j : Int)] w fun e w' => OneR j (firstV (s.data.toList.drop j)) e ∧ Below w.heap.size w w'
set_option maxHeartbeats 4000000 in
theorem rtokens_some (s : ByteArray) (hs : s.size ≤ 4096) (HO : Hid (OneC s)) (w : World) : Calls Tryd.prog 10 #[.string s] w fun e w' => TokR w w' s.data.toList e := by
  have h1 : ¬ (4096 : Int) < (s.size : Int) := by omega
  obtain ⟨T, hT⟩ : ∃ T, T = LX s.data.toList 0 := ⟨_, rfl⟩
  have HT : Hid (tokV s.data.toList = match T.2 with | none => (T.1 ++ [(endT, s.size)], 0, 0) | some p => ([], (p : Int), 160)) := by
    show _ = _
    unfold tokV
    rw [if_neg (by rw [len_of]; omega), hT]
    unfold LX
    rw [len_of]
    all_goals first | rfl | (split <;> rfl) | (split <;> simp_all)
  have H0 : Hid (DS w w s T (.slice none 0 0) 0) := ⟨Below.refl _ _, by omega, [], OwnT.nil _ _, by simp, by rw [hT]; simp⟩
  have HSK : Hid (∀ (a : Nat) (w : World), a ≤ s.size → Calls Tryd.prog 21 #[.string s, .int .i64 (a : Int)] w fun e w' => (∃ nx b, e = .returned (.tuple #[.int .i64 nx, .int .i64 b]) ∧ SkipL s a nx b) ∧ w' = w) := fun a w ha => skip_le s (by omega) a ha w
  clear hT
  go_enter Tryd.func10, Tryd.ntmps10
  go_wp2_with fail
  go_loopw [5, 6] (fun v x wr => ∃ a : Nat, x = .int .i64 (a : Int) ∧ Hid (DS w wr s T v a)) (fun _ x _ => s.size - (intOf x).toNat)
  case atStart => exact ⟨0, rfl, H0⟩
  case round =>
    obtain ⟨a, rfl, HS⟩ := hrel
    go_wp2_with fail
    refine (HSK.out a _ HS.out.hi).mono ?_; rintro e w1 ⟨⟨nx, bx, rfl, hsk⟩, rfl⟩
    rcases hsk with ⟨j, rfl, rfl, hle, hj, hLX, hgp⟩ | ⟨j, rfl, rfl, hLX⟩
    · have hji : ¬ (j : Int) < 0 := by omega
      have HLE : Hid (a ≤ j) := hle
      clear hle
      by_cases hlt : j < s.size
      · obtain ⟨hg0, hr0⟩ := hgp hlt
        have hlti : ¬ (s.size : Int) ≤ (j : Int) := by omega
        have HOne : Hid (∀ w, Calls Tryd.prog 22 #[.string s, .int .i64 (j : Int)] w fun e w' => OneR j (firstV (s.data.toList.drop j)) e ∧ Below w.heap.size w w') := fun w => HO.out j w hlt hr0
        have HLX : Hid (LX (s.data.toList.drop a) a = LX (s.data.toList.drop j) j) := hLX
        have HG0 : Hid (gapN (s.data.toList.drop j) = 0) := hg0
        have HJ : Hid (j < s.size) := hlt
        clear hLX hgp hg0 hr0
        go_wp2_with fail
        refine (HOne.out _).mono ?_; rintro e w2 ⟨hone, k2⟩
        have HK2 : Hid (Below w1.heap.size w1 w2) := k2
        clear k2
        rcases hone with ⟨hz, rfl⟩ | ⟨hz, k, t, n, A, rfl⟩
        · have hfl := first_le (s.data.toList.drop j) (rest_ne HJ.out)
          rw [List.length_drop, len_of] at hfl
          obtain ⟨X, hX⟩ : ∃ X, firstV (s.data.toList.drop j) = X := ⟨_, rfl⟩
          rw [hX] at hz hfl ⊢
          have HX : Hid (firstV (s.data.toList.drop j) = X) := hX
          clear hX
          have HLo : Hid (Below w.heap.size w w2) := Below.next HS.out.lo HK2.out
          obtain ⟨acc, o, hl, e⟩ := HS.out.ac
          have haj2 : acc.length ≤ 5000 := by have := HS.out.hi; omega
          have kb : Below w2.heap.size w2 (w2.alloc (.cells #[.int .i64 X.k, .string ⟨X.t.toArray⟩, .int .i64 X.n, .int .i64 (j : Int)] 29)) := below1 _ _
          have hsz2 : (w2.alloc (.cells #[.int .i64 X.k, .string ⟨X.t.toArray⟩, .int .i64 X.n, .int .i64 (j : Int)] 29)).heap.size = w2.heap.size + 1 := by simp
          obtain ⟨v6, w6, ra, o6, b6⟩ := append_tok ((o.next HK2.out).next kb) (X, j) haj2 (Nat.le_trans HLo.out.size (by rw [hsz2]; omega))
          rw [hsz2] at ra
          have RA : Hid ((Builtin.append_ #[23, 23] 23 #[u5, .slice (some ⟨w2.heap.size + 1, 0, none⟩) 1 1]).run Tryd.prog ((w2.alloc (.cells #[.int .i64 X.k, .string ⟨X.t.toArray⟩, .int .i64 X.n, .int .i64 (j : Int)] 29)).alloc (.cells #[.int .i64 X.k, .string ⟨X.t.toArray⟩, .int .i64 X.n, .int .i64 (j : Int)] 29)) = .ok v6 w6) := ra
          have HD : Hid (DS w w6 s T v6 (j + X.z) ∧ s.size - (j + X.z) < s.size - a) := by
            have hle := HLE.out
            have hJ := HJ.out
            have e2 := LX_tok (a := j) (rest_ne HJ.out) HG0.out (by rw [HX.out]; exact hz)
            rw [HX.out, List.drop_drop] at e2
            refine ⟨⟨(Below.next HLo.out kb).trans b6, by omega, acc ++ [(X, j)], o6, ?_, ?_⟩, by omega⟩
            · rw [List.length_append]
              show acc.length + 1 ≤ _
              omega
            · rw [e, HLX.out, e2]
              simp
          clear o hl e kb hsz2 ra o6 b6 haj2
          have hzi : ¬ ((j : Int) + (X.z : Int)) < 0 := by omega
          obtain ⟨xk, xt, xn, xz⟩ := X
          simp only at hz hfl RA HD hzi
          go_wp2_with (first | ((with_reducible apply st_append (x := .tmp 43)); (case ho => rfl); (case hgd => rfl); (case hr => exact RA.out)))
          go_roundw
          case rel => exact ⟨j + xz, by first | rfl | go_num, HD.out.1⟩
          case measure =>
            have := HD.out.2
            simp [intOf]; omega
        · have HR : Hid (T.2 = some j) := by
            obtain ⟨acc, o, hl, e⟩ := HS.out.ac
            show _ = _
            rw [e, HLX.out, LX_bad (rest_ne HJ.out) HG0.out hz]
          have HK : Hid (Below w.heap.size w w2) := Below.next HS.out.lo HK2.out
          clear hz HLX HG0 HOne HK2
          go_wp2_with fail
          go_ret3
          refine ⟨.slice none 0 0, ?_, ?_, HK.out.alloc HK.out.size _⟩
          · rw [HT.out, HR.out]; rfl
          · rw [HT.out, HR.out]; exact OwnT.nil _ _
      · obtain rfl : j = s.size := by omega
        obtain ⟨acc, o, hl, e⟩ := HS.out.ac
        have hT2 : T = (acc, none) := by
          rw [e, hLX, List.drop_of_length_le (by rw [len_of]; exact Nat.le_refl _), LX_nil]
          simp
        obtain ⟨v6, w6, ra, o6, b6⟩ := append_tok o (endT, s.size) (by have := HS.out.hi; omega) HS.out.lo.size
        have RA : Hid ((Builtin.append_ #[23, 23] 23 #[u5, .slice (some ⟨w1.heap.size, 0, none⟩) 1 1]).run Tryd.prog (w1.alloc (.cells #[.int .i64 0, .string ⟨#[]⟩, .int .i64 0, .int .i64 (s.size : Int)] 29)) = .ok v6 w6) := ra
        have HR : Hid (TokR w w6 s.data.toList (.returned (.tuple #[v6, .int .i64 0, .int .i64 0]))) := by
          refine ⟨v6, ?_, ?_, HS.out.lo.trans b6⟩
          · rw [HT.out, hT2]
          · rw [HT.out, hT2]; exact o6
        clear hgp hLX hT2 o hl e ra o6 b6 HS
        go_wp2_with (first | ((with_reducible apply st_append (x := .tmp 28)); (case ho => rfl); (case hgd => rfl); (case hr => exact RA.out)))
        go_ret3
        exact HR.out
    · have HR : Hid (T.2 = some j) := by
        obtain ⟨acc, o, hl, e⟩ := HS.out.ac
        show _ = _
        rw [e, hLX]
      have HK : Hid (Below w.heap.size w w1) := HS.out.lo
      clear hLX HS
      go_wp2_with fail
      go_ret3
      refine ⟨.slice none 0 0, ?_, ?_, HK.out⟩
      · rw [HT.out, HR.out]; rfl
      · rw [HT.out, HR.out]; exact OwnT.nil _ _
end Go.Proofs.YtgokilochbnbaaaDoor
