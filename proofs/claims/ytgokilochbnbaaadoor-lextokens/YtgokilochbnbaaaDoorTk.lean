/- lex.Tokens. -/
import Derived.Test.YtgokilochbnbaaaDoorTt
import Derived.LoopTactic
namespace Go.Proofs.YtgokilochbnbaaaDoor
open Go.ChangeShapes Go.WideShapes Go.ChangeAt Go.RowKit
set_option linter.unusedVariables false
set_option maxRecDepth 100000

/-- What Tokens has given. -/
def TokR (w w' : World) (l : List UInt8) (e : Ending) : Prop := ∃ v, e = .returned (.tuple #[v, .int .i64 (tokV l).2.1, .int .i64 (tokV l).2.2]) ∧ OwnT w' w.heap.size v (tokV l).1 ∧ Below w.heap.size w w'
theorem tokens_full (s : ByteArray) (hs : 4096 < s.size) (w : World) : Calls Tryd.prog 9 #[.string s] w fun e w' => TokR w w' s.data.toList e := by
  have HT : Hid (tokV s.data.toList = ([], 0, 2)) := by show _ = _; unfold tokV; rw [if_pos (by rw [len_of]; exact hs)]
  have h1 : (4096 : Int) < (s.size : Int) := by omega
  go_enter Tryd.func9, Tryd.ntmps9
  go_wp2_with fail
  go_ret3
  refine ⟨.slice none 0 0, by rw [HT.out]; rfl, by rw [HT.out]; exact OwnT.nil _ _, Below.refl _ _⟩
/-- The state at the head of a round. -/
structure TS (w wr : World) (s : ByteArray) (T : List (TK × Nat) × Option Nat) (v : Value) (a : Nat) : Prop where
  lo : Below w.heap.size w wr
  hi : a ≤ s.size
  ac : ∃ acc, OwnT wr w.heap.size v acc ∧ acc.length ≤ a ∧ ∃ f, s.size - a ≤ f ∧ T = (acc ++ (lexF f (s.data.toList.drop a) a).1, (lexF f (s.data.toList.drop a) a).2)
theorem rest_ne {s : ByteArray} {a : Nat} (h : a < s.size) : s.data.toList.drop a ≠ [] := by
  intro e
  have := congrArg List.length e
  rw [List.length_drop, len_of] at this
  simp at this
  omega
theorem TS.gap {w wr : World} {s : ByteArray} {T : List (TK × Nat) × Option Nat} {v : Value} {a : Nat} (h : TS w wr s T v a) (ha : a < s.size) (hg : 0 < gapN (s.data.toList.drop a)) {w2 : World} (k : Below wr.heap.size wr w2) : TS w w2 s T v (a + gapN (s.data.toList.drop a)) := by
  obtain ⟨acc, o, hl, f, hf, e⟩ := h.ac
  have hle := gapN_le (s.data.toList.drop a)
  rw [List.length_drop, len_of] at hle
  cases f with
  | zero => omega
  | succ f =>
    rw [lexF_gap (rest_ne ha) hg, List.drop_drop] at e
    exact ⟨Below.next h.lo k, by omega, acc, o.next k, by omega, f, by omega, e⟩
theorem TS.bad {w wr : World} {s : ByteArray} {T : List (TK × Nat) × Option Nat} {v : Value} {a : Nat} (h : TS w wr s T v a) (ha : a < s.size) (hg : gapN (s.data.toList.drop a) = 0) (hz : (firstV (s.data.toList.drop a)).z = 0) : T.2 = some a := by
  obtain ⟨acc, o, hl, f, hf, e⟩ := h.ac
  cases f with
  | zero => omega
  | succ f =>
    rw [lexF_bad (rest_ne ha) hg hz] at e
    rw [e]
theorem TS.tok {w wr : World} {s : ByteArray} {T : List (TK × Nat) × Option Nat} {v : Value} {a : Nat} (h : TS w wr s T v a) (ha : a < s.size) (hg : gapN (s.data.toList.drop a) = 0) (hz : (firstV (s.data.toList.drop a)).z ≠ 0) {w2 w3 : World} {v' : Value} (k : Below wr.heap.size wr w2)
    (ho : ∀ acc, OwnT wr w.heap.size v acc → acc.length ≤ a → OwnT w3 w.heap.size v' (acc ++ [(firstV (s.data.toList.drop a), a)])) (k3 : Below w.heap.size w2 w3) : TS w w3 s T v' (a + (firstV (s.data.toList.drop a)).z) := by
  obtain ⟨acc, o, hl, f, hf, e⟩ := h.ac
  have hle := first_le (s.data.toList.drop a) (rest_ne ha)
  rw [List.length_drop, len_of] at hle
  cases f with
  | zero => omega
  | succ f =>
    rw [lexF_tok (rest_ne ha) hg hz, List.drop_drop] at e
    refine ⟨(Below.next h.lo k).trans k3, by omega, _, ho acc o hl, by rw [List.length_append]; simp; omega, f, by omega, ?_⟩
    rw [e]
    simp
theorem TS.done {w wr : World} {s : ByteArray} {T : List (TK × Nat) × Option Nat} {v : Value} {a : Nat} (h : TS w wr s T v a) (ha : ¬ a < s.size) : ∃ acc, OwnT wr w.heap.size v acc ∧ acc.length ≤ s.size ∧ T = (acc, none) := by
  obtain ⟨acc, o, hl, f, hf, e⟩ := h.ac
  have : s.data.toList.drop a = [] := List.drop_of_length_le (by rw [len_of]; omega)
  rw [this, lexF_nil] at e
  exact ⟨acc, o, by have := h.hi; omega, by rw [e]; simp⟩
theorem ret3 {v : Value} {a b c d : Int} (h1 : a = c) (h2 : b = d) : Ending.returned (.tuple #[v, .int .i64 a, .int .i64 b]) = .returned (.tuple #[v, .int .i64 c, .int .i64 d]) := by rw [h1, h2]
set_option maxHeartbeats 1000000 in
theorem tokens_some (s : ByteArray) (hs : s.size ≤ 4096) (w : World) (hg : Glob w) : Calls Tryd.prog 9 #[.string s] w fun e w' => TokR w w' s.data.toList e := by
  have h1 : ¬ (4096 : Int) < (s.size : Int) := by omega
  obtain ⟨T, hT⟩ : ∃ T, T = lexF s.size s.data.toList 0 := ⟨_, rfl⟩
  have HT : Hid (tokV s.data.toList = match T.2 with | none => (T.1 ++ [(endT, s.size)], 0, 0) | some p => ([], (p : Int), 160)) := by
    show _ = _
    unfold tokV
    rw [if_neg (by rw [len_of]; omega), len_of, ← hT]
    rfl
  have H0 : Hid (TS w w s T (.slice none 0 0) 0) := ⟨Below.refl _ _, by omega, [], OwnT.nil _ _, by simp, s.size, by omega, by rw [hT]; simp⟩
  have HG : Hid (Glob w) := hg
  clear hT hg
  go_enter Tryd.func9, Tryd.ntmps9
  go_wp2_with fail
  go_loopw [5, 6] (fun v x wr => ∃ a : Nat, x = .int .i64 (a : Int) ∧ Hid (TS w wr s T v a)) (fun _ x _ => s.size - (intOf x).toNat)
  case atStart => exact ⟨0, rfl, H0⟩
  case round =>
    obtain ⟨a, rfl, HS⟩ := hrel
    by_cases ha : a < s.size
    · have hal : (a : Int) < (s.size : Int) := by omega
      have hSL : ∀ W, (Instr.sliceAt 9 (.string s) (some (.int .i64 (a : Int))) none none).run Tryd.prog W = .ok (.string (s.extract a s.size)) W := fun W => str_tail s a (by omega) W
      have hDs : (s.extract a s.size).size ≤ 100000 := by simp; omega
      have hD0 : 0 < (s.extract a s.size).size := by simp; omega
      have hg1 := fun w hg => gap_is (s.extract a s.size) hDs w hg
      have hf1 := fun w hg => first_is (s.extract a s.size) hDs hD0 w hg
      rw [tail_data] at hg1 hf1
      have hgl := gapN_le (s.data.toList.drop a)
      have hfl := first_le (s.data.toList.drop a) (rest_ne ha)
      rw [List.length_drop, len_of] at hgl hfl
      have HGap : Hid (∀ w, Glob w → Calls Tryd.prog 19 #[.string (s.extract a s.size)] w fun e w' => e = .returned (.int .i64 (gapN (s.data.toList.drop a) : Int)) ∧ Below w.heap.size w w') := hg1
      have HFst : Hid (∀ w, Glob w → Calls Tryd.prog 20 #[.string (s.extract a s.size)] w fun e w' => e = .returned (firstV (s.data.toList.drop a)).val ∧ Below w.heap.size w w') := hf1
      have HA : Hid (a < s.size) := ha
      clear hg1 hf1 hDs hD0
      have HGr : Hid (Glob wr) := HG.out.next HS.out.lo
      obtain ⟨D, hD⟩ : ∃ D, s.extract a s.size = D := ⟨_, rfl⟩
      rw [hD] at hSL HGap HFst
      clear hD
      by_cases hgp : 0 < gapN (s.data.toList.drop a)
      · have HN : Hid (∀ w2, Below wr.heap.size wr w2 → TS w w2 s T u5 (a + gapN (s.data.toList.drop a))) := fun w2 k => HS.out.gap HA.out hgp k
        obtain ⟨g, hgg⟩ : ∃ g, gapN (s.data.toList.drop a) = g := ⟨_, rfl⟩
        rw [hgg] at HGap HN hgp hgl
        clear hgg hfl HFst
        have hgi : (0 : Int) < (g : Int) := by omega
        have HW : Hid (wrap64 ((a : Int) + (g : Int)) = ((a + g : Nat) : Int)) := by show _ = _; unfold wrap64; omega
        go_wp2_with fail
        refine Calls.mono (HGap.out _ HGr.out) ?_; rintro e w1 ⟨rfl, k1⟩
        have HK : Hid (Below wr.heap.size wr w1) := k1
        clear k1
        go_wp2_with fail
        go_roundw
        case rel => exact ⟨a + g, by first | rw [HW.out] | go_num, HN.out _ HK.out⟩
        case measure =>
          have := HW.out
          simp [intOf]; omega
      · have hz0 : gapN (s.data.toList.drop a) = 0 := by omega
        have HN : Hid ((firstV (s.data.toList.drop a)).z ≠ 0 → ∀ w2 w3 v', Below wr.heap.size wr w2 → (∀ acc, OwnT wr w.heap.size u5 acc → acc.length ≤ a → OwnT w3 w.heap.size v' (acc ++ [(firstV (s.data.toList.drop a), a)])) → Below w.heap.size w2 w3 → TS w w3 s T v' (a + (firstV (s.data.toList.drop a)).z)) := fun hz w2 w3 v' k ho k3 => HS.out.tok HA.out hz0 hz k ho k3
        have HE : Hid ((firstV (s.data.toList.drop a)).z = 0 → T.2 = some a) := fun hz => HS.out.bad HA.out hz0 hz
        have HAcc : Hid (∃ acc, OwnT wr w.heap.size u5 acc ∧ acc.length ≤ a) := by
          obtain ⟨acc, o, hl, _⟩ := HS.out.ac
          exact ⟨acc, o, hl⟩
        have HLo : Hid (Below w.heap.size w wr) := HS.out.lo
        rw [hz0] at HGap
        obtain ⟨X, hX⟩ : ∃ X, firstV (s.data.toList.drop a) = X := ⟨_, rfl⟩
        rw [hX] at HFst HN HE hfl
        clear hX hgp hz0 hgl HS
        obtain ⟨xk, xt, xn, xz⟩ := X
        have HF2 : Hid (∀ w, Glob w → Calls Tryd.prog 20 #[.string D] w fun e w' => e = .returned (.tuple #[tv xk ⟨xt.toArray⟩ xn 0, .int .i64 (xz : Int)]) ∧ Below w.heap.size w w') := HFst.out
        clear HFst
        simp only at hfl
        by_cases hz : xz = 0
        · have HE2 : Hid (T.2 = some a) := HE.out hz
          subst hz
          clear HE HN HAcc
          go_wp2_with fail
          refine Calls.mono (HGap.out _ HGr.out) ?_; rintro e w1 ⟨rfl, k1⟩
          have HK : Hid (Below wr.heap.size wr w1) := k1
          have HG1 : Hid (Glob w1) := HGr.out.next k1
          clear k1
          go_wp2_with fail
          refine Calls.mono (HF2.out _ HG1.out) ?_; rintro e w2 ⟨rfl, k2⟩
          have HK2 : Hid (Below w.heap.size w w2) := Below.next (Below.next HLo.out HK.out) k2
          clear k2
          go_wp2_with fail
          go_ret3
          refine ⟨.slice none 0 0, ?_, ?_, (HK2.out.alloc HK2.out.size _)⟩
          · rw [HT.out, HE2.out]; rfl
          · rw [HT.out, HE2.out]; exact OwnT.nil _ _
        · have hzi : ((xz : Int) == 0) = false := by simpa using hz
          have hzi2 : ¬ (xz : Int) = 0 := by omega
          have HN2 := HN.out hz
          have HN3 : Hid _ := HN2
          clear HE HN HN2
          have HW : Hid (wrap64 ((a : Int) + (xz : Int)) = ((a + xz : Nat) : Int)) := by show _ = _; unfold wrap64; omega
          go_wp2_with fail
          refine Calls.mono (HGap.out _ HGr.out) ?_; rintro e w1 ⟨rfl, k1⟩
          have HK : Hid (Below wr.heap.size wr w1) := k1
          have HG1 : Hid (Glob w1) := HGr.out.next k1
          clear k1
          go_wp2_with fail
          refine Calls.mono (HF2.out _ HG1.out) ?_; rintro e w2 ⟨rfl, k2⟩
          have HK2 : Hid (Below wr.heap.size wr w2) := Below.next HK.out k2
          clear k2
          obtain ⟨acc, o, hl⟩ := HAcc.out
          have hb : Below w.heap.size w w2 := Below.next HLo.out HK2.out
          have kb : Below w2.heap.size w2 (w2.alloc (.cells #[.int .i64 xk, .string ⟨xt.toArray⟩, .int .i64 xn, .int .i64 (a : Int)] 29)) := below1 _ _
          have hsz2 : (w2.alloc (.cells #[.int .i64 xk, .string ⟨xt.toArray⟩, .int .i64 xn, .int .i64 (a : Int)] 29)).heap.size = w2.heap.size + 1 := by simp
          obtain ⟨v6, w6, ra, o6, b6⟩ := append_tok ((o.next HK2.out).next kb) (⟨xk, xt, xn, xz⟩, a) (by omega) (Nat.le_trans hb.size (by rw [hsz2]; omega))
          rw [hsz2] at ra
          have RA : Hid ((Builtin.append_ #[23, 23] 23 #[u5, .slice (some ⟨w2.heap.size + 1, 0, none⟩) 1 1]).run Tryd.prog ((w2.alloc (.cells #[.int .i64 xk, .string ⟨xt.toArray⟩, .int .i64 xn, .int .i64 (a : Int)] 29)).alloc (.cells #[.int .i64 xk, .string ⟨xt.toArray⟩, .int .i64 xn, .int .i64 (a : Int)] 29)) = .ok v6 w6) := ra
          have HT6 : Hid (TS w w6 s T v6 (a + xz)) := HN3.out w2 w6 v6 HK2.out (fun acc' o' hl' => by
            obtain ⟨v7, w7, ra7, o7, b7⟩ := append_tok ((o'.next HK2.out).next kb) (⟨xk, xt, xn, xz⟩, a) (by omega) (Nat.le_trans hb.size (by rw [hsz2]; omega))
            rw [hsz2] at ra7
            have := ra7.symm.trans ra
            cases this
            exact o7) ((kb.mono hb.size).trans b6)
          clear o hl hb kb hsz2 ra o6 b6 HN3 HAcc
          go_wp2_with (first | ((with_reducible apply st_append (x := .tmp 38)); (case ho => rfl); (case hgd => rfl); (case hr => exact RA.out)))
          go_roundw
          case rel => exact ⟨a + xz, by first | rw [HW.out] | go_num, HT6.out⟩
          case measure =>
            have := HW.out
            simp [intOf]; omega
    · have HD2 : Hid (∃ acc, OwnT wr w.heap.size u5 acc ∧ acc.length ≤ s.size ∧ T = (acc, none)) := HS.out.done ha
      have HLo : Hid (Below w.heap.size w wr) := HS.out.lo
      obtain ⟨acc, o, hl, e⟩ := HD2.out
      obtain ⟨v6, w6, ra, o6, b6⟩ := append_tok o (endT, s.size) (by omega) HLo.out.size
      have RA : Hid ((Builtin.append_ #[23, 23] 23 #[u5, .slice (some ⟨wr.heap.size, 0, none⟩) 1 1]).run Tryd.prog (wr.alloc (.cells #[.int .i64 0, .string ⟨#[]⟩, .int .i64 0, .int .i64 (s.size : Int)] 29)) = .ok v6 w6) := ra
      have HO : Hid (TokR w w6 s.data.toList (.returned (.tuple #[v6, .int .i64 0, .int .i64 0]))) := by
        refine ⟨v6, ?_, ?_, HLo.out.trans b6⟩
        · rw [HT.out, e]
        · rw [HT.out, e]; exact o6
      have hge : ¬ (a : Int) < (s.size : Int) := by omega
      clear HD2 o hl e ra o6 b6 HS HT
      go_wp2_with (first | ((with_reducible apply st_append (x := .tmp 45)); (case ho => rfl); (case hgd => rfl); (case hr => exact RA.out)))
      go_ret3
      exact HO.out
end Go.Proofs.YtgokilochbnbaaaDoor
