/- Between quotes, by the document. -/
import Derived.Test.YtgokilochbnbaaaDoorRs
namespace Go.Proofs.YtgokilochbnbaaaDoor
open Go.ChangeShapes Go.WideShapes Go.ChangeAt Go.RowKit
set_option linter.unusedVariables false
set_option maxRecDepth 100000

/-- What the document's quoted tells. -/
def quoF (Q : Option (List UInt8 × Nat)) (a : Nat) : List UInt8 × Int := match Q with | some (t, m) => (t, ((a + 1 + m : Nat) : Int)) | none => ([], -1)
def quoV (q : UInt8) (r : List UInt8) (a : Nat) : List UInt8 × Int := quoF (quo q r) a
theorem quo_cons_ne {q c : UInt8} (r : List UInt8) (h : c ≠ q) : quo q (c :: r) = (quo q r).map (fun x => (c :: x.1, x.2 + 1)) := by
  cases r with
  | nil => simp [quo, h]
  | cons d r => rw [quo, if_neg h]
set_option maxHeartbeats 2000000 in
theorem quoted_ref (s : ByteArray) (hs : s.size ≤ 100000) (a : Nat) (ha : a < s.size) (q : UInt8) (hq : s[a] = q) (w : World) :
    Calls Tryd.prog 48 #[.string s, .int .i64 (a : Int)] w fun e w' => e = .returned (.tuple #[.string ⟨(quoV q (s.data.toList.drop (a + 1)) a).1.toArray⟩, .int .i64 (quoV q (s.data.toList.drop (a + 1)) a).2]) ∧ Below w.heap.size w w' := by
  obtain ⟨Q, hQ⟩ : ∃ Q, quo q (s.data.toList.drop (a + 1)) = Q := ⟨_, rfl⟩
  obtain ⟨V, hV⟩ : ∃ V, quoV q (s.data.toList.drop (a + 1)) a = V := ⟨_, rfl⟩
  rw [hV]
  have HV : Hid (V = quoF Q a) := by rw [← hV, ← hQ]; rfl
  have H0 : Hid (Q = (quo q (s.data.toList.drop (a + 1))).map (fun x => (([] : List UInt8) ++ x.1, (a + 1 - (a + 1)) + x.2))) := by
    show _ = _
    rw [hQ]; cases Q <;> simp
  have hqn : (s[a].toNat : Int) = (q.toNat : Int) := by rw [hq]
  have hai : (a : Int) < (s.size : Int) := by omega
  have HW1 : Hid (wrap64 ((a : Int) + 1) = ((a + 1 : Nat) : Int)) := by show _ = _; unfold wrap64; omega
  clear hQ hV hq
  go_enter Tryd.func48, Tryd.ntmps48
  go_wp2_with fail
  go_loopw [7, 8] (fun v i wr => ∃ j acc, a + 1 ≤ j ∧ j ≤ s.size ∧ i = .int .i64 ((j : Nat) : Int) ∧ Hid (OwnB wr w.heap.size v acc ∧ Below w.heap.size w wr ∧ acc.length ≤ j ∧ Q = (quo q (s.data.toList.drop j)).map (fun x => (acc ++ x.1, (j - (a + 1)) + x.2)))) (fun _ i _ => s.size - (intOf i).toNat)
  case atStart => exact ⟨a + 1, [], Nat.le_refl _, by omega, by first | rw [HW1.out] | go_num, OwnB.nil _ _, Below.refl _ _, by simp, H0.out⟩
  case round =>
    obtain ⟨j, acc, hj1, hj, rfl, HI⟩ := hrel
    by_cases hlt : j < s.size
    · have hlti : (j : Int) < (s.size : Int) := by omega
      have hd := drop_at s j hlt
      have hln : acc.length ≤ 1000000 := by have := HI.out.2.2.1; omega
      by_cases hc : s[j] = q
      · have q1 : ((s[j].toNat : Int) == (q.toNat : Int)) = true := by rw [hc]; simp
        by_cases hl2 : j + 1 < s.size
        · have hl2i : (j : Int) + 1 < (s.size : Int) := by omega
          have hd2 := drop_at s (j + 1) hl2
          by_cases hc2 : s[j + 1] = q
          · have q2 : ((s[j + 1].toNat : Int) == (q.toNat : Int)) = true := by rw [hc2]; simp
            obtain ⟨v2, w2, ra, o2, b2, _, _⟩ := append_byte HI.out.1 s[j + 1] hln HI.out.2.1.size
            have RA : Hid ((Builtin.append_ #[35, 35] 35 #[u7, .slice (some ⟨wr.heap.size, 0, none⟩) 1 1]).run Tryd.prog (wr.alloc (.cells #[.int .u8 (q.toNat : Int)] 5)) = .ok v2 w2) := hc2 ▸ ra
            have HE : Hid (OwnB w2 w.heap.size v2 (acc ++ [s[j + 1]]) ∧ Below w.heap.size w w2 ∧ (acc ++ [s[j + 1]]).length ≤ j + 2 ∧ Q = (quo q (s.data.toList.drop (j + 2))).map (fun x => ((acc ++ [s[j + 1]]) ++ x.1, (j + 2 - (a + 1)) + x.2))) := by
              refine ⟨o2, HI.out.2.1.trans b2, by rw [List.length_append]; have := HI.out.2.2.1; simp; omega, ?_⟩
              rw [HI.out.2.2.2, hd, hd2, hc, hc2, quo, if_pos rfl, if_pos rfl, Option.map_map]
              congr 1
              funext x
              simp
              omega
            have HW : Hid (wrap64 ((j : Int) + 1) = ((j + 1 : Nat) : Int) ∧ wrap64 (((j + 1 : Nat) : Int) + 1) = ((j + 2 : Nat) : Int)) := by show _ ∧ _; unfold wrap64; omega
            clear ra o2 b2 hd hd2 HI
            go_wp2_with (first | ((with_reducible apply st_append (x := .tmp 44)); (case ho => rfl); (case hgd => rfl); (case hr => exact RA.out)))
            go_roundw
            case rel => exact ⟨j + 2, _, by omega, by omega, by go_num, HE⟩
            case measure => simp [intOf]; omega
          · have q2 : ((s[j + 1].toNat : Int) == (q.toNat : Int)) = false := by
              rw [beq_eq, decide_eq_false_iff_not]
              intro e
              exact hc2 (UInt8.toNat_inj.1 (Int.ofNat_inj.1 e))
            have HQ : Hid (V = (acc, ((j + 1 : Nat) : Int))) := by
              show _ = _
              rw [HV.out, HI.out.2.2.2, hd, hd2, hc, quo, if_pos rfl, if_neg hc2]
              simp [quoF]
              omega
            have cv := HI.out.1.str
            have HB : Hid (Below w.heap.size w wr) := HI.out.2.1
            clear hd hd2 HI
            go_wp2_with fail
            go_ret2
            exact ⟨by rw [HQ.out]; first | rfl | (simp; go_num), HB.out⟩
        · have hl2i : ¬ (j : Int) + 1 < (s.size : Int) := by omega
          have HQ : Hid (V = (acc, ((j + 1 : Nat) : Int))) := by
            show _ = _
            rw [HV.out, HI.out.2.2.2, hd, List.drop_of_length_le (i := j + 1) (by rw [len_of]; omega), hc, quo, if_pos rfl]
            simp [quoF]
            omega
          have cv := HI.out.1.str
          have HB : Hid (Below w.heap.size w wr) := HI.out.2.1
          clear hd HI
          go_wp2_with fail
          go_ret2
          exact ⟨by rw [HQ.out]; first | rfl | (simp; go_num), HB.out⟩
      · have q1 : ((s[j].toNat : Int) == (q.toNat : Int)) = false := by
          rw [beq_eq, decide_eq_false_iff_not]
          intro e
          exact hc (UInt8.toNat_inj.1 (Int.ofNat_inj.1 e))
        obtain ⟨v2, w2, ra, o2, b2, _, _⟩ := append_byte HI.out.1 s[j] hln HI.out.2.1.size
        have RA : Hid ((Builtin.append_ #[35, 35] 35 #[u7, .slice (some ⟨wr.heap.size, 0, none⟩) 1 1]).run Tryd.prog (wr.alloc (.cells #[.int .u8 (s[j].toNat : Int)] 5)) = .ok v2 w2) := ra
        have HE : Hid (OwnB w2 w.heap.size v2 (acc ++ [s[j]]) ∧ Below w.heap.size w w2 ∧ (acc ++ [s[j]]).length ≤ j + 1 ∧ Q = (quo q (s.data.toList.drop (j + 1))).map (fun x => ((acc ++ [s[j]]) ++ x.1, (j + 1 - (a + 1)) + x.2))) := by
          refine ⟨o2, HI.out.2.1.trans b2, by rw [List.length_append]; have := HI.out.2.2.1; simp; omega, ?_⟩
          rw [HI.out.2.2.2, hd, quo_cons_ne _ hc, Option.map_map]
          congr 1
          funext x
          simp
          omega
        clear ra o2 b2 hd HI
        go_wp2_with (first | ((with_reducible apply st_append (x := .tmp 44)); (case ho => rfl); (case hgd => rfl); (case hr => exact RA.out)))
        go_roundw
        case rel => exact ⟨j + 1, _, by omega, by omega, by go_num, HE⟩
        case measure => simp [intOf]; omega
    · have hlti : ¬ (j : Int) < (s.size : Int) := by omega
      have HQ : Hid (V = ([], -1)) := by
        show _ = _
        rw [HV.out, HI.out.2.2.2, List.drop_of_length_le (i := j) (by rw [len_of]; omega)]
        rfl
      have HB : Hid (Below w.heap.size w wr) := HI.out.2.1
      clear HI
      go_wp2_with fail
      go_ret2
      exact ⟨by rw [HQ.out]; rfl, HB.out⟩
end Go.Proofs.YtgokilochbnbaaaDoor
