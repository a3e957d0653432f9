/- ledger.do. -/
import Derived.Test.YtflbcheofmljeaaChOf
namespace Go.Proofs.Ytflbcheofmljeaa
open Go.ChangeShapes Go.WideShapes Go.RowKit
set_option linter.unusedVariables false
set_option maxRecDepth 100000

/-- Why an operation is not done. -/
def doE (L : Led) (o : Opn) : Int := if o.may then (if errOf L o = 0 then (if 4611686018427387904 ≤ L.ops then 2 else 0) else errOf L o) else 1
/-- The ledger behind one that is done. -/
def doL (L : Led) (o : Opn) : Led := { chL L o with ops := L.ops + 1 }
theorem mayL_ops {L : Led} (h : mayL L) {n : Int} (hn : 0 ≤ n) : mayL { L with ops := n } := ⟨hn, h.room, h.S, h.H, h.M, h.ag⟩
theorem fit_ops {L : Led} (h : L.fit) {n : Int} (hn : i64b n) : Led.fit { L with ops := n } := ⟨h.S, h.H, h.M, hn⟩
theorem expL_ops (L : Led) (d : Int) (i : Nat) : (expL L d i).ops = L.ops := by
  induction i with
  | zero => rfl
  | succ i ih =>
    unfold expL
    split
    · split
      · exact ih
      · exact ih
    · exact ih
theorem chL_ops (L : Led) (o : Opn) : (chL L o).ops = L.ops := by
  unfold chL
  split; · rfl
  split; · rfl
  split
  · split <;> rfl
  split
  · split <;> rfl
  split; · exact expL_ops _ _ _
  split <;> rfl
/-- What do answers, and leaves behind. -/
def DoP (w w' : World) (E : Nat → Prop) (b : Nat) (v0 v1 v2 : Value) (L : Led) (o : Opn) : Prop :=
  Stay E w w' ∧ (¬ doE L o = 0 ∧ LedO w' E b v0 v1 v2 L ∨ doE L o = 0 ∧ ∃ v0' v1' v2', LedO w' E b v0' v1' v2' (doL L o))
theorem stay_below {E : Nat → Prop} {w w' : World} (k : Below w.heap.size w w') (hE : ∀ i, E i → i < w.heap.size) : Stay E w w' := (Stay.refl E w).below k hE
set_option maxHeartbeats 2000000 in
theorem do_is {w : World} {E : Nat → Prop} {b : Nat} {v0 v1 v2 : Value} {L : Led} (h : LedO w E b v0 v1 v2 L) (hm : mayL L) (hf : L.fit) (o : Opn) (ho : o.fit) :
    Calls Try.prog 26 #[.pointer (some ⟨b, 0, none⟩), oval o] w fun e w' => e = .returned (.int .i64 (doE L o)) ∧ DoP w w' E b v0 v1 v2 L o := by
  obtain ⟨ok, os, ol, ot, oq, oi, od⟩ := o
  show Calls Try.prog 26 #[.pointer (some ⟨b, 0, none⟩), .agg #[.int .i64 ok, .string os, .string ol, .string ot, .int .i64 oq, .int .i64 oi, .int .i64 od]] w _
  have HB0 : Hid (∀ w', Below w.heap.size w w' → ¬ doE L ⟨ok, os, ol, ot, oq, oi, od⟩ = 0 → DoP w w' E b v0 v1 v2 L ⟨ok, os, ol, ot, oq, oi, od⟩) := fun w' k e => ⟨stay_below k h.lt, .inl ⟨e, h.next k⟩⟩
  have HCK : Hid (∀ w, Calls Try.prog 48 #[.agg #[.int .i64 ok, .string os, .string ol, .string ot, .int .i64 oq, .int .i64 oi, .int .i64 od]] w fun e w' => e = .returned (.int .i64 (if mayO ok os ol ot oq oi od then 0 else 1)) ∧ Below w.heap.size w w') := fun w => checkO_is ok os ol ot oq oi od w
  have HCE : Hid (∀ x, CellsF (w.alloc (.cells #[.int .i64 ok, .string os, .string ol, .string ot, .int .i64 oq, .int .i64 oi, .int .i64 od] x)) w.heap.size [.int .i64 ok, .string os, .string ol, .string ot, .int .i64 oq, .int .i64 oi, .int .i64 od]) := fun x => CellsF.at _ x (by simp) rfl
  obtain ⟨err, herr⟩ : ∃ err, errOf L ⟨ok, os, ol, ot, oq, oi, od⟩ = err := ⟨_, rfl⟩
  obtain ⟨fn, hfn⟩ : ∃ fn, fnOf ok = fn := ⟨_, rfl⟩
  have HL : Hid (LedO w E b v0 v1 v2 L ∧ mayL L ∧ L.fit ∧ Opn.fit ⟨ok, os, ol, ot, oq, oi, od⟩ ∧ errOf L ⟨ok, os, ol, ot, oq, oi, od⟩ = err ∧ fnOf ok = fn) := ⟨h, hm, hf, ho, herr, hfn⟩
  by_cases hmay : mayO ok os ol ot oq oi od
  · rw [if_pos hmay] at HCK
    have HD1 : Hid (doE L ⟨ok, os, ol, ot, oq, oi, od⟩ = if err = 0 then (if 4611686018427387904 ≤ L.ops then 2 else 0) else err) := by
      show doE L ⟨ok, os, ol, ot, oq, oi, od⟩ = _
      unfold doE; rw [if_pos hmay, herr]
    have HCH : Hid (∀ w1, Below w.heap.size w w1 → Calls Try.prog 49 #[.pointer (some ⟨b, 0, none⟩), .agg #[.int .i64 ok, .string os, .string ol, .string ot, .int .i64 oq, .int .i64 oi, .int .i64 od]] w1 fun e w' => KindP w1 w' b ⟨ok, os, ol, ot, oq, oi, od⟩ fn err e) := fun w1 k => by
      have := changeOf_is (h.next k) hm hf ⟨ok, os, ol, ot, oq, oi, od⟩ ho hmay
      rw [herr, show fnOf (Opn.k ⟨ok, os, ol, ot, oq, oi, od⟩) = fn from hfn] at this
      exact this
    have HOP : Hid (∀ w1, Below w.heap.size w w1 → w1.cell? ⟨b, 3, none⟩ = some (.int .i64 L.ops)) := fun w1 k => (h.next k).c.cs 3 _ rfl
    have hops : 0 ≤ L.ops ∧ L.ops ≤ 9223372036854775807 := ⟨hm.ops, hf.ops.2⟩
    have HMO : Hid (Opn.may ⟨ok, os, ol, ot, oq, oi, od⟩) := hmay
    clear h hm hf ho herr hfn hmay
    go_enter Try.func26, Try.ntmps26
    go_wp2_with fail
    refine Calls.mono (HCK.out _) ?_; rintro e w1 ⟨rfl, k1⟩
    have q1 := (HCE.out _).next k1
    have hb1 : Below w.heap.size w w1 := Below.next (below1 _ _) k1
    have HB1 : Hid (Below w.heap.size w w1) := hb1
    have o0 := q1.cs 0 _ rfl
    have o1 := q1.cs 1 _ rfl
    have o2 := q1.cs 2 _ rfl
    have o3 := q1.cs 3 _ rfl
    have o4 := q1.cs 4 _ rfl
    have o5 := q1.cs 5 _ rfl
    have o6 := q1.cs 6 _ rfl
    clear q1 hb1 k1
    go_wp2_with fail
    refine Calls.mono (HCH.out _ HB1.out) ?_
    rintro e w2 ⟨k2, ⟨hne, rfl⟩ | ⟨h0, pb, ob, rfl, hp1, hp2, hcap⟩⟩
    · have HB2 : Hid (Below w.heap.size w w2) := Below.next HB1.out k2
      rw [if_neg hne] at HD1
      clear k2
      go_wp2_with fail
      go_ret
      exact ⟨by rw [HD1.out]; rfl, HB0.out _ HB2.out (by rw [HD1.out]; exact hne)⟩
    · have HB2 : Hid (Below w.heap.size w w2) := Below.next HB1.out k2
      have hop := HOP.out w2 HB2.out
      rw [if_pos h0] at HD1
      have hs1 : w.heap.size ≤ w1.heap.size := HB1.out.size
      have HRUN : Hid ((Calls Try.prog fn #[.pointer (some ⟨pb, 0, none⟩), .pointer (some ⟨ob, 0, none⟩)] w2 fun e w' => e = .returned (.tuple #[]) ∧ ∃ v0' v1' v2', LedO w' (fun k => E k ∨ (w.heap.size ≤ k ∧ k < w2.heap.size)) b v0' v1' v2' (chL L ⟨ok, os, ol, ot, oq, oi, od⟩) ∧ Stay (fun k => E k ∨ (w.heap.size ≤ k ∧ k < w2.heap.size)) w2 w') ∧ mayL (chL L ⟨ok, os, ol, ot, oq, oi, od⟩) ∧ (chL L ⟨ok, os, ol, ot, oq, oi, od⟩).fit) := by
        obtain ⟨q1, q2, q3, q4, q5, q6⟩ := HL.out
        have hL2 := q1.beside HB2.out (fun k => w.heap.size ≤ k ∧ k < w2.heap.size) (fun k q => q)
        have := run_is hL2 q2 q3 ⟨ok, os, ol, ot, oq, oi, od⟩ q4 HMO.out (q5.trans h0) pb ob hcap (.inr ⟨by omega, hp1.2⟩) (.inr ⟨by omega, hp2.2⟩)
        rw [show fnOf (Opn.k ⟨ok, os, ol, ot, oq, oi, od⟩) = fn from q6] at this
        exact this
      clear k2 hp1 hp2 hcap h0
      by_cases hfull : 4611686018427387904 ≤ L.ops
      · rw [if_pos hfull] at HD1
        go_wp2_with fail
        go_ret
        exact ⟨by rw [HD1.out]; rfl, HB0.out _ HB2.out (by rw [HD1.out]; omega)⟩
      · rw [if_neg hfull] at HD1
        have hfns : fn = 87 ∨ fn = 89 ∨ fn = 92 ∨ fn = 94 ∨ fn = 95 ∨ fn = 96 ∨ fn = 97 := by
          rw [← HL.out.2.2.2.2.2]
          rcases kinds HMO.out with k | k | k | k | k | k | k <;> (change ok = _ at k; subst k; decide)
        rcases hfns with rfl | rfl | rfl | rfl | rfl | rfl | rfl
        all_goals
          go_wp2_with fail
          refine Calls.mono HRUN.out.1 ?_; rintro e w3 ⟨rfl, v0', v1', v2', q1, q2⟩
          have HQ : Hid (LedO w3 (fun k => E k ∨ (w.heap.size ≤ k ∧ k < w2.heap.size)) b v0' v1' v2' (chL L ⟨ok, os, ol, ot, oq, oi, od⟩) ∧ Stay (fun k => E k ∨ (w.heap.size ≤ k ∧ k < w2.heap.size)) w2 w3) := ⟨q1, q2⟩
          have hop3 : w3.cell? ⟨b, 3, none⟩ = some (.int .i64 L.ops) := by rw [q1.c.cs 3 _ rfl, chL_ops]
          have hfz : w3.frozen? ⟨b, 3, none⟩ = false := q1.c.fz 3
          have hwr : IntKind.i64.wrap (L.ops + 1) = L.ops + 1 := by rw [IntKind.wrap_i64]; omega
          have HLAST : Hid (DoP w (w3.setCell ⟨b, 3, none⟩ (.int .i64 (L.ops + 1))) E b v0 v1 v2 L ⟨ok, os, ol, ot, oq, oi, od⟩) := by
            obtain ⟨r1, r2⟩ := q1.setOps (L.ops + 1)
            have hE : ∀ i, E i → i < w.heap.size := HL.out.1.lt
            have s1 : Stay E w w2 := stay_below HB2.out hE
            have s2 := q2.trans r2
            have s3 : Stay E w2 (w3.setCell ⟨b, 3, none⟩ (.int .i64 (L.ops + 1))) := ⟨s2.os, s2.tape, s2.output, s2.size, fun k hk => s2.block k (.inl hk)⟩
            exact ⟨s1.trans s3, .inr ⟨HD1.out, v0', v1', v2', r1.less (fun k hk => .inl hk)⟩⟩
          clear q1 q2
          go_wp2_with fail
          go_ret
          exact ⟨by rw [HD1.out]; rfl, HLAST.out⟩
  · rw [if_neg hmay] at HCK
    have HD1 : Hid (doE L ⟨ok, os, ol, ot, oq, oi, od⟩ = 1) := by
      show doE L ⟨ok, os, ol, ot, oq, oi, od⟩ = _
      unfold doE; rw [if_neg hmay]
    clear h hm hf ho herr hfn hmay
    go_enter Try.func26, Try.ntmps26
    go_wp2_with fail
    refine Calls.mono (HCK.out _) ?_; rintro e w1 ⟨rfl, k1⟩
    have HB1 : Hid (Below w.heap.size w w1) := Below.next (below1 _ _) k1
    clear k1
    go_wp2_with fail
    go_ret
    exact ⟨by rw [HD1.out]; rfl, HB0.out _ HB1.out (by rw [HD1.out]; omega)⟩
end Go.Proofs.Ytflbcheofmljeaa
