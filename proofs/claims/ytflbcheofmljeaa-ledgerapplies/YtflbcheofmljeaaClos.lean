/- What operations do: the closures. -/
import Derived.Test.YtflbcheofmljeaaEnd
import Derived.Test.YtflbcheofmljeaaCap
namespace Go.Proofs.Ytflbcheofmljeaa
open Go.ChangeShapes Go.WideShapes Go.RowKit
set_option linter.unusedVariables false
set_option maxRecDepth 100000

theorem receiveC_is {w : World} {E : Nat → Prop} {b : Nat} {v0 v1 v2 : Value} {L : Led} (h : LedO w E b v0 v1 v2 L) (hs : Rises L.S) (hm : L.S.length ≤ 10000) (hm2 : L.M.length ≤ 10000) (pb ob : Nat) (o : Opn) (hc : Cap w pb ob b o) (hin : i64b ((findK L.S o.sku o.loc).on + o.qty)) :
    Calls Try.prog 87 #[.pointer (some ⟨pb, 0, none⟩), .pointer (some ⟨ob, 0, none⟩)] w fun e w' => e = .returned (.tuple #[]) ∧ ∃ v0' v2', LedO w' E b v0' v1 v2' (mvL L o.k o.sku o.loc o.qty 0) ∧ Stay E w w' := by
  have HM : Hid _ := move_is h hs hm hm2 o.k o.sku o.loc o.qty 0 hin
  obtain ⟨hp, o0, o1, o2, o3, o4, o5, o6⟩ := hc
  clear h hs hm hm2 hin
  generalize mvL L o.k o.sku o.loc o.qty 0 = L9 at *
  go_enter Try.func87, Try.ntmps87
  go_wp2_with fail
  refine Calls.mono HM.out ?_; rintro e w1 ⟨rfl, q⟩
  have HQ : Hid _ := q
  clear q
  go_wp2_with fail
  go_end0
  first | exact ⟨rfl, HQ.out⟩ | (obtain ⟨x, y, q1, q2⟩ := HQ.out; exact ⟨rfl, ⟨x, y, q1⟩, q2⟩)
theorem adjustC_is {w : World} {E : Nat → Prop} {b : Nat} {v0 v1 v2 : Value} {L : Led} (h : LedO w E b v0 v1 v2 L) (hs : Rises L.S) (hm : L.S.length ≤ 10000) (hm2 : L.M.length ≤ 10000) (pb ob : Nat) (o : Opn) (hc : Cap w pb ob b o) (hin : i64b ((findK L.S o.sku o.loc).on + o.qty)) :
    Calls Try.prog 97 #[.pointer (some ⟨pb, 0, none⟩), .pointer (some ⟨ob, 0, none⟩)] w fun e w' => e = .returned (.tuple #[]) ∧ ∃ v0' v2', LedO w' E b v0' v1 v2' (mvL L o.k o.sku o.loc o.qty 0) ∧ Stay E w w' := by
  have HM : Hid _ := move_is h hs hm hm2 o.k o.sku o.loc o.qty 0 hin
  obtain ⟨hp, o0, o1, o2, o3, o4, o5, o6⟩ := hc
  clear h hs hm hm2 hin
  generalize mvL L o.k o.sku o.loc o.qty 0 = L9 at *
  go_enter Try.func97, Try.ntmps97
  go_wp2_with fail
  refine Calls.mono HM.out ?_; rintro e w1 ⟨rfl, q⟩
  have HQ : Hid _ := q
  clear q
  go_wp2_with fail
  go_end0
  first | exact ⟨rfl, HQ.out⟩ | (obtain ⟨x, y, q1, q2⟩ := HQ.out; exact ⟨rfl, ⟨x, y, q1⟩, q2⟩)
theorem releaseC_is {w : World} {E : Nat → Prop} {b : Nat} {v0 v1 v2 : Value} {L : Led} (h : LedO w E b v0 v1 v2 L) (hs : Rises L.S) (hm : L.S.length ≤ 10000) (hm1 : L.H.length ≤ 10000) (pb ob : Nat) (o : Opn) (hc : Cap w pb ob b o) (i : Nat) (x : Hld) (hx : L.H[i]? = some x) (hid : o.id = (i : Int) + 1) (hin : i64b ((findK L.S x.sku x.loc).held - x.qty)) :
    Calls Try.prog 94 #[.pointer (some ⟨pb, 0, none⟩), .pointer (some ⟨ob, 0, none⟩)] w fun e w' => e = .returned (.tuple #[]) ∧ ∃ v0', LedO w' E b v0' v1 v2 (endL L i x 2) ∧ Stay E w w' := by
  have HM : Hid _ := end_is h hs hm hm1 i x hx 2 hin
  obtain ⟨hp, o0, o1, o2, o3, o4, o5, o6⟩ := hc
  rw [hid] at o5
  clear h hs hm hm1 hin hx hid
  generalize endL L i x 2 = L9 at *
  go_enter Try.func94, Try.ntmps94
  go_wp2_with fail
  refine Calls.mono HM.out ?_; rintro e w1 ⟨rfl, q⟩
  have HQ : Hid _ := q
  clear q
  go_wp2_with fail
  go_end0
  first | exact ⟨rfl, HQ.out⟩ | (obtain ⟨x, q1, q2⟩ := HQ.out; exact ⟨rfl, ⟨x, q1⟩, q2⟩)
set_option maxHeartbeats 1000000 in
theorem transferC_is {w : World} {E : Nat → Prop} {b : Nat} {v0 v1 v2 : Value} {L : Led} (h : LedO w E b v0 v1 v2 L) (hs : Rises L.S) (hm : L.S.length ≤ 10000) (hm2 : L.M.length ≤ 9999) (pb ob : Nat) (o : Opn) (hc : Cap w pb ob b o) (hpE : E pb) (hoE : E ob) (hq : -9223372036854775807 ≤ o.qty ∧ o.qty ≤ 9223372036854775807) (hin : i64b ((findK L.S o.sku o.loc).on + -o.qty)) (hs2 : Rises (mvL L o.k o.sku o.loc (-o.qty) 0).S) (hmm : (mvL L o.k o.sku o.loc (-o.qty) 0).S.length ≤ 10000) (hin2 : i64b ((findK (mvL L o.k o.sku o.loc (-o.qty) 0).S o.sku o.to).on + o.qty)) :
    Calls Try.prog 96 #[.pointer (some ⟨pb, 0, none⟩), .pointer (some ⟨ob, 0, none⟩)] w fun e w' => e = .returned (.tuple #[]) ∧ ∃ v0' v2', LedO w' E b v0' v1 v2' (mvL (mvL L o.k o.sku o.loc (-o.qty) 0) o.k o.sku o.to o.qty 0) ∧ Stay E w w' := by
  have HM : Hid _ := move_is h hs hm (by omega) o.k o.sku o.loc (-o.qty) 0 hin
  have HC : Hid (Cap w pb ob b o ∧ E pb ∧ E ob) := ⟨hc, hpE, hoE⟩
  have hlen : (mvL L o.k o.sku o.loc (-o.qty) 0).M.length ≤ 10000 := by unfold mvL; simp; omega
  have HN : Hid (∀ w1 v0' v2', LedO w1 E b v0' v1 v2' (mvL L o.k o.sku o.loc (-o.qty) 0) → _) := fun w1 v0' v2' q => move_is q hs2 hmm hlen o.k o.sku o.to o.qty 0 hin2
  have hneg : IntKind.i64.wrap (-o.qty) = -o.qty := by rw [IntKind.wrap_i64]; omega
  obtain ⟨hp, o0, o1, o2, o3, o4, o5, o6⟩ := hc
  clear h hs hm hm2 hin hs2 hmm hin2 hlen
  generalize mvL (mvL L o.k o.sku o.loc (-o.qty) 0) o.k o.sku o.to o.qty 0 = L9 at *
  generalize mvL L o.k o.sku o.loc (-o.qty) 0 = L8 at *
  go_enter Try.func96, Try.ntmps96
  go_wp2_with fail
  refine Calls.mono HM.out ?_; rintro e w1 ⟨rfl, v0', v2', q1, q2⟩
  have HN1 : Hid _ := HN.out w1 v0' v2' q1
  have HQ2 : Hid _ := q2
  obtain ⟨hp', p0, p1, p2, p3, p4, p5, p6⟩ := HC.out.1.stay q2 HC.out.2.1 HC.out.2.2
  clear q1 q2
  go_wp2_with fail
  refine Calls.mono HN1.out ?_; rintro e w2 ⟨rfl, v0'', v2'', q3, q4⟩
  have HQ : Hid _ := And.intro q3 (HQ2.out.trans q4)
  clear q3 q4
  go_wp2_with fail
  go_end0
  first | exact ⟨rfl, _, _, HQ.out⟩ | exact ⟨rfl, ⟨_, _, HQ.out.1⟩, HQ.out.2⟩
set_option maxHeartbeats 1000000 in
theorem commitC_is {w : World} {E : Nat → Prop} {b : Nat} {v0 v1 v2 : Value} {L : Led} (h : LedO w E b v0 v1 v2 L) (hs : Rises L.S) (hm : L.S.length ≤ 10000) (hm1 : L.H.length ≤ 10000) (hm2 : L.M.length ≤ 10000) (pb ob : Nat) (o : Opn) (hc : Cap w pb ob b o) (hpE : E pb) (hoE : E ob) (i : Nat) (x : Hld) (hx : L.H[i]? = some x) (hid : o.id = (i : Int) + 1) (hq : -9223372036854775807 ≤ x.qty ∧ x.qty ≤ 9223372036854775807) (hin : i64b ((findK L.S x.sku x.loc).held - x.qty)) (hs2 : Rises (endL L i x 1).S) (hmm : (endL L i x 1).S.length ≤ 10000) (hin2 : i64b ((findK (endL L i x 1).S x.sku x.loc).on + -x.qty)) :
    Calls Try.prog 92 #[.pointer (some ⟨pb, 0, none⟩), .pointer (some ⟨ob, 0, none⟩)] w fun e w' => e = .returned (.tuple #[]) ∧ ∃ v0' v2', LedO w' E b v0' v1 v2' (mvL (endL L i x 1) o.k x.sku x.loc (-x.qty) x.id) ∧ Stay E w w' := by
  have HM : Hid _ := end_is h hs hm hm1 i x hx 1 hin
  have HC : Hid (Cap w pb ob b o ∧ E pb ∧ E ob) := ⟨hc, hpE, hoE⟩
  have hlen : (endL L i x 1).M.length ≤ 10000 := hm2
  have HN : Hid (∀ w1 v0', LedO w1 E b v0' v1 v2 (endL L i x 1) → _) := fun w1 v0' q => move_is q hs2 hmm hlen o.k x.sku x.loc (-x.qty) x.id hin2
  have hneg : IntKind.i64.wrap (-x.qty) = -x.qty := by rw [IntKind.wrap_i64]; omega
  have HE : Hid (∀ k, E k → k < w.heap.size) := h.lt
  obtain ⟨hp, o0, o1, o2, o3, o4, o5, o6⟩ := hc
  rw [hid] at o5
  clear h hs hm hm1 hm2 hin hs2 hmm hin2 hlen hx hid
  generalize mvL (endL L i x 1) o.k x.sku x.loc (-x.qty) x.id = L9 at *
  generalize endL L i x 1 = L8 at *
  go_enter Try.func92, Try.ntmps92
  go_wp2_with fail
  refine Calls.mono HM.out ?_; rintro e w1 ⟨rfl, v0', q1, q2⟩
  obtain ⟨W1, hW1⟩ : ∃ W1, w1.alloc (.cells #[.int .i64 x.id, .string x.sku, .string x.loc, .int .i64 x.qty, .int .i64 1, .int .i64 x.due] 44) = W1 := ⟨_, rfl⟩
  have k1 : Below w1.heap.size w1 W1 := hW1 ▸ below1 _ _
  have hcW : CellsF W1 w1.heap.size [.int .i64 x.id, .string x.sku, .string x.loc, .int .i64 x.qty, .int .i64 1, .int .i64 x.due] := by rw [← hW1]; exact CellsF.at _ 44 (by simp) rfl
  have HN1 : Hid _ := HN.out W1 v0' (q1.next k1)
  have HQ2 : Hid (Stay E w W1) := q2.below k1 HE.out
  obtain ⟨hp', p0, p1, p2, p3, p4, p5, p6⟩ := (HC.out.1.stay q2 HC.out.2.1 HC.out.2.2).next k1
  have z0 := hcW.cs 0 _ rfl
  have z1 := hcW.cs 1 _ rfl
  have z2 := hcW.cs 2 _ rfl
  have z3 := hcW.cs 3 _ rfl
  clear q1 q2 k1 hcW
  go_wp2_with fail
  refine Calls.mono HN1.out ?_; rintro e w2 ⟨rfl, v0'', v2'', q3, q4⟩
  have HQ : Hid _ := And.intro q3 (HQ2.out.trans q4)
  clear q3 q4
  go_wp2_with fail
  go_end0
  first | exact ⟨rfl, _, _, HQ.out⟩ | exact ⟨rfl, ⟨_, _, HQ.out.1⟩, HQ.out.2⟩
end Go.Proofs.Ytflbcheofmljeaa
