/- ledger.expire's closure. -/
import Derived.Test.YtflbcheofmljeaaEnd
import Derived.Test.YtflbcheofmljeaaCap
namespace Go.Proofs.Ytflbcheofmljeaa
open Go.ChangeShapes Go.WideShapes Go.RowKit
set_option linter.unusedVariables false
set_option maxRecDepth 100000

/-- Is a hold due? -/
def dueH (due : Int) (x : Hld) : Prop := x.st = 0 ∧ 1 ≤ x.due ∧ x.due ≤ due
instance (due : Int) (x : Hld) : Decidable (dueH due x) := by unfold dueH; infer_instance
/-- Those of the first i holds that are due are given up. -/
def expL (L : Led) (due : Int) : Nat → Led
  | 0 => L
  | i + 1 => match (expL L due i).H[i]? with
    | some x => if dueH due x then endL (expL L due i) i x 2 else expL L due i
    | none => expL L due i
theorem endL_may {L : Led} (h : mayL L) {i : Nat} {x : Hld} (hx : L.H[i]? = some x) (h0 : x.st = 0) {st : Int} (hst : st = 1 ∨ st = 2) : mayL (endL L i x st) ∧ 0 ≤ (findK L.S x.sku x.loc).held - x.qty := mayL_end h hx h0 hst
theorem expL_may {L : Led} (h : mayL L) (due : Int) (i : Nat) : mayL (expL L due i) := by
  induction i with
  | zero => exact h
  | succ i ih =>
    unfold expL
    split
    · rename_i x hx
      split
      · rename_i hd
        exact (endL_may ih hx hd.1 (.inr rfl)).1
      · exact ih
    · exact ih
theorem endL_H (L : Led) (i : Nat) (x : Hld) (st : Int) : (endL L i x st).H = L.H.set i { x with st := st } := rfl
theorem expL_len (L : Led) (due : Int) (i : Nat) : (expL L due i).H.length = L.H.length := by
  induction i with
  | zero => rfl
  | succ i ih =>
    unfold expL
    split
    · split
      · rw [endL_H, List.length_set]; exact ih
      · exact ih
    · exact ih
theorem expL_later (L : Led) (due : Int) (i j : Nat) (h : i ≤ j) : (expL L due i).H[j]? = L.H[j]? := by
  induction i with
  | zero => rfl
  | succ i ih =>
    unfold expL
    split
    · split
      · rw [endL_H, List.getElem?_set_ne (by omega)]; exact ih (by omega)
      · exact ih (by omega)
    · exact ih (by omega)
theorem endL_fit {L : Led} (hf : L.fit) {i : Nat} {x : Hld} (hx : L.H[i]? = some x) (h : 0 ≤ (findK L.S x.sku x.loc).held - x.qty) (hq : 1 ≤ x.qty) {st : Int} (hst : st = 1 ∨ st = 2) (hs : Rises L.S) : (endL L i x st).fit := by
  have hxm : x ∈ L.H := by
    have := (List.getElem?_eq_some_iff.1 hx)
    rw [← this.2]; exact List.getElem_mem _
  refine ⟨fun y hy => ?_, fun y hy => ?_, hf.M, hf.ops⟩
  · have hu : (endL L i x st).S = upd L.S { findK L.S x.sku x.loc with held := (findK L.S x.sku x.loc).held + -x.qty } := addHeld_upd _ _ _ _
    rw [hu] at hy
    rcases (upd_mem hs).1 hy with rfl | ⟨q, _⟩
    · have := findK_fit hf.S x.sku x.loc
      refine ⟨this.on, ?_⟩
      have h2 := this.held
      unfold i64b at *
      dsimp only
      omega
    · exact hf.S y q
  · rw [endL_H] at hy
    obtain ⟨j, hj, rfl⟩ := List.getElem_of_mem hy
    rw [List.length_set] at hj
    rw [List.getElem_set]
    split
    · have := hf.H x hxm
      exact ⟨this.id, this.qty, by unfold i64b; dsimp only; omega, this.due⟩
    · exact hf.H _ (List.getElem_mem hj)
theorem expL_fit {L : Led} (h : mayL L) (hf : L.fit) (due : Int) (i : Nat) : (expL L due i).fit := by
  induction i with
  | zero => exact hf
  | succ i ih =>
    unfold expL
    split
    · rename_i x hx
      split
      · rename_i hd
        have hm := expL_may h due i
        have hil : i < (expL L due i).H.length := (List.getElem?_eq_some_iff.1 hx).1
        have := hm.H i hil
        rw [(List.getElem?_eq_some_iff.1 hx).2] at this
        exact endL_fit ih hx (endL_may hm hx hd.1 (.inr rfl)).2 this.2.2.2.1 (.inr rfl) hm.S.2
      · exact ih
    · exact ih
set_option maxHeartbeats 4000000 in
theorem expireC_is {w : World} {E : Nat → Prop} {b : Nat} {v0 v1 v2 : Value} {L : Led} (h : LedO w E b v0 v1 v2 L) (hm : mayL L) (hf : L.fit) (pb ob : Nat) (o : Opn) (hc : Cap w pb ob b o) (hpE : E pb) (hoE : E ob) :
    Calls Try.prog 95 #[.pointer (some ⟨pb, 0, none⟩), .pointer (some ⟨ob, 0, none⟩)] w fun e w' => e = .returned (.tuple #[]) ∧ ∃ v0', LedO w' E b v0' v1 v2 (expL L o.due L.H.length) ∧ Stay E w w' := by
  obtain ⟨a1, c1, rfl, hr1⟩ := own_rowH h.H
  obtain ⟨n1, hn1⟩ : ∃ n1, L.H.length = n1 := ⟨_, rfl⟩
  rw [hn1] at h ⊢
  have hroom : L.S.length ≤ 4096 ∧ n1 ≤ 4096 ∧ L.M.length ≤ 4096 := by have := hm.room; unfold room at this; omega
  have HC : Hid (Cap w pb ob b o ∧ E pb ∧ E ob) := ⟨hc, hpE, hoE⟩
  have HM : Hid (mayL L ∧ L.fit ∧ L.H.length = n1) := ⟨hm, hf, hn1⟩
  have l1 : w.cell? ⟨b, 1, none⟩ = some (.slice a1 n1 c1) := h.c.cs 1 _ rfl
  obtain ⟨hp, o0, o1, o2, o3, o4, o5, o6⟩ := hc
  have HH : Hid (LedO w E b v0 (.slice a1 n1 c1) v2 L) := h
  clear hm hf h hr1 hn1 hpE hoE
  go_enter Try.func95, Try.ntmps95
  go_wp2_with fail
  go_loopw [9] (fun vi wr => ∃ i : Nat, i ≤ n1 ∧ vi = .int .i64 i ∧ ∃ u0, Hid (LedO wr E b u0 (.slice a1 n1 c1) v2 (expL L o.due i) ∧ Stay E w wr))
    (fun vi _ => n1 - (intOf vi).toNat)
  case atStart => exact ⟨0, Nat.zero_le _, rfl, v0, HH.out, Stay.refl _ _⟩
  case round =>
    obtain ⟨i, hi, rfl, u0, HI⟩ := hrel
    obtain ⟨hp', p0, p1, p2, p3, p4, p5, p6⟩ := HC.out.1.stay HI.out.2 HC.out.2.1 HC.out.2.2
    by_cases hlt : i < n1
    · have hlti : (i : Int) < (n1 : Int) := by omega
      have hlen : (expL L o.due i).H.length = n1 := by rw [expL_len]; exact HM.out.2.2
      have hil : i < (expL L o.due i).H.length := by omega
      obtain ⟨a1', c1', e1, hr⟩ := own_rowH HI.out.1.H
      rw [hlen] at e1
      cases e1
      obtain ⟨g1, o1', rfl, hgl, hcc⟩ := hr.hld (fun e => by rw [e] at hil; simp at hil)
      have hx := hcc i hil
      obtain ⟨x, hxe⟩ : ∃ x, (expL L o.due i).H[i] = x := ⟨_, rfl⟩
      rw [hxe] at hx
      have hxs : (expL L o.due i).H[i]? = some x := by rw [List.getElem?_eq_getElem hil, hxe]
      have hmi := expL_may HM.out.1 o.due i
      have hfi := expL_fit HM.out.1 HM.out.2.1 o.due i
      have hid : x.id = (i : Int) + 1 := by have := (hmi.H i hil).1; rw [hxe] at this; exact this
      have HNX : Hid (expL L o.due (i + 1) = if dueH o.due x then endL (expL L o.due i) i x 2 else expL L o.due i) := by
        show expL L o.due (i + 1) = _
        rw [expL, hxs]
      obtain ⟨xi, xs, xl, xq, xt, xd⟩ := x
      dsimp only at hid
      subst hid
      obtain ⟨x0, x1, x2, x3, x4, x5⟩ := hx
      dsimp only at x0 x1 x2 x3 x4 x5
      obtain ⟨W, hW⟩ : ∃ W, wr.alloc (.cells #[.int .i64 ((i : Int) + 1), .string xs, .string xl, .int .i64 xq, .int .i64 xt, .int .i64 xd] 44) = W := ⟨_, rfl⟩
      have kW : Below wr.heap.size wr W := hW ▸ below1 _ _
      have HKW : Hid (LedO W E b u0 (.slice (some ⟨g1, o1', none⟩) n1 c1) v2 (expL L o.due i) ∧ Stay E w W) := ⟨HI.out.1.next kW, HI.out.2.below kW HH.out.lt⟩
      obtain ⟨hpW, q0, q1, q2, q3, q4, q5, q6⟩ := HC.out.1.stay HKW.out.2 HC.out.2.1 HC.out.2.2
      have hcW : CellsF W wr.heap.size [.int .i64 ((i : Int) + 1), .string xs, .string xl, .int .i64 xq, .int .i64 xt, .int .i64 xd] := by rw [← hW]; exact CellsF.at _ 44 (by simp) rfl
      have y0 := hcW.cs 0 _ rfl
      have y4 := hcW.cs 4 _ rfl
      have y5 := hcW.cs 5 _ rfl
      by_cases hd : dueH o.due ⟨(i : Int) + 1, xs, xl, xq, xt, xd⟩
      · rw [if_pos hd] at HNX
        obtain ⟨d0, d1, d2⟩ := hd
        dsimp only at d0 d1 d2
        have hend := endL_may hmi hxs d0 (st := 2) (.inr rfl)
        have hqq := hfi.H _ (List.mem_of_getElem? hxs)
        have hhf := findK_fit hfi.S xs xl
        have HEN : Hid _ := end_is HKW.out.1 hmi.S.2 (by have := hmi.room; unfold room at this; omega) (by omega) i ⟨(i : Int) + 1, xs, xl, xq, xt, xd⟩ hxs 2 (by
          have h1 := hend.2
          have h2 := hhf.held
          have h3 := hqq.qty
          have h4 : 1 ≤ xq := by have := (hmi.H i hil).2.2.2.1; rw [hxe] at this; exact this
          unfold i64b at *
          dsimp only at *
          omega)
        subst d0
        clear hend hqq hhf hmi hfi hxs hxe hcc hgl hr hlen hil kW hcW
        go_wp2_with fail
        refine Calls.mono HEN.out ?_; rintro e w2 ⟨rfl, u0', r1, r2⟩
        have HN2 : Hid _ := And.intro r1 (HKW.out.2.trans r2)
        clear r1 r2
        go_wp2_with fail
        go_roundw
        case rel => exact ⟨i + 1, by omega, by go_num, u0', by rw [HNX.out]; exact HN2.out⟩
        case measure => simp [intOf]; omega
      · rw [if_neg hd] at HNX
        unfold dueH at hd
        dsimp only at hd
        clear hmi hfi hxs hxe hcc hgl hr hlen hil kW hcW
        by_cases d0 : xt = 0
        · subst d0
          by_cases d1 : 1 ≤ xd
          · have d2 : ¬ xd ≤ o.due := fun q => hd ⟨rfl, d1, q⟩
            clear hd
            go_wp2_with fail
            go_roundw
            case rel => exact ⟨i + 1, by omega, by go_num, u0, by rw [HNX.out]; exact HKW.out⟩
            case measure => simp [intOf]; omega
          · clear hd
            go_wp2_with fail
            go_roundw
            case rel => exact ⟨i + 1, by omega, by go_num, u0, by rw [HNX.out]; exact HKW.out⟩
            case measure => simp [intOf]; omega
        · have b0 : (xt == 0) = false := by simpa using d0
          clear hd d0
          go_wp2_with fail
          go_roundw
          case rel => exact ⟨i + 1, by omega, by go_num, u0, by rw [HNX.out]; exact HKW.out⟩
          case measure => simp [intOf]; omega
    · have hlti : ¬ (i : Int) < (n1 : Int) := by omega
      obtain rfl : n1 = i := by omega
      go_wp2_with fail
      go_end0
      first | exact ⟨rfl, u0, HI.out⟩ | exact ⟨rfl, ⟨u0, HI.out.1⟩, HI.out.2⟩
end Go.Proofs.Ytflbcheofmljeaa
