/- The document's Find, and the lists of its Put. -/
import Derived.Test.YtehaancdadmdkaaRf
namespace Go.Proofs.Ytehaancdadmdkaa
open Go.ChangeShapes Go.WideShapes Go.ChangeAt Go.RowKit
set_option linter.unusedVariables false
set_option maxRecDepth 100000

theorem FindO.uniq {cs : List Cel} {key : List UInt8} {i j : Nat} {b c : Bool} (h : FindO cs key i b) (g : FindO cs key j c) : i = j ∧ b = c := by
  have e : i = j := by
    rcases Nat.lt_trichotomy i j with q | q | q
    · have hx : i < cs.length := by have := g.1; omega
      have := (g.2.1 i hx q).symm.trans (h.2.2.1 i hx (Nat.le_refl _))
      cases this
    · exact q
    · have hx : j < cs.length := by have := h.1; omega
      have := (h.2.1 j hx q).symm.trans (g.2.2.1 j hx (Nat.le_refl _))
      cases this
  subst e
  refine ⟨rfl, ?_⟩
  have := h.2.2.2.trans g.2.2.2.symm
  cases b <;> cases c <;> simp_all
theorem lin_find {cs : List Cel} {key : List UInt8} {i : Nat} {b : Bool} (hr : ris cs) (hi : i ≤ cs.length) (h1 : ∀ x (hx : x < cs.length), x < i → Op.bytesLess cs[x].1 key = true) (h2 : ∀ hx : i < cs.length, Op.bytesLess cs[i].1 key = false) (hb : b = true ↔ ∃ hi : i < cs.length, cs[i].1 = key) : FindO cs key i b := by
  refine ⟨hi, h1, fun x hx hix => ?_, hb⟩
  rcases Nat.lt_or_eq_of_le hix with q | q
  · have hil : i < cs.length := by omega
    cases e : Op.bytesLess cs[x].1 key with
    | false => rfl
    | true => exact (less_trans _ _ _ (hr i x hil hx q) e).symm.trans (h2 hil)
  · subst q; exact h2 hx
set_option maxHeartbeats 2000000 in
theorem rfind_is {w : World} (kd : Int) (a : Option Addr) (N c : Nat) (cs : List Cel) (hN : cs.length = N) (h : Sl cv 2 w (.slice a N c) cs) (h1 : N ≤ 1000) (hr : ris cs) (key : ByteArray) : Calls Try.prog 33 #[rpg kd (.slice a N c), .string key] w fun e w' => FindE cs key.data.toList w e w' := by
  obtain ⟨W, hW⟩ : ∃ W, w.alloc (.cells #[.int .i64 kd, .slice a N c] 29) = W := ⟨_, rfl⟩
  have HW : Hid (w.alloc (.cells #[.int .i64 kd, .slice a N c] 29) = W) := hW
  have hk : Kept (fun _ => False) w W := hW ▸ (Kept.refl _ w).alloc _
  have hc := CellsF.new w [.int .i64 kd, .slice a N c] 29 (by simp)
  rw [show ([.int .i64 kd, .slice a N c] : List Value).toArray = #[.int .i64 kd, .slice a N c] from rfl, hW] at hc
  have d0 := hc.cs 1 _ rfl
  have HK : Hid (Kept (fun _ => False) w W) := hk
  have HS : Hid (Sl cv 2 W (.slice a N c) cs) := h.step cv_ne hk
  have HN : Hid (cs.length = N ∧ ris cs) := ⟨hN, hr⟩
  clear h hW hk hc hN hr
  go_enter Try.func33, Try.ntmps33
  go_wp2_with fail
  rw [HW.out]
  obtain ⟨B, hB⟩ : ∃ B, w.heap.size = B := ⟨_, rfl⟩
  rw [hB] at d0 ⊢
  clear HW hB
  go_wp2_with fail
  go_loopw [6] (fun v6 wr => ∃ i : Nat, i ≤ N ∧ v6 = .int .i64 i ∧ wr = W ∧ Hid (∀ x (hx : x < cs.length), x < i → Op.bytesLess cs[x].1 key.data.toList = true)) (fun v6 _ => N - (intOf v6).toNat)
  case atStart => exact ⟨0, Nat.zero_le _, rfl, rfl, fun x hx h => absurd h (Nat.not_lt_zero _)⟩
  case round =>
    obtain ⟨i, hi, rfl, rfl, HI⟩ := hrel
    by_cases hlt : i < N
    · have c1 : (i : Int) < (N : Int) := by omega
      have hl : i < cs.length := by rw [HN.out.1]; exact hlt
      obtain ⟨b, o, c', hv, hc', hb, hcs⟩ := HS.out.cells (fun e => by rw [e] at hl; exact absurd hl (Nat.not_lt_zero _))
      rw [HN.out.1] at hv
      cases hv
      have y0 := (hcs i hl).1
      obtain ⟨S1, hS1⟩ : ∃ S, (⟨cs[i].1.toArray⟩ : ByteArray) = S := ⟨_, rfl⟩
      have HS1 : Hid (S1.toList = cs[i].1) := by show _ = _; rw [← hS1, ByteArray.toList_eq]
      rw [hS1] at y0
      clear hcs hb hS1
      cases hq : Op.bytesLess S1.toList key.toList with
      | true =>
        have HI2 : Hid (∀ x (hx : x < cs.length), x < i + 1 → Op.bytesLess cs[x].1 key.data.toList = true) := fun x hx hxi => by
          rcases Nat.lt_or_eq_of_le (Nat.lt_succ_iff.1 hxi) with q | q
          · exact HI.out x hx q
          · subst q; rw [← HS1.out, ← ByteArray.toList_eq]; exact hq
        clear hl HI HS1
        go_wp2_with fail
        go_roundw
        case rel => exact ⟨i + 1, hlt, by rw [Int.natCast_add]; rfl, trivial, HI2.out⟩
        case measure => simp only [intOf]; omega
      | false =>
        have HF : Hid (FindO cs key.data.toList i (S1.toList == key.toList)) := lin_find HN.out.2 (by omega) HI.out (fun hx => by rw [← HS1.out, ← ByteArray.toList_eq]; exact hq) (by
          rw [beq_iff_eq, HS1.out, ByteArray.toList_eq]
          exact ⟨fun e => ⟨hl, e⟩, fun ⟨_, e⟩ => e⟩)
        clear hl HI HS1
        go_wp2_with fail
        go_quiet (fail)
        go_wp2_with fail
        go_ret2
        exact ⟨i, _, rfl, HF.out, HK.out.drewN _⟩
    · have c1 : ¬ (i : Int) < (N : Int) := by omega
      have HF : Hid (FindO cs key.data.toList i false) := lin_find HN.out.2 (by rw [HN.out.1]; exact hi) HI.out (fun hx => by rw [HN.out.1] at hx; exact absurd hx hlt) (by
        constructor
        · intro e; cases e
        · rintro ⟨hx, _⟩; rw [HN.out.1] at hx; exact absurd hx hlt)
      have HC1 : Hid (¬ (i : Int) < (N : Int)) := c1
      clear HI
      go_wp2_with fail
      have c2 : ¬ (i : Int) < (N : Int) := by have := HC1.out; omega
      go_quiet (fail)
      go_wp2_with fail
      go_ret2
      exact ⟨i, _, rfl, HF.out, HK.out.drewN _⟩
/-- Three lists, one behind the other, in new memory. -/
theorem put_run {w : World} {va : Option Addr} {L vc : Nat} {cs : List Cel} (h : Sl cv 2 w (.slice va L vc) cs) (k r : Nat) (hk : k ≤ cs.length) (x : Cel) (hl : cs.length ≤ 400) :
    ∃ v1 w1 v2 w2, (Builtin.append_ #[27, 27] 27 #[.slice none 0 0, .slice va k vc]).run Try.prog w = .ok v1 w1 ∧ Kept (fun _ => False) w w1 ∧ (Builtin.append_ #[27, 27] 27 #[v1, .slice (some ⟨w1.heap.size, 0, none⟩) 1 1]).run Try.prog (w1.alloc (.cells #[.string ⟨x.1.toArray⟩, .string ⟨x.2.toArray⟩] 74)) = .ok v2 w2 ∧ Kept (fun _ => False) w w2 ∧ ∀ u, Sl cv 2 w u (cs.drop r) → ∃ v3 w3, (Builtin.append_ #[27, 27] 27 #[v2, u]).run Try.prog w2 = .ok v3 w3 ∧ Sl cv 2 w3 v3 (putC cs k r x) ∧ Kept (fun _ => False) w w3 ∧ ∀ w', (∀ g, w.heap.size ≤ g → w'.heap[g]? = w3.heap[g]?) → Sl cv 2 w' v3 (putC cs k r x) := by
  obtain ⟨v1, w1, a1, a2, a3, a4⟩ := appC_is (w := w) (v := .slice none 0 0) (l := []) (l' := cs.take k) (World.ownsRow_nil _ _ _ _) (.slice va k vc) (h.head _ hk) (by rw [List.nil_append, List.length_take]; omega)
  have b1 : Kept (fun _ => False) w w1 := (Kept.refl _ w).grown a3 (fun q hq => by cases hq)
  have o1 : ∀ g, v1.ownBlock = some g → False ∨ w.heap.size ≤ g := fun g hg => .inr (by
    rcases a4 with e | e
    · rw [e] at hg; cases hg
    · rw [e] at hg; cases hg; exact Nat.le_refl _)
  rw [List.nil_append] at a2
  have bl : Kept (fun _ => False) w1 (w1.alloc (.cells #[.string ⟨x.1.toArray⟩, .string ⟨x.2.toArray⟩] 74)) := (Kept.refl _ w1).alloc _
  have b2 : Kept (fun _ => False) w (w1.alloc (.cells #[.string ⟨x.1.toArray⟩, .string ⟨x.2.toArray⟩] 74)) := b1.trans bl (fun _ z => z.elim)
  have a2' := own_kept a2 bl
  obtain ⟨v2, w2, c1, c2, c3, c4⟩ := appC_is (l' := [x]) a2' (.slice (some ⟨w1.heap.size, 0, none⟩) 1 1) ⟨some ⟨w1.heap.size, 0, none⟩, 1, rfl, rw_lit cv_len (CellsF.new w1 [.string ⟨x.1.toArray⟩, .string ⟨x.2.toArray⟩] 74 (by simp)), Nat.le_refl _, fun e => by cases e⟩ (by rw [List.length_append, List.length_take]; simp; omega)
  have b3 : Kept (fun _ => False) w w2 := b2.grown c3 o1
  have o2 : ∀ g, v2.ownBlock = some g → False ∨ w.heap.size ≤ g := fun g hg => by
    rcases c4 with e | e
    · rw [e] at hg; exact o1 g hg
    · rw [e] at hg; cases hg; exact .inr b2.size
  refine ⟨v1, w1, v2, w2, a1, b1, c1, b3, fun u hu => ?_⟩
  obtain ⟨v3, w3, d1, d2, d3, d4⟩ := appC_is c2 u (hu.step cv_ne b3) (by rw [List.length_append, List.length_append, List.length_take, List.length_drop]; simp; omega)
  have o3 : ∀ g, v3.ownBlock = some g → w.heap.size ≤ g := fun g hg => by
    rcases d4 with e | e
    · rw [e] at hg; exact (o2 g hg).resolve_left (fun z => z)
    · rw [e] at hg; cases hg; exact b3.size
  have hs : ∀ w', (∀ g, w.heap.size ≤ g → w'.heap[g]? = w3.heap[g]?) → Sl cv 2 w' v3 (putC cs k r x) := fun w' hw => by
    have := own_rw cv_len (ownsRow_kept d2 (fun g hg => hw g (o3 g hg)))
    unfold putC
    rwa [List.append_assoc] at this
  exact ⟨v3, w3, d1, hs w3 (fun _ _ => rfl), b3.grown d3 o2, hs⟩
end Go.Proofs.Ytehaancdadmdkaa
