/- LedgerEdges' walk. -/
import Derived.Test.YtgbomgfffhfliaaEdP
import Derived.Deep.DeepCutAuto
namespace Go.Proofs.Ytgbomgfffhfliaa
open Go.ChangeShapes Go.WideShapes Go.RowKit
set_option linter.unusedVariables false
set_option maxRecDepth 100000

theorem fitO {k n : Int} (hk : k = 1 ∨ k = 6 ∨ k = 7) (s t u : ByteArray) (hn : 0 ≤ n ∧ n ≤ 9223372036854775807) : Opn.fit ⟨k, s, t, u, n, 0, 0⟩ := ⟨by unfold i64b; dsimp only; omega, by unfold i64b; dsimp only; omega, by unfold i64b; dsimp only; omega, by unfold i64b; dsimp only; omega⟩
set_option maxHeartbeats 8000000 in
theorem edges_in (a0 a1 k m q n : Int) (hk : bits .and .i64 a0 65535 = k) (hm : bits .and .i64 a1 65535 = m) (hkb : 0 ≤ k ∧ k ≤ 65535) (hmb : 0 ≤ m ∧ m ≤ 65535) (hq : 9223372036854775807 - k = q) (hn : 1 + m = n) (hle : n ≤ k) (w : World) :
    Calls Try.prog 8 #[.int .i64 a0, .int .i64 a1] w fun e w' => e = .returned (.bool true) ∧ Below w.heap.size w w' := by
  have hw1 : wrap64 (9223372036854775807 - k) = q := by rw [hq]; have := IntKind.wrap_i64 q; unfold wrap64; omega
  have hw2 : wrap64 (1 + m) = n := by rw [hn]; unfold wrap64; omega
  have hqn : wrap64 (q + n) = q + n ∨ ¬ n ≤ k := by unfold wrap64; omega
  have hov : ovr q n = 0 := by unfold ovr; first | exact if_pos (by omega) | exact if_neg (by omega)
  have hmE1 : mayL (E1 q) ∧ (E1 q).fit := by
    have := do_may no_may no_fit (o := ⟨1, tS, tX, tN, q, 0, 0⟩) (fitO (.inl rfl) _ _ _ (by omega)) (ed1 (by omega))
    rw [ed1'] at this
    exact this
  have hmE3 : mayL (E3 q n) ∧ (E3 q n).fit := by
    have := do_may hmE1.1 hmE1.2 (o := ⟨1, tS, tY, tN, n, 0, 0⟩) (fitO (.inl rfl) _ _ _ (by omega)) (ed4 (by omega))
    rw [ed4'] at this
    exact this
  have HR : Hid (∀ (t : ByteArray) (x : Int) (w : World), Calls Try.prog 23 #[.string ⟨#[115]⟩, .string t, .int .i64 x] w fun e w' => e = .returned (.agg #[.int .i64 1, .string ⟨#[115]⟩, .string t, .string ⟨#[]⟩, .int .i64 x, .int .i64 0, .int .i64 0]) ∧ Below w.heap.size w w') := fun t x w => rcv_is _ t x w
  have HA1 : Hid (∀ (w' : World) (b0 : Option Addr) (bn0 bc0 : Nat) (b1 : Option Addr) (bn1 bc1 : Nat) (b2 : Option Addr) (bn2 bc2 : Nat), Have w' b0 bn0 bc0 b1 bn1 bc1 b2 bn2 bc2 noL → Calls Try.prog 11 #[.agg #[.slice b0 bn0 bc0, .slice b1 bn1 bc1, .slice b2 bn2 bc2, .int .i64 0], .agg #[.int .i64 1, .string ⟨#[115]⟩, .string ⟨#[120]⟩, .string ⟨#[]⟩, .int .i64 q, .int .i64 0, .int .i64 0]] w' fun e w'' => ∃ d0 dn0 dc0 d1 dn1 dc1 d2 dn2 dc2, e = .returned (.tuple #[.agg #[.slice d0 dn0 dc0, .slice d1 dn1 dc1, .slice d2 dn2 dc2, .int .i64 1], .int .i64 0]) ∧ Far w' w'' d0 dn0 dc0 d1 dn1 dc1 d2 dn2 dc2 (E1 q) ∧ Below w'.heap.size w' w'') := fun w' b0 bn0 bc0 b1 bn1 bc1 b2 bn2 bc2 h => by
    have := h.applied no_may no_fit ⟨1, tS, tX, tN, q, 0, 0⟩ (fitO (.inl rfl) _ _ _ (by omega))
    rw [ed1 (by omega), show apL noL ⟨1, tS, tX, tN, q, 0, 0⟩ = E1 q by unfold apL; rw [ed1 (by omega), if_pos rfl, ed1']] at this
    exact this
  obtain ⟨A2, hA2⟩ : ∃ A2, apL (E1 q) ⟨1, tS, tX, tN, n, 0, 0⟩ = A2 := ⟨_, rfl⟩
  obtain ⟨A3, hA3⟩ : ∃ A3, apL (E1 q) ⟨7, tS, tX, tN, n, 0, 0⟩ = A3 := ⟨_, rfl⟩
  obtain ⟨A5, hA5⟩ : ∃ A5, apL (E3 q n) ⟨6, tS, tY, tX, n, 0, 0⟩ = A5 := ⟨_, rfl⟩
  have HA2 : Hid (∀ (w' : World) (b0 : Option Addr) (bn0 bc0 : Nat) (b1 : Option Addr) (bn1 bc1 : Nat) (b2 : Option Addr) (bn2 bc2 : Nat), Have w' b0 bn0 bc0 b1 bn1 bc1 b2 bn2 bc2 (E1 q) → Calls Try.prog 11 #[.agg #[.slice b0 bn0 bc0, .slice b1 bn1 bc1, .slice b2 bn2 bc2, .int .i64 1], .agg #[.int .i64 1, .string ⟨#[115]⟩, .string ⟨#[120]⟩, .string ⟨#[]⟩, .int .i64 n, .int .i64 0, .int .i64 0]] w' fun e w'' => ∃ d0 dn0 dc0 d1 dn1 dc1 d2 dn2 dc2, e = .returned (.tuple #[.agg #[.slice d0 dn0 dc0, .slice d1 dn1 dc1, .slice d2 dn2 dc2, .int .i64 A2.ops], .int .i64 0]) ∧ Far w' w'' d0 dn0 dc0 d1 dn1 dc1 d2 dn2 dc2 A2 ∧ Below w'.heap.size w' w'') := fun w' b0 bn0 bc0 b1 bn1 bc1 b2 bn2 bc2 h => by
    have := h.applied hmE1.1 hmE1.2 ⟨1, tS, tX, tN, n, 0, 0⟩ (fitO (.inl rfl) _ _ _ (by omega))
    rw [ed2 (by omega) (by omega), hov, hA2] at this
    exact this
  have HA3 : Hid (∀ (w' : World) (b0 : Option Addr) (bn0 bc0 : Nat) (b1 : Option Addr) (bn1 bc1 : Nat) (b2 : Option Addr) (bn2 bc2 : Nat), Have w' b0 bn0 bc0 b1 bn1 bc1 b2 bn2 bc2 (E1 q) → Calls Try.prog 11 #[.agg #[.slice b0 bn0 bc0, .slice b1 bn1 bc1, .slice b2 bn2 bc2, .int .i64 1], .agg #[.int .i64 7, .string ⟨#[115]⟩, .string ⟨#[120]⟩, .string ⟨#[]⟩, .int .i64 n, .int .i64 0, .int .i64 0]] w' fun e w'' => ∃ d0 dn0 dc0 d1 dn1 dc1 d2 dn2 dc2, e = .returned (.tuple #[.agg #[.slice d0 dn0 dc0, .slice d1 dn1 dc1, .slice d2 dn2 dc2, .int .i64 A3.ops], .int .i64 0]) ∧ Far w' w'' d0 dn0 dc0 d1 dn1 dc1 d2 dn2 dc2 A3 ∧ Below w'.heap.size w' w'') := fun w' b0 bn0 bc0 b1 bn1 bc1 b2 bn2 bc2 h => by
    have := h.applied hmE1.1 hmE1.2 ⟨7, tS, tX, tN, n, 0, 0⟩ (fitO (.inr (.inr rfl)) _ _ _ (by omega))
    rw [ed3 (by omega) (by omega), hov, hA3] at this
    exact this
  have HA4 : Hid (∀ (w' : World) (b0 : Option Addr) (bn0 bc0 : Nat) (b1 : Option Addr) (bn1 bc1 : Nat) (b2 : Option Addr) (bn2 bc2 : Nat), Have w' b0 bn0 bc0 b1 bn1 bc1 b2 bn2 bc2 (E1 q) → Calls Try.prog 11 #[.agg #[.slice b0 bn0 bc0, .slice b1 bn1 bc1, .slice b2 bn2 bc2, .int .i64 1], .agg #[.int .i64 1, .string ⟨#[115]⟩, .string ⟨#[121]⟩, .string ⟨#[]⟩, .int .i64 n, .int .i64 0, .int .i64 0]] w' fun e w'' => ∃ d0 dn0 dc0 d1 dn1 dc1 d2 dn2 dc2, e = .returned (.tuple #[.agg #[.slice d0 dn0 dc0, .slice d1 dn1 dc1, .slice d2 dn2 dc2, .int .i64 2], .int .i64 0]) ∧ Far w' w'' d0 dn0 dc0 d1 dn1 dc1 d2 dn2 dc2 (E3 q n) ∧ Below w'.heap.size w' w'') := fun w' b0 bn0 bc0 b1 bn1 bc1 b2 bn2 bc2 h => by
    have := h.applied hmE1.1 hmE1.2 ⟨1, tS, tY, tN, n, 0, 0⟩ (fitO (.inl rfl) _ _ _ (by omega))
    rw [ed4 (by omega), show apL (E1 q) ⟨1, tS, tY, tN, n, 0, 0⟩ = E3 q n by unfold apL; rw [ed4 (by omega), if_pos rfl, ed4']] at this
    exact this
  have HA5 : Hid (∀ (w' : World) (b0 : Option Addr) (bn0 bc0 : Nat) (b1 : Option Addr) (bn1 bc1 : Nat) (b2 : Option Addr) (bn2 bc2 : Nat), Have w' b0 bn0 bc0 b1 bn1 bc1 b2 bn2 bc2 (E3 q n) → Calls Try.prog 11 #[.agg #[.slice b0 bn0 bc0, .slice b1 bn1 bc1, .slice b2 bn2 bc2, .int .i64 2], .agg #[.int .i64 6, .string ⟨#[115]⟩, .string ⟨#[121]⟩, .string ⟨#[120]⟩, .int .i64 n, .int .i64 0, .int .i64 0]] w' fun e w'' => ∃ d0 dn0 dc0 d1 dn1 dc1 d2 dn2 dc2, e = .returned (.tuple #[.agg #[.slice d0 dn0 dc0, .slice d1 dn1 dc1, .slice d2 dn2 dc2, .int .i64 A5.ops], .int .i64 0]) ∧ Far w' w'' d0 dn0 dc0 d1 dn1 dc1 d2 dn2 dc2 A5 ∧ Below w'.heap.size w' w'') := fun w' b0 bn0 bc0 b1 bn1 bc1 b2 bn2 bc2 h => by
    have := h.applied hmE3.1 hmE3.2 ⟨6, tS, tY, tX, n, 0, 0⟩ (fitO (.inr (.inl rfl)) _ _ _ (by omega))
    rw [ed5 (by omega) (by omega), hov, hA5] at this
    exact this
  have h2e : doE (E1 q) ⟨1, tS, tX, tN, n, 0, 0⟩ = 0 := (ed2 (by omega) (by omega)).trans hov
  have h3e : doE (E1 q) ⟨7, tS, tX, tN, n, 0, 0⟩ = 0 := (ed3 (by omega) (by omega)).trans hov
  have h5e : doE (E3 q n) ⟨6, tS, tY, tX, n, 0, 0⟩ = 0 := (ed5 (by omega) (by omega)).trans hov
  have f2 : findK A2.S tS tX = ⟨tS, tX, q + n, 0⟩ := by rw [← hA2]; unfold apL; rw [h2e, if_pos rfl, ed2']
  have f3 : findK A3.S tS tX = ⟨tS, tX, q + n, 0⟩ := by rw [← hA3]; unfold apL; rw [h3e, if_pos rfl, ed3']
  have f5 : findK A5.S tS tY = ⟨tS, tY, n + -n, 0⟩ := by rw [← hA5]; unfold apL; rw [h5e, if_pos rfl, ed5']
  have m2 := apL_may hmE1.1 hmE1.2 (o := ⟨1, tS, tX, tN, n, 0, 0⟩) (fitO (.inl rfl) _ _ _ (by omega))
  have m3 := apL_may hmE1.1 hmE1.2 (o := ⟨7, tS, tX, tN, n, 0, 0⟩) (fitO (.inr (.inr rfl)) _ _ _ (by omega))
  have m5 := apL_may hmE3.1 hmE3.2 (o := ⟨6, tS, tY, tX, n, 0, 0⟩) (fitO (.inr (.inl rfl)) _ _ _ (by omega))
  rw [hA2] at m2
  rw [hA3] at m3
  rw [hA5] at m5
  have HF2 : Hid (∀ (w' : World) (b0 : Option Addr) (bn0 bc0 : Nat) (b1 : Option Addr) (bn1 bc1 : Nat) (b2 : Option Addr) (bn2 bc2 : Nat), Have w' b0 bn0 bc0 b1 bn1 bc1 b2 bn2 bc2 A2 → Calls Try.prog 22 #[.agg #[.slice b0 bn0 bc0, .slice b1 bn1 bc1, .slice b2 bn2 bc2, .int .i64 A2.ops], .string ⟨#[115]⟩, .string ⟨#[120]⟩] w' fun e w'' => e = .returned (.agg #[.string ⟨#[115]⟩, .string ⟨#[120]⟩, .int .i64 (q + n), .int .i64 0]) ∧ Below w'.heap.size w' w'') := fun w' b0 bn0 bc0 b1 bn1 bc1 b2 bn2 bc2 h => by
    have hl := lens m2.1
    have := h.h0
    have := find_is b0 bn0 bc0 b1 bn1 bc1 b2 bn2 bc2 A2.ops A2.S h.h0 (by omega) tS tX w' h.li.S
    rw [f2] at this
    exact this
  have HF3 : Hid (∀ (w' : World) (b0 : Option Addr) (bn0 bc0 : Nat) (b1 : Option Addr) (bn1 bc1 : Nat) (b2 : Option Addr) (bn2 bc2 : Nat), Have w' b0 bn0 bc0 b1 bn1 bc1 b2 bn2 bc2 A3 → Calls Try.prog 22 #[.agg #[.slice b0 bn0 bc0, .slice b1 bn1 bc1, .slice b2 bn2 bc2, .int .i64 A3.ops], .string ⟨#[115]⟩, .string ⟨#[120]⟩] w' fun e w'' => e = .returned (.agg #[.string ⟨#[115]⟩, .string ⟨#[120]⟩, .int .i64 (q + n), .int .i64 0]) ∧ Below w'.heap.size w' w'') := fun w' b0 bn0 bc0 b1 bn1 bc1 b2 bn2 bc2 h => by
    have hl := lens m3.1
    have := h.h0
    have := find_is b0 bn0 bc0 b1 bn1 bc1 b2 bn2 bc2 A3.ops A3.S h.h0 (by omega) tS tX w' h.li.S
    rw [f3] at this
    exact this
  have HF5 : Hid (∀ (w' : World) (b0 : Option Addr) (bn0 bc0 : Nat) (b1 : Option Addr) (bn1 bc1 : Nat) (b2 : Option Addr) (bn2 bc2 : Nat), Have w' b0 bn0 bc0 b1 bn1 bc1 b2 bn2 bc2 A5 → Calls Try.prog 21 #[.agg #[.slice b0 bn0 bc0, .slice b1 bn1 bc1, .slice b2 bn2 bc2, .int .i64 A5.ops], .string ⟨#[115]⟩, .string ⟨#[121]⟩] w' fun e w'' => e = .returned (.int .i64 0) ∧ Below w'.heap.size w' w'') := fun w' b0 bn0 bc0 b1 bn1 bc1 b2 bn2 bc2 h => by
    have hl := lens m5.1
    have := h.h0
    have := freeL_is b0 bn0 bc0 b1 bn1 bc1 b2 bn2 bc2 A5.ops A5.S h.h0 (by omega) m5.2.S tS tY w' h.li.S
    rw [f5] at this
    rw [show n + -n - 0 = (0 : Int) by omega] at this
    exact this
  have hfl := fun w => field_on (.string ⟨#[115]⟩) (.string ⟨#[120]⟩) (.int .i64 (q + n)) (.int .i64 0) w
  have hw3 : wrap64 (q + n) = q + n := hqn.resolve_right (fun e => e hle)
  clear h2e h3e h5e f2 f3 f5 m2 m3 m5
  have HAW : Hid (∀ w, Calls Try.prog 10 #[] w fun e w' => e = .returned (.bool true) ∧ Below w.heap.size w w') := awake_is
  have HNO : Hid (∀ w', Have w' none 0 0 none 0 0 none 0 0 noL) := Have.none
  clear hmE1 hmE3 hov hqn hA2 hA3 hA5 hq hn hmb hkb
  go_enter Try.func8, Try.ntmps8
  go_wp2_with fail
  refine Calls.mono (HR.out _ _ _) ?_; rintro e w1 ⟨rfl, k1⟩
  have HB1 : Hid (Below w.heap.size w w1) := k1
  clear k1
  go_wp2_with fail
  refine Calls.mono (HA1.out _ _ _ _ _ _ _ _ _ _ (HNO.out _)) ?_; rintro e w2 ⟨l0, ln0, lc0, l1, ln1, lc1, l2, ln2, lc2, rfl, hv, k2⟩
  obtain ⟨W, hW⟩ : ∃ W, w2.alloc (.cells #[.slice l0 ln0 lc0, .slice l1 ln1 lc1, .slice l2 ln2 lc2, .int .i64 1] 26) = W := ⟨_, rfl⟩
  obtain ⟨B1, hB1⟩ : ∃ B1, w2.heap.size = B1 := ⟨_, rfl⟩
  have HBW : Hid (Below w.heap.size w W) := by show Below w.heap.size w W; rw [← hW]; exact Below.next (Below.next HB1.out k2) (below1 _ _)
  have HVL : Hid (Have W l0 ln0 lc0 l1 ln1 lc1 l2 ln2 lc2 (E1 q)) := by show Have W l0 ln0 lc0 l1 ln1 lc1 l2 ln2 lc2 (E1 q); rw [← hW]; exact hv.here.next (below1 _ _)
  have HCL : Hid (CellsF W B1 [.slice l0 ln0 lc0, .slice l1 ln1 lc1, .slice l2 ln2 lc2, .int .i64 1]) := by show CellsF W B1 _; rw [← hW, ← hB1]; exact CellsF.at _ 26 (by simp) rfl
  have HS : Hid (∀ w' : World, Below W.heap.size W w' → (Below W.heap.size W w' ∧ w'.cell? ⟨B1, 0, none⟩ = some (.slice l0 ln0 lc0) ∧ w'.cell? ⟨B1, 1, none⟩ = some (.slice l1 ln1 lc1) ∧ w'.cell? ⟨B1, 2, none⟩ = some (.slice l2 ln2 lc2) ∧ w'.cell? ⟨B1, 3, none⟩ = some (.int .i64 1))) := fun w' k => by
    have q := HCL.out.next k
    exact ⟨k, q.cs 0 _ rfl, q.cs 1 _ rfl, q.cs 2 _ rfl, q.cs 3 _ rfl⟩
  have HSN : Hid (∀ w' w'' : World, (Below W.heap.size W w' ∧ w'.cell? ⟨B1, 0, none⟩ = some (.slice l0 ln0 lc0) ∧ w'.cell? ⟨B1, 1, none⟩ = some (.slice l1 ln1 lc1) ∧ w'.cell? ⟨B1, 2, none⟩ = some (.slice l2 ln2 lc2) ∧ w'.cell? ⟨B1, 3, none⟩ = some (.int .i64 1)) → Below w'.heap.size w' w'' → (Below W.heap.size W w'' ∧ w''.cell? ⟨B1, 0, none⟩ = some (.slice l0 ln0 lc0) ∧ w''.cell? ⟨B1, 1, none⟩ = some (.slice l1 ln1 lc1) ∧ w''.cell? ⟨B1, 2, none⟩ = some (.slice l2 ln2 lc2) ∧ w''.cell? ⟨B1, 3, none⟩ = some (.int .i64 1))) := fun w' w'' h k => HS.out w'' (Below.next h.1 k)
  have HSD : Hid (∀ w' : World, (Below W.heap.size W w' ∧ w'.cell? ⟨B1, 0, none⟩ = some (.slice l0 ln0 lc0) ∧ w'.cell? ⟨B1, 1, none⟩ = some (.slice l1 ln1 lc1) ∧ w'.cell? ⟨B1, 2, none⟩ = some (.slice l2 ln2 lc2) ∧ w'.cell? ⟨B1, 3, none⟩ = some (.int .i64 1)) → (Below W.heap.size W w'.drew ∧ w'.drew.cell? ⟨B1, 0, none⟩ = some (.slice l0 ln0 lc0) ∧ w'.drew.cell? ⟨B1, 1, none⟩ = some (.slice l1 ln1 lc1) ∧ w'.drew.cell? ⟨B1, 2, none⟩ = some (.slice l2 ln2 lc2) ∧ w'.drew.cell? ⟨B1, 3, none⟩ = some (.int .i64 1))) := fun w' h => HSN.out w' _ h (Below.refl _ _).drew
  have HSA : Hid (∀ (w' : World) (z : Obj), (Below W.heap.size W w' ∧ w'.cell? ⟨B1, 0, none⟩ = some (.slice l0 ln0 lc0) ∧ w'.cell? ⟨B1, 1, none⟩ = some (.slice l1 ln1 lc1) ∧ w'.cell? ⟨B1, 2, none⟩ = some (.slice l2 ln2 lc2) ∧ w'.cell? ⟨B1, 3, none⟩ = some (.int .i64 1)) → (Below W.heap.size W (w'.alloc z) ∧ (w'.alloc z).cell? ⟨B1, 0, none⟩ = some (.slice l0 ln0 lc0) ∧ (w'.alloc z).cell? ⟨B1, 1, none⟩ = some (.slice l1 ln1 lc1) ∧ (w'.alloc z).cell? ⟨B1, 2, none⟩ = some (.slice l2 ln2 lc2) ∧ (w'.alloc z).cell? ⟨B1, 3, none⟩ = some (.int .i64 1))) := fun w' z h => HSN.out w' _ h (below1 _ _)
  have HSAD : Hid (∀ (w' : World) (z : Obj), (Below W.heap.size W w' ∧ w'.cell? ⟨B1, 0, none⟩ = some (.slice l0 ln0 lc0) ∧ w'.cell? ⟨B1, 1, none⟩ = some (.slice l1 ln1 lc1) ∧ w'.cell? ⟨B1, 2, none⟩ = some (.slice l2 ln2 lc2) ∧ w'.cell? ⟨B1, 3, none⟩ = some (.int .i64 1)) → (Below W.heap.size W (w'.alloc z).drew ∧ (w'.alloc z).drew.cell? ⟨B1, 0, none⟩ = some (.slice l0 ln0 lc0) ∧ (w'.alloc z).drew.cell? ⟨B1, 1, none⟩ = some (.slice l1 ln1 lc1) ∧ (w'.alloc z).drew.cell? ⟨B1, 2, none⟩ = some (.slice l2 ln2 lc2) ∧ (w'.alloc z).drew.cell? ⟨B1, 3, none⟩ = some (.int .i64 1))) := fun w' z h => HSN.out w' _ h (below1 _ _).drew
  have HLAST : Hid (∀ (w' : World) (B : Nat) (u0 u1 u2 u3 : Value), W.heap.size ≤ B → (Below W.heap.size W w' ∧ w'.cell? ⟨B1, 0, none⟩ = some (.slice l0 ln0 lc0) ∧ w'.cell? ⟨B1, 1, none⟩ = some (.slice l1 ln1 lc1) ∧ w'.cell? ⟨B1, 2, none⟩ = some (.slice l2 ln2 lc2) ∧ w'.cell? ⟨B1, 3, none⟩ = some (.int .i64 1)) → (Below W.heap.size W ((((w'.setCell ⟨B, 0, none⟩ u0).setCell ⟨B, 1, none⟩ u1).setCell ⟨B, 2, none⟩ u2).setCell ⟨B, 3, none⟩ u3) ∧ ((((w'.setCell ⟨B, 0, none⟩ u0).setCell ⟨B, 1, none⟩ u1).setCell ⟨B, 2, none⟩ u2).setCell ⟨B, 3, none⟩ u3).cell? ⟨B1, 0, none⟩ = some (.slice l0 ln0 lc0) ∧ ((((w'.setCell ⟨B, 0, none⟩ u0).setCell ⟨B, 1, none⟩ u1).setCell ⟨B, 2, none⟩ u2).setCell ⟨B, 3, none⟩ u3).cell? ⟨B1, 1, none⟩ = some (.slice l1 ln1 lc1) ∧ ((((w'.setCell ⟨B, 0, none⟩ u0).setCell ⟨B, 1, none⟩ u1).setCell ⟨B, 2, none⟩ u2).setCell ⟨B, 3, none⟩ u3).cell? ⟨B1, 2, none⟩ = some (.slice l2 ln2 lc2) ∧ ((((w'.setCell ⟨B, 0, none⟩ u0).setCell ⟨B, 1, none⟩ u1).setCell ⟨B, 2, none⟩ u2).setCell ⟨B, 3, none⟩ u3).cell? ⟨B1, 3, none⟩ = some (.int .i64 1))) := fun w' B u0 u1 u2 u3 hB h => HS.out _ (below_four h.1 B hB u0 u1 u2 u3)
  have HRS : Hid (∀ (t : ByteArray) (w' : World), (Below W.heap.size W w' ∧ w'.cell? ⟨B1, 0, none⟩ = some (.slice l0 ln0 lc0) ∧ w'.cell? ⟨B1, 1, none⟩ = some (.slice l1 ln1 lc1) ∧ w'.cell? ⟨B1, 2, none⟩ = some (.slice l2 ln2 lc2) ∧ w'.cell? ⟨B1, 3, none⟩ = some (.int .i64 1)) → Calls Try.prog 23 #[.string ⟨#[115]⟩, .string t, .int .i64 n] w' fun e w'' => e = .returned (.agg #[.int .i64 1, .string ⟨#[115]⟩, .string t, .string ⟨#[]⟩, .int .i64 n, .int .i64 0, .int .i64 0]) ∧ (Below W.heap.size W w'' ∧ w''.cell? ⟨B1, 0, none⟩ = some (.slice l0 ln0 lc0) ∧ w''.cell? ⟨B1, 1, none⟩ = some (.slice l1 ln1 lc1) ∧ w''.cell? ⟨B1, 2, none⟩ = some (.slice l2 ln2 lc2) ∧ w''.cell? ⟨B1, 3, none⟩ = some (.int .i64 1)) ∧ Hid (Below w'.heap.size w' w'')) := fun t w' q => (HR.out t n w').mono fun e w'' ⟨r1, r2⟩ => ⟨r1, HSN.out _ _ q r2, r2⟩
  have HS2 : Hid (∀ w' : World, (Below W.heap.size W w' ∧ w'.cell? ⟨B1, 0, none⟩ = some (.slice l0 ln0 lc0) ∧ w'.cell? ⟨B1, 1, none⟩ = some (.slice l1 ln1 lc1) ∧ w'.cell? ⟨B1, 2, none⟩ = some (.slice l2 ln2 lc2) ∧ w'.cell? ⟨B1, 3, none⟩ = some (.int .i64 1)) → Calls Try.prog 11 #[.agg #[.slice l0 ln0 lc0, .slice l1 ln1 lc1, .slice l2 ln2 lc2, .int .i64 1], .agg #[.int .i64 1, .string ⟨#[115]⟩, .string ⟨#[120]⟩, .string ⟨#[]⟩, .int .i64 n, .int .i64 0, .int .i64 0]] w' fun e w'' => ∃ d0 dn0 dc0 d1 dn1 dc1 d2 dn2 dc2, e = .returned (.tuple #[.agg #[.slice d0 dn0 dc0, .slice d1 dn1 dc1, .slice d2 dn2 dc2, .int .i64 A2.ops], .int .i64 0]) ∧ (Below W.heap.size W w'' ∧ w''.cell? ⟨B1, 0, none⟩ = some (.slice l0 ln0 lc0) ∧ w''.cell? ⟨B1, 1, none⟩ = some (.slice l1 ln1 lc1) ∧ w''.cell? ⟨B1, 2, none⟩ = some (.slice l2 ln2 lc2) ∧ w''.cell? ⟨B1, 3, none⟩ = some (.int .i64 1)) ∧ Hid (Far w' w'' d0 dn0 dc0 d1 dn1 dc1 d2 dn2 dc2 A2) ∧ Hid (Below w'.heap.size w' w'')) := fun w' q => (HA2.out w' l0 ln0 lc0 l1 ln1 lc1 l2 ln2 lc2 (HVL.out.next q.1)).mono fun e w'' ⟨d0, dn0, dc0, d1, dn1, dc1, d2, dn2, dc2, r1, r2, r3⟩ => ⟨d0, dn0, dc0, d1, dn1, dc1, d2, dn2, dc2, r1, HSN.out _ _ q r3, r2, r3⟩
  have hS0 := HS.out W (Below.refl _ _)
  clear hv k2
  go_upto_region 5 with fail
  try rw [hW]
  try rw [hB1]
  go_cut [9, 10] (fun sa sb wx => ∃ (B : Nat) (e0 : Option Addr) (en0 ec0 : Nat) (e1 : Option Addr) (en1 ec1 : Nat) (e2 : Option Addr) (en2 ec2 : Nat), sa = .pointer (some ⟨B, 0, none⟩) ∧ sb = .int .i64 0 ∧ Hid (Below W.heap.size W wx ∧ CellsF wx B [.slice e0 en0 ec0, .slice e1 en1 ec1, .slice e2 en2 ec2, .int .i64 A2.ops] ∧ Have wx e0 en0 ec0 e1 en1 ec1 e2 en2 ec2 A2))
  case first =>
    go_region_held (fun (w' : World) => (Below W.heap.size W w' ∧ w'.cell? ⟨B1, 0, none⟩ = some (.slice l0 ln0 lc0) ∧ w'.cell? ⟨B1, 1, none⟩ = some (.slice l1 ln1 lc1) ∧ w'.cell? ⟨B1, 2, none⟩ = some (.slice l2 ln2 lc2) ∧ w'.cell? ⟨B1, 3, none⟩ = some (.int .i64 1))) (first | (with_reducible assumption) | (with_reducible exact HSD.out _ (by with_reducible assumption)) | (with_reducible exact HSA.out _ _ (by with_reducible assumption)) | (with_reducible exact HSAD.out _ _ (by with_reducible assumption)) | (with_reducible exact HLAST.out _ _ _ _ _ _ (Nat.le_refl _) (by with_reducible assumption)) | (with_reducible exact HLAST.out _ _ _ _ _ _ HBW3.out.size (by with_reducible assumption)))
      (first
      | ((with_reducible refine Calls.mono (HRS.out _ _ (by with_reducible assumption)) ?_); rintro e w3 ⟨rfl, hS3, HB3⟩; have HBW3 : Hid (Below W.heap.size W w3) := hS3.1; (first | (have hz := ((CellsF.at (w := W) [.slice none 0 0, .slice none 0 0, .slice none 0 0, .int .i64 0] 26 (by simp) rfl).next (Below.refl _ _).drew).next HB3.out; have HZ3 : Hid _ := hz; clear hz) | (have hz := (CellsF.at (w := W.drew) [.slice none 0 0, .slice none 0 0, .slice none 0 0, .int .i64 0] 26 (by simp) rfl).next HB3.out; have HZ3 : Hid _ := hz; clear hz) | skip))
      | ((with_reducible refine Calls.mono (HS2.out _ (by with_reducible assumption)) ?_); rintro e w4 ⟨d0, dn0, dc0, d1, dn1, dc1, d2, dn2, dc2, rfl, hS4, HV4, HB4⟩; have HBW4 : Hid (Below W.heap.size W w4) := hS4.1; (first | (have hz4 := HZ3.out.next HB4.out; have HLT4 : Hid _ := HZ3.out.lt; have z0 := hz4.cs 0 _ rfl; have z1 := hz4.cs 1 _ rfl; have z2 := hz4.cs 2 _ rfl; have z3 := hz4.cs 3 _ rfl; have g0 := hz4.fz 0; have g1 := hz4.fz 1; have g2 := hz4.fz 2; have g3 := hz4.fz 3; have HZ4 : Hid _ := hz4; clear hz4) | (have hz4 := (CellsF.at (w := w3) [.slice none 0 0, .slice none 0 0, .slice none 0 0, .int .i64 0] 26 (by simp) rfl).next HB4.out; have HLT4 : Hid _ := (CellsF.at (w := w3) [.slice none 0 0, .slice none 0 0, .slice none 0 0, .int .i64 0] 26 (by simp) rfl).lt; have z0 := hz4.cs 0 _ rfl; have z1 := hz4.cs 1 _ rfl; have z2 := hz4.cs 2 _ rfl; have z3 := hz4.cs 3 _ rfl; have g0 := hz4.fz 0; have g1 := hz4.fz 1; have g2 := hz4.fz 2; have g3 := hz4.fz 3; have HZ4 : Hid _ := hz4; clear hz4) | skip)))
    all_goals go_wp2_with fail
    all_goals go_meet
    all_goals first | exact ⟨_, _, _, _, _, _, _, _, _, _, rfl, rfl, below_four HBW4.out _ (by first | exact Nat.le_refl _ | exact HBW3.out.size) _ _ _ _, HZ4.out.four rfl _ _ _ _, HV4.out.four HLT4.out _ _ _ _⟩ | exact ⟨_, _, _, _, _, _, _, _, _, _, rfl, rfl, Below.next HBW4.out (below1 _ _), CellsF.at _ 26 (by simp) rfl, HV4.out.here.next (below1 _ _)⟩
  case rest =>
  obtain ⟨B2, e0, en0, ec0, e1, en1, ec1, e2, en2, ec2, rfl, rfl, HCU⟩ := hcut
  obtain ⟨hS0', x0, x1, x2, x3⟩ := HS.out wc HCU.out.1
  clear hS0 hS0'
  go_wp2_with fail
  refine Calls.mono (HA3.out _ _ _ _ _ _ _ _ _ _ (HVL.out.next HCU.out.1)) ?_; rintro e w5 ⟨g0, gn0, gc0, g1, gn1, gc1, g2, gn2, gc2, rfl, hv, k5⟩
  obtain ⟨X, hX⟩ : ∃ X, w5.alloc (.cells #[.slice g0 gn0 gc0, .slice g1 gn1 gc1, .slice g2 gn2 gc2, .int .i64 A3.ops] 26) = X := ⟨_, rfl⟩
  obtain ⟨B3, hB3⟩ : ∃ B3, w5.heap.size = B3 := ⟨_, rfl⟩
  have hWX : Below W.heap.size W X := by rw [← hX]; exact Below.next (Below.next HCU.out.1 k5) (below1 _ _)
  have HBX : Hid (Below w.heap.size w X) := Below.next HBW.out hWX
  have HVX : Hid (Have X l0 ln0 lc0 l1 ln1 lc1 l2 ln2 lc2 (E1 q)) := HVL.out.next hWX
  have HCX : Hid (CellsF X B1 [.slice l0 ln0 lc0, .slice l1 ln1 lc1, .slice l2 ln2 lc2, .int .i64 1]) := HCL.out.next hWX
  have HVa : Hid (Have X e0 en0 ec0 e1 en1 ec1 e2 en2 ec2 A2 ∧ CellsF X B2 [.slice e0 en0 ec0, .slice e1 en1 ec1, .slice e2 en2 ec2, .int .i64 A2.ops]) := by show _ ∧ _; rw [← hX]; exact ⟨(HCU.out.2.2.next k5).next (below1 _ _), (HCU.out.2.1.next k5).next (below1 _ _)⟩
  have HVb : Hid (Have X g0 gn0 gc0 g1 gn1 gc1 g2 gn2 gc2 A3 ∧ CellsF X B3 [.slice g0 gn0 gc0, .slice g1 gn1 gc1, .slice g2 gn2 gc2, .int .i64 A3.ops]) := by show _ ∧ _; rw [← hX, ← hB3]; exact ⟨hv.here.next (below1 _ _), CellsF.at _ 26 (by simp) rfl⟩
  clear HS HSN HSD HSA HSAD HLAST HRS HS2 HVL HCL x0 x1 x2 x3 hv k5 HCU hWX
  have HVL : Hid (Have X l0 ln0 lc0 l1 ln1 lc1 l2 ln2 lc2 (E1 q)) := HVX.out
  have HCL : Hid (CellsF X B1 [.slice l0 ln0 lc0, .slice l1 ln1 lc1, .slice l2 ln2 lc2, .int .i64 1]) := HCX.out
  have HS : Hid (∀ w' : World, Below X.heap.size X w' → (Below X.heap.size X w' ∧ w'.cell? ⟨B1, 0, none⟩ = some (.slice l0 ln0 lc0) ∧ w'.cell? ⟨B1, 1, none⟩ = some (.slice l1 ln1 lc1) ∧ w'.cell? ⟨B1, 2, none⟩ = some (.slice l2 ln2 lc2) ∧ w'.cell? ⟨B1, 3, none⟩ = some (.int .i64 1))) := fun w' k => by
    have q := HCL.out.next k
    exact ⟨k, q.cs 0 _ rfl, q.cs 1 _ rfl, q.cs 2 _ rfl, q.cs 3 _ rfl⟩
  have HSN : Hid (∀ w' w'' : World, (Below X.heap.size X w' ∧ w'.cell? ⟨B1, 0, none⟩ = some (.slice l0 ln0 lc0) ∧ w'.cell? ⟨B1, 1, none⟩ = some (.slice l1 ln1 lc1) ∧ w'.cell? ⟨B1, 2, none⟩ = some (.slice l2 ln2 lc2) ∧ w'.cell? ⟨B1, 3, none⟩ = some (.int .i64 1)) → Below w'.heap.size w' w'' → (Below X.heap.size X w'' ∧ w''.cell? ⟨B1, 0, none⟩ = some (.slice l0 ln0 lc0) ∧ w''.cell? ⟨B1, 1, none⟩ = some (.slice l1 ln1 lc1) ∧ w''.cell? ⟨B1, 2, none⟩ = some (.slice l2 ln2 lc2) ∧ w''.cell? ⟨B1, 3, none⟩ = some (.int .i64 1))) := fun w' w'' h k => HS.out w'' (Below.next h.1 k)
  have HSD : Hid (∀ w' : World, (Below X.heap.size X w' ∧ w'.cell? ⟨B1, 0, none⟩ = some (.slice l0 ln0 lc0) ∧ w'.cell? ⟨B1, 1, none⟩ = some (.slice l1 ln1 lc1) ∧ w'.cell? ⟨B1, 2, none⟩ = some (.slice l2 ln2 lc2) ∧ w'.cell? ⟨B1, 3, none⟩ = some (.int .i64 1)) → (Below X.heap.size X w'.drew ∧ w'.drew.cell? ⟨B1, 0, none⟩ = some (.slice l0 ln0 lc0) ∧ w'.drew.cell? ⟨B1, 1, none⟩ = some (.slice l1 ln1 lc1) ∧ w'.drew.cell? ⟨B1, 2, none⟩ = some (.slice l2 ln2 lc2) ∧ w'.drew.cell? ⟨B1, 3, none⟩ = some (.int .i64 1))) := fun w' h => HSN.out w' _ h (Below.refl _ _).drew
  have HSA : Hid (∀ (w' : World) (z : Obj), (Below X.heap.size X w' ∧ w'.cell? ⟨B1, 0, none⟩ = some (.slice l0 ln0 lc0) ∧ w'.cell? ⟨B1, 1, none⟩ = some (.slice l1 ln1 lc1) ∧ w'.cell? ⟨B1, 2, none⟩ = some (.slice l2 ln2 lc2) ∧ w'.cell? ⟨B1, 3, none⟩ = some (.int .i64 1)) → (Below X.heap.size X (w'.alloc z) ∧ (w'.alloc z).cell? ⟨B1, 0, none⟩ = some (.slice l0 ln0 lc0) ∧ (w'.alloc z).cell? ⟨B1, 1, none⟩ = some (.slice l1 ln1 lc1) ∧ (w'.alloc z).cell? ⟨B1, 2, none⟩ = some (.slice l2 ln2 lc2) ∧ (w'.alloc z).cell? ⟨B1, 3, none⟩ = some (.int .i64 1))) := fun w' z h => HSN.out w' _ h (below1 _ _)
  have HSAD : Hid (∀ (w' : World) (z : Obj), (Below X.heap.size X w' ∧ w'.cell? ⟨B1, 0, none⟩ = some (.slice l0 ln0 lc0) ∧ w'.cell? ⟨B1, 1, none⟩ = some (.slice l1 ln1 lc1) ∧ w'.cell? ⟨B1, 2, none⟩ = some (.slice l2 ln2 lc2) ∧ w'.cell? ⟨B1, 3, none⟩ = some (.int .i64 1)) → (Below X.heap.size X (w'.alloc z).drew ∧ (w'.alloc z).drew.cell? ⟨B1, 0, none⟩ = some (.slice l0 ln0 lc0) ∧ (w'.alloc z).drew.cell? ⟨B1, 1, none⟩ = some (.slice l1 ln1 lc1) ∧ (w'.alloc z).drew.cell? ⟨B1, 2, none⟩ = some (.slice l2 ln2 lc2) ∧ (w'.alloc z).drew.cell? ⟨B1, 3, none⟩ = some (.int .i64 1))) := fun w' z h => HSN.out w' _ h (below1 _ _).drew
  have HLAST : Hid (∀ (w' : World) (B : Nat) (u0 u1 u2 u3 : Value), X.heap.size ≤ B → (Below X.heap.size X w' ∧ w'.cell? ⟨B1, 0, none⟩ = some (.slice l0 ln0 lc0) ∧ w'.cell? ⟨B1, 1, none⟩ = some (.slice l1 ln1 lc1) ∧ w'.cell? ⟨B1, 2, none⟩ = some (.slice l2 ln2 lc2) ∧ w'.cell? ⟨B1, 3, none⟩ = some (.int .i64 1)) → (Below X.heap.size X ((((w'.setCell ⟨B, 0, none⟩ u0).setCell ⟨B, 1, none⟩ u1).setCell ⟨B, 2, none⟩ u2).setCell ⟨B, 3, none⟩ u3) ∧ ((((w'.setCell ⟨B, 0, none⟩ u0).setCell ⟨B, 1, none⟩ u1).setCell ⟨B, 2, none⟩ u2).setCell ⟨B, 3, none⟩ u3).cell? ⟨B1, 0, none⟩ = some (.slice l0 ln0 lc0) ∧ ((((w'.setCell ⟨B, 0, none⟩ u0).setCell ⟨B, 1, none⟩ u1).setCell ⟨B, 2, none⟩ u2).setCell ⟨B, 3, none⟩ u3).cell? ⟨B1, 1, none⟩ = some (.slice l1 ln1 lc1) ∧ ((((w'.setCell ⟨B, 0, none⟩ u0).setCell ⟨B, 1, none⟩ u1).setCell ⟨B, 2, none⟩ u2).setCell ⟨B, 3, none⟩ u3).cell? ⟨B1, 2, none⟩ = some (.slice l2 ln2 lc2) ∧ ((((w'.setCell ⟨B, 0, none⟩ u0).setCell ⟨B, 1, none⟩ u1).setCell ⟨B, 2, none⟩ u2).setCell ⟨B, 3, none⟩ u3).cell? ⟨B1, 3, none⟩ = some (.int .i64 1))) := fun w' B u0 u1 u2 u3 hB h => HS.out _ (below_four h.1 B hB u0 u1 u2 u3)
  have HRS : Hid (∀ (t : ByteArray) (w' : World), (Below X.heap.size X w' ∧ w'.cell? ⟨B1, 0, none⟩ = some (.slice l0 ln0 lc0) ∧ w'.cell? ⟨B1, 1, none⟩ = some (.slice l1 ln1 lc1) ∧ w'.cell? ⟨B1, 2, none⟩ = some (.slice l2 ln2 lc2) ∧ w'.cell? ⟨B1, 3, none⟩ = some (.int .i64 1)) → Calls Try.prog 23 #[.string ⟨#[115]⟩, .string t, .int .i64 n] w' fun e w'' => e = .returned (.agg #[.int .i64 1, .string ⟨#[115]⟩, .string t, .string ⟨#[]⟩, .int .i64 n, .int .i64 0, .int .i64 0]) ∧ (Below X.heap.size X w'' ∧ w''.cell? ⟨B1, 0, none⟩ = some (.slice l0 ln0 lc0) ∧ w''.cell? ⟨B1, 1, none⟩ = some (.slice l1 ln1 lc1) ∧ w''.cell? ⟨B1, 2, none⟩ = some (.slice l2 ln2 lc2) ∧ w''.cell? ⟨B1, 3, none⟩ = some (.int .i64 1)) ∧ Hid (Below w'.heap.size w' w'')) := fun t w' q => (HR.out t n w').mono fun e w'' ⟨r1, r2⟩ => ⟨r1, HSN.out _ _ q r2, r2⟩
  have HS4 : Hid (∀ w' : World, (Below X.heap.size X w' ∧ w'.cell? ⟨B1, 0, none⟩ = some (.slice l0 ln0 lc0) ∧ w'.cell? ⟨B1, 1, none⟩ = some (.slice l1 ln1 lc1) ∧ w'.cell? ⟨B1, 2, none⟩ = some (.slice l2 ln2 lc2) ∧ w'.cell? ⟨B1, 3, none⟩ = some (.int .i64 1)) → Calls Try.prog 11 #[.agg #[.slice l0 ln0 lc0, .slice l1 ln1 lc1, .slice l2 ln2 lc2, .int .i64 1], .agg #[.int .i64 1, .string ⟨#[115]⟩, .string ⟨#[121]⟩, .string ⟨#[]⟩, .int .i64 n, .int .i64 0, .int .i64 0]] w' fun e w'' => ∃ d0 dn0 dc0 d1 dn1 dc1 d2 dn2 dc2, e = .returned (.tuple #[.agg #[.slice d0 dn0 dc0, .slice d1 dn1 dc1, .slice d2 dn2 dc2, .int .i64 2], .int .i64 0]) ∧ (Below X.heap.size X w'' ∧ w''.cell? ⟨B1, 0, none⟩ = some (.slice l0 ln0 lc0) ∧ w''.cell? ⟨B1, 1, none⟩ = some (.slice l1 ln1 lc1) ∧ w''.cell? ⟨B1, 2, none⟩ = some (.slice l2 ln2 lc2) ∧ w''.cell? ⟨B1, 3, none⟩ = some (.int .i64 1)) ∧ Hid (Far w' w'' d0 dn0 dc0 d1 dn1 dc1 d2 dn2 dc2 (E3 q n)) ∧ Hid (Below w'.heap.size w' w'')) := fun w' q => (HA4.out w' l0 ln0 lc0 l1 ln1 lc1 l2 ln2 lc2 (HVL.out.next q.1)).mono fun e w'' ⟨d0, dn0, dc0, d1, dn1, dc1, d2, dn2, dc2, r1, r2, r3⟩ => ⟨d0, dn0, dc0, d1, dn1, dc1, d2, dn2, dc2, r1, HSN.out _ _ q r3, r2, r3⟩
  have hS0 := HS.out X (Below.refl _ _)
  go_upto_region 9 with fail
  try rw [hX]
  try rw [hB1]
  go_cut [13, 14] (fun sa sb wx => ∃ (B : Nat) (h0 : Option Addr) (hn0 hc0 : Nat) (h1 : Option Addr) (hn1 hc1 : Nat) (h2 : Option Addr) (hn2 hc2 : Nat), sa = .pointer (some ⟨B, 0, none⟩) ∧ sb = .int .i64 0 ∧ Hid (Below X.heap.size X wx ∧ CellsF wx B [.slice h0 hn0 hc0, .slice h1 hn1 hc1, .slice h2 hn2 hc2, .int .i64 2] ∧ Have wx h0 hn0 hc0 h1 hn1 hc1 h2 hn2 hc2 (E3 q n)))
  case first =>
    go_region_held (fun (w' : World) => (Below X.heap.size X w' ∧ w'.cell? ⟨B1, 0, none⟩ = some (.slice l0 ln0 lc0) ∧ w'.cell? ⟨B1, 1, none⟩ = some (.slice l1 ln1 lc1) ∧ w'.cell? ⟨B1, 2, none⟩ = some (.slice l2 ln2 lc2) ∧ w'.cell? ⟨B1, 3, none⟩ = some (.int .i64 1))) (first | (with_reducible assumption) | (with_reducible exact HSD.out _ (by with_reducible assumption)) | (with_reducible exact HSA.out _ _ (by with_reducible assumption)) | (with_reducible exact HSAD.out _ _ (by with_reducible assumption)) | (with_reducible exact HLAST.out _ _ _ _ _ _ (Nat.le_refl _) (by with_reducible assumption)) | (with_reducible exact HLAST.out _ _ _ _ _ _ HBW3.out.size (by with_reducible assumption)))
      (first
      | ((with_reducible refine Calls.mono (HRS.out _ _ (by with_reducible assumption)) ?_); rintro e w3 ⟨rfl, hS3, HB3⟩; have HBW3 : Hid (Below X.heap.size X w3) := hS3.1; (first | (have hz := ((CellsF.at (w := X) [.slice none 0 0, .slice none 0 0, .slice none 0 0, .int .i64 0] 26 (by simp) rfl).next (Below.refl _ _).drew).next HB3.out; have HZ3 : Hid _ := hz; clear hz) | (have hz := (CellsF.at (w := X.drew) [.slice none 0 0, .slice none 0 0, .slice none 0 0, .int .i64 0] 26 (by simp) rfl).next HB3.out; have HZ3 : Hid _ := hz; clear hz) | skip))
      | ((with_reducible refine Calls.mono (HS4.out _ (by with_reducible assumption)) ?_); rintro e w4 ⟨d0, dn0, dc0, d1, dn1, dc1, d2, dn2, dc2, rfl, hS4, HV4, HB4⟩; have HBW4 : Hid (Below X.heap.size X w4) := hS4.1; (first | (have hz4 := HZ3.out.next HB4.out; have HLT4 : Hid _ := HZ3.out.lt; have z0 := hz4.cs 0 _ rfl; have z1 := hz4.cs 1 _ rfl; have z2 := hz4.cs 2 _ rfl; have z3 := hz4.cs 3 _ rfl; have g0 := hz4.fz 0; have g1 := hz4.fz 1; have g2 := hz4.fz 2; have g3 := hz4.fz 3; have HZ4 : Hid _ := hz4; clear hz4) | (have hz4 := (CellsF.at (w := w3) [.slice none 0 0, .slice none 0 0, .slice none 0 0, .int .i64 0] 26 (by simp) rfl).next HB4.out; have HLT4 : Hid _ := (CellsF.at (w := w3) [.slice none 0 0, .slice none 0 0, .slice none 0 0, .int .i64 0] 26 (by simp) rfl).lt; have z0 := hz4.cs 0 _ rfl; have z1 := hz4.cs 1 _ rfl; have z2 := hz4.cs 2 _ rfl; have z3 := hz4.cs 3 _ rfl; have g0 := hz4.fz 0; have g1 := hz4.fz 1; have g2 := hz4.fz 2; have g3 := hz4.fz 3; have HZ4 : Hid _ := hz4; clear hz4) | skip)))
    all_goals go_wp2_with fail
    all_goals go_meet
    all_goals first | exact ⟨_, _, _, _, _, _, _, _, _, _, rfl, rfl, below_four HBW4.out _ (by first | exact Nat.le_refl _ | exact HBW3.out.size) _ _ _ _, HZ4.out.four rfl _ _ _ _, HV4.out.four HLT4.out _ _ _ _⟩ | exact ⟨_, _, _, _, _, _, _, _, _, _, rfl, rfl, Below.next HBW4.out (below1 _ _), CellsF.at _ 26 (by simp) rfl, HV4.out.here.next (below1 _ _)⟩
  case rest =>
  obtain ⟨B4, h0, hn0, hc0, h1, hn1, hc1, h2, hn2, hc2, rfl, rfl, HCV⟩ := hcut
  have y0 := HCV.out.2.1.cs 0 _ rfl
  have y1 := HCV.out.2.1.cs 1 _ rfl
  have y2 := HCV.out.2.1.cs 2 _ rfl
  have y3 := HCV.out.2.1.cs 3 _ rfl
  clear hS0
  go_wp2_with fail
  refine Calls.mono (HA5.out _ _ _ _ _ _ _ _ _ _ HCV.out.2.2) ?_; rintro e w7 ⟨p0, pn0, pc0, p1, pn1, pc1, p2, pn2, pc2, rfl, hv, k7⟩
  have hX7 : Below X.heap.size X w7 := Below.next HCV.out.1 k7
  have HB7 : Hid (Below w.heap.size w w7) := Below.next HBX.out hX7
  clear y0 y1 y2 y3
  have HV7 : Hid (∀ z, Have (w7.alloc z) e0 en0 ec0 e1 en1 ec1 e2 en2 ec2 A2 ∧ CellsF (w7.alloc z) B2 [.slice e0 en0 ec0, .slice e1 en1 ec1, .slice e2 en2 ec2, .int .i64 A2.ops] ∧ Have (w7.alloc z) g0 gn0 gc0 g1 gn1 gc1 g2 gn2 gc2 A3 ∧ CellsF (w7.alloc z) B3 [.slice g0 gn0 gc0, .slice g1 gn1 gc1, .slice g2 gn2 gc2, .int .i64 A3.ops] ∧ Have (w7.alloc z) p0 pn0 pc0 p1 pn1 pc1 p2 pn2 pc2 A5) := fun z => ⟨(HVa.out.1.next hX7).next (below1 _ _), (HVa.out.2.next hX7).next (below1 _ _), (HVb.out.1.next hX7).next (below1 _ _), (HVb.out.2.next hX7).next (below1 _ _), hv.here.next (below1 _ _)⟩
  have HCD : Hid (∀ t, CellsF (w7.alloc (.cells #[.slice p0 pn0 pc0, .slice p1 pn1 pc1, .slice p2 pn2 pc2, .int .i64 A5.ops] t)) w7.heap.size [.slice p0 pn0 pc0, .slice p1 pn1 pc1, .slice p2 pn2 pc2, .int .i64 A5.ops]) := fun t => CellsF.at _ t (by simp) rfl
  have y0 := fun z => (HV7.out z).2.1.cs 0 _ rfl
  have y1 := fun z => (HV7.out z).2.1.cs 1 _ rfl
  have y2 := fun z => (HV7.out z).2.1.cs 2 _ rfl
  have y3 := fun z => (HV7.out z).2.1.cs 3 _ rfl
  clear hv k7 hX7
  go_wp2_with fail
  refine Calls.mono (HF2.out _ _ _ _ _ _ _ _ _ _ (HV7.out _).1) ?_; rintro e w8 ⟨rfl, k8⟩
  have hb := (HV7.out _).2.2.2.1.next k8
  have hd := (HCD.out _).next k8
  have HV8 : Hid (Have w8 g0 gn0 gc0 g1 gn1 gc1 g2 gn2 gc2 A3 ∧ Have w8 p0 pn0 pc0 p1 pn1 pc1 p2 pn2 pc2 A5 ∧ CellsF w8 w7.heap.size [.slice p0 pn0 pc0, .slice p1 pn1 pc1, .slice p2 pn2 pc2, .int .i64 A5.ops] ∧ Below w.heap.size w w8) := ⟨(HV7.out _).2.2.1.next k8, (HV7.out _).2.2.2.2.next k8, hd, Below.next (Below.next HB7.out (below1 _ _)) k8⟩
  have z0 := hb.cs 0 _ rfl
  have z1 := hb.cs 1 _ rfl
  have z2 := hb.cs 2 _ rfl
  have z3 := hb.cs 3 _ rfl
  clear hb hd k8 y0 y1 y2 y3
  go_wp2_with fail
  refine Calls.mono (HF3.out _ _ _ _ _ _ _ _ _ _ HV8.out.1) ?_; rintro e w9 ⟨rfl, k9⟩
  have hd := HV8.out.2.2.1.next k9
  have HV9 : Hid (Have w9 p0 pn0 pc0 p1 pn1 pc1 p2 pn2 pc2 A5 ∧ Below w.heap.size w w9) := ⟨HV8.out.2.1.next k9, Below.next HV8.out.2.2.2 k9⟩
  have u0 := hd.cs 0 _ rfl
  have u1 := hd.cs 1 _ rfl
  have u2 := hd.cs 2 _ rfl
  have u3 := hd.cs 3 _ rfl
  clear hd k9 z0 z1 z2 z3
  go_wp2_with fail
  refine Calls.mono (HF5.out _ _ _ _ _ _ _ _ _ _ HV9.out.1) ?_; rintro e w10 ⟨rfl, k10⟩
  have HB10 : Hid (Below w.heap.size w w10) := Below.next HV9.out.2 k10
  clear k10 u0 u1 u2 u3
  go_wp2_with fail
  refine Calls.mono (HAW.out _) ?_; rintro e w11 ⟨rfl, k11⟩
  have HB11 : Hid (Below w.heap.size w w11) := Below.next HB10.out k11
  clear k11
  go_wp2_with fail
  go_ret
  exact ⟨rfl, HB11.out⟩
end Go.Proofs.Ytgbomgfffhfliaa
