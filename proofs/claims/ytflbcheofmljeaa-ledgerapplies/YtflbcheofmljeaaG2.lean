/- The document's ledger: expire. The document's ledger: over. The document's ledger: over, of a commit. -/
import Derived.Test.YtflbcheofmljeaaG1
namespace Go.Proofs.Ytflbcheofmljeaa
open Go.ChangeShapes Go.WideShapes Go.RowKit
set_option linter.unusedVariables false
set_option maxRecDepth 100000

theorem negIn {x : Int} (h : 1 ≤ x ∧ x ≤ 9223372036854775807) : IntKind.i64.wrap (-x) = -x := by rw [IntKind.wrap_i64]; omega
theorem exp_yes {L : Led} {D : Int} {k : Nat} {x : Hld} (hx : (expL L D k).H[k]? = some x) (hd : dueH D x) : expL L D (k + 1) = endL (expL L D k) k x 2 := by
  show (match (expL L D k).H[k]? with | some x => if dueH D x then endL (expL L D k) k x 2 else expL L D k | none => expL L D k) = _
  rw [hx]
  exact if_pos hd
theorem exp_no {L : Led} {D : Int} {k : Nat} {x : Hld} (hx : (expL L D k).H[k]? = some x) (hd : ¬ dueH D x) : expL L D (k + 1) = expL L D k := by
  show (match (expL L D k).H[k]? with | some x => if dueH D x then endL (expL L D k) k x 2 else expL L D k | none => expL L D k) = _
  rw [hx]
  exact if_neg hd
theorem setS_some {H : List Hld} {k : Nat} {x : Hld} (h : H[k]? = some x) (st : Int) : setS H k st = H.set k { x with st := st } := by unfold setS; rw [h]
/-- No list of a ledger lies in a block. -/
structure NotAt (N : Nat) (a0 a1 a2 : Option Addr) (L : Led) : Prop where
  S : L.S ≠ [] → ∀ b' o', a0 = some (Addr.mk b' o' none) → b' ≠ N
  H : L.H ≠ [] → ∀ b' o', a1 = some (Addr.mk b' o' none) → b' ≠ N
  M : L.M ≠ [] → ∀ b' o', a2 = some (Addr.mk b' o' none) → b' ≠ N
/-- Each list of a ledger is an argument's, or lies in a block that was not there. -/
structure SrcL (w : World) (a0 a1 a2 : Option Addr) (La : Led) (b0 b1 b2 : Option Addr) (L : Led) : Prop where
  S : L.S ≠ [] → ∀ b' o', b0 = some (Addr.mk b' o' none) → w.heap.size ≤ b' ∨ (La.S ≠ [] ∧ b0 = a0)
  H : L.H ≠ [] → ∀ b' o', b1 = some (Addr.mk b' o' none) → w.heap.size ≤ b' ∨ (La.H ≠ [] ∧ b1 = a1)
  M : L.M ≠ [] → ∀ b' o', b2 = some (Addr.mk b' o' none) → w.heap.size ≤ b' ∨ (La.M ≠ [] ∧ b2 = a2)
theorem SrcL.refl (w : World) (a0 a1 a2 : Option Addr) (L : Led) : SrcL w a0 a1 a2 L a0 a1 a2 L := ⟨fun h _ _ _ => .inr ⟨h, rfl⟩, fun h _ _ _ => .inr ⟨h, rfl⟩, fun h _ _ _ => .inr ⟨h, rfl⟩⟩
theorem SrcL.not {w : World} {a0 a1 a2 : Option Addr} {La : Led} {b0 b1 b2 : Option Addr} {L : Led} (h : SrcL w a0 a1 a2 La b0 b1 b2 L) {N : Nat} (hN : N < w.heap.size) (hn : NotAt N a0 a1 a2 La) : NotAt N b0 b1 b2 L := by
  refine ⟨fun hne b' o' e => ?_, fun hne b' o' e => ?_, fun hne b' o' e => ?_⟩
  · rcases h.S hne b' o' e with q | q
    · omega
    · exact hn.S q.1 b' o' (q.2 ▸ e)
  · rcases h.H hne b' o' e with q | q
    · omega
    · exact hn.H q.1 b' o' (q.2 ▸ e)
  · rcases h.M hne b' o' e with q | q
    · omega
    · exact hn.M q.1 b' o' (q.2 ▸ e)
def RowAt {α : Type} (w : World) (l : List α) (e : Option Addr) (la : List α) (a : Option Addr) : Prop := l ≠ [] → ∀ b' o', e = some (Addr.mk b' o' none) → b' ≠ w.heap.size ∧ b' ≠ w.heap.size + 1 ∧ (w.heap.size ≤ b' ∨ (la ≠ [] ∧ e = a))
/-- An answer that is a ledger. -/
def LdP (a0 a1 a2 : Option Addr) (La : Led) (w w' : World) (L : Led) (e : Ending) : Prop := ∃ b0 m0 d0 b1 m1 d1 b2 m2 d2, e = .returned (.agg #[.slice b0 m0 d0, .slice b1 m1 d1, .slice b2 m2 d2, .int .i64 L.ops]) ∧ L.S.length = m0 ∧ L.H.length = m1 ∧ L.M.length = m2 ∧ Lies w' b0 b1 b2 L ∧ m1 ≤ d1 ∧ Below w.heap.size w w' ∧ SrcL w a0 a1 a2 La b0 b1 b2 L
set_option maxHeartbeats 8000000 in
theorem rexp_is (a0 : Option Addr) (n0 c0 : Nat) (a1 : Option Addr) (n1 c1 : Nat) (a2 : Option Addr) (n2 c2 : Nat) (ops : Int) (L : Led) (hm : mayL L) (hf : L.fit) (hops : L.ops = ops) (h0 : L.S.length = n0) (h1 : L.H.length = n1) (h2 : L.M.length = n2) (hcap : n1 ≤ c1) (D : Int) (w : World) (hr : Lies w a0 a1 a2 L) :
    Calls Try.prog 55 #[.agg #[.slice a0 n0 c0, .slice a1 n1 c1, .slice a2 n2 c2, .int .i64 ops], .int .i64 D] w fun e w' => LdP a0 a1 a2 L w w' (expL L D L.H.length) e := by
  obtain ⟨W, hW⟩ : ∃ W, (w.alloc (.cells #[.slice a0 n0 c0, .slice a1 n1 c1, .slice a2 n2 c2, .int .i64 ops] 26)).alloc (.cells #[.slice none 0 0, .slice none 0 0, .slice none 0 0, .int .i64 0] 26) = W := ⟨_, rfl⟩
  have HC : Hid (CellsF W w.heap.size [.slice a0 n0 c0, .slice a1 n1 c1, .slice a2 n2 c2, .int .i64 ops] ∧ CellsF W (w.heap.size + 1) [.slice none 0 0, .slice none 0 0, .slice none 0 0, .int .i64 0] ∧ Below w.heap.size w W) := by
    show _ ∧ _
    rw [← hW]
    exact ⟨(CellsF.at _ 26 (by simp) rfl).next (below1 _ _), CellsF.at _ 26 (by simp) (by rw [size_alloc]), below2 _ _ _⟩
  have hln := lens hm
  have HL : Hid (mayL L ∧ L.fit ∧ L.ops = ops ∧ L.S.length = n0 ∧ L.H.length = n1 ∧ L.M.length = n2 ∧ n1 ≤ 4096 ∧ Rw mvv 6 w a2 L.M) := ⟨hm, hf, hops, h0, h1, h2, by omega, hr.M⟩
  have hn1 : n1 ≤ 4096 := HL.out.2.2.2.2.2.2.1
  have HI0 : Hid (CellsF W w.heap.size [.slice a0 n0 c0, .slice a1 n1 c1, .slice a2 n2 c2, .int .i64 ops] ∧ CellsF W (w.heap.size + 1) [.slice none 0 0, .slice none 0 0, .slice none 0 0, .int .i64 0] ∧ Rw stv 4 W a0 (expL L D 0).S ∧ Rw hlv 6 W a1 (expL L D 0).H ∧ (expL L D 0).S.length = n0 ∧ n1 ≤ c1 ∧ RowAt w (expL L D 0).S a0 L.S a0 ∧ RowAt w (expL L D 0).H a1 L.H a1 ∧ Below w.heap.size w W) := ⟨HC.out.1, HC.out.2.1, hr.S.next stv_ne HC.out.2.2, hr.H.next hlv_ne HC.out.2.2, h0, hcap, fun hne b' o' e => by have h8 := hr.S.lt stv_ne e hne; exact ⟨by omega, by omega, .inr ⟨hne, rfl⟩⟩, fun hne b' o' e => by have h8 := hr.H.lt hlv_ne e hne; exact ⟨by omega, by omega, .inr ⟨hne, rfl⟩⟩, HC.out.2.2⟩
  clear hm hf hops h0 h1 h2 hr hln hcap
  go_enter Try.func55, Try.ntmps55
  go_wp2_with fail
  try rw [hW]
  clear hW
  go_loopw [5] (fun vi wr => ∃ (k : Nat) (e0 : Option Addr) (en0 ec0 : Nat) (e1 : Option Addr) (ec1 : Nat), k ≤ n1 ∧ vi = .int .i64 k ∧ Hid (CellsF wr w.heap.size [.slice e0 en0 ec0, .slice e1 n1 ec1, .slice a2 n2 c2, .int .i64 ops] ∧ CellsF wr (w.heap.size + 1) [.slice none 0 0, .slice none 0 0, .slice none 0 0, .int .i64 0] ∧ Rw stv 4 wr e0 (expL L D k).S ∧ Rw hlv 6 wr e1 (expL L D k).H ∧ (expL L D k).S.length = en0 ∧ n1 ≤ ec1 ∧ RowAt w (expL L D k).S e0 L.S a0 ∧ RowAt w (expL L D k).H e1 L.H a1 ∧ Below w.heap.size w wr))
    (fun vi _ => n1 - (intOf vi).toNat)
  case atStart => exact ⟨0, a0, n0, c0, a1, c1, Nat.zero_le _, rfl, HI0.out⟩
  case round =>
    obtain ⟨k, e0, en0, ec0, e1, ec1, hk, rfl, HI⟩ := hrel
    have l1 := HI.out.1.cs 1 _ rfl
    by_cases hlt : k < n1
    · have hlti : (k : Int) < (n1 : Int) := by omega
      have HMK : Hid (mayL (expL L D k) ∧ (expL L D k).fit ∧ (expL L D k).H.length = n1) := ⟨expL_may HL.out.1 D k, expL_fit HL.out.1 HL.out.2.1 D k, by rw [expL_len]; exact HL.out.2.2.2.2.1⟩
      have hkl : k < (expL L D k).H.length := by have := HMK.out.2.2; omega
      obtain ⟨pb, po, hap, hpb, hpc⟩ := HI.out.2.2.2.1.hld (fun e => by rw [e] at hkl; simp at hkl)
      have hx := hpc k hkl
      have hxs : (expL L D k).H[k]? = some (expL L D k).H[k] := List.getElem?_eq_getElem hkl
      obtain ⟨x, hxk⟩ : ∃ x, (expL L D k).H[k] = x := ⟨_, rfl⟩
      rw [hxk] at hx hxs
      have HXS : Hid ((expL L D k).H[k]? = some x) := hxs
      subst hap
      clear hpc hxk hxs
      obtain ⟨xi, xs, xl, xq, xt, xd⟩ := x
      obtain ⟨x0, x1, x2, x3, x4, x5⟩ := hx
      dsimp only at x0 x1 x2 x3 x4 x5
      obtain ⟨W2, hW2⟩ : ∃ W2, wr.alloc (.cells #[.int .i64 xi, .string xs, .string xl, .int .i64 xq, .int .i64 xt, .int .i64 xd] 44) = W2 := ⟨_, rfl⟩
      have hk2 : Below wr.heap.size wr W2 := by rw [← hW2]; exact below1 _ _
      have hbx : CellsF W2 wr.heap.size [.int .i64 xi, .string xs, .string xl, .int .i64 xq, .int .i64 xt, .int .i64 xd] := by rw [← hW2]; exact CellsF.at _ 44 (by simp) rfl
      have hcl := HI.out.1.next hk2
      have bx0 := (hbx).cs 0 _ rfl
      have bx1 := (hbx).cs 1 _ rfl
      have bx2 := (hbx).cs 2 _ rfl
      have bx3 := (hbx).cs 3 _ rfl
      have bx4 := (hbx).cs 4 _ rfl
      have bx5 := (hbx).cs 5 _ rfl
      have cl0 := (hcl).cs 0 _ rfl
      have cl1 := (hcl).cs 1 _ rfl
      have cl2 := (hcl).cs 2 _ rfl
      have cl3 := (hcl).cs 3 _ rfl
      have HNX : Hid (¬ dueH D ⟨xi, xs, xl, xq, xt, xd⟩ → CellsF W2 w.heap.size [.slice e0 en0 ec0, .slice (some ⟨pb, po, none⟩) n1 ec1, .slice a2 n2 c2, .int .i64 ops] ∧ CellsF W2 (w.heap.size + 1) [.slice none 0 0, .slice none 0 0, .slice none 0 0, .int .i64 0] ∧ Rw stv 4 W2 e0 (expL L D (k + 1)).S ∧ Rw hlv 6 W2 (some ⟨pb, po, none⟩) (expL L D (k + 1)).H ∧ (expL L D (k + 1)).S.length = en0 ∧ n1 ≤ ec1 ∧ RowAt w (expL L D (k + 1)).S e0 L.S a0 ∧ RowAt w (expL L D (k + 1)).H (some ⟨pb, po, none⟩) L.H a1 ∧ Below w.heap.size w W2) := fun q => by
        rw [exp_no HXS.out q]
        exact ⟨HI.out.1.next hk2, HI.out.2.1.next hk2, HI.out.2.2.1.next stv_ne hk2, HI.out.2.2.2.1.next hlv_ne hk2, HI.out.2.2.2.2.1, HI.out.2.2.2.2.2.1, HI.out.2.2.2.2.2.2.1, HI.out.2.2.2.2.2.2.2.1, Below.next HI.out.2.2.2.2.2.2.2.2 hk2⟩
      by_cases q0 : xt = 0
      · have q0b : (xt == 0) = true := by simpa using q0
        have HQ0 : Hid (xt = 0) := q0
        clear q0
        by_cases q1 : 0 < xd
        · by_cases q2 : xd ≤ D
          · have hd : dueH D ⟨xi, xs, xl, xq, xt, xd⟩ := ⟨HQ0.out, (show (1 : Int) ≤ xd by omega), q2⟩
            have hen := endL_may HMK.out.1 HXS.out HQ0.out (st := 2) (.inr rfl)
            have hxo := mayH_at HMK.out.1 HXS.out
            have hxf := (HMK.out.2.1.H _ hxo.2).qty
            have hqq : 1 ≤ xq := hxo.1.2.2.2.1
            have hfk := (findK_fit HMK.out.2.1.S xs xl).held
            have hen2 : 0 ≤ (findK (expL L D k).S xs xl).held - xq := hen.2
            have hin : i64b ((findK (expL L D k).S xs xl).held + -xq) := by unfold i64b at hfk ⊢; omega
            have hng : IntKind.i64.wrap (-xq) = -xq := negIn (by unfold i64b at hxf; dsimp only at hxf; omega)
            have hll := lens HMK.out.1
            have HH : Hid _ := rheld_is e0 en0 ec0 (some ⟨pb, po, none⟩) n1 ec1 a2 n2 c2 ops (expL L D k).S HI.out.2.2.2.2.1 (by have := HI.out.2.2.2.2.1; omega) HMK.out.1.S.2 xs xl (-xq) hin W2 (HI.out.2.2.1.next stv_ne hk2)
            have HST : Hid (∀ w' b0 m0 d0, Below W2.heap.size W2 w' → Calls Try.prog 78 #[.agg #[.slice b0 m0 d0, .slice (some ⟨pb, po, none⟩) n1 ec1, .slice a2 n2 c2, .int .i64 ops], .int .i64 k, .int .i64 2] w' fun e w'' => StaP w' w'' (setS (expL L D k).H k 2) b0 m0 d0 a2 n2 c2 ops e) := fun w' b0 m0 d0 q => rstate_is b0 m0 d0 pb po n1 ec1 a2 n2 c2 ops (expL L D k).H HMK.out.2.2 (by omega) HI.out.2.2.2.2.2.1 k hlt 2 w' (HI.out.2.2.2.1.next hlv_ne (Below.next hk2 q))
            have HEX : Hid ((expL L D (k + 1)).S = addHeld (expL L D k).S xs xl (-xq) ∧ (expL L D (k + 1)).H = setS (expL L D k).H k 2) := by
              show _ ∧ _
              rw [exp_yes HXS.out hd, setS_some HXS.out]
              exact ⟨rfl, rfl⟩
            have HCL : Hid (CellsF W2 w.heap.size [.slice e0 en0 ec0, .slice (some ⟨pb, po, none⟩) n1 ec1, .slice a2 n2 c2, .int .i64 ops] ∧ CellsF W2 (w.heap.size + 1) [.slice none 0 0, .slice none 0 0, .slice none 0 0, .int .i64 0] ∧ Below w.heap.size w W2) := ⟨hcl, HI.out.2.1.next hk2, Below.next HI.out.2.2.2.2.2.2.2.2 hk2⟩
            clear HNX hbx hcl hk2 hd hen hxo hxf hqq hfk hen2 hin hll
            go_wp2_with fail
            refine Calls.mono HH.out ?_; rintro e w3 ⟨b0, m0, d0, rfl, hl3, hr3, k3, nb3⟩
            have HK3 : Hid (Below W2.heap.size W2 w3) := k3
            have HR3 : Hid ((addHeld (expL L D k).S xs xl (-xq)).length = m0 ∧ Rw stv 4 w3 b0 (addHeld (expL L D k).S xs xl (-xq)) ∧ ∀ b' o', b0 = some (Addr.mk b' o' none) → W2.heap.size ≤ b') := ⟨hl3, hr3, nb3⟩
            clear hl3 hr3 k3 nb3
            go_wp2_with fail
            refine Calls.mono (HST.out _ _ _ _ HK3.out) ?_; rintro e w4 ⟨b1, m1, d1, rfl, hl4, hr4, k4, nb4, hcap4, hne4⟩
            obtain rfl : n1 = m1 := by rw [← hl4, setS_some HXS.out, List.length_set]; exact HMK.out.2.2.symm
            have hc4 := (HCL.out.1.next HK3.out).next k4
            have hz4 := (HCL.out.2.1.next HK3.out).next k4
            have hlt2 : w.heap.size + 1 < W2.heap.size := HCL.out.2.1.lt
            have hs3 := HK3.out.size
            have HFIN : Hid (∀ u0 u1 u2 u3, CellsF ((((w4.setCell ⟨w.heap.size, 0, none⟩ u0).setCell ⟨w.heap.size, 1, none⟩ u1).setCell ⟨w.heap.size, 2, none⟩ u2).setCell ⟨w.heap.size, 3, none⟩ u3) w.heap.size [u0, u1, u2, u3] ∧ CellsF ((((w4.setCell ⟨w.heap.size, 0, none⟩ u0).setCell ⟨w.heap.size, 1, none⟩ u1).setCell ⟨w.heap.size, 2, none⟩ u2).setCell ⟨w.heap.size, 3, none⟩ u3) (w.heap.size + 1) [.slice none 0 0, .slice none 0 0, .slice none 0 0, .int .i64 0] ∧ Rw stv 4 ((((w4.setCell ⟨w.heap.size, 0, none⟩ u0).setCell ⟨w.heap.size, 1, none⟩ u1).setCell ⟨w.heap.size, 2, none⟩ u2).setCell ⟨w.heap.size, 3, none⟩ u3) b0 (expL L D (k + 1)).S ∧ Rw hlv 6 ((((w4.setCell ⟨w.heap.size, 0, none⟩ u0).setCell ⟨w.heap.size, 1, none⟩ u1).setCell ⟨w.heap.size, 2, none⟩ u2).setCell ⟨w.heap.size, 3, none⟩ u3) b1 (expL L D (k + 1)).H ∧ (expL L D (k + 1)).S.length = m0 ∧ n1 ≤ d1 ∧ RowAt w (expL L D (k + 1)).S b0 L.S a0 ∧ RowAt w (expL L D (k + 1)).H (b1) L.H a1 ∧ Below w.heap.size w ((((w4.setCell ⟨w.heap.size, 0, none⟩ u0).setCell ⟨w.heap.size, 1, none⟩ u1).setCell ⟨w.heap.size, 2, none⟩ u2).setCell ⟨w.heap.size, 3, none⟩ u3)) := fun u0 u1 u2 u3 => by
              rw [HEX.out.1, HEX.out.2]
              refine ⟨hc4.four rfl _ _ _ _, hz4.far (four_far _ _ _ _ _ _ (by omega)), (HR3.out.2.1.next stv_ne k4).far (fun b' o' e hne => four_far _ _ _ _ _ _ (by have := HR3.out.2.2 b' o' e; omega)), hr4.far (fun b' o' e hne => four_far _ _ _ _ _ _ (by have := nb4 b' o' e; omega)), HR3.out.1, hcap4, fun hne b' o' e => by have := HR3.out.2.2 b' o' e; exact ⟨by omega, by omega, .inl (by omega)⟩, fun hne b' o' e => by have := nb4 b' o' e; exact ⟨by omega, by omega, .inl (by omega)⟩, below_four (Below.next (Below.next HCL.out.2.2 HK3.out) k4) _ (Nat.le_refl _) _ _ _ _⟩
            have g0 := hc4.fz 0
            have g1 := hc4.fz 1
            have g2 := hc4.fz 2
            have g3 := hc4.fz 3
            have z0 := hc4.cs 0 _ rfl
            have z1 := hc4.cs 1 _ rfl
            have z2 := hc4.cs 2 _ rfl
            have z3 := hc4.cs 3 _ rfl
            clear hl4 hr4 k4 nb4 hcap4 hne4 hc4 hz4 hlt2 hs3
            go_wp2_with fail
            go_roundw
            case rel => exact ⟨k + 1, _, _, _, _, _, by omega, by go_num, HFIN.out _ _ _ _⟩
            case measure => simp [intOf]; omega
          · have HN : Hid _ := HNX.out (fun q => q2 q.2.2)
            clear HNX hbx hcl hk2
            go_wp2_with fail
            go_roundw
            case rel => exact ⟨k + 1, _, _, _, _, _, by omega, by go_num, HN.out⟩
            case measure => simp [intOf]; omega
        · have HN : Hid _ := HNX.out (fun q => q1 q.2.1)
          clear HNX hbx hcl hk2
          go_wp2_with fail
          go_roundw
          case rel => exact ⟨k + 1, _, _, _, _, _, by omega, by go_num, HN.out⟩
          case measure => simp [intOf]; omega
      · have q0b : (xt == 0) = false := by simpa using q0
        have HN : Hid _ := HNX.out (fun q => q0 q.1)
        clear HNX hbx hcl hk2 q0
        go_wp2_with fail
        go_roundw
        case rel => exact ⟨k + 1, _, _, _, _, _, by omega, by go_num, HN.out⟩
        case measure => simp [intOf]; omega
    · have hlti : ¬ (k : Int) < (n1 : Int) := by omega
      obtain rfl : k = n1 := by omega
      have hz := HI.out.2.1
      have y0 := (hz).cs 0 _ rfl
      have y1 := (hz).cs 1 _ rfl
      have y2 := (hz).cs 2 _ rfl
      have y3 := (hz).cs 3 _ rfl
      have x0 := (HI.out.1).cs 0 _ rfl
      have x1 := (HI.out.1).cs 1 _ rfl
      have x2 := (HI.out.1).cs 2 _ rfl
      have x3 := (HI.out.1).cs 3 _ rfl
      have g0 := hz.fz 0
      have g1 := hz.fz 1
      have g2 := hz.fz 2
      have g3 := hz.fz 3
      have HCZ : Hid (CellsF wr (w.heap.size + 1) [.slice none 0 0, .slice none 0 0, .slice none 0 0, .int .i64 0]) := hz
      have HEQ : Hid (L.H.length = k ∧ (expL L D k).H.length = k ∧ (expL L D k).M = L.M ∧ (expL L D k).ops = ops ∧ L.M.length = n2) := ⟨HL.out.2.2.2.2.1, by rw [expL_len]; exact HL.out.2.2.2.2.1, (expL_kept L D k).2, by rw [expL_ops]; exact HL.out.2.2.1, HL.out.2.2.2.2.2.1⟩
      have HFIN : Hid (∀ u0 u1 u2 u3, Lies ((((wr.setCell ⟨(w.heap.size + 1), 0, none⟩ u0).setCell ⟨(w.heap.size + 1), 1, none⟩ u1).setCell ⟨(w.heap.size + 1), 2, none⟩ u2).setCell ⟨(w.heap.size + 1), 3, none⟩ u3) e0 e1 a2 (expL L D k) ∧ Below w.heap.size w ((((wr.setCell ⟨(w.heap.size + 1), 0, none⟩ u0).setCell ⟨(w.heap.size + 1), 1, none⟩ u1).setCell ⟨(w.heap.size + 1), 2, none⟩ u2).setCell ⟨(w.heap.size + 1), 3, none⟩ u3)) := fun u0 u1 u2 u3 => by
        refine ⟨⟨HI.out.2.2.1.far (fun b' o' e hne => four_far _ _ _ _ _ _ (HI.out.2.2.2.2.2.2.1 hne b' o' e).2.1), HI.out.2.2.2.1.far (fun b' o' e hne => four_far _ _ _ _ _ _ (HI.out.2.2.2.2.2.2.2.1 hne b' o' e).2.1), ?_⟩, below_four HI.out.2.2.2.2.2.2.2.2 _ (by omega) _ _ _ _⟩
        rw [HEQ.out.2.2.1]
        exact HL.out.2.2.2.2.2.2.2.next mvv_ne (below_four HI.out.2.2.2.2.2.2.2.2 _ (by omega) _ _ _ _)
      have HLN : Hid ((expL L D k).S.length = en0 ∧ k ≤ ec1) := ⟨HI.out.2.2.2.2.1, HI.out.2.2.2.2.2.1⟩
      have HML : Hid ((expL L D k).M.length = n2) := by show _ = _; rw [HEQ.out.2.2.1]; exact HEQ.out.2.2.2.2
      have HNA : Hid (SrcL w a0 a1 a2 L e0 e1 a2 (expL L D k)) := ⟨fun hne b' o' e => (HI.out.2.2.2.2.2.2.1 hne b' o' e).2.2, fun hne b' o' e => (HI.out.2.2.2.2.2.2.2.1 hne b' o' e).2.2, fun hne b' o' e => .inr ⟨HEQ.out.2.2.1 ▸ hne, rfl⟩⟩
      clear hz
      go_wp2_with fail
      try simp only [Exit.inBlock, Exit.then]
      refine bodyPost_ret (end_cell rfl rfl (loadLed _ (HCZ.out.four rfl _ _ _ _) rfl)) rfl ?_
      rw [HEQ.out.1]
      exact ⟨_, _, _, _, _, _, _, _, _, by rw [HEQ.out.2.2.2.1], HLN.out.1, HEQ.out.2.1, HML.out, (HFIN.out _ _ _ _).1, HLN.out.2, (HFIN.out _ _ _ _).2, HNA.out⟩
end Go.Proofs.Ytflbcheofmljeaa

namespace Go.Proofs.Ytflbcheofmljeaa
open Go.ChangeShapes Go.WideShapes Go.RowKit
set_option linter.unusedVariables false
set_option maxRecDepth 100000

/-- An answer that is a ledger, and why not. -/
def LeP (a0 a1 a2 : Option Addr) (La : Led) (w w' : World) (L : Led) (err : Int) (e : Ending) : Prop := ∃ b0 m0 d0 b1 m1 d1 b2 m2 d2, e = .returned (.tuple #[.agg #[.slice b0 m0 d0, .slice b1 m1 d1, .slice b2 m2 d2, .int .i64 L.ops], .int .i64 err]) ∧ L.S.length = m0 ∧ L.H.length = m1 ∧ L.M.length = m2 ∧ Lies w' b0 b1 b2 L ∧ m1 ≤ d1 ∧ Below w.heap.size w w' ∧ SrcL w a0 a1 a2 La b0 b1 b2 L
theorem predIn {x : Int} (h : 1 ≤ x ∧ x ≤ 9223372036854775807) : IntKind.i64.wrap (x - 1) = x - 1 := by rw [IntKind.wrap_i64]; omega
set_option maxHeartbeats 4000000 in
theorem rover_far (a0 : Option Addr) (n0 c0 : Nat) (a1 : Option Addr) (n1 c1 : Nat) (a2 : Option Addr) (n2 c2 : Nat) (ops : Int) (L : Led) (hm : mayL L) (hf : L.fit) (hops : L.ops = ops) (h0 : L.S.length = n0) (h1 : L.H.length = n1) (h2 : L.M.length = n2) (hcap : n1 ≤ c1) (kk : Int) (osk ol ot : ByteArray) (oq id od : Int) (hid : 1 ≤ id) (hgt : (n1 : Int) < id) (w : World) (hr : Lies w a0 a1 a2 L) :
    Calls Try.prog 54 #[.agg #[.slice a0 n0 c0, .slice a1 n1 c1, .slice a2 n2 c2, .int .i64 ops], .agg #[.int .i64 kk, .string osk, .string ol, .string ot, .int .i64 oq, .int .i64 id, .int .i64 od]] w fun e w' => LeP a0 a1 a2 L w w' L 71 e := by
  obtain ⟨W, hW⟩ : ∃ W, ((w.alloc (.cells #[.slice a0 n0 c0, .slice a1 n1 c1, .slice a2 n2 c2, .int .i64 ops] 26)).alloc (.cells #[.int .i64 kk, .string osk, .string ol, .string ot, .int .i64 oq, .int .i64 id, .int .i64 od] 28)).alloc (.cells #[.slice none 0 0, .slice none 0 0, .slice none 0 0, .int .i64 0] 26) = W := ⟨_, rfl⟩
  have HC : Hid (CellsF W w.heap.size [.slice a0 n0 c0, .slice a1 n1 c1, .slice a2 n2 c2, .int .i64 ops] ∧ CellsF W (w.heap.size + 1) [.int .i64 kk, .string osk, .string ol, .string ot, .int .i64 oq, .int .i64 id, .int .i64 od] ∧ CellsF W (w.heap.size + 1 + 1) [.slice none 0 0, .slice none 0 0, .slice none 0 0, .int .i64 0] ∧ Below w.heap.size w W) := by
    show _ ∧ _
    rw [← hW]
    exact ⟨((CellsF.at _ 26 (by simp) rfl).next (below1 _ _)).next (below1 _ _), (CellsF.at _ 28 (by simp) (by rw [size_alloc])).next (below1 _ _), CellsF.at _ 26 (by simp) (by rw [size_alloc, size_alloc]), below3 _ _ _ _⟩
  have HL : Hid (L.ops = ops ∧ L.S.length = n0 ∧ L.H.length = n1 ∧ L.M.length = n2 ∧ n1 ≤ c1) := ⟨hops, h0, h1, h2, hcap⟩
  have HFIN : Hid (∀ u0 u1 u2 u3, Lies ((((W.setCell ⟨(w.heap.size + 1 + 1), 0, none⟩ u0).setCell ⟨(w.heap.size + 1 + 1), 1, none⟩ u1).setCell ⟨(w.heap.size + 1 + 1), 2, none⟩ u2).setCell ⟨(w.heap.size + 1 + 1), 3, none⟩ u3) a0 a1 a2 L ∧ Below w.heap.size w ((((W.setCell ⟨(w.heap.size + 1 + 1), 0, none⟩ u0).setCell ⟨(w.heap.size + 1 + 1), 1, none⟩ u1).setCell ⟨(w.heap.size + 1 + 1), 2, none⟩ u2).setCell ⟨(w.heap.size + 1 + 1), 3, none⟩ u3)) := fun u0 u1 u2 u3 => ⟨hr.next (below_four HC.out.2.2.2 _ (by omega) _ _ _ _), below_four HC.out.2.2.2 _ (by omega) _ _ _ _⟩
  have HCZ : Hid (CellsF W (w.heap.size + 1 + 1) [.slice none 0 0, .slice none 0 0, .slice none 0 0, .int .i64 0]) := HC.out.2.2.1
  have HNA : Hid _ := SrcL.refl w a0 a1 a2 L
  have l0 := (HC.out.1).cs 0 _ rfl
  have l1 := (HC.out.1).cs 1 _ rfl
  have l2 := (HC.out.1).cs 2 _ rfl
  have l3 := (HC.out.1).cs 3 _ rfl
  have o0 := (HC.out.2.1).cs 0 _ rfl
  have o1 := (HC.out.2.1).cs 1 _ rfl
  have o2 := (HC.out.2.1).cs 2 _ rfl
  have o3 := (HC.out.2.1).cs 3 _ rfl
  have o4 := (HC.out.2.1).cs 4 _ rfl
  have o5 := (HC.out.2.1).cs 5 _ rfl
  have o6 := (HC.out.2.1).cs 6 _ rfl
  have z0 := (HC.out.2.2.1).cs 0 _ rfl
  have z1 := (HC.out.2.2.1).cs 1 _ rfl
  have z2 := (HC.out.2.2.1).cs 2 _ rfl
  have z3 := (HC.out.2.2.1).cs 3 _ rfl
  have g0 := (HC.out.2.2.1).fz 0
  have g1 := (HC.out.2.2.1).fz 1
  have g2 := (HC.out.2.2.1).fz 2
  have g3 := (HC.out.2.2.1).fz 3
  clear hm hf hops h0 h1 h2 hr hcap
  go_enter Try.func54, Try.ntmps54
  go_wp2_with fail
  try simp only [Exit.inBlock, Exit.then]
  refine bodyPost_ret (end_cell_tmp rfl rfl (loadLed _ (HCZ.out.four rfl _ _ _ _) rfl)) rfl ?_
  exact ⟨_, _, _, _, _, _, _, _, _, by rw [HL.out.1]; rfl, HL.out.2.1, HL.out.2.2.1, HL.out.2.2.2.1, (HFIN.out _ _ _ _).1, HL.out.2.2.2.2, (HFIN.out _ _ _ _).2, HNA.out⟩
set_option maxHeartbeats 4000000 in
theorem rover_no (a0 : Option Addr) (n0 c0 : Nat) (pb po n1 c1 : Nat) (a2 : Option Addr) (n2 c2 : Nat) (ops : Int) (L : Led) (hm : mayL L) (hf : L.fit) (hops : L.ops = ops) (h0 : L.S.length = n0) (h1 : L.H.length = n1) (h2 : L.M.length = n2) (hcap : n1 ≤ c1) (kk : Int) (osk ol ot : ByteArray) (oq od : Int) (j : Nat) (hj : j < n1) (x : Hld) (hx : L.H[j]? = some x) (hst : ¬ x.st = 0) (w : World) (hr : Lies w a0 (some ⟨pb, po, none⟩) a2 L) :
    Calls Try.prog 54 #[.agg #[.slice a0 n0 c0, .slice (some ⟨pb, po, none⟩) n1 c1, .slice a2 n2 c2, .int .i64 ops], .agg #[.int .i64 kk, .string osk, .string ol, .string ot, .int .i64 oq, .int .i64 ((j : Int) + 1), .int .i64 od]] w fun e w' => LeP a0 (some ⟨pb, po, none⟩) a2 L w w' L 71 e := by
  obtain ⟨W, hW⟩ : ∃ W, ((w.alloc (.cells #[.slice a0 n0 c0, .slice (some ⟨pb, po, none⟩) n1 c1, .slice a2 n2 c2, .int .i64 ops] 26)).alloc (.cells #[.int .i64 kk, .string osk, .string ol, .string ot, .int .i64 oq, .int .i64 ((j : Int) + 1), .int .i64 od] 28)).alloc (.cells #[.slice none 0 0, .slice none 0 0, .slice none 0 0, .int .i64 0] 26) = W := ⟨_, rfl⟩
  have HC : Hid (CellsF W w.heap.size [.slice a0 n0 c0, .slice (some ⟨pb, po, none⟩) n1 c1, .slice a2 n2 c2, .int .i64 ops] ∧ CellsF W (w.heap.size + 1) [.int .i64 kk, .string osk, .string ol, .string ot, .int .i64 oq, .int .i64 ((j : Int) + 1), .int .i64 od] ∧ CellsF W (w.heap.size + 1 + 1) [.slice none 0 0, .slice none 0 0, .slice none 0 0, .int .i64 0] ∧ Below w.heap.size w W) := by
    show _ ∧ _
    rw [← hW]
    exact ⟨((CellsF.at _ 26 (by simp) rfl).next (below1 _ _)).next (below1 _ _), (CellsF.at _ 28 (by simp) (by rw [size_alloc])).next (below1 _ _), CellsF.at _ 26 (by simp) (by rw [size_alloc, size_alloc]), below3 _ _ _ _⟩
  have hln := lens hm
  have hbn : n1 ≤ 4096 := by omega
  have wk := wrap_succ j (by omega)
  have hji : (j : Int) < (n1 : Int) := by omega
  have hjg : ¬ (n1 : Int) < (j : Int) + 1 := by omega
  have hjl : j < L.H.length := by omega
  have HAT : Hid (pb < w.heap.size ∧ HldAt w pb (po + j * 6) x) := by
    obtain ⟨b', o', e, q1, q2⟩ := hr.H.hld (fun e => by rw [e] at hjl; simp at hjl)
    cases e
    have h9 := q2 j hjl
    have h8 : L.H[j] = x := by rw [List.getElem?_eq_getElem hjl] at hx; exact Option.some.inj hx
    rw [h8] at h9
    exact ⟨q1, h9⟩
  have HL : Hid (L.ops = ops ∧ L.S.length = n0 ∧ L.H.length = n1 ∧ L.M.length = n2 ∧ n1 ≤ c1) := ⟨hops, h0, h1, h2, hcap⟩
  have HFIN : Hid (∀ u0 u1 u2 u3, Lies ((((W.setCell ⟨(w.heap.size + 1 + 1), 0, none⟩ u0).setCell ⟨(w.heap.size + 1 + 1), 1, none⟩ u1).setCell ⟨(w.heap.size + 1 + 1), 2, none⟩ u2).setCell ⟨(w.heap.size + 1 + 1), 3, none⟩ u3) a0 (some ⟨pb, po, none⟩) a2 L ∧ Below w.heap.size w ((((W.setCell ⟨(w.heap.size + 1 + 1), 0, none⟩ u0).setCell ⟨(w.heap.size + 1 + 1), 1, none⟩ u1).setCell ⟨(w.heap.size + 1 + 1), 2, none⟩ u2).setCell ⟨(w.heap.size + 1 + 1), 3, none⟩ u3)) := fun u0 u1 u2 u3 => ⟨hr.next (below_four HC.out.2.2.2 _ (by omega) _ _ _ _), below_four HC.out.2.2.2 _ (by omega) _ _ _ _⟩
  have HCZ : Hid (CellsF W (w.heap.size + 1 + 1) [.slice none 0 0, .slice none 0 0, .slice none 0 0, .int .i64 0]) := HC.out.2.2.1
  have HNA : Hid _ := SrcL.refl w a0 (some ⟨pb, po, none⟩) a2 L
  obtain ⟨xi, xs, xl, xq, xt, xd⟩ := x
  have hstb : (xt != 0) = true := by simpa using hst
  obtain ⟨y0, y1, y2, y3, y4, y5⟩ := HAT.out.2.next (HC.out.2.2.2.block pb HAT.out.1)
  dsimp only at y0 y1 y2 y3 y4 y5
  have l0 := (HC.out.1).cs 0 _ rfl
  have l1 := (HC.out.1).cs 1 _ rfl
  have l2 := (HC.out.1).cs 2 _ rfl
  have l3 := (HC.out.1).cs 3 _ rfl
  have o0 := (HC.out.2.1).cs 0 _ rfl
  have o1 := (HC.out.2.1).cs 1 _ rfl
  have o2 := (HC.out.2.1).cs 2 _ rfl
  have o3 := (HC.out.2.1).cs 3 _ rfl
  have o4 := (HC.out.2.1).cs 4 _ rfl
  have o5 := (HC.out.2.1).cs 5 _ rfl
  have o6 := (HC.out.2.1).cs 6 _ rfl
  have z0 := (HC.out.2.2.1).cs 0 _ rfl
  have z1 := (HC.out.2.2.1).cs 1 _ rfl
  have z2 := (HC.out.2.2.1).cs 2 _ rfl
  have z3 := (HC.out.2.2.1).cs 3 _ rfl
  have g0 := (HC.out.2.2.1).fz 0
  have g1 := (HC.out.2.2.1).fz 1
  have g2 := (HC.out.2.2.1).fz 2
  have g3 := (HC.out.2.2.1).fz 3
  clear hm hf hops h0 h1 h2 hr hcap hst hx hjl hln
  go_enter Try.func54, Try.ntmps54
  go_wp2_with fail
  try simp only [Exit.inBlock, Exit.then]
  refine bodyPost_ret (end_cell_tmp rfl rfl (loadLed _ (HCZ.out.four rfl _ _ _ _) rfl)) rfl ?_
  exact ⟨_, _, _, _, _, _, _, _, _, by rw [HL.out.1]; rfl, HL.out.2.1, HL.out.2.2.1, HL.out.2.2.2.1, (HFIN.out _ _ _ _).1, HL.out.2.2.2.2, (HFIN.out _ _ _ _).2, HNA.out⟩
set_option maxHeartbeats 8000000 in
theorem rover_up (a0 : Option Addr) (n0 c0 : Nat) (pb po n1 c1 : Nat) (a2 : Option Addr) (n2 c2 : Nat) (ops : Int) (L : Led) (hm : mayL L) (hf : L.fit) (hops : L.ops = ops) (h0 : L.S.length = n0) (h1 : L.H.length = n1) (h2 : L.M.length = n2) (hcap : n1 ≤ c1) (osk ol ot : ByteArray) (oq od : Int) (j : Nat) (hj : j < n1) (x : Hld) (hx : L.H[j]? = some x) (hst : x.st = 0) (w : World) (hr : Lies w a0 (some ⟨pb, po, none⟩) a2 L) :
    Calls Try.prog 54 #[.agg #[.slice a0 n0 c0, .slice (some ⟨pb, po, none⟩) n1 c1, .slice a2 n2 c2, .int .i64 ops], .agg #[.int .i64 4, .string osk, .string ol, .string ot, .int .i64 oq, .int .i64 ((j : Int) + 1), .int .i64 od]] w fun e w' => LeP a0 (some ⟨pb, po, none⟩) a2 L w w' (endL L j x 2) 0 e := by
  obtain ⟨W, hW⟩ : ∃ W, ((w.alloc (.cells #[.slice a0 n0 c0, .slice (some ⟨pb, po, none⟩) n1 c1, .slice a2 n2 c2, .int .i64 ops] 26)).alloc (.cells #[.int .i64 4, .string osk, .string ol, .string ot, .int .i64 oq, .int .i64 ((j : Int) + 1), .int .i64 od] 28)).alloc (.cells #[.slice none 0 0, .slice none 0 0, .slice none 0 0, .int .i64 0] 26) = W := ⟨_, rfl⟩
  have HC : Hid (CellsF W w.heap.size [.slice a0 n0 c0, .slice (some ⟨pb, po, none⟩) n1 c1, .slice a2 n2 c2, .int .i64 ops] ∧ CellsF W (w.heap.size + 1) [.int .i64 4, .string osk, .string ol, .string ot, .int .i64 oq, .int .i64 ((j : Int) + 1), .int .i64 od] ∧ CellsF W (w.heap.size + 1 + 1) [.slice none 0 0, .slice none 0 0, .slice none 0 0, .int .i64 0] ∧ Below w.heap.size w W) := by
    show _ ∧ _
    rw [← hW]
    exact ⟨((CellsF.at _ 26 (by simp) rfl).next (below1 _ _)).next (below1 _ _), (CellsF.at _ 28 (by simp) (by rw [size_alloc])).next (below1 _ _), CellsF.at _ 26 (by simp) (by rw [size_alloc, size_alloc]), below3 _ _ _ _⟩
  have hln := lens hm
  have hbn : n1 ≤ 4096 := by omega
  have wk := wrap_succ j (by omega)
  have hji : (j : Int) < (n1 : Int) := by omega
  have hjg : ¬ (n1 : Int) < (j : Int) + 1 := by omega
  have hjl : j < L.H.length := by omega
  have HAT : Hid (pb < w.heap.size ∧ HldAt w pb (po + j * 6) x) := by
    obtain ⟨b', o', e, q1, q2⟩ := hr.H.hld (fun e => by rw [e] at hjl; simp at hjl)
    cases e
    have h9 := q2 j hjl
    have h8 : L.H[j] = x := by rw [List.getElem?_eq_getElem hjl] at hx; exact Option.some.inj hx
    rw [h8] at h9
    exact ⟨q1, h9⟩
  have hen := endL_may hm hx hst (st := 2) (.inr rfl)
  have hxo := mayH_at hm hx
  have hqq : 1 ≤ x.qty := hxo.1.2.2.2.1
  have hxf := (hf.H _ hxo.2).qty
  have hfk := (findK_fit hf.S x.sku x.loc).held
  have hin : i64b ((findK L.S x.sku x.loc).held + -x.qty) := by unfold i64b at hfk ⊢; omega
  have hng : IntKind.i64.wrap (-x.qty) = -x.qty := negIn (by unfold i64b at hxf; omega)
  have HEX : Hid ((endL L j x 2).S = addHeld L.S x.sku x.loc (-x.qty) ∧ (endL L j x 2).H = setS L.H j 2 ∧ (endL L j x 2).M = L.M ∧ (endL L j x 2).ops = ops) := by show _ ∧ _; rw [setS_some hx]; exact ⟨rfl, rfl, rfl, hops⟩
  generalize endL L j x 2 = L' at HEX ⊢
  have HH : Hid (∀ w', Below w.heap.size w w' → Calls Try.prog 53 #[.agg #[.slice a0 n0 c0, .slice (some ⟨pb, po, none⟩) n1 c1, .slice a2 n2 c2, .int .i64 ops], .agg #[.string x.sku, .string x.loc, .int .i64 0, .int .i64 0], .int .i64 (-x.qty)] w' fun e w'' => PutP w' w'' (addHeld L.S x.sku x.loc (-x.qty)) (some ⟨pb, po, none⟩) n1 c1 a2 n2 c2 ops e) := fun w' q => rheld_is a0 n0 c0 (some ⟨pb, po, none⟩) n1 c1 a2 n2 c2 ops L.S h0 (by omega) hm.S.2 x.sku x.loc (-x.qty) hin w' (hr.S.next stv_ne q)
  have HST : Hid (∀ w' b0 m0 d0, Below w.heap.size w w' → Calls Try.prog 78 #[.agg #[.slice b0 m0 d0, .slice (some ⟨pb, po, none⟩) n1 c1, .slice a2 n2 c2, .int .i64 ops], .int .i64 j, .int .i64 2] w' fun e w'' => StaP w' w'' (setS L.H j 2) b0 m0 d0 a2 n2 c2 ops e) := fun w' b0 m0 d0 q => rstate_is b0 m0 d0 pb po n1 c1 a2 n2 c2 ops L.H h1 (by omega) hcap j hj 2 w' (hr.H.next hlv_ne q)
  have HM : Hid (Rw mvv 6 w a2 L.M ∧ L.M.length = n2) := ⟨hr.M, h2⟩
  obtain ⟨xi, xs, xl, xq, xt, xd⟩ := x
  dsimp only at hng hst HEX HH
  have hstb : (xt != 0) = false := by simpa using hst
  have HSZ : Hid (xt = 0) := hst
  obtain ⟨y0, y1, y2, y3, y4, y5⟩ := HAT.out.2.next (HC.out.2.2.2.block pb HAT.out.1)
  dsimp only at y0 y1 y2 y3 y4 y5
  obtain ⟨W3, hW3⟩ : ∃ W3, (W.alloc (.cells #[.int .i64 xi, .string xs, .string xl, .int .i64 xq, .int .i64 xt, .int .i64 xd] 44)).alloc (.cells #[.string xs, .string xl, .int .i64 0, .int .i64 0] 50) = W3 := ⟨_, rfl⟩
  have HC3 : Hid (CellsF W3 w.heap.size [.slice a0 n0 c0, .slice (some ⟨pb, po, none⟩) n1 c1, .slice a2 n2 c2, .int .i64 ops] ∧ CellsF W3 (w.heap.size + 1) [.int .i64 4, .string osk, .string ol, .string ot, .int .i64 oq, .int .i64 ((j : Int) + 1), .int .i64 od] ∧ CellsF W3 (w.heap.size + 1 + 1) [.slice none 0 0, .slice none 0 0, .slice none 0 0, .int .i64 0] ∧ Below w.heap.size w W3 ∧ CellsF W3 W.heap.size [.int .i64 xi, .string xs, .string xl, .int .i64 xq, .int .i64 xt, .int .i64 xd] ∧ CellsF W3 (W.heap.size + 1) [.string xs, .string xl, .int .i64 0, .int .i64 0]) := by
    show _ ∧ _
    rw [← hW3]
    exact ⟨(HC.out.1.next (below1 _ _)).next (below1 _ _), (HC.out.2.1.next (below1 _ _)).next (below1 _ _), (HC.out.2.2.1.next (below1 _ _)).next (below1 _ _), Below.next HC.out.2.2.2 (below2 _ _ _), (CellsF.at _ 44 (by simp) rfl).next (below1 _ _), CellsF.at _ 50 (by simp) (by rw [size_alloc])⟩
  have HW1 : Hid (∀ z, CellsF (W.alloc z) w.heap.size [.slice a0 n0 c0, .slice (some ⟨pb, po, none⟩) n1 c1, .slice a2 n2 c2, .int .i64 ops]) := fun z => HC.out.1.next (below1 _ _)
  have l0 := (HC.out.1).cs 0 _ rfl
  have l1 := (HC.out.1).cs 1 _ rfl
  have l2 := (HC.out.1).cs 2 _ rfl
  have l3 := (HC.out.1).cs 3 _ rfl
  have o0 := (HC.out.2.1).cs 0 _ rfl
  have o1 := (HC.out.2.1).cs 1 _ rfl
  have o2 := (HC.out.2.1).cs 2 _ rfl
  have o3 := (HC.out.2.1).cs 3 _ rfl
  have o4 := (HC.out.2.1).cs 4 _ rfl
  have o5 := (HC.out.2.1).cs 5 _ rfl
  have o6 := (HC.out.2.1).cs 6 _ rfl
  have p0 := fun z1 z2 => ((HC.out.1.next (below1 W z1)).next (below1 (W.alloc z1) z2)).cs 0 _ rfl
  have p1 := fun z1 z2 => ((HC.out.1.next (below1 W z1)).next (below1 (W.alloc z1) z2)).cs 1 _ rfl
  have p2 := fun z1 z2 => ((HC.out.1.next (below1 W z1)).next (below1 (W.alloc z1) z2)).cs 2 _ rfl
  have p3 := fun z1 z2 => ((HC.out.1.next (below1 W z1)).next (below1 (W.alloc z1) z2)).cs 3 _ rfl
  have b0 := fun z2 => ((CellsF.at (w := W) [.int .i64 xi, .string xs, .string xl, .int .i64 xq, .int .i64 xt, .int .i64 xd] 44 (by simp) rfl).next (below1 _ z2)).cs 0 _ rfl
  have b1 := fun z2 => ((CellsF.at (w := W) [.int .i64 xi, .string xs, .string xl, .int .i64 xq, .int .i64 xt, .int .i64 xd] 44 (by simp) rfl).next (below1 _ z2)).cs 1 _ rfl
  have b2 := fun z2 => ((CellsF.at (w := W) [.int .i64 xi, .string xs, .string xl, .int .i64 xq, .int .i64 xt, .int .i64 xd] 44 (by simp) rfl).next (below1 _ z2)).cs 2 _ rfl
  have b3 := fun z2 => ((CellsF.at (w := W) [.int .i64 xi, .string xs, .string xl, .int .i64 xq, .int .i64 xt, .int .i64 xd] 44 (by simp) rfl).next (below1 _ z2)).cs 3 _ rfl
  have b4 := fun z2 => ((CellsF.at (w := W) [.int .i64 xi, .string xs, .string xl, .int .i64 xq, .int .i64 xt, .int .i64 xd] 44 (by simp) rfl).next (below1 _ z2)).cs 4 _ rfl
  have b5 := fun z2 => ((CellsF.at (w := W) [.int .i64 xi, .string xs, .string xl, .int .i64 xq, .int .i64 xt, .int .i64 xd] 44 (by simp) rfl).next (below1 _ z2)).cs 5 _ rfl
  have HW3 : Hid ((W.alloc (.cells #[.int .i64 xi, .string xs, .string xl, .int .i64 xq, .int .i64 xt, .int .i64 xd] 44)).alloc (.cells #[.string xs, .string xl, .int .i64 0, .int .i64 0] 50) = W3) := hW3
  clear hW3
  clear hm hf hops h0 h1 h2 hr hcap hst hx hjl hln hen hxo hqq hxf hfk hin
  go_enter Try.func54, Try.ntmps54
  go_wp2_with fail
  rw [HW3.out]
  refine Calls.mono (HH.out _ HC3.out.2.2.2.1) ?_; rintro e w3 ⟨b0, m0, d0, rfl, hl3, hr3, k3, nb3⟩
  have hc3 := HC3.out.1.next k3
  obtain ⟨X, hX⟩ : ∃ X, ((((w3.setCell ⟨w.heap.size, 0, none⟩ (.slice b0 m0 d0)).setCell ⟨w.heap.size, 1, none⟩ (.slice (some ⟨pb, po, none⟩) n1 c1)).setCell ⟨w.heap.size, 2, none⟩ (.slice a2 n2 c2)).setCell ⟨w.heap.size, 3, none⟩ (.int .i64 ops)) = X := ⟨_, rfl⟩
  have hlt3 : w.heap.size + 1 + 1 < W3.heap.size := HC3.out.2.2.1.lt
  have HX : Hid (CellsF X w.heap.size [.slice b0 m0 d0, .slice (some ⟨pb, po, none⟩) n1 c1, .slice a2 n2 c2, .int .i64 ops] ∧ CellsF X (w.heap.size + 1) [.int .i64 4, .string osk, .string ol, .string ot, .int .i64 oq, .int .i64 ((j : Int) + 1), .int .i64 od] ∧ CellsF X (w.heap.size + 1 + 1) [.slice none 0 0, .slice none 0 0, .slice none 0 0, .int .i64 0] ∧ Below w.heap.size w X ∧ Rw stv 4 X b0 (addHeld L.S xs xl (-xq)) ∧ (addHeld L.S xs xl (-xq)).length = m0 ∧ (∀ b' o', b0 = some (Addr.mk b' o' none) → w.heap.size + 1 + 1 < b') ∧ w.heap.size + 1 + 1 < X.heap.size) := by
    show _ ∧ _
    rw [← hX]
    exact ⟨hc3.four rfl _ _ _ _, (HC3.out.2.1.next k3).far (four_far _ _ _ _ _ _ (by omega)), (HC3.out.2.2.1.next k3).far (four_far _ _ _ _ _ _ (by omega)), below_four (Below.next HC3.out.2.2.2.1 k3) _ (Nat.le_refl _) _ _ _ _, hr3.far (fun b' o' e hne => four_far _ _ _ _ _ _ (by have := nb3 b' o' e; omega)), hl3, fun b' o' e => Nat.lt_of_lt_of_le hlt3 (nb3 b' o' e), by rw [size_four]; exact Nat.lt_of_lt_of_le hlt3 k3.size⟩
  have q0 := (hc3).cs 0 _ rfl
  have q1 := (hc3).cs 1 _ rfl
  have q2 := (hc3).cs 2 _ rfl
  have q3 := (hc3).cs 3 _ rfl
  have f0 := (hc3).fz 0
  have f1 := (hc3).fz 1
  have f2 := (hc3).fz 2
  have f3 := (hc3).fz 3
  have r0 := (HX.out.1).cs 0 _ rfl
  have r1 := (HX.out.1).cs 1 _ rfl
  have r2 := (HX.out.1).cs 2 _ rfl
  have r3 := (HX.out.1).cs 3 _ rfl
  have u0 := (HX.out.2.1).cs 0 _ rfl
  have u1 := (HX.out.2.1).cs 1 _ rfl
  have u2 := (HX.out.2.1).cs 2 _ rfl
  have u3 := (HX.out.2.1).cs 3 _ rfl
  have u4 := (HX.out.2.1).cs 4 _ rfl
  have u5 := (HX.out.2.1).cs 5 _ rfl
  have u6 := (HX.out.2.1).cs 6 _ rfl
  clear hl3 hr3 k3 nb3 hc3 hlt3 l0 l1 l2 l3 o0 o1 o2 o3 o4 o5 o6 p0 p1 p2 p3 b1 b2 b3 b4 b5 y0 y1 y2 y3 y4 y5
  go_wp2_with fail
  refine Calls.mono (HST.out _ _ _ _ HX.out.2.2.2.1) ?_; rintro e w4 ⟨v1, m1, d1, rfl, hl4, hr4, k4, nb4, hcap4, hne4⟩
  have hz4 := HX.out.2.2.1.next k4
  have HCZ : Hid (CellsF w4 (w.heap.size + 1 + 1) [.slice none 0 0, .slice none 0 0, .slice none 0 0, .int .i64 0]) := hz4
  have HFIN : Hid (∀ u0 u1 u2 u3, Lies ((((w4.setCell ⟨(w.heap.size + 1 + 1), 0, none⟩ u0).setCell ⟨(w.heap.size + 1 + 1), 1, none⟩ u1).setCell ⟨(w.heap.size + 1 + 1), 2, none⟩ u2).setCell ⟨(w.heap.size + 1 + 1), 3, none⟩ u3) b0 v1 a2 L' ∧ Below w.heap.size w ((((w4.setCell ⟨(w.heap.size + 1 + 1), 0, none⟩ u0).setCell ⟨(w.heap.size + 1 + 1), 1, none⟩ u1).setCell ⟨(w.heap.size + 1 + 1), 2, none⟩ u2).setCell ⟨(w.heap.size + 1 + 1), 3, none⟩ u3)) := fun u0 u1 u2 u3 => by
    have hbf : Below w.heap.size w ((((w4.setCell ⟨(w.heap.size + 1 + 1), 0, none⟩ u0).setCell ⟨(w.heap.size + 1 + 1), 1, none⟩ u1).setCell ⟨(w.heap.size + 1 + 1), 2, none⟩ u2).setCell ⟨(w.heap.size + 1 + 1), 3, none⟩ u3) := below_four (Below.next HX.out.2.2.2.1 k4) _ (by omega) _ _ _ _
    refine ⟨⟨?_, ?_, ?_⟩, hbf⟩
    · rw [HEX.out.1]; exact (HX.out.2.2.2.2.1.next stv_ne k4).far (fun b' o' e hne => four_far _ _ _ _ _ _ (by have := HX.out.2.2.2.2.2.2.1 b' o' e; omega))
    · rw [HEX.out.2.1]; exact hr4.far (fun b' o' e hne => four_far _ _ _ _ _ _ (by have h7 := nb4 b' o' e; have := HX.out.2.2.2.2.2.2.2; omega))
    · rw [HEX.out.2.2.1]; exact HM.out.1.next mvv_ne hbf
  have HLN : Hid (L'.S.length = m0 ∧ L'.H.length = m1 ∧ L'.M.length = n2 ∧ m1 ≤ d1) := by show _ ∧ _; rw [HEX.out.1, HEX.out.2.1, HEX.out.2.2.1]; exact ⟨HX.out.2.2.2.2.2.1, hl4, HM.out.2, hcap4⟩
  have HNA : Hid (SrcL w a0 (some ⟨pb, po, none⟩) a2 L b0 v1 a2 L') := ⟨fun _ b' o' e => by have := HX.out.2.2.2.2.2.2.1 b' o' e; exact .inl (by omega), fun _ b' o' e => by have h7 := nb4 b' o' e; have := HX.out.2.2.2.2.2.2.2; exact .inl (by omega), fun hne b' o' e => .inr ⟨HEX.out.2.2.1 ▸ hne, rfl⟩⟩
  have z0 := (hz4).cs 0 _ rfl
  have z1 := (hz4).cs 1 _ rfl
  have z2 := (hz4).cs 2 _ rfl
  have z3 := (hz4).cs 3 _ rfl
  have g0 := (hz4).fz 0
  have g1 := (hz4).fz 1
  have g2 := (hz4).fz 2
  have g3 := (hz4).fz 3
  clear hl4 hr4 k4 nb4 hcap4 hne4 hz4
  go_wp2_with fail
  try simp only [Exit.inBlock, Exit.then]
  refine bodyPost_ret (end_cell_tmp rfl rfl (loadLed _ (HCZ.out.four rfl _ _ _ _) rfl)) rfl ?_
  exact ⟨_, _, _, _, _, _, _, _, _, by rw [HEX.out.2.2.2]; rfl, HLN.out.1, HLN.out.2.1, HLN.out.2.2.1, (HFIN.out _ _ _ _).1, HLN.out.2.2.2, (HFIN.out _ _ _ _).2, HNA.out⟩
end Go.Proofs.Ytflbcheofmljeaa

namespace Go.Proofs.Ytflbcheofmljeaa
open Go.ChangeShapes Go.WideShapes Go.RowKit
set_option linter.unusedVariables false
set_option maxRecDepth 100000

theorem widj {k : Nat} (h : k ≤ 1000000) : IntKind.i64.wrap (k : Int) = (k : Int) := by rw [IntKind.wrap_i64]; omega
theorem four_list {α : Type} {l : List α} (h : l.length = 4) : ∃ y0 y1 y2 y3, l = [y0, y1, y2, y3] := by
  match l, h with
  | [a, b, c, d], _ => exact ⟨a, b, c, d, rfl⟩
set_option maxHeartbeats 8000000 in
theorem rover_out (a0 : Option Addr) (n0 c0 : Nat) (pb po n1 c1 : Nat) (a2 : Option Addr) (n2 c2 : Nat) (ops : Int) (L : Led) (hm : mayL L) (hf : L.fit) (hops : L.ops = ops) (h0 : L.S.length = n0) (h1 : L.H.length = n1) (h2 : L.M.length = n2) (hcap : n1 ≤ c1) (osk ol ot : ByteArray) (oq od : Int) (j : Nat) (hj : j < n1) (x : Hld) (hx : L.H[j]? = some x) (hst : x.st = 0) (w : World) (hr : Lies w a0 (some ⟨pb, po, none⟩) a2 L) :
    Calls Try.prog 54 #[.agg #[.slice a0 n0 c0, .slice (some ⟨pb, po, none⟩) n1 c1, .slice a2 n2 c2, .int .i64 ops], .agg #[.int .i64 3, .string osk, .string ol, .string ot, .int .i64 oq, .int .i64 ((j : Int) + 1), .int .i64 od]] w fun e w' => LeP a0 (some ⟨pb, po, none⟩) a2 L w w' (mvL (endL L j x 1) 3 x.sku x.loc (-x.qty) x.id) 0 e := by
  obtain ⟨W, hW⟩ : ∃ W, ((w.alloc (.cells #[.slice a0 n0 c0, .slice (some ⟨pb, po, none⟩) n1 c1, .slice a2 n2 c2, .int .i64 ops] 26)).alloc (.cells #[.int .i64 3, .string osk, .string ol, .string ot, .int .i64 oq, .int .i64 ((j : Int) + 1), .int .i64 od] 28)).alloc (.cells #[.slice none 0 0, .slice none 0 0, .slice none 0 0, .int .i64 0] 26) = W := ⟨_, rfl⟩
  have HC : Hid (CellsF W w.heap.size [.slice a0 n0 c0, .slice (some ⟨pb, po, none⟩) n1 c1, .slice a2 n2 c2, .int .i64 ops] ∧ CellsF W (w.heap.size + 1) [.int .i64 3, .string osk, .string ol, .string ot, .int .i64 oq, .int .i64 ((j : Int) + 1), .int .i64 od] ∧ CellsF W (w.heap.size + 1 + 1) [.slice none 0 0, .slice none 0 0, .slice none 0 0, .int .i64 0] ∧ Below w.heap.size w W) := by
    show _ ∧ _
    rw [← hW]
    exact ⟨((CellsF.at _ 26 (by simp) rfl).next (below1 _ _)).next (below1 _ _), (CellsF.at _ 28 (by simp) (by rw [size_alloc])).next (below1 _ _), CellsF.at _ 26 (by simp) (by rw [size_alloc, size_alloc]), below3 _ _ _ _⟩
  have hln := lens hm
  have hbn : n1 ≤ 4096 := by omega
  have wk := wrap_succ j (by omega)
  have hji : (j : Int) < (n1 : Int) := by omega
  have hjg : ¬ (n1 : Int) < (j : Int) + 1 := by omega
  have hjl : j < L.H.length := by omega
  have HAT : Hid (pb < w.heap.size ∧ HldAt w pb (po + j * 6) x) := by
    obtain ⟨b', o', e, q1, q2⟩ := hr.H.hld (fun e => by rw [e] at hjl; simp at hjl)
    cases e
    have h9 := q2 j hjl
    have h8 : L.H[j] = x := by rw [List.getElem?_eq_getElem hjl] at hx; exact Option.some.inj hx
    rw [h8] at h9
    exact ⟨q1, h9⟩
  have hen := endL_may hm hx hst (st := 1) (.inl rfl)
  have hxo := mayH_at hm hx
  have hqq : 1 ≤ x.qty := hxo.1.2.2.2.1
  have hxf := (hf.H _ hxo.2).qty
  have hfk := (findK_fit hf.S x.sku x.loc).held
  have hin : i64b ((findK L.S x.sku x.loc).held + -x.qty) := by unfold i64b at hfk ⊢; omega
  have hng : IntKind.i64.wrap (-x.qty) = -x.qty := negIn (by unfold i64b at hxf; omega)
  have HEX : Hid ((mvL (endL L j x 1) 3 x.sku x.loc (-x.qty) x.id).S = addOn (addHeld L.S x.sku x.loc (-x.qty)) x.sku x.loc (-x.qty) ∧ (mvL (endL L j x 1) 3 x.sku x.loc (-x.qty) x.id).H = setS L.H j 1 ∧ (mvL (endL L j x 1) 3 x.sku x.loc (-x.qty) x.id).M = L.M ++ [⟨(n2 : Int) + 1, x.sku, x.loc, -x.qty, 3, x.id⟩] ∧ (mvL (endL L j x 1) 3 x.sku x.loc (-x.qty) x.id).ops = ops) := by show _ ∧ _; rw [setS_some hx, ← h2]; exact ⟨rfl, rfl, rfl, hops⟩
  have hris : Rises (addHeld L.S x.sku x.loc (-x.qty)) := hen.1.S.2
  have hfe := (endL_find hm.S.2 j x 1).1
  have hfon := (findK_fit hf.S x.sku x.loc).on
  have hok := find_ok hm x.sku x.loc
  have hin2 : i64b ((findK (addHeld L.S x.sku x.loc (-x.qty)) x.sku x.loc).on + -x.qty) := by
    have e9 : (findK (addHeld L.S x.sku x.loc (-x.qty)) x.sku x.loc).on = (findK L.S x.sku x.loc).on := by
      have h' : findK (addHeld L.S x.sku x.loc (-x.qty)) x.sku x.loc = { findK L.S x.sku x.loc with held := (findK L.S x.sku x.loc).held + -x.qty } := hfe
      rw [h']
    rw [e9]
    have h7 := hen.2
    unfold i64b at hfon ⊢
    omega
  have hal : (addHeld L.S x.sku x.loc (-x.qty)).length ≤ 90000 := by
    have h7 := lens hen.1
    have h8 : (endL L j x 1).S.length = (addHeld L.S x.sku x.loc (-x.qty)).length := rfl
    omega
  have HMV : Hid (∀ w' b0 m0 d0 v1 m1 d1, Below w.heap.size w w' → (addHeld L.S x.sku x.loc (-x.qty)).length = m0 → Rw stv 4 w' b0 (addHeld L.S x.sku x.loc (-x.qty)) → Calls Try.prog 51 #[.agg #[.slice b0 m0 d0, .slice v1 m1 d1, .slice a2 n2 c2, .int .i64 ops], .agg #[.string x.sku, .string x.loc, .int .i64 0, .int .i64 0], .int .i64 (-x.qty), .agg #[.int .i64 0, .string ⟨#[]⟩, .string ⟨#[]⟩, .int .i64 0, .int .i64 3, .int .i64 x.id]] w' fun e w'' => MvdP w' w'' (addOn (addHeld L.S x.sku x.loc (-x.qty)) x.sku x.loc (-x.qty)) (L.M ++ [⟨(n2 : Int) + 1, x.sku, x.loc, -x.qty, 3, x.id⟩]) v1 m1 d1 ops e) := fun w' b0 m0 d0 v1 m1 d1 q e1 e2 => rmoved_is b0 m0 d0 v1 m1 d1 a2 n2 c2 ops _ e1 (by omega) hris L.M h2 (by omega) x.sku x.loc (-x.qty) 3 x.id hin2 w' e2 (hr.M.next mvv_ne q)
  generalize mvL (endL L j x 1) 3 x.sku x.loc (-x.qty) x.id = L' at HEX ⊢
  generalize addOn (addHeld L.S x.sku x.loc (-x.qty)) x.sku x.loc (-x.qty) = S2 at HEX HMV
  generalize L.M ++ [⟨(n2 : Int) + 1, x.sku, x.loc, -x.qty, 3, x.id⟩] = M2 at HEX HMV
  have HH : Hid (∀ w', Below w.heap.size w w' → Calls Try.prog 53 #[.agg #[.slice a0 n0 c0, .slice (some ⟨pb, po, none⟩) n1 c1, .slice a2 n2 c2, .int .i64 ops], .agg #[.string x.sku, .string x.loc, .int .i64 0, .int .i64 0], .int .i64 (-x.qty)] w' fun e w'' => PutP w' w'' (addHeld L.S x.sku x.loc (-x.qty)) (some ⟨pb, po, none⟩) n1 c1 a2 n2 c2 ops e) := fun w' q => rheld_is a0 n0 c0 (some ⟨pb, po, none⟩) n1 c1 a2 n2 c2 ops L.S h0 (by omega) hm.S.2 x.sku x.loc (-x.qty) hin w' (hr.S.next stv_ne q)
  have HST : Hid (∀ w' b0 m0 d0, Below w.heap.size w w' → Calls Try.prog 78 #[.agg #[.slice b0 m0 d0, .slice (some ⟨pb, po, none⟩) n1 c1, .slice a2 n2 c2, .int .i64 ops], .int .i64 j, .int .i64 1] w' fun e w'' => StaP w' w'' (setS L.H j 1) b0 m0 d0 a2 n2 c2 ops e) := fun w' b0 m0 d0 q => rstate_is b0 m0 d0 pb po n1 c1 a2 n2 c2 ops L.H h1 (by omega) hcap j hj 1 w' (hr.H.next hlv_ne q)
  obtain ⟨xi, xs, xl, xq, xt, xd⟩ := x
  dsimp only at hng hst HEX HH HMV
  have hstb : (xt != 0) = false := by simpa using hst
  have HSZ : Hid (xt = 0) := hst
  obtain ⟨y0, y1, y2, y3, y4, y5⟩ := HAT.out.2.next (HC.out.2.2.2.block pb HAT.out.1)
  dsimp only at y0 y1 y2 y3 y4 y5
  obtain ⟨W3, hW3⟩ : ∃ W3, (W.alloc (.cells #[.int .i64 xi, .string xs, .string xl, .int .i64 xq, .int .i64 xt, .int .i64 xd] 44)).alloc (.cells #[.string xs, .string xl, .int .i64 0, .int .i64 0] 50) = W3 := ⟨_, rfl⟩
  have HC3 : Hid (CellsF W3 w.heap.size [.slice a0 n0 c0, .slice (some ⟨pb, po, none⟩) n1 c1, .slice a2 n2 c2, .int .i64 ops] ∧ CellsF W3 (w.heap.size + 1) [.int .i64 3, .string osk, .string ol, .string ot, .int .i64 oq, .int .i64 ((j : Int) + 1), .int .i64 od] ∧ CellsF W3 (w.heap.size + 1 + 1) [.slice none 0 0, .slice none 0 0, .slice none 0 0, .int .i64 0] ∧ Below w.heap.size w W3 ∧ CellsF W3 W.heap.size [.int .i64 xi, .string xs, .string xl, .int .i64 xq, .int .i64 xt, .int .i64 xd] ∧ CellsF W3 (W.heap.size + 1) [.string xs, .string xl, .int .i64 0, .int .i64 0]) := by
    show _ ∧ _
    rw [← hW3]
    exact ⟨(HC.out.1.next (below1 _ _)).next (below1 _ _), (HC.out.2.1.next (below1 _ _)).next (below1 _ _), (HC.out.2.2.1.next (below1 _ _)).next (below1 _ _), Below.next HC.out.2.2.2 (below2 _ _ _), (CellsF.at _ 44 (by simp) rfl).next (below1 _ _), CellsF.at _ 50 (by simp) (by rw [size_alloc])⟩
  have HW1 : Hid (∀ z, CellsF (W.alloc z) w.heap.size [.slice a0 n0 c0, .slice (some ⟨pb, po, none⟩) n1 c1, .slice a2 n2 c2, .int .i64 ops]) := fun z => HC.out.1.next (below1 _ _)
  have l0 := (HC.out.1).cs 0 _ rfl
  have l1 := (HC.out.1).cs 1 _ rfl
  have l2 := (HC.out.1).cs 2 _ rfl
  have l3 := (HC.out.1).cs 3 _ rfl
  have o0 := (HC.out.2.1).cs 0 _ rfl
  have o1 := (HC.out.2.1).cs 1 _ rfl
  have o2 := (HC.out.2.1).cs 2 _ rfl
  have o3 := (HC.out.2.1).cs 3 _ rfl
  have o4 := (HC.out.2.1).cs 4 _ rfl
  have o5 := (HC.out.2.1).cs 5 _ rfl
  have o6 := (HC.out.2.1).cs 6 _ rfl
  have p0 := fun z1 z2 => ((HC.out.1.next (below1 W z1)).next (below1 (W.alloc z1) z2)).cs 0 _ rfl
  have p1 := fun z1 z2 => ((HC.out.1.next (below1 W z1)).next (below1 (W.alloc z1) z2)).cs 1 _ rfl
  have p2 := fun z1 z2 => ((HC.out.1.next (below1 W z1)).next (below1 (W.alloc z1) z2)).cs 2 _ rfl
  have p3 := fun z1 z2 => ((HC.out.1.next (below1 W z1)).next (below1 (W.alloc z1) z2)).cs 3 _ rfl
  have b0 := fun z2 => ((CellsF.at (w := W) [.int .i64 xi, .string xs, .string xl, .int .i64 xq, .int .i64 xt, .int .i64 xd] 44 (by simp) rfl).next (below1 _ z2)).cs 0 _ rfl
  have b1 := fun z2 => ((CellsF.at (w := W) [.int .i64 xi, .string xs, .string xl, .int .i64 xq, .int .i64 xt, .int .i64 xd] 44 (by simp) rfl).next (below1 _ z2)).cs 1 _ rfl
  have b2 := fun z2 => ((CellsF.at (w := W) [.int .i64 xi, .string xs, .string xl, .int .i64 xq, .int .i64 xt, .int .i64 xd] 44 (by simp) rfl).next (below1 _ z2)).cs 2 _ rfl
  have b3 := fun z2 => ((CellsF.at (w := W) [.int .i64 xi, .string xs, .string xl, .int .i64 xq, .int .i64 xt, .int .i64 xd] 44 (by simp) rfl).next (below1 _ z2)).cs 3 _ rfl
  have b4 := fun z2 => ((CellsF.at (w := W) [.int .i64 xi, .string xs, .string xl, .int .i64 xq, .int .i64 xt, .int .i64 xd] 44 (by simp) rfl).next (below1 _ z2)).cs 4 _ rfl
  have b5 := fun z2 => ((CellsF.at (w := W) [.int .i64 xi, .string xs, .string xl, .int .i64 xq, .int .i64 xt, .int .i64 xd] 44 (by simp) rfl).next (below1 _ z2)).cs 5 _ rfl
  have HW3 : Hid ((W.alloc (.cells #[.int .i64 xi, .string xs, .string xl, .int .i64 xq, .int .i64 xt, .int .i64 xd] 44)).alloc (.cells #[.string xs, .string xl, .int .i64 0, .int .i64 0] 50) = W3) := hW3
  clear hW3
  clear hm hf hops h0 h1 h2 hr hcap hst hx hjl hln hen hxo hqq hxf hfk hin hris hfe hfon hok hin2 hal
  go_enter Try.func54, Try.ntmps54
  go_wp2_with fail
  rw [HW3.out]
  refine Calls.mono (HH.out _ HC3.out.2.2.2.1) ?_; rintro e w3 ⟨b0, m0, d0, rfl, hl3, hr3, k3, nb3⟩
  have hc3 := HC3.out.1.next k3
  obtain ⟨X, hX⟩ : ∃ X, ((((w3.setCell ⟨w.heap.size, 0, none⟩ (.slice b0 m0 d0)).setCell ⟨w.heap.size, 1, none⟩ (.slice (some ⟨pb, po, none⟩) n1 c1)).setCell ⟨w.heap.size, 2, none⟩ (.slice a2 n2 c2)).setCell ⟨w.heap.size, 3, none⟩ (.int .i64 ops)) = X := ⟨_, rfl⟩
  have hlt3 : w.heap.size + 1 + 1 < W3.heap.size := HC3.out.2.2.1.lt
  have HX : Hid (CellsF X w.heap.size [.slice b0 m0 d0, .slice (some ⟨pb, po, none⟩) n1 c1, .slice a2 n2 c2, .int .i64 ops] ∧ CellsF X (w.heap.size + 1) [.int .i64 3, .string osk, .string ol, .string ot, .int .i64 oq, .int .i64 ((j : Int) + 1), .int .i64 od] ∧ CellsF X (w.heap.size + 1 + 1) [.slice none 0 0, .slice none 0 0, .slice none 0 0, .int .i64 0] ∧ Below w.heap.size w X ∧ Rw stv 4 X b0 (addHeld L.S xs xl (-xq)) ∧ (addHeld L.S xs xl (-xq)).length = m0 ∧ (∀ b' o', b0 = some (Addr.mk b' o' none) → w.heap.size + 1 + 1 < b') ∧ w.heap.size + 1 + 1 < X.heap.size) := by
    show _ ∧ _
    rw [← hX]
    exact ⟨hc3.four rfl _ _ _ _, (HC3.out.2.1.next k3).far (four_far _ _ _ _ _ _ (by omega)), (HC3.out.2.2.1.next k3).far (four_far _ _ _ _ _ _ (by omega)), below_four (Below.next HC3.out.2.2.2.1 k3) _ (Nat.le_refl _) _ _ _ _, hr3.far (fun b' o' e hne => four_far _ _ _ _ _ _ (by have := nb3 b' o' e; omega)), hl3, fun b' o' e => Nat.lt_of_lt_of_le hlt3 (nb3 b' o' e), by rw [size_four]; exact Nat.lt_of_lt_of_le hlt3 k3.size⟩
  have q0 := (hc3).cs 0 _ rfl
  have q1 := (hc3).cs 1 _ rfl
  have q2 := (hc3).cs 2 _ rfl
  have q3 := (hc3).cs 3 _ rfl
  have f0 := (hc3).fz 0
  have f1 := (hc3).fz 1
  have f2 := (hc3).fz 2
  have f3 := (hc3).fz 3
  have r0 := (HX.out.1).cs 0 _ rfl
  have r1 := (HX.out.1).cs 1 _ rfl
  have r2 := (HX.out.1).cs 2 _ rfl
  have r3 := (HX.out.1).cs 3 _ rfl
  have u0 := (HX.out.2.1).cs 0 _ rfl
  have u1 := (HX.out.2.1).cs 1 _ rfl
  have u2 := (HX.out.2.1).cs 2 _ rfl
  have u3 := (HX.out.2.1).cs 3 _ rfl
  have u4 := (HX.out.2.1).cs 4 _ rfl
  have u5 := (HX.out.2.1).cs 5 _ rfl
  have u6 := (HX.out.2.1).cs 6 _ rfl
  have hltW : w.heap.size + 1 + 1 < W.heap.size := HC.out.2.2.1.lt
  have HB8 : Hid (CellsF X W.heap.size [.int .i64 xi, .string xs, .string xl, .int .i64 xq, .int .i64 xt, .int .i64 xd] ∧ CellsF X (W.heap.size + 1) [.string xs, .string xl, .int .i64 0, .int .i64 0]) := by
    show _ ∧ _
    rw [← hX]
    exact ⟨(HC3.out.2.2.2.2.1.next k3).far (four_far _ _ _ _ _ _ (by omega)), (HC3.out.2.2.2.2.2.next k3).far (four_far _ _ _ _ _ _ (by omega))⟩
  clear hl3 hr3 k3 nb3 hc3 hlt3 l0 l1 l2 l3 o0 o1 o2 o3 o4 o5 o6 p0 p1 p2 p3 b1 b2 b3 b4 b5 y0 y1 y2 y3 y4 y5
  have HWJ : Hid (IntKind.i64.wrap (j : Int) = (j : Int)) := widj (by omega)
  have HS : Hid (Below w.heap.size w X ∧ X.cell? ⟨w.heap.size, 0, none⟩ = some (.slice b0 m0 d0) ∧ X.cell? ⟨w.heap.size, 1, none⟩ = some (.slice (some ⟨pb, po, none⟩) n1 c1) ∧ X.cell? ⟨w.heap.size, 2, none⟩ = some (.slice a2 n2 c2) ∧ X.cell? ⟨w.heap.size, 3, none⟩ = some (.int .i64 ops) ∧ X.cell? ⟨w.heap.size + 1, 0, none⟩ = some (.int .i64 3) ∧ X.cell? ⟨w.heap.size + 1, 5, none⟩ = some (.int .i64 ((j : Int) + 1)) ∧ X.cell? ⟨W.heap.size, 0, none⟩ = some (.int .i64 xi) ∧ X.cell? ⟨W.heap.size, 3, none⟩ = some (.int .i64 xq) ∧ X.cell? ⟨W.heap.size + 1, 0, none⟩ = some (.string xs) ∧ X.cell? ⟨W.heap.size + 1, 1, none⟩ = some (.string xl) ∧ X.cell? ⟨W.heap.size + 1, 2, none⟩ = some (.int .i64 0) ∧ X.cell? ⟨W.heap.size + 1, 3, none⟩ = some (.int .i64 0) ∧ Hid ((∃ l4, l4.length = 4 ∧ CellsF X (w.heap.size + 1 + 1) l4) ∧ Rw stv 4 X b0 (addHeld L.S xs xl (-xq)) ∧ X.heap.size ≤ X.heap.size)) := ⟨HX.out.2.2.2.1, r0, r1, r2, r3, u0, u5, HB8.out.1.cs 0 _ rfl, HB8.out.1.cs 3 _ rfl, HB8.out.2.cs 0 _ rfl, HB8.out.2.cs 1 _ rfl, HB8.out.2.cs 2 _ rfl, HB8.out.2.cs 3 _ rfl, ⟨_, rfl, HX.out.2.2.1⟩, HX.out.2.2.2.2.1, Nat.le_refl _⟩
  have HSN : Hid (∀ w' w'' : World, (Below w.heap.size w w' ∧ w'.cell? ⟨w.heap.size, 0, none⟩ = some (.slice b0 m0 d0) ∧ w'.cell? ⟨w.heap.size, 1, none⟩ = some (.slice (some ⟨pb, po, none⟩) n1 c1) ∧ w'.cell? ⟨w.heap.size, 2, none⟩ = some (.slice a2 n2 c2) ∧ w'.cell? ⟨w.heap.size, 3, none⟩ = some (.int .i64 ops) ∧ w'.cell? ⟨w.heap.size + 1, 0, none⟩ = some (.int .i64 3) ∧ w'.cell? ⟨w.heap.size + 1, 5, none⟩ = some (.int .i64 ((j : Int) + 1)) ∧ w'.cell? ⟨W.heap.size, 0, none⟩ = some (.int .i64 xi) ∧ w'.cell? ⟨W.heap.size, 3, none⟩ = some (.int .i64 xq) ∧ w'.cell? ⟨W.heap.size + 1, 0, none⟩ = some (.string xs) ∧ w'.cell? ⟨W.heap.size + 1, 1, none⟩ = some (.string xl) ∧ w'.cell? ⟨W.heap.size + 1, 2, none⟩ = some (.int .i64 0) ∧ w'.cell? ⟨W.heap.size + 1, 3, none⟩ = some (.int .i64 0) ∧ Hid ((∃ l4, l4.length = 4 ∧ CellsF w' (w.heap.size + 1 + 1) l4) ∧ Rw stv 4 w' b0 (addHeld L.S xs xl (-xq)) ∧ X.heap.size ≤ w'.heap.size)) → Below w'.heap.size w' w'' → (Below w.heap.size w w'' ∧ w''.cell? ⟨w.heap.size, 0, none⟩ = some (.slice b0 m0 d0) ∧ w''.cell? ⟨w.heap.size, 1, none⟩ = some (.slice (some ⟨pb, po, none⟩) n1 c1) ∧ w''.cell? ⟨w.heap.size, 2, none⟩ = some (.slice a2 n2 c2) ∧ w''.cell? ⟨w.heap.size, 3, none⟩ = some (.int .i64 ops) ∧ w''.cell? ⟨w.heap.size + 1, 0, none⟩ = some (.int .i64 3) ∧ w''.cell? ⟨w.heap.size + 1, 5, none⟩ = some (.int .i64 ((j : Int) + 1)) ∧ w''.cell? ⟨W.heap.size, 0, none⟩ = some (.int .i64 xi) ∧ w''.cell? ⟨W.heap.size, 3, none⟩ = some (.int .i64 xq) ∧ w''.cell? ⟨W.heap.size + 1, 0, none⟩ = some (.string xs) ∧ w''.cell? ⟨W.heap.size + 1, 1, none⟩ = some (.string xl) ∧ w''.cell? ⟨W.heap.size + 1, 2, none⟩ = some (.int .i64 0) ∧ w''.cell? ⟨W.heap.size + 1, 3, none⟩ = some (.int .i64 0) ∧ Hid ((∃ l4, l4.length = 4 ∧ CellsF w'' (w.heap.size + 1 + 1) l4) ∧ Rw stv 4 w'' b0 (addHeld L.S xs xl (-xq)) ∧ X.heap.size ≤ w''.heap.size))) := fun w' w'' h qx => by
    have k0 := (qx.cell (p := ⟨w.heap.size, 0, none⟩) (World.block_lt_of_cell? w' _ (h.2.1))).trans (h.2.1)
    have k1 := (qx.cell (p := ⟨w.heap.size, 1, none⟩) (World.block_lt_of_cell? w' _ (h.2.2.1))).trans (h.2.2.1)
    have k2 := (qx.cell (p := ⟨w.heap.size, 2, none⟩) (World.block_lt_of_cell? w' _ (h.2.2.2.1))).trans (h.2.2.2.1)
    have k3 := (qx.cell (p := ⟨w.heap.size, 3, none⟩) (World.block_lt_of_cell? w' _ (h.2.2.2.2.1))).trans (h.2.2.2.2.1)
    have k4 := (qx.cell (p := ⟨w.heap.size + 1, 0, none⟩) (World.block_lt_of_cell? w' _ (h.2.2.2.2.2.1))).trans (h.2.2.2.2.2.1)
    have k5 := (qx.cell (p := ⟨w.heap.size + 1, 5, none⟩) (World.block_lt_of_cell? w' _ (h.2.2.2.2.2.2.1))).trans (h.2.2.2.2.2.2.1)
    have k6 := (qx.cell (p := ⟨W.heap.size, 0, none⟩) (World.block_lt_of_cell? w' _ (h.2.2.2.2.2.2.2.1))).trans (h.2.2.2.2.2.2.2.1)
    have k7 := (qx.cell (p := ⟨W.heap.size, 3, none⟩) (World.block_lt_of_cell? w' _ (h.2.2.2.2.2.2.2.2.1))).trans (h.2.2.2.2.2.2.2.2.1)
    have k8 := (qx.cell (p := ⟨W.heap.size + 1, 0, none⟩) (World.block_lt_of_cell? w' _ (h.2.2.2.2.2.2.2.2.2.1))).trans (h.2.2.2.2.2.2.2.2.2.1)
    have k9 := (qx.cell (p := ⟨W.heap.size + 1, 1, none⟩) (World.block_lt_of_cell? w' _ (h.2.2.2.2.2.2.2.2.2.2.1))).trans (h.2.2.2.2.2.2.2.2.2.2.1)
    have k10 := (qx.cell (p := ⟨W.heap.size + 1, 2, none⟩) (World.block_lt_of_cell? w' _ (h.2.2.2.2.2.2.2.2.2.2.2.1))).trans (h.2.2.2.2.2.2.2.2.2.2.2.1)
    have k11 := (qx.cell (p := ⟨W.heap.size + 1, 3, none⟩) (World.block_lt_of_cell? w' _ (h.2.2.2.2.2.2.2.2.2.2.2.2.1))).trans (h.2.2.2.2.2.2.2.2.2.2.2.2.1)
    obtain ⟨⟨l4, h41, h42⟩, h43, h44⟩ := (h.2.2.2.2.2.2.2.2.2.2.2.2.2).out
    exact ⟨Below.next h.1 qx, k0, k1, k2, k3, k4, k5, k6, k7, k8, k9, k10, k11, ⟨l4, h41, h42.next qx⟩, h43.next stv_ne qx, Nat.le_trans h44 qx.size⟩
  have HSD : Hid (∀ w' : World, (Below w.heap.size w w' ∧ w'.cell? ⟨w.heap.size, 0, none⟩ = some (.slice b0 m0 d0) ∧ w'.cell? ⟨w.heap.size, 1, none⟩ = some (.slice (some ⟨pb, po, none⟩) n1 c1) ∧ w'.cell? ⟨w.heap.size, 2, none⟩ = some (.slice a2 n2 c2) ∧ w'.cell? ⟨w.heap.size, 3, none⟩ = some (.int .i64 ops) ∧ w'.cell? ⟨w.heap.size + 1, 0, none⟩ = some (.int .i64 3) ∧ w'.cell? ⟨w.heap.size + 1, 5, none⟩ = some (.int .i64 ((j : Int) + 1)) ∧ w'.cell? ⟨W.heap.size, 0, none⟩ = some (.int .i64 xi) ∧ w'.cell? ⟨W.heap.size, 3, none⟩ = some (.int .i64 xq) ∧ w'.cell? ⟨W.heap.size + 1, 0, none⟩ = some (.string xs) ∧ w'.cell? ⟨W.heap.size + 1, 1, none⟩ = some (.string xl) ∧ w'.cell? ⟨W.heap.size + 1, 2, none⟩ = some (.int .i64 0) ∧ w'.cell? ⟨W.heap.size + 1, 3, none⟩ = some (.int .i64 0) ∧ Hid ((∃ l4, l4.length = 4 ∧ CellsF w' (w.heap.size + 1 + 1) l4) ∧ Rw stv 4 w' b0 (addHeld L.S xs xl (-xq)) ∧ X.heap.size ≤ w'.heap.size)) → (Below w.heap.size w w'.drew ∧ w'.drew.cell? ⟨w.heap.size, 0, none⟩ = some (.slice b0 m0 d0) ∧ w'.drew.cell? ⟨w.heap.size, 1, none⟩ = some (.slice (some ⟨pb, po, none⟩) n1 c1) ∧ w'.drew.cell? ⟨w.heap.size, 2, none⟩ = some (.slice a2 n2 c2) ∧ w'.drew.cell? ⟨w.heap.size, 3, none⟩ = some (.int .i64 ops) ∧ w'.drew.cell? ⟨w.heap.size + 1, 0, none⟩ = some (.int .i64 3) ∧ w'.drew.cell? ⟨w.heap.size + 1, 5, none⟩ = some (.int .i64 ((j : Int) + 1)) ∧ w'.drew.cell? ⟨W.heap.size, 0, none⟩ = some (.int .i64 xi) ∧ w'.drew.cell? ⟨W.heap.size, 3, none⟩ = some (.int .i64 xq) ∧ w'.drew.cell? ⟨W.heap.size + 1, 0, none⟩ = some (.string xs) ∧ w'.drew.cell? ⟨W.heap.size + 1, 1, none⟩ = some (.string xl) ∧ w'.drew.cell? ⟨W.heap.size + 1, 2, none⟩ = some (.int .i64 0) ∧ w'.drew.cell? ⟨W.heap.size + 1, 3, none⟩ = some (.int .i64 0) ∧ Hid ((∃ l4, l4.length = 4 ∧ CellsF w'.drew (w.heap.size + 1 + 1) l4) ∧ Rw stv 4 w'.drew b0 (addHeld L.S xs xl (-xq)) ∧ X.heap.size ≤ w'.drew.heap.size))) := fun w' h => HSN.out _ _ h (Below.refl _ _).drew
  have HLAST : Hid (∀ (w' : World) (u0 u1 u2 u3 : Value), (Below w.heap.size w w' ∧ w'.cell? ⟨w.heap.size, 0, none⟩ = some (.slice b0 m0 d0) ∧ w'.cell? ⟨w.heap.size, 1, none⟩ = some (.slice (some ⟨pb, po, none⟩) n1 c1) ∧ w'.cell? ⟨w.heap.size, 2, none⟩ = some (.slice a2 n2 c2) ∧ w'.cell? ⟨w.heap.size, 3, none⟩ = some (.int .i64 ops) ∧ w'.cell? ⟨w.heap.size + 1, 0, none⟩ = some (.int .i64 3) ∧ w'.cell? ⟨w.heap.size + 1, 5, none⟩ = some (.int .i64 ((j : Int) + 1)) ∧ w'.cell? ⟨W.heap.size, 0, none⟩ = some (.int .i64 xi) ∧ w'.cell? ⟨W.heap.size, 3, none⟩ = some (.int .i64 xq) ∧ w'.cell? ⟨W.heap.size + 1, 0, none⟩ = some (.string xs) ∧ w'.cell? ⟨W.heap.size + 1, 1, none⟩ = some (.string xl) ∧ w'.cell? ⟨W.heap.size + 1, 2, none⟩ = some (.int .i64 0) ∧ w'.cell? ⟨W.heap.size + 1, 3, none⟩ = some (.int .i64 0) ∧ Hid ((∃ l4, l4.length = 4 ∧ CellsF w' (w.heap.size + 1 + 1) l4) ∧ Rw stv 4 w' b0 (addHeld L.S xs xl (-xq)) ∧ X.heap.size ≤ w'.heap.size)) → (Below w.heap.size w ((((w'.setCell ⟨(w.heap.size + 1 + 1), 0, none⟩ u0).setCell ⟨(w.heap.size + 1 + 1), 1, none⟩ u1).setCell ⟨(w.heap.size + 1 + 1), 2, none⟩ u2).setCell ⟨(w.heap.size + 1 + 1), 3, none⟩ u3) ∧ ((((w'.setCell ⟨(w.heap.size + 1 + 1), 0, none⟩ u0).setCell ⟨(w.heap.size + 1 + 1), 1, none⟩ u1).setCell ⟨(w.heap.size + 1 + 1), 2, none⟩ u2).setCell ⟨(w.heap.size + 1 + 1), 3, none⟩ u3).cell? ⟨w.heap.size, 0, none⟩ = some (.slice b0 m0 d0) ∧ ((((w'.setCell ⟨(w.heap.size + 1 + 1), 0, none⟩ u0).setCell ⟨(w.heap.size + 1 + 1), 1, none⟩ u1).setCell ⟨(w.heap.size + 1 + 1), 2, none⟩ u2).setCell ⟨(w.heap.size + 1 + 1), 3, none⟩ u3).cell? ⟨w.heap.size, 1, none⟩ = some (.slice (some ⟨pb, po, none⟩) n1 c1) ∧ ((((w'.setCell ⟨(w.heap.size + 1 + 1), 0, none⟩ u0).setCell ⟨(w.heap.size + 1 + 1), 1, none⟩ u1).setCell ⟨(w.heap.size + 1 + 1), 2, none⟩ u2).setCell ⟨(w.heap.size + 1 + 1), 3, none⟩ u3).cell? ⟨w.heap.size, 2, none⟩ = some (.slice a2 n2 c2) ∧ ((((w'.setCell ⟨(w.heap.size + 1 + 1), 0, none⟩ u0).setCell ⟨(w.heap.size + 1 + 1), 1, none⟩ u1).setCell ⟨(w.heap.size + 1 + 1), 2, none⟩ u2).setCell ⟨(w.heap.size + 1 + 1), 3, none⟩ u3).cell? ⟨w.heap.size, 3, none⟩ = some (.int .i64 ops) ∧ ((((w'.setCell ⟨(w.heap.size + 1 + 1), 0, none⟩ u0).setCell ⟨(w.heap.size + 1 + 1), 1, none⟩ u1).setCell ⟨(w.heap.size + 1 + 1), 2, none⟩ u2).setCell ⟨(w.heap.size + 1 + 1), 3, none⟩ u3).cell? ⟨w.heap.size + 1, 0, none⟩ = some (.int .i64 3) ∧ ((((w'.setCell ⟨(w.heap.size + 1 + 1), 0, none⟩ u0).setCell ⟨(w.heap.size + 1 + 1), 1, none⟩ u1).setCell ⟨(w.heap.size + 1 + 1), 2, none⟩ u2).setCell ⟨(w.heap.size + 1 + 1), 3, none⟩ u3).cell? ⟨w.heap.size + 1, 5, none⟩ = some (.int .i64 ((j : Int) + 1)) ∧ ((((w'.setCell ⟨(w.heap.size + 1 + 1), 0, none⟩ u0).setCell ⟨(w.heap.size + 1 + 1), 1, none⟩ u1).setCell ⟨(w.heap.size + 1 + 1), 2, none⟩ u2).setCell ⟨(w.heap.size + 1 + 1), 3, none⟩ u3).cell? ⟨W.heap.size, 0, none⟩ = some (.int .i64 xi) ∧ ((((w'.setCell ⟨(w.heap.size + 1 + 1), 0, none⟩ u0).setCell ⟨(w.heap.size + 1 + 1), 1, none⟩ u1).setCell ⟨(w.heap.size + 1 + 1), 2, none⟩ u2).setCell ⟨(w.heap.size + 1 + 1), 3, none⟩ u3).cell? ⟨W.heap.size, 3, none⟩ = some (.int .i64 xq) ∧ ((((w'.setCell ⟨(w.heap.size + 1 + 1), 0, none⟩ u0).setCell ⟨(w.heap.size + 1 + 1), 1, none⟩ u1).setCell ⟨(w.heap.size + 1 + 1), 2, none⟩ u2).setCell ⟨(w.heap.size + 1 + 1), 3, none⟩ u3).cell? ⟨W.heap.size + 1, 0, none⟩ = some (.string xs) ∧ ((((w'.setCell ⟨(w.heap.size + 1 + 1), 0, none⟩ u0).setCell ⟨(w.heap.size + 1 + 1), 1, none⟩ u1).setCell ⟨(w.heap.size + 1 + 1), 2, none⟩ u2).setCell ⟨(w.heap.size + 1 + 1), 3, none⟩ u3).cell? ⟨W.heap.size + 1, 1, none⟩ = some (.string xl) ∧ ((((w'.setCell ⟨(w.heap.size + 1 + 1), 0, none⟩ u0).setCell ⟨(w.heap.size + 1 + 1), 1, none⟩ u1).setCell ⟨(w.heap.size + 1 + 1), 2, none⟩ u2).setCell ⟨(w.heap.size + 1 + 1), 3, none⟩ u3).cell? ⟨W.heap.size + 1, 2, none⟩ = some (.int .i64 0) ∧ ((((w'.setCell ⟨(w.heap.size + 1 + 1), 0, none⟩ u0).setCell ⟨(w.heap.size + 1 + 1), 1, none⟩ u1).setCell ⟨(w.heap.size + 1 + 1), 2, none⟩ u2).setCell ⟨(w.heap.size + 1 + 1), 3, none⟩ u3).cell? ⟨W.heap.size + 1, 3, none⟩ = some (.int .i64 0) ∧ Hid ((∃ l4, l4.length = 4 ∧ CellsF ((((w'.setCell ⟨(w.heap.size + 1 + 1), 0, none⟩ u0).setCell ⟨(w.heap.size + 1 + 1), 1, none⟩ u1).setCell ⟨(w.heap.size + 1 + 1), 2, none⟩ u2).setCell ⟨(w.heap.size + 1 + 1), 3, none⟩ u3) (w.heap.size + 1 + 1) l4) ∧ Rw stv 4 ((((w'.setCell ⟨(w.heap.size + 1 + 1), 0, none⟩ u0).setCell ⟨(w.heap.size + 1 + 1), 1, none⟩ u1).setCell ⟨(w.heap.size + 1 + 1), 2, none⟩ u2).setCell ⟨(w.heap.size + 1 + 1), 3, none⟩ u3) b0 (addHeld L.S xs xl (-xq)) ∧ X.heap.size ≤ ((((w'.setCell ⟨(w.heap.size + 1 + 1), 0, none⟩ u0).setCell ⟨(w.heap.size + 1 + 1), 1, none⟩ u1).setCell ⟨(w.heap.size + 1 + 1), 2, none⟩ u2).setCell ⟨(w.heap.size + 1 + 1), 3, none⟩ u3).heap.size))) := fun w' u0 u1 u2 u3 h => by
    obtain ⟨⟨l4, h41, h42⟩, h43, h44⟩ := (h.2.2.2.2.2.2.2.2.2.2.2.2.2).out
    have hfar : ∀ {g : Nat} (i : Nat), g ≠ w.heap.size + 1 + 1 → ((((w'.setCell ⟨(w.heap.size + 1 + 1), 0, none⟩ u0).setCell ⟨(w.heap.size + 1 + 1), 1, none⟩ u1).setCell ⟨(w.heap.size + 1 + 1), 2, none⟩ u2).setCell ⟨(w.heap.size + 1 + 1), 3, none⟩ u3).cell? ⟨g, i, none⟩ = w'.cell? ⟨g, i, none⟩ := fun i hg => World.cell?_of_block (a := ⟨_, i, none⟩) (four_far _ _ _ _ _ _ hg)
    have k0 := (hfar 0 (by omega)).trans (h.2.1)
    have k1 := (hfar 1 (by omega)).trans (h.2.2.1)
    have k2 := (hfar 2 (by omega)).trans (h.2.2.2.1)
    have k3 := (hfar 3 (by omega)).trans (h.2.2.2.2.1)
    have k4 := (hfar 0 (by omega)).trans (h.2.2.2.2.2.1)
    have k5 := (hfar 5 (by omega)).trans (h.2.2.2.2.2.2.1)
    have k6 := (hfar 0 (by omega)).trans (h.2.2.2.2.2.2.2.1)
    have k7 := (hfar 3 (by omega)).trans (h.2.2.2.2.2.2.2.2.1)
    have k8 := (hfar 0 (by omega)).trans (h.2.2.2.2.2.2.2.2.2.1)
    have k9 := (hfar 1 (by omega)).trans (h.2.2.2.2.2.2.2.2.2.2.1)
    have k10 := (hfar 2 (by omega)).trans (h.2.2.2.2.2.2.2.2.2.2.2.1)
    have k11 := (hfar 3 (by omega)).trans (h.2.2.2.2.2.2.2.2.2.2.2.2.1)
    exact ⟨below_four h.1 _ (by omega) _ _ _ _, k0, k1, k2, k3, k4, k5, k6, k7, k8, k9, k10, k11, ⟨_, rfl, h42.four h41 _ _ _ _⟩, h43.far (fun b' o' e hne => four_far _ _ _ _ _ _ (by have := HX.out.2.2.2.2.2.2.1 b' o' e; omega)), by rw [size_four]; exact h44⟩
  have HC4 : Hid (∀ w' : World, (Below w.heap.size w w' ∧ w'.cell? ⟨w.heap.size, 0, none⟩ = some (.slice b0 m0 d0) ∧ w'.cell? ⟨w.heap.size, 1, none⟩ = some (.slice (some ⟨pb, po, none⟩) n1 c1) ∧ w'.cell? ⟨w.heap.size, 2, none⟩ = some (.slice a2 n2 c2) ∧ w'.cell? ⟨w.heap.size, 3, none⟩ = some (.int .i64 ops) ∧ w'.cell? ⟨w.heap.size + 1, 0, none⟩ = some (.int .i64 3) ∧ w'.cell? ⟨w.heap.size + 1, 5, none⟩ = some (.int .i64 ((j : Int) + 1)) ∧ w'.cell? ⟨W.heap.size, 0, none⟩ = some (.int .i64 xi) ∧ w'.cell? ⟨W.heap.size, 3, none⟩ = some (.int .i64 xq) ∧ w'.cell? ⟨W.heap.size + 1, 0, none⟩ = some (.string xs) ∧ w'.cell? ⟨W.heap.size + 1, 1, none⟩ = some (.string xl) ∧ w'.cell? ⟨W.heap.size + 1, 2, none⟩ = some (.int .i64 0) ∧ w'.cell? ⟨W.heap.size + 1, 3, none⟩ = some (.int .i64 0) ∧ Hid ((∃ l4, l4.length = 4 ∧ CellsF w' (w.heap.size + 1 + 1) l4) ∧ Rw stv 4 w' b0 (addHeld L.S xs xl (-xq)) ∧ X.heap.size ≤ w'.heap.size)) → Calls Try.prog 78 #[.agg #[.slice b0 m0 d0, .slice (some ⟨pb, po, none⟩) n1 c1, .slice a2 n2 c2, .int .i64 ops], .int .i64 j, .int .i64 1] w' fun e w'' => ∃ v1 m1 d1, e = .returned (.agg #[.slice b0 m0 d0, .slice v1 m1 d1, .slice a2 n2 c2, .int .i64 ops]) ∧ (Below w.heap.size w w'' ∧ w''.cell? ⟨w.heap.size, 0, none⟩ = some (.slice b0 m0 d0) ∧ w''.cell? ⟨w.heap.size, 1, none⟩ = some (.slice (some ⟨pb, po, none⟩) n1 c1) ∧ w''.cell? ⟨w.heap.size, 2, none⟩ = some (.slice a2 n2 c2) ∧ w''.cell? ⟨w.heap.size, 3, none⟩ = some (.int .i64 ops) ∧ w''.cell? ⟨w.heap.size + 1, 0, none⟩ = some (.int .i64 3) ∧ w''.cell? ⟨w.heap.size + 1, 5, none⟩ = some (.int .i64 ((j : Int) + 1)) ∧ w''.cell? ⟨W.heap.size, 0, none⟩ = some (.int .i64 xi) ∧ w''.cell? ⟨W.heap.size, 3, none⟩ = some (.int .i64 xq) ∧ w''.cell? ⟨W.heap.size + 1, 0, none⟩ = some (.string xs) ∧ w''.cell? ⟨W.heap.size + 1, 1, none⟩ = some (.string xl) ∧ w''.cell? ⟨W.heap.size + 1, 2, none⟩ = some (.int .i64 0) ∧ w''.cell? ⟨W.heap.size + 1, 3, none⟩ = some (.int .i64 0) ∧ Hid ((∃ l4, l4.length = 4 ∧ CellsF w'' (w.heap.size + 1 + 1) l4) ∧ Rw stv 4 w'' b0 (addHeld L.S xs xl (-xq)) ∧ X.heap.size ≤ w''.heap.size)) ∧ Hid ((setS L.H j 1).length = m1 ∧ Rw hlv 6 w'' v1 (setS L.H j 1) ∧ m1 ≤ d1 ∧ (∀ b' o', v1 = some (Addr.mk b' o' none) → w.heap.size + 1 + 1 < b'))) := fun w' h => (HST.out w' b0 m0 d0 h.1).mono fun e w'' ⟨v1, m1, d1, g1, g2, g3, g4, g5, g6, g7⟩ => ⟨v1, m1, d1, g1, HSN.out _ _ h g4, g2, g3, g6, fun b' o' e => Nat.lt_of_lt_of_le HX.out.2.2.2.2.2.2.2 (Nat.le_trans ((h.2.2.2.2.2.2.2.2.2.2.2.2.2).out.2.2) (g5 b' o' e))⟩
  have HC14 : Hid (∀ (w' : World) (v1 : Option Addr) (m1 d1 : Nat), (Below w.heap.size w w' ∧ w'.cell? ⟨w.heap.size, 0, none⟩ = some (.slice b0 m0 d0) ∧ w'.cell? ⟨w.heap.size, 1, none⟩ = some (.slice (some ⟨pb, po, none⟩) n1 c1) ∧ w'.cell? ⟨w.heap.size, 2, none⟩ = some (.slice a2 n2 c2) ∧ w'.cell? ⟨w.heap.size, 3, none⟩ = some (.int .i64 ops) ∧ w'.cell? ⟨w.heap.size + 1, 0, none⟩ = some (.int .i64 3) ∧ w'.cell? ⟨w.heap.size + 1, 5, none⟩ = some (.int .i64 ((j : Int) + 1)) ∧ w'.cell? ⟨W.heap.size, 0, none⟩ = some (.int .i64 xi) ∧ w'.cell? ⟨W.heap.size, 3, none⟩ = some (.int .i64 xq) ∧ w'.cell? ⟨W.heap.size + 1, 0, none⟩ = some (.string xs) ∧ w'.cell? ⟨W.heap.size + 1, 1, none⟩ = some (.string xl) ∧ w'.cell? ⟨W.heap.size + 1, 2, none⟩ = some (.int .i64 0) ∧ w'.cell? ⟨W.heap.size + 1, 3, none⟩ = some (.int .i64 0) ∧ Hid ((∃ l4, l4.length = 4 ∧ CellsF w' (w.heap.size + 1 + 1) l4) ∧ Rw stv 4 w' b0 (addHeld L.S xs xl (-xq)) ∧ X.heap.size ≤ w'.heap.size)) → Calls Try.prog 51 #[.agg #[.slice b0 m0 d0, .slice v1 m1 d1, .slice a2 n2 c2, .int .i64 ops], .agg #[.string xs, .string xl, .int .i64 0, .int .i64 0], .int .i64 (-xq), .agg #[.int .i64 0, .string ⟨#[]⟩, .string ⟨#[]⟩, .int .i64 0, .int .i64 3, .int .i64 xi]] w' fun e w'' => ∃ g0 p0 q0 g2 p2 q2, e = .returned (.agg #[.slice g0 p0 q0, .slice v1 m1 d1, .slice g2 p2 q2, .int .i64 ops]) ∧ (Below w.heap.size w w'' ∧ w''.cell? ⟨w.heap.size, 0, none⟩ = some (.slice b0 m0 d0) ∧ w''.cell? ⟨w.heap.size, 1, none⟩ = some (.slice (some ⟨pb, po, none⟩) n1 c1) ∧ w''.cell? ⟨w.heap.size, 2, none⟩ = some (.slice a2 n2 c2) ∧ w''.cell? ⟨w.heap.size, 3, none⟩ = some (.int .i64 ops) ∧ w''.cell? ⟨w.heap.size + 1, 0, none⟩ = some (.int .i64 3) ∧ w''.cell? ⟨w.heap.size + 1, 5, none⟩ = some (.int .i64 ((j : Int) + 1)) ∧ w''.cell? ⟨W.heap.size, 0, none⟩ = some (.int .i64 xi) ∧ w''.cell? ⟨W.heap.size, 3, none⟩ = some (.int .i64 xq) ∧ w''.cell? ⟨W.heap.size + 1, 0, none⟩ = some (.string xs) ∧ w''.cell? ⟨W.heap.size + 1, 1, none⟩ = some (.string xl) ∧ w''.cell? ⟨W.heap.size + 1, 2, none⟩ = some (.int .i64 0) ∧ w''.cell? ⟨W.heap.size + 1, 3, none⟩ = some (.int .i64 0) ∧ Hid ((∃ l4, l4.length = 4 ∧ CellsF w'' (w.heap.size + 1 + 1) l4) ∧ Rw stv 4 w'' b0 (addHeld L.S xs xl (-xq)) ∧ X.heap.size ≤ w''.heap.size)) ∧ Hid (S2.length = p0 ∧ M2.length = p2 ∧ Rw stv 4 w'' g0 S2 ∧ Rw mvv 6 w'' g2 M2 ∧ Below w'.heap.size w' w'' ∧ (∀ b' o', g0 = some (Addr.mk b' o' none) → w.heap.size + 1 + 1 < b') ∧ (∀ b' o', g2 = some (Addr.mk b' o' none) → w.heap.size + 1 + 1 < b'))) := fun w' v1 m1 d1 h => (HMV.out w' b0 m0 d0 v1 m1 d1 h.1 HX.out.2.2.2.2.2.1 (h.2.2.2.2.2.2.2.2.2.2.2.2.2).out.2.1).mono fun e w'' ⟨g0, p0, q0, g2, p2, q2, f1, f2, f3, f4, f5, f6, f7, f8, f9⟩ => ⟨g0, p0, q0, g2, p2, q2, f1, HSN.out _ _ h f6, f2, f3, f4, f5, f6, fun b' o' e => Nat.lt_of_lt_of_le HX.out.2.2.2.2.2.2.2 (Nat.le_trans ((h.2.2.2.2.2.2.2.2.2.2.2.2.2).out.2.2) (f7 b' o' e)), fun b' o' e => Nat.lt_of_lt_of_le HX.out.2.2.2.2.2.2.2 (Nat.le_trans ((h.2.2.2.2.2.2.2.2.2.2.2.2.2).out.2.2) (f8 b' o' e))⟩
  have hS0 := HS.out
  go_wp2_with fail
  refine wp_region_held_drew (S := (fun (w' : World) => (Below w.heap.size w w' ∧ w'.cell? ⟨w.heap.size, 0, none⟩ = some (.slice b0 m0 d0) ∧ w'.cell? ⟨w.heap.size, 1, none⟩ = some (.slice (some ⟨pb, po, none⟩) n1 c1) ∧ w'.cell? ⟨w.heap.size, 2, none⟩ = some (.slice a2 n2 c2) ∧ w'.cell? ⟨w.heap.size, 3, none⟩ = some (.int .i64 ops) ∧ w'.cell? ⟨w.heap.size + 1, 0, none⟩ = some (.int .i64 3) ∧ w'.cell? ⟨w.heap.size + 1, 5, none⟩ = some (.int .i64 ((j : Int) + 1)) ∧ w'.cell? ⟨W.heap.size, 0, none⟩ = some (.int .i64 xi) ∧ w'.cell? ⟨W.heap.size, 3, none⟩ = some (.int .i64 xq) ∧ w'.cell? ⟨W.heap.size + 1, 0, none⟩ = some (.string xs) ∧ w'.cell? ⟨W.heap.size + 1, 1, none⟩ = some (.string xl) ∧ w'.cell? ⟨W.heap.size + 1, 2, none⟩ = some (.int .i64 0) ∧ w'.cell? ⟨W.heap.size + 1, 3, none⟩ = some (.int .i64 0) ∧ Hid ((∃ l4, l4.length = 4 ∧ CellsF w' (w.heap.size + 1 + 1) l4) ∧ Rw stv 4 w' b0 (addHeld L.S xs xl (-xq)) ∧ X.heap.size ≤ w'.heap.size)))) (by kernel_rfl) (HSD.out _ HS.out) (fun hHeld => ?_)
  refine wpAnyH_take (i := 0) (oi := { dst := some 52, op := Op.load 26 (Operand.tmp 2), type := 26, pos := "ref.go:177", after := #[], guard := none }) (v := .agg #[.slice b0 m0 d0, .slice (some ⟨pb, po, none⟩) n1 c1, .slice a2 n2 c2, .int .i64 ops]) rfl (by kernel_rfl) (by kernel_rfl) (by kernel_rfl) (fun _ _ _ h => h) (Or.inl ⟨by rfl, ?_⟩) (by with_reducible assumption) ?_
  · intro wx hSw
    (try dsimp only at hSw)
    first | (go_simp; done) | (go_simp; with_reducible rfl)
  try simp only [Act.put, List.setIfInBounds_toArray, List.set_cons_zero, List.set_cons_succ]
  refine wpAnyH_take (i := 1) (oi := { dst := some 53, op := Op.fieldAddr 28 (Operand.tmp 3) 5, type := 0, pos := "ref.go:177", after := #[], guard := none }) (v := .pointer (some ⟨w.heap.size + 1, 5, none⟩)) rfl (by kernel_rfl) (by kernel_rfl) (by kernel_rfl) (fun _ _ _ h => h) (Or.inl ⟨by rfl, ?_⟩) (by with_reducible assumption) ?_
  · intro wx hSw
    (try dsimp only at hSw)
    first | (go_simp; done) | (go_simp; with_reducible rfl)
  try simp only [Act.put, List.setIfInBounds_toArray, List.set_cons_zero, List.set_cons_succ]
  refine wpAnyH_take (i := 2) (oi := { dst := some 54, op := Op.load 3 (Operand.tmp 53), type := 3, pos := "ref.go:177", after := #[{ on := 1, ground := Ground.data }], guard := none }) (v := .int .i64 ((j : Int) + 1)) rfl (by kernel_rfl) (by kernel_rfl) (by kernel_rfl) (fun _ _ _ h => h) (Or.inl ⟨by rfl, ?_⟩) (by with_reducible assumption) ?_
  · intro wx hSw
    (try dsimp only at hSw)
    first | (go_simp; done) | (go_simp; with_reducible rfl)
  try simp only [Act.put, List.setIfInBounds_toArray, List.set_cons_zero, List.set_cons_succ]
  have e3 := HWJ.out
  refine wpAnyH_take (i := 3) (oi := { dst := some 55, op := Op.binOp BinOp.sub 3 (Operand.tmp 54) (Operand.const (Value.int IntKind.i64 1)) 3, type := 3, pos := "ref.go:177", after := #[{ on := 2, ground := Ground.data }], guard := none }) (v := .int .i64 j) rfl (by kernel_rfl) (by kernel_rfl) (by kernel_rfl) (fun _ _ _ h => h) (Or.inl ⟨by rfl, ?_⟩) (by with_reducible assumption) ?_
  · intro wx hSw
    (try dsimp only at hSw)
    first | (go_simp; done) | (go_simp; with_reducible rfl)
  try simp only [Act.put, List.setIfInBounds_toArray, List.set_cons_zero, List.set_cons_succ]
  clear e3
  refine wpAnyH_take (i := 5) (oi := { dst := some 57, op := Op.load 50 (Operand.tmp 7), type := 50, pos := "ref.go:177", after := #[], guard := none }) (v := .agg #[.string xs, .string xl, .int .i64 0, .int .i64 0]) rfl (by kernel_rfl) (by kernel_rfl) (by kernel_rfl) (fun _ _ _ h => h) (Or.inl ⟨by rfl, ?_⟩) (by with_reducible assumption) ?_
  · intro wx hSw
    (try dsimp only at hSw)
    first | (go_simp; done) | (go_simp; with_reducible rfl)
  try simp only [Act.put, List.setIfInBounds_toArray, List.set_cons_zero, List.set_cons_succ]
  refine wpAnyH_take (i := 6) (oi := { dst := some 58, op := Op.fieldAddr 44 (Operand.tmp 6) 3, type := 0, pos := "ref.go:177", after := #[], guard := none }) (v := .pointer (some ⟨W.heap.size, 3, none⟩)) rfl (by kernel_rfl) (by kernel_rfl) (by kernel_rfl) (fun _ _ _ h => h) (Or.inl ⟨by rfl, ?_⟩) (by with_reducible assumption) ?_
  · intro wx hSw
    (try dsimp only at hSw)
    first | (go_simp; done) | (go_simp; with_reducible rfl)
  try simp only [Act.put, List.setIfInBounds_toArray, List.set_cons_zero, List.set_cons_succ]
  refine wpAnyH_take (i := 7) (oi := { dst := some 59, op := Op.load 3 (Operand.tmp 58), type := 3, pos := "ref.go:177", after := #[{ on := 6, ground := Ground.data }], guard := none }) (v := .int .i64 xq) rfl (by kernel_rfl) (by kernel_rfl) (by kernel_rfl) (fun _ _ _ h => h) (Or.inl ⟨by rfl, ?_⟩) (by with_reducible assumption) ?_
  · intro wx hSw
    (try dsimp only at hSw)
    first | (go_simp; done) | (go_simp; with_reducible rfl)
  try simp only [Act.put, List.setIfInBounds_toArray, List.set_cons_zero, List.set_cons_succ]
  refine wpAnyH_take (i := 8) (oi := { dst := some 60, op := Op.unOp UnOp.neg 3 (Operand.tmp 59), type := 3, pos := "ref.go:177", after := #[{ on := 7, ground := Ground.data }], guard := none }) (v := .int .i64 (-xq)) rfl (by kernel_rfl) (by kernel_rfl) (by kernel_rfl) (fun _ _ _ h => h) (Or.inl ⟨by rfl, ?_⟩) (by with_reducible assumption) ?_
  · intro wx hSw
    (try dsimp only at hSw)
    first | (go_simp; done) | (go_simp; with_reducible rfl)
  try simp only [Act.put, List.setIfInBounds_toArray, List.set_cons_zero, List.set_cons_succ]
  refine wpAnyH_take (i := 9) (oi := { dst := some 61, op := Op.fieldAddr 28 (Operand.tmp 3) 0, type := 0, pos := "ref.go:177", after := #[], guard := none }) (v := .pointer (some ⟨w.heap.size + 1, 0, none⟩)) rfl (by kernel_rfl) (by kernel_rfl) (by kernel_rfl) (fun _ _ _ h => h) (Or.inl ⟨by rfl, ?_⟩) (by with_reducible assumption) ?_
  · intro wx hSw
    (try dsimp only at hSw)
    first | (go_simp; done) | (go_simp; with_reducible rfl)
  try simp only [Act.put, List.setIfInBounds_toArray, List.set_cons_zero, List.set_cons_succ]
  refine wpAnyH_take (i := 10) (oi := { dst := some 62, op := Op.load 3 (Operand.tmp 61), type := 3, pos := "ref.go:177", after := #[{ on := 9, ground := Ground.data }], guard := none }) (v := .int .i64 3) rfl (by kernel_rfl) (by kernel_rfl) (by kernel_rfl) (fun _ _ _ h => h) (Or.inl ⟨by rfl, ?_⟩) (by with_reducible assumption) ?_
  · intro wx hSw
    (try dsimp only at hSw)
    first | (go_simp; done) | (go_simp; with_reducible rfl)
  try simp only [Act.put, List.setIfInBounds_toArray, List.set_cons_zero, List.set_cons_succ]
  refine wpAnyH_take (i := 11) (oi := { dst := some 63, op := Op.fieldAddr 44 (Operand.tmp 6) 0, type := 0, pos := "ref.go:177", after := #[], guard := none }) (v := .pointer (some ⟨W.heap.size, 0, none⟩)) rfl (by kernel_rfl) (by kernel_rfl) (by kernel_rfl) (fun _ _ _ h => h) (Or.inl ⟨by rfl, ?_⟩) (by with_reducible assumption) ?_
  · intro wx hSw
    (try dsimp only at hSw)
    first | (go_simp; done) | (go_simp; with_reducible rfl)
  try simp only [Act.put, List.setIfInBounds_toArray, List.set_cons_zero, List.set_cons_succ]
  refine wpAnyH_take (i := 12) (oi := { dst := some 64, op := Op.load 3 (Operand.tmp 63), type := 3, pos := "ref.go:177", after := #[{ on := 11, ground := Ground.data }], guard := none }) (v := .int .i64 xi) rfl (by kernel_rfl) (by kernel_rfl) (by kernel_rfl) (fun _ _ _ h => h) (Or.inl ⟨by rfl, ?_⟩) (by with_reducible assumption) ?_
  · intro wx hSw
    (try dsimp only at hSw)
    first | (go_simp; done) | (go_simp; with_reducible rfl)
  try simp only [Act.put, List.setIfInBounds_toArray, List.set_cons_zero, List.set_cons_succ]
  refine wpAnyH_take (i := 13) (oi := { dst := some 65, op := Op.build 42 #[(4, Operand.tmp 62), (5, Operand.tmp 64)], type := 42, pos := "ref.go:177", after := #[{ on := 10, ground := Ground.data }, { on := 12, ground := Ground.data }], guard := none }) (v := .agg #[.int .i64 0, .string ⟨#[]⟩, .string ⟨#[]⟩, .int .i64 0, .int .i64 3, .int .i64 xi]) rfl (by kernel_rfl) (by kernel_rfl) (by kernel_rfl) (fun _ _ _ h => h) (Or.inl ⟨by rfl, ?_⟩) (by with_reducible assumption) ?_
  · intro wx hSw
    (try dsimp only at hSw)
    first | (go_simp; done) | (go_simp; with_reducible rfl)
  try simp only [Act.put, List.setIfInBounds_toArray, List.set_cons_zero, List.set_cons_succ]
  refine wpAnyH_ready (rs := [4]) (by kernel_rfl) (by simp) ?_
  refine AllReadyH.cons rfl (fun K hK => ?_) AllReadyH.nil
  go_simp
  go_wp2_with (((with_reducible refine Calls.mono (HC4.out _ (by with_reducible assumption)) ?_); rintro e w104 ⟨v1, m1, d1, rfl, hS4, HV4⟩))
  refine hK.out _ _ (by with_reducible assumption) (fun hHeld4 => ?_)
  clear hK K
  try simp only [Act.put, List.setIfInBounds_toArray, List.set_cons_zero, List.set_cons_succ]
  refine wpAnyH_ready (rs := [14]) (by kernel_rfl) (by simp) ?_
  refine AllReadyH.cons rfl (fun K hK => ?_) AllReadyH.nil
  go_simp
  go_wp2_with (((with_reducible refine Calls.mono (HC14.out _ _ _ _ (by with_reducible assumption)) ?_); rintro e w114 ⟨g0, p0, q0, g2, p2, q2, rfl, hS14, HV14⟩))
  refine hK.out _ _ (by with_reducible assumption) (fun hHeld14 => ?_)
  clear hK K
  try simp only [Act.put, List.setIfInBounds_toArray, List.set_cons_zero, List.set_cons_succ]
  obtain ⟨⟨l4, h41, h42⟩, _, _⟩ := (hS14.2.2.2.2.2.2.2.2.2.2.2.2.2).out
  obtain ⟨y0, y1, y2, y3, rfl⟩ := four_list h41
  have z0 := h42.cs 0 _ rfl
  have z1 := h42.cs 1 _ rfl
  have z2 := h42.cs 2 _ rfl
  have z3 := h42.cs 3 _ rfl
  have g0' := h42.fz 0
  have g1' := h42.fz 1
  have g2' := h42.fz 2
  have g3' := h42.fz 3
  have HZ : Hid (CellsF w114 (w.heap.size + 1 + 1) [y0, y1, y2, y3]) := h42
  have HL4 : Hid (∀ u0 u1 u2 u3, (Below w.heap.size w ((((w114.setCell ⟨(w.heap.size + 1 + 1), 0, none⟩ u0).setCell ⟨(w.heap.size + 1 + 1), 1, none⟩ u1).setCell ⟨(w.heap.size + 1 + 1), 2, none⟩ u2).setCell ⟨(w.heap.size + 1 + 1), 3, none⟩ u3) ∧ ((((w114.setCell ⟨(w.heap.size + 1 + 1), 0, none⟩ u0).setCell ⟨(w.heap.size + 1 + 1), 1, none⟩ u1).setCell ⟨(w.heap.size + 1 + 1), 2, none⟩ u2).setCell ⟨(w.heap.size + 1 + 1), 3, none⟩ u3).cell? ⟨w.heap.size, 0, none⟩ = some (.slice b0 m0 d0) ∧ ((((w114.setCell ⟨(w.heap.size + 1 + 1), 0, none⟩ u0).setCell ⟨(w.heap.size + 1 + 1), 1, none⟩ u1).setCell ⟨(w.heap.size + 1 + 1), 2, none⟩ u2).setCell ⟨(w.heap.size + 1 + 1), 3, none⟩ u3).cell? ⟨w.heap.size, 1, none⟩ = some (.slice (some ⟨pb, po, none⟩) n1 c1) ∧ ((((w114.setCell ⟨(w.heap.size + 1 + 1), 0, none⟩ u0).setCell ⟨(w.heap.size + 1 + 1), 1, none⟩ u1).setCell ⟨(w.heap.size + 1 + 1), 2, none⟩ u2).setCell ⟨(w.heap.size + 1 + 1), 3, none⟩ u3).cell? ⟨w.heap.size, 2, none⟩ = some (.slice a2 n2 c2) ∧ ((((w114.setCell ⟨(w.heap.size + 1 + 1), 0, none⟩ u0).setCell ⟨(w.heap.size + 1 + 1), 1, none⟩ u1).setCell ⟨(w.heap.size + 1 + 1), 2, none⟩ u2).setCell ⟨(w.heap.size + 1 + 1), 3, none⟩ u3).cell? ⟨w.heap.size, 3, none⟩ = some (.int .i64 ops) ∧ ((((w114.setCell ⟨(w.heap.size + 1 + 1), 0, none⟩ u0).setCell ⟨(w.heap.size + 1 + 1), 1, none⟩ u1).setCell ⟨(w.heap.size + 1 + 1), 2, none⟩ u2).setCell ⟨(w.heap.size + 1 + 1), 3, none⟩ u3).cell? ⟨w.heap.size + 1, 0, none⟩ = some (.int .i64 3) ∧ ((((w114.setCell ⟨(w.heap.size + 1 + 1), 0, none⟩ u0).setCell ⟨(w.heap.size + 1 + 1), 1, none⟩ u1).setCell ⟨(w.heap.size + 1 + 1), 2, none⟩ u2).setCell ⟨(w.heap.size + 1 + 1), 3, none⟩ u3).cell? ⟨w.heap.size + 1, 5, none⟩ = some (.int .i64 ((j : Int) + 1)) ∧ ((((w114.setCell ⟨(w.heap.size + 1 + 1), 0, none⟩ u0).setCell ⟨(w.heap.size + 1 + 1), 1, none⟩ u1).setCell ⟨(w.heap.size + 1 + 1), 2, none⟩ u2).setCell ⟨(w.heap.size + 1 + 1), 3, none⟩ u3).cell? ⟨W.heap.size, 0, none⟩ = some (.int .i64 xi) ∧ ((((w114.setCell ⟨(w.heap.size + 1 + 1), 0, none⟩ u0).setCell ⟨(w.heap.size + 1 + 1), 1, none⟩ u1).setCell ⟨(w.heap.size + 1 + 1), 2, none⟩ u2).setCell ⟨(w.heap.size + 1 + 1), 3, none⟩ u3).cell? ⟨W.heap.size, 3, none⟩ = some (.int .i64 xq) ∧ ((((w114.setCell ⟨(w.heap.size + 1 + 1), 0, none⟩ u0).setCell ⟨(w.heap.size + 1 + 1), 1, none⟩ u1).setCell ⟨(w.heap.size + 1 + 1), 2, none⟩ u2).setCell ⟨(w.heap.size + 1 + 1), 3, none⟩ u3).cell? ⟨W.heap.size + 1, 0, none⟩ = some (.string xs) ∧ ((((w114.setCell ⟨(w.heap.size + 1 + 1), 0, none⟩ u0).setCell ⟨(w.heap.size + 1 + 1), 1, none⟩ u1).setCell ⟨(w.heap.size + 1 + 1), 2, none⟩ u2).setCell ⟨(w.heap.size + 1 + 1), 3, none⟩ u3).cell? ⟨W.heap.size + 1, 1, none⟩ = some (.string xl) ∧ ((((w114.setCell ⟨(w.heap.size + 1 + 1), 0, none⟩ u0).setCell ⟨(w.heap.size + 1 + 1), 1, none⟩ u1).setCell ⟨(w.heap.size + 1 + 1), 2, none⟩ u2).setCell ⟨(w.heap.size + 1 + 1), 3, none⟩ u3).cell? ⟨W.heap.size + 1, 2, none⟩ = some (.int .i64 0) ∧ ((((w114.setCell ⟨(w.heap.size + 1 + 1), 0, none⟩ u0).setCell ⟨(w.heap.size + 1 + 1), 1, none⟩ u1).setCell ⟨(w.heap.size + 1 + 1), 2, none⟩ u2).setCell ⟨(w.heap.size + 1 + 1), 3, none⟩ u3).cell? ⟨W.heap.size + 1, 3, none⟩ = some (.int .i64 0) ∧ Hid ((∃ l4, l4.length = 4 ∧ CellsF ((((w114.setCell ⟨(w.heap.size + 1 + 1), 0, none⟩ u0).setCell ⟨(w.heap.size + 1 + 1), 1, none⟩ u1).setCell ⟨(w.heap.size + 1 + 1), 2, none⟩ u2).setCell ⟨(w.heap.size + 1 + 1), 3, none⟩ u3) (w.heap.size + 1 + 1) l4) ∧ Rw stv 4 ((((w114.setCell ⟨(w.heap.size + 1 + 1), 0, none⟩ u0).setCell ⟨(w.heap.size + 1 + 1), 1, none⟩ u1).setCell ⟨(w.heap.size + 1 + 1), 2, none⟩ u2).setCell ⟨(w.heap.size + 1 + 1), 3, none⟩ u3) b0 (addHeld L.S xs xl (-xq)) ∧ X.heap.size ≤ ((((w114.setCell ⟨(w.heap.size + 1 + 1), 0, none⟩ u0).setCell ⟨(w.heap.size + 1 + 1), 1, none⟩ u1).setCell ⟨(w.heap.size + 1 + 1), 2, none⟩ u2).setCell ⟨(w.heap.size + 1 + 1), 3, none⟩ u3).heap.size))) := fun u0 u1 u2 u3 => HLAST.out _ _ _ _ _ hS14
  have hb14 : Below w104.heap.size w104 w114 := by first | exact HV14.out.2.2.2.2.1 | exact ⟨HV14.out.2.2.2.2.1.os, HV14.out.2.2.2.2.1.tape, HV14.out.2.2.2.2.1.output, HV14.out.2.2.2.2.1.size, HV14.out.2.2.2.2.1.block⟩
  have hbw : Below w.heap.size w w114 := hS14.1
  have HFIN : Hid (∀ u0 u1 u2 u3, Lies ((((w114.setCell ⟨(w.heap.size + 1 + 1), 0, none⟩ u0).setCell ⟨(w.heap.size + 1 + 1), 1, none⟩ u1).setCell ⟨(w.heap.size + 1 + 1), 2, none⟩ u2).setCell ⟨(w.heap.size + 1 + 1), 3, none⟩ u3) g0 v1 g2 L' ∧ Below w.heap.size w ((((w114.setCell ⟨(w.heap.size + 1 + 1), 0, none⟩ u0).setCell ⟨(w.heap.size + 1 + 1), 1, none⟩ u1).setCell ⟨(w.heap.size + 1 + 1), 2, none⟩ u2).setCell ⟨(w.heap.size + 1 + 1), 3, none⟩ u3)) := fun u0 u1 u2 u3 => by
    refine ⟨⟨?_, ?_, ?_⟩, below_four hbw _ (by omega) _ _ _ _⟩
    · rw [HEX.out.1]; exact HV14.out.2.2.1.far (fun b' o' e hne => four_far _ _ _ _ _ _ (by have := HV14.out.2.2.2.2.2.1 b' o' e; omega))
    · rw [HEX.out.2.1]; exact (HV4.out.2.1.next hlv_ne hb14).far (fun b' o' e hne => four_far _ _ _ _ _ _ (by have := HV4.out.2.2.2 b' o' e; omega))
    · rw [HEX.out.2.2.1]; exact HV14.out.2.2.2.1.far (fun b' o' e hne => four_far _ _ _ _ _ _ (by have := HV14.out.2.2.2.2.2.2 b' o' e; omega))
  have HLN : Hid (L'.S.length = p0 ∧ L'.H.length = m1 ∧ L'.M.length = p2 ∧ m1 ≤ d1) := by show _ ∧ _; rw [HEX.out.1, HEX.out.2.1, HEX.out.2.2.1]; exact ⟨HV14.out.1, HV4.out.1, HV14.out.2.1, HV4.out.2.2.1⟩
  have HNA : Hid (SrcL w a0 (some ⟨pb, po, none⟩) a2 L g0 v1 g2 L') := ⟨fun _ b' o' e => by have := HV14.out.2.2.2.2.2.1 b' o' e; exact .inl (by omega), fun _ b' o' e => by have := HV4.out.2.2.2 b' o' e; exact .inl (by omega), fun _ b' o' e => by have := HV14.out.2.2.2.2.2.2 b' o' e; exact .inl (by omega)⟩
  clear h41 h42 hb14 hbw
  refine wpAnyH_ready (rs := [15]) (by kernel_rfl) (by simp) ?_
  refine AllReadyH.cons rfl (fun K hK => ?_) AllReadyH.nil
  go_simp
  refine hK.out _ _ (HL4.out _ _ _ _) (fun hHeld15 => ?_)
  clear hK K
  try simp only [Act.put, List.setIfInBounds_toArray, List.set_cons_zero, List.set_cons_succ]
  refine wpAnyH_take (i := 16) (oi := { dst := some 5, op := Op.assign (Operand.const (Value.int IntKind.i64 0)), type := 31, pos := "ref.go:177", after := #[{ on := 15, ground := Ground.chain }, { on := 0, ground := Ground.phase }, { on := 1, ground := Ground.phase }, { on := 2, ground := Ground.phase }, { on := 3, ground := Ground.phase }, { on := 4, ground := Ground.phase }, { on := 5, ground := Ground.phase }, { on := 6, ground := Ground.phase }, { on := 7, ground := Ground.phase }, { on := 8, ground := Ground.phase }, { on := 9, ground := Ground.phase }, { on := 10, ground := Ground.phase }, { on := 11, ground := Ground.phase }, { on := 12, ground := Ground.phase }, { on := 13, ground := Ground.phase }, { on := 14, ground := Ground.phase }, { on := 15, ground := Ground.phase }], guard := none }) (v := .int .i64 0) rfl (by kernel_rfl) (by kernel_rfl) (by kernel_rfl) (fun _ _ _ h => h) (Or.inl ⟨by rfl, ?_⟩) (by with_reducible assumption) ?_
  · intro wx hSw
    (try dsimp only at hSw)
    first | (go_simp; done) | (go_simp; with_reducible rfl)
  try simp only [Act.put, List.setIfInBounds_toArray, List.set_cons_zero, List.set_cons_succ]
  refine wpAnyH_done (by kernel_rfl) ?_ _
  go_wp2_with fail
  try simp only [Exit.inBlock, Exit.then]
  refine bodyPost_ret (end_cell_tmp rfl rfl (loadLed _ (HZ.out.four rfl _ _ _ _) rfl)) rfl ?_
  exact ⟨_, _, _, _, _, _, _, _, _, by rw [HEX.out.2.2.2]; rfl, HLN.out.1, HLN.out.2.1, HLN.out.2.2.1, (HFIN.out _ _ _ _).1, HLN.out.2.2.2, (HFIN.out _ _ _ _).2, HNA.out⟩
end Go.Proofs.Ytflbcheofmljeaa
