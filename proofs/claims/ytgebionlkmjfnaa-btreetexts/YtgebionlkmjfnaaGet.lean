/- Get, Len, Deep. -/
import Derived.Test.YtgebionlkmjfnaaWtt
import Derived.Deep.LoopGhost
namespace Go.Proofs.Ytgebionlkmjfnaa
open Go.ChangeShapes Go.WideShapes Go.RowKit
set_option linter.unusedVariables false
set_option maxRecDepth 100000

/-- A tree as a value. -/
def TreeV (w : World) (p : Option Addr) (n : Int) (l : List Itm) : Prop := n = (l.length : Int) ∧ Sorted l ∧ ((p = none ∧ l = []) ∨ ∃ (b d : Nat) (t : T d), p = some ⟨b, 0, none⟩ ∧ At itv w d b t ∧ Sz 1 12 d t ∧ flat d t = l)
theorem TreeV.next {w w' : World} {p : Option Addr} {n : Int} {l : List Itm} (h : TreeV w p n l) (q : Below w.heap.size w w') : TreeV w' p n l := by
  obtain ⟨h1, h2, h3⟩ := h
  refine ⟨h1, h2, ?_⟩
  rcases h3 with h3 | ⟨b, d, t, e1, e2, e3⟩
  · exact .inl h3
  · exact .inr ⟨b, d, t, e1, At.next itv_ne q e2, e3⟩
theorem TreeV.none (w : World) : TreeV w none 0 [] := ⟨rfl, List.Pairwise.nil, .inl ⟨rfl, rfl⟩⟩
theorem getL_has {P S : List Itm} {x : Itm} {k : Int} (hp : Low P k) (hs : High S k) (hx : x.1 = k) : getL (P ++ [x] ++ S) k = some x.2 := by
  rw [getL_mid hp hs]
  obtain ⟨a, c⟩ := x
  dsimp only at hx
  subst hx
  exact getL_one a c
def gotV (r : Option ByteArray) : ByteArray := r.getD ⟨#[]⟩
set_option maxHeartbeats 4000000 in
theorem get_is (p : Option Addr) (n : Int) (l : List Itm) (key : Int) (w : World) (h : TreeV w p n l) :
    Calls Try.prog 11 #[.agg #[.pointer p, .int .i64 n], .int .i64 key] w fun e w' => e = .returned (.tuple #[.string (gotV (getL l key)), .bool (getL l key).isSome]) ∧ Below w.heap.size w w' := by
  obtain ⟨h1, h2, h3⟩ := h
  have HB0 : Hid (∀ t, Below w.heap.size w (w.alloc t)) := fun t => below1 _ _
  rcases h3 with ⟨rfl, rfl⟩ | ⟨b0, d0, t0, rfl, e2, e3, e4⟩
  · go_enter Try.func11, Try.ntmps11
    go_wp2_with fail
    go_loopg [6] 0 (fun g vp wr => vp = .pointer none ∧ Hid (Below w.heap.size w wr))
    case atStart => exact ⟨rfl, HB0.out _⟩
    case round =>
      obtain ⟨rfl, HB⟩ := hrel
      go_wp2_with fail
      go_ret2
      exact ⟨rfl, HB.out⟩
  · obtain ⟨r, hr⟩ : ∃ r, getL l key = r := ⟨_, rfl⟩
    rw [hr]
    have HI0 : Hid (∀ z, At itv (w.alloc z) d0 b0 t0 ∧ (∃ lo, Sz lo 12 d0 t0) ∧ Sorted (flat d0 t0) ∧ getL (flat d0 t0) key = r ∧ Below w.heap.size w (w.alloc z)) := fun z => ⟨At.next itv_ne (below1 _ _) e2, ⟨1, e3⟩, by rw [e4]; exact h2, by rw [e4]; exact hr, below1 _ _⟩
    clear e2 e3 e4 h1 h2 hr
    go_enter Try.func11, Try.ntmps11
    go_wp2_with fail
    go_loopg [6] d0 (fun g vp wr => ∃ (b : Nat) (t : T g), vp = .pointer (some ⟨b, 0, none⟩) ∧ Hid (At itv wr g b t ∧ (∃ lo, Sz lo 12 g t) ∧ Sorted (flat g t) ∧ getL (flat g t) key = r ∧ Below w.heap.size w wr))
    case atStart => exact ⟨b0, t0, rfl, HI0.out _⟩
    case round =>
      obtain ⟨b, t, rfl, HI⟩ := hrel
      clear HI0
      obtain ⟨bs, hnd⟩ := At.nd HI.out.1
      obtain ⟨lo, hsz⟩ := HI.out.2.1
      have hlen := (Sz.lo hsz).2
      have hsx := items_sorted HI.out.2.2.1
      have HN : Hid (NdAt itv wr b (itemsT t) bs) := hnd
      have HF : Hid (Calls Try.prog 25 #[.pointer (some ⟨b, 0, none⟩), .int .i64 key] wr fun e w' => e = .returned (.tuple #[.int .i64 (pos (itemsT t) key : Nat), .bool (has (itemsT t) key)]) ∧ Below wr.heap.size wr w') := find_is b (itemsT t) bs hsx (by omega) key wr hnd
      obtain ⟨i, hi⟩ : ∃ i, pos (itemsT t) key = i := ⟨_, rfl⟩
      rcases around hsx key with ⟨q1, q2, q3⟩ | ⟨q1, q2, q3, q4, v0, q5⟩
      · rw [hi, q1] at HF
        rw [hi] at q2 q3
        have HA : Hid (Low ((itemsT t).take i) key ∧ High ((itemsT t).drop i) key ∧ pos (itemsT t) key = i) := ⟨q2, q3, hi⟩
        clear hnd hsx hi q1 q2 q3 hsz
        go_wp2_with fail
        refine Calls.mono HF.out ?_; rintro e w1 ⟨rfl, k1⟩
        have HK1 : Hid (Below wr.heap.size wr w1) := k1
        clear k1
        cases gk with
        | zero =>
          have HE : Hid (r = none) := by
            show _ = _
            rw [← HI.out.2.2.2.1]
            have := getL_mid (M := []) HA.out.1 HA.out.2.1
            rw [List.append_nil, List.take_append_drop, getL_nil] at this
            exact this
          have HL : Hid (Calls Try.prog 26 #[.pointer (some ⟨b, 0, none⟩)] w1 fun e w' => e = .returned (.bool true) ∧ w1 = w') := (leaf_is b t [] w1 (NdAt.next itv_ne HI.out.1 HK1.out)).mono (fun e w2 q => ⟨q.1, q.2.symm⟩)
          go_wp2_with fail
          refine Calls.mono HL.out ?_; rintro e w2 ⟨rfl, rfl⟩
          go_wp2_with fail
          go_ret2
          exact ⟨by rw [HE.out]; rfl, Below.next HI.out.2.2.2.2 HK1.out⟩
        | succ g =>
          obtain ⟨xs, ks⟩ := t
          obtain ⟨bs', hn', hk'⟩ := HI.out.1
          obtain ⟨lo', hz⟩ := HI.out.2.1
          obtain ⟨hz1, hz2, hz3, hz4⟩ := hz
          dsimp only at hz1 hz2 hz3 hz4 hn' hk'
          have hp : i ≤ xs.length := by rw [← HA.out.2.2]; exact pos_le _ _
          have hik : i < ks.length := by omega
          have hib : i < bs'.length := by rw [hk'.1]; exact hik
          have hne : bs' ≠ [] := fun e => by rw [e] at hib; simp at hib
          have hn1 := hn'.next itv_ne HK1.out
          have HL : Hid (Calls Try.prog 26 #[.pointer (some ⟨b, 0, none⟩)] w1 fun e w' => e = .returned (.bool false) ∧ w1 = w') := by
            have := leaf_is b xs bs' w1 hn1
            rw [decide_eq_false hne] at this
            exact this.mono (fun e w2 q => ⟨q.1, q.2.symm⟩)
          obtain ⟨u, v, c0, c1, hu, hv⟩ := hn1
          obtain ⟨pb, po, pc, rfl, hpc, hpb, hpt⟩ := hv.ptr hne
          have p0 := hpt i hib
          rw [Nat.mul_one] at p0
          have hilt : (i : Int) < (bs'.length : Int) := by omega
          have HNX : Hid (At itv w1 g bs'[i] ks[i] ∧ (∃ lo, Sz lo 12 g ks[i]) ∧ Sorted (flat g ks[i]) ∧ getL (flat g ks[i]) key = r ∧ Below w.heap.size w w1) := by
            have hs := HI.out.2.2.1
            refine ⟨At.next itv_ne HK1.out (hk'.at i hib hik), ⟨6, hz4 _ (List.getElem_mem hik)⟩, kids_sorted hz3 hs i hp hik, ?_, Below.next HI.out.2.2.2.2 HK1.out⟩
            have hg := HI.out.2.2.2.1
            rw [flat_here xs ks hz3 i hp hik] at hs hg
            have hm := pre_mid (i := i) hs HA.out.1 HA.out.2.1
            rw [getL_mid hm.1 hm.2] at hg
            exact hg
          generalize bs'[i] = kb at *
          clear hu hv hpt hn' hk' HI HN HF HA
          go_wp2_with fail
          refine Calls.mono HL.out ?_; rintro e w2 ⟨rfl, rfl⟩
          go_wp2_with fail
          go_roundg g
          case measure => exact Nat.lt_succ_self _
          case rel => exact ⟨kb, ks[i], rfl, HNX.out⟩
      · rw [hi, q1] at HF
        have hit : i < (itemsT t).length := by rw [← hi]; exact q2
        have hx : (itemsT t)[i].1 = key := by have := has_at q2 q1; simp only [hi] at this; exact this
        have HE : Hid (r = some (itemsT t)[i].2) := by
          show _ = _
          rw [← HI.out.2.2.2.1]
          cases gk with
          | zero =>
            change List Itm at t
            have hd : List.drop i t = t[i] :: List.drop (i + 1) t := List.drop_eq_getElem_cons hit
            rw [hi] at q3 q4
            have := getL_has q3 q4 hx
            rw [List.append_assoc, List.singleton_append] at this
            have e : List.take i t ++ t[i] :: List.drop (i + 1) t = t := by rw [← hd, List.take_append_drop]
            exact (congrArg (fun z => getL z key) e).symm.trans this
          | succ g =>
            obtain ⟨xs, ks⟩ := t
            obtain ⟨lo', hz⟩ := HI.out.2.1
            have hit' : i < xs.length := hit
            have hx' : xs[i].1 = key := hx
            obtain ⟨P, S, e1, e2, e3, _⟩ := flat_has hz.2.2.1 HI.out.2.2.1 hit'
            rw [hx'] at e2 e3
            have := getL_has e2 e3 hx'
            rw [← e1] at this
            exact this
        obtain ⟨u, v, c0, c1, hu, hv⟩ := hnd
        obtain ⟨yb, yo, yc, rfl, hyc, hyb, hyt⟩ := hu.itm (fun e => by rw [e] at hit; simp at hit)
        have y1 := (hyt i hit).2
        generalize (itemsT t)[i].2 = vv at *
        have hilt : (i : Int) < ((itemsT t).length : Int) := by omega
        have HC : Hid (wr.cell? ⟨b, 0, none⟩ = some (.slice (some ⟨yb, yo, none⟩) (itemsT t).length yc) ∧ wr.cell? ⟨yb, yo + i * 2 + 1, none⟩ = some (.string vv)) := ⟨c0, y1⟩
        clear hsx hi q1 q2 q3 q4 q5 hsz hv hu hyt hx c1
        go_wp2_with fail
        refine Calls.mono HF.out ?_; rintro e w1 ⟨rfl, k1⟩
        have HK1 : Hid (Below wr.heap.size wr w1) := k1
        have c0' := (k1.cell (p := ⟨b, 0, none⟩) (World.block_lt_of_cell? wr _ HC.out.1)).trans HC.out.1
        have y1' := (k1.cell (p := ⟨yb, yo + i * 2 + 1, none⟩) (World.block_lt_of_cell? wr _ HC.out.2)).trans HC.out.2
        clear k1 c0 y1
        go_wp2_with fail
        go_ret2
        exact ⟨by rw [HE.out]; rfl, Below.next HI.out.2.2.2.2 HK1.out⟩
theorem len_is (p : Option Addr) (n : Int) (w : World) :
    Calls Try.prog 12 #[.agg #[.pointer p, .int .i64 n]] w fun e w' => e = .returned (.int .i64 n) ∧ Below w.heap.size w w' := by
  have HB0 : Hid (∀ t, Below w.heap.size w (w.alloc t)) := fun t => below1 _ _
  go_enter Try.func12, Try.ntmps12
  go_wp2_with fail
  go_ret
  exact ⟨rfl, HB0.out _⟩
end Go.Proofs.Ytgebionlkmjfnaa
