/- each. -/
import Derived.Test.YtgjeobmbfeinnaaWid
namespace Go.Proofs.Ytgjeobmbfeinnaa
open Go.ChangeShapes Go.WideShapes Go.RowKit
set_option linter.unusedVariables false
set_option maxRecDepth 100000

/-- Nothing is told yet, and what is told is kept. -/
structure Told (w : World) (tb : Nat) (J : World → List En → Prop) : Prop where
  bel : ∀ wr L, J wr L → Below w.heap.size w wr
  mor : ∀ wr L, J wr L → ∀ o, J (wr.alloc o) L
  stp : ∀ wr L (e : Ent) (x : En), J wr L → EnAt w e x → L.length < 990 → x.1.fit → Calls Try.prog 32 #[e.val, .pointer (some ⟨tb, 0, none⟩)] wr fun r w' => r = .returned (.tuple #[]) ∧ J w' (L ++ [x])
theorem take_succ {α : Type} {l : List α} {i : Nat} {x : α} (h : l[i]? = some x) : l.take (i + 1) = l.take i ++ [x] := by
  rw [List.take_add_one, h]; rfl
theorem take_flat {α : Type} {l : List (List α)} {i : Nat} {x : List α} (h : l[i]? = some x) : (l.take (i + 1)).flatten = (l.take i).flatten ++ x := by
  rw [take_succ h]; simp
set_option maxHeartbeats 8000000 in
theorem each_is (p : Nat) (c : Int) (F : Val → List Int) (nb M : Nat) (v : Value) (ads : List Nat) (us : List Value) (bs : List (List En)) (hM : M ≤ 990) (hn2 : nb ≤ 1000) (tb : Nat) (J : World → List En → Prop) (w w0 : World) (h : IxAt w p F nb M v ads us bs) (hfit : ∀ v, F v ≠ [] → v.fit) (hJ : Told w tb J) (h0 : J w0 []) :
    Calls Try.prog 31 #[.agg #[.pointer (some ⟨p, 0, none⟩), .int .i64 c], .func (.func 32) #[] #[.pointer (some ⟨tb, 0, none⟩)]] w0 fun e w' => e = .returned (.tuple #[]) ∧ J w' bs.flatten := by
  have HI : Hid (IxAt w p F nb M v ads us bs) := h
  have HJ : Hid (Told w tb J) := hJ
  have HFT : Hid (∀ (q : Nat) (b : List En), bs[q]? = some b → ∀ x ∈ b, x.1.fit) := fun q b hb x hx => by
    have := h.fits.at_ q b hb x hx
    exact hfit x.1 (by rw [this.2.1]; exact this.2.2)
  have hl0 : ads ≠ [] := fun e => by have := h.posn; rw [← h.nads, e] at this; simp at this
  obtain ⟨lb, lo', lc, hlv, hlc, hlb, hcs⟩ := h.lst.ptrs hl0
  rw [h.nads] at hlv hlc
  have d0 := h.cell
  rw [hlv] at d0
  have HD0 : Hid (w.cell? ⟨p, 0, none⟩ = some (.slice (some ⟨lb, lo', none⟩) nb lc)) := d0
  have HCS : Hid (∀ i (g : Nat), ads[i]? = some g → w.cell? ⟨lb, lo' + i, none⟩ = some (.pointer (some ⟨g, 0, none⟩))) := hcs
  have HJ0 : Hid (J (w0.alloc (.cells #[.pointer (some ⟨p, 0, none⟩), .int .i64 c] 27)) []) := hJ.mor _ _ h0 _
  have HB0 := hJ.bel _ _ HJ0.out
  have y0 := (HB0.cell (p := ⟨p, 0, none⟩) (World.block_lt_of_cell? w _ d0)).trans d0
  clear h hJ hfit h0 d0 hcs hlb hlv HB0
  go_enter Try.func31, Try.ntmps31
  go_wp2_with fail
  clear y0
  go_loopw [19] (fun vi wr => ∃ i : Nat, i ≤ nb ∧ vi = .int .i64 i ∧ Hid (J wr (bs.take (8 * i)).flatten))
    (fun vi _ => nb - (intOf vi).toNat)
  case atStart => exact ⟨0, Nat.zero_le _, rfl, by simpa [Hid] using HJ0.out⟩
  case round =>
    clear HJ0
    obtain ⟨i, hi, rfl, HJi⟩ := hrel
    by_cases hlt : i < nb
    · have hlti : (i : Int) < (nb : Int) := by omega
      obtain ⟨g, hg⟩ : ∃ g, ads[i]? = some g := ⟨_, List.getElem?_eq_getElem (by rw [HI.out.nads]; exact hlt)⟩
      have HG : Hid (ads[i]? = some g) := hg
      have y2 := ((HJ.out.bel _ _ HJi.out).cell (p := ⟨lb, lo' + i, none⟩) (World.block_lt_of_cell? w _ (HCS.out i g hg))).trans (HCS.out i g hg)
      clear hg
      go_wp2_with fail
      clear y2
      go_loopw [25] (fun vj wr => ∃ j : Nat, j ≤ 8 ∧ vj = .int .i64 j ∧ Hid (J wr (bs.take (8 * i + j)).flatten))
        (fun vj _ => 8 - (intOf vj).toNat)
      case atStart => exact ⟨0, Nat.zero_le _, rfl, HJi.out⟩
      case round =>
        clear HJi
        obtain ⟨j, hj, rfl, HJj⟩ := hrel
        by_cases hlt2 : j < 8
        · have hlti2 : (j : Int) < 8 := by omega
          obtain ⟨u, hu⟩ : ∃ u, us[8 * i + j]? = some u := ⟨_, List.getElem?_eq_getElem (by rw [HI.out.nus]; omega)⟩
          obtain ⟨b, hb⟩ : ∃ b, bs[8 * i + j]? = some b := ⟨_, List.getElem?_eq_getElem (by rw [HI.out.nbs]; omega)⟩
          have hc0 := HI.out.blk i j g u HG.out hlt2 hu
          have y3 := ((HJ.out.bel _ _ HJj.out).cell (p := ⟨g, j, none⟩) (World.block_lt_of_cell? w _ hc0)).trans hc0
          obtain ⟨es, hses, htwo⟩ := HI.out.two.2 _ u b hu hb
          have hbl := le_flat hb
          have hfew := HI.out.few
          have HBF : Hid ((bs.take (8 * i + (j + 1))).flatten = (bs.take (8 * i + j)).flatten ++ b) := take_flat hb
          have HLL : Hid ((bs.take (8 * i + j)).flatten.length + b.length ≤ 990) := by
            have h1 := congrArg List.length HBF.out
            rw [List.length_append] at h1
            have h2 := congrArg List.length (congrArg List.flatten (List.take_append_drop (8 * i + (j + 1)) bs))
            rw [List.flatten_append, List.length_append] at h2
            show _ ≤ _
            omega
          have HFB : Hid (∀ x ∈ b, x.1.fit) := HFT.out _ b hb
          have HSL : Hid (Sl ev 4 w u es) := hses
          have HTW : Hid (Two (EnAt w) es b) := htwo
          obtain ⟨ua, uc, hue, _, _, _⟩ := hses
          obtain ⟨ne, hne⟩ : ∃ ne, es.length = ne := ⟨_, rfl⟩
          have HNE : Hid (es.length = ne) := hne
          have hne2 : ne ≤ 990 := by rw [← hne, htwo.1]; omega
          rw [hne] at hue
          subst hue
          have HJ1 : Hid (J wr ((bs.take (8 * i + j)).flatten ++ b.take 0)) := by
            have := HJj.out
            rw [List.take_zero, List.append_nil]
            exact this
          generalize (bs.take (8 * i + j)).flatten = L0 at *
          clear hc0 hu hb hbl hfew hne htwo HJj
          go_wp2_with fail
          clear y3
          go_loopw [32] (fun vk wr => ∃ k : Nat, k ≤ ne ∧ vk = .int .i64 k ∧ Hid (J wr (L0 ++ b.take k)))
            (fun vk _ => ne - (intOf vk).toNat)
          case atStart => exact ⟨0, Nat.zero_le _, rfl, HJ1.out⟩
          case round =>
            clear HJ1
            obtain ⟨k, hk, rfl, HJk⟩ := hrel
            by_cases hlt3 : k < ne
            · have hlti3 : (k : Int) < (ne : Int) := by omega
              have hml : k < es.length := by have := HNE.out; omega
              have hl1 : es ≠ [] := fun e => by rw [e] at hml; simp at hml
              obtain ⟨b2, o2, c2, hv, hc2, hb2, hcs2⟩ := HSL.out.ents hl1
              rw [HNE.out] at hv
              cases hv
              have hblk := (HJ.out.bel _ _ HJk.out).block b2 hb2
              obtain ⟨z0, z1, z2, z3⟩ := hcs2 k hml
              have y0 := (World.cell?_of_block (a := ⟨b2, o2 + k * 4, none⟩) hblk).trans z0
              have y1 := (World.cell?_of_block (a := ⟨b2, o2 + k * 4 + 1, none⟩) hblk).trans z1
              have y2 := (World.cell?_of_block (a := ⟨b2, o2 + k * 4 + 2, none⟩) hblk).trans z2
              have y3 := (World.cell?_of_block (a := ⟨b2, o2 + k * 4 + 3, none⟩) hblk).trans z3
              obtain ⟨x, hx⟩ : ∃ x, b[k]? = some x := ⟨_, List.getElem?_eq_getElem (by rw [← HTW.out.1]; exact hml)⟩
              have HEN : Hid (EnAt w es[k] x) := HTW.out.2 k _ x (List.getElem?_eq_getElem hml) hx
              have HLK : Hid ((L0 ++ b.take k).length < 990) := by
                show _ < _
                have h1 := HLL.out
                have h2 := getD_lt hx
                rw [List.length_append, List.length_take]
                omega
              have HFX : Hid (x.1.fit) := HFB.out x (List.mem_of_getElem? hx)
              have HTK : Hid (L0 ++ b.take (k + 1) = L0 ++ b.take k ++ [x]) := by show _ = _; rw [take_succ hx, List.append_assoc]
              generalize es[k] = en at *
              obtain ⟨⟨k', n', s'⟩, xa, xn, xc⟩ := en
              have HJA : Hid (J (wr.alloc (.cells #[.int .i64 k', .int .i64 n', .string s', .slice xa xn xc] 61)) (L0 ++ b.take k)) := HJ.out.mor _ _ HJk.out _
              have HC : Hid (Calls Try.prog 32 #[.agg #[.int .i64 k', .int .i64 n', .string s', .slice xa xn xc], .pointer (some ⟨tb, 0, none⟩)] (wr.alloc (.cells #[.int .i64 k', .int .i64 n', .string s', .slice xa xn xc] 61)) fun r w' => r = .returned (.tuple #[]) ∧ J w' (L0 ++ b.take k ++ [x])) := HJ.out.stp _ _ ⟨⟨k', n', s'⟩, xa, xn, xc⟩ x HJA.out HEN.out HLK.out HFX.out
              clear z0 z1 z2 z3 hcs2 hb2 hl1 hblk hml hx HJk
              go_wp2_with fail
              refine Calls.mono HC.out ?_; rintro r wu ⟨rfl, hju⟩
              have HJU : Hid (J wu (L0 ++ b.take (k + 1))) := by show J _ _; rw [HTK.out]; exact hju
              clear hju HC HJA y0 y1 y2 y3
              go_wp2_with fail
              go_roundw
              case rel => exact ⟨k + 1, by omega, by go_num, HJU.out⟩
              case measure => simp [intOf]; omega
            · have hlti3 : ¬ (k : Int) < (ne : Int) := by omega
              have HJE : Hid (J wr (bs.take (8 * i + (j + 1))).flatten) := by
                have := HJk.out
                rw [List.take_of_length_le (by rw [← HTW.out.1, HNE.out]; omega)] at this
                show J _ _
                rw [HBF.out]
                exact this
              clear HJk
              go_wp2_with fail
              go_roundw
              case rel => exact ⟨j + 1, by omega, by go_num, HJE.out⟩
              case measure => simp [intOf]; omega
        · have hlti2 : ¬ (j : Int) < 8 := by omega
          have HJE : Hid (J wr (bs.take (8 * (i + 1))).flatten) := by
            have := HJj.out
            rw [show 8 * i + j = 8 * (i + 1) by omega] at this
            exact this
          clear HJj
          go_wp2_with fail
          go_roundw
          case rel => exact ⟨i + 1, by omega, by go_num, HJE.out⟩
          case measure => simp [intOf]; omega
    · have hlti : ¬ (i : Int) < (nb : Int) := by omega
      have HJE : Hid (J wr bs.flatten) := by
        have := HJi.out
        rw [List.take_of_length_le (by rw [HI.out.nbs]; omega)] at this
        exact this
      clear HJi
      go_wp2_with fail
      go_end0
      exact ⟨rfl, HJE.out⟩
end Go.Proofs.Ytgjeobmbfeinnaa
