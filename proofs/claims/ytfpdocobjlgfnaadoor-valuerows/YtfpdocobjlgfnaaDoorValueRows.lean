/- For every two rows and every list of columns the law ValueRows returns true and leaves its arguments as they were, the two listed tables of the library being as the program's text lays them: which of any two rows stands first, by any columns. -/
import Derived.Test.YtfpdocobjlgfnaaDoorRows
import Derived.Test.YtfpdocobjlgfnaaDoorAwake
import Derived.Test.YtfpdocobjlgfnaaDoorOpenR
import Derived.ShutString
import Derived.ChangeOld
import Derived.Below
import Derived.BigRegion
import Derived.BigQuiet
import Derived.Deep.RegionHeld
import Derived.Deep.RegionHeldLaw
namespace Go.Proofs.YtfpdocobjlgfnaaDoor.valueRows
open Go.ChangeShapes Go.WideShapes Go.ChangeAt Go.RowKit
set_option linter.unusedVariables false

theorem cmpR_range (a b : List V) (l : List (Int × Bool)) : cmpR a b l = -1 ∨ cmpR a b l = 0 ∨ cmpR a b l = 1 := by
  induction l with
  | nil => exact .inr (.inl rfl)
  | cons x r ih =>
    obtain ⟨col, down⟩ := x
    rw [cmpR]
    have h : cmpX (atV a col) (atV b col) = -1 ∨ cmpX (atV a col) (atV b col) = 0 ∨ cmpX (atV a col) (atV b col) = 1 := cmpV_range _ _ _ _ _ _
    split
    · exact ih
    · split <;> omega
theorem turn_snoc (l : List (Int × Bool)) (k : Nat) (hk : k < l.length) : turnK (l.take (k + 1)) = turnK (l.take k) ++ [(l[k].1, !l[k].2)] := by
  unfold turnK
  rw [List.take_succ_eq_append_getElem hk, List.map_append]
  rfl
theorem turn_len (l : List (Int × Bool)) : (turnK l).length = l.length := by simp [turnK]

set_option maxRecDepth 100000 in
set_option maxHeartbeats 2000000 in
theorem walk (a b g : Option Addr) (ca cb cg na nb ng : Nat) (ra rb : List V) (l : List (Int × Bool)) (hna : ra.length = na) (hnb : rb.length = nb) (hng : l.length = ng) (hla : na ≤ 9223372036854775807) (hlb : nb ≤ 9223372036854775807) (hlg : ng ≤ 9223372036854775807) (w : World) (hgl : Glob w)
    (ha : Row w (.slice a ra.length ca) ra) (hb : Row w (.slice b rb.length cb) rb) (hg : Keys w (.slice g l.length cg) l) :
    Calls Tryd.prog 4 #[.slice a na ca, .slice b nb cb, .slice g ng cg] w fun e w' => e = .returned (.bool true) ∧ Below w.heap.size w w' := by
  have HL : Hid _ := light_is w.heap.size a b ca cb na nb ra rb hna hnb (w.alloc (.cells #[.slice a na ca, .slice b nb cb] 30)) (by simp) (by simp) (ha.next (below1 _ _)) (hb.next (below1 _ _)) hla hlb
  have HRa : Hid (Row w (.slice a ra.length ca) ra) := ha
  have HRb : Hid (Row w (.slice b rb.length cb) rb) := hb
  have HKg : Hid (Keys w (.slice g l.length cg) l) := hg
  have HNA : Hid _ := hna
  have HNB : Hid _ := hnb
  have HNG : Hid _ := hng
  have HGl : Hid (Glob w) := hgl
  have HA : Hid (∀ w', Below w.heap.size w w' → Calls Tryd.prog 12 #[] w' fun e w'' => e = .returned (.bool true) ∧ Below w.heap.size w w'') := fun w' hS => (awake_is w' (hgl.next hS)).mono (by
    rintro e w'' ⟨rfl, q⟩
    exact ⟨rfl, Below.next hS q⟩)
  have wz0 : IntKind.i64.wrap 0 = 0 := by decide
  have wz1 : IntKind.i64.wrap 1 = 1 := by decide
  have wz2 : IntKind.i64.wrap (-1) = -1 := by decide
  clear ha hb hg hna hnb hng hgl
  go_enter Tryd.func4, Tryd.ntmps4
  go_wp2_with fail
  refine Calls.mono HL.out ?_; rintro e w1 ⟨⟨r, rfl, hr⟩, k1⟩
  have HB1 : Hid (Below w.heap.size w w1) := Below.next (below1 _ _) k1
  clear k1 HL
  cases r with
  | false =>
    go_wp2_with fail
    refine Calls.mono (HA.out _ (HB1.out)) ?_; rintro e w8 ⟨rfl, k8⟩
    have HB8 : Hid (Below w.heap.size w w8) := k8
    clear k8
    go_wp2_with fail
    go_ret
    exact ⟨rfl, HB8.out⟩
  | true =>
    obtain ⟨h3a, h3b⟩ := hr rfl
    by_cases h20 : 20 < ng
    · have h20i : 20 < (ng : Int) := by omega
      go_wp2_with fail
      refine Calls.mono (HA.out _ (HB1.out)) ?_; rintro e w8 ⟨rfl, k8⟩
      have HB8 : Hid (Below w.heap.size w w8) := k8
      clear k8
      go_wp2_with fail
      go_ret
      exact ⟨rfl, HB8.out⟩
    · have h20i : ¬ 20 < (ng : Int) := by omega
      go_wp2_with fail
      go_loopw [7, 8] (fun t i wr => ∃ k : Nat, k ≤ ng ∧ i = .int .i64 k ∧ Hid (OwnK wr w.heap.size t (turnK (l.take k)) ∧ Below w.heap.size w wr))
        (fun _ i _ => ng - (intOf i).toNat)
      case atStart => exact ⟨0, Nat.zero_le _, rfl, World.ownsRow_nil _ _ 34 2, HB1.out⟩
      case round =>
        obtain ⟨k, hk, rfl, HI⟩ := hrel
        by_cases hlt : k < ng
        · have hlti : (k : Int) < (ng : Int) := by omega
          have hkl : k < l.length := by have := HNG.out; omega
          obtain ⟨gb, go, rfl, k0, k1⟩ := HKg.out.at k hkl
          have hcl : ∀ w', Below w.heap.size w w' → w'.cell? ⟨gb, go + k * 2, none⟩ = some (.int .i64 l[k].1) ∧ w'.cell? ⟨gb, go + k * 2 + 1, none⟩ = some (.bool l[k].2) := fun w' q => ⟨(q.cell (p := ⟨gb, go + k * 2, none⟩) (World.block_lt_of_cell? w _ k0)).trans k0, (q.cell (p := ⟨gb, go + k * 2 + 1, none⟩) (World.block_lt_of_cell? w _ k1)).trans k1⟩
          have HT : Hid _ := turn_snoc l k hkl
          have hlen : (turnK (l.take k)).length ≤ 1000 := by rw [turn_len, List.length_take]; omega
          obtain ⟨v2, w2, ra2, o2, b2⟩ := append_key (w := wr.drew) (World.ownsRow.drew HI.out.1) (l[k].1, !l[k].2) hlen HI.out.2.size
          have HE : Hid (OwnK w2 w.heap.size v2 (turnK (l.take (k + 1))) ∧ Below w.heap.size w w2) := ⟨by rw [HT.out]; exact o2, HI.out.2.drew.trans b2⟩
          have s1 := hcl wr HI.out.2
          have s2 := hcl wr.drew HI.out.2.drew
          have s3 := hcl (wr.alloc (.cells #[.int .i64 l[k].1, .bool (!l[k].2)] 34)).drew (HI.out.2.alloc HI.out.2.size _).drew
          have s4 := hcl w2 HE.out.2
          have RA : Hid ((Builtin.append_ #[31, 31] 31 #[u7, .slice (some ⟨wr.heap.size, 0, none⟩) 1 1]).run Tryd.prog (wr.alloc (.cells #[.int .i64 l[k].1, .bool (!l[k].2)] 34)).drew = .ok v2 w2) := ra2
          clear HT o2 b2 ra2 hcl k0 k1 hlen
          generalize l[k] = key at *
          obtain ⟨col, down⟩ := key
          obtain ⟨d0, d1⟩ := id s1
          go_wp2_with (first | ((with_reducible apply st_append (x := .tmp 999)); (case ho => rfl); (case hgd => rfl); (case hr => exact RA.out)))
          go_region_held_law (fun (w' : World) => w'.cell? ⟨gb, go + k * 2, none⟩ = some (.int .i64 col) ∧ w'.cell? ⟨gb, go + k * 2 + 1, none⟩ = some (.bool down)) (with_reducible assumption)
            (refine dr_append rfl rfl RA.out ?_)
          all_goals go_wp2_with fail
          go_roundw
          case rel => exact ⟨k + 1, by omega, by go_num, HE.out⟩
          case measure => simp [intOf]; omega
        · have hlti : ¬ (k : Int) < (ng : Int) := by omega
          obtain rfl : k = ng := by omega
          have hall : l.take k = l := List.take_of_length_le (by have := HNG.out; omega)
          have hO := HI.out.1
          rw [hall] at hO
          obtain ⟨ta, tc, rfl, kt⟩ := hO.keys
          have hra := fun w' (hS : Below wr.heap.size wr w') => HRa.out.next (Below.less HI.out.2 hS HI.out.2.size)
          have hrb := fun w' (hS : Below wr.heap.size wr w') => HRb.out.next (Below.less HI.out.2 hS HI.out.2.size)
          have hkg := fun w' (hS : Below wr.heap.size wr w') => HKg.out.next (Below.less HI.out.2 hS HI.out.2.size)
          have htk := fun w' (hS : Below wr.heap.size wr w') => kt.next hS
          have hlt' : (turnK l).length = k := (turn_len l).trans HNG.out
          rw [hlt']
          clear hO hall kt
          rcases cmpR_range ra rb l with hc | hc | hc
          · have hcx := hc
            have H1 : Hid (∀ w', Below wr.heap.size wr w' → Calls Tryd.prog 14 #[.slice a na ca, .slice b nb cb, .slice g k cg] w' fun e w'' => e = .returned (.int .i64 (-1)) ∧ Below wr.heap.size wr w'') := fun w' hS => (compareRows_is a b g ca cb cg na nb k ra rb l HNA.out HNB.out HNG.out (by omega) (by omega) (by omega) w' (hra w' hS) (hrb w' hS) (hkg w' hS)).mono (by
              rintro e w'' ⟨rfl, q⟩
              exact ⟨by rw [hc], Below.next hS q⟩)
            have H2 : Hid (∀ w', Below wr.heap.size wr w' → Calls Tryd.prog 15 #[.slice a na ca, .slice b nb cb, .slice g k cg] w' fun e w'' => e = .returned (.int .i64 (-1)) ∧ Below wr.heap.size wr w'') := fun w' hS => (refCompareRows_is a b g ca cb cg na nb k ra rb l HNA.out HNB.out HNG.out (by omega) (by omega) (by omega) w' (hra w' hS) (hrb w' hS) (hkg w' hS)).mono (by
              rintro e w'' ⟨rfl, q⟩
              exact ⟨by rw [hc], Below.next hS q⟩)
            have H3 : Hid (∀ w', Below wr.heap.size wr w' → Calls Tryd.prog 14 #[.slice a na ca, .slice b nb cb, .slice ta k tc] w' fun e w'' => e = .returned (.int .i64 (1)) ∧ Below wr.heap.size wr w'') := fun w' hS => (compareRows_is a b ta ca cb tc na nb k ra rb (turnK l) HNA.out HNB.out ((turn_len l).trans HNG.out) (by omega) (by omega) (by omega) w' (hra w' hS) (hrb w' hS) (htk w' hS)).mono (by
              rintro e w'' ⟨rfl, q⟩
              exact ⟨by rw [cmpR_turned, hc]; try rfl, Below.next hS q⟩)
            have H4 : Hid (∀ w', Below wr.heap.size wr w' → Calls Tryd.prog 14 #[.slice b nb cb, .slice a na ca, .slice g k cg] w' fun e w'' => e = .returned (.int .i64 (1)) ∧ Below wr.heap.size wr w'') := fun w' hS => (compareRows_is b a g cb ca cg nb na k rb ra l HNB.out HNA.out HNG.out (by omega) (by omega) (by omega) w' (hrb w' hS) (hra w' hS) (hkg w' hS)).mono (by
              rintro e w'' ⟨rfl, q⟩
              exact ⟨by rw [cmpR_swap, hc]; try rfl, Below.next hS q⟩)
            have HA2 : Hid (∀ w', Below wr.heap.size wr w' → Calls Tryd.prog 12 #[] w' fun e w'' => e = .returned (.bool true) ∧ Below wr.heap.size wr w'') := fun w' hS => (awake_is w' (HGl.out.next (Below.less HI.out.2 hS HI.out.2.size))).mono (by
              rintro e w'' ⟨rfl, q⟩
              exact ⟨rfl, Below.next hS q⟩)
            have HSD : Hid (∀ w', Below wr.heap.size wr w' → Below wr.heap.size wr w'.drew) := fun w' hS => hS.drew
            have hS0 : Below wr.heap.size wr wr := Below.refl _ _
            clear hra hrb hkg htk hc
            go_wp2_with fail
            (with_reducible refine Calls.mono (H1.out _ (by with_reducible assumption)) ?_); rintro e w2 ⟨rfl, hS2⟩
            go_wp2_with fail
            (with_reducible refine Calls.mono (H2.out _ (by with_reducible assumption)) ?_); rintro e w3 ⟨rfl, hS3⟩
            go_wp2_with fail
            (with_reducible refine Calls.mono (H3.out _ (by with_reducible assumption)) ?_); rintro e w4 ⟨rfl, hS4⟩
            go_wp2_with fail
            (with_reducible refine Calls.mono (H4.out _ (by with_reducible assumption)) ?_); rintro e w5 ⟨rfl, hS5⟩
            go_wp2_with fail
            (with_reducible refine Calls.mono (HA2.out _ (by with_reducible assumption)) ?_); rintro e w6 ⟨rfl, hS6⟩
            have HB6 : Hid (Below w.heap.size w w6) := Below.less HI.out.2 hS6 HI.out.2.size
            clear hS2 hS3 hS4 hS5 hS6 hS0
            go_wp2_with fail
            go_ret
            exact ⟨rfl, HB6.out⟩
          · have hcx := hc
            have H1 : Hid (∀ w', Below wr.heap.size wr w' → Calls Tryd.prog 14 #[.slice a na ca, .slice b nb cb, .slice g k cg] w' fun e w'' => e = .returned (.int .i64 (0)) ∧ Below wr.heap.size wr w'') := fun w' hS => (compareRows_is a b g ca cb cg na nb k ra rb l HNA.out HNB.out HNG.out (by omega) (by omega) (by omega) w' (hra w' hS) (hrb w' hS) (hkg w' hS)).mono (by
              rintro e w'' ⟨rfl, q⟩
              exact ⟨by rw [hc], Below.next hS q⟩)
            have H2 : Hid (∀ w', Below wr.heap.size wr w' → Calls Tryd.prog 15 #[.slice a na ca, .slice b nb cb, .slice g k cg] w' fun e w'' => e = .returned (.int .i64 (0)) ∧ Below wr.heap.size wr w'') := fun w' hS => (refCompareRows_is a b g ca cb cg na nb k ra rb l HNA.out HNB.out HNG.out (by omega) (by omega) (by omega) w' (hra w' hS) (hrb w' hS) (hkg w' hS)).mono (by
              rintro e w'' ⟨rfl, q⟩
              exact ⟨by rw [hc], Below.next hS q⟩)
            have H3 : Hid (∀ w', Below wr.heap.size wr w' → Calls Tryd.prog 14 #[.slice a na ca, .slice b nb cb, .slice ta k tc] w' fun e w'' => e = .returned (.int .i64 (0)) ∧ Below wr.heap.size wr w'') := fun w' hS => (compareRows_is a b ta ca cb tc na nb k ra rb (turnK l) HNA.out HNB.out ((turn_len l).trans HNG.out) (by omega) (by omega) (by omega) w' (hra w' hS) (hrb w' hS) (htk w' hS)).mono (by
              rintro e w'' ⟨rfl, q⟩
              exact ⟨by rw [cmpR_turned, hc]; try rfl, Below.next hS q⟩)
            have H4 : Hid (∀ w', Below wr.heap.size wr w' → Calls Tryd.prog 14 #[.slice b nb cb, .slice a na ca, .slice g k cg] w' fun e w'' => e = .returned (.int .i64 (0)) ∧ Below wr.heap.size wr w'') := fun w' hS => (compareRows_is b a g cb ca cg nb na k rb ra l HNB.out HNA.out HNG.out (by omega) (by omega) (by omega) w' (hrb w' hS) (hra w' hS) (hkg w' hS)).mono (by
              rintro e w'' ⟨rfl, q⟩
              exact ⟨by rw [cmpR_swap, hc]; try rfl, Below.next hS q⟩)
            have HA2 : Hid (∀ w', Below wr.heap.size wr w' → Calls Tryd.prog 12 #[] w' fun e w'' => e = .returned (.bool true) ∧ Below wr.heap.size wr w'') := fun w' hS => (awake_is w' (HGl.out.next (Below.less HI.out.2 hS HI.out.2.size))).mono (by
              rintro e w'' ⟨rfl, q⟩
              exact ⟨rfl, Below.next hS q⟩)
            have HSD : Hid (∀ w', Below wr.heap.size wr w' → Below wr.heap.size wr w'.drew) := fun w' hS => hS.drew
            have hS0 : Below wr.heap.size wr wr := Below.refl _ _
            clear hra hrb hkg htk hc
            go_wp2_with fail
            (with_reducible refine Calls.mono (H1.out _ (by with_reducible assumption)) ?_); rintro e w2 ⟨rfl, hS2⟩
            go_wp2_with fail
            (with_reducible refine Calls.mono (H2.out _ (by with_reducible assumption)) ?_); rintro e w3 ⟨rfl, hS3⟩
            go_wp2_with fail
            (with_reducible refine Calls.mono (H3.out _ (by with_reducible assumption)) ?_); rintro e w4 ⟨rfl, hS4⟩
            go_wp2_with fail
            (with_reducible refine Calls.mono (H4.out _ (by with_reducible assumption)) ?_); rintro e w5 ⟨rfl, hS5⟩
            go_wp2_with fail
            (with_reducible refine Calls.mono (HA2.out _ (by with_reducible assumption)) ?_); rintro e w6 ⟨rfl, hS6⟩
            have HB6 : Hid (Below w.heap.size w w6) := Below.less HI.out.2 hS6 HI.out.2.size
            clear hS2 hS3 hS4 hS5 hS6 hS0
            go_wp2_with fail
            go_ret
            exact ⟨rfl, HB6.out⟩
          · have hcx := hc
            have H1 : Hid (∀ w', Below wr.heap.size wr w' → Calls Tryd.prog 14 #[.slice a na ca, .slice b nb cb, .slice g k cg] w' fun e w'' => e = .returned (.int .i64 (1)) ∧ Below wr.heap.size wr w'') := fun w' hS => (compareRows_is a b g ca cb cg na nb k ra rb l HNA.out HNB.out HNG.out (by omega) (by omega) (by omega) w' (hra w' hS) (hrb w' hS) (hkg w' hS)).mono (by
              rintro e w'' ⟨rfl, q⟩
              exact ⟨by rw [hc], Below.next hS q⟩)
            have H2 : Hid (∀ w', Below wr.heap.size wr w' → Calls Tryd.prog 15 #[.slice a na ca, .slice b nb cb, .slice g k cg] w' fun e w'' => e = .returned (.int .i64 (1)) ∧ Below wr.heap.size wr w'') := fun w' hS => (refCompareRows_is a b g ca cb cg na nb k ra rb l HNA.out HNB.out HNG.out (by omega) (by omega) (by omega) w' (hra w' hS) (hrb w' hS) (hkg w' hS)).mono (by
              rintro e w'' ⟨rfl, q⟩
              exact ⟨by rw [hc], Below.next hS q⟩)
            have H3 : Hid (∀ w', Below wr.heap.size wr w' → Calls Tryd.prog 14 #[.slice a na ca, .slice b nb cb, .slice ta k tc] w' fun e w'' => e = .returned (.int .i64 (-1)) ∧ Below wr.heap.size wr w'') := fun w' hS => (compareRows_is a b ta ca cb tc na nb k ra rb (turnK l) HNA.out HNB.out ((turn_len l).trans HNG.out) (by omega) (by omega) (by omega) w' (hra w' hS) (hrb w' hS) (htk w' hS)).mono (by
              rintro e w'' ⟨rfl, q⟩
              exact ⟨by rw [cmpR_turned, hc]; try rfl, Below.next hS q⟩)
            have H4 : Hid (∀ w', Below wr.heap.size wr w' → Calls Tryd.prog 14 #[.slice b nb cb, .slice a na ca, .slice g k cg] w' fun e w'' => e = .returned (.int .i64 (-1)) ∧ Below wr.heap.size wr w'') := fun w' hS => (compareRows_is b a g cb ca cg nb na k rb ra l HNB.out HNA.out HNG.out (by omega) (by omega) (by omega) w' (hrb w' hS) (hra w' hS) (hkg w' hS)).mono (by
              rintro e w'' ⟨rfl, q⟩
              exact ⟨by rw [cmpR_swap, hc]; try rfl, Below.next hS q⟩)
            have HA2 : Hid (∀ w', Below wr.heap.size wr w' → Calls Tryd.prog 12 #[] w' fun e w'' => e = .returned (.bool true) ∧ Below wr.heap.size wr w'') := fun w' hS => (awake_is w' (HGl.out.next (Below.less HI.out.2 hS HI.out.2.size))).mono (by
              rintro e w'' ⟨rfl, q⟩
              exact ⟨rfl, Below.next hS q⟩)
            have HSD : Hid (∀ w', Below wr.heap.size wr w' → Below wr.heap.size wr w'.drew) := fun w' hS => hS.drew
            have hS0 : Below wr.heap.size wr wr := Below.refl _ _
            clear hra hrb hkg htk hc
            go_wp2_with fail
            (with_reducible refine Calls.mono (H1.out _ (by with_reducible assumption)) ?_); rintro e w2 ⟨rfl, hS2⟩
            go_wp2_with fail
            (with_reducible refine Calls.mono (H2.out _ (by with_reducible assumption)) ?_); rintro e w3 ⟨rfl, hS3⟩
            go_wp2_with fail
            (with_reducible refine Calls.mono (H3.out _ (by with_reducible assumption)) ?_); rintro e w4 ⟨rfl, hS4⟩
            go_wp2_with fail
            (with_reducible refine Calls.mono (H4.out _ (by with_reducible assumption)) ?_); rintro e w5 ⟨rfl, hS5⟩
            go_wp2_with fail
            (with_reducible refine Calls.mono (HA2.out _ (by with_reducible assumption)) ?_); rintro e w6 ⟨rfl, hS6⟩
            have HB6 : Hid (Below w.heap.size w w6) := Below.less HI.out.2 hS6 HI.out.2.size
            clear hS2 hS3 hS4 hS5 hS6 hS0
            go_wp2_with fail
            go_ret
            exact ⟨rfl, HB6.out⟩

set_option maxRecDepth 100000 in
theorem lifted (os : Os) (started : os.Started) (H : Type) (enc : TypeId × Value → H) :
    ReturnsInHanded {} Tryd.checked os 4 .any (fun w args => (Rows.valueRowsSpec.pre enc Tryd.prog Tryd.f4 Rows.valueRowsRow.domain false w args ∧ laidMetH Tryd.prog Rows.valueRowsRow.laid w) ∧ sizedMet enc Tryd.prog Tryd.f4 (OpenSpec.ofChange Rows.valueRowsSpec) false w args) (Rows.valueRowsSpec.post enc Tryd.prog Tryd.f4 false true false false) := by
  refine change_and_shaped (C := Tryd.checked) (X := fun w _ => laidMetH Tryd.prog Rows.valueRowsRow.laid w) (fun _ _ _ hh h => h.of_heap hh) own started (by kernel_rfl) Tryd.func4
    (ChangeSpec.witness_shaped (enc := enc) (C := Tryd.checked) (os := os) (X := fun w _ => laidMetH Tryd.prog Rows.valueRowsRow.laid w) false (World.laidAll Tryd.prog os Rows.valueRowsRow.laid) #[.slice none 0 0, .slice none 0 0, .slice none 0 0] 8 (World.laidAll_os _ _ _)
      (World.shaped_of_ZipB (by kernel_rfl) (by kernel_rfl)) (by kernel_rfl) (by kernel_rfl) (by kernel_rfl)
      (by rw [MakeChecks.laidMetH_plain _ _ _ (by kernel_rfl)]; exact laidMet_laidAll _ (by kernel_rfl) (by kernel_rfl))) ?_
  intro W base args ds gs before hval0 hW hsh
  have hval : ∀ (j : Nat) t v, Tryd.f4.params[j]? = some t → args[j]? = some v → Value.okWide Tryd.prog W .any base t v := hval0
  have hW' := hW
  obtain ⟨p, q, hA0, hV, rfl, hfz, hnd⟩ := hW
  have hA : DataW.TrodAll enc Tryd.prog W 0 (fun _ => true) true Tryd.f4.params.toList args.toList ds p := hA0
  rw [Tryd.params4] at hA hval
  obtain ⟨v0, vs0, d0, ds0, p0, q0, hargs, rfl, rfl, h0, rr0⟩ := trodAll_cons hA
  obtain ⟨v1, vs1, d1, ds1, p1, q1, rfl, rfl, rfl, h1, rr1⟩ := trodAll_cons rr0
  obtain ⟨v2, vs2, d2, ds2, p2, q2, rfl, rfl, rfl, h2, r2⟩ := trodAll_cons rr1
  obtain ⟨rfl, rfl, rfl⟩ := trodAll_nil r2
  obtain rfl : args = #[v0, v1, v2] := by cases args; simp_all
  obtain ⟨rfl, rfl⟩ := trodVars_none hV
  have g0 := h0
  have g1 := h1
  have g2 := h2
  have lt0 : ∀ x ∈ p0, x.block < W.heap.size := by obtain ⟨m, hm⟩ := g0; exact DataW.trod_lt m _ _ _ hm
  have lt1 : ∀ x ∈ p1, x.block < W.heap.size := by obtain ⟨m, hm⟩ := g1; exact DataW.trod_lt m _ _ _ hm
  have lt2 : ∀ x ∈ p2, x.block < W.heap.size := by obtain ⟨m, hm⟩ := g2; exact DataW.trod_lt m _ _ _ hm
  obtain ⟨a0, len0, cap0, rfl⟩ := okWide_slice Tryd.underlying30 (hval 0 30 v0 rfl rfl)
  obtain ⟨a1, len1, cap1, rfl⟩ := okWide_slice Tryd.underlying30 (hval 1 30 v1 rfl rfl)
  obtain ⟨a2, len2, cap2, rfl⟩ := okWide_slice Tryd.underlying31 (hval 2 31 v2 rfl rfl)
  obtain ⟨r0, hr0, ht0, hl0⟩ := open_row h0
  obtain ⟨r1, hr1, ht1, hl1⟩ := open_row h1
  obtain ⟨l2, hr2, ht2, hl2⟩ := open_keys h2
  clear hA0 hval0
  simp only [List.append_nil] at hW'
  refine (walk a0 a1 a2 cap0 cap1 cap2 len0 len1 len2 r0 r1 l2 hr0 hr1 hr2 hl0 hl1 hl2 W (glob_of hsh) ht0 ht1 ht2).mono fun e W' ⟨he, bel⟩ => ?_
  subst he
  exact ⟨_, rfl, _, _, _, [], _, [], hW', trodAll_mk1 (shut_bool Tryd.underlying4 _), (trodAll_cons_mk (Below.trod laidOut (by kernel_rfl) (of_decide_eq_true (by kernel_rfl)) g0 bel lt0) (trodAll_cons_mk (Below.trod laidOut (by kernel_rfl) (of_decide_eq_true (by kernel_rfl)) g1 bel lt1) (trodAll_cons_mk (Below.trod laidOut (by kernel_rfl) (of_decide_eq_true (by kernel_rfl)) g2 bel lt2) trodAll_mk0))), rfl, bel.frame _, fun h => by cases h⟩

theorem over : Rows.ValueRowsSaid :=
  OpenClaim.holds_of_wide 4 Tryd.f4 rfl rfl rfl rfl rfl rfl rfl ⟨rfl, rfl, rfl, rfl, rfl⟩ rfl rfl rfl rfl rfl (by kernel_rfl) Tryd.func4 (by kernel_rfl)
    (of_decide_eq_true (by kernel_rfl)) (by unfold Func.isWrapper; first | (rw [if_pos (by decide +kernel)]; kernel_rfl) | (rw [if_neg (by decide +kernel)]; exact ⟨rfl, rfl⟩))
    (fun os started H enc _ => lifted os started H enc)

/-- ████ THE STATEMENT ████ -/
theorem proved : Rows.ValueRowsCardSaid :=
  Claim7.holds_tied_plain_at .later [] [.data, .pinned] true (true, "647c1eda5c3fd17d657d51398d3c79e23436c64eae0fd39fc9353b44211b31c8") false over (fun _ h => by cases h) (by kernel_rfl) (fun _ h => by cases h) valueRows_row_tie rfl ⟨rfl, rfl⟩ (by kernel_rfl) rfl
    (fun f fn hf hfn => by
      obtain rfl : f = 4 := Option.some.inj ((show Tryd.prog.funcNamed "quayside/quaysidelaw05.ValueRows" = some 4 by kernel_rfl).symm.trans hf) |>.symm
      obtain rfl : fn = Tryd.f4 := (Option.some.inj (Tryd.func4.symm.trans hfn)).symm
      exact ⟨by kernel_rfl, fun j t ht => by
        rw [Tryd.params4] at ht
        have hm : t ∈ [30, 30, 31] := by simpa using Array.mem_of_getElem? ht
        have hall : ([30, 30, 31].all fun u => !Tryd.prog.wantsStandIn u) = true := by kernel_rfl
        exact (show Tryd.prog.wantsStandIn t = false by simpa using List.all_eq_true.1 hall t hm)⟩)
    (by kernel_rfl)
#print axioms proved
end Go.Proofs.YtfpdocobjlgfnaaDoor.valueRows
