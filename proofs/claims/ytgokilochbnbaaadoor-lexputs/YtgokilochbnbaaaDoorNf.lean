/- The document's digits of a number. -/
import Derived.Test.YtgokilochbnbaaaDoorNd
import Derived.Maps.AppendAt
import Derived.Laws.AppendOwn
import Derived.Lib.AppendStr
import Derived.OwnWalk
import Derived.WalkKit
import Derived.ProofKit
import Derived.OpenShut
import Derived.WalkSpells
import Derived.Handy
import Derived.Lib.Strings
import Derived.Laws.BitsAll
import Derived.Laws.IdiomStrings
namespace Go.Proofs.YtgokilochbnbaaaDoor.Num
open Go.ChangeShapes Go.WideShapes Go.ChangeAt Go.RowKit
set_option linter.unusedVariables false
set_option maxRecDepth 100000

theorem Tryd.info5 : (Tryd.prog.info? 5).map (fun i => (i.zero, i.size, i.bytes)) = some (some (.int .u8 0), 1, 1) := by kernel_rfl

def bytesV (l : List UInt8) : List Value := l.map fun c => Value.int .u8 (c.toNat : Int)
theorem bytesV_len (l : List UInt8) : (bytesV l).length = l.length := by unfold bytesV; simp
theorem bytesV_snoc (l : List UInt8) (c : UInt8) : bytesV (l ++ [c]) = bytesV l ++ [Value.int .u8 (c.toNat : Int)] := by unfold bytesV; simp
theorem bytesV_at (l : List UInt8) (k : Nat) (h : k < l.length) : (bytesV l)[k]? = some (Value.int .u8 (l[k].toNat : Int)) := by unfold bytesV; simp [h]
def lenOf : Value → Nat | .slice _ n _ => n | _ => 0

theorem own_form {w : World} {base n : Nat} {v : Value} {xs : List Value} (h : w.ownsRow base 5 1 v n xs) : ∃ ao cap, v = .slice ao n cap := by
  rcases h.2 with ⟨hv, h0⟩ | ⟨g, cap, cur, hv, _⟩
  · exact ⟨none, 0, by rw [hv, h0]⟩
  · exact ⟨_, _, hv⟩
theorem own_row {w : World} {base n : Nat} {v : Value} {xs : List Value} (h : w.ownsRow base 5 1 v n xs) (hn : 0 < n) : ∃ g cap, v = .slice (some ⟨g, 0, none⟩) n cap ∧ base ≤ g ∧ g < w.heap.size := by
  rcases h.2 with ⟨_, h0⟩ | ⟨g, cap, cur, hv, hb, hg, _⟩
  · omega
  · refine ⟨g, cap, hv, hb, ?_⟩
    rcases Nat.lt_or_ge g w.heap.size with hlt | hge
    · exact hlt
    · rw [Array.getElem?_eq_none hge] at hg; simp at hg

/-- What has been written of a number's digits, and what is left of the number. -/
def Left (N m : Nat) (T : List UInt8) : Prop := (T = [] ∧ m = N) ∨ (T ≠ [] ∧ m ≠ 0 ∧ dg N = dg m ++ T) ∨ (T ≠ [] ∧ m = 0 ∧ dg N = T)
theorem Left.step {N m : Nat} {T : List UInt8} (h : Left N m T) (hm : m ≠ 0 ∨ T = []) : Left N (m / 10) (ch (m % 10) :: T) := by
  have he : dg N = dg m ++ T := by
    rcases h with ⟨rfl, rfl⟩ | ⟨_, _, h⟩ | ⟨h1, h2, _⟩
    · simp
    · exact h
    · rcases hm with hm | hm
      · exact absurd h2 hm
      · exact absurd hm h1
  by_cases c : m < 10
  · right; right
    refine ⟨by simp, by omega, ?_⟩
    rw [he, dg_small m c, Nat.mod_eq_of_lt c]
    rfl
  · right; left
    refine ⟨by simp, by omega, ?_⟩
    rw [he, dg_step m (by omega)]
    simp
theorem Left.done {N : Nat} {T : List UInt8} (h : Left N 0 T) (hT : T ≠ []) : dg N = T := by
  rcases h with ⟨h1, _⟩ | ⟨_, h2, _⟩ | ⟨_, _, h3⟩
  · exact absurd h1 hT
  · exact absurd rfl h2
  · exact h3
theorem Left.short {N m : Nat} {T : List UInt8} (h : Left N m T) (hN : (dg N).length ≤ 19) : T.length ≤ 19 := by
  rcases h with ⟨rfl, _⟩ | ⟨_, _, h⟩ | ⟨_, _, h⟩
  · simp
  · rw [h, List.length_append] at hN; omega
  · rw [← h]; exact hN
theorem Left.start (N : Nat) : Left N N [] := .inl ⟨rfl, rfl⟩

theorem neg_mod (m : Nat) : (-(m : Int)).tmod 10 = -((m % 10 : Nat) : Int) := by
  rw [Int.neg_tmod, Int.tmod_eq_emod_of_nonneg (by omega)]; omega
theorem neg_div (m : Nat) (h : m ≤ 9223372036854775808) : wrap64 ((-(m : Int)).tdiv 10) = -((m / 10 : Nat) : Int) := by
  rw [Int.neg_tdiv, Int.tdiv_eq_ediv_of_nonneg (by omega)]; unfold wrap64; omega

set_option maxHeartbeats 2000000 in
theorem refText_plus (N : Nat) (hN : N ≤ 9223372036854775807) (w : World) :
    Calls Tryd.prog 27 #[.int .i64 (N : Int)] w fun e w' => e = .returned (.string ⟨(dg N).toArray⟩) ∧ Below w.heap.size w w' := by
  obtain ⟨i0, hi0, hz0, hz1, hz2⟩ := info_parts Tryd.info5
  have HL : Hid ((dg N).length ≤ 19) := len_dg N 19 (by omega) (by omega)
  go_enter Tryd.func27, Tryd.ntmps27
  go_wp2
  go_loopw [3, 4] (fun v r wr => ∃ (m : Nat) (T : List UInt8) (ao : Option Addr) (cap : Nat), m ≤ 9223372036854775807 ∧ r = .int .i64 (m : Int) ∧ v = .slice ao T.length cap ∧ wr.ownsRow w.heap.size 5 1 (.slice ao T.length cap) T.length (bytesV T.reverse) ∧ Left N m T ∧ Below w.heap.size w wr)
    (fun v r _ => 2 * (intOf r).natAbs + (if lenOf v = 0 then 1 else 0))
  case atStart => exact ⟨N, [], none, 0, hN, rfl, rfl, World.ownsRow_nil _ _ _ _, Left.start N, Below.refl _ _⟩
  case round =>
    obtain ⟨m, T, ao, cap, hm, rfl, rfl, hown, hleft, KB⟩ := hrel
    have hks := KB.size
    have hsh := hleft.short HL.out
    by_cases c : m ≠ 0 ∨ T = []
    · obtain ⟨d, hd⟩ : ∃ d : Nat, d = m % 10 := ⟨_, rfl⟩
      obtain ⟨q, hq⟩ : ∃ q : Nat, q = m / 10 := ⟨_, rfl⟩
      have hd10 : d < 10 := by omega
      have HLEFT : Hid (Left N q (ch d :: T)) := by rw [hd, hq]; exact hleft.step c
      have hqm : q ≤ m := by omega
      have hqs : 1 ≤ m → q < m := by omega
      have e1 : (m : Int) % 10 = (d : Int) := by omega
      have e2 : (m : Int) / 10 = (q : Int) := by omega
      have HC : Hid ((ch d).toNat = 48 + d) := ch_toNat d hd10
      have hz0 : T = [] → m = N := fun h => by rcases hleft with ⟨_, h2⟩ | ⟨h1, _⟩ | ⟨h1, _⟩; exact h2; exact absurd h h1; exact absurd h h1
      have hz1' : m = 0 → d = 0 ∧ q = 0 := fun h => by omega
      clear hd hq hleft
      by_cases z : m = 0
      · have hT : T = [] := by rcases c with c | c; exact absurd z c; exact c
        obtain ⟨rfl, rfl⟩ := hz1' z
        subst hT
        have ec : (m : Int) = 0 := by omega
        rw [ec]
        clear c e1 e2 hz0 hz1' hqs z ec
        go_wp2_with (at_builtin; refine wpList_append_own _ rfl _ _ 35 rfl w.heap.size 5 i0 (.int .u8 0) 1 1 Tryd.underlying35 hi0 hz0 hz1 hz2 rfl (by decide) _ _ _ rfl (hown.alloc _) ⟨wr.heap.size, 0, none⟩ 1 1 [.int .u8 48] rfl rfl ?a1 ?a2 ?a3 ?a4 ?a5 ?_)
        case a1 => exact cell_one_new _ _ _
        case a2 => intro u hu; simp at hu; subst hu; rfl
        case a3 => unfold maxLen; simp
        case a4 => simp
        case a5 => simp; omega
        intro v' w1 hown' hgrow _
        go_wp2
        go_roundw
        case rel =>
          obtain ⟨ao', cap', hv⟩ := own_form hown'
          subst hv
          refine ⟨0, [ch 0], ao', cap', by omega, rfl, rfl, ?_, HLEFT.out, (KB.alloc (by omega) _).grown hgrow (by simp; omega) (fun k hk => (hown.lt k hk).1)⟩
          exact hown'
        case measure =>
          obtain ⟨ao', cap', hv⟩ := own_form hown'
          subst hv
          simp [intOf, lenOf]
      · have hz : ((m : Int) != 0) = true := by simp; omega
        clear c hz0 hz1'
        go_wp2_with (at_builtin; refine wpList_append_own _ rfl _ _ 35 rfl w.heap.size 5 i0 (.int .u8 0) 1 1 Tryd.underlying35 hi0 hz0 hz1 hz2 rfl (by decide) _ _ _ rfl (hown.alloc _) ⟨wr.heap.size, 0, none⟩ 1 1 [.int .u8 (48 + (d : Int))] rfl rfl ?b1 ?b2 ?b3 ?b4 ?b5 ?_)
        case b1 => exact cell_one_new _ _ _
        case b2 => intro u hu; simp at hu; subst hu; rfl
        case b3 => unfold maxLen; omega
        case b4 => omega
        case b5 => simp; omega
        intro v' w1 hown' hgrow _
        go_wp2
        go_roundw
        case rel =>
          obtain ⟨ao', cap', hv⟩ := own_form hown'
          subst hv
          refine ⟨q, ch d :: T, ao', cap', by omega, rfl, rfl, ?_, HLEFT.out, (KB.alloc (by omega) _).grown hgrow (by simp; omega) (fun k hk => (hown.lt k hk).1)⟩
          rw [List.reverse_cons, bytesV_snoc, HC.out]
          exact hown'
        case measure =>
          obtain ⟨ao', cap', hv⟩ := own_form hown'
          subst hv
          have := hqs (by omega)
          simp [intOf, lenOf]; omega
    · obtain ⟨c1, c2⟩ : m = 0 ∧ T ≠ [] := by
        refine ⟨?_, fun h => c (.inr h)⟩
        rcases Nat.eq_zero_or_pos m with h | h
        · exact h
        · exact absurd (.inl (by omega)) c
      have ec : (m : Int) = 0 := by omega
      subst c1
      have HDG : Hid (dg N = T) := hleft.done c2
      have hT : 0 < T.length := by cases T with | nil => exact absurd rfl c2 | cons a r => simp
      have hl0 : ((T.length : Int) == 0) = false := by simp; omega
      clear c c2 hleft
      rw [ec]
      clear ec
      have HR : Hid (dg N = T) := HDG
      obtain ⟨L, hL⟩ : ∃ L : List UInt8, L = T.reverse := ⟨_, rfl⟩
      have HRES : Hid (dg N = L.reverse) := by show _ = _; rw [hL, List.reverse_reverse]; exact HDG.out
      rw [← hL] at hown
      have hlen : T.length = L.length := by rw [hL]; simp
      rw [hlen] at hown hT hsh hl0 ⊢
      clear hL hlen HDG HR
      obtain ⟨g, cp, hv, hbg, hg⟩ := own_row hown hT
      simp only [Value.slice.injEq] at hv
      obtain ⟨rfl, _, rfl⟩ := hv
      have HROW : Hid (∀ k (hk : k < L.length), wr.cell? ⟨g, k, none⟩ = some (.int .u8 (L[k].toNat : Int))) := fun k hk => by
        rw [hown.cellAt k (by omega), bytesV_at L k hk]
      clear hown
      obtain ⟨W, hW⟩ : ∃ W, W = wr := ⟨_, rfl⟩
      rw [← hW] at hg KB HROW ⊢
      clear hW hks
      go_wp2
      go_loopw [6, 7] (fun v i wr => ∃ t : Int, -1 ≤ t ∧ t < L.length ∧ i = .int .i64 t ∧ wr.ownsRow W.heap.size 5 1 v (L.length - (t + 1).toNat) (bytesV (L.drop (t + 1).toNat).reverse) ∧ Below W.heap.size W wr)
        (fun _ i _ => (intOf i + 1).toNat)
      case atStart =>
        refine ⟨(L.length : Int) - 1, by omega, by omega, rfl, ?_, Below.refl _ _⟩
        have e1 : ((L.length : Int) - 1 + 1).toNat = L.length := by omega
        rw [e1, Nat.sub_self, List.drop_length]
        exact World.ownsRow_nil _ _ _ _
      case round =>
        obtain ⟨t, ht1, ht2, rfl, hown, KC⟩ := hrel
        have hkc := KC.size
        by_cases c : 0 ≤ t
        · obtain ⟨q, rfl⟩ := Int.eq_ofNat_of_zero_le c
          have eq : ((q : Int) + 1).toNat = q + 1 := by omega
          rw [eq] at hown
          clear eq
          have hq : q < L.length := by omega
          have hcell := (KC.cell (p := ⟨g, q, none⟩) hg).trans (HROW.out q hq)
          have HB : Hid (bytesV (L.drop q).reverse = bytesV (L.drop (q + 1)).reverse ++ [Value.int .u8 (L[q].toNat : Int)]) := by
            show _ = _
            rw [List.drop_eq_getElem_cons hq, List.reverse_cons, bytesV_snoc]
          generalize (L[q].toNat : Int) = z at hcell HB
          go_wp2_with (at_builtin; refine wpList_append_own _ rfl _ _ 35 rfl W.heap.size 5 i0 (.int .u8 0) 1 1 Tryd.underlying35 hi0 hz0 hz1 hz2 rfl (by decide) _ _ _ rfl (hown.alloc _) ⟨wr.heap.size, 0, none⟩ 1 1 [.int .u8 z] rfl rfl ?m1 ?m2 ?m3 ?m4 ?m5 ?_)
          case m1 => exact cell_one_new _ _ _
          case m2 => intro u hu; simp at hu; subst hu; rfl
          case m3 => unfold maxLen; omega
          case m4 => omega
          case m5 => simp; omega
          intro v' w1 hown' hgrow _
          clear hcell
          go_wp2
          go_roundw
          case rel =>
            have eq : ((q : Int) - 1 + 1).toNat = q := by omega
            refine ⟨(q : Int) - 1, by omega, by omega, rfl, ?_, (KC.alloc (by omega) _).grown hgrow (by simp; omega) (fun k hk => (hown.lt k hk).1)⟩
            rw [eq, HB.out]
            have : L.length - q = L.length - (q + 1) + 1 := by omega
            rw [this]
            exact hown'
          case measure => simp [intOf]
        · obtain rfl : t = -1 := by omega
          have e0 : ((-1 : Int) + 1).toNat = 0 := rfl
          rw [e0, List.drop_zero, Nat.sub_zero] at hown
          clear e0
          obtain ⟨g2, cp2, hv, hbg2, hg2⟩ := own_row hown (by omega)
          subst hv
          have hcv : (convert 35 9 (.slice (some ⟨g2, 0, none⟩) L.length cp2)).run Tryd.prog wr = .ok (.string ⟨L.reverse.toArray⟩) wr := by
            have h := run_convert_bytes_back (P := Tryd.prog) wr 35 9 5 ⟨g2, 0, none⟩ cp2 L.reverse Tryd.underlying35 Tryd.underlying5 Tryd.underlying9 (fun j hj => by
              rw [Go.WideShapes.add_plain, Nat.zero_add, hown.cellAt j (by simpa using hj), bytesV_at _ j hj])
            rwa [List.length_reverse] at h
          go_wp2
          go_ret
          exact ⟨ret_str HRES.out.symm, KB.trans (KC.mono KB.size)⟩

set_option maxHeartbeats 2000000 in
theorem refText_minus (N : Nat) (hpos : 0 < N) (hN : N ≤ 9223372036854775808) (w : World) :
    Calls Tryd.prog 27 #[.int .i64 (-(N : Int))] w fun e w' => e = .returned (.string ⟨(45 :: dg N).toArray⟩) ∧ Below w.heap.size w w' := by
  obtain ⟨i0, hi0, hz0, hz1, hz2⟩ := info_parts Tryd.info5
  have HL : Hid ((dg N).length ≤ 19) := len_dg N 19 (by omega) (by omega)
  go_enter Tryd.func27, Tryd.ntmps27
  go_wp2
  go_loopw [3, 4] (fun v r wr => ∃ (m : Nat) (T : List UInt8) (ao : Option Addr) (cap : Nat), m ≤ 9223372036854775808 ∧ r = .int .i64 (-(m : Int)) ∧ v = .slice ao T.length cap ∧ wr.ownsRow w.heap.size 5 1 (.slice ao T.length cap) T.length (bytesV T.reverse) ∧ Left N m T ∧ Below w.heap.size w wr)
    (fun v r _ => 2 * (intOf r).natAbs + (if lenOf v = 0 then 1 else 0))
  case atStart => exact ⟨N, [], none, 0, hN, rfl, rfl, World.ownsRow_nil _ _ _ _, Left.start N, Below.refl _ _⟩
  case round =>
    obtain ⟨m, T, ao, cap, hm, rfl, rfl, hown, hleft, KB⟩ := hrel
    have hks := KB.size
    have hsh := hleft.short HL.out
    by_cases c : m ≠ 0 ∨ T = []
    · obtain ⟨d, hd⟩ : ∃ d : Nat, d = m % 10 := ⟨_, rfl⟩
      obtain ⟨q, hq⟩ : ∃ q : Nat, q = m / 10 := ⟨_, rfl⟩
      have hd10 : d < 10 := by omega
      have HLEFT : Hid (Left N q (ch d :: T)) := by rw [hd, hq]; exact hleft.step c
      have hqm : q ≤ m := by omega
      have hqs : 1 ≤ m → q < m := by omega
      have e1 : (-(m : Int)).tmod 10 = -(d : Int) := by rw [hd]; exact neg_mod m
      have e2 : (m : Int) / 10 = (q : Int) := by omega
      have HC : Hid ((ch d).toNat = 48 + d) := ch_toNat d hd10
      have hz0 : T = [] → m = N := fun h => by rcases hleft with ⟨_, h2⟩ | ⟨h1, _⟩ | ⟨h1, _⟩; exact h2; exact absurd h h1; exact absurd h h1
      have hz1' : m = 0 → d = 0 ∧ q = 0 := fun h => by omega
      clear hd hq hleft
      by_cases z : m = 0
      · have hT : T = [] := by rcases c with c | c; exact absurd z c; exact c
        have := hz0 hT
        omega
      · have hz : ((-(m : Int)) != 0) = true := by simp; omega
        clear c hz0 hz1'
        rcases Nat.eq_zero_or_pos d with hd0 | hd0
        · subst hd0
          rw [show -(((0 : Nat) : Int)) = 0 from rfl] at e1
          go_wp2_with (at_builtin; refine wpList_append_own _ rfl _ _ 35 rfl w.heap.size 5 i0 (.int .u8 0) 1 1 Tryd.underlying35 hi0 hz0 hz1 hz2 rfl (by decide) _ _ _ rfl (hown.alloc _) ⟨wr.heap.size, 0, none⟩ 1 1 [.int .u8 48] rfl rfl ?z1 ?z2 ?z3 ?z4 ?z5 ?_)
          case z1 => exact cell_one_new _ _ _
          case z2 => intro u hu; simp at hu; subst hu; rfl
          case z3 => unfold maxLen; omega
          case z4 => omega
          case z5 => simp; omega
          intro v' w1 hown' hgrow _
          go_wp2
          go_roundw
          case rel =>
            obtain ⟨ao', cap', hv⟩ := own_form hown'
            subst hv
            refine ⟨q, ch 0 :: T, ao', cap', by omega, rfl, rfl, ?_, HLEFT.out, (KB.alloc (by omega) _).grown hgrow (by simp; omega) (fun k hk => (hown.lt k hk).1)⟩
            rw [List.reverse_cons, bytesV_snoc, HC.out]
            exact hown'
          case measure =>
            obtain ⟨ao', cap', hv⟩ := own_form hown'
            subst hv
            have := hqs (by omega)
            simp [intOf, lenOf]; omega
        · go_wp2_with (at_builtin; refine wpList_append_own _ rfl _ _ 35 rfl w.heap.size 5 i0 (.int .u8 0) 1 1 Tryd.underlying35 hi0 hz0 hz1 hz2 rfl (by decide) _ _ _ rfl (hown.alloc _) ⟨wr.heap.size, 0, none⟩ 1 1 [.int .u8 (48 + (d : Int))] rfl rfl ?b1 ?b2 ?b3 ?b4 ?b5 ?_)
          case b1 => exact cell_one_new _ _ _
          case b2 => intro u hu; simp at hu; subst hu; rfl
          case b3 => unfold maxLen; omega
          case b4 => omega
          case b5 => simp; omega
          intro v' w1 hown' hgrow _
          go_wp2
          go_roundw
          case rel =>
            obtain ⟨ao', cap', hv⟩ := own_form hown'
            subst hv
            refine ⟨q, ch d :: T, ao', cap', by omega, rfl, rfl, ?_, HLEFT.out, (KB.alloc (by omega) _).grown hgrow (by simp; omega) (fun k hk => (hown.lt k hk).1)⟩
            rw [List.reverse_cons, bytesV_snoc, HC.out]
            exact hown'
          case measure =>
            obtain ⟨ao', cap', hv⟩ := own_form hown'
            subst hv
            have := hqs (by omega)
            simp [intOf, lenOf]; omega
    · obtain ⟨c1, c2⟩ : m = 0 ∧ T ≠ [] := by
        refine ⟨?_, fun h => c (.inr h)⟩
        rcases Nat.eq_zero_or_pos m with h | h
        · exact h
        · exact absurd (.inl (by omega)) c
      have ec : (m : Int) = 0 := by omega
      subst c1
      have HDG : Hid (dg N = T) := hleft.done c2
      have hT : 0 < T.length := by cases T with | nil => exact absurd rfl c2 | cons a r => simp
      have hl0 : ((T.length : Int) == 0) = false := by simp; omega
      clear c c2 hleft
      rw [ec]
      rw [Int.neg_zero]
      clear ec
      obtain ⟨g0, cp0, hv, hbg0, hg0⟩ := own_row hown hT
      simp only [Value.slice.injEq] at hv
      obtain ⟨rfl, _, rfl⟩ := hv
      have hpos' : ((-(N : Int)) < 0) := by omega
      go_wp2_with (at_builtin; refine wpList_append_own _ rfl _ _ 35 rfl w.heap.size 5 i0 (.int .u8 0) 1 1 Tryd.underlying35 hi0 hz0 hz1 hz2 rfl (by decide) _ _ _ rfl (hown.alloc _) ⟨wr.heap.size, 0, none⟩ 1 1 [.int .u8 45] rfl rfl ?n1 ?n2 ?n3 ?n4 ?n5 ?_)
      case n1 => exact cell_one_new _ _ _
      case n2 => intro u hu; simp at hu; subst hu; rfl
      case n3 => unfold maxLen; omega
      case n4 => omega
      case n5 => simp; omega
      intro v' W hown' hgrow _
      have KW : Below w.heap.size w W := (KB.alloc (by omega) _).grown hgrow (by simp; omega) (fun k hk => (hown.lt k hk).1)
      obtain ⟨L, hL⟩ : ∃ L : List UInt8, L = T.reverse ++ [45] := ⟨_, rfl⟩
      have HRES : Hid (45 :: dg N = L.reverse) := by show _ = _; rw [hL, List.reverse_append, List.reverse_reverse, HDG.out]; rfl
      have hown2 : W.ownsRow w.heap.size 5 1 v' L.length (bytesV L) := by
        have e1 : L.length = T.length + 1 := by rw [hL]; simp
        rw [e1, hL, bytesV_snoc]
        exact hown'
      have hTL : 0 < L.length := by rw [hL]; simp
      have hsh2 : L.length ≤ 20 := by rw [hL]; simp; omega
      obtain ⟨g, cp, hv, hbg, hg⟩ := own_row hown2 hTL
      have HROW : Hid (∀ k (hk : k < L.length), W.cell? ⟨g, k, none⟩ = some (.int .u8 (L[k].toNat : Int))) := fun k hk => by
        rw [hv] at hown2
        rw [hown2.cellAt k (by omega), bytesV_at L k hk]
      rw [hv]
      clear hown2 hown' hgrow hown hv hL HDG hT hsh hl0 KB hks
      go_wp2
      go_loopw [6, 7] (fun v i wr => ∃ t : Int, -1 ≤ t ∧ t < L.length ∧ i = .int .i64 t ∧ wr.ownsRow W.heap.size 5 1 v (L.length - (t + 1).toNat) (bytesV (L.drop (t + 1).toNat).reverse) ∧ Below W.heap.size W wr)
        (fun _ i _ => (intOf i + 1).toNat)
      case atStart =>
        refine ⟨(L.length : Int) - 1, by omega, by omega, rfl, ?_, Below.refl _ _⟩
        have e1 : ((L.length : Int) - 1 + 1).toNat = L.length := by omega
        rw [e1, Nat.sub_self, List.drop_length]
        exact World.ownsRow_nil _ _ _ _
      case round =>
        obtain ⟨t, ht1, ht2, rfl, hown, KC⟩ := hrel
        have hkc := KC.size
        by_cases c : 0 ≤ t
        · obtain ⟨q, rfl⟩ := Int.eq_ofNat_of_zero_le c
          have eq : ((q : Int) + 1).toNat = q + 1 := by omega
          rw [eq] at hown
          clear eq
          have hq : q < L.length := by omega
          have hcell := (KC.cell (p := ⟨g, q, none⟩) hg).trans (HROW.out q hq)
          have HB : Hid (bytesV (L.drop q).reverse = bytesV (L.drop (q + 1)).reverse ++ [Value.int .u8 (L[q].toNat : Int)]) := by
            show _ = _
            rw [List.drop_eq_getElem_cons hq, List.reverse_cons, bytesV_snoc]
          generalize (L[q].toNat : Int) = z at hcell HB
          go_wp2_with (at_builtin; refine wpList_append_own _ rfl _ _ 35 rfl W.heap.size 5 i0 (.int .u8 0) 1 1 Tryd.underlying35 hi0 hz0 hz1 hz2 rfl (by decide) _ _ _ rfl (hown.alloc _) ⟨wr.heap.size, 0, none⟩ 1 1 [.int .u8 z] rfl rfl ?m1 ?m2 ?m3 ?m4 ?m5 ?_)
          case m1 => exact cell_one_new _ _ _
          case m2 => intro u hu; simp at hu; subst hu; rfl
          case m3 => unfold maxLen; omega
          case m4 => omega
          case m5 => simp; omega
          intro v' w1 hown' hgrow _
          clear hcell
          go_wp2
          go_roundw
          case rel =>
            have eq : ((q : Int) - 1 + 1).toNat = q := by omega
            refine ⟨(q : Int) - 1, by omega, by omega, rfl, ?_, (KC.alloc (by omega) _).grown hgrow (by simp; omega) (fun k hk => (hown.lt k hk).1)⟩
            rw [eq, HB.out]
            have : L.length - q = L.length - (q + 1) + 1 := by omega
            rw [this]
            exact hown'
          case measure => simp [intOf]
        · obtain rfl : t = -1 := by omega
          have e0 : ((-1 : Int) + 1).toNat = 0 := rfl
          rw [e0, List.drop_zero, Nat.sub_zero] at hown
          clear e0
          obtain ⟨g2, cp2, hv, hbg2, hg2⟩ := own_row hown (by omega)
          subst hv
          have hcv : (convert 35 9 (.slice (some ⟨g2, 0, none⟩) L.length cp2)).run Tryd.prog wr = .ok (.string ⟨L.reverse.toArray⟩) wr := by
            have h := run_convert_bytes_back (P := Tryd.prog) wr 35 9 5 ⟨g2, 0, none⟩ cp2 L.reverse Tryd.underlying35 Tryd.underlying5 Tryd.underlying9 (fun j hj => by
              rw [Go.WideShapes.add_plain, Nat.zero_add, hown.cellAt j (by simpa using hj), bytesV_at _ j hj])
            rwa [List.length_reverse] at h
          go_wp2
          go_ret
          exact ⟨ret_str HRES.out.symm, KW.trans (KC.mono KW.size)⟩

/-- The document's Text answers the same digits. -/
theorem refText_any (n : Int) (hn : -9223372036854775808 ≤ n ∧ n ≤ 9223372036854775807) (w : World) :
    Calls Tryd.prog 27 #[.int .i64 n] w fun e w' => e = .returned (.string ⟨(txt n).toArray⟩) ∧ Below w.heap.size w w' := by
  unfold txt
  by_cases c : n < 0
  · rw [if_pos c]
    have h := refText_minus n.natAbs (by omega) (by omega) w
    have e : -(n.natAbs : Int) = n := by omega
    rwa [e] at h
  · rw [if_neg c]
    have h := refText_plus n.natAbs (by omega) w
    have e : (n.natAbs : Int) = n := by omega
    rwa [e] at h
end Go.Proofs.YtgokilochbnbaaaDoor.Num
