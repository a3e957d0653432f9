/- The document's digits of a number. The document's tokens as text. -/
import Derived.Test.YtlgkghebemfpjaaGreatDoorQLNd
import Derived.Maps.AppendAt
import Derived.Laws.AppendOwn
import Derived.Lib.AppendStr
import Derived.OwnWalk
import Derived.WalkKit
import Derived.ProofKit
import Derived.OpenShut
import Derived.WalkSpells
import Derived.Handy
import Derived.Lib.Strings
import Derived.Laws.BitsAll
import Derived.Laws.IdiomStrings
import Derived.Test.YtlgkghebemfpjaaGreatDoorQLOb
namespace Go.Proofs.YtlgkghebemfpjaaGreatDoor.Num
open Go.ChangeShapes Go.WideShapes Go.ChangeAt Go.RowKit
set_option linter.unusedVariables false
set_option maxRecDepth 100000
set_option maxRecDepth 100000
theorem Tryz.info5 : (Tryz.prog.info? 5).map (fun i => (i.zero,i.size,i.bytes)) = some (some (.int .u8 0),1,1) := by kernel_rfl
def bytesV (l : List UInt8) : List Value := l.map fun c => Value.int .u8 (c.toNat : Int)
theorem bytesV_snoc (l : List UInt8) (c : UInt8) : bytesV (l ++ [c]) = bytesV l ++ [Value.int .u8 (c.toNat : Int)] := by unfold bytesV; simp
theorem bytesV_at (l : List UInt8) (k : Nat) (h : k < l.length) : (bytesV l)[k]? = some (Value.int .u8 (l[k].toNat : Int)) := by unfold bytesV; simp [h]
def lenOf : Value → Nat | .slice _ n _ => n | _ => 0
theorem own_form {w : World} {base n : Nat} {v : Value} {xs : List Value} (h : w.ownsRow base 5 1 v n xs) : ∃ ao cap,v = .slice ao n cap := by
 rcases h.2 with ⟨hv,h0⟩ | ⟨g,cap,cur,hv,_⟩
 · exact ⟨none,0,by rw [hv,h0]⟩
 · exact ⟨_,_,hv⟩
theorem own_row {w : World} {base n : Nat} {v : Value} {xs : List Value} (h : w.ownsRow base 5 1 v n xs) (hn : 0 < n) : ∃ g cap,v = .slice (some ⟨g,0,none⟩) n cap ∧ base ≤ g ∧ g < w.heap.size := by
 rcases h.2 with ⟨_,h0⟩ | ⟨g,cap,cur,hv,hb,hg,_⟩
 · omega
 · refine ⟨g,cap,hv,hb, ?_⟩
   rcases Nat.lt_or_ge g w.heap.size with hlt | hge
   · exact hlt
   · rw [Array.getElem?_eq_none hge] at hg; simp at hg
def Left (N m : Nat) (T : List UInt8) : Prop := (T = [] ∧ m = N) ∨ (T ≠ [] ∧ m ≠ 0 ∧ dg N = dg m ++ T) ∨ (T ≠ [] ∧ m = 0 ∧ dg N = T)
theorem Left.step {N m : Nat} {T : List UInt8} (h : Left N m T) (hm : m ≠ 0 ∨ T = []) : Left N (m / 10) (ch (m % 10) :: T) := by
 have he : dg N = dg m ++ T := by
  rcases h with ⟨rfl,rfl⟩ | ⟨_,_,h⟩ | ⟨h1,h2,_⟩
  · simp
  · exact h
  · rcases hm with hm | hm
    · exact absurd h2 hm
    · exact absurd hm h1
 by_cases c : m < 10
 · right; right
   refine ⟨by simp,by omega, ?_⟩
   rw [he,dg_small m c,Nat.mod_eq_of_lt c]
   rfl
 · right; left
   refine ⟨by simp,by omega, ?_⟩
   rw [he,dg_step m (by omega)]
   simp
theorem Left.done {N : Nat} {T : List UInt8} (h : Left N 0 T) (hT : T ≠ []) : dg N = T := by
 rcases h with ⟨h1,_⟩ | ⟨_,h2,_⟩ | ⟨_,_,h3⟩
 · exact absurd h1 hT
 · exact absurd rfl h2
 · exact h3
theorem Left.short {N m : Nat} {T : List UInt8} (h : Left N m T) (hN : (dg N).length ≤ 19) : T.length ≤ 19 := by
 rcases h with ⟨rfl,_⟩ | ⟨_,_,h⟩ | ⟨_,_,h⟩
 · simp
 · rw [h,List.length_append] at hN; omega
 · rw [← h]; exact hN
theorem Left.start (N : Nat) : Left N N [] := .inl ⟨rfl,rfl⟩
theorem neg_mod (m : Nat) : (-(m : Int)).tmod 10 = -((m % 10 : Nat) : Int) := by
 rw [Int.neg_tmod,Int.tmod_eq_emod_of_nonneg (by omega)]; omega
set_option maxHeartbeats 2000000 in
theorem refText_plus (N : Nat) (hN : N ≤ 9223372036854775807) (w : World) :
 Calls Tryz.prog 28 #[.int .i64 (N : Int)] w fun e w' => e = .returned (.string ⟨(dg N).toArray⟩) ∧ Below w.heap.size w w' := by
 obtain ⟨i0,hi0,hz0,hz1,hz2⟩ := info_parts Tryz.info5
 have HL : Hid ((dg N).length ≤ 19) := len_dg N 19 (by omega) (by omega)
 go_enter Tryz.func28,Tryz.ntmps28
 go_wp2
 go_loopw [3,4] (fun v r wr => ∃ (m : Nat) (T : List UInt8) (ao : Option Addr) (cap : Nat),m ≤ 9223372036854775807 ∧ r = .int .i64 (m : Int) ∧ v = .slice ao T.length cap ∧ wr.ownsRow w.heap.size 5 1 (.slice ao T.length cap) T.length (bytesV T.reverse) ∧ Left N m T ∧ Below w.heap.size w wr)
  (fun v r _ => 2 * (intOf r).natAbs + (if lenOf v = 0 then 1 else 0))
 case atStart => exact ⟨N, [],none,0,hN,rfl,rfl,World.ownsRow_nil _ _ _ _,Left.start N,Below.refl _ _⟩
 case round =>
  obtain ⟨m,T,ao,cap,hm,rfl,rfl,hown,hleft,KB⟩ := hrel
  have hks := KB.size
  have hsh := hleft.short HL.out
  by_cases c : m ≠ 0 ∨ T = []
  · obtain ⟨d,hd⟩ : ∃ d : Nat,d = m % 10 := ⟨_,rfl⟩
    obtain ⟨q,hq⟩ : ∃ q : Nat,q = m / 10 := ⟨_,rfl⟩
    have hd10 : d < 10 := by omega
    have HLEFT : Hid (Left N q (ch d :: T)) := by rw [hd,hq]; exact hleft.step c
    have hqm : q ≤ m := by omega
    have hqs : 1 ≤ m → q < m := by omega
    have e1 : (m : Int) % 10 = (d : Int) := by omega
    have e2 : (m : Int) / 10 = (q : Int) := by omega
    have HC : Hid ((ch d).toNat = 48 + d) := ch_toNat d hd10
    have hz0 : T = [] → m = N := fun h => by rcases hleft with ⟨_,h2⟩ | ⟨h1,_⟩ | ⟨h1,_⟩; exact h2; exact absurd h h1; exact absurd h h1
    have hz1' : m = 0 → d = 0 ∧ q = 0 := fun h => by omega
    clear hd hq hleft
    by_cases z : m = 0
    · have hT : T = [] := by rcases c with c | c; exact absurd z c; exact c
      obtain ⟨rfl,rfl⟩ := hz1' z
      subst hT
      have ec : (m : Int) = 0 := by omega
      rw [ec]
      clear c e1 e2 hz0 hz1' hqs z ec
      go_wp2_with (at_builtin; refine wpList_append_own _ rfl _ _ 77 rfl w.heap.size 5 i0 (.int .u8 0) 1 1 Tryz.underlying77 hi0 hz0 hz1 hz2 rfl (by decide) _ _ _ rfl (hown.alloc _) ⟨wr.heap.size,0,none⟩ 1 1 [.int .u8 48] rfl rfl ?a1 ?a2 ?a3 ?a4 ?a5 ?_)
      case a1 => exact cell_one_new _ _ _
      case a2 => intro u hu; simp at hu; subst hu; rfl
      case a3 => unfold maxLen; simp
      case a4 => simp
      case a5 => simp; omega
      intro v' w1 hown' hgrow _
      go_wp2
      go_roundw
      case rel =>
       obtain ⟨ao',cap',hv⟩ := own_form hown'
       subst hv
       refine ⟨0, [ch 0],ao',cap',by omega,rfl,rfl, ?_,HLEFT.out,(KB.alloc (by omega) _).grown hgrow (by simp; omega) (fun k hk => (hown.lt k hk).1)⟩
       exact hown'
      case measure =>
       obtain ⟨ao',cap',hv⟩ := own_form hown'
       subst hv
       simp [intOf,lenOf]
    · have hz : ((m : Int) != 0) = true := by simp; omega
      clear c hz0 hz1'
      go_wp2_with (at_builtin; refine wpList_append_own _ rfl _ _ 77 rfl w.heap.size 5 i0 (.int .u8 0) 1 1 Tryz.underlying77 hi0 hz0 hz1 hz2 rfl (by decide) _ _ _ rfl (hown.alloc _) ⟨wr.heap.size,0,none⟩ 1 1 [.int .u8 (48 + (d : Int))] rfl rfl ?b1 ?b2 ?b3 ?b4 ?b5 ?_)
      case b1 => exact cell_one_new _ _ _
      case b2 => intro u hu; simp at hu; subst hu; rfl
      case b3 => unfold maxLen; omega
      case b4 => omega
      case b5 => simp; omega
      intro v' w1 hown' hgrow _
      go_wp2
      go_roundw
      case rel =>
       obtain ⟨ao',cap',hv⟩ := own_form hown'
       subst hv
       refine ⟨q,ch d :: T,ao',cap',by omega,rfl,rfl, ?_,HLEFT.out,(KB.alloc (by omega) _).grown hgrow (by simp; omega) (fun k hk => (hown.lt k hk).1)⟩
       rw [List.reverse_cons,bytesV_snoc,HC.out]
       exact hown'
      case measure =>
       obtain ⟨ao',cap',hv⟩ := own_form hown'
       subst hv
       have := hqs (by omega)
       simp [intOf,lenOf]; omega
  · obtain ⟨c1,c2⟩ : m = 0 ∧ T ≠ [] := by
     refine ⟨?_,fun h => c (.inr h)⟩
     rcases Nat.eq_zero_or_pos m with h | h
     · exact h
     · exact absurd (.inl (by omega)) c
    have ec : (m : Int) = 0 := by omega
    subst c1
    have HDG : Hid (dg N = T) := hleft.done c2
    have hT : 0 < T.length := by cases T with | nil => exact absurd rfl c2 | cons a r => simp
    have hl0 : ((T.length : Int) == 0) = false := by simp; omega
    clear c c2 hleft
    rw [ec]
    clear ec
    have HR : Hid (dg N = T) := HDG
    obtain ⟨L,hL⟩ : ∃ L : List UInt8,L = T.reverse := ⟨_,rfl⟩
    have HRES : Hid (dg N = L.reverse) := by show _ = _; rw [hL,List.reverse_reverse]; exact HDG.out
    rw [← hL] at hown
    have hlen : T.length = L.length := by rw [hL]; simp
    rw [hlen] at hown hT hsh hl0 ⊢
    clear hL hlen HDG HR
    obtain ⟨g,cp,hv,hbg,hg⟩ := own_row hown hT
    simp only [Value.slice.injEq] at hv
    obtain ⟨rfl,_,rfl⟩ := hv
    have HROW : Hid (∀ k (hk : k < L.length),wr.cell? ⟨g,k,none⟩ = some (.int .u8 (L[k].toNat : Int))) := fun k hk => by
     rw [hown.cellAt k (by omega),bytesV_at L k hk]
    clear hown
    obtain ⟨W,hW⟩ : ∃ W,W = wr := ⟨_,rfl⟩
    rw [← hW] at hg KB HROW ⊢
    clear hW hks
    go_wp2
    go_loopw [6,7] (fun v i wr => ∃ t : Int, -1 ≤ t ∧ t < L.length ∧ i = .int .i64 t ∧ wr.ownsRow W.heap.size 5 1 v (L.length - (t + 1).toNat) (bytesV (L.drop (t + 1).toNat).reverse) ∧ Below W.heap.size W wr)
     (fun _ i _ => (intOf i + 1).toNat)
    case atStart =>
     refine ⟨(L.length : Int) - 1,by omega,by omega,rfl, ?_,Below.refl _ _⟩
     have e1 : ((L.length : Int) - 1 + 1).toNat = L.length := by omega
     rw [e1,Nat.sub_self,List.drop_length]
     exact World.ownsRow_nil _ _ _ _
    case round =>
     obtain ⟨t,ht1,ht2,rfl,hown,KC⟩ := hrel
     have hkc := KC.size
     by_cases c : 0 ≤ t
     · obtain ⟨q,rfl⟩ := Int.eq_ofNat_of_zero_le c
       have eq : ((q : Int) + 1).toNat = q + 1 := by omega
       rw [eq] at hown
       clear eq
       have hq : q < L.length := by omega
       have hcell := (KC.cell (p := ⟨g,q,none⟩) hg).trans (HROW.out q hq)
       have HB : Hid (bytesV (L.drop q).reverse = bytesV (L.drop (q + 1)).reverse ++ [Value.int .u8 (L[q].toNat : Int)]) := by
        show _ = _
        rw [List.drop_eq_getElem_cons hq,List.reverse_cons,bytesV_snoc]
       generalize (L[q].toNat : Int) = z at hcell HB
       go_wp2_with (at_builtin; refine wpList_append_own _ rfl _ _ 77 rfl W.heap.size 5 i0 (.int .u8 0) 1 1 Tryz.underlying77 hi0 hz0 hz1 hz2 rfl (by decide) _ _ _ rfl (hown.alloc _) ⟨wr.heap.size,0,none⟩ 1 1 [.int .u8 z] rfl rfl ?m1 ?m2 ?m3 ?m4 ?m5 ?_)
       case m1 => exact cell_one_new _ _ _
       case m2 => intro u hu; simp at hu; subst hu; rfl
       case m3 => unfold maxLen; omega
       case m4 => omega
       case m5 => simp; omega
       intro v' w1 hown' hgrow _
       clear hcell
       go_wp2
       go_roundw
       case rel =>
        have eq : ((q : Int) - 1 + 1).toNat = q := by omega
        refine ⟨(q : Int) - 1,by omega,by omega,rfl, ?_,(KC.alloc (by omega) _).grown hgrow (by simp; omega) (fun k hk => (hown.lt k hk).1)⟩
        rw [eq,HB.out]
        have : L.length - q = L.length - (q + 1) + 1 := by omega
        rw [this]
        exact hown'
       case measure => simp [intOf]
     · obtain rfl : t = -1 := by omega
       have e0 : ((-1 : Int) + 1).toNat = 0 := rfl
       rw [e0,List.drop_zero,Nat.sub_zero] at hown
       clear e0
       obtain ⟨g2,cp2,hv,hbg2,hg2⟩ := own_row hown (by omega)
       subst hv
       have hcv : (convert 77 9 (.slice (some ⟨g2,0,none⟩) L.length cp2)).run Tryz.prog wr = .ok (.string ⟨L.reverse.toArray⟩) wr := by
        have h := run_convert_bytes_back (P := Tryz.prog) wr 77 9 5 ⟨g2,0,none⟩ cp2 L.reverse Tryz.underlying77 Tryz.underlying5 Tryz.underlying9 (fun j hj => by
         rw [Go.WideShapes.add_plain,Nat.zero_add,hown.cellAt j (by simpa using hj),bytesV_at _ j hj])
        rwa [List.length_reverse] at h
       go_wp2
       go_ret
       exact ⟨ret_str HRES.out.symm,KB.trans (KC.mono KB.size)⟩
set_option maxHeartbeats 2000000 in
theorem refText_minus (N : Nat) (hpos : 0 < N) (hN : N ≤ 9223372036854775808) (w : World) :
 Calls Tryz.prog 28 #[.int .i64 (-(N : Int))] w fun e w' => e = .returned (.string ⟨(45 :: dg N).toArray⟩) ∧ Below w.heap.size w w' := by
 obtain ⟨i0,hi0,hz0,hz1,hz2⟩ := info_parts Tryz.info5
 have HL : Hid ((dg N).length ≤ 19) := len_dg N 19 (by omega) (by omega)
 go_enter Tryz.func28,Tryz.ntmps28
 go_wp2
 go_loopw [3,4] (fun v r wr => ∃ (m : Nat) (T : List UInt8) (ao : Option Addr) (cap : Nat),m ≤ 9223372036854775808 ∧ r = .int .i64 (-(m : Int)) ∧ v = .slice ao T.length cap ∧ wr.ownsRow w.heap.size 5 1 (.slice ao T.length cap) T.length (bytesV T.reverse) ∧ Left N m T ∧ Below w.heap.size w wr)
  (fun v r _ => 2 * (intOf r).natAbs + (if lenOf v = 0 then 1 else 0))
 case atStart => exact ⟨N, [],none,0,hN,rfl,rfl,World.ownsRow_nil _ _ _ _,Left.start N,Below.refl _ _⟩
 case round =>
  obtain ⟨m,T,ao,cap,hm,rfl,rfl,hown,hleft,KB⟩ := hrel
  have hks := KB.size
  have hsh := hleft.short HL.out
  by_cases c : m ≠ 0 ∨ T = []
  · obtain ⟨d,hd⟩ : ∃ d : Nat,d = m % 10 := ⟨_,rfl⟩
    obtain ⟨q,hq⟩ : ∃ q : Nat,q = m / 10 := ⟨_,rfl⟩
    have hd10 : d < 10 := by omega
    have HLEFT : Hid (Left N q (ch d :: T)) := by rw [hd,hq]; exact hleft.step c
    have hqm : q ≤ m := by omega
    have hqs : 1 ≤ m → q < m := by omega
    have e1 : (-(m : Int)).tmod 10 = -(d : Int) := by rw [hd]; exact neg_mod m
    have e2 : (m : Int) / 10 = (q : Int) := by omega
    have HC : Hid ((ch d).toNat = 48 + d) := ch_toNat d hd10
    have hz0 : T = [] → m = N := fun h => by rcases hleft with ⟨_,h2⟩ | ⟨h1,_⟩ | ⟨h1,_⟩; exact h2; exact absurd h h1; exact absurd h h1
    have hz1' : m = 0 → d = 0 ∧ q = 0 := fun h => by omega
    clear hd hq hleft
    by_cases z : m = 0
    · have hT : T = [] := by rcases c with c | c; exact absurd z c; exact c
      have := hz0 hT
      omega
    · have hz : ((-(m : Int)) != 0) = true := by simp; omega
      clear c hz0 hz1'
      rcases Nat.eq_zero_or_pos d with hd0 | hd0
      · subst hd0
        rw [show -(((0 : Nat) : Int)) = 0 from rfl] at e1
        go_wp2_with (at_builtin; refine wpList_append_own _ rfl _ _ 77 rfl w.heap.size 5 i0 (.int .u8 0) 1 1 Tryz.underlying77 hi0 hz0 hz1 hz2 rfl (by decide) _ _ _ rfl (hown.alloc _) ⟨wr.heap.size,0,none⟩ 1 1 [.int .u8 48] rfl rfl ?z1 ?z2 ?z3 ?z4 ?z5 ?_)
        case z1 => exact cell_one_new _ _ _
        case z2 => intro u hu; simp at hu; subst hu; rfl
        case z3 => unfold maxLen; omega
        case z4 => omega
        case z5 => simp; omega
        intro v' w1 hown' hgrow _
        go_wp2
        go_roundw
        case rel =>
         obtain ⟨ao',cap',hv⟩ := own_form hown'
         subst hv
         refine ⟨q,ch 0 :: T,ao',cap',by omega,rfl,rfl, ?_,HLEFT.out,(KB.alloc (by omega) _).grown hgrow (by simp; omega) (fun k hk => (hown.lt k hk).1)⟩
         rw [List.reverse_cons,bytesV_snoc,HC.out]
         exact hown'
        case measure =>
         obtain ⟨ao',cap',hv⟩ := own_form hown'
         subst hv
         have := hqs (by omega)
         simp [intOf,lenOf]; omega
      · go_wp2_with (at_builtin; refine wpList_append_own _ rfl _ _ 77 rfl w.heap.size 5 i0 (.int .u8 0) 1 1 Tryz.underlying77 hi0 hz0 hz1 hz2 rfl (by decide) _ _ _ rfl (hown.alloc _) ⟨wr.heap.size,0,none⟩ 1 1 [.int .u8 (48 + (d : Int))] rfl rfl ?b1 ?b2 ?b3 ?b4 ?b5 ?_)
        case b1 => exact cell_one_new _ _ _
        case b2 => intro u hu; simp at hu; subst hu; rfl
        case b3 => unfold maxLen; omega
        case b4 => omega
        case b5 => simp; omega
        intro v' w1 hown' hgrow _
        go_wp2
        go_roundw
        case rel =>
         obtain ⟨ao',cap',hv⟩ := own_form hown'
         subst hv
         refine ⟨q,ch d :: T,ao',cap',by omega,rfl,rfl, ?_,HLEFT.out,(KB.alloc (by omega) _).grown hgrow (by simp; omega) (fun k hk => (hown.lt k hk).1)⟩
         rw [List.reverse_cons,bytesV_snoc,HC.out]
         exact hown'
        case measure =>
         obtain ⟨ao',cap',hv⟩ := own_form hown'
         subst hv
         have := hqs (by omega)
         simp [intOf,lenOf]; omega
  · obtain ⟨c1,c2⟩ : m = 0 ∧ T ≠ [] := by
     refine ⟨?_,fun h => c (.inr h)⟩
     rcases Nat.eq_zero_or_pos m with h | h
     · exact h
     · exact absurd (.inl (by omega)) c
    have ec : (m : Int) = 0 := by omega
    subst c1
    have HDG : Hid (dg N = T) := hleft.done c2
    have hT : 0 < T.length := by cases T with | nil => exact absurd rfl c2 | cons a r => simp
    have hl0 : ((T.length : Int) == 0) = false := by simp; omega
    clear c c2 hleft
    rw [ec]
    rw [Int.neg_zero]
    clear ec
    obtain ⟨g0,cp0,hv,hbg0,hg0⟩ := own_row hown hT
    simp only [Value.slice.injEq] at hv
    obtain ⟨rfl,_,rfl⟩ := hv
    have hpos' : ((-(N : Int)) < 0) := by omega
    go_wp2_with (at_builtin; refine wpList_append_own _ rfl _ _ 77 rfl w.heap.size 5 i0 (.int .u8 0) 1 1 Tryz.underlying77 hi0 hz0 hz1 hz2 rfl (by decide) _ _ _ rfl (hown.alloc _) ⟨wr.heap.size,0,none⟩ 1 1 [.int .u8 45] rfl rfl ?n1 ?n2 ?n3 ?n4 ?n5 ?_)
    case n1 => exact cell_one_new _ _ _
    case n2 => intro u hu; simp at hu; subst hu; rfl
    case n3 => unfold maxLen; omega
    case n4 => omega
    case n5 => simp; omega
    intro v' W hown' hgrow _
    have KW : Below w.heap.size w W := (KB.alloc (by omega) _).grown hgrow (by simp; omega) (fun k hk => (hown.lt k hk).1)
    obtain ⟨L,hL⟩ : ∃ L : List UInt8,L = T.reverse ++ [45] := ⟨_,rfl⟩
    have HRES : Hid (45 :: dg N = L.reverse) := by show _ = _; rw [hL,List.reverse_append,List.reverse_reverse,HDG.out]; rfl
    have hown2 : W.ownsRow w.heap.size 5 1 v' L.length (bytesV L) := by
     have e1 : L.length = T.length + 1 := by rw [hL]; simp
     rw [e1,hL,bytesV_snoc]
     exact hown'
    have hTL : 0 < L.length := by rw [hL]; simp
    have hsh2 : L.length ≤ 20 := by rw [hL]; simp; omega
    obtain ⟨g,cp,hv,hbg,hg⟩ := own_row hown2 hTL
    have HROW : Hid (∀ k (hk : k < L.length),W.cell? ⟨g,k,none⟩ = some (.int .u8 (L[k].toNat : Int))) := fun k hk => by
     rw [hv] at hown2
     rw [hown2.cellAt k (by omega),bytesV_at L k hk]
    rw [hv]
    clear hown2 hown' hgrow hown hv hL HDG hT hsh hl0 KB hks
    go_wp2
    go_loopw [6,7] (fun v i wr => ∃ t : Int, -1 ≤ t ∧ t < L.length ∧ i = .int .i64 t ∧ wr.ownsRow W.heap.size 5 1 v (L.length - (t + 1).toNat) (bytesV (L.drop (t + 1).toNat).reverse) ∧ Below W.heap.size W wr)
     (fun _ i _ => (intOf i + 1).toNat)
    case atStart =>
     refine ⟨(L.length : Int) - 1,by omega,by omega,rfl, ?_,Below.refl _ _⟩
     have e1 : ((L.length : Int) - 1 + 1).toNat = L.length := by omega
     rw [e1,Nat.sub_self,List.drop_length]
     exact World.ownsRow_nil _ _ _ _
    case round =>
     obtain ⟨t,ht1,ht2,rfl,hown,KC⟩ := hrel
     have hkc := KC.size
     by_cases c : 0 ≤ t
     · obtain ⟨q,rfl⟩ := Int.eq_ofNat_of_zero_le c
       have eq : ((q : Int) + 1).toNat = q + 1 := by omega
       rw [eq] at hown
       clear eq
       have hq : q < L.length := by omega
       have hcell := (KC.cell (p := ⟨g,q,none⟩) hg).trans (HROW.out q hq)
       have HB : Hid (bytesV (L.drop q).reverse = bytesV (L.drop (q + 1)).reverse ++ [Value.int .u8 (L[q].toNat : Int)]) := by
        show _ = _
        rw [List.drop_eq_getElem_cons hq,List.reverse_cons,bytesV_snoc]
       generalize (L[q].toNat : Int) = z at hcell HB
       go_wp2_with (at_builtin; refine wpList_append_own _ rfl _ _ 77 rfl W.heap.size 5 i0 (.int .u8 0) 1 1 Tryz.underlying77 hi0 hz0 hz1 hz2 rfl (by decide) _ _ _ rfl (hown.alloc _) ⟨wr.heap.size,0,none⟩ 1 1 [.int .u8 z] rfl rfl ?m1 ?m2 ?m3 ?m4 ?m5 ?_)
       case m1 => exact cell_one_new _ _ _
       case m2 => intro u hu; simp at hu; subst hu; rfl
       case m3 => unfold maxLen; omega
       case m4 => omega
       case m5 => simp; omega
       intro v' w1 hown' hgrow _
       clear hcell
       go_wp2
       go_roundw
       case rel =>
        have eq : ((q : Int) - 1 + 1).toNat = q := by omega
        refine ⟨(q : Int) - 1,by omega,by omega,rfl, ?_,(KC.alloc (by omega) _).grown hgrow (by simp; omega) (fun k hk => (hown.lt k hk).1)⟩
        rw [eq,HB.out]
        have : L.length - q = L.length - (q + 1) + 1 := by omega
        rw [this]
        exact hown'
       case measure => simp [intOf]
     · obtain rfl : t = -1 := by omega
       have e0 : ((-1 : Int) + 1).toNat = 0 := rfl
       rw [e0,List.drop_zero,Nat.sub_zero] at hown
       clear e0
       obtain ⟨g2,cp2,hv,hbg2,hg2⟩ := own_row hown (by omega)
       subst hv
       have hcv : (convert 77 9 (.slice (some ⟨g2,0,none⟩) L.length cp2)).run Tryz.prog wr = .ok (.string ⟨L.reverse.toArray⟩) wr := by
        have h := run_convert_bytes_back (P := Tryz.prog) wr 77 9 5 ⟨g2,0,none⟩ cp2 L.reverse Tryz.underlying77 Tryz.underlying5 Tryz.underlying9 (fun j hj => by
         rw [Go.WideShapes.add_plain,Nat.zero_add,hown.cellAt j (by simpa using hj),bytesV_at _ j hj])
        rwa [List.length_reverse] at h
       go_wp2
       go_ret
       exact ⟨ret_str HRES.out.symm,KW.trans (KC.mono KW.size)⟩
theorem refText_any (n : Int) (hn : -9223372036854775808 ≤ n ∧ n ≤ 9223372036854775807) (w : World) :
 Calls Tryz.prog 28 #[.int .i64 n] w fun e w' => e = .returned (.string ⟨(txt n).toArray⟩) ∧ Below w.heap.size w w' := by
 unfold txt
 by_cases c : n < 0
 · rw [if_pos c]
   have h := refText_minus n.natAbs (by omega) (by omega) w
   have e : -(n.natAbs : Int) = n := by omega
   rwa [e] at h
 · rw [if_neg c]
   have h := refText_plus n.natAbs (by omega) w
   have e : (n.natAbs : Int) = n := by omega
   rwa [e] at h
end Go.Proofs.YtlgkghebemfpjaaGreatDoor.Num

namespace Go.Proofs.YtlgkghebemfpjaaGreatDoor
open Go.ChangeShapes Go.WideShapes Go.ChangeAt Go.RowKit
set_option linter.unusedVariables false
set_option maxRecDepth 100000
set_option maxRecDepth 100000
theorem rmay_yes (s : ByteArray) (hs : (s.size : Int) ≤ 64) (w : World) : Calls Tryz.prog 57 #[vv 2 0 s] w fun e w' => e = .returned (.bool true) ∧ Below w.heap.size w w' := by
 go_enter Tryz.func57,Tryz.ntmps57
 go_wp2
 go_ret
 exact ⟨rfl,below1 _ _⟩
theorem rmay_no (s : ByteArray) (hs : ¬ (s.size : Int) ≤ 64) (w : World) : Calls Tryz.prog 57 #[vv 2 0 s] w fun e w' => e = .returned (.bool false) ∧ Below w.heap.size w w' := by
 go_enter Tryz.func57,Tryz.ntmps57
 go_wp2
 go_ret
 exact ⟨rfl,below1 _ _⟩
theorem rshow_not (s : ByteArray) (hs : ¬ (s.size : Int) ≤ 64) (w : World) : Calls Tryz.prog 29 #[vv 2 0 s] w fun e w' => e = .returned (.string ⟨#[110,117,108,108]⟩) ∧ Below w.heap.size w w' := by
 have HM : Hid (∀ w,Calls Tryz.prog 57 #[vv 2 0 s] w fun e w' => e = .returned (.bool false) ∧ Below w.heap.size w w') := fun w => rmay_no s hs w
 go_enter Tryz.func29,Tryz.ntmps29
 go_wp2_with fail
 refine Calls.mono (HM.out _) ?_; rintro e w1 ⟨rfl,k1⟩
 have HK : Hid (Below w.heap.size w w1) := Below.next (below1 _ _) k1
 clear k1
 go_wp2_with fail
 go_ret
 exact ⟨rfl,HK.out⟩
set_option maxHeartbeats 1000000 in
theorem rshow_text (s : ByteArray) (hs : (s.size : Int) ≤ 64) (w : World) : Calls Tryz.prog 29 #[vv 2 0 s] w fun e w' => e = .returned (.string ⟨(39 :: dupL 39 s.data.toList ++ [39]).toArray⟩) ∧ Below w.heap.size w w' := by
 have HM : Hid (∀ w,Calls Tryz.prog 57 #[vv 2 0 s] w fun e w' => e = .returned (.bool true) ∧ Below w.heap.size w w') := fun w => rmay_yes s hs w
 have HALL : Hid (s.data.toList.take s.size = s.data.toList) := List.take_of_length_le (by rw [len_of]; exact Nat.le_refl _)
 go_enter Tryz.func29,Tryz.ntmps29
 go_wp2_with fail
 refine Calls.mono (HM.out _) ?_; rintro e w1 ⟨rfl,k1⟩
 have HAt : Hid (At w1 w.heap.size 0 2 0 s) := (At.new w 2 0 s).next k1
 obtain ⟨d0,d1,d2⟩ := HAt.out
 have HK : Hid (Below w.heap.size w w1) := Below.next (below1 _ _) k1
 have z1 : w.heap.size < w1.heap.size := HAt.out.lt
 have HO : Hid (OwnB (w1.alloc (.cells #[.int .u8 39] 5)) w1.heap.size (.slice (some ⟨w1.heap.size,0,none⟩) 1 1) [39]) := OwnB.new w1 39 rfl
 have HA1 : Hid (At (w1.alloc (.cells #[.int .u8 39] 5)) w.heap.size 0 2 0 s) := HAt.out.next (below1 _ _)
 have HKeep : Hid (∀ (V W : World),Below w1.heap.size V W → At V w.heap.size 0 2 0 s → At W w.heap.size 0 2 0 s) := fun V W k h => h.below k z1
 clear k1
 go_wp2_with fail
 go_loopw [3,4] (fun out i wr => ∃ k : Nat,k ≤ s.size ∧ i = .int .i64 k ∧ Hid (OwnB wr w1.heap.size out (39 :: dupL 39 (s.data.toList.take k)) ∧ At wr w.heap.size 0 2 0 s ∧ Below w.heap.size w wr ∧ w1.heap.size ≤ wr.heap.size))
  (fun _ i _ => s.size - (intOf i).toNat)
 case atStart => exact ⟨0,Nat.zero_le _,rfl,HO.out,HA1.out,HK.out.alloc HK.out.size _,by simp⟩
 case round =>
  obtain ⟨k,hk,rfl,HI⟩ := hrel
  obtain ⟨a0,a1,a2⟩ := HI.out.2.1
  have hln : (39 :: dupL 39 (s.data.toList.take k)).length ≤ 3000 := by
   have := (dupL_len 39 (s.data.toList.take k)).2
   rw [List.length_take,len_of] at this
   rw [List.length_cons]
   omega
  have HLn : Hid ((39 :: dupL 39 (s.data.toList.take k)).length ≤ 3000) := hln
  clear hln
  by_cases hlt : k < s.size
  · have hlti : (k : Int) < (s.size : Int) := by omega
    have HT : Hid (s.data.toList.take (k + 1) = s.data.toList.take k ++ [s[k]]) := take_byte s k hlt
    obtain ⟨c,hc⟩ : ∃ c,s[k] = c := ⟨_,rfl⟩
    rw [hc] at HT
    by_cases hq : c = 39
    · have hqn : s[k].toNat = 39 := by rw [hc,hq]; rfl
      obtain ⟨v2,w2,ra,o2,b2,_,_⟩ := append_byte HI.out.1 39 (by have := HLn.out; omega) HI.out.2.2.2
      have z2 := b2.size
      obtain ⟨v3,w3,rb,o3,b3,_,_⟩ := append_byte o2 39 (by rw [List.length_append]; have := HLn.out; simp at *; omega) (Nat.le_trans HI.out.2.2.2 z2)
      have RA : Hid ((Builtin.append_ #[77,77] 77 #[u3,.slice (some ⟨wr.heap.size,0,none⟩) 1 1]).run Tryz.prog (wr.alloc (.cells #[.int .u8 39] 5)) = .ok v2 w2) := ra
      have RB : Hid ((Builtin.append_ #[77,77] 77 #[v2,.slice (some ⟨w2.heap.size,0,none⟩) 1 1]).run Tryz.prog (w2.alloc (.cells #[.int .u8 39] 5)) = .ok v3 w3) := rb
      have hb2 := b2.mono (B := w1.heap.size) (by omega : w1.heap.size ≤ w1.heap.size)
      obtain ⟨e0,e1,e2⟩ := HKeep.out wr w2 b2 HI.out.2.1
      have HE : Hid (OwnB w3 w1.heap.size v3 (39 :: dupL 39 (s.data.toList.take (k + 1))) ∧ At w3 w.heap.size 0 2 0 s ∧ Below w.heap.size w w3 ∧ w1.heap.size ≤ w3.heap.size) := by
       refine ⟨?_,HKeep.out w2 w3 b3 (HKeep.out wr w2 b2 HI.out.2.1),(HI.out.2.2.1.trans (b2.mono (by omega))).trans (b3.mono (by omega)),Nat.le_trans HI.out.2.2.2 (Nat.le_trans z2 b3.size)⟩
       rw [HT.out,dupL_snoc,if_pos hq]
       have : (39 :: (dupL 39 (s.data.toList.take k) ++ [39,39]) : List UInt8) = (39 :: dupL 39 (s.data.toList.take k) ++ [39]) ++ [39] := by simp
       rw [this]
       exact o3
      clear ra rb o2 o3 b2 b3 hb2 hc HT
      go_wp2_with (first | ((with_reducible apply st_append (x := .tmp 30)); (case ho => rfl); (case hgd => rfl); (case hr => exact RA.out)) | ((with_reducible apply st_append (x := .tmp 33)); (case ho => rfl); (case hgd => rfl); (case hr => exact RB.out)))
      go_roundw
      case rel => exact ⟨k + 1,by omega,by go_num,HE⟩
      case measure => simp [intOf]; omega
    · have hqn : ¬ s[k].toNat = 39 := fun e => hq (by rw [← hc]; exact UInt8.toNat_inj.1 e)
      have hqb : ((s[k].toNat : Int) == 39) = false := by simp; omega
      have hqi : ¬ (s[k].toNat : Int) = 39 := by omega
      obtain ⟨v2,w2,ra,o2,b2,_,_⟩ := append_byte HI.out.1 c (by have := HLn.out; omega) HI.out.2.2.2
      rw [← hc] at ra
      have RA : Hid ((Builtin.append_ #[77,77] 77 #[u3,.slice (some ⟨wr.heap.size,0,none⟩) 1 1]).run Tryz.prog (wr.alloc (.cells #[.int .u8 (s[k].toNat : Int)] 5)) = .ok v2 w2) := ra
      have HE : Hid (OwnB w2 w1.heap.size v2 (39 :: dupL 39 (s.data.toList.take (k + 1))) ∧ At w2 w.heap.size 0 2 0 s ∧ Below w.heap.size w w2 ∧ w1.heap.size ≤ w2.heap.size) := by
       refine ⟨?_,HKeep.out wr w2 b2 HI.out.2.1,HI.out.2.2.1.trans (b2.mono (by omega)),Nat.le_trans HI.out.2.2.2 b2.size⟩
       rw [HT.out,dupL_snoc,if_neg hq]
       exact o2
      clear ra o2 b2 hc HT
      go_wp2_with (first | ((with_reducible apply st_append (x := .tmp 33)); (case ho => rfl); (case hgd => rfl); (case hr => exact RA.out)))
      go_roundw
      case rel => exact ⟨k + 1,by omega,by go_num,HE⟩
      case measure => simp [intOf]; omega
  · have hlti : ¬ (k : Int) < (s.size : Int) := by omega
    obtain rfl : k = s.size := by omega
    obtain ⟨v2,w2,ra,o2,b2,_,_⟩ := append_byte HI.out.1 39 (by have := HLn.out; omega) HI.out.2.2.2
    rw [HALL.out] at o2
    have RA : Hid ((Builtin.append_ #[77,77] 77 #[u3,.slice (some ⟨wr.heap.size,0,none⟩) 1 1]).run Tryz.prog (wr.alloc (.cells #[.int .u8 39] 5)) = .ok v2 w2) := ra
    have hcv := o2.str
    have HB : Hid (Below w.heap.size w w2) := HI.out.2.2.1.trans (b2.mono (by omega))
    clear ra o2 b2
    go_wp2_with (first | ((with_reducible apply st_append (x := .tmp 40)); (case ho => rfl); (case hgd => rfl); (case hr => exact RA.out)))
    go_ret
    exact ⟨rfl,HB.out⟩
structure AtK (w : World) (b : Nat) (k : Int) (s : ByteArray) (n a : Int) : Prop where
 c0 : w.cell? ⟨b,0,none⟩ = some (.int .i64 k)
 c1 : w.cell? ⟨b,1,none⟩ = some (.string s)
 c2 : w.cell? ⟨b,2,none⟩ = some (.int .i64 n)
 c3 : w.cell? ⟨b,3,none⟩ = some (.int .i64 a)
theorem AtK.new (w : World) (k : Int) (s : ByteArray) (n a : Int) : AtK (w.alloc (.cells #[.int .i64 k,.string s,.int .i64 n,.int .i64 a] 40)) w.heap.size k s n a := ⟨by simp,by simp,by simp,by simp⟩
theorem AtK.lt {w : World} {b : Nat} {k : Int} {s : ByteArray} {n a : Int} (h : AtK w b k s n a) : b < w.heap.size := World.block_lt_of_cell? w _ h.c0
theorem AtK.below {B : Nat} {w w' : World} {b : Nat} {k : Int} {s : ByteArray} {n a : Int} (h : AtK w b k s n a) (hb : Below B w w') (hB : b < B) : AtK w' b k s n a :=
 ⟨(hb.cell (p := ⟨b,0,none⟩) hB).trans h.c0,(hb.cell (p := ⟨b,1,none⟩) hB).trans h.c1,(hb.cell (p := ⟨b,2,none⟩) hB).trans h.c2,(hb.cell (p := ⟨b,3,none⟩) hB).trans h.c3⟩
theorem AtK.next {w w' : World} {b : Nat} {k : Int} {s : ByteArray} {n a : Int} (h : AtK w b k s n a) (hb : Below w.heap.size w w') : AtK w' b k s n a := h.below hb h.lt
def RPut (k : Int) (s : ByteArray) (n a : Int) (R : ByteArray) (w : World) : Prop := Calls Tryz.prog 13 #[tv k s n a] w fun e w' => e = .returned (.string R) ∧ Below w.heap.size w w'
theorem rput_word (s : ByteArray) (n a : Int) (H : Hid (∀ w,Calls Tryz.prog 27 #[.string s] w fun e w' => e = .returned (.bool true) ∧ Below w.heap.size w w')) (w : World) : RPut 1 s n a s w := by
 unfold RPut
 go_enter Tryz.func13,Tryz.ntmps13
 go_wp2_with fail
 refine Calls.mono (H.out _) ?_; rintro e w1 ⟨rfl,k1⟩
 have HK : Hid (Below w.heap.size w w1) := Below.next (below1 _ _) k1
 obtain ⟨d0,d1,d2,d3⟩ := (AtK.new w 1 s n a).next k1
 clear k1
 go_wp2_with fail
 go_ret
 exact ⟨rfl,HK.out⟩
set_option maxHeartbeats 1000000 in
theorem rput_name (s : ByteArray) (hs : s.size ≤ 1000) (n a : Int) (H : Hid (∀ w,Calls Tryz.prog 27 #[.string s] w fun e w' => e = .returned (.bool false) ∧ Below w.heap.size w w')) (w : World) : RPut 1 s n a ⟨(34 :: dupL 34 s.data.toList ++ [34]).toArray⟩ w := by
 unfold RPut
 have HALL : Hid (s.data.toList.take s.size = s.data.toList) := List.take_of_length_le (by rw [len_of]; exact Nat.le_refl _)
 go_enter Tryz.func13,Tryz.ntmps13
 go_wp2_with fail
 refine Calls.mono (H.out _) ?_; rintro e w1 ⟨rfl,k1⟩
 have HAt : Hid (AtK w1 w.heap.size 1 s n a) := (AtK.new w 1 s n a).next k1
 obtain ⟨d0,d1,d2,d3⟩ := HAt.out
 have HK : Hid (Below w.heap.size w w1) := Below.next (below1 _ _) k1
 have z1 : w.heap.size < w1.heap.size := HAt.out.lt
 have HO : Hid (OwnB (w1.alloc (.cells #[.int .u8 34] 5)) w1.heap.size (.slice (some ⟨w1.heap.size,0,none⟩) 1 1) [34]) := OwnB.new w1 34 rfl
 have HA1 : Hid (AtK (w1.alloc (.cells #[.int .u8 34] 5)) w.heap.size 1 s n a) := HAt.out.next (below1 _ _)
 have HKeep : Hid (∀ (V W : World),Below w1.heap.size V W → AtK V w.heap.size 1 s n a → AtK W w.heap.size 1 s n a) := fun V W k h => h.below k z1
 clear k1
 go_wp2_with fail
 go_loopw [3,4] (fun out i wr => ∃ k : Nat,k ≤ s.size ∧ i = .int .i64 k ∧ Hid (OwnB wr w1.heap.size out (34 :: dupL 34 (s.data.toList.take k)) ∧ AtK wr w.heap.size 1 s n a ∧ Below w.heap.size w wr ∧ w1.heap.size ≤ wr.heap.size))
  (fun _ i _ => s.size - (intOf i).toNat)
 case atStart => exact ⟨0,Nat.zero_le _,rfl,HO.out,HA1.out,HK.out.alloc HK.out.size _,by simp⟩
 case round =>
  obtain ⟨k,hk,rfl,HI⟩ := hrel
  obtain ⟨a0,a1,a2,a3⟩ := HI.out.2.1
  have hln : (34 :: dupL 34 (s.data.toList.take k)).length ≤ 3000 := by
   have := (dupL_len 34 (s.data.toList.take k)).2
   rw [List.length_take,len_of] at this
   rw [List.length_cons]
   omega
  have HLn : Hid ((34 :: dupL 34 (s.data.toList.take k)).length ≤ 3000) := hln
  clear hln
  by_cases hlt : k < s.size
  · have hlti : (k : Int) < (s.size : Int) := by omega
    have HT : Hid (s.data.toList.take (k + 1) = s.data.toList.take k ++ [s[k]]) := take_byte s k hlt
    obtain ⟨c,hc⟩ : ∃ c,s[k] = c := ⟨_,rfl⟩
    rw [hc] at HT
    by_cases hq : c = 34
    · have hqn : s[k].toNat = 34 := by rw [hc,hq]; rfl
      obtain ⟨v2,w2,ra,o2,b2,_,_⟩ := append_byte HI.out.1 34 (by have := HLn.out; omega) HI.out.2.2.2
      have z2 := b2.size
      obtain ⟨v3,w3,rb,o3,b3,_,_⟩ := append_byte o2 34 (by rw [List.length_append]; have := HLn.out; simp at *; omega) (Nat.le_trans HI.out.2.2.2 z2)
      have RA : Hid ((Builtin.append_ #[77,77] 77 #[u3,.slice (some ⟨wr.heap.size,0,none⟩) 1 1]).run Tryz.prog (wr.alloc (.cells #[.int .u8 34] 5)) = .ok v2 w2) := ra
      have RB : Hid ((Builtin.append_ #[77,77] 77 #[v2,.slice (some ⟨w2.heap.size,0,none⟩) 1 1]).run Tryz.prog (w2.alloc (.cells #[.int .u8 34] 5)) = .ok v3 w3) := rb
      have hb2 := b2.mono (B := w1.heap.size) (by omega : w1.heap.size ≤ w1.heap.size)
      obtain ⟨e0,e1,e2,e3⟩ := HKeep.out wr w2 b2 HI.out.2.1
      have HE : Hid (OwnB w3 w1.heap.size v3 (34 :: dupL 34 (s.data.toList.take (k + 1))) ∧ AtK w3 w.heap.size 1 s n a ∧ Below w.heap.size w w3 ∧ w1.heap.size ≤ w3.heap.size) := by
       refine ⟨?_,HKeep.out w2 w3 b3 (HKeep.out wr w2 b2 HI.out.2.1),(HI.out.2.2.1.trans (b2.mono (by omega))).trans (b3.mono (by omega)),Nat.le_trans HI.out.2.2.2 (Nat.le_trans z2 b3.size)⟩
       rw [HT.out,dupL_snoc,if_pos hq]
       have : (34 :: (dupL 34 (s.data.toList.take k) ++ [34,34]) : List UInt8) = (34 :: dupL 34 (s.data.toList.take k) ++ [34]) ++ [34] := by simp
       rw [this]
       exact o3
      clear ra rb o2 o3 b2 b3 hb2 hc HT
      go_wp2_with (first | ((with_reducible apply st_append (x := .tmp 27)); (case ho => rfl); (case hgd => rfl); (case hr => exact RA.out)) | ((with_reducible apply st_append (x := .tmp 30)); (case ho => rfl); (case hgd => rfl); (case hr => exact RB.out)))
      go_roundw
      case rel => exact ⟨k + 1,by omega,by go_num,HE⟩
      case measure => simp [intOf]; omega
    · have hqn : ¬ s[k].toNat = 34 := fun e => hq (by rw [← hc]; exact UInt8.toNat_inj.1 e)
      have hqb : ((s[k].toNat : Int) == 34) = false := by simp; omega
      have hqi : ¬ (s[k].toNat : Int) = 34 := by omega
      obtain ⟨v2,w2,ra,o2,b2,_,_⟩ := append_byte HI.out.1 c (by have := HLn.out; omega) HI.out.2.2.2
      rw [← hc] at ra
      have RA : Hid ((Builtin.append_ #[77,77] 77 #[u3,.slice (some ⟨wr.heap.size,0,none⟩) 1 1]).run Tryz.prog (wr.alloc (.cells #[.int .u8 (s[k].toNat : Int)] 5)) = .ok v2 w2) := ra
      have HE : Hid (OwnB w2 w1.heap.size v2 (34 :: dupL 34 (s.data.toList.take (k + 1))) ∧ AtK w2 w.heap.size 1 s n a ∧ Below w.heap.size w w2 ∧ w1.heap.size ≤ w2.heap.size) := by
       refine ⟨?_,HKeep.out wr w2 b2 HI.out.2.1,HI.out.2.2.1.trans (b2.mono (by omega)),Nat.le_trans HI.out.2.2.2 b2.size⟩
       rw [HT.out,dupL_snoc,if_neg hq]
       exact o2
      clear ra o2 b2 hc HT
      go_wp2_with (first | ((with_reducible apply st_append (x := .tmp 30)); (case ho => rfl); (case hgd => rfl); (case hr => exact RA.out)))
      go_roundw
      case rel => exact ⟨k + 1,by omega,by go_num,HE⟩
      case measure => simp [intOf]; omega
  · have hlti : ¬ (k : Int) < (s.size : Int) := by omega
    obtain rfl : k = s.size := by omega
    obtain ⟨v2,w2,ra,o2,b2,_,_⟩ := append_byte HI.out.1 34 (by have := HLn.out; omega) HI.out.2.2.2
    rw [HALL.out] at o2
    have RA : Hid ((Builtin.append_ #[77,77] 77 #[u3,.slice (some ⟨wr.heap.size,0,none⟩) 1 1]).run Tryz.prog (wr.alloc (.cells #[.int .u8 34] 5)) = .ok v2 w2) := ra
    have hcv := o2.str
    have HB : Hid (Below w.heap.size w w2) := HI.out.2.2.1.trans (b2.mono (by omega))
    clear ra o2 b2
    go_wp2_with (first | ((with_reducible apply st_append (x := .tmp 37)); (case ho => rfl); (case hgd => rfl); (case hr => exact RA.out)))
    go_ret
    exact ⟨rfl,HB.out⟩
theorem rput_key (s : ByteArray) (n a : Int) (w : World) : RPut 2 s n a s w := by
 unfold RPut
 go_enter Tryz.func13,Tryz.ntmps13
 go_wp2_with fail
 go_ret
 exact ⟨rfl,below1 _ _⟩
theorem rput_sign (s : ByteArray) (n a : Int) (w : World) : RPut 5 s n a s w := by
 unfold RPut
 go_enter Tryz.func13,Tryz.ntmps13
 go_wp2_with fail
 go_ret
 exact ⟨rfl,below1 _ _⟩
theorem rput_int (s R : ByteArray) (n a : Int) (H : Hid (∀ w,Calls Tryz.prog 28 #[.int .i64 n] w fun e w' => e = .returned (.string R) ∧ Below w.heap.size w w')) (w : World) : RPut 3 s n a R w := by
 unfold RPut
 go_enter Tryz.func13,Tryz.ntmps13
 go_wp2_with fail
 refine Calls.mono (H.out _) ?_; rintro e w1 ⟨rfl,k1⟩
 have HK : Hid (Below w.heap.size w w1) := Below.next (below1 _ _) k1
 clear k1
 go_wp2_with fail
 go_ret
 exact ⟨rfl,HK.out⟩
theorem rput_text (s R : ByteArray) (n a : Int) (H : Hid (∀ w,Calls Tryz.prog 29 #[vv 2 0 s] w fun e w' => e = .returned (.string R) ∧ Below w.heap.size w w')) (w : World) : RPut 4 s n a R w := by
 unfold RPut
 go_enter Tryz.func13,Tryz.ntmps13
 go_wp2_with fail
 refine Calls.mono (H.out _) ?_; rintro e w1 ⟨rfl,k1⟩
 have HK : Hid (Below w.heap.size w w1) := Below.next (below1 _ _) k1
 clear k1
 go_wp2_with fail
 go_ret
 exact ⟨rfl,HK.out⟩
theorem rput_none (s : ByteArray) (k n a : Int) (h1 : (k == 1) = false) (h2 : (k == 2) = false) (h3 : (k == 3) = false) (h4 : (k == 4) = false) (h5 : (k == 5) = false) (w : World) : RPut k s n a ⟨#[]⟩ w := by
 unfold RPut
 go_enter Tryz.func13,Tryz.ntmps13
 go_wp2_with fail
 go_ret
 exact ⟨rfl,below1 _ _⟩
theorem rput_is (s : ByteArray) (hs : s.size ≤ 1000) (k n a : Int) (hn : -9223372036854775808 ≤ n ∧ n ≤ 9223372036854775807) (w : World) : RPut k s n a ⟨(putV k s.data.toList n).toArray⟩ w := by
 unfold putV
 by_cases h1 : k = 1
 · subst h1
   rw [if_pos rfl]
   have hw := fun w => word_ref s (by omega) w
   cases hb : wordB s.data.toList
   · rw [hb] at hw
     exact rput_name s hs n a hw w
   · rw [hb] at hw
     simp only [if_true]
     rw [← ba_of s]
     exact rput_word s n a hw w
 · rw [if_neg h1]
   by_cases h2 : k = 2
   · subst h2
     rw [if_pos rfl, ← ba_of s]
     exact rput_key s n a w
   · rw [if_neg h2]
     by_cases h5 : k = 5
     · subst h5
       rw [if_pos rfl, ← ba_of s]
       exact rput_sign s n a w
     · rw [if_neg h5]
       by_cases h3 : k = 3
       · subst h3
         rw [if_pos rfl]
         exact rput_int s _ n a (fun w => Num.refText_any n hn w) w
       · rw [if_neg h3]
         by_cases h4 : k = 4
         · subst h4
           rw [if_pos rfl,len_of]
           by_cases hl : s.size ≤ 64
           · rw [if_pos hl]
             exact rput_text s _ n a (fun w => rshow_text s (by omega) w) w
           · rw [if_neg hl]
             exact rput_text s _ n a (fun w => rshow_not s (by omega) w) w
         · rw [if_neg h4]
           exact rput_none s k n a (by simpa using h1) (by simpa using h2) (by simpa using h3) (by simpa using h4) (by simpa using h5) w
end Go.Proofs.YtlgkghebemfpjaaGreatDoor
