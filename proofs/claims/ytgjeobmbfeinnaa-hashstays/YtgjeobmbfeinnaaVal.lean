/- value: a value's bytes. -/
import Derived.Test.YtgjeobmbfeinnaaByt
namespace Go.Proofs.Ytgjeobmbfeinnaa
open Go.ChangeShapes Go.WideShapes Go.RowKit
set_option linter.unusedVariables false
set_option maxRecDepth 100000

section
variable {P : Program} {ops : Array Oper} {rest : List Oper} {o : Oper} {a : Act} {w w' : World} {Q : Exit → Act → World → Prop} {K : Act → World → Prop} {E : Prop} {v : Value}
end
/-- A byte out of a number. -/
def lowB (x : Int) : UInt8 := UInt8.ofNat (x % 256).toNat
theorem lowB_is (x : Int) : ((lowB x).toNat : Int) = x % 256 := by
  have h1 := Int.emod_nonneg x (show (256 : Int) ≠ 0 by omega)
  have h2 := Int.emod_lt_of_pos x (show (0 : Int) < 256 by omega)
  unfold lowB
  generalize x % 256 = y at *
  rw [UInt8.toNat_ofNat']
  omega
theorem lowB_wrap (x : Int) : ((lowB x).toNat : Int) = IntKind.u8.wrap x := by
  rw [lowB_is, IntKind.wrap_u8]
/-- A value's bytes behind its kind. -/
def tailB (k n : Int) (s : ByteArray) : List UInt8 := if k = 1 then bytesOf (flip n) 8 else if k = 2 then lowB s.size :: s.data.toList else if k = 3 then [lowB n] else []
/-- A value's bytes. -/
def valB (k n : Int) (s : ByteArray) : List UInt8 := lowB k :: tailB k n s

theorem At.far {w w' : World} {b o : Nat} {k n : Int} {s : ByteArray} (h : At w b o k n s) (hb : w'.heap[b]? = w.heap[b]?) : At w' b o k n s :=
  ⟨(World.cell?_of_block (a := ⟨b, o, none⟩) hb).trans h.c0, (World.cell?_of_block (a := ⟨b, o + 1, none⟩) hb).trans h.c1, (World.cell?_of_block (a := ⟨b, o + 2, none⟩) hb).trans h.c2⟩

/-- What is behind a value's kind. -/
theorem appendKind {w : World} {v : Value} {l : List UInt8} {B : Nat} (h : Own w B v l) (k n : Int) (s : ByteArray) (hs : l.length ≤ 100000) (hb : B ≤ w.heap.size) :
    ∃ v' w', (Builtin.append_ #[82, 82] 82 #[v, .slice (some ⟨w.heap.size + 1, 0, none⟩) 1 1]).run Try.prog ((w.alloc (.cells #[.int .i64 k, .int .i64 n, .string s] 24)).alloc (.cells #[.int .u8 (k % 256)] 5)) = .ok v' w' ∧ Own w' B v' (l ++ [lowB k]) ∧ Below B w w' ∧ At w' w.heap.size 0 k n s ∧ v'.ownBlock ≠ some w.heap.size := by
  have h1 : Own (w.alloc (.cells #[.int .i64 k, .int .i64 n, .string s] 24)) B v l := World.ownsRow.alloc h _
  obtain ⟨v2, w2, ra, oa, ba, fa, sz, nb⟩ := own_byte h1 (lowB k) (by omega) (Nat.le_trans hb (by simp)) (lowB_is k)
  rw [show (w.alloc (.cells #[.int .i64 k, .int .i64 n, .string s] 24)).heap.size = w.heap.size + 1 by simp] at ra
  exact ⟨v2, w2, ra, oa, ((Below.refl B w).alloc hb _).trans ba, (At.new w k n s).far (fa _ (by simp) (fun e => by have := (World.ownsRow.lt h _ e).2; omega)), fun e => by
    have hz : (w.alloc (.cells #[.int .i64 k, .int .i64 n, .string s] 24)).heap.size = w.heap.size + 1 := by simp
    rcases nb _ e with q | q
    · have := (World.ownsRow.lt h _ q).2; omega
    · omega⟩

set_option maxHeartbeats 1000000 in
theorem appendValue_is {w : World} {v : Value} {l : List UInt8} {B : Nat} (h : Own w B v l) (k n : Int) (s : ByteArray) (hsz : s.size ≤ 100000) (hs : l.length ≤ 90000) (hb : B ≤ w.heap.size) :
    Calls Try.prog 42 #[v, vv k n s] w fun e w' => ∃ v', e = .returned v' ∧ Own w' B v' (l ++ valB k n s) ∧ Below B w w' := by
  obtain ⟨v2, w2, ra, oa, ba, at2, no2⟩ := appendKind h k n s (by omega) hb
  have HNO := (show Hid _ from no2)
  have RA := (show Hid _ from ra)
  have HO : Hid (Own w2 B v2 (l ++ [lowB k]) ∧ Below B w w2) := ⟨oa, ba⟩
  obtain ⟨a0, a1, a2⟩ := at2
  have hb2 : B ≤ w2.heap.size := Nat.le_trans hb ba.size
  have hln : (l ++ [lowB k]).length ≤ 90001 := by rw [List.length_append]; simp; omega
  clear ra oa ba h no2
  by_cases c1 : k = 1
  · subst c1
    have HI := (show Hid _ from appendInt_is HO.out.1 n)
    have HT : Hid (valB 1 n s = lowB 1 :: bytesOf (flip n) 8) := rfl
    have HL := (show Hid _ from hln)
    go_enter Try.func42, Try.ntmps42
    go_wp2_with (first | ((with_reducible apply st_append (x := .tmp 5)); (case ho => rfl); (case hgd => rfl); (case hr => exact RA.out)))
    refine Calls.mono (HI.out (by have := HL.out; omega) hb2) ?_; rintro e w4 ⟨v4, rfl, o4, b4⟩
    have HR : Hid (Own w4 B v4 (l ++ valB 1 n s) ∧ Below B w w4) := ⟨by rw [HT.out]; rw [List.append_assoc] at o4; exact o4, HO.out.2.trans b4⟩
    clear o4 b4
    obtain ⟨x, y, z, rfl⟩ := HR.out.1.form
    go_wp2_with fail
    go_ret
    exact ⟨_, rfl, HR.out⟩
  · by_cases c2 : k = 2
    · subst c2
      have h2d : Own w2.drew B v2 (l ++ [lowB 2]) := World.ownsRow.drew HO.out.1
      obtain ⟨v3, w3, ra3, oa3, ba3, fa3, sz3, nb3⟩ := own_byte h2d (lowB s.size) (by omega) hb2 (lowB_wrap s.size)
      have hb3 : B ≤ w3.heap.size := Nat.le_trans hb2 ba3.size
      obtain ⟨v4, w4, ra4, oa4, ga4⟩ := append_text oa3 s (by rw [List.length_append]; simp; omega) hb3
      have HR : Hid (Own w4 B v4 (l ++ valB 2 n s) ∧ Below B w w4) := by
        refine ⟨?_, ((HO.out.2.drew).trans ba3).grown ga4 hb3 (fun k hk => (World.ownsRow.lt oa3 k hk).1)⟩
        have e : l ++ valB 2 n s = l ++ [lowB 2] ++ [lowB (s.size : Int)] ++ s.data.toList := by
          show l ++ (lowB 2 :: (lowB (s.size : Int) :: s.data.toList)) = _
          simp
        rw [e]
        exact oa4
      have a3 : w3.cell? ⟨w.heap.size, 2, none⟩ = some (.string s) := (World.cell?_of_block (a := ⟨w.heap.size, 0 + 2, none⟩) (fa3 _ (World.block_lt_of_cell? w2 _ a2) HNO.out)).trans a2
      have RA3 : Hid ((Builtin.append_ #[82, 82] 82 #[v2, .slice (some ⟨w2.heap.size, 0, none⟩) 1 1]).run Try.prog (w2.alloc (.cells #[.int .u8 (IntKind.u8.wrap (s.size : Int))] 5)).drew = .ok v3 w3) := ra3
      have a5 : (w2.alloc (.cells #[.int .u8 (IntKind.u8.wrap (s.size : Int))] 5)).cell? ⟨w.heap.size, 2, none⟩ = some (.string s) := ((below1 w2 _).cell (p := ⟨w.heap.size, 2, none⟩) (World.block_lt_of_cell? w2 _ a2)).trans a2
      have RA4 := (show Hid _ from ra4)
      have HSZ := (show Hid _ from hsz)
      clear h2d ra3 oa3 ba3 fa3 sz3 nb3 ra4 oa4 ga4 hsz
      obtain ⟨x, y, z, rfl⟩ := HR.out.1.form
      go_enter Try.func42, Try.ntmps42
      go_wp2_with (first | ((with_reducible apply st_append (x := .tmp 5)); (case ho => rfl); (case hgd => rfl); (case hr => exact RA.out)))
      go_region_law (first | refine dr_append rfl rfl RA3.out ?_ | refine dr_append rfl rfl RA4.out ?_)
      all_goals go_wp2_with fail
      all_goals go_ret
      all_goals exact ⟨_, rfl, HR.out⟩
    · by_cases c3 : k = 3
      · subst c3
        obtain ⟨v3, w3, ra3, oa3, ba3, fa3, sz3, nb3⟩ := own_byte HO.out.1 (lowB n) (by omega) hb2 (lowB_is n)
        have HR : Hid (Own w3 B v3 (l ++ valB 3 n s) ∧ Below B w w3) := by
          refine ⟨?_, HO.out.2.trans ba3⟩
          have e : l ++ valB 3 n s = l ++ [lowB 3] ++ [lowB n] := by
            show l ++ (lowB 3 :: [lowB n]) = _
            simp
          rw [e]
          exact oa3
        have RA3 := (show Hid _ from ra3)
        clear ra3 oa3 ba3 fa3 sz3 nb3
        obtain ⟨x, y, z, rfl⟩ := HR.out.1.form
        go_enter Try.func42, Try.ntmps42
        go_wp2_with (first | ((with_reducible apply st_append (x := .tmp 5)); (case ho => rfl); (case hgd => rfl); (case hr => exact RA.out)) | ((with_reducible apply st_append (x := .tmp 33)); (case ho => rfl); (case hgd => rfl); (case hr => exact RA3.out)))
        go_ret
        exact ⟨_, rfl, HR.out⟩
      · have b1 : (k == 1) = false := by simpa using c1
        have b2 : (k == 2) = false := by simpa using c2
        have b3 : (k == 3) = false := by simpa using c3
        have HT : Hid (valB k n s = [lowB k]) := by show valB k n s = _; unfold valB tailB; rw [if_neg c1, if_neg c2, if_neg c3]
        obtain ⟨x, y, z, rfl⟩ := HO.out.1.form
        go_enter Try.func42, Try.ntmps42
        go_wp2_with (first | ((with_reducible apply st_append (x := .tmp 5)); (case ho => rfl); (case hgd => rfl); (case hr => exact RA.out)))
        go_ret
        exact ⟨_, rfl, by rw [HT.out]; exact HO.out.1, HO.out.2⟩
end Go.Proofs.Ytgjeobmbfeinnaa
