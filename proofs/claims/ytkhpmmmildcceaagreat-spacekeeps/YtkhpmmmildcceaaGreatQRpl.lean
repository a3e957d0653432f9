/- A page is read. A page is read. Heads. A head is written. A map and a head are laid. -/
import Derived.Test.YtkhpmmmildcceaaGreatQUs
import Derived.Test.YtkhpmmmildcceaaGreatQBld
import Derived.Test.YtkhpmmmildcceaaGreatQCPoly
namespace Go.Proofs.YtkhpmmmildcceaaGreat
open Go.ChangeShapes Go.WideShapes Go.ChangeAt Go.RowKit
set_option linter.unusedVariables false
set_option maxRecDepth 100000

theorem below_kept {B : Nat} {w w' : World} (b : Below B w w') : Kept (fun i => B ≤ i) w w' := ⟨b.os, b.tape, b.output, b.size, fun i hi hn => b.block i (Nat.lt_of_not_le hn)⟩
theorem Disk.last_len {w : World} {F : Nat → Prop} {p : Nat} {d : Dk} (h : Disk w F p d) {a : Nat} (ha : a < d.n) : (d.last a).length = 32 := by
  obtain ⟨bs, bl, v, h⟩ := h
  exact h.last.len a ha
def rdP (d : Dk) (a : Nat) : Nat → List UInt8
  | 0 => []
  | k + 1 => rdP d a k ++ d.last (a + k)
theorem rdP_len {w : World} {F : Nat → Prop} {p : Nat} {d : Dk} (h : Disk w F p d) (a : Nat) : ∀ k, a + k ≤ d.n → (rdP d a k).length = 32 * k
  | 0, _ => rfl
  | k + 1, hk => by
    show (rdP d a k ++ d.last (a + k)).length = _
    rw [List.length_append, rdP_len h a k (by omega), h.last_len (by omega)]
    omega
theorem byteCells_append (l m : List UInt8) : Lib.byteCells l ++ Lib.byteCells m = Lib.byteCells (l ++ m) := by
  unfold Lib.byteCells
  rw [List.map_append]
theorem byteCells_len (l : List UInt8) : (Lib.byteCells l).length = l.length := by unfold Lib.byteCells; rw [List.length_map]
set_option maxHeartbeats 1000000 in
theorem clos83 {w : World} {F : Nat → Prop} {p pd b2 B : Nat} {d : Dk} {l : List UInt8} (hb2 : w.cell? ⟨b2, 0, none⟩ = some (.pointer (some ⟨p, 0, none⟩))) (hp0 : w.cell? ⟨p, 0, none⟩ = some (.pointer (some ⟨pd, 0, none⟩))) (hd : Disk w F pd d) (hB : Lib.IsBuilder 130 5 B B (Lib.byteCells l) w) (hBw : B ≤ w.heap.size) (hl : l.length ≤ 1000) (a : Nat) (ha : a < d.n) (x : Value) : Calls Tryz.prog 83 #[.int .i64 (a : Int), x, .pointer (some ⟨b2, 0, none⟩), .pointer (some ⟨B, 0, none⟩)] w fun e w' => (d.off = false ∧ e = .returned (.int .i64 0) ∧ Lib.IsBuilder 130 5 B B (Lib.byteCells (l ++ d.last a)) w' ∧ Below B w w') ∨ (d.off = true ∧ e = .returned (.int .i64 30) ∧ Below B w w') := by
  have h32 := hd.last_len ha
  have HRD := (show Hid _ from read_is hd a ha)
  cases hoff : d.off with
  | false =>
    rw [hoff] at HRD
    obtain ⟨t, ht⟩ : ∃ t : ByteArray, (⟨(d.last a).toArray⟩ : ByteArray) = t := ⟨_, rfl⟩
    have hts : t.size = 32 := by rw [← ht]; exact h32
    have htl : Lib.strCells t = Lib.byteCells (d.last a) := by rw [← ht]; rfl
    rw [ht] at HRD
    have HBW := (show Hid _ from build_write hB t (by rw [byteCells_len]; omega) hBw)
    clear hd ha hl h32 hB
    go_enter Tryz.func83, Tryz.ntmps83
    go_wp2_with fail
    refine Calls.mono HRD.out ?_; rintro e w5 ⟨rfl, rfl⟩
    go_wp2_with fail
    refine Calls.mono HBW.out ?_; rintro e w6 ⟨rfl, hb6, k6⟩
    have HR : Hid (Lib.IsBuilder 130 5 B B (Lib.byteCells (l ++ d.last a)) w6 ∧ Below B w5 w6) := ⟨.inr (by rw [htl, byteCells_append] at hb6; exact hb6), k6⟩
    clear hb6 k6
    go_wp2_with fail
    go_ret
    exact .inl ⟨by first | trivial | exact hoff, rfl, HR.out.1, HR.out.2⟩
  | true =>
    rw [hoff] at HRD
    have HBW := (show Hid _ from build_write hB (⟨#[]⟩ : ByteArray) (by rw [byteCells_len]; show _ + 0 ≤ _; omega) hBw)
    clear hd ha hl h32 hB
    go_enter Tryz.func83, Tryz.ntmps83
    go_wp2_with fail
    refine Calls.mono HRD.out ?_; rintro e w5 ⟨rfl, rfl⟩
    go_wp2_with fail
    refine Calls.mono HBW.out ?_; rintro e w6 ⟨rfl, hb6, k6⟩
    have HR : Hid (Below B w5 w6) := k6
    clear hb6 k6
    go_wp2_with fail
    go_ret
    exact .inr ⟨by first | trivial | exact hoff, rfl, HR.out⟩
end Go.Proofs.YtkhpmmmildcceaaGreat

namespace Go.Proofs.YtkhpmmmildcceaaGreat
open Go.ChangeShapes Go.WideShapes Go.ChangeAt Go.RowKit
set_option linter.unusedVariables false
set_option maxRecDepth 100000

set_option maxHeartbeats 1000000 in
theorem place_read {w : World} {F : Nat → Prop} {p pd : Nat} {d : Dk} (fr pl : Nat) (hp0 : w.cell? ⟨p, 0, none⟩ = some (.pointer (some ⟨pd, 0, none⟩))) (hp1 : w.cell? ⟨p, 1, none⟩ = some (.int .i64 (fr : Int))) (hd : Disk w F pd d) (hfr : fr ≤ 4096) (hpl : pl ≤ 1000) (hin : (fr + pl * 8) + 8 ≤ d.n) : Calls Tryz.prog 60 #[.pointer (some ⟨p, 0, none⟩), .int .i64 (pl : Int)] w fun e w' => e = .returned (if d.off then .tuple #[.string ⟨#[]⟩, .int .i64 30] else .tuple #[.string ⟨(rdP d (fr + pl * 8) 8).toArray⟩, .int .i64 0]) ∧ Kept (fun _ => False) w w' := by
  obtain ⟨W, hW⟩ : ∃ W, (w.alloc (.cells #[.pointer (some ⟨p, 0, none⟩)] 27)).alloc (.cells #[.pointer none, .slice none 0 0] 130) = W := ⟨_, rfl⟩
  have k0 : Kept (fun _ => False) w W := hW ▸ ((Kept.refl _ w).alloc _).alloc _
  have hsz : W.heap.size = w.heap.size + 2 := by rw [← hW]; simp
  have c2 : W.cell? ⟨w.heap.size, 0, none⟩ = some (.pointer (some ⟨p, 0, none⟩)) := by
    rw [← hW]
    exact cell_keptF ((Blk.new w 27 [.pointer (some ⟨p, 0, none⟩)]).cell (i := 0) rfl) ((Kept.refl (fun _ => False) _).alloc _) (fun z => z)
  have hbu : Lib.IsBuilder 130 5 (w.heap.size + 1) (w.heap.size + 1) (Lib.byteCells []) W := by
    have := Lib.fresh_isBuilder 130 5 (w.alloc (.cells #[.pointer (some ⟨p, 0, none⟩)] 27))
    rw [hW] at this
    have e : (w.alloc (.cells #[.pointer (some ⟨p, 0, none⟩)] 27)).heap.size = w.heap.size + 1 := by simp
    rw [e] at this
    exact this
  have p0 := cell_keptF hp0 k0 (fun z => z)
  have p1 := cell_keptF hp1 k0 (fun z => z)
  have hdW : Disk W F pd d := hd.kept k0 (fun _ _ z => z)
  have hbd := hd.bound
  have hpw : p < w.heap.size := cell_lt hp0
  have hkp : ∀ U, Below (w.heap.size + 1) W U → Kept (fun _ => False) w U := fun U b => ⟨b.os.trans k0.os, b.tape.trans k0.tape, b.output.trans k0.output, Nat.le_trans k0.size b.size, fun i hi _ => (b.block i (by omega)).trans (k0.block i hi (fun z => z))⟩
  have HE : Hid (∀ V, V = W → Calls Tryz.prog 70 #[.pointer (some ⟨p, 0, none⟩), .int .i64 (pl : Int), .func (.func 83) #[] #[.pointer (some ⟨w.heap.size, 0, none⟩), .pointer (some ⟨(w.heap.size + 1), 0, none⟩)]] V fun e w' => (e = .returned (.int .i64 0) ∧ (d.off = false ∧ Lib.IsBuilder 130 5 (w.heap.size + 1) (w.heap.size + 1) (Lib.byteCells (rdP d (fr + pl * 8) 8)) w' ∧ Below (w.heap.size + 1) W w')) ∨ (e = .returned (.int .i64 30) ∧ (d.off = true ∧ Below (w.heap.size + 1) W w'))) := fun V hV => by
    rw [hV]
    refine (each83 hfr hpl (.pointer (some ⟨w.heap.size, 0, none⟩)) (.pointer (some ⟨(w.heap.size + 1), 0, none⟩)) (fun k U => (0 < k → d.off = false) ∧ Lib.IsBuilder 130 5 (w.heap.size + 1) (w.heap.size + 1) (Lib.byteCells (rdP d (fr + pl * 8) k)) U ∧ Below (w.heap.size + 1) W U) (fun U => d.off = true ∧ Below (w.heap.size + 1) W U) ?_ ?_ ⟨fun z => absurd z (Nat.lt_irrefl _), hbu, Below.refl _ _⟩).mono ?_
    · intro k U ⟨_, _, g2⟩
      exact cell_keptF p1 (below_kept g2) (by show ¬ _ ≤ p; omega)
    · intro k U hk ⟨g0, g1, g2⟩
      have ea : ((fr : Int) + (pl : Int) * 8 + (k : Int)) = (((fr + pl * 8) + k : Nat) : Int) := by omega
      rw [ea]
      have hdU : Disk U F pd d := hdW.kept (below_kept g2) (fun i hi => by have := hbd i hi; show ¬ _ ≤ i; omega)
      refine (clos83 (cell_keptF c2 (below_kept g2) (by show ¬ _ ≤ w.heap.size; omega)) (cell_keptF p0 (below_kept g2) (by show ¬ _ ≤ p; omega)) hdU g1 (by have := g2.size; omega) (by rw [rdP_len hd (fr + pl * 8) k (by omega)]; omega) ((fr + pl * 8) + k) (by omega) _).mono ?_
      rintro e w' (⟨q0, q1, q2, q3⟩ | ⟨q0, q1, q2⟩)
      · exact .inl ⟨q1, fun _ => q0, q2, Below.trans g2 q3⟩
      · exact .inr ⟨q1, q0, Below.trans g2 q2⟩
    · rintro e w' (⟨q1, q2, q3, q4⟩ | q)
      · exact .inl ⟨q1, q2 (by omega), q3, q4⟩
      · exact .inr q
  have HW : Hid ((w.alloc (.cells #[.pointer (some ⟨p, 0, none⟩)] 27)).alloc (.cells #[.pointer none, .slice none 0 0] 130) = W ∧ w.heap.size + 1 ≤ W.heap.size) := ⟨hW, by omega⟩
  have HKP : Hid _ := hkp
  clear hW k0 hsz c2 hbu p0 p1 hdW hbd hpw hp0 hp1 hd hin hkp
  by_cases hoff : d.off = true
  · rw [if_pos hoff]
    have HOF : Hid (d.off = true) := hoff
    clear hoff
    go_enter Tryz.func60, Tryz.ntmps60
    go_wp2_with fail
    refine Calls.mono (HE.out _ HW.out.1) ?_
    rintro e w5 hor
    rcases hor with ⟨rfl, q⟩ | ⟨rfl, q⟩
    · exact absurd (q.1.symm.trans HOF.out) (by decide)
    · have HQ : Hid _ := HKP.out _ q.2
      clear q
      go_wp2_with fail
      go_ret2
      exact ⟨rfl, HQ.out⟩
  · rw [if_neg hoff]
    have HOF : Hid (¬ d.off = true) := hoff
    clear hoff
    go_enter Tryz.func60, Tryz.ntmps60
    go_wp2_with fail
    refine Calls.mono (HE.out _ HW.out.1) ?_
    rintro e w5 hor
    rcases hor with ⟨rfl, q⟩ | ⟨rfl, q⟩
    · have HST : Hid (Calls Tryz.prog 86 #[.pointer (some ⟨(w.heap.size + 1), 0, none⟩)] w5 fun e w' => e = .returned (.string ⟨(rdP d (fr + pl * 8) 8).toArray⟩) ∧ Hid (Kept (fun _ => False) w w')) := (Tryz.Builder_String_any _ _ _ w5 q.2.1 (by have := q.2.2.size; have := HW.out.2; omega)).mono fun e w' ⟨z1, z2⟩ => ⟨z1, HKP.out _ (Below.trans q.2.2 z2)⟩
      clear q
      go_wp2_with fail
      refine Calls.mono HST.out ?_; rintro e w6 ⟨rfl, HK6⟩
      go_wp2_with fail
      go_ret2
      exact ⟨rfl, HK6.out⟩
    · exact absurd q.1 HOF.out
end Go.Proofs.YtkhpmmmildcceaaGreat

namespace Go.Proofs.YtkhpmmmildcceaaGreat
open Go.ChangeShapes Go.WideShapes Go.ChangeAt Go.RowKit
set_option linter.unusedVariables false
set_option maxRecDepth 100000

theorem take_is (s : ByteArray) (h : 4 ≤ s.size) (hs : s.size ≤ 140737488351232) (w : World) :
    Calls Tryz.prog 88 #[.string s] w fun e w' => e = .returned (.int .i64 (four s[0].toNat s[1].toNat s[2].toNat s[3].toNat : Nat)) ∧ w' = w := by
  have b0 := byte_lt s[0]
  have b1 := byte_lt s[1]
  have b2 := byte_lt s[2]
  have b3 := byte_lt s[3]
  have o0 : bits .or .i64 0 (s[0].toNat : Int) = (s[0].toNat : Int) := by
    have := i64_or 0 s[0].toNat (by omega) (by omega)
    rwa [Nat.zero_or] at this
  have o1 : bits .or .i64 (s[0].toNat : Int) ((s[1].toNat : Int) * 256) = ((s[0].toNat + s[1].toNat * 256 : Nat) : Int) := or_next s[0].toNat s[1].toNat 256 8 (by omega) (by omega) (by omega) b1
  have o2 : bits .or .i64 ((s[0].toNat + s[1].toNat * 256 : Nat) : Int) ((s[2].toNat : Int) * 65536) = ((s[0].toNat + s[1].toNat * 256 + s[2].toNat * 65536 : Nat) : Int) := or_next (s[0].toNat + s[1].toNat * 256) s[2].toNat 65536 16 (by omega) (by omega) (by omega) b2
  have o3 : bits .or .i64 ((s[0].toNat + s[1].toNat * 256 + s[2].toNat * 65536 : Nat) : Int) ((s[3].toNat : Int) * 16777216) = ((four s[0].toNat s[1].toNat s[2].toNat s[3].toNat : Nat) : Int) := or_next (s[0].toNat + s[1].toNat * 256 + s[2].toNat * 65536) s[3].toNat 16777216 24 (by omega) (by omega) (by omega) b3
  generalize four s[0].toNat s[1].toNat s[2].toNat s[3].toNat = R at *
  generalize s[0].toNat + s[1].toNat * 256 + s[2].toNat * 65536 = R2 at *
  generalize s[0].toNat + s[1].toNat * 256 = R1 at *
  go_enter Tryz.func88, Tryz.ntmps88
  go_wp2
  refine wp_loop_rounds 5 ?_
  rw [rounds_succ]
  go_wp2
  rw [rounds_succ]
  go_wp2
  rw [rounds_succ]
  go_wp2
  rw [rounds_succ]
  go_wp2
  rw [rounds_succ]
  go_wp2
  go_ret
  exact ⟨rfl, rfl⟩


theorem rep_zs : ∀ n, Lib.repeatL [0] n = List.replicate n (0 : UInt8)
  | 0 => rfl
  | n + 1 => by show [0] ++ Lib.repeatL [0] n = _; rw [rep_zs n]; rfl
theorem below_k0 {w w' : World} (b : Below w.heap.size w w') : Kept (fun _ => False) w w' := ⟨b.os, b.tape, b.output, b.size, fun i hi _ => b.block i hi⟩
theorem noughts_is (n : Nat) (hn : n ≤ 1000) (w : World) : Calls Tryz.prog 51 #[.int .i64 (n : Int)] w fun e w' => e = .returned (.string ⟨(List.replicate n (0 : UInt8)).toArray⟩) ∧ Kept (fun _ => False) w w' := by
  have HR : Hid (Calls Tryz.prog 73 #[.string ⟨#[0]⟩, .int .i64 (n : Int)] w fun e w' => e = .returned (.string ⟨(List.replicate n (0 : UInt8)).toArray⟩) ∧ Hid (Kept (fun _ => False) w w')) := by
    have := Tryz.strings_Repeat ⟨#[0]⟩ n w (by omega) (by show 1 * n ≤ _; omega)
    refine this.mono fun e w' ⟨q1, q2⟩ => ⟨?_, below_k0 q2⟩
    rw [q1]
    show Ending.returned (.string ⟨(Lib.repeatL [0] n).toArray⟩) = _
    rw [rep_zs]
  go_enter Tryz.func51, Tryz.ntmps51
  go_wp2_with fail
  refine Calls.mono HR.out ?_; rintro e w5 ⟨rfl, HK⟩
  go_wp2_with fail
  go_ret
  exact ⟨rfl, HK.out⟩
theorem thalf_is (t : Nat) (ht : t ≤ 1048576) (w : World) : Calls Tryz.prog 75 #[.int .i64 (t : Int)] w fun e w' => e = .returned (.int .i64 ((t % 2 : Nat) : Int)) ∧ w' = w := by
  go_enter Tryz.func75, Tryz.ntmps75
  go_wp2_with fail
  go_ret
  exact ⟨by first | rfl | (rw [Int.natCast_emod]; rfl), rfl⟩
/-- The bytes of a turn's head. -/
def headB (t : Nat) (l : List UInt8) : List UInt8 := putL t ++ putL (sumOf (putL t ++ l)) ++ List.replicate 24 0
theorem putL_len (n : Nat) : (putL n).length = 4 := rfl
theorem ba_appendS (A B : ByteArray) : (A ++ B).data.toList = A.data.toList ++ B.data.toList := by
  rw [ByteArray.data_append, Array.toList_append]
theorem ba_eqS {A : ByteArray} {L : List UInt8} (h : A.data.toList = L) : A = ⟨L.toArray⟩ := by
  apply ByteArray.ext
  apply Array.ext'
  exact h
set_option maxHeartbeats 1000000 in
theorem head_is (t : Nat) (ht : t < 4294967296) (s : ByteArray) (hs : s.size ≤ 1000) (w : World) : Calls Tryz.prog 78 #[.int .i64 (t : Int), .string s] w fun e w' => e = .returned (.string ⟨(headB t s.data.toList).toArray⟩) ∧ Kept (fun _ => False) w w' := by
  obtain ⟨A, hA⟩ : ∃ A : ByteArray, (⟨(putL t).toArray⟩ : ByteArray) = A := ⟨_, rfl⟩
  have hAs : A.size = 4 := by rw [← hA]; rfl
  have HP : Hid (Calls Tryz.prog 81 #[.int .i64 (t : Int)] w fun e w' => e = .returned (.string A) ∧ Hid (Kept (fun _ => False) w w')) := by
    have := put_is (t : Int) w
    rw [low_nat ht, hA] at this
    exact this.mono fun e w' ⟨q1, q2⟩ => ⟨q1, below_k0 q2⟩
  obtain ⟨M, hM⟩ : ∃ M, A ++ s = M := ⟨_, rfl⟩
  obtain ⟨x, hx⟩ : ∃ x, sumOf M.data.toList = x := ⟨_, rfl⟩
  have hx32 : x < 4294967296 := by rw [← hx]; exact sumOf_lt _
  have HM : Hid (A ++ s = M) := hM
  have HS : Hid (∀ V, Calls Tryz.prog 109 #[.string M] V fun e w' => e = .returned (.int .i64 (x : Int)) ∧ w' = V) := fun V => by
    have := sum_is M (by rw [← hM, ByteArray.size_append]; omega) V
    rw [hx] at this
    exact this
  obtain ⟨B, hB⟩ : ∃ B : ByteArray, (⟨(putL x).toArray⟩ : ByteArray) = B := ⟨_, rfl⟩
  have hBs : B.size = 4 := by rw [← hB]; rfl
  have HP2 : Hid (∀ V, Calls Tryz.prog 81 #[.int .i64 (x : Int)] V fun e w' => e = .returned (.string B) ∧ Hid (Kept (fun _ => False) V w')) := fun V => by
    have := put_is (x : Int) V
    rw [low_nat hx32, hB] at this
    exact this.mono fun e w' ⟨q1, q2⟩ => ⟨q1, below_k0 q2⟩
  obtain ⟨Z, hZ⟩ : ∃ Z : ByteArray, (⟨(List.replicate 24 (0 : UInt8)).toArray⟩ : ByteArray) = Z := ⟨_, rfl⟩
  have hZs : Z.size = 24 := by rw [← hZ]; rfl
  have HN : Hid (∀ V, Calls Tryz.prog 51 #[.int .i64 24] V fun e w' => e = .returned (.string Z) ∧ Hid (Kept (fun _ => False) V w')) := fun V => by
    have := noughts_is 24 (by decide) V
    rw [hZ] at this
    exact this
  have HE : Hid (A ++ B ++ Z = ⟨(headB t s.data.toList).toArray⟩) := by
    apply ba_eqS
    rw [ba_appendS, ba_appendS, ← hB, ← hZ, ← hx, ← hM, ba_appendS, ← hA]
    rfl
  have hAB : (A ++ B).size = 8 := by rw [ByteArray.size_append]; omega
  clear hA hM hx hx32 hB hZ ht
  go_enter Tryz.func78, Tryz.ntmps78
  go_wp2_with fail
  refine Calls.mono HP.out ?_; rintro e w1 ⟨rfl, HK1⟩
  go_wp2_with fail
  rw [HM.out]
  refine Calls.mono (HS.out _) ?_; rintro e w2 ⟨rfl, rfl⟩
  go_wp2_with fail
  refine Calls.mono (HP2.out _) ?_; rintro e w3 ⟨rfl, HK3⟩
  go_wp2_with fail
  refine Calls.mono (HN.out _) ?_; rintro e w4 ⟨rfl, HK4⟩
  have HKE : Hid (Kept (fun _ => False) w w4) := (HK1.out.trans HK3.out (fun _ z => z.elim)).trans HK4.out (fun _ z => z.elim)
  clear HK1 HK3 HK4
  go_wp2_with fail
  go_ret
  exact ⟨congrArg (fun z => Ending.returned (.string z)) HE.out, HKE.out⟩
end Go.Proofs.YtkhpmmmildcceaaGreat

namespace Go.Proofs.YtkhpmmmildcceaaGreat
open Go.ChangeShapes Go.WideShapes Go.ChangeAt Go.RowKit
set_option linter.unusedVariables false
set_option maxRecDepth 100000

def putH (d : Dk) (a : Nat) (l : List UInt8) : Dk := if d.on then (d.write a l).flush else d.write a l
def putE (d : Dk) (a : Nat) (l : List UInt8) : Int := if d.on then (if (d.write a l).on then 0 else 30) else 30
set_option maxHeartbeats 1000000 in
theorem putHead_is {w : World} {F : Nat → Prop} {p pd : Nat} {d : Dk} (fr hf : Nat) (hp0 : w.cell? ⟨p, 0, none⟩ = some (.pointer (some ⟨pd, 0, none⟩))) (hp1 : w.cell? ⟨p, 1, none⟩ = some (.int .i64 (fr : Int))) (hd : Disk w F pd d) (np : ¬ F p) (hfr : fr ≤ 4096) (hh : hf ≤ 1) (hin : fr + hf < d.n) (t : ByteArray) (hts : t.size = 32) (hn : d.Q.length + 1 < 1048576) : Calls Tryz.prog 76 #[.pointer (some ⟨p, 0, none⟩), .int .i64 (hf : Int), .string t] w fun e w' => e = .returned (.int .i64 (putE d (fr + hf) t.data.toList)) ∧ Out F w w' pd (putH d (fr + hf) t.data.toList) := by
  obtain ⟨er, her⟩ : ∃ er : Int, (if d.on then (0 : Int) else 30) = er := ⟨_, rfl⟩
  obtain ⟨d1, hd1⟩ : ∃ d1, d.write (fr + hf) t.data.toList = d1 := ⟨_, rfl⟩
  have hq1 : d1.Q.length ≤ 1048576 := by have := Dk.write_q d (fr + hf) t.data.toList; rw [hd1] at this; omega
  have HWR : Hid (∀ V, V = w.drew → Calls Tryz.prog 72 #[.pointer (some ⟨pd, 0, none⟩), .int .i64 ((fr : Int) + (hf : Int)), .string t] V fun e w' => e = .returned (.int .i64 er) ∧ (w'.cell? ⟨p, 0, none⟩ = some (.pointer (some ⟨pd, 0, none⟩)) ∧ w'.cell? ⟨p, 1, none⟩ = some (.int .i64 (fr : Int))) ∧ Hid (∃ F', Disk w' F' pd d1 ∧ Kept F w w' ∧ Grew F F' w)) := fun V hV => by
    subst hV
    have k0 : Kept (fun _ => False) w w.drew := (Kept.refl _ w).drew
    have hd' : Disk w.drew F pd d := hd.kept k0 (fun _ _ z => z)
    have := disk_write hd' (fr + hf) hin t hts (by omega)
    rw [her, hd1, Int.natCast_add] at this
    refine this.mono fun e w' ⟨q1, F', q2, q3, q4⟩ => ⟨q1, ?_, F', q2, (k0.mono (fun _ z => z.elim)).trans q3 (fun _ z => .inl z), q4⟩
    exact ⟨cell_keptF (cell_keptF hp0 k0 (fun z => z)) q3 np, cell_keptF (cell_keptF hp1 k0 (fun z => z)) q3 np⟩
  have HSE : Hid (∀ V : World, (V.cell? ⟨p, 0, none⟩ = some (.pointer (some ⟨pd, 0, none⟩)) ∧ V.cell? ⟨p, 1, none⟩ = some (.int .i64 (fr : Int))) → Calls Tryz.prog 87 #[.pointer (some ⟨p, 0, none⟩), .int .i64 0] V fun e w' => e = .returned (.int .i64 (fr : Int)) ∧ w' = V) := fun V z => by
    have := sector_is fr 0 hfr (by omega) V z.2
    have e : ((fr : Int) + ((0 : Nat) : Int) * 8) = (fr : Int) := by omega
    rw [e] at this
    exact this
  have HSD : Hid (∀ w' : World, (w'.cell? ⟨p, 0, none⟩ = some (.pointer (some ⟨pd, 0, none⟩)) ∧ w'.cell? ⟨p, 1, none⟩ = some (.int .i64 (fr : Int))) → (w'.drew.cell? ⟨p, 0, none⟩ = some (.pointer (some ⟨pd, 0, none⟩)) ∧ w'.drew.cell? ⟨p, 1, none⟩ = some (.int .i64 (fr : Int)))) := fun w' z => z
  have hS0 : (w.cell? ⟨p, 0, none⟩ = some (.pointer (some ⟨pd, 0, none⟩)) ∧ w.cell? ⟨p, 1, none⟩ = some (.int .i64 (fr : Int))) := ⟨hp0, hp1⟩
  have hw1 : IntKind.i64.wrap ((fr : Int) + (hf : Int)) = (fr : Int) + (hf : Int) := wrapk _ (by omega)
  by_cases hon : d.on = true
  · have hE : putE d (fr + hf) t.data.toList = (if d1.on then 0 else 30) := by unfold putE; rw [if_pos hon, hd1]
    have hH : putH d (fr + hf) t.data.toList = d1.flush := by unfold putH; rw [if_pos hon, hd1]
    rw [hE, hH]
    rw [if_pos hon] at her
    subst her
    obtain ⟨er2, her2⟩ : ∃ er : Int, (if d1.on then (0 : Int) else 30) = er := ⟨_, rfl⟩
    have HFL : Hid (∀ V F', Disk V F' pd d1 ∧ Kept F w V ∧ Grew F F' w → Calls Tryz.prog 77 #[.pointer (some ⟨pd, 0, none⟩)] V fun e w' => e = .returned (.int .i64 er2) ∧ Hid (Out F w w' pd d1.flush)) := fun V F' ⟨z1, z2, z3⟩ => by
      have := disk_flush z1 hq1
      rw [her2] at this
      exact this.mono fun e w' ⟨q1, q2, q3⟩ => ⟨q1, F', q2, z2.trans q3 z3, z3⟩
    rw [her2]
    clear hd np hin hts hn hd1 hon hE hH her2 hp0 hp1 hq1
    go_enter Tryz.func76, Tryz.ntmps76
    go_upto_region 1 with fail
    go_region_held (fun (w' : World) => (w'.cell? ⟨p, 0, none⟩ = some (.pointer (some ⟨pd, 0, none⟩)) ∧ w'.cell? ⟨p, 1, none⟩ = some (.int .i64 (fr : Int)))) (first | (with_reducible assumption) | (with_reducible exact HSD.out _ (by with_reducible assumption))) (first | ((with_reducible refine Calls.mono (HSE.out _ (by with_reducible assumption)) ?_); rintro e w6 ⟨rfl, rfl⟩) | ((with_reducible refine Calls.mono (HWR.out _ rfl) ?_); rintro e w7 ⟨rfl, hS7, HR7⟩))
    all_goals go_wp2_with fail
    all_goals obtain ⟨F', hF'⟩ := HR7.out
    all_goals (refine Calls.mono (HFL.out _ F' hF') ?_; rintro e w8 ⟨rfl, HO⟩)
    all_goals clear hF'
    all_goals go_wp2_with fail
    all_goals go_ret
    all_goals exact ⟨rfl, HO.out⟩
  · have hE : putE d (fr + hf) t.data.toList = 30 := by unfold putE; rw [if_neg hon]
    have hH : putH d (fr + hf) t.data.toList = d1 := by unfold putH; rw [if_neg hon, hd1]
    rw [hE, hH]
    rw [if_neg hon] at her
    subst her
    clear hd np hin hts hn hd1 hon hE hH hp0 hp1 hq1
    go_enter Tryz.func76, Tryz.ntmps76
    go_upto_region 1 with fail
    go_region_held (fun (w' : World) => (w'.cell? ⟨p, 0, none⟩ = some (.pointer (some ⟨pd, 0, none⟩)) ∧ w'.cell? ⟨p, 1, none⟩ = some (.int .i64 (fr : Int)))) (first | (with_reducible assumption) | (with_reducible exact HSD.out _ (by with_reducible assumption))) (first | ((with_reducible refine Calls.mono (HSE.out _ (by with_reducible assumption)) ?_); rintro e w6 ⟨rfl, rfl⟩) | ((with_reducible refine Calls.mono (HWR.out _ rfl) ?_); rintro e w7 ⟨rfl, hS7, HR7⟩))
    all_goals go_wp2_with fail
    all_goals go_ret
    all_goals exact ⟨rfl, HR7.out⟩
end Go.Proofs.YtkhpmmmildcceaaGreat

namespace Go.Proofs.YtkhpmmmildcceaaGreat
open Go.ChangeShapes Go.WideShapes Go.ChangeAt Go.RowKit
set_option linter.unusedVariables false
set_option maxRecDepth 100000

theorem Out.next {F : Nat → Prop} {w V : World} {pd : Nat} {dd : Dk} (h : Out F w V pd dd) {p : Nat} (hp : p < w.heap.size) (np : ¬ F p) : ∃ F', Disk V F' pd dd ∧ ¬ F' p ∧ (∀ w' d', Out F' V w' pd d' → Out F w w' pd d') ∧ (∀ (j : Nat) (u : Value), w.cell? ⟨p, j, none⟩ = some u → V.cell? ⟨p, j, none⟩ = some u) := by
  obtain ⟨F', h1, h2, h3⟩ := h
  refine ⟨F', h1, fun z => ?_, fun w' d' ⟨F'', q1, q2, q3⟩ => ?_, fun j u hu => cell_keptF hu h2 np⟩
  · rcases h3 _ z with q | q
    · exact np q
    · omega
  · have := out_step h2 h3 q2 q3
    exact ⟨F'', q1, this.1, this.2⟩
theorem Out.keep {F : Nat → Prop} {w V w' : World} {pd : Nat} {dd : Dk} (h : Out F w V pd dd) (k : Kept (fun _ => False) V w') : Out F w w' pd dd := by
  obtain ⟨F', h1, h2, h3⟩ := h
  exact ⟨F', h1.kept k (fun _ _ z => z), h2.trans k (fun _ z => z.elim), h3⟩
theorem putH_n (d : Dk) (x : Nat) (l : List UInt8) : (putH d x l).n = d.n := by
  unfold putH Dk.flush Dk.burnt
  split
  · split
    · exact Dk.write_n d x l
    · exact Dk.write_n d x l
  · exact Dk.write_n d x l
theorem flush_q (d : Dk) : d.flush.Q.length ≤ d.Q.length := by
  unfold Dk.flush Dk.burnt
  split
  · exact Nat.zero_le _
  · exact Nat.le_refl _
theorem flush_n (d : Dk) : d.flush.n = d.n := by unfold Dk.flush Dk.burnt; split <;> rfl
theorem putH_q (d : Dk) (x : Nat) (l : List UInt8) : (putH d x l).Q.length ≤ d.Q.length + 1 := by
  unfold putH
  split
  · exact Nat.le_trans (flush_q _) (Dk.write_q d x l)
  · exact Dk.write_q d x l
/-- How a map and a head are laid. -/
def LayS (d : Dk) (fr tn : Nat) (l : List UInt8) (er : Int) (dd : Dk) : Prop :=
  (putE d (fr + tn % 2) (List.replicate 32 (0 : UInt8)) = 30 ∧ er = 30 ∧ dd = putH d (fr + tn % 2) (List.replicate 32 (0 : UInt8))) ∨
  (putE d (fr + tn % 2) (List.replicate 32 (0 : UInt8)) = 0 ∧ ((∃ k, k < 8 ∧ onP (putH d (fr + tn % 2) (List.replicate 32 (0 : UInt8))) (fr + (1 + tn % 2) * 8) l k ∧ (wrP (putH d (fr + tn % 2) (List.replicate 32 (0 : UInt8))) (fr + (1 + tn % 2) * 8) l k).on = false ∧ er = 30 ∧ dd = wrP (putH d (fr + tn % 2) (List.replicate 32 (0 : UInt8))) (fr + (1 + tn % 2) * 8) l (k + 1)) ∨
    (onP (putH d (fr + tn % 2) (List.replicate 32 (0 : UInt8))) (fr + (1 + tn % 2) * 8) l 8 ∧ (((wrP (putH d (fr + tn % 2) (List.replicate 32 (0 : UInt8))) (fr + (1 + tn % 2) * 8) l 8).on = false ∧ er = 30 ∧ dd = (wrP (putH d (fr + tn % 2) (List.replicate 32 (0 : UInt8))) (fr + (1 + tn % 2) * 8) l 8).flush) ∨
      ((wrP (putH d (fr + tn % 2) (List.replicate 32 (0 : UInt8))) (fr + (1 + tn % 2) * 8) l 8).on = true ∧ er = putE (wrP (putH d (fr + tn % 2) (List.replicate 32 (0 : UInt8))) (fr + (1 + tn % 2) * 8) l 8).flush (fr + tn % 2) (headB tn l) ∧ dd = putH (wrP (putH d (fr + tn % 2) (List.replicate 32 (0 : UInt8))) (fr + (1 + tn % 2) * 8) l 8).flush (fr + tn % 2) (headB tn l))))))
theorem putE_or (d : Dk) (x : Nat) (l : List UInt8) : putE d x l = 0 ∨ putE d x l = 30 := by
  unfold putE
  split
  · split
    · exact .inl rfl
    · exact .inr rfl
  · exact .inr rfl
set_option maxHeartbeats 2000000 in
theorem lay_is {w : World} {F : Nat → Prop} {p pd : Nat} {d : Dk} (fr tn : Nat) (hp0 : w.cell? ⟨p, 0, none⟩ = some (.pointer (some ⟨pd, 0, none⟩))) (hp1 : w.cell? ⟨p, 1, none⟩ = some (.int .i64 (fr : Int))) (hd : Disk w F pd d) (np : ¬ F p) (hfr : fr ≤ 4096) (htn : tn ≤ 1048576) (hin : fr + 24 ≤ d.n) (s : ByteArray) (hs : s.size = 256) (hn : d.Q.length + 20 ≤ 1048576) : Calls Tryz.prog 57 #[.pointer (some ⟨p, 0, none⟩), .int .i64 (tn : Int), .string s] w fun e w' => ∃ er dd, e = .returned (.int .i64 er) ∧ LayS d fr tn s.data.toList er dd ∧ Out F w w' pd dd := by
  have hpw : p < w.heap.size := cell_lt hp0
  obtain ⟨hf, hhf⟩ : ∃ hf, tn % 2 = hf := ⟨_, rfl⟩
  have hf1 : hf ≤ 1 := by omega
  have HHF : Hid (tn % 2 = hf) := hhf
  have HH : Hid (Calls Tryz.prog 75 #[.int .i64 (tn : Int)] w fun e w' => e = .returned (.int .i64 (hf : Int)) ∧ w' = w) := by have := thalf_is tn htn w; rw [hhf] at this; exact this
  obtain ⟨zz, hzz⟩ : ∃ z : ByteArray, (⟨(List.replicate 32 (0 : UInt8)).toArray⟩ : ByteArray) = z := ⟨_, rfl⟩
  have hzs : zz.size = 32 := by rw [← hzz]; rfl
  have hzl : zz.data.toList = (List.replicate 32 (0 : UInt8)) := by rw [← hzz]
  have HN : Hid (Calls Tryz.prog 51 #[.int .i64 32] w fun e w' => e = .returned (.string zz) ∧ Hid (Out F w w' pd d)) := by
    have := noughts_is 32 (by decide) w
    rw [hzz] at this
    exact this.mono fun e w' ⟨q1, q2⟩ => ⟨q1, Out.keep ⟨F, hd, Kept.refl _ _, fun i hi => .inl hi⟩ q2⟩
  have HP1 : Hid (∀ V, Out F w V pd d → Calls Tryz.prog 76 #[.pointer (some ⟨p, 0, none⟩), .int .i64 (hf : Int), .string zz] V fun e w' => e = .returned (.int .i64 (putE d (fr + hf) (List.replicate 32 (0 : UInt8)))) ∧ Hid (Out F w w' pd (putH d (fr + hf) (List.replicate 32 (0 : UInt8))))) := fun V hV => by
    obtain ⟨F', h1, h2, h3, h4⟩ := hV.next hpw np
    have := putHead_is fr hf (h4 0 _ hp0) (h4 1 _ hp1) h1 h2 hfr hf1 (by omega) zz hzs (by omega)
    rw [hzl] at this
    exact this.mono fun e w' ⟨q1, q2⟩ => ⟨q1, h3 _ _ q2⟩
  obtain ⟨d1, hd1⟩ : ∃ d1, putH d (fr + hf) (List.replicate 32 (0 : UInt8)) = d1 := ⟨_, rfl⟩
  have hn1 : d1.n = d.n := by rw [← hd1]; exact putH_n _ _ _
  have hq1 : d1.Q.length ≤ d.Q.length + 1 := by rw [← hd1]; exact putH_q _ _ _
  have HWP : Hid (∀ V, Out F w V pd d1 → Calls Tryz.prog 49 #[.pointer (some ⟨p, 0, none⟩), .int .i64 (1 + (hf : Int)), .string s] V fun e w' => (e = .returned (.int .i64 0) ∧ Hid (onP d1 (fr + (1 + hf) * 8) s.data.toList 8 ∧ Out F w w' pd (wrP d1 (fr + (1 + hf) * 8) s.data.toList 8))) ∨ (e = .returned (.int .i64 30) ∧ Hid (∃ k, k < 8 ∧ onP d1 (fr + (1 + hf) * 8) s.data.toList k ∧ (wrP d1 (fr + (1 + hf) * 8) s.data.toList k).on = false ∧ Out F w w' pd (wrP d1 (fr + (1 + hf) * 8) s.data.toList (k + 1))))) := fun V hV => by
    obtain ⟨F', h1, h2, h3, h4⟩ := hV.next hpw np
    have := place_write fr (1 + hf) (h4 0 _ hp0) (h4 1 _ hp1) h1 h2 hfr (by omega) (by omega) s hs (by omega)
    rw [Int.natCast_add] at this
    refine this.mono fun e w' hx => ?_
    rcases hx with ⟨q1, q2, q3⟩ | ⟨q1, k, q2, q3, q4, q5⟩
    · exact .inl ⟨q1, q2, h3 _ _ q3⟩
    · exact .inr ⟨q1, k, q2, q3, q4, h3 _ _ q5⟩
  obtain ⟨d2, hd2⟩ : ∃ d2, wrP d1 (fr + (1 + hf) * 8) s.data.toList 8 = d2 := ⟨_, rfl⟩
  have hn2 : d2.n = d.n := by rw [← hd2]; exact (wrP_n _ _ _ _).trans hn1
  have hq2 : d2.Q.length ≤ d.Q.length + 9 := by rw [← hd2]; exact Nat.le_trans (wrP_q _ _ _ _) (by omega)
  have HFL : Hid (∀ V, Out F w V pd d2 → Calls Tryz.prog 77 #[.pointer (some ⟨pd, 0, none⟩)] V fun e w' => e = .returned (.int .i64 (if d2.on then 0 else 30)) ∧ Hid (Out F w w' pd d2.flush)) := fun V hV => by
    obtain ⟨F', h1, h2, h3⟩ := hV
    exact (disk_flush h1 (by omega)).mono fun e w' ⟨q1, q2, q3⟩ => ⟨q1, F', q2, h2.trans q3 h3, h3⟩
  have hn3 := flush_n d2
  have hq3 := flush_q d2
  obtain ⟨hb, hhb⟩ : ∃ z : ByteArray, (⟨(headB tn s.data.toList).toArray⟩ : ByteArray) = z := ⟨_, rfl⟩
  have hbs : hb.size = 32 := by rw [← hhb]; rfl
  have hbl : hb.data.toList = headB tn s.data.toList := by rw [← hhb]
  have HHB : Hid (∀ V, Out F w V pd d2.flush → Calls Tryz.prog 78 #[.int .i64 (tn : Int), .string s] V fun e w' => e = .returned (.string hb) ∧ Hid (Out F w w' pd d2.flush)) := fun V hV => by
    have := head_is tn (by omega) s (by omega) V
    rw [hhb] at this
    exact this.mono fun e w' ⟨q1, q2⟩ => ⟨q1, hV.keep q2⟩
  have HP2 : Hid (∀ V, Out F w V pd d2.flush → Calls Tryz.prog 76 #[.pointer (some ⟨p, 0, none⟩), .int .i64 (hf : Int), .string hb] V fun e w' => e = .returned (.int .i64 (putE d2.flush (fr + hf) (headB tn s.data.toList))) ∧ Hid (Out F w w' pd (putH d2.flush (fr + hf) (headB tn s.data.toList)))) := fun V hV => by
    obtain ⟨F', h1, h2, h3, h4⟩ := hV.next hpw np
    have := putHead_is fr hf (h4 0 _ hp0) (h4 1 _ hp1) h1 h2 hfr hf1 (by omega) hb hbs (by omega)
    rw [hbl] at this
    exact this.mono fun e w' ⟨q1, q2⟩ => ⟨q1, h3 _ _ q2⟩
  have HCE : Hid (∀ V dd, Out F w V pd dd → V.cell? ⟨p, 0, none⟩ = some (.pointer (some ⟨pd, 0, none⟩))) := fun V dd hV => by
    obtain ⟨F', h1, h2, h3, h4⟩ := hV.next hpw np
    exact h4 0 _ hp0
  have HLS : Hid (∀ er dd, ((putE d (fr + hf) (List.replicate 32 (0 : UInt8)) = 30 ∧ er = 30 ∧ dd = d1) ∨ (putE d (fr + hf) (List.replicate 32 (0 : UInt8)) = 0 ∧ ((∃ k, k < 8 ∧ onP d1 (fr + (1 + hf) * 8) s.data.toList k ∧ (wrP d1 (fr + (1 + hf) * 8) s.data.toList k).on = false ∧ er = 30 ∧ dd = wrP d1 (fr + (1 + hf) * 8) s.data.toList (k + 1)) ∨ (onP d1 (fr + (1 + hf) * 8) s.data.toList 8 ∧ ((d2.on = false ∧ er = 30 ∧ dd = d2.flush) ∨ (d2.on = true ∧ er = putE d2.flush (fr + hf) (headB tn s.data.toList) ∧ dd = putH d2.flush (fr + hf) (headB tn s.data.toList))))))) → LayS d fr tn s.data.toList er dd) := fun er dd hx => by
    unfold LayS
    rw [hhf, hd1, hd2]
    exact hx
  rw [hd1] at HP1
  rw [hd2] at HWP
  obtain ⟨e1, he1⟩ : ∃ x, putE d (fr + hf) (List.replicate 32 (0 : UInt8)) = x := ⟨_, rfl⟩
  have he1o := putE_or d (fr + hf) (List.replicate 32 (0 : UInt8))
  rw [he1] at HP1 he1o HLS
  obtain ⟨e2, he2⟩ : ∃ x, putE d2.flush (fr + hf) (headB tn s.data.toList) = x := ⟨_, rfl⟩
  rw [he2] at HP2 HLS
  clear hd np hin hs hn hhf hzz hzs hzl hd1 hn1 hq1 hd2 hn2 hq2 hn3 hq3 hhb hbs hbl he1 he2 hp0 hp1 hpw
  go_enter Tryz.func57, Tryz.ntmps57
  go_wp2_with fail
  refine Calls.mono HH.out ?_; rintro e w0 ⟨rfl, rfl⟩
  go_wp2_with fail
  refine Calls.mono HN.out ?_; rintro e w1 ⟨rfl, HO1⟩
  go_wp2_with fail
  refine Calls.mono (HP1.out _ HO1.out) ?_; rintro e w2 ⟨rfl, HO2⟩
  clear HO1 HN HP1 HH
  rcases he1o with rfl | rfl
  · go_wp2_with fail
    refine Calls.mono (HWP.out _ HO2.out) ?_; rintro e w3 hor
    clear HO2 HWP
    rcases hor with ⟨rfl, HO3⟩ | ⟨rfl, HO3⟩
    · have c0 := HCE.out _ _ HO3.out.2
      go_wp2_with fail
      refine Calls.mono (HFL.out _ HO3.out.2) ?_; rintro e w4 ⟨rfl, HO4⟩
      clear c0
      have HON : Hid (onP d1 (fr + (1 + hf) * 8) s.data.toList 8) := HO3.out.1
      clear HO3 HFL
      by_cases hon : d2.on = true
      · rw [if_pos hon]
        have HO : Hid (d2.on = true) := hon
        clear hon
        go_wp2_with fail
        refine Calls.mono (HHB.out _ HO4.out) ?_; rintro e w5 ⟨rfl, HO5⟩
        go_wp2_with fail
        refine Calls.mono (HP2.out _ HO5.out) ?_; rintro e w6 ⟨rfl, HO6⟩
        go_wp2_with fail
        go_ret
        exact ⟨_, _, rfl, HLS.out _ _ (.inr ⟨by first | trivial | rfl, .inr ⟨HON.out, .inr ⟨HO.out, rfl, rfl⟩⟩⟩), HO6.out⟩
      · rw [if_neg hon]
        have HO : Hid (d2.on = false) := Bool.eq_false_iff.2 hon
        clear hon
        go_wp2_with fail
        go_ret
        exact ⟨_, _, rfl, HLS.out _ _ (.inr ⟨by first | trivial | rfl, .inr ⟨HON.out, .inl ⟨HO.out, rfl, rfl⟩⟩⟩), HO4.out⟩
    · go_wp2_with fail
      go_ret
      obtain ⟨k, g1, g2, g3, g4⟩ := HO3.out
      exact ⟨_, _, rfl, HLS.out _ _ (.inr ⟨by first | trivial | rfl, .inl ⟨k, g1, g2, g3, rfl, rfl⟩⟩), g4⟩
  · go_wp2_with fail
    go_ret
    exact ⟨_, _, rfl, HLS.out _ _ (.inl ⟨by first | trivial | rfl, rfl, rfl⟩), HO2.out⟩
end Go.Proofs.YtkhpmmmildcceaaGreat
