/- Open. Open, of sectors of which there is a space. -/
import Derived.Test.YtkhpmmmildcceaaGreatQLt
import Derived.Test.YtkhpmmmildcceaaGreatQSp
namespace Go.Proofs.YtkhpmmmildcceaaGreat
open Go.ChangeShapes Go.WideShapes Go.ChangeAt Go.RowKit
set_option linter.unusedVariables false
set_option maxRecDepth 100000

section
variable {P : Program} {ops : Array Oper} {rest : List Oper} {o : Oper} {a : Act} {w w' : World} {Q : Exit → Act → World → Prop} {v : Value}
theorem st_box {ty : TypeId} {x : Operand} (hgd : o.guard = none) (ho : o.op = .box ty x) (hr : (Instr.box ty (a.eval x)).run P w = .ok v w') (h : wpList P ops Q rest (a.put o.dst v) w') : wpList P ops Q (o :: rest) a w :=
  wpList_plain hgd fun _ hK => by
    unfold Oper.wp execOp
    simp only [ho, Sem.run_bind, hr, Result.andThen_ok]
    exact hK _ _ h
theorem st_build3 {ty : TypeId} {i j k : Nat} {x y z : Operand} (hgd : o.guard = none) (ho : o.op = .build ty #[(i, x), (j, y), (k, z)]) (hr : (Instr.build ty #[(i, a.eval x), (j, a.eval y), (k, a.eval z)]).run P w = .ok v w') (h : wpList P ops Q rest (a.put o.dst v) w') : wpList P ops Q (o :: rest) a w :=
  wpList_plain hgd fun _ hK => by
    unfold Oper.wp execOp
    simp only [ho, Sem.run_bind, List.map_toArray, List.map_cons, List.map_nil, hr, Result.andThen_ok]
    exact hK _ _ h
end
def opS (pd fr pg : Nat) : Sp := ⟨pd, fr, pg, 0, u0, none, u0, none⟩
theorem built70 (pd : Nat) (fr pg : Int) : Tryz.prog.built 70 [(0, .pointer (some ⟨pd, 0, none⟩)), (1, .int .i64 fr), (2, .int .i64 pg)] = some ([Value.pointer (some ⟨pd, 0, none⟩), .int .i64 fr, .int .i64 pg, .int .i64 0] ++ (bv u0 ++ ([Value.map none] ++ (bv u0 ++ [Value.map none])))).toArray := by kernel_rfl
theorem build70 (pd fr pg : Nat) (w : World) : (Instr.build 70 #[(0, .pointer (some ⟨pd, 0, none⟩)), (1, .int .i64 (fr : Int)), (2, .int .i64 (pg : Int))]).run Tryz.prog w = .ok (.agg (opS pd fr pg).C.toArray) w := by
  apply run_build
  exact built70 pd fr pg
theorem box70 (C : List Value) (w : World) : (Instr.box 70 (.agg C.toArray)).run Tryz.prog w = .ok (.pointer (some ⟨w.heap.size, 0, none⟩)) (w.alloc (.cells C.toArray 70)) := by
  simp [Instr.box, newVar, go_sem, Value.cells]
theorem Sp.C_len (x : Sp) (hl : x.ul.length = 63) (hn : x.un.length = 63) : x.C.length = 132 := by
  unfold Sp.C
  simp only [List.length_append, bv_length, hl, hn]
  rfl
theorem Sp.C_setL (x : Sp) (hl : x.ul.length = 63) (hn : x.un.length = 63) (u : List UInt8) (m : Option Nat) (hu : u.length = 63) : setL x.C 4 (stC u m) = Sp.C { x with ul := u, ml := m } := by
  rw [setL_is _ _ _ (by rw [x.C_len hl hn, stC_len u m hu]; omega)]
  have e2 : x.C.drop (4 + (stC u m).length) = bv x.un ++ [.map x.mn] := by
    rw [stC_len u m hu]
    unfold Sp.C
    rw [← List.append_assoc, ← List.append_assoc]
    exact List.drop_left' (by simp only [List.length_append, bv_length, hl]; rfl)
  have e1 : x.C.take 4 = [.pointer (some ⟨x.pd, 0, none⟩), .int .i64 (x.fr : Int), .int .i64 (x.pg : Int), .int .i64 (x.tn : Int)] := rfl
  rw [e1, e2]
  unfold stC Sp.C
  simp only [List.append_assoc]
theorem Sp.C_setN (x : Sp) (hl : x.ul.length = 63) (hn : x.un.length = 63) (u : List UInt8) (m : Option Nat) (hu : u.length = 63) : setL x.C 68 (stC u m) = Sp.C { x with un := u, mn := m } := by
  rw [setL_is _ _ _ (by rw [x.C_len hl hn, stC_len u m hu]; omega)]
  have e2 : x.C.drop (68 + (stC u m).length) = [] := List.drop_eq_nil_of_le (by rw [stC_len u m hu, x.C_len hl hn]; omega)
  have e1 : x.C.take 68 = ([.pointer (some ⟨x.pd, 0, none⟩), .int .i64 (x.fr : Int), .int .i64 (x.pg : Int), .int .i64 (x.tn : Int)] ++ (bv x.ul ++ [.map x.ml]) : List Value) := by
    have e3 : x.C = ([.pointer (some ⟨x.pd, 0, none⟩), .int .i64 (x.fr : Int), .int .i64 (x.pg : Int), .int .i64 (x.tn : Int)] ++ (bv x.ul ++ [.map x.ml])) ++ (bv x.un ++ [.map x.mn]) := by
      unfold Sp.C
      simp only [List.append_assoc]
    rw [e3]
    exact List.take_left' (by rw [List.length_append, List.length_append, bv_length, hl]; rfl)
  rw [e1, e2]
  unfold stC Sp.C
  simp only [List.append_assoc, List.append_nil]
/-- The state that was committed last is laid. -/
theorem SpAt.setL {w : World} {p : Nat} {x : Sp} (h : SpAt w p x) (u : List UInt8) (m : Option Nat) (hu : u.length = 63) : (Instr.storeAt 68 (.pointer (some ⟨p, 4, none⟩)) (.agg (stC u m).toArray)).run Tryz.prog w = .ok () (w.setCells p 4 (stC u m)) ∧ SpAt (w.setCells p 4 (stC u m)) p { x with ul := u, ml := m } ∧ Kept (fun i => i = p) w (w.setCells p 4 (stC u m)) := by
  have hl := stC_len u m hu
  have hc := x.C_len h.ll h.ln
  refine ⟨store68 _ hl (fun j hj => ?_) (fun j _ => h.blk.fz _) (stC_one u m), ⟨?_, hu, h.ln⟩, Kept.setCells (F := fun i => i = p) (.inl rfl) _ _ _ (Kept.refl _ w)⟩
  · rw [h.blk.cell (List.getElem?_eq_getElem (by rw [hc]; omega))]
    rfl
  · have := h.blk.setCells (stC u m) 4
    rw [x.C_setL h.ll h.ln u m hu] at this
    exact this
theorem SpAt.setN {w : World} {p : Nat} {x : Sp} (h : SpAt w p x) (u : List UInt8) (m : Option Nat) (hu : u.length = 63) : (Instr.storeAt 68 (.pointer (some ⟨p, 68, none⟩)) (.agg (stC u m).toArray)).run Tryz.prog w = .ok () (w.setCells p 68 (stC u m)) ∧ SpAt (w.setCells p 68 (stC u m)) p { x with un := u, mn := m } ∧ Kept (fun i => i = p) w (w.setCells p 68 (stC u m)) := by
  have hl := stC_len u m hu
  have hc := x.C_len h.ll h.ln
  refine ⟨store68 _ hl (fun j hj => ?_) (fun j _ => h.blk.fz _) (stC_one u m), ⟨?_, h.ll, hu⟩, Kept.setCells (F := fun i => i = p) (.inl rfl) _ _ _ (Kept.refl _ w)⟩
  · rw [h.blk.cell (List.getElem?_eq_getElem (by rw [hc]; omega))]
    rfl
  · have := h.blk.setCells (stC u m) 68
    rw [x.C_setN h.ll h.ln u m hu] at this
    exact this
theorem SpAt.setT {w : World} {p : Nat} {x : Sp} (h : SpAt w p x) (t : Nat) : SpAt (w.setCell ⟨p, 3, none⟩ (.int .i64 (t : Int))) p { x with tn := t } ∧ Kept (fun i => i = p) w (w.setCell ⟨p, 3, none⟩ (.int .i64 (t : Int))) :=
  ⟨⟨h.blk.set 3 _, h.ll, h.ln⟩, Kept.setCell (F := fun i => i = p) (Kept.refl _ w) (.inl rfl) _⟩
theorem SpAt.cl {w : World} {p : Nat} {x : Sp} (h : SpAt w p x) : w.cell? ⟨p, 67, none⟩ = some (.map x.ml) := h.blk.cell (by
  unfold Sp.C
  rw [List.getElem?_append_right (by show 4 ≤ _; omega)]
  show (bv x.ul ++ _)[63]? = _
  rw [List.getElem?_append_right (by rw [bv_length, h.ll]; omega), bv_length, h.ll]
  rfl)
theorem SpAt.cn {w : World} {p : Nat} {x : Sp} (h : SpAt w p x) : w.cell? ⟨p, 131, none⟩ = some (.map x.mn) := h.blk.cell (by
  unfold Sp.C
  rw [List.getElem?_append_right (by show 4 ≤ _; omega)]
  show (bv x.ul ++ _)[127]? = _
  rw [List.getElem?_append_right (by rw [bv_length, h.ll]; omega), bv_length, h.ll]
  show ([Value.map x.ml] ++ (bv x.un ++ [.map x.mn]))[64]? = _
  rw [List.getElem?_append_right (by show 1 ≤ _; omega)]
  show (bv x.un ++ _)[63]? = _
  rw [List.getElem?_append_right (by rw [bv_length, h.ln]; omega), bv_length, h.ln]
  rfl)
theorem whole_is (a b : Int) (ha : -100000 ≤ a ∧ a ≤ 100000) (hb : -100000 ≤ b ∧ b ≤ 100000) (w : World) : Calls Tryz.prog 31 #[.int .i64 a, .int .i64 b] w fun e w' => e = .returned (.int .i64 ((b - a).tdiv 8)) ∧ w' = w := by
  go_enter Tryz.func31, Tryz.ntmps31
  go_wp2_with fail
  go_ret
  exact ⟨rfl, rfl⟩
/-- Sectors of which no space is made. -/
theorem open_none {w : World} {v : Value} {n : Nat} (hs : Szd w v n) (hn : n ≤ 4096) (fr tt : Int) (h : ¬ (0 ≤ fr ∧ fr ≤ n ∧ 0 ≤ tt ∧ tt ≤ n ∧ 32 ≤ tt - fr)) : Calls Tryz.prog 9 #[v, .int .i64 fr, .int .i64 tt] w fun e w' => e = .returned (.tuple #[.pointer none, .int .i64 1]) ∧ w' = w := by
  have HS : Hid _ := size_is v n w hs
  clear hs
  by_cases c1 : fr < 0
  · clear h hn
    go_enter Tryz.func9, Tryz.ntmps9
    go_wp2_with fail
    refine Calls.mono HS.out ?_; rintro e w1 ⟨rfl, rfl⟩
    go_wp2_with fail
    go_ret2
    exact ⟨rfl, rfl⟩
  · by_cases c2 : (n : Int) < fr
    · clear h hn
      go_enter Tryz.func9, Tryz.ntmps9
      go_wp2_with fail
      refine Calls.mono HS.out ?_; rintro e w1 ⟨rfl, rfl⟩
      go_wp2_with fail
      go_ret2
      exact ⟨rfl, rfl⟩
    · by_cases c3 : tt < 0
      · clear h hn
        go_enter Tryz.func9, Tryz.ntmps9
        go_wp2_with fail
        refine Calls.mono HS.out ?_; rintro e w1 ⟨rfl, rfl⟩
        go_wp2_with fail
        go_ret2
        exact ⟨rfl, rfl⟩
      · by_cases c4 : (n : Int) < tt
        · clear h hn
          go_enter Tryz.func9, Tryz.ntmps9
          go_wp2_with fail
          refine Calls.mono HS.out ?_; rintro e w1 ⟨rfl, rfl⟩
          go_wp2_with fail
          go_ret2
          exact ⟨rfl, rfl⟩
        · have HW : Hid _ := whole_is fr tt (by omega) (by omega) w
          obtain ⟨q, hq⟩ : ∃ q, (tt - fr).tdiv 8 = q := ⟨_, rfl⟩
          have c5 : q ≤ 3 := by
            rw [← hq]
            by_cases z : tt - fr < 0
            · have : (tt - fr).tdiv 8 ≤ 0 := by
                have e : tt - fr = -(fr - tt) := by omega
                rw [e, Int.neg_tdiv]
                have := Int.tdiv_nonneg (show 0 ≤ fr - tt by omega) (show (0 : Int) ≤ 8 by omega)
                omega
              omega
            · rw [Int.tdiv_eq_ediv_of_nonneg (by omega)]
              omega
          rw [hq] at HW
          clear h hn hq
          go_enter Tryz.func9, Tryz.ntmps9
          go_wp2_with fail
          refine Calls.mono HS.out ?_; rintro e w1 ⟨rfl, rfl⟩
          go_wp2_with fail
          refine Calls.mono HW.out ?_; rintro e w2 ⟨rfl, rfl⟩
          go_wp2_with fail
          go_ret2
          exact ⟨rfl, rfl⟩
end Go.Proofs.YtkhpmmmildcceaaGreat

namespace Go.Proofs.YtkhpmmmildcceaaGreat
open Go.ChangeShapes Go.WideShapes Go.ChangeAt Go.RowKit
set_option linter.unusedVariables false
set_option maxRecDepth 100000

/-- What Open answers. -/
def OpE (F : Nat → Prop) (pd : Nat) (d : Dk) (fr pg : Nat) (w : World) (e : Ending) (w' : World) : Prop := ∃ (p t : Nat) (u : List UInt8) (a b : Nat) (ns : List Nam), e = .returned (.tuple #[.pointer (some ⟨p, 0, none⟩), .int .i64 0]) ∧ SpAt w' p ⟨pd, fr, pg, t, u, some a, u, some b⟩ ∧ NmAt w' a ns ∧ NmAt w' b ns ∧ a ≠ b ∧ w.heap.size ≤ p ∧ w.heap.size ≤ a ∧ w.heap.size ≤ b ∧ Disk w' F pd d ∧ Kept (fun _ => False) w w' ∧ t ≤ 4294967296 ∧ LatJ (ComD d fr pg) 2 t u ns
set_option maxHeartbeats 4000000 in
theorem open_space {w : World} {F : Nat → Prop} {pd : Nat} {d : Dk} (hd : Disk w F pd d) (hoff : d.off = false) (fr tt pg : Nat) (h1 : fr + 32 ≤ tt) (h2 : tt ≤ d.n) (hpg : pg = min ((tt - fr) / 8 - 3) 500) : Calls Tryz.prog 9 #[.pointer (some ⟨pd, 0, none⟩), .int .i64 (fr : Int), .int .i64 (tt : Int)] w fun e w' => OpE F pd d fr pg w e w' := by
  have hn := hd.sized
  have HS : Hid _ := disk_size hd
  have HO : Hid (∀ V, V = w → Calls Tryz.prog 32 #[.pointer (some ⟨pd, 0, none⟩)] V fun e w' => e = .returned (.bool false) ∧ w' = V) := fun V e => by
    subst e
    have := disk_off hd
    rw [hoff] at this
    exact this
  obtain ⟨q, hq⟩ : ∃ q, (tt - fr) / 8 = q := ⟨_, rfl⟩
  have HW : Hid (Calls Tryz.prog 31 #[.int .i64 (fr : Int), .int .i64 (tt : Int)] w fun e w' => e = .returned (.int .i64 (q : Int)) ∧ w' = w) := by
    have := whole_is (fr : Int) (tt : Int) (by omega) (by omega) w
    rw [Int.tdiv_eq_ediv_of_nonneg (by omega), show ((tt : Int) - (fr : Int)) / 8 = (q : Int) by omega] at this
    exact this
  have c1 : ¬ (fr : Int) < 0 := by omega
  have c2 : ¬ (d.n : Int) < (fr : Int) := by omega
  have c3 : ¬ (tt : Int) < 0 := by omega
  have c4 : ¬ (d.n : Int) < (tt : Int) := by omega
  have c5 : ¬ (q : Int) ≤ 3 := by omega
  have c6 : (q : Int) ≤ 600 := by omega
  have hmin : ∀ V : World, (Builtin.min_ #[3, 3] 3 #[.int .i64 ((q : Int) - 3), .int .i64 500]).run Tryz.prog V = .ok (.int .i64 (pg : Int)) V := fun V => by
    have := min_len (q - 3) 500 V
    rw [show ((q - 3 : Nat) : Int) = (q : Int) - 3 by omega] at this
    rw [hpg, hq]
    exact this
  obtain ⟨p, hp⟩ : ∃ p, w.heap.size = p := ⟨_, rfl⟩
  obtain ⟨C0, hC0⟩ : ∃ C, (opS pd fr pg).C.toArray = C := ⟨_, rfl⟩
  obtain ⟨V1, hV1⟩ : ∃ V, w.alloc (.cells (opS pd fr pg).C.toArray 70) = V := ⟨_, rfl⟩
  have HBU : Hid ((Instr.build 70 #[(0, .pointer (some ⟨pd, 0, none⟩)), (1, .int .i64 (fr : Int)), (2, .int .i64 (pg : Int))]).run Tryz.prog w = .ok (.agg C0) w) := by rw [← hC0]; exact build70 pd fr pg w
  have HBO : Hid ((Instr.box 70 (.agg C0)).run Tryz.prog w = .ok (.pointer (some ⟨p, 0, none⟩)) V1) := by
    have := box70 (opS pd fr pg).C w
    rw [hV1, hp, hC0] at this
    exact this
  have k1 : Kept (fun _ => False) w V1 := hV1 ▸ (Kept.refl _ w).alloc _
  have s1 : SpAt V1 p (opS pd fr pg) := ⟨by have := Blk.new w 70 (opS pd fr pg).C; rw [hV1, hp] at this; exact this, u0_len, u0_len⟩
  have np : ¬ F p := fun z => by
    have := hd.bound p z
    omega
  have hd1 := hd.kept k1 (fun _ _ z => z)
  have HLA : Hid (Calls Tryz.prog 33 #[.pointer (some ⟨p, 0, none⟩)] V1 fun e w' => ∃ (t : Nat) (u : List UInt8) (m : Nat), e = .returned (.tuple #[.int .i64 (t : Int), .agg (stC u (some m)).toArray]) ∧ Hid (∃ ns, u.length = 63 ∧ t ≤ 4294967296 ∧ NmAt w' m ns ∧ V1.heap.size ≤ m ∧ Kept (fun _ => False) V1 w' ∧ LatJ (ComD d fr pg) 2 t u ns)) := by
    refine (latest_is s1 hd1 hoff (by show fr ≤ 4096; omega) (by show fr + 24 ≤ d.n; omega)).mono ?_
    rintro e w' ⟨t, u, m, ns, rfl, a1, a2, a3, a4, a5, a6⟩
    exact ⟨t, u, m, rfl, ns, a1, a2, a3, a4, a5, a6⟩
  have HQ1 : Hid (SpAt V1 p (opS pd fr pg) ∧ ¬ F p ∧ Disk V1 F pd d ∧ Kept (fun _ => False) w V1 ∧ w.heap.size = p) := ⟨s1, np, hd1, k1, hp⟩
  clear hd hoff h1 h2 hpg hn hq hp hC0 hV1 k1 s1 np hd1
  go_enter Tryz.func9, Tryz.ntmps9
  go_wp2_with fail
  refine Calls.mono HS.out ?_; rintro e w1 ⟨rfl, rfl⟩
  go_wp2_with fail
  refine Calls.mono HW.out ?_; rintro e w2 ⟨rfl, rfl⟩
  go_wp2_with fail
  refine Calls.mono (HO.out _ rfl) ?_; rintro e w3 ⟨rfl, rfl⟩
  go_wp2_with fail
  refine Calls.mono HW.out ?_; rintro e w4 ⟨rfl, rfl⟩
  go_wp2_with (first | ((with_reducible apply st_build3); (case ho => rfl); (case hgd => rfl); (case hr => exact HBU.out)) | ((with_reducible apply st_box); (case ho => rfl); (case hgd => rfl); (case hr => exact HBO.out)) | fail)
  refine Calls.mono HLA.out ?_; rintro e w5 ⟨t, u, m, rfl, HL5⟩
  obtain ⟨ns, a1, a2, a3, a4, a5, a6⟩ := HL5.out
  have s5 := HQ1.out.1.kept a5 (fun z => z)
  have c53 := s5.c3
  have f53 := s5.blk.fz 3
  have q6 := s5.setT t
  obtain ⟨V6, hV6⟩ : ∃ V, w5.setCell ⟨p, 3, none⟩ (.int .i64 (t : Int)) = V := ⟨_, rfl⟩
  rw [hV6] at q6
  have q7 := q6.1.setL u (some m) a1
  obtain ⟨V7, hV7⟩ : ∃ V, V6.setCells p 4 (stC u (some m)) = V := ⟨_, rfl⟩
  obtain ⟨CA, hCA⟩ : ∃ C, (stC u (some m)).toArray = C := ⟨_, rfl⟩
  rw [hV7, hCA] at q7
  have k57 : Kept (fun i => i = p) w5 V7 := q6.2.trans q7.2.2 (fun i e => .inl e)
  have hmp : m ≠ p := by
    have := HQ1.out.1.blk.lt
    omega
  have n7 : NmAt V7 m ns := a3.kept k57 hmp
  have HST6 : Hid ((Instr.storeAt 3 (.pointer (some ⟨p, 3, none⟩)) (.int .i64 (t : Int))).run Tryz.prog w5 = .ok () V6) := by
    rw [← hV6]
    show (Instr.storeAt 3 (.pointer (some ⟨p, 3, none⟩)) (.int .i64 (t : Int))).run Tryz.prog w5 = _
    have h0 : w5.cell? ⟨p, 3, none⟩ = some (.int .i64 ((0 : Nat) : Int)) := c53
    simp [go_sem, h0, f53]
  have HST7 : Hid ((Instr.storeAt 68 (.pointer (some ⟨p, 4, none⟩)) (.agg CA)).run Tryz.prog V6 = .ok () V7) := q7.1
  have HCP : Hid (Calls Tryz.prog 34 #[.pointer (some ⟨p, 4, none⟩)] V7 fun e w' => ∃ k, e = .returned (.agg (stC u (some k)).toArray) ∧ Hid (NmAt w' k ns ∧ V7.heap.size ≤ k ∧ Kept (fun _ => False) V7 w')) := by
    have hus : Us V7 p 4 u := q7.2.1.last
    refine (copied_is hus q7.2.1.cl n7).mono ?_
    rintro e w' ⟨k, rfl, b1, b2, b3⟩
    exact ⟨k, rfl, b1, b2, b3⟩
  have HQ7 : Hid (SpAt V7 p ⟨pd, fr, pg, t, u, some m, u0, none⟩ ∧ NmAt V7 m ns ∧ Kept (fun i => i = p) w5 V7 ∧ Kept (fun _ => False) V1 w5 ∧ m ≠ p ∧ V1.heap.size ≤ m ∧ u.length = 63 ∧ t ≤ 4294967296 ∧ LatJ (ComD d fr pg) 2 t u ns) := ⟨q7.2.1, n7, k57, a5, hmp, a4, a1, a2, a6⟩
  rw [hCA]
  clear a1 a2 a3 a4 a5 a6 s5 c53 f53 q6 hV6 q7 hV7 hCA k57 hmp n7 HL5 HLA
  go_wp2_with (first | ((with_reducible apply st_store); (case ho => rfl); (case hgd => rfl); (case hr => first | exact HST6.out | exact HST7.out)) | fail)
  refine Calls.mono HCP.out ?_; rintro e w8 ⟨k, rfl, HN8⟩
  obtain ⟨b1, b2, b3⟩ := HN8.out
  obtain ⟨e1, e2, e3, e4, e5, e6, e7, e8, e9⟩ := HQ7.out
  have s8 := e1.kept b3 (fun z => z)
  have q9 := s8.setN u (some k) e7
  obtain ⟨V9, hV9⟩ : ∃ V, w8.setCells p 68 (stC u (some k)) = V := ⟨_, rfl⟩
  obtain ⟨CB, hCB⟩ : ∃ C, (stC u (some k)).toArray = C := ⟨_, rfl⟩
  rw [hV9, hCB] at q9
  have HST9 : Hid ((Instr.storeAt 68 (.pointer (some ⟨p, 68, none⟩)) (.agg CB)).run Tryz.prog w8 = .ok () V9) := q9.1
  have HF9 : Hid (OpE F pd d fr pg w4 (.returned (.tuple #[.pointer (some ⟨p, 0, none⟩), .int .i64 0])) V9) := by
    obtain ⟨g1, g2, g3, g4, g5⟩ := HQ1.out
    have hp7 := e1.blk.lt
    have hm7 := e2.lt
    have kk9 : Kept (fun i => i = p) w8 V9 := q9.2.2
    have z1 := g4.size
    refine ⟨p, t, u, m, k, ns, rfl, q9.2.1, (e2.kept b3 (fun z => z)).kept kk9 e5, b1.kept kk9 (by omega), by omega, by omega, by omega, by have := e3.size; have := e4.size; omega, ?_, ?_, e8, e9⟩
    · have d5 := g3.kept e4 (fun _ _ z => z)
      have d7 := d5.kept e3 (fun i hi z => g2 (by rw [← z]; exact hi))
      have d8 := d7.kept b3 (fun _ _ z => z)
      exact d8.kept kk9 (fun i hi z => g2 (by rw [← z]; exact hi))
    · exact (((g4.trans e4 (fun _ z => z.elim)).trans e3 (fun i z => .inr (by omega))).trans b3 (fun _ z => z.elim)).trans kk9 (fun i z => .inr (by omega))
  rw [hCB]
  clear b1 b2 b3 e1 e2 e3 e4 e5 e6 e7 e8 e9 s8 q9 hV9 hCB HN8 HQ7 HQ1
  go_wp2_with (first | ((with_reducible apply st_store); (case ho => rfl); (case hgd => rfl); (case hr => exact HST9.out)) | fail)
  go_ret2
  exact HF9.out
end Go.Proofs.YtkhpmmmildcceaaGreat
