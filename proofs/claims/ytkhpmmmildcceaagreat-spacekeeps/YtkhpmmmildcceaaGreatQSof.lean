/- The state of a text. -/
import Derived.Test.YtkhpmmmildcceaaGreatQDc
namespace Go.Proofs.YtkhpmmmildcceaaGreat
open Go.ChangeShapes Go.WideShapes Go.ChangeAt Go.RowKit
set_option linter.unusedVariables false
set_option maxRecDepth 100000

section
variable {P : Program} {ops : Array Oper} {rest : List Oper} {o : Oper} {a : Act} {w w' : World} {Q : Exit → Act → World → Prop} {v : Value}
theorem dr_mapUpdate {K : Act → World → Prop} {E : Prop} {ty : TypeId} {x y z : Operand} (hgd : o.guard = none) (ho : o.op = .mapUpdate ty x y z) (hr : (Instr.mapUpdate ty (a.eval x) (a.eval y) (a.eval z)).run P w = .ok () w') (hK : K (a.put o.dst undef) w') :
    if Region.wanted o (yielded ops a.tmps) = true then Oper.wp P o a w K Q else E := by
  have hw : Region.wanted o (yielded ops a.tmps) = true := by simp [Region.wanted, hgd]
  rw [if_pos hw]
  unfold Oper.wp execOp
  simp only [ho, Sem.run_bind, hr, Result.andThen_ok]
  exact hK
end
/-- What a text's state is. -/
def StO (s : ByteArray) (w : World) (e : Ending) (w' : World) : Prop := ∃ u m ns b, e = .returned (.tuple #[.agg (stC u (some m)).toArray, .bool b]) ∧ u.length = 63 ∧ NmAt w' m ns ∧ (∀ x, x ∈ ns → okN x ∧ x.2 < 65536) ∧ ns.length ≤ 124 ∧ w.heap.size ≤ m ∧ Kept (fun _ => False) w w' ∧ (b = true → MapS s.data.toList u ns) ∧ (b = false → ∀ u' ns', ¬ MapS s.data.toList u' ns')
theorem or_bytes (x y : UInt8) : bits .or .i64 (x.toNat : Int) ((y.toNat : Int) * 256) = ((x.toNat + y.toNat * 256 : Nat) : Int) := by
  have hx := x.toNat_lt
  have hy := y.toNat_lt
  have := or_next x.toNat y.toNat 256 8 (by omega) (by omega) (by omega) (by omega)
  rw [Int.natCast_mul] at this
  exact this
/-- The invariant of the loop over cells. -/
structure SI (w : World) (B2 B4 m q : Nat) (kd : UInt8) (cs : List Cel) (k : Nat) (wr : World) : Prop where
  st : StAt wr B4 (decN (cs.take k)).1 (some m)
  nm : NmAt wr m (decN (cs.take k)).2
  pg : Pg wr q (lay kd cs)
  rx : StX wr B2
  kp : Kept (fun _ => False) w wr
theorem SI.kept {w : World} {B2 B4 m q : Nat} {kd : UInt8} {cs : List Cel} {k : Nat} {V V' : World} (h : SI w B2 B4 m q kd cs k V) (kk : Kept (fun _ => False) V V') : SI w B2 B4 m q kd cs k V' :=
  ⟨h.st.kept kk (fun z => z), h.nm.kept kk (fun z => z), h.pg.kept kk (fun z => z), h.rx.kept kk (fun z => z), h.kp.trans kk (fun _ z => z.elim)⟩
theorem dec_take {cs : List Cel} {k : Nat} (hk : k < cs.length) : decN (cs.take (k + 1)) = stepN (decN (cs.take k)) cs[k] := by
  rw [List.take_add_one, List.getElem?_eq_getElem hk]
  exact decN_snoc _ _
theorem putN_len (ns : List Nam) (s : List UInt8) (n : Nat) : (putN ns s n).length ≤ ns.length + 1 := by
  unfold putN delN
  have h : ∀ (x : Nam) (l : List Nam), (insN x l).length = l.length + 1 := fun x l => by
    induction l with
    | nil => rfl
    | cons y r ih =>
      unfold insN
      split
      · rfl
      · show (insN x r).length + 1 = r.length + 1 + 1
        rw [ih]
  rw [h]
  have := List.length_filter_le (fun x : Nam => !(x.1 == s)) ns
  omega
theorem dec_count (cs : List Cel) : (decN cs).2.length ≤ cs.length := by
  refine snoc_ind (P := fun cs => (decN cs).2.length ≤ cs.length) (Nat.zero_le _) (fun l x ih => ?_) cs
  rw [decN_snoc, List.length_append]
  unfold stepN
  have := putN_len (decN l).2 x.1 (numB x.2)
  split
  · show (decN l).2.length ≤ _; omega
  · split
    · show (putN (decN l).2 x.1 (numB x.2)).length ≤ l.length + 1
      omega
    · omega
set_option maxHeartbeats 4000000 in
theorem stateOf_is (s : ByteArray) (w : World) : Calls Tryz.prog 89 #[.string s] w fun e w' => StO s w e w' := by
  -- the blocks
  obtain ⟨B2, hB2⟩ : ∃ B, w.heap.size = B := ⟨_, rfl⟩
  obtain ⟨W1, hW1⟩ : ∃ W, w.alloc (.cells (stC u0 none).toArray 68) = W := ⟨_, rfl⟩
  have k1 : Kept (fun _ => False) w W1 := hW1 ▸ (Kept.refl _ w).alloc _
  have z1 : W1.heap.size = B2 + 1 := by rw [← hW1, ← hB2]; simp
  obtain ⟨m, hmB⟩ : ∃ m, W1.heap.size = m := ⟨_, rfl⟩
  obtain ⟨W2, hW2⟩ : ∃ W, W1.alloc (.map #[] 0) = W := ⟨_, rfl⟩
  have k2 : Kept (fun _ => False) W1 W2 := hW2 ▸ (Kept.refl _ W1).alloc _
  obtain ⟨B4, hB4⟩ : ∃ B, W2.heap.size = B := ⟨_, rfl⟩
  have z2 : B4 = m + 1 := by rw [← hB4, ← hW2, ← hmB]; simp
  obtain ⟨W3, hW3⟩ : ∃ W, W2.alloc (.cells (stC u0 none).toArray 68) = W := ⟨_, rfl⟩
  have k3 : Kept (fun _ => False) W2 W3 := hW3 ▸ (Kept.refl _ W2).alloc _
  have hs3 : StAt W3 B4 u0 none := by have := StAt.new W2 u0 none u0_len; rw [hW3, hB4] at this; exact this
  have q3 := hs3.store u0 (some m) u0_len
  obtain ⟨CM, hCM⟩ : ∃ C : Array Value, (stC u0 (some m)).toArray = C := ⟨_, rfl⟩
  obtain ⟨W4, hW4⟩ : ∃ W, W3.setCells B4 0 (stC u0 (some m)) = W := ⟨_, rfl⟩
  rw [hCM, hW4] at q3
  have k4 : Kept (fun i => i = B4) W3 W4 := hW4 ▸ Kept.setCells (F := fun i => i = B4) (.inl rfl) _ _ _ (Kept.refl _ W3)
  have HA1 : Hid ((Instr.alloc 68 true (.tuple #[])).run Tryz.prog w = .ok (.pointer (some ⟨B2, 0, none⟩)) W1) := by have := alloc68 w; rw [hW1, hB2] at this; exact this
  have HA2 : Hid ((Instr.alloc 68 true (.tuple #[])).run Tryz.prog W2 = .ok (.pointer (some ⟨B4, 0, none⟩)) W3) := by have := alloc68 W2; rw [hW3, hB4] at this; exact this
  have HBU : Hid ((Instr.build 68 #[(1, .map (some m))]).run Tryz.prog W2 = .ok (.agg CM) W2) := by rw [← hCM]; exact build68_m W2 (some m)
  have hmm : (Instr.makeMap 66 none).run Tryz.prog W1 = .ok (.map (some m)) W2 := by
    have := run_makeMap (P := Tryz.prog) 66 W1
    rw [hmB, hW2] at this
    exact this
  have HST : Hid ((Instr.storeAt 68 (.pointer (some ⟨B4, 0, none⟩)) (.agg CM)).run Tryz.prog W3 = .ok () W4) := q3.1
  have n4 : NmAt W4 m [] := by
    have := NmAt.new W1
    rw [hW2, hmB] at this
    exact (this.kept k3 (fun z => z)).kept k4 (by omega)
  have x4 : StX W4 B2 := by
    have := StAt.new w u0 none u0_len
    rw [hW1, hB2] at this
    have xx : StX W1 B2 := ⟨_, _, this⟩
    exact ((StX.kept xx k2 (fun z => z)).kept k3 (fun z => z)).kept k4 (by omega)
  have k04 : Kept (fun _ => False) w W4 := ((k1.trans k2 (fun _ z => z.elim)).trans k3 (fun _ z => z.elim)).trans k4 (fun i e => .inr (by omega))
  have HQ4 : Hid (StAt W4 B4 u0 (some m) ∧ NmAt W4 m [] ∧ StX W4 B2 ∧ Kept (fun _ => False) w W4 ∧ w.heap.size = B2 ∧ m = B2 + 1 ∧ B4 = B2 + 2) := ⟨q3.2, n4, x4, k04, hB2, by omega, by omega⟩
  clear hB2 hW1 k1 z1 hmB hW2 k2 hB4 z2 hW3 k3 hs3 q3 hCM hW4 k4 n4 x4 k04
  go_enter Tryz.func89, Tryz.ntmps89
  go_wp2_with (first | ((with_reducible apply st_alloc); (case ho => rfl); (case hgd => rfl); (case hr => first | exact HA1.out | exact HA2.out)) | ((with_reducible apply st_build); (case ho => rfl); (case hgd => rfl); (case hr => exact HBU.out)) | ((with_reducible apply st_store); (case ho => rfl); (case hgd => rfl); (case hr => exact HST.out)))
  have HRG : Hid (Calls Tryz.prog 122 #[.string s] W4 fun e w' => (e = .returned (.tuple #[.pointer none, .int .i64 120]) ∧ Hid (¬ Good s ∧ Kept (fun _ => False) W4 w')) ∨ (∃ q, e = .returned (.tuple #[.pointer (some ⟨q, 0, none⟩), .int .i64 0]) ∧ Hid (∃ kd cs, okC cs ∧ pwC cs ∧ s.data.toList = bytesB (lay kd cs) ∧ Pg w' q (lay kd cs) ∧ Kept (fun _ => False) W4 w' ∧ W4.heap.size ≤ q))) := (read_gen s W4).mono (fun e w' h => by
    rcases h with ⟨h1, h2, h3⟩ | ⟨kd, cs, q, h1, h2, h3, h4, h5, h6, h7, h8⟩
    · exact .inl ⟨h2, h1, h3⟩
    · exact .inr ⟨q, h5, kd, cs, h2, (ris_pw _).1 h3, h4, h6, h7, h8⟩)
  have HED : Hid (∀ V u, StAt V B4 u (some m) → StX V B2 → ∃ C V', (Instr.loadAt 68 (.pointer (some ⟨B4, 0, none⟩))).run Tryz.prog V = .ok (.agg C) V ∧ (Instr.storeAt 68 (.pointer (some ⟨B2, 0, none⟩)) (.agg C)).run Tryz.prog V = .ok () V' ∧ (loadVar 68 ⟨B2, 0, none⟩).run Tryz.prog V' = .ok (.agg (stC u (some m)).toArray) V' ∧ Kept (fun i => i = B2) V V') := fun V u h1 h2 => by
    have q := h2.store u (some m) h1.2
    exact ⟨_, _, h1.load, q.1, q.2.loadV, Kept.setCells (F := fun i => i = B2) (.inl rfl) _ _ _ (Kept.refl _ V)⟩
  refine Calls.mono HRG.out ?_; rintro e w5 hor
  clear HRG HA1 HA2 HBU HST hmm
  rcases hor with ⟨rfl, HN⟩ | ⟨q, rfl, HG⟩
  · obtain ⟨C5, V5, l5, s5, e5, k5⟩ := HED.out w5 u0 (HQ4.out.1.kept HN.out.2 (fun z => z)) (HQ4.out.2.2.1.kept HN.out.2 (fun z => z))
    have HL5 : Hid _ := l5
    have HS5 : Hid _ := s5
    have HE5 : Hid _ := e5
    have HF5 : Hid (NmAt V5 m [] ∧ Kept (fun _ => False) w V5) := by
      obtain ⟨h1, h2, h3, h4, h5, h6, h7⟩ := HQ4.out
      exact ⟨(h2.kept HN.out.2 (fun z => z)).kept k5 (by omega), (h4.trans HN.out.2 (fun _ z => z.elim)).trans k5 (fun i e => .inr (by omega))⟩
    clear l5 s5 e5 k5
    go_wp2_with (first | ((with_reducible apply st_load); (case ho => rfl); (case hgd => rfl); (case hr => exact HL5.out)) | ((with_reducible apply st_store); (case ho => rfl); (case hgd => rfl); (case hr => exact HS5.out)))
    refine bodyPost_ret (end_cell_tmp rfl rfl HE5.out) rfl ?_
    have hq := HQ4.out
    exact ⟨u0, m, [], false, rfl, u0_len, HF5.out.1, (fun x hx => by cases hx), Nat.zero_le _, by omega, HF5.out.2, (fun z => by cases z), fun _ u' ns' z => HN.out.1 (mapS_good z)⟩
  · obtain ⟨kd, cs, g1, g2, g3, g4, g5, g6⟩ := HG.out
    have HC : Hid (okC cs ∧ pwC cs ∧ s.data.toList = bytesB (lay kd cs) ∧ W4.heap.size ≤ q) := ⟨g1, g2, g3, g6⟩
    have hcl : cs.length ≤ 124 := by have := g1.2; omega
    have HLN : Hid (Calls Tryz.prog 123 #[.pointer (some ⟨q, 0, none⟩)] w5 fun e w' => e = .returned (.int .i64 (cs.length : Int)) ∧ ∃ m, w' = w5.drewN m) := by
      have := len_is g4
      rw [lay_count kd cs g1] at this
      exact this
    have HI5 : Hid (SI w B2 B4 m q kd cs 0 w5) := by
      obtain ⟨h1, h2, h3, h4, h5, h6, h7⟩ := HQ4.out
      exact ⟨h1.kept g5 (fun z => z), h2.kept g5 (fun z => z), g4, h3.kept g5 (fun z => z), h4.trans g5 (fun _ z => z.elim)⟩
    have HBL : Hid (B4 < q ∧ w.heap.size = B2 ∧ m = B2 + 1 ∧ B4 = B2 + 2) := by
      obtain ⟨h1, h2, h3, h4, h5, h6, h7⟩ := HQ4.out
      have := h1.1.lt
      exact ⟨by omega, h5, h6, h7⟩
    clear g1 g2 g3 g4 g5 g6 HG HQ4
    go_wp2_with fail
    refine Calls.mono HLN.out ?_; rintro e w6 ⟨rfl, n6, hn6⟩
    have HI6 : Hid (SI w B2 B4 m q kd cs 0 w6) := by
      rw [hn6]
      exact HI5.out.kept ((Kept.refl _ w5).drewN n6)
    clear hn6 HI5 HLN
    go_wp2_with fail
    go_loopw [22] (fun v22 wr => ∃ k : Nat, k ≤ cs.length ∧ v22 = .int .i64 (k : Int) ∧ Hid (SI w B2 B4 m q kd cs k wr)) (fun v22 _ => cs.length - (intOf v22).toNat)
    case atStart => exact ⟨0, Nat.zero_le _, rfl, HI6.out⟩
    case round =>
      obtain ⟨k, hkl, rfl, HIK⟩ := hrel
      by_cases hk : k < cs.length
      · have c0 : (k : Int) < (cs.length : Int) := by omega
        obtain ⟨sk, hsk⟩ : ∃ z : ByteArray, (⟨cs[k].1.toArray⟩ : ByteArray) = z := ⟨_, rfl⟩
        obtain ⟨sv, hsv⟩ : ∃ z : ByteArray, (⟨cs[k].2.toArray⟩ : ByteArray) = z := ⟨_, rfl⟩
        have hskl : sk.data.toList = cs[k].1 := by rw [← hsk]
        have hsvl : sv.data.toList = cs[k].2 := by rw [← hsv]
        have hsks : sk.size = cs[k].1.length := by rw [← hsk]; show cs[k].1.toArray.size = _; rw [List.size_toArray]
        have hsvs : sv.size = cs[k].2.length := by rw [← hsv]; show cs[k].2.toArray.size = _; rw [List.size_toArray]
        have HAT : Hid (Calls Tryz.prog 124 #[.pointer (some ⟨q, 0, none⟩), .int .i64 (k : Int)] wr fun e w' => e = .returned (.tuple #[.string sk, .string sv]) ∧ Hid (SI w B2 B4 m q kd cs k w')) := by
          have := atL HIK.out.pg HC.out.1 k hk
          rw [hsk, hsv] at this
          refine this.mono ?_
          rintro e w' ⟨q1, n, rfl⟩
          exact ⟨q1, HIK.out.kept ((Kept.refl _ wr).drewN n)⟩
        have HST : Hid (decN (cs.take (k + 1)) = stepN (decN (cs.take k)) cs[k]) := dec_take hk
        have hmay := HC.out.1.1 cs[k] (List.getElem_mem hk)
        unfold csz at hmay
        have hks8 : sk.size ≤ 100 := by omega
        have hvs8 : sv.size ≤ 100 := by omega
        by_cases hu : cs[k].1 = usedK
        · have hlit : sk = ⟨#[112, 97, 103, 101, 115, 32, 105, 110, 32, 117, 115, 101]⟩ := by rw [← hsk, hu]; rfl
          subst hlit
          have hsl : ∀ V : World, (Instr.sliceAt 65 (.pointer (some ⟨B4, 0, none⟩)) none none none).run Tryz.prog V = .ok (.slice (some ⟨B4, 0, none⟩) 63 63) V := fun V => slice65 V B4 0
          have HV2 : Hid (sv.data.toList = cs[k].2 ∧ cs[k].1 = usedK) := ⟨hsvl, hu⟩
          clear hu hsk hsv hskl hsvl hsks hsvs hmay HIK hks8 hvs8 hkl
          go_wp2_with fail
          refine Calls.mono HAT.out ?_; rintro e w7 ⟨rfl, HI7⟩
          clear HAT
          obtain ⟨n8, hn8, c8, t8⟩ := copy_used HI7.out.st 3 sv
          obtain ⟨V8, hV8⟩ : ∃ V, w7.setCells B4 0 (bv (sv.data.toList.take 63)) = V := ⟨_, rfl⟩
          have HC8 : Hid ((Builtin.copy_ #[98, 9] 3 #[.slice (some ⟨B4, 0, none⟩) 63 63, .string sv]).run Tryz.prog w7 = .ok (.int .i64 (n8 : Int)) V8) := by rw [← hV8]; exact c8
          have HI8 : Hid (SI w B2 B4 m q kd cs (k + 1) V8) := by
            have kk : Kept (fun i => i = B4) w7 V8 := hV8 ▸ Kept.setCells (F := fun i => i = B4) (.inl rfl) _ _ _ (Kept.refl _ w7)
            obtain ⟨b1, b2, b3, b4⟩ := HBL.out
            rw [hV8, HV2.out.1] at t8
            have e : decN (cs.take (k + 1)) = (copyU (decN (cs.take k)).1 cs[k].2, (decN (cs.take k)).2) := by rw [HST.out]; unfold stepN; rw [if_pos HV2.out.2]
            exact ⟨by rw [e]; exact t8, by rw [e]; exact HI7.out.nm.kept kk (by omega), HI7.out.pg.kept kk (by omega), HI7.out.rx.kept kk (by omega), HI7.out.kp.trans kk (fun i e => .inr (by omega))⟩
          clear c8 t8 hV8 HST HV2 HI7
          go_wp2_with (first | ((with_reducible apply st_copy); (case ho => rfl); (case hgd => rfl); (case hr => exact HC8.out)) | fail)
          go_roundw
          case rel => exact ⟨k + 1, hk, by rw [Int.natCast_add]; rfl, HI8.out⟩
          case measure => simp only [intOf]; omega
        · have hn1 : (sk.toList == [112, 97, 103, 101, 115, 32, 105, 110, 32, 117, 115, 101]) = false := by
            rw [beq_eq_false_iff_ne, ByteArray.toList_eq, hskl]
            exact hu
          have HU : Hid (¬ cs[k].1 = usedK) := hu
          by_cases h2 : okC2 cs[k] = true
          · obtain ⟨h3, h4⟩ := okC2_is.1 h2
            have HMN : Hid (∀ V, Calls Tryz.prog 53 #[.string sk] V fun e w' => e = .returned (.bool true) ∧ w' = V) := fun V => by
              have := mayName_is sk (by omega) V
              rw [decide_eq_true (by omega)] at this
              exact this
            obtain ⟨y0, y1, hy⟩ : ∃ y0 y1, cs[k].2 = [y0, y1] := by
              match q : cs[k].2, h4 with
              | [a, b], _ => exact ⟨a, b, rfl⟩
            have hlit : sv = ⟨#[y0, y1]⟩ := by rw [← hsv, hy]
            subst hlit
            have hor := or_bytes y0 y1
            have hy0 := y0.toNat_lt
            have hy1 := y1.toNat_lt
            obtain ⟨a0, ha0⟩ : ∃ a, y0.toNat = a := ⟨_, rfl⟩
            obtain ⟨a1, ha1⟩ : ∃ a, y1.toNat = a := ⟨_, rfl⟩
            have hnum : numB cs[k].2 = a0 + a1 * 256 := by rw [hy, ← ha0, ← ha1]; rfl
            rw [ha0, ha1] at hor
            rw [ha0] at hy0
            rw [ha1] at hy1
            have hwk : IntKind.i64.wrap ((a1 : Int) * 256) = (a1 : Int) * 256 := wrapk _ (by omega)
            have HA0 : Hid ((((⟨#[y0, y1]⟩ : ByteArray)[0]'(show 0 < 2 by omega)).toNat : Int) = (a0 : Int)) := by show _ = _; rw [← ha0]; rfl
            have HA1 : Hid ((((⟨#[y0, y1]⟩ : ByteArray)[1]'(show 1 < 2 by omega)).toNat : Int) = (a1 : Int)) := by show _ = _; rw [← ha1]; rfl
            have HW0 : Hid (IntKind.i64.wrap (a0 : Int) = (a0 : Int)) := wrapk _ (by omega)
            have HW1 : Hid (IntKind.i64.wrap (a1 : Int) = (a1 : Int)) := wrapk _ (by omega)
            have HE : Hid (decN (cs.take (k + 1)) = ((decN (cs.take k)).1, putN (decN (cs.take k)).2 sk.data.toList (a0 + a1 * 256))) := by
              show _ = _
              rw [HST.out]
              unfold stepN
              rw [if_neg hu, if_pos h2, hskl, hnum]
            have hcnt : (decN (cs.take k)).2.length ≤ 1000 := by
              have := dec_count (cs.take k)
              rw [List.length_take] at this
              omega
            have HCN : Hid ((decN (cs.take k)).2.length ≤ 1000 ∧ sk.size ≤ 100 ∧ a0 + a1 * 256 ≤ 1000000) := ⟨hcnt, hks8, by omega⟩
            clear hu hsk hsv hskl hsvl hsks hsvs hmay HIK hks8 hvs8 hkl h2 h3 h4 hy HST hnum hcnt
            go_wp2_with fail
            refine Calls.mono HAT.out ?_; rintro e w7 ⟨rfl, HI7⟩
            clear HAT
            go_wp2_with fail
            refine Calls.mono (HMN.out _) ?_; rintro e w8 ⟨rfl, rfl⟩
            have HI8 : Hid (SI w B2 B4 m q kd cs k w8.drew) := HI7.out.kept ((Kept.refl _ w8).drew)
            obtain ⟨V9, r9, t9, k9, z9⟩ := NmAt.put HI8.out.nm HCN.out.1 sk (by have := HCN.out.2.1; omega) (a0 + a1 * 256) HCN.out.2.2
            have HR9 : Hid _ := r9
            have HI9 : Hid (SI w B2 B4 m q kd cs (k + 1) V9) := by
              obtain ⟨b1, b2, b3, b4⟩ := HBL.out
              exact ⟨by rw [HE.out]; exact HI8.out.st.kept k9 (by omega), by rw [HE.out]; exact t9, HI8.out.pg.kept k9 (by omega), HI8.out.rx.kept k9 (by omega), HI8.out.kp.trans k9 (fun i e => .inr (by omega))⟩
            have hc63 : w8.drew.cell? ⟨B4, 63, none⟩ = some (.map (some m)) := HI8.out.st.m
            clear r9 t9 k9 z9
            go_wp2_with fail
            refine wp_region_held_drew (S := (fun (V : World) => V.cell? ⟨B4, 63, none⟩ = some (.map (some m)))) (by kernel_rfl) (hc63) (fun hS0 => ?_)
            refine wpAnyH_take (i := 0) (oi := { dst := some 44, op := Op.fieldAddr 68 (Operand.tmp 4) 1, type := 0, pos := "state.go:99", after := #[], guard := none }) (v := (.pointer (some ⟨B4, 63, none⟩))) rfl (by kernel_rfl) (by kernel_rfl) (by kernel_rfl) (fun _ _ _ h => h) (Or.inl ⟨by rfl, ?_⟩) hS0 ?_
            · intro wx hSw
              (try dsimp only at hSw)
              first | (go_simp; done) | (go_simp; with_reducible rfl)
            (try simp only [Act.put]); (try simp only [List.setIfInBounds_toArray]); (try simp only [List.set_cons_succ]); (try simp only [List.set_cons_zero])
            refine wpAnyH_take (i := 1) (oi := { dst := some 45, op := Op.load 66 (Operand.tmp 44), type := 66, pos := "state.go:99", after := #[{ on := 0, ground := Ground.data }], guard := none }) (v := (.map (some m))) rfl (by kernel_rfl) (by kernel_rfl) (by kernel_rfl) (fun _ _ _ h => h) (Or.inl ⟨by rfl, ?_⟩) hS0 ?_
            · intro wx hSw
              (try dsimp only at hSw)
              first | (go_simp; done) | (go_simp; with_reducible rfl)
            (try simp only [Act.put]); (try simp only [List.setIfInBounds_toArray]); (try simp only [List.set_cons_succ]); (try simp only [List.set_cons_zero])
            refine wpAnyH_take (i := 2) (oi := { dst := some 46, op := Op.move (Operand.tmp 8), type := 9, pos := "state.go:99", after := #[], guard := none }) (v := (.string sk)) rfl (by kernel_rfl) (by kernel_rfl) (by kernel_rfl) (fun _ _ _ h => h) (Or.inl ⟨by rfl, ?_⟩) hS0 ?_
            · intro wx hSw
              (try dsimp only at hSw)
              first | (go_simp; done) | (go_simp; with_reducible rfl)
            (try simp only [Act.put]); (try simp only [List.setIfInBounds_toArray]); (try simp only [List.set_cons_succ]); (try simp only [List.set_cons_zero])
            refine wpAnyH_take (i := 3) (oi := { dst := some 47, op := Op.move (Operand.tmp 9), type := 9, pos := "state.go:99", after := #[], guard := none }) (v := (.string ⟨#[y0, y1]⟩)) rfl (by kernel_rfl) (by kernel_rfl) (by kernel_rfl) (fun _ _ _ h => h) (Or.inl ⟨by rfl, ?_⟩) hS0 ?_
            · intro wx hSw
              (try dsimp only at hSw)
              first | (go_simp; done) | (go_simp; with_reducible rfl)
            (try simp only [Act.put]); (try simp only [List.setIfInBounds_toArray]); (try simp only [List.set_cons_succ]); (try simp only [List.set_cons_zero])
            refine wpAnyH_take (i := 4) (oi := { dst := some 48, op := Op.index 9 (Operand.tmp 47) (Operand.const (Value.int IntKind.i64 0)), type := 5, pos := "state.go:99", after := #[{ on := 3, ground := Ground.data }], guard := none }) (v := (.int .u8 (a0 : Int))) rfl (by kernel_rfl) (by kernel_rfl) (by kernel_rfl) (fun _ _ _ h => h) (Or.inl ⟨by rfl, ?_⟩) hS0 ?_
            · intro wx hSw
              (try dsimp only at hSw)
              first | (go_simp; done) | (go_simp; with_reducible rfl) | (go_simp; exact HA0.out)
            (try simp only [Act.put]); (try simp only [List.setIfInBounds_toArray]); (try simp only [List.set_cons_succ]); (try simp only [List.set_cons_zero])
            refine wpAnyH_take (i := 5) (oi := { dst := some 49, op := Op.convert 5 3 (Operand.tmp 48), type := 3, pos := "state.go:99", after := #[{ on := 4, ground := Ground.data }], guard := none }) (v := (.int .i64 (a0 : Int))) rfl (by kernel_rfl) (by kernel_rfl) (by kernel_rfl) (fun _ _ _ h => h) (Or.inl ⟨by rfl, ?_⟩) hS0 ?_
            · intro wx hSw
              (try dsimp only at hSw)
              first | (go_simp; done) | (go_simp; with_reducible rfl) | (go_simp; exact HW0.out)
            (try simp only [Act.put]); (try simp only [List.setIfInBounds_toArray]); (try simp only [List.set_cons_succ]); (try simp only [List.set_cons_zero])
            refine wpAnyH_take (i := 6) (oi := { dst := some 50, op := Op.move (Operand.tmp 9), type := 9, pos := "state.go:99", after := #[], guard := none }) (v := (.string ⟨#[y0, y1]⟩)) rfl (by kernel_rfl) (by kernel_rfl) (by kernel_rfl) (fun _ _ _ h => h) (Or.inl ⟨by rfl, ?_⟩) hS0 ?_
            · intro wx hSw
              (try dsimp only at hSw)
              first | (go_simp; done) | (go_simp; with_reducible rfl)
            (try simp only [Act.put]); (try simp only [List.setIfInBounds_toArray]); (try simp only [List.set_cons_succ]); (try simp only [List.set_cons_zero])
            refine wpAnyH_take (i := 7) (oi := { dst := some 51, op := Op.index 9 (Operand.tmp 50) (Operand.const (Value.int IntKind.i64 1)), type := 5, pos := "state.go:99", after := #[{ on := 6, ground := Ground.data }], guard := none }) (v := (.int .u8 (a1 : Int))) rfl (by kernel_rfl) (by kernel_rfl) (by kernel_rfl) (fun _ _ _ h => h) (Or.inl ⟨by rfl, ?_⟩) hS0 ?_
            · intro wx hSw
              (try dsimp only at hSw)
              first | (go_simp; done) | (go_simp; with_reducible rfl) | (go_simp; exact HA1.out)
            (try simp only [Act.put]); (try simp only [List.setIfInBounds_toArray]); (try simp only [List.set_cons_succ]); (try simp only [List.set_cons_zero])
            refine wpAnyH_take (i := 8) (oi := { dst := some 52, op := Op.convert 5 3 (Operand.tmp 51), type := 3, pos := "state.go:99", after := #[{ on := 7, ground := Ground.data }], guard := none }) (v := (.int .i64 (a1 : Int))) rfl (by kernel_rfl) (by kernel_rfl) (by kernel_rfl) (fun _ _ _ h => h) (Or.inl ⟨by rfl, ?_⟩) hS0 ?_
            · intro wx hSw
              (try dsimp only at hSw)
              first | (go_simp; done) | (go_simp; with_reducible rfl) | (go_simp; exact HW1.out)
            (try simp only [Act.put]); (try simp only [List.setIfInBounds_toArray]); (try simp only [List.set_cons_succ]); (try simp only [List.set_cons_zero])
            refine wpAnyH_take (i := 9) (oi := { dst := some 53, op := Op.binOp BinOp.shl 3 (Operand.tmp 52) (Operand.const (Value.int IntKind.u64 8)) 57, type := 3, pos := "state.go:99", after := #[{ on := 8, ground := Ground.data }], guard := none }) (v := (.int .i64 ((a1 : Int) * 256))) rfl (by kernel_rfl) (by kernel_rfl) (by kernel_rfl) (fun _ _ _ h => h) (Or.inl ⟨by rfl, ?_⟩) hS0 ?_
            · intro wx hSw
              (try dsimp only at hSw)
              first | (go_simp; done) | (go_simp; with_reducible rfl)
            (try simp only [Act.put]); (try simp only [List.setIfInBounds_toArray]); (try simp only [List.set_cons_succ]); (try simp only [List.set_cons_zero])
            refine wpAnyH_take (i := 10) (oi := { dst := some 54, op := Op.binOp BinOp.or 3 (Operand.tmp 49) (Operand.tmp 53) 3, type := 3, pos := "state.go:99", after := #[{ on := 5, ground := Ground.data }, { on := 9, ground := Ground.data }], guard := none }) (v := (.int .i64 ((a0 + a1 * 256 : Nat) : Int))) rfl (by kernel_rfl) (by kernel_rfl) (by kernel_rfl) (fun _ _ _ h => h) (Or.inl ⟨by rfl, ?_⟩) hS0 ?_
            · intro wx hSw
              (try dsimp only at hSw)
              first | (go_simp; done) | (go_simp; with_reducible rfl)
            (try simp only [Act.put]); (try simp only [List.setIfInBounds_toArray]); (try simp only [List.set_cons_succ]); (try simp only [List.set_cons_zero])
            refine wpAnyH_ready (rs := [11]) (by kernel_rfl) (by simp) ?_
            refine AllReadyH.cons rfl (fun K hK => ?_) AllReadyH.nil
            refine dr_mapUpdate rfl rfl HR9.out ?_
            refine hK.out _ _ (HI9.out.st.m) (fun hS1 => ?_)
            clear hK K
            (try simp only [Act.put]); (try simp only [List.setIfInBounds_toArray]); (try simp only [List.set_cons_succ]); (try simp only [List.set_cons_zero])
            refine wpAnyH_done (by kernel_rfl) ?_ _
            try simp only [Exit.then]
            go_wp2_with fail
            go_roundw
            case rel => exact ⟨k + 1, hk, by rw [Int.natCast_add]; rfl, HI9.out⟩
            case measure => simp only [intOf]; omega
          · by_cases h3 : 1 ≤ sk.size ∧ sk.size ≤ 8
            · have h4 : ¬ sv.size = 2 := fun e => h2 (okC2_is.2 ⟨by omega, by omega⟩)
              have c2 : ¬ (sv.size : Int) = 2 := by omega
              have HMN : Hid (∀ V, Calls Tryz.prog 53 #[.string sk] V fun e w' => e = .returned (.bool true) ∧ w' = V) := fun V => by
                have := mayName_is sk (by omega) V
                rw [decide_eq_true h3] at this
                exact this
              have HE : Hid (decN (cs.take (k + 1)) = decN (cs.take k)) := by
                show _ = _
                rw [HST.out]
                unfold stepN
                rw [if_neg hu, if_neg h2]
              clear hu hsk hsv hskl hsvl hsks hsvs hmay HIK hks8 hvs8 hkl h2 h3 h4 HST
              go_wp2_with fail
              refine Calls.mono HAT.out ?_; rintro e w7 ⟨rfl, HI7⟩
              clear HAT
              go_wp2_with fail
              refine Calls.mono (HMN.out _) ?_; rintro e w8 ⟨rfl, rfl⟩
              have HI8 : Hid (SI w B2 B4 m q kd cs (k + 1) w8) := ⟨by rw [HE.out]; exact HI7.out.st, by rw [HE.out]; exact HI7.out.nm, HI7.out.pg, HI7.out.rx, HI7.out.kp⟩
              clear HI7
              go_wp2_with fail
              go_roundw
              case rel => exact ⟨k + 1, hk, by rw [Int.natCast_add]; rfl, HI8.out⟩
              case measure => simp only [intOf]; omega
            · have HMN : Hid (∀ V, Calls Tryz.prog 53 #[.string sk] V fun e w' => e = .returned (.bool false) ∧ w' = V) := fun V => by
                have := mayName_is sk (by omega) V
                rw [decide_eq_false h3] at this
                exact this
              have HE : Hid (decN (cs.take (k + 1)) = decN (cs.take k)) := by
                show _ = _
                rw [HST.out]
                unfold stepN
                rw [if_neg hu, if_neg h2]
              clear hu hsk hsv hskl hsvl hsks hsvs hmay HIK hks8 hvs8 hkl h2 h3 HST
              go_wp2_with fail
              refine Calls.mono HAT.out ?_; rintro e w7 ⟨rfl, HI7⟩
              clear HAT
              go_wp2_with fail
              refine Calls.mono (HMN.out _) ?_; rintro e w8 ⟨rfl, rfl⟩
              have HI8 : Hid (SI w B2 B4 m q kd cs (k + 1) w8) := ⟨by rw [HE.out]; exact HI7.out.st, by rw [HE.out]; exact HI7.out.nm, HI7.out.pg, HI7.out.rx, HI7.out.kp⟩
              clear HI7
              go_wp2_with fail
              go_roundw
              case rel => exact ⟨k + 1, hk, by rw [Int.natCast_add]; rfl, HI8.out⟩
              case measure => simp only [intOf]; omega
      · obtain rfl : k = cs.length := by omega
        obtain ⟨CU, hCU⟩ : ∃ C, stC (decN cs).1 (some m) = C := ⟨_, rfl⟩
        have hl63 := dec_len63 cs
        have htk : cs.take cs.length = cs := List.take_of_length_le (Nat.le_refl _)
        have hi68 : (Tryz.prog.info? 68).map (·.size) = some CU.length := by rw [size68, ← hCU, stC_len _ _ hl63]
        obtain ⟨d68, hu68, hd68⟩ : ∃ d, Tryz.prog.underlying 68 = some d ∧ d.isRow = true := by
          have e : (Tryz.prog.underlying 68).map TypeDesc.isRow = some true := by kernel_rfl
          cases q6 : Tryz.prog.underlying 68 with
          | none => rw [q6] at e; cases e
          | some d => rw [q6] at e; exact ⟨d, rfl, by injection e⟩
        have HSS : Hid (∀ V, SI w B2 B4 m q kd cs cs.length V → (V.rangeAt B4 0 CU ∧ V.there B2 0 64 ∧ Hid (SI w B2 B4 m q kd cs cs.length V))) := fun V hV => ⟨by
          have h1 := hV.st.1
          rw [htk] at h1
          rw [← hCU]
          intro j v hv
          rw [Nat.zero_add]
          exact h1.cell hv, hV.rx.there, hV⟩
        have HBY : Hid (∀ V, (V.rangeAt B4 0 CU ∧ V.there B2 0 64 ∧ Hid (SI w B2 B4 m q kd cs cs.length V)) → Calls Tryz.prog 58 #[.pointer (some ⟨B4, 0, none⟩)] V fun e w' => ∃ sb, e = .returned (.string sb) ∧ Hid (∃ cs2, BytE (decN cs).1 (decN cs).2 cs2 ∧ sb.data.toList = bytesB (lay (UInt8.ofNat 3) cs2)) ∧ (w'.rangeAt B4 0 CU ∧ w'.there B2 0 64 ∧ Hid (SI w B2 B4 m q kd cs cs.length w'))) := fun V hV => by
          have hI := hV.2.2.out
          have h1 := hI.st
          have h2 := hI.nm
          rw [htk] at h1 h2
          have hm63 : V.cell? ⟨B4, 0 + 63, none⟩ = some (.map (some m)) := h1.m
          refine (sbytes_is h1.us hm63 h2 (dec_ok HC.out.2.1)).mono ?_
          rintro e w' ⟨cs2, q1, rfl, q3⟩
          exact ⟨_, rfl, ⟨cs2, q1, rfl⟩, HSS.out _ (hI.kept q3)⟩
        have HSR : Hid (∀ V, (V.rangeAt B4 0 CU ∧ V.there B2 0 64 ∧ Hid (SI w B2 B4 m q kd cs cs.length V)) → (Instr.storeAt 68 (.pointer (some ⟨B2, 0, none⟩)) (.agg CU.toArray)).run Tryz.prog V = .ok () (V.setCells B2 0 CU)) := fun V hV => by
          rw [← hCU]
          exact (hV.2.2.out.rx.store _ (some m) hl63).1
        have HSI : Hid (∀ V, SI w B2 B4 m q kd cs cs.length V → SI w B2 B4 m q kd cs cs.length (V.setCells B2 0 CU) ∧ (loadVar 68 ⟨B2, 0, none⟩).run Tryz.prog (V.setCells B2 0 CU) = .ok (.agg (stC (decN cs).1 (some m)).toArray) (V.setCells B2 0 CU)) := fun V hV => by
          have kk : Kept (fun i => i = B2) V (V.setCells B2 0 CU) := Kept.setCells (F := fun i => i = B2) (.inl rfl) _ _ _ (Kept.refl _ V)
          have q2 := (hV.rx.store _ (some m) hl63).2
          rw [hCU] at q2
          obtain ⟨b1, b2, b3, b4⟩ := HBL.out
          have q3 := q2.loadV
          exact ⟨⟨hV.st.kept kk (by omega), hV.nm.kept kk (by omega), hV.pg.kept kk (by omega), ⟨_, _, q2⟩, hV.kp.trans kk (fun i e => .inr (by omega))⟩, q3⟩
        have HSW : Hid (∀ V, (V.rangeAt B4 0 CU ∧ V.there B2 0 64 ∧ Hid (SI w B2 B4 m q kd cs cs.length V)) → ((V.setCells B2 0 CU).rangeAt B4 0 CU ∧ (V.setCells B2 0 CU).there B2 0 64 ∧ Hid (SI w B2 B4 m q kd cs cs.length (V.setCells B2 0 CU)))) := fun V hV => HSS.out _ (HSI.out V hV.2.2.out).1
        have HI9 : Hid (SI w B2 B4 m q kd cs cs.length wr) := HIK
        have HCU : Hid (stC (decN cs).1 (some m) = CU) := hCU
        clear hCU hl63 htk hkl hcl hk HIK
        go_wp2_with fail
        refine wp_region_held_drew (S := (fun (V : World) => (V.rangeAt B4 0 CU ∧ V.there B2 0 64 ∧ Hid (SI w B2 B4 m q kd cs cs.length V)))) (by kernel_rfl) (HSS.out _ (HI9.out.kept ((Kept.refl _ _).drew))) (fun hS0 => ?_)
        refine wpAnyH_take (i := 0) (oi := { dst := some 56, op := Op.load 68 (Operand.tmp 4), type := 68, pos := "state.go:103", after := #[], guard := none }) (v := _) rfl (by kernel_rfl) (by kernel_rfl) (by kernel_rfl) (fun _ _ _ h => h) (yieldsIf_load_mid (by rfl) 68 (Operand.tmp 4) rfl _ _ rfl _ _ (fun V hV => hV.1) hu68 hd68 hi68) hS0 ?_
        (try simp only [Act.put]); (try simp only [List.setIfInBounds_toArray]); (try simp only [List.set_cons_succ]); (try simp only [List.set_cons_zero])
        refine wpAnyH_take (i := 2) (oi := { dst := some 58, op := Op.move (Operand.tmp 0), type := 9, pos := "state.go:103", after := #[{ on := 4, ground := Ground.gcOnly Departure.lateStores }], guard := none }) (v := (.string s)) rfl (by kernel_rfl) (by kernel_rfl) (by kernel_rfl) (fun _ _ _ h => h) (Or.inl ⟨by rfl, ?_⟩) hS0 ?_
        · intro wx hSw
          (try dsimp only at hSw)
          first | (go_simp; done) | (go_simp; with_reducible rfl)
        (try simp only [Act.put]); (try simp only [List.setIfInBounds_toArray]); (try simp only [List.set_cons_succ]); (try simp only [List.set_cons_zero])
        refine wpAnyH_ready (rs := [1]) (by kernel_rfl) (by simp) ?_
        refine AllReadyH.cons rfl (fun K hK => ?_) AllReadyH.nil
        go_simp
        refine Calls.mono (HBY.out _ hS0) ?_
        rintro e w8 ⟨sb, rfl, HB8, hS8⟩
        refine hK.out _ _ (hS8) (fun hS1 => ?_)
        clear hK K
        (try simp only [Act.put]); (try simp only [List.setIfInBounds_toArray]); (try simp only [List.set_cons_succ]); (try simp only [List.set_cons_zero])
        refine wpAnyH_take (i := 3) (oi := { dst := some 59, op := Op.binOp BinOp.eql 9 (Operand.tmp 57) (Operand.tmp 58) 9, type := 4, pos := "state.go:103", after := #[{ on := 1, ground := Ground.data }, { on := 2, ground := Ground.data }, { on := 4, ground := Ground.gcOnly Departure.lateStores }], guard := none }) (v := (.bool (sb.toList == s.toList))) rfl (by kernel_rfl) (by kernel_rfl) (by kernel_rfl) (fun _ _ _ h => h) (Or.inl ⟨by rfl, ?_⟩) hS1 ?_
        · intro wx hSw
          (try dsimp only at hSw)
          first | (go_simp; done) | (go_simp; with_reducible rfl)
        (try simp only [Act.put]); (try simp only [List.setIfInBounds_toArray]); (try simp only [List.set_cons_succ]); (try simp only [List.set_cons_zero])
        refine wpAnyH_ready (rs := [4]) (by kernel_rfl) (by simp) ?_
        refine AllReadyH.cons rfl (fun K hK => ?_) AllReadyH.nil
        refine dr_store rfl rfl (HSR.out _ hS8) ?_
        refine hK.out _ _ (HSW.out _ hS8) (fun hS2 => ?_)
        clear hK K
        (try simp only [Act.put]); (try simp only [List.setIfInBounds_toArray]); (try simp only [List.set_cons_succ]); (try simp only [List.set_cons_zero])
        refine wpAnyH_take (i := 5) (oi := { dst := some 3, op := Op.assign (Operand.tmp 59), type := 4, pos := "state.go:103", after := #[{ on := 3, ground := Ground.data }, { on := 4, ground := Ground.chain }, { on := 0, ground := Ground.phase }, { on := 1, ground := Ground.phase }, { on := 2, ground := Ground.phase }, { on := 3, ground := Ground.phase }, { on := 4, ground := Ground.phase }], guard := none }) (v := (.bool (sb.toList == s.toList))) rfl (by kernel_rfl) (by kernel_rfl) (by kernel_rfl) (fun _ _ _ h => h) (Or.inl ⟨by rfl, ?_⟩) hS2 ?_
        · intro wx hSw
          (try dsimp only at hSw)
          first | (go_simp; done) | (go_simp; with_reducible rfl)
        (try simp only [Act.put]); (try simp only [List.setIfInBounds_toArray]); (try simp only [List.set_cons_succ]); (try simp only [List.set_cons_zero])
        refine wpAnyH_done (by kernel_rfl) ?_ _
        try simp only [Exit.then]
        have HV9 := HSI.out w8 hS8.2.2.out
        obtain ⟨V9, hV9⟩ : ∃ V, w8.setCells B2 0 CU = V := ⟨_, rfl⟩
        rw [hV9] at HV9 ⊢
        go_wp2_with fail
        refine bodyPost_ret (end_cell_tmp rfl rfl HV9.2) rfl ?_
        have hI := HV9.1
        have hnm := hI.nm
        have htk2 : cs.take cs.length = cs := List.take_of_length_le (Nat.le_refl _)
        rw [htk2] at hnm
        obtain ⟨cs2, b1, b2⟩ := HB8.out
        have hcc := dec_count cs
        have hll := HC.out.1.2
        obtain ⟨c1, c2, c3, c4⟩ := HBL.out
        refine ⟨(decN cs).1, m, (decN cs).2, (sb.toList == s.toList), rfl, dec_len63 cs, hnm, dec_ok HC.out.2.1, by omega, by omega, hI.kp, fun z => ?_, fun z => ?_⟩
        · have e1 := eq_of_beq z
          rw [ByteArray.toList_eq, ByteArray.toList_eq, b2] at e1
          exact map_yes HC.out.1 HC.out.2.1 HC.out.2.2.1 hnm.ris b1 e1
        · have e1 : bytesB (lay (UInt8.ofNat 3) cs2) ≠ s.data.toList := fun e => by
            rw [beq_eq_false_iff_ne, ByteArray.toList_eq, ByteArray.toList_eq, b2] at z
            exact z e
          exact map_no HC.out.1 HC.out.2.2.1 hnm.ris b1 e1
end Go.Proofs.YtkhpmmmildcceaaGreat
